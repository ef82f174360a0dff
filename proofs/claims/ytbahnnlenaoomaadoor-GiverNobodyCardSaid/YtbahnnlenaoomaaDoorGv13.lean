/-
  Layer 16 (giver): OfWords at lists of any length; GiverNobody.
  Conditions: those that each theorem states.
-/
import Derived.Test.YtbahnnlenaoomaaDoorGv12
import Derived.Test.YtbahnnlenaoomaaDoorPrg3
import Derived.Test.YtbahnnlenaoomaaDoorArgs
namespace Go.Proofs.YtbahnnlenaoomaaDoor
open Go.ChangeShapes Go.WideShapes Go.ChangeAt Go.RowKit

set_option maxRecDepth 100000 in
set_option maxHeartbeats 1000000 in
theorem reduced16_any (P : Nat → Prop) (l : List Int) (v : Value) (w : World) (hv : Lies w P v (ints l)) (hl : l.length ≤ 17592186043904) :
    Calls Tryd.prog 51 #[v] w (NewRow14 (mod14 l) w) := by
  obtain ⟨A, n, c, rfl, HN, HV⟩ := lies_open hv
  have hn : n ≤ 17592186043904 := by rw [← HN.out]; exact hl
  clear hv hl
  have hmk := fun W => run_make_row' (P := Tryd.prog) 33 3 (.int .i64 0) 8 Tryd.underlying33 int_info rfl .i64 .i64 n (by omega) (by omega) W
  have hr := Row.new w 3 (madeCells #[Value.int .i64 0] n)
  rw [ints_zeros] at hr
  have H0 : Hid (Row (w.alloc (.cells (madeCells #[Value.int .i64 0] n) 3)) w.heap.size 3 (ints (red14 l 0))) := Lib.hid (by rw [red14_zero, HN.out]; exact hr)
  have B0 := Lib.hid (below_al w (.cells (madeCells #[Value.int .i64 0] n) 3))
  clear hr
  go_enter Tryd.func51, Tryd.ntmps51
  go_wp2
  clear hmk
  go_loopw [11] (fun i wr => ∃ k : Nat, k ≤ n ∧ i = .int .i64 k ∧ Hid (Row wr w.heap.size 3 (ints (red14 l k))) ∧ Hid (Below w.heap.size w wr)) (fun i _ => n - (intOf i).toNat)
  case atStart => exact ⟨0, Nat.zero_le _, rfl, H0, B0⟩
  case round =>
    clear H0 B0
    obtain ⟨k, hk, rfl, HR, HB⟩ := hrel
    by_cases hlt : k < n
    · obtain ⟨x, hx⟩ : ∃ x, l[k]? = some x := ⟨_, List.getElem?_eq_getElem (by rw [HN.out]; exact hlt)⟩
      obtain ⟨g, o, rfl, _, hg, hc⟩ := lies_at HV.out hx
      have c1 : wr.cell? ⟨g, o + k, none⟩ = some (.int .i64 x) := (HB.out.cell (p := ⟨g, o + k, none⟩) hg).trans hc
      obtain ⟨u, hu⟩ : ∃ u, wr.cell? ⟨w.heap.size, k, none⟩ = some u := ⟨_, (HR.out.cell k).trans (List.getElem?_eq_getElem (by rw [ints_len, red14_len l (by rw [HN.out]; exact hk), HN.out]; exact hlt))⟩
      have f1 := HR.out.soft k
      have HX := Lib.hid hx
      have hkn : (k : Int) < (n : Int) := by omega
      clear hx hc
      go_wp2_with (go_at_call 57; refine (word_any _ _).mono ?_; rintro e w' ⟨rfl, rfl⟩)
      go_roundw
      case rel =>
        refine ⟨k + 1, by omega, by go_num, Lib.hid ?_, Lib.hid (HB.out.setCell (p := ⟨w.heap.size, k, none⟩) (Nat.le_refl _) _)⟩
        rw [← red14_set HX.out, ints_set]
        exact HR.out.put k _
      case measure => simp [intOf]; omega
    · obtain rfl : k = n := by omega
      go_wp2
      go_ret
      have e1 : (mod14 l).length = k := by rw [mod14_len, HN.out]
      refine ⟨w.heap.size, by rw [e1]; rfl, ?_, Nat.le_refl _, HB.out⟩
      have := HR.out
      rw [← HN.out, red14_all] at this
      exact this

set_option maxRecDepth 100000 in
set_option maxHeartbeats 400000 in
theorem ofWords16_any (P : Nat → Prop) (l : List Int) (v : Value) (w : World) (hv : Lies w P v (ints l)) (hl : l.length ≤ 17592186043904) :
    Calls Tryd.prog 20 #[v, v] w fun e w' => ∃ p, e = .returned (ptr p) ∧ Below w.heap.size w w' := by
  go_enter Tryd.func20, Tryd.ntmps20
  go_wp2_with fail
  refine (reduced16_any P l v w hv hl).mono ?_
  rintro e w1 ⟨a, rfl, r1, ha, hb1⟩
  go_wp2_with fail
  refine (reduced16_any P l v w1 (hv.below hb1) hl).mono ?_
  rintro e w2 ⟨b, rfl, r2, hb, hb2⟩
  have B2 := Lib.hid (below_on hb1 hb2)
  clear r1 r2 hb1 hb2 ha hb
  go_wp2
  go_ret
  exact ⟨w2.heap.size, rfl, below_on B2.out (below_al _ _)⟩

set_option maxRecDepth 100000 in
set_option maxHeartbeats 2000000 in
theorem giverNobody_any (P : Nat → Prop) (v : Value) (l : List Int) (w : World) (hT : TabAt w) (hv : Lies w P v (ints l)) (hl : l.length ≤ 17592186043904) :
    Calls Tryd.prog 6 #[v] w fun e w' => e = .returned (.bool true) ∧ Below w.heap.size w w' := by
  have K1 := Lib.hid (ofWords16_any P l v w hv hl)
  have HT := Lib.hid hT
  obtain ⟨A, n, c, rfl, HN, HV⟩ := lies_open hv
  clear hT hv hl
  go_enter Tryd.func6, Tryd.ntmps6
  go_wp2_with fail
  refine K1.out.mono ?_
  rintro e w1 ⟨p, rfl, b1⟩
  have B1 := Lib.hid b1
  have KA := Lib.hid (alive16 w1 (HT.out.below b1))
  clear b1
  unfold ptr
  go_wp2_with (first
    | (go_at_call 22; refine (step16_nil _ _).mono ?_; rintro e w' ⟨rfl, rfl⟩)
    | (go_at_call 16; refine (send16_nil _ _).mono ?_; rintro e w' ⟨rfl, rfl⟩)
    | (go_at_call 26; refine (busy16_nil _).mono ?_; rintro e w' ⟨rfl, rfl⟩)
    | (go_at_call 27; refine (linked16_nil _).mono ?_; rintro e w' ⟨rfl, rfl⟩)
    | (go_at_call 28; refine (free16_nil _).mono ?_; rintro e w' ⟨rfl, rfl⟩)
    | (go_at_call 29; refine (out16_nil _).mono ?_; rintro e w' ⟨rfl, rfl⟩)
    | (go_at_call 12; refine (bound16_nil _).mono ?_; rintro e w' ⟨rfl, rfl⟩)
    | (go_at_call 9; refine KA.out.mono ?_; rintro e w2 ⟨rfl, b2⟩))
  go_ret
  exact ⟨rfl, below_on B1.out b2⟩

#print axioms giverNobody_any
end Go.Proofs.YtbahnnlenaoomaaDoor
