/-
  Texts merged, with what one theorem needs of them.
  Conditions: those that each theorem states.
-/
import Derived.Test.YtiofipofbeodpaaGreatDoorRows
import Derived.Test.YtiofipofbeodpaaGreatDoorZ1
import Derived.Test.YtiofipofbeodpaaGreatDoorZ2
import Derived.Test.YtiofipofbeodpaaGreatDoorZ3
import Derived.Test.YtiofipofbeodpaaGreatDoorZ7
import Derived.Test.YtiofipofbeodpaaGreatDoorZ8
import Derived.Below
import Derived.BigQuiet
import Derived.Deep.AppendLies
import Derived.Deep.DeepMust
import Derived.Deep.Draws
import Derived.Deep.OwnRows
import Derived.Deep.QuietTactic
import Derived.Handy
import Derived.IntWalk
import Derived.Laws.BitsLemmas
import Derived.Laws.CopyOwn
import Derived.Laws.OwnMore
import Derived.Laws.Rows
import Derived.Lib.Hide
import Derived.Maps.AppendAt
import Derived.OpenShut
import Derived.ProofKit
import Derived.RegionTactic
import Derived.WalkKit
namespace Go.Proofs.YtiofipofbeodpaaGreatDoor

section
open Go.ChangeShapes Go.WideShapes Go.ChangeAt Go.RowKit
/-- The words of the first k numbers, and zeros. -/
def red14 (l : List Int) (k : Nat) : List Int := mod14 (l.take k) ++ List.replicate (l.length - k) 0
theorem red14_zero (l : List Int) : red14 l 0 = List.replicate l.length 0 := by simp [red14, mod14]
theorem red14_all (l : List Int) : red14 l l.length = mod14 l := by simp [red14]
theorem red14_len (l : List Int) {k : Nat} (h : k ≤ l.length) : (red14 l k).length = l.length := by simp [red14, mod14_len]; omega
theorem red14_set {l : List Int} {k : Nat} {x : Int} (h : l[k]? = some x) : (red14 l k).set k (x % 65536) = red14 l (k + 1) := by
  have hk := lt_of_at h
  unfold red14
  rw [mod14_more h, List.set_append]
  have e : (mod14 (l.take k)).length = k := by rw [mod14_len]; simp; omega
  rw [e, if_neg (by omega), Nat.sub_self]
  have e2 : l.length - k = (l.length - (k + 1)) + 1 := by omega
  rw [e2, List.replicate_succ, List.set_cons_zero]
  simp
/-- What a call leaves that returns a list in a new block. -/
def NewRow14 (xs : List Int) (w : World) (e : Ending) (w' : World) : Prop :=
  ∃ g, e = .returned (.slice (some ⟨g, 0, none⟩) xs.length xs.length) ∧ Row w' g 3 (ints xs) ∧ w.heap.size ≤ g ∧ Below w.heap.size w w'
set_option maxRecDepth 100000 in
set_option maxHeartbeats 1000000 in
theorem reduced14_any (P : Nat → Prop) (l : List Int) (v : Value) (w : World) (hv : Lies w P v (ints l)) (hl : l.length ≤ 65536) :
    Calls Tryz.prog 42 #[v] w (NewRow14 (mod14 l) w) := by
  obtain ⟨A, n, c, rfl, HN, HV⟩ := lies_open hv
  have hn : n ≤ 65536 := by rw [← HN.out]; exact hl
  clear hv hl
  have hmk := fun W => run_make_row' (P := Tryz.prog) 35 3 (.int .i64 0) 8 Tryz.underlying35 int_info rfl .i64 .i64 n (by omega) (by omega) W
  have hr := Row.new w 3 (madeCells #[Value.int .i64 0] n)
  rw [ints_zeros] at hr
  have H0 : Hid (Row (w.alloc (.cells (madeCells #[Value.int .i64 0] n) 3)) w.heap.size 3 (ints (red14 l 0))) := Lib.hid (by rw [red14_zero, HN.out]; exact hr)
  have B0 := Lib.hid (below_al w (.cells (madeCells #[Value.int .i64 0] n) 3))
  clear hr
  go_enter Tryz.func42, Tryz.ntmps42
  go_wp2
  clear hmk
  go_loopw [11] (fun i wr => ∃ k : Nat, k ≤ n ∧ i = .int .i64 k ∧ Hid (Row wr w.heap.size 3 (ints (red14 l k))) ∧ Hid (Below w.heap.size w wr)) (fun i _ => n - (intOf i).toNat)
  case atStart => exact ⟨0, Nat.zero_le _, rfl, H0, B0⟩
  case round =>
    clear H0 B0
    obtain ⟨k, hk, rfl, HR, HB⟩ := hrel
    by_cases hlt : k < n
    · obtain ⟨x, hx⟩ : ∃ x, l[k]? = some x := ⟨_, List.getElem?_eq_getElem (by rw [HN.out]; exact hlt)⟩
      obtain ⟨g, o, rfl, _, hg, hc⟩ := lies_at HV.out hx
      have c1 : wr.cell? ⟨g, o + k, none⟩ = some (.int .i64 x) := (HB.out.cell (p := ⟨g, o + k, none⟩) hg).trans hc
      obtain ⟨u, hu⟩ : ∃ u, wr.cell? ⟨w.heap.size, k, none⟩ = some u := ⟨_, (HR.out.cell k).trans (List.getElem?_eq_getElem (by rw [ints_len, red14_len l (by rw [HN.out]; exact hk), HN.out]; exact hlt))⟩
      have f1 := HR.out.soft k
      have HX := Lib.hid hx
      have hkn : (k : Int) < (n : Int) := by omega
      clear hx hc
      go_wp2_with (go_at_call 68; refine (word_any _ _).mono ?_; rintro e w' ⟨rfl, rfl⟩)
      go_roundw
      case rel =>
        refine ⟨k + 1, by omega, by go_num, Lib.hid ?_, Lib.hid (HB.out.setCell (p := ⟨w.heap.size, k, none⟩) (Nat.le_refl _) _)⟩
        rw [← red14_set HX.out, ints_set]
        exact HR.out.put k _
      case measure => simp [intOf]; omega
    · obtain rfl : k = n := by omega
      go_wp2
      go_ret
      have e1 : (mod14 l).length = k := by rw [mod14_len, HN.out]
      refine ⟨w.heap.size, by rw [e1]; rfl, ?_, Nat.le_refl _, HB.out⟩
      have := HR.out
      rw [← HN.out, red14_all] at this
      exact this
set_option maxRecDepth 100000 in
set_option maxHeartbeats 1000000 in
theorem all14_any (P : Nat → Prop) (l : List Int) (v : Value) (w : World) (hv : Lies w P v (ints l)) (hl : l.length ≤ 65536) :
    Calls Tryz.prog 41 #[v] w fun e w' => ∃ v', e = .returned v' ∧ w'.ownsRow w.heap.size 3 1 v' l.length (ints (mod14 l)) ∧ Below w.heap.size w w' := by
  obtain ⟨i0, hi0, hz0, hz1, hz2⟩ := info_parts int_info
  obtain ⟨A, n, c, rfl, HN, HV⟩ := lies_open hv
  have hn : n ≤ 65536 := by rw [← HN.out]; exact hl
  rw [HN.out]
  clear hv hl
  go_enter Tryz.func41, Tryz.ntmps41
  go_wp2
  go_loopw [3, 4] (fun v i wr => ∃ k : Nat, k ≤ n ∧ i = .int .i64 k ∧ Hid (wr.ownsRow w.heap.size 3 1 v k (ints (mod14 (l.take k)))) ∧ Hid (Below w.heap.size w wr)) (fun _ i _ => n - (intOf i).toNat)
  case atStart => exact ⟨0, Nat.zero_le _, rfl, Lib.hid (World.ownsRow_nil _ _ _ _), Lib.hid (Below.refl _ _)⟩
  case round =>
    obtain ⟨k, hk, rfl, HO, HB⟩ := hrel
    by_cases hlt : k < n
    · obtain ⟨x, hx⟩ : ∃ x, l[k]? = some x := ⟨_, List.getElem?_eq_getElem (by rw [HN.out]; exact hlt)⟩
      obtain ⟨g, o, rfl, _, hg, hc⟩ := lies_at HV.out hx
      have c1 : wr.cell? ⟨g, o + k, none⟩ = some (.int .i64 x) := (HB.out.cell (p := ⟨g, o + k, none⟩) hg).trans hc
      have HX := Lib.hid hx
      have hkn : (k : Int) < (n : Int) := by omega
      clear hx hc
      go_wp2_with (first
        | (go_at_call 60; refine (rword_any _ _).mono ?_; rintro e w' ⟨rfl, rfl⟩)
        | (at_builtin; go_must ((refine wpList_append_own _ rfl (.tmp 11) (.tmp 17) 35 rfl w.heap.size 3 i0 _ 1 8 Tryz.underlying35 hi0 hz0 hz1 hz2 rfl (by omega) _ _ _ rfl (HO.out.alloc _) ⟨_, 0, none⟩ 1 1 [.int .i64 (x % 65536)] rfl rfl (cell_one_new _ _ _) (by intro u hu; simp at hu; subst hu; rfl) (by unfold maxLen; omega) (by omega) (by simp; have := HB.out.size; omega) ?_); intro v1 w1 hown1 hg1 _; have HO1 := Lib.hid hown1; have HB1 := Lib.hid ((HB.out.alloc HB.out.size _).grown hg1 (by simp; have := HB.out.size; omega) (fun q hq => (HO.out.lt q hq).1)); clear hown1 hg1)))
      go_roundw
      case rel =>
        refine ⟨k + 1, by omega, by go_num, Lib.hid ?_, HB1⟩
        have := HO1.out
        rw [mod14_more HX.out, ints_append]
        exact this
      case measure => simp [intOf]; omega
    · obtain rfl : k = n := by omega
      go_wp2
      go_ret
      refine ⟨_, rfl, ?_, HB.out⟩
      have := HO.out
      rw [← HN.out, List.take_length] at this
      rw [← HN.out]
      exact this
end

end Go.Proofs.YtiofipofbeodpaaGreatDoor
