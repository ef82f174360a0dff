/-
  Layer 8 (site): Decode, for parts in numbers.
  Conditions: those that each theorem states.
-/
import Derived.Test.YtbjmekedlmoolaaSite4
namespace Go.Proofs.Ytbjmekedlmoolaa
open Go.ChangeShapes Go.WideShapes Go.ChangeAt Go.RowKit

/-- The state of Decode's loop. -/
def DecAt (w wr : World) (c n l : Int) : Prop :=
  Row wr w.heap.size 23 [.int .i64 c, .int .i64 n, .int .i64 l] ∧ Row wr (w.heap.size + 1) 25 [.int .i64 0, .int .i64 0, .int .i64 0] ∧ Below w.heap.size w wr

def NotIn (fB fI fS fR : Int → Int) (a : Int) (k : Int) : Prop := ∀ i r, hasP (fI k) (fR k) i r → a ≠ fB k + i * fS k + r

set_option maxRecDepth 100000 in
set_option maxHeartbeats 1000000 in
theorem decode_at (c n l a : Int) (fB fI fS fR : Int → Int) (H : PartsAt c n l fB fI fS fR) (w : World) (ha : a ≤ 9223372036854775807) :
    Calls Try.prog 6 #[v3 c n l, .int .i64 a] w fun e w' => (∃ K i r b, e = .returned (.tuple #[v3 K i r, .bool b]) ∧ ((b = true ∧ 1 ≤ K ∧ K ≤ 4 ∧ hasP (fI K) (fR K) i r ∧ a = fB K + i * fS K + r) ∨ (b = false ∧ K = 0 ∧ i = 0 ∧ r = 0 ∧ ∀ k : Nat, 1 ≤ k → k ≤ 4 → NotIn fB fI fS fR a k))) ∧ Below w.heap.size w w' := by
  have HP := Lib.hid H.part
  have HS := Lib.hid (fun (k : Int) W => spot_any (fB k) (fI k) (fS k) (fR k) a W (H.span k) (H.low k).1 (H.regs k) ha)
  clear H ha
  unfold v3 at HP ⊢
  unfold v4 at HP HS
  have HN : Hid (DecAt w ((w.alloc (.cells #[.int .i64 c, .int .i64 n, .int .i64 l] 23)).alloc (.cells #[.int .i64 0, .int .i64 0, .int .i64 0] 25)) c n l) :=
    Lib.hid ⟨(Row.new w _ #[.int .i64 c, .int .i64 n, .int .i64 l]).below (below_al _ _), by simpa using Row.new (w.alloc (.cells #[.int .i64 c, .int .i64 n, .int .i64 l] 23)) 25 #[.int .i64 0, .int .i64 0, .int .i64 0], below_on (below_al _ _) (below_al _ _)⟩
  go_enter Try.func6, Try.ntmps6
  go_wp2
  go_loopw [6] (fun i wr => ∃ k : Nat, 1 ≤ k ∧ k ≤ 5 ∧ i = .int .i64 k ∧ Hid (DecAt w wr c n l) ∧ Hid (∀ j : Nat, 1 ≤ j → j < k → NotIn fB fI fS fR a j)) (fun i _ => 5 - (intOf i).toNat)
  case atStart => exact ⟨1, by omega, by omega, rfl, HN, Lib.hid (fun j h1 h2 => by omega)⟩
  case round =>
    clear HN
    obtain ⟨k, hk1, hk5, rfl, HA, HJ⟩ := hrel
    obtain ⟨hrow, hrow2, hb⟩ := HA.out
    have c0 := hrow.cell 0
    have c1 := hrow.cell 1
    have c2 := hrow.cell 2
    have d0 := hrow2.cell 0
    have d1 := hrow2.cell 1
    have d2 := hrow2.cell 2
    have f0 := hrow2.soft 0
    have f1 := hrow2.soft 1
    have f2 := hrow2.soft 2
    have hlt0 := hrow2.lt
    simp only [List.getElem?_cons_zero, List.getElem?_cons_succ] at c0 c1 c2 d0 d1 d2
    have HROW := Lib.hid hrow2
    have HB := Lib.hid hb
    clear hrow hrow2 hb
    by_cases hlt : k ≤ 4
    · have PK := Lib.hid (HP.out (k : Int))
      have SK := Lib.hid (HS.out (k : Int))
      clear d0 d1 d2 f0 f1 f2
      go_wp2_with fail
      refine (PK.out _).mono ?_
      rintro e w1 ⟨rfl, hb1⟩
      have HB1 := Lib.hid hb1
      clear hb1
      go_wp2_with fail
      refine (SK.out _).mono ?_
      rintro e w2 ⟨i, r, b, rfl, hb2, hres⟩
      have HR := Lib.hid hres
      have HB2 := Lib.hid (below_on HB1.out hb2)
      have HA2 : Hid (DecAt w w2 c n l) := Lib.hid ⟨HA.out.1.below HB2.out, HA.out.2.1.below HB2.out, below_on HB.out HB2.out⟩
      have h2 := HA2.out.2.1
      have hlt2 := h2.lt
      have hne2 : w.heap.size + 1 ≠ w2.heap.size := by omega
      have d0 := h2.cell 0
      have d1 := h2.cell 1
      have d2 := h2.cell 2
      have f0 := h2.soft 0
      have f1 := h2.soft 1
      have f2 := h2.soft 2
      simp only [List.getElem?_cons_zero, List.getElem?_cons_succ] at d0 d1 d2
      clear hres hb2 h2
      unfold v3
      cases b
      · go_wp2
        go_roundw
        case rel =>
          refine ⟨k + 1, by omega, by omega, by go_num, Lib.hid ⟨HA2.out.1.below (below_al _ _), HA2.out.2.1.below (below_al _ _), below_on HA2.out.2.2 (below_al _ _)⟩, Lib.hid (fun j h1 h2 => ?_)⟩
          rcases HR.out with ⟨h, _⟩ | ⟨_, _, _, h⟩
          · cases h
          · by_cases e : j = k
            · subst e; exact h
            · exact HJ.out j h1 (by omega)
        case measure => simp [intOf]; omega
      · go_wp2
        refine bodyPost_ret (v := .tuple #[.agg #[.int .i64 k, .int .i64 i, .int .i64 r], .bool true]) (by simp [results, Try.results6, go_sem, *]) rfl ⟨⟨_, _, _, _, rfl, .inl ⟨rfl, by omega, by omega, ?_⟩⟩, ?_⟩
        · rcases HR.out with ⟨_, h⟩ | ⟨h, _⟩
          · exact h
          · cases h
        · exact (((HA2.out.2.2.setCell (p := ⟨w.heap.size + 1, 0, none⟩) (by simp) _).setCell (p := ⟨w.heap.size + 1, 1, none⟩) (by simp) _).setCell (p := ⟨w.heap.size + 1, 2, none⟩) (by simp) _).alloc (by show w.heap.size ≤ _; simp [World.setCell]; omega) _
    · obtain rfl : k = 5 := by omega
      go_wp2
      refine bodyPost_ret (v := .tuple #[.agg #[.int .i64 0, .int .i64 0, .int .i64 0], .bool false]) (by simp [results, Try.results6, go_sem, *]) rfl ⟨⟨_, _, _, _, rfl, .inr ⟨rfl, rfl, rfl, rfl, fun k h1 h2 => HJ.out k h1 (by omega)⟩⟩, ?_⟩
      exact (((HA.out.2.2.setCell (p := ⟨w.heap.size + 1, 0, none⟩) (by simp) _).setCell (p := ⟨w.heap.size + 1, 1, none⟩) (by simp) _).setCell (p := ⟨w.heap.size + 1, 2, none⟩) (by simp) _)

#print axioms decode_at
end Go.Proofs.Ytbjmekedlmoolaa
