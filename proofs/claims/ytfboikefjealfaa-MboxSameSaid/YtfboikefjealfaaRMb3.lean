/-
  The reference of layer 9: Mask, ack.
  Conditions: those that each theorem states.
-/
import Derived.Test.YtfboikefjealfaaRMb2
namespace Go.Proofs.Ytfboikefjealfaa
open Go.ChangeShapes Go.WideShapes Go.ChangeAt Go.RowKit

theorem maskN_append : ∀ a b : List Bool, maskN (a ++ b) = maskN a + 2 ^ a.length * maskN b
  | [], b => by simp [maskN]
  | x :: a, b => by
    have e1 : maskN (x :: a ++ b) = (if x then 1 else 0) + 2 * maskN (a ++ b) := rfl
    have e2 : maskN (x :: a) = (if x then 1 else 0) + 2 * maskN a := rfl
    rw [e1, e2, maskN_append a b, List.length_cons, Nat.pow_succ, Nat.mul_add, ← Nat.mul_assoc, Nat.mul_comm 2 (2 ^ a.length)]
    omega
theorem maskN_take {l : List Bool} {k : Nat} {b : Bool} (h : l[k]? = some b) : maskN (l.take (k + 1)) = maskN (l.take k) + (if b then 2 ^ k else 0) := by
  have hk := lt_of_at h
  rw [List.take_add_one, h, Option.toList_some, maskN_append, List.length_take, Nat.min_eq_left (by omega)]
  cases b <;> simp [maskN]

set_option maxRecDepth 100000 in
set_option maxHeartbeats 1000000 in
theorem rmask9 (m : Mail) (lv : Value) (w : World) (hk : MailOk m) :
    Calls Try.prog 13 #[coreV m lv] w fun e w' => e = .returned (.int .i64 (maskB m.1)) ∧ Below w.heap.size w w' := by
  obtain ⟨l, q⟩ := m
  have hl := hk.len
  simp only at hl
  obtain ⟨b0, b1, b2, b3, b4, b5, b6, b7, rfl⟩ := bools8 hl
  have hcv0 : coreV ([b0, b1, b2, b3, b4, b5, b6, b7], q) lv = .agg #[.bool b0, .bool b1, .bool b2, .bool b3, .bool b4, .bool b5, .bool b6, .bool b7, lv] := rfl
  rw [hcv0]
  have row := Row.new w 40 #[.bool b0, .bool b1, .bool b2, .bool b3, .bool b4, .bool b5, .bool b6, .bool b7, lv]
  have hb0 := below_al w (.cells #[.bool b0, .bool b1, .bool b2, .bool b3, .bool b4, .bool b5, .bool b6, .bool b7, lv] 40)
  obtain ⟨W0, hW0⟩ : ∃ W0, W0 = w.alloc (.cells #[.bool b0, .bool b1, .bool b2, .bool b3, .bool b4, .bool b5, .bool b6, .bool b7, lv] 40) := ⟨_, rfl⟩
  rw [← hW0] at row hb0
  have hrow : ∀ k b, [b0, b1, b2, b3, b4, b5, b6, b7][k]? = some b → W0.cell? ⟨w.heap.size, k, none⟩ = some (.bool b) := by
    intro k b h
    rw [row.cell]
    have : ([b0, b1, b2, b3, b4, b5, b6, b7].map Value.bool ++ [lv])[k]? = some (.bool b) := by
      rw [List.getElem?_append_left (by have := lt_of_at h; simpa using this), List.getElem?_map, h]
      rfl
    exact this
  obtain ⟨l, hll⟩ : ∃ l, [b0, b1, b2, b3, b4, b5, b6, b7] = l := ⟨_, rfl⟩
  rw [hll] at hrow hl ⊢
  have HROW := Lib.hid hrow
  have HB := Lib.hid hb0
  have HL := Lib.hid hl
  have HW0 := Lib.hid hW0
  clear hrow hb0 row hl hll hk hW0 hcv0
  go_enter Try.func13, Try.ntmps13
  go_wp2
  go_loopw [3, 4, 5] (fun nv bv i wr => ∃ (k N B : Nat), k ≤ 8 ∧ i = .int .i64 k ∧ nv = .int .i64 N ∧ bv = .int .i64 B ∧ N ≤ 255 ∧ B ≤ 256 ∧ Hid (N = maskN (l.take k)) ∧ Hid (B = 2 ^ k) ∧ wr = W0) (fun _ _ i _ => 8 - (intOf i).toNat)
  case atStart => exact ⟨0, 0, 1, by omega, rfl, rfl, rfl, by omega, by omega, Lib.hid (by simp [maskN]), Lib.hid rfl, HW0.out.symm⟩
  case round =>
    obtain ⟨k, N, B, hk, rfl, rfl, rfl, hN, hB, HN, HP, rfl⟩ := hrel
    by_cases hlt : k < 8
    · obtain ⟨b, hb⟩ : ∃ b, l[k]? = some b := ⟨_, List.getElem?_eq_getElem (by rw [HL.out]; exact hlt)⟩
      have hc := HROW.out k b hb
      have h1 := maskN_take hb
      have h2 := maskN_lt (l.take (k + 1))
      rw [List.length_take, HL.out, Nat.min_eq_left (by omega)] at h2
      have h3 : 2 ^ (k + 1) ≤ 2 ^ 8 := Nat.pow_le_pow_right (by decide) (by omega)
      have h4 : 2 ^ (k + 1) = B + B := by rw [Nat.pow_succ, ← HP.out]; omega
      have H1 := Lib.hid h1
      have hk8 : (k : Int) < 8 := by omega
      have hk0 : (0 : Int) ≤ (k : Int) := by omega
      have hB2 : B ≤ 128 := by omega
      have H2 := Lib.hid h2
      have H4 := Lib.hid h4
      have hb2 : ((2 : Int) * (B : Int)) = ((B + B : Nat) : Int) := by omega
      have HB2 := Lib.hid hb2
      clear hb h1 h2 h3 h4 hb2
      cases b
      · go_wp2
        go_roundw
        case rel => exact ⟨k + 1, N, B + B, by omega, by go_num, rfl, by rw [HB2.out], by omega, by omega, Lib.hid (by rw [H1.out, ← HN.out]; simp), Lib.hid H4.out.symm, trivial⟩
        case measure => simp [intOf]; omega
      · go_wp2
        go_roundw
        case rel => exact ⟨k + 1, N + B, B + B, by omega, by go_num, by simp, by rw [HB2.out], by have := H1.out; have := H2.out; rw [H4.out] at *; rw [← HN.out, ← HP.out] at *; simp at *; omega, by omega, Lib.hid (by rw [H1.out, ← HN.out, ← HP.out]; simp), Lib.hid H4.out.symm, trivial⟩
        case measure => simp [intOf]; omega
    · obtain rfl : k = 8 := by omega
      have e : maskB l = (N : Int) := by
        unfold maskB
        rw [HN.out, List.take_of_length_le (by rw [HL.out]; exact Nat.le_refl _)]
      have E := Lib.hid e
      clear e
      go_wp2
      go_ret
      exact ⟨by rw [E.out]; rfl, HB.out⟩

theorem Row.cast {w : World} {g : Nat} {t : TypeId} {cs ds : List Value} (h : Row w g t cs) (e : cs = ds) : Row w g t ds := e ▸ h

/-- The first k bits without those of a mask. -/
def clrK (l : List Bool) (m : Int) (k : Nat) : List Bool := l.mapIdx fun i b => b && !(decide (i < k) && mbit m i)
theorem clrK_len (l : List Bool) (m : Int) (k : Nat) : (clrK l m k).length = l.length := by simp [clrK]
theorem clrK_zero (l : List Bool) (m : Int) : clrK l m 0 = l := by
  apply List.ext_getElem?
  intro i
  simp only [clrK, List.getElem?_mapIdx]
  cases l[i]? <;> simp
theorem clrK_whole (l : List Bool) (m : Int) {k : Nat} (h : l.length ≤ k) : clrK l m k = clrB l m := by
  apply List.ext_getElem?
  intro i
  simp only [clrK, clrB, List.getElem?_mapIdx]
  by_cases hi : i < l.length
  · have : i < k := by omega
    simp [this]
  · rw [List.getElem?_eq_none (by omega)]
    rfl
theorem clrK_next {l : List Bool} {m : Int} {k : Nat} : clrK l m (k + 1) = if mbit m k then (clrK l m k).set k false else clrK l m k := by
  apply List.ext_getElem?
  intro i
  cases hb : mbit m k
  · simp only [clrK, List.getElem?_mapIdx, Bool.false_eq_true, if_false]
    by_cases e : i = k
    · subst e; simp [hb]
    · have : decide (i < k + 1) = decide (i < k) := decide_eq_decide.2 (by omega)
      rw [this]
  · rw [if_pos rfl, List.getElem?_set]
    simp only [clrK, List.getElem?_mapIdx, List.length_mapIdx]
    by_cases e : k = i
    · subst e
      rw [if_pos rfl]
      by_cases hi : k < l.length
      · rw [if_pos hi, List.getElem?_eq_getElem hi]
        simp [hb]
      · rw [if_neg hi, List.getElem?_eq_none (by omega)]
        rfl
    · rw [if_neg e]
      have : decide (i < k + 1) = decide (i < k) := decide_eq_decide.2 (by omega)
      rw [this]

set_option maxRecDepth 100000 in
set_option maxHeartbeats 2000000 in
theorem rack9 (m : Mail) (A : Option Addr) (n c : Nat) (x : Int) (w : World) (hk : MailOk m) (hx : -9223372036854775808 ≤ x ∧ x ≤ 9223372036854775807) :
    Calls Try.prog 25 #[coreV m (.slice A n c), .int .i64 x] w fun e w' => e = .returned (coreV (clrB m.1 x, m.2) (.slice A n c)) ∧ Below w.heap.size w w' := by
  obtain ⟨l, q⟩ := m
  have hl := hk.len
  simp only at hl ⊢
  obtain ⟨b0, b1, b2, b3, b4, b5, b6, b7, rfl⟩ := bools8 hl
  have hcv0 : coreV ([b0, b1, b2, b3, b4, b5, b6, b7], q) (.slice A n c) = .agg #[.bool b0, .bool b1, .bool b2, .bool b3, .bool b4, .bool b5, .bool b6, .bool b7, .slice A n c] := rfl
  rw [hcv0]
  have row := Row.new w 40 #[.bool b0, .bool b1, .bool b2, .bool b3, .bool b4, .bool b5, .bool b6, .bool b7, .slice A n c]
  have row1 := row.below (below_al _ (.cells #[.bool false, .bool false, .bool false, .bool false, .bool false, .bool false, .bool false, .bool false, .slice none 0 0] 40))
  have row2 := Row.new (w.alloc (.cells #[.bool b0, .bool b1, .bool b2, .bool b3, .bool b4, .bool b5, .bool b6, .bool b7, .slice A n c] 40)) 40 #[.bool false, .bool false, .bool false, .bool false, .bool false, .bool false, .bool false, .bool false, .slice none 0 0]
  rw [size_al] at row2
  have hb0 := below_on (below_al w (.cells #[.bool b0, .bool b1, .bool b2, .bool b3, .bool b4, .bool b5, .bool b6, .bool b7, .slice A n c] 40)) (below_al _ (.cells #[.bool false, .bool false, .bool false, .bool false, .bool false, .bool false, .bool false, .bool false, .slice none 0 0] 40))
  have e1 : ([.bool b0, .bool b1, .bool b2, .bool b3, .bool b4, .bool b5, .bool b6, .bool b7, .slice A n c] : List Value) = (clrK [b0, b1, b2, b3, b4, b5, b6, b7] x 0).map Value.bool ++ [.slice A n c] := by rw [clrK_zero]; rfl
  have row1' := row1.cast e1
  have R1 := Lib.hid row1'
  have R2 := Lib.hid row2
  have HB := Lib.hid hb0
  have HX := Lib.hid hx
  clear row row1 row2 row1' hb0 e1 hk hcv0
  go_enter Try.func25, Try.ntmps25
  go_wp2
  go_loopw [1, 5] (fun mv i wr => ∃ (k : Nat) (M : Int), k ≤ 8 ∧ i = .int .i64 k ∧ mv = .int .i64 M ∧ -9223372036854775808 ≤ M ∧ M ≤ 9223372036854775807 ∧ Hid (M = x / 2 ^ k) ∧ Hid (Row wr w.heap.size 40 ((clrK [b0, b1, b2, b3, b4, b5, b6, b7] x k).map Value.bool ++ [.slice A n c])) ∧ Hid (Row wr (w.heap.size + 1) 40 [.bool false, .bool false, .bool false, .bool false, .bool false, .bool false, .bool false, .bool false, .slice none 0 0]) ∧ Hid (Below w.heap.size w wr)) (fun _ i _ => 8 - (intOf i).toNat)
  case atStart => exact ⟨0, x, by omega, rfl, rfl, HX.out.1, HX.out.2, Lib.hid (by simp), R1, R2, HB⟩
  case round =>
    clear R1 R2 HB
    obtain ⟨k, M, hk, rfl, rfl, hM1, hM2, HM, R1, R2, HB⟩ := hrel
    by_cases hlt : k < 8
    · have hbit : mbit x k = decide (M % 2 = 1) := by unfold mbit; rw [HM.out]
      have hnx : M / 2 = x / 2 ^ (k + 1) := by rw [HM.out, Int.pow_succ, Int.ediv_ediv_of_nonneg (by exact Int.pow_nonneg (by omega))]
      have hk0 : (0 : Int) ≤ (k : Int) := by omega
      have hk8 : (k : Int) < 8 := by omega
      have cl := R1.out.cell k
      obtain ⟨bk, hbk⟩ : ∃ bk, (clrK [b0, b1, b2, b3, b4, b5, b6, b7] x k)[k]? = some bk := ⟨_, List.getElem?_eq_getElem (by rw [clrK_len]; simpa using hlt)⟩
      rw [List.getElem?_append_left (by rw [List.length_map, clrK_len]; simpa using hlt), List.getElem?_map, hbk] at cl
      simp only [Option.map_some] at cl
      have fz := R1.out.soft k
      have HBT := Lib.hid hbit
      have HNX := Lib.hid hnx
      clear hbit hnx hbk
      have hr : M % 2 = 0 ∨ M % 2 = 1 := by omega
      rcases hr with hr | hr
      · have t2 : M.tdiv 2 = M / 2 := Int.tdiv_eq_ediv_of_dvd (by omega)
        have t1 : M.tmod 2 = 0 := by have := Int.mul_tdiv_add_tmod M 2; omega
        have t3 : (M - 0).tdiv 2 = M / 2 := by rw [Int.sub_zero]; exact t2
        have HR := Lib.hid hr
        clear hr
        go_wp2
        go_roundw
        case rel => exact ⟨k + 1, M / 2, by omega, by go_num, rfl, by omega, by omega, Lib.hid HNX.out, Lib.hid (by rw [clrK_next, HBT.out, decide_eq_false (by rw [HR.out]; decide)]; exact R1.out), R2, HB⟩
        case measure => simp [intOf]; omega
      · by_cases hn : 0 ≤ M
        · have t1 : M.tmod 2 = 1 := by rw [Int.tmod_eq_emod_of_nonneg hn]; omega
          have t3 : (M - 1).tdiv 2 = M / 2 := by rw [Int.tdiv_eq_ediv_of_nonneg (by omega)]; omega
          have HR := Lib.hid hr
          clear hr
          go_wp2
          go_roundw
          case rel => exact ⟨k + 1, M / 2, by omega, by go_num, rfl, by omega, by omega, Lib.hid HNX.out, Lib.hid (by
            rw [clrK_next, HBT.out, HR.out, if_pos (by decide), List.map_set, ← List.set_append_left _ _ (by rw [List.length_map, clrK_len]; simpa using hlt)]
            exact R1.out.put k _), Lib.hid (R2.out.far (p := ⟨w.heap.size, k, none⟩) (by show w.heap.size + 1 ≠ w.heap.size; omega) _), Lib.hid (HB.out.setCell (p := ⟨w.heap.size, k, none⟩) (Nat.le_refl _) _)⟩
          case measure => simp [intOf]; omega
        · have t1 : M.tmod 2 = -1 := by
            have h := Int.neg_tmod (-M) 2
            rw [Int.neg_neg, Int.tmod_eq_emod_of_nonneg (by omega : (0 : Int) ≤ -M)] at h
            omega
          have t3 : (M - -1).tdiv 2 = M / 2 + 1 := by
            rw [Int.tdiv_eq_ediv_of_dvd (by omega)]
            omega
          have t3' : (M + 1).tdiv 2 = M / 2 + 1 := by
            rw [← t3]; congr 1
          have HR := Lib.hid hr
          clear hr
          go_wp2
          go_roundw
          case rel => exact ⟨k + 1, M / 2, by omega, by go_num, by simp, by omega, by omega, Lib.hid HNX.out, Lib.hid (by
            rw [clrK_next, HBT.out, HR.out, if_pos (by decide), List.map_set, ← List.set_append_left _ _ (by rw [List.length_map, clrK_len]; simpa using hlt)]
            exact R1.out.put k _), Lib.hid (R2.out.far (p := ⟨w.heap.size, k, none⟩) (by show w.heap.size + 1 ≠ w.heap.size; omega) _), Lib.hid (HB.out.setCell (p := ⟨w.heap.size, k, none⟩) (Nat.le_refl _) _)⟩
          case measure => simp [intOf]; omega
    · obtain rfl : k = 8 := by omega
      have e : clrK [b0, b1, b2, b3, b4, b5, b6, b7] x 8 = clrB [b0, b1, b2, b3, b4, b5, b6, b7] x := clrK_whole _ _ (by simp)
      obtain ⟨c0, c1, c2, c3, c4, c5, c6, c7, hc⟩ := bools8 (l := clrB [b0, b1, b2, b3, b4, b5, b6, b7] x) (by rw [clrB_len]; rfl)
      have r1 := R1.out
      rw [e, hc] at r1
      have r2 := R2.out
      have HC := Lib.hid hc
      have x0 := r1.cell 0
      have x1 := r1.cell 1
      have x2 := r1.cell 2
      have x3 := r1.cell 3
      have x4 := r1.cell 4
      have x5 := r1.cell 5
      have x6 := r1.cell 6
      have x7 := r1.cell 7
      have x8 := r1.cell 8
      have y0 := r2.cell 0
      have y1 := r2.cell 1
      have y2 := r2.cell 2
      have y3 := r2.cell 3
      have y4 := r2.cell 4
      have y5 := r2.cell 5
      have y6 := r2.cell 6
      have y7 := r2.cell 7
      have y8 := r2.cell 8
      have z0 := r2.soft 0
      have z1 := r2.soft 1
      have z2 := r2.soft 2
      have z3 := r2.soft 3
      have z4 := r2.soft 4
      have z5 := r2.soft 5
      have z6 := r2.soft 6
      have z7 := r2.soft 7
      have z8 := r2.soft 8
      simp only [List.map_cons, List.map_nil, List.cons_append, List.nil_append, List.getElem?_cons_zero, List.getElem?_cons_succ] at x0 x1 x2 x3 x4 x5 x6 x7 x8 y0 y1 y2 y3 y4 y5 y6 y7 y8
      clear r1 r2 R1 R2 e hc
      go_wp2
      refine bodyPost_ret (v := .agg #[.bool c0, .bool c1, .bool c2, .bool c3, .bool c4, .bool c5, .bool c6, .bool c7, .slice A n c]) (by simp [results, Try.results25, go_sem, *]) rfl ⟨by unfold coreV rcL; simp only; rw [HC.out]; rfl, (((((((((HB.out.setCell (p := ⟨w.heap.size + 1, 0, none⟩) (by show w.heap.size ≤ w.heap.size + 1; omega) (.bool c0)).setCell (p := ⟨w.heap.size + 1, 1, none⟩) (by show w.heap.size ≤ w.heap.size + 1; omega) (.bool c1)).setCell (p := ⟨w.heap.size + 1, 2, none⟩) (by show w.heap.size ≤ w.heap.size + 1; omega) (.bool c2)).setCell (p := ⟨w.heap.size + 1, 3, none⟩) (by show w.heap.size ≤ w.heap.size + 1; omega) (.bool c3)).setCell (p := ⟨w.heap.size + 1, 4, none⟩) (by show w.heap.size ≤ w.heap.size + 1; omega) (.bool c4)).setCell (p := ⟨w.heap.size + 1, 5, none⟩) (by show w.heap.size ≤ w.heap.size + 1; omega) (.bool c5)).setCell (p := ⟨w.heap.size + 1, 6, none⟩) (by show w.heap.size ≤ w.heap.size + 1; omega) (.bool c6)).setCell (p := ⟨w.heap.size + 1, 7, none⟩) (by show w.heap.size ≤ w.heap.size + 1; omega) (.bool c7)).setCell (p := ⟨w.heap.size + 1, 8, none⟩) (by show w.heap.size ≤ w.heap.size + 1; omega) (.slice A n c))⟩

#print axioms rmask9
#print axioms rack9
end Go.Proofs.Ytfboikefjealfaa
