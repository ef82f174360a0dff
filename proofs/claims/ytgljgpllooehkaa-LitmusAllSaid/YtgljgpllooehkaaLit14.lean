/-
  Layer 7 (litmus): wrong, Right, and slices.ContainsFunc over operations.
  Conditions: those that each theorem states.
-/
import Derived.Test.YtgljgpllooehkaaLit13
namespace Go.Proofs.Ytgljgpllooehkaa
open Go.ChangeShapes Go.WideShapes Go.ChangeAt Go.RowKit

def okB (o : Opn) : Bool := decide (1 ≤ o.kind ∧ o.kind ≤ 4 ∧ 0 ≤ o.addr ∧ o.addr ≤ 3 ∧ 0 ≤ o.reg ∧ o.reg ≤ 3 ∧ 0 ≤ o.word ∧ o.word ≤ 9)

theorem okB_iff (o : Opn) : okB o = true ↔ okOp o := by unfold okB okOp; simp

set_option maxRecDepth 100000 in
set_option maxHeartbeats 1000000 in
theorem wrong_yes (o : Opn) (w : World) (h : okB o = true) :
    Calls Try.prog 27 #[.agg #[.int .i64 o.kind, .int .i64 o.addr, .int .i64 o.word, .int .i64 o.reg]] w fun e w' => e = .returned (.bool false) ∧ Below w.heap.size w w' := by
  obtain ⟨k1, k4, a0, a3, g0, g3, x0, x9⟩ := (okB_iff o).1 h
  clear h
  obtain ⟨kind, addr, word, reg⟩ := o
  dsimp only at *
  have t1 : decide (kind < 1) = false := by simp; omega
  have t2 : decide (4 < kind) = false := by simp; omega
  have t3 : decide (addr < 0) = false := by simp; omega
  have t4 : decide (4 ≤ addr) = false := by simp; omega
  have t5 : decide (reg < 0) = false := by simp; omega
  have t6 : decide (4 ≤ reg) = false := by simp; omega
  have t7 : decide (word < 0) = false := by simp; omega
  have t8 : decide (9 < word) = false := by simp; omega
  go_enter Try.func27, Try.ntmps27
  go_wp2
  go_ret
  exact ⟨rfl, below_al _ _⟩

set_option maxRecDepth 100000 in
set_option maxHeartbeats 2000000 in
theorem wrong_no (o : Opn) (w : World) (h : okB o = false) :
    Calls Try.prog 27 #[.agg #[.int .i64 o.kind, .int .i64 o.addr, .int .i64 o.word, .int .i64 o.reg]] w fun e w' => e = .returned (.bool true) ∧ Below w.heap.size w w' := by
  have hn : ¬ okOp o := fun hk => by rw [(okB_iff o).2 hk] at h; cases h
  clear h
  obtain ⟨kind, addr, word, reg⟩ := o
  unfold okOp at hn
  dsimp only at *
  by_cases c1 : kind < 1
  · have t1 : decide (kind < 1) = true := by simpa using c1
    clear hn
    go_enter Try.func27, Try.ntmps27
    go_wp2
    go_ret
    exact ⟨rfl, below_al _ _⟩
  have t1 : decide (kind < 1) = false := by simpa using c1
  by_cases c2 : 4 < kind
  · have t2 : decide (4 < kind) = true := by simpa using c2
    clear hn
    go_enter Try.func27, Try.ntmps27
    go_wp2
    go_ret
    exact ⟨rfl, below_al _ _⟩
  have t2 : decide (4 < kind) = false := by simpa using c2
  by_cases c3 : addr < 0
  · have t3 : decide (addr < 0) = true := by simpa using c3
    clear hn
    go_enter Try.func27, Try.ntmps27
    go_wp2
    go_ret
    exact ⟨rfl, below_al _ _⟩
  have t3 : decide (addr < 0) = false := by simpa using c3
  by_cases c4 : 4 ≤ addr
  · have t4 : decide (4 ≤ addr) = true := by simpa using c4
    clear hn
    go_enter Try.func27, Try.ntmps27
    go_wp2
    go_ret
    exact ⟨rfl, below_al _ _⟩
  have t4 : decide (4 ≤ addr) = false := by simpa using c4
  by_cases c5 : reg < 0
  · have t5 : decide (reg < 0) = true := by simpa using c5
    clear hn
    go_enter Try.func27, Try.ntmps27
    go_wp2
    go_ret
    exact ⟨rfl, below_al _ _⟩
  have t5 : decide (reg < 0) = false := by simpa using c5
  by_cases c6 : 4 ≤ reg
  · have t6 : decide (4 ≤ reg) = true := by simpa using c6
    clear hn
    go_enter Try.func27, Try.ntmps27
    go_wp2
    go_ret
    exact ⟨rfl, below_al _ _⟩
  have t6 : decide (4 ≤ reg) = false := by simpa using c6
  by_cases c7 : word < 0
  · have t7 : decide (word < 0) = true := by simpa using c7
    clear hn
    go_enter Try.func27, Try.ntmps27
    go_wp2
    go_ret
    exact ⟨rfl, below_al _ _⟩
  have t7 : decide (word < 0) = false := by simpa using c7
  have c8 : 9 < word := by omega
  have t8 : decide (9 < word) = true := by simpa using c8
  clear hn
  go_enter Try.func27, Try.ntmps27
  go_wp2
  go_ret
  exact ⟨rfl, below_al _ _⟩

set_option maxRecDepth 100000 in
set_option maxHeartbeats 1000000 in
theorem index_yes (v : Value) (l : List Opn) (w : World) (hr : Recs w 4 v (l.map opL)) (hl : l.length ≤ 1000) (h : ∀ o ∈ l, okB o = true) :
    Calls Try.prog 40 #[v, .func (.func 27) #[] #[]] w fun e w' => e = .returned (.int .i64 (-1)) ∧ Below w.heap.size w w' := by
  have HR := Lib.hid hr
  obtain ⟨A, c, rfl, hA⟩ := hr
  clear hA
  obtain ⟨n, hn⟩ : ∃ n, l.length = n := ⟨_, rfl⟩
  rw [List.length_map, hn] at HR ⊢
  rw [hn] at hl
  have HN := Lib.hid hn
  have H := Lib.hid h
  clear h hn
  go_enter Try.func40, Try.ntmps40
  go_wp2
  go_loopw [8] (fun idx wr => ∃ k : Nat, k ≤ n ∧ idx = .int .i64 k ∧ Below w.heap.size w wr) (fun idx _ => n - (intOf idx).toNat)
  case atStart => exact ⟨0, Nat.zero_le _, rfl, Below.refl _ _⟩
  case round =>
    obtain ⟨k, hk, rfl, hb⟩ := hrel
    by_cases hlt : k < n
    · obtain ⟨o, ho⟩ : ∃ o, l[k]? = some o := ⟨_, List.getElem?_eq_getElem (by rw [HN.out]; exact hlt)⟩
      obtain ⟨ad, c', K, a, m, x, hzs, hv', _, d0, d1, d2, d3⟩ := Recs.four HR.out hb (k := k) (by rw [List.length_map, HN.out]; exact hlt)
      obtain ⟨e0, e1, e2, e3⟩ : o.kind = K ∧ o.addr = a ∧ o.word = m ∧ o.reg = x := by
        rw [List.getElem?_map, ho] at hzs
        simp only [Option.map_some, opL, Option.some.injEq, List.cons.injEq, and_true] at hzs
        exact hzs
      injection hv' with eA eN eC
      subst eA e0 e1 e2 e3
      have WR := Lib.hid (wrong_yes o wr (H.out o (List.mem_of_getElem? ho)))
      have HB := Lib.hid hb
      clear eN eC hzs ho hb
      go_wp2_with (go_at_call 27; refine WR.out.mono ?_; rintro e w1 ⟨rfl, hb1⟩)
      go_roundw
      case rel => exact ⟨k + 1, by omega, by go_num, HB.out.trans (hb1.mono HB.out.size)⟩
      case measure => simp [intOf]; omega
    · go_wp2
      go_ret
      exact ⟨rfl, hb⟩

set_option maxRecDepth 100000 in
set_option maxHeartbeats 1000000 in
theorem index_no (v : Value) (l : List Opn) (w : World) (hr : Recs w 4 v (l.map opL)) (hl : l.length ≤ 1000) (i : Nat) (hi : i < l.length) (hnot : ∀ k o, l[k]? = some o → k < i → okB o = true) (hbad : ∀ o, l[i]? = some o → okB o = false) :
    Calls Try.prog 40 #[v, .func (.func 27) #[] #[]] w fun e w' => e = .returned (.int .i64 (i : Int)) ∧ Below w.heap.size w w' := by
  have HR := Lib.hid hr
  obtain ⟨A, c, rfl, hA⟩ := hr
  clear hA
  obtain ⟨n, hn⟩ : ∃ n, l.length = n := ⟨_, rfl⟩
  rw [List.length_map, hn] at HR ⊢
  rw [hn] at hl hi
  have HN := Lib.hid hn
  have H := Lib.hid hnot
  have HB' := Lib.hid hbad
  clear hnot hbad hn
  go_enter Try.func40, Try.ntmps40
  go_wp2
  go_loopw [8] (fun idx wr => ∃ k : Nat, k ≤ i ∧ idx = .int .i64 k ∧ Below w.heap.size w wr) (fun idx _ => n - (intOf idx).toNat)
  case atStart => exact ⟨0, Nat.zero_le _, rfl, Below.refl _ _⟩
  case round =>
    obtain ⟨k, hk, rfl, hb⟩ := hrel
    have hlt : k < n := by omega
    obtain ⟨o, ho⟩ : ∃ o, l[k]? = some o := ⟨_, List.getElem?_eq_getElem (by rw [HN.out]; exact hlt)⟩
    obtain ⟨ad, c', K, a, m, x, hzs, hv', _, d0, d1, d2, d3⟩ := Recs.four HR.out hb (k := k) (by rw [List.length_map, HN.out]; exact hlt)
    obtain ⟨e0, e1, e2, e3⟩ : o.kind = K ∧ o.addr = a ∧ o.word = m ∧ o.reg = x := by
      rw [List.getElem?_map, ho] at hzs
      simp only [Option.map_some, opL, Option.some.injEq, List.cons.injEq, and_true] at hzs
      exact hzs
    injection hv' with eA eN eC
    subst eA e0 e1 e2 e3
    have HB := Lib.hid hb
    by_cases hki : k = i
    · subst hki
      have WR := Lib.hid (wrong_no o wr (HB'.out o ho))
      clear eN eC hzs ho hb
      go_wp2_with (go_at_call 27; refine WR.out.mono ?_; rintro e w1 ⟨rfl, hb1⟩)
      go_ret
      exact ⟨rfl, HB.out.trans (hb1.mono HB.out.size)⟩
    · have WR := Lib.hid (wrong_yes o wr (H.out k o ho (by omega)))
      clear eN eC hzs ho hb
      go_wp2_with (go_at_call 27; refine WR.out.mono ?_; rintro e w1 ⟨rfl, hb1⟩)
      go_roundw
      case rel => exact ⟨k + 1, by omega, by go_num, HB.out.trans (hb1.mono HB.out.size)⟩
      case measure => simp [intOf]; omega

#print axioms index_no
end Go.Proofs.Ytgljgpllooehkaa
