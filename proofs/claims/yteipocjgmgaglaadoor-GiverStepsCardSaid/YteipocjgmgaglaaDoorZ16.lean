/-
  Texts merged, with what one theorem needs of them.
  Conditions: those that each theorem states.
-/
import Derived.Test.YteipocjgmgaglaaDoorRows
import Derived.Test.YteipocjgmgaglaaDoorZ1
import Derived.Test.YteipocjgmgaglaaDoorZ2
import Derived.Test.YteipocjgmgaglaaDoorZ3
import Derived.Test.YteipocjgmgaglaaDoorZ4
import Derived.Test.YteipocjgmgaglaaDoorZ5
import Derived.Test.YteipocjgmgaglaaDoorZ6
import Derived.Test.YteipocjgmgaglaaDoorZ7
import Derived.Test.YteipocjgmgaglaaDoorZ8
import Derived.Test.YteipocjgmgaglaaDoorZ9
import Derived.Test.YteipocjgmgaglaaDoorZ10
import Derived.Test.YteipocjgmgaglaaDoorZ11
import Derived.Test.YteipocjgmgaglaaDoorZ12
import Derived.Test.YteipocjgmgaglaaDoorZ13
import Derived.Test.YteipocjgmgaglaaDoorZ14
import Derived.Test.YteipocjgmgaglaaDoorZ15
import Derived.Below
import Derived.BigQuiet
import Derived.Deep.AppendLies
import Derived.Deep.DeepMust
import Derived.Deep.Draws
import Derived.Deep.MidRow
import Derived.Deep.OwnRows
import Derived.Deep.QuietTactic
import Derived.Deep.RegionHeld3
import Derived.Deep.RegionLaw
import Derived.Defers
import Derived.Great.BuildSlice
import Derived.Handy
import Derived.IntWalk
import Derived.LaidLaws
import Derived.LaidMore
import Derived.Laws.BitsLemmas
import Derived.Laws.CopyOwn
import Derived.Laws.OwnMore
import Derived.Laws.Rows
import Derived.Lib.Hide
import Derived.Lib.SliceRun
import Derived.MakeChecks
import Derived.Maps.AppendAt
import Derived.OpenShut
import Derived.ProofKit
import Derived.Recover
import Derived.RegionTactic
import Derived.WalkKit
namespace Go.Proofs.YteipocjgmgaglaaDoor

section
open Go.ChangeShapes Go.WideShapes Go.ChangeAt Go.RowKit
/-- What Delete leaves. -/
def DelP16 (v : Value) (xs : List Int) (w : World) (e : Ending) (w' : World) : Prop :=
  ∃ v', e = .returned v' ∧ w'.ownsRow 0 3 1 v' xs.length (ints xs) ∧ v'.ownBlock = v.ownBlock ∧ Only (fun x => v.ownBlock = some x) w w'
theorem del16_row {w : World} {b n cap i : Nat} {l : List Int} {cur : Array Value} (hi : i < n) (hl : l.length = n) (hg : w.heap[b]? = some (.cells cur 3 (0, 0))) (hn : n ≤ cap) (hm : cap ≤ maxLen) (hs : cur.size = cap) (ht : cur.toList.take n = ints l) :
    (((w.setCells b i (ints (l.drop (i + 1)))).setCells b (n - 1) (List.replicate 1 (.int .i64 0))).ownsRow 0 3 1 (.slice (some ⟨b, 0, none⟩) (n - 1) cap) (n - 1) (ints (l.eraseIdx i)) ∧ Only (fun x => x = b) w ((w.setCells b i (ints (l.drop (i + 1)))).setCells b (n - 1) (List.replicate 1 (.int .i64 0)))) ∧
    ∀ j, j < 1 → ((w.setCells b i (ints (l.drop (i + 1)))).cell? ⟨b, n - 1 + j, none⟩).isSome = true ∧ (w.setCells b i (ints (l.drop (i + 1)))).frozen? ⟨b, n - 1 + j, none⟩ = false := by
  have r0 : Row w b 3 cur.toList := by unfold Row; simpa using hg
  obtain ⟨rest, hrest⟩ : ∃ rest, cur.toList = ints l ++ rest := ⟨cur.toList.drop n, by rw [← ht, List.take_append_drop]⟩
  obtain ⟨x, hx⟩ : ∃ x, l[i]? = some x := ⟨_, List.getElem?_eq_getElem (by omega)⟩
  have hxi : l[i]'(by omega) = x := by
    have := List.getElem?_eq_getElem (l := l) (i := i) (by omega)
    rw [hx] at this
    exact (Option.some.inj this).symm
  have e0 : l = l.take i ++ (x :: l.drop (i + 1)) := by
    rw [← hxi, ← List.drop_eq_getElem_cons, List.take_append_drop]
  obtain ⟨d, hd⟩ : ∃ d, l.drop (i + 1) = d := ⟨_, rfl⟩
  obtain ⟨a, ha⟩ : ∃ a, l.take i = a := ⟨_, rfl⟩
  rw [hd, ha] at e0
  have hal : a.length = i := by rw [← ha]; simp; omega
  have hdl : d.length = n - 1 - i := by rw [← hd]; simp; omega
  have her : l.eraseIdx i = a ++ d := by rw [List.eraseIdx_eq_take_drop_succ, ha, hd]
  obtain ⟨b1, c1, hbc, hbl⟩ : ∃ b1 c1, ints (x :: d) = b1 ++ [c1] ∧ b1.length = d.length := by
    have hne : ints (x :: d) ≠ [] := by simp [ints]
    refine ⟨(ints (x :: d)).dropLast, (ints (x :: d)).getLast hne, (List.dropLast_concat_getLast hne).symm, ?_⟩
    rw [List.length_dropLast, ints_len]
    rfl
  have e1 : cur.toList = ints a ++ (b1 ++ (c1 :: rest)) := by
    rw [hrest, e0, ints_append, List.append_assoc, hbc, List.append_assoc]
    rfl
  have r1 := Row.puts15 (ints d) i (show Row w b 3 (ints a ++ (b1 ++ (c1 :: rest))) by rw [← e1]; exact r0)
  have p1 := putL15_mid (ints d) (ints a) b1 (c1 :: rest) (by rw [hbl, ints_len])
  rw [ints_len, hal] at p1
  rw [p1] at r1
  have r2 := Row.puts15 (List.replicate 1 (.int .i64 0)) (n - 1) r1
  have R1 := r1
  have p2 := putL15_mid (List.replicate 1 (Value.int .i64 0)) (ints a ++ ints d) [c1] rest (by simp)
  rw [show (ints a ++ ints d).length = n - 1 from by rw [List.length_append, ints_len, ints_len, hal, hdl]; omega] at p2
  rw [show ints a ++ (ints d ++ c1 :: rest) = ints a ++ ints d ++ ([c1] ++ rest) from by simp] at r2
  rw [p2] at r2
  rw [hd, her]
  have hcl : cur.toList.length = cap := by simpa using hs
  rw [hrest, List.length_append, ints_len, hl] at hcl
  have ho := Only.puts15 (List.replicate 1 (.int .i64 0)) (n - 1) (Only.puts15 (g := b) (ints (l.drop (i + 1))) i (Only.refl (· = b) w))
  rw [hd] at ho
  refine ⟨⟨⟨by rw [ints_len, List.length_append, hal, hdl]; omega, .inr ⟨b, cap, _, rfl, Nat.zero_le _, r2, by omega, hm, ?_, ?_⟩⟩, ho⟩, fun j hj => ⟨?_, R1.soft _⟩⟩
  rotate_left 2
  · rw [R1.cell, List.getElem?_eq_getElem (by simp [ints_len, hal, hdl]; omega)]
    rfl
  · simp [ints_len, hal, hdl]; omega
  · rw [ints_append, Nat.mul_one]
    have : (ints a ++ ints d).length = n - 1 := by rw [List.length_append, ints_len, ints_len, hal, hdl]; omega
    show List.take (n - 1) (ints a ++ ints d ++ (List.replicate 1 (Value.int .i64 0) ++ rest)) = ints a ++ ints d
    rw [← this, List.take_left']
    rfl
theorem int_zeroV (W : World) : (zeroValue 3).run Tryd.prog W = .ok (.int .i64 0) W := by
  obtain ⟨i, hi, hiz⟩ := Option.map_eq_some_iff.1 int_info
  simp only [Prod.mk.injEq] at hiz
  simp [zeroValue, typeInfo, hi, hiz.1]
set_option maxRecDepth 100000 in
set_option maxHeartbeats 2000000 in
theorem del16_any (v : Value) (l : List Int) (i : Nat) (I J : Int) (hI : I = i) (hJ : J = (i : Int) + 1) (w : World) (h : w.ownsRow 0 3 1 v l.length (ints l)) (hi : i < l.length) (hl : l.length ≤ 65536) :
    Calls Tryd.prog 70 #[v, .int .i64 I, .int .i64 J] w (DelP16 v (l.eraseIdx i) w) := by
  obtain ⟨i0, hi0, hz0, hz1, hz2⟩ := info_parts int_info
  obtain ⟨m, hn⟩ : ∃ m, l.length = m + 1 := ⟨l.length - 1, by omega⟩
  have hel : (l.eraseIdx i).length = m := by rw [List.length_eraseIdx, if_pos hi, hn]; rfl
  rw [hn] at h hi hl
  subst hI
  obtain ⟨M, hM⟩ : ∃ M, i + 1 = M := ⟨_, rfl⟩
  obtain rfl : J = (M : Int) := by omega
  clear hJ
  have hL := h.1
  rcases h.2 with ⟨_, h0⟩ | ⟨b, cap, cur, rfl, _, hg, hnc, hm, hs, ht⟩
  · omega
  rw [Nat.mul_one] at hs ht
  obtain ⟨DR, DC⟩ := del16_row (w := w.drew) hi hn hg hnc hm hs ht
  rw [Nat.add_sub_cancel] at DR DC
  have HCell : Hid (∀ j u, (ints l)[j]? = some u → w.cell? ⟨b, j, none⟩ = some u) := Lib.hid (fun j u hu => h.cellAt j (by have := lt_of_at hu; rw [ints_len] at this; omega) |>.trans hu)
  have hne : ((i : Int) == (M : Int)) = false := by simp; omega
  have hc1 : (i : Int) ≤ (M : Int) := by omega
  have hc2 : (M : Int) ≤ ((m + 1 : Nat) : Int) := by omega
  have hc3 : (0 : Int) ≤ (i : Int) := by omega
  have hc4 : ((m + 1 : Nat) : Int) ≤ (cap : Int) := by omega
  have hc5 : (0 : Int) ≤ (M : Int) := by omega
  have hc6 : (i : Int) ≤ (cap : Int) := by omega
  have hc7 : (m : Int) ≤ ((m + 1 : Nat) : Int) := by omega
  have hc8 : ¬ (cap = m) := by omega
  have hd2 : (M : Int) ≤ (m : Int) + 1 := by omega
  have hd4 : (m : Int) + 1 ≤ (cap : Int) := by omega
  have hd7 : (m : Int) ≤ (m : Int) + 1 := by omega
  obtain ⟨AA, hAA, hA1, hA2⟩ : ∃ AA : Option Addr, (if cap = M then some (⟨b, 0, none⟩ : Addr) else some ⟨b, M, none⟩) = AA ∧ (M < m + 1 → AA = some ⟨b, M, none⟩) ∧ AA.isSome = true := ⟨_, rfl, fun hlt => by rw [if_neg (by omega)], by split <;> rfl⟩
  obtain ⟨ad, rfl⟩ := Option.isSome_iff_exists.1 hA2
  have HN : Hid (∀ j u, (ints (l.drop M))[j]? = some u → w.cell? (ad.add j) = some u) := Lib.hid (fun j u hu => by
    have hj := lt_of_at hu
    rw [ints_len, List.length_drop] at hj
    have := hA1 (by omega)
    injection this with this
    subst this
    rw [Addr.add_lit]
    refine HCell.out (M + j) u ?_
    rw [← hu]
    simp [ints, List.getElem?_drop])
  have HNL : Hid ((ints (l.drop M)).length = (m + 1 - M) * 1) := Lib.hid (by rw [ints_len, List.length_drop, hn, Nat.mul_one])
  have HSP : Hid (∀ j, j < (ints (l.drop M)).length → (w.drew.cell? ⟨b, 0 + i * 1 + j, none⟩).isSome = true ∧ w.drew.frozen? ⟨b, 0 + i * 1 + j, none⟩ = false) := Lib.hid (fun j hj => by
    rw [ints_len, List.length_drop] at hj
    refine ⟨?_, h.frozenAt _⟩
    show (w.cell? ⟨b, 0 + i * 1 + j, none⟩).isSome = true
    rw [h.cellAt _ (by omega), List.getElem?_eq_getElem (by rw [ints_len]; omega)]
    rfl)
  have O2 := Lib.hid (ints_one (l.drop M))
  rw [hM] at DR DC
  have HM : Hid (i + (m + 1 - M) = m ∧ 0 + i * 1 = i) := Lib.hid (by omega)
  have hroom : i + (m + 1 - M) ≤ cap := by omega
  have HR := Lib.hid hroom
  have HDR := Lib.hid DR
  have HDC := Lib.hid DC
  have HEL := Lib.hid hel
  clear h hL hg ht hs hm hn hel hA1 hA2 DR DC hroom
  go_enter Tryd.func70, Tryd.ntmps70
  go_wp2
  go_region_law (first
    | (refine step_append_room rfl (.tmp 22) (.tmp 25) 33 rfl 3 i0 1 Tryd.underlying33 hi0 hz1 b 0 i cap rfl ad (m + 1 - M) (cap - M) (ints (l.drop M)) rfl HNL.out HN.out O2.out HR.out HSP.out ?_; rw [HM.out.1, HM.out.2]))
  go_wp2_with (with_reducible refine clear_walk rfl (.tmp 31) 33 3 (.int .i64 0) rfl Tryd.underlying33 int_zeroV rfl rfl b m 1 (cap - m) (by omega) rfl (fun j hj => (HDC.out j hj).1) (fun j hj => (HDC.out j hj).2) ?_)
  go_ret
  exact ⟨_, rfl, by rw [HEL.out]; exact HDR.out.1, rfl, (Only.of_below (below_q w 1) _).trans (HDR.out.2.mono (fun x _ hx => by rw [hx]; rfl))⟩
/-- The first place of a number from k on. -/
def NoneTo (l : List Int) (x : Int) (k : Nat) : Prop := ∀ j : Nat, j < k → l[j]? ≠ some x
/-- What Index answers: the first place of a number, or -1. -/
def IdxIs (l : List Int) (x : Int) (n : Int) : Prop := (n = -1 ∧ x ∉ l) ∨ ∃ k : Nat, n = k ∧ l[k]? = some x ∧ NoneTo l x k
set_option maxRecDepth 100000 in
set_option maxHeartbeats 1000000 in
theorem index16_any (P : Nat → Prop) (l : List Int) (v : Value) (x : Int) (w : World) (hv : Lies w P v (ints l)) (hl : l.length ≤ 65536) :
    Calls Tryd.prog 69 #[v, .int .i64 x] w fun e w' => (∃ n, e = .returned (.int .i64 n) ∧ IdxIs l x n) ∧ w = w' := by
  obtain ⟨A, n, c, rfl, HN, HV⟩ := lies_open hv
  have hn : n ≤ 65536 := by rw [← HN.out]; exact hl
  clear hv hl
  go_enter Tryd.func69, Tryd.ntmps69
  go_wp2
  go_loopw [8] (fun i wr => ∃ k : Nat, k ≤ n ∧ i = .int .i64 k ∧ Hid (NoneTo l x k) ∧ w = wr) (fun i _ => n - (intOf i).toNat)
  case atStart => exact ⟨0, Nat.zero_le _, rfl, Lib.hid (fun j h => by omega), rfl⟩
  case round =>
    obtain ⟨k, hk, rfl, HT, rfl⟩ := hrel
    by_cases hlt : k < n
    · obtain ⟨a, ha⟩ : ∃ a, l[k]? = some a := ⟨_, List.getElem?_eq_getElem (by rw [HN.out]; exact hlt)⟩
      obtain ⟨g, o, rfl, hP, hg, hc⟩ := lies_at HV.out ha
      have hkn : (k : Int) < (n : Int) := by omega
      have A1 := Lib.hid ha; clear ha
      by_cases he : x = a
      · subst he
        have hx : (x == x) = true := by simp
        go_wp2
        go_ret
        exact ⟨⟨_, rfl, .inr ⟨k, rfl, A1.out, HT.out⟩⟩, rfl⟩
      · have hx : (x == a) = false := by simpa using he
        have HX := Lib.hid he
        clear he
        go_wp2
        go_roundw
        case rel =>
          refine ⟨k + 1, by omega, by go_num, Lib.hid (fun j hj h => ?_), trivial⟩
          by_cases e : j = k
          · subst e
            rw [A1.out] at h
            exact HX.out (Option.some.inj h).symm
          · exact HT.out j (by omega) h
        case measure => simp [intOf]; omega
    · obtain rfl : k = n := by omega
      go_wp2
      go_ret
      refine ⟨⟨_, rfl, .inl ⟨rfl, fun h => ?_⟩⟩, rfl⟩
      obtain ⟨j, hj⟩ := List.mem_iff_getElem?.1 h
      exact HT.out j (by have := lt_of_at hj; rw [HN.out] at this; exact this) hj
/-- A word. -/
def okW (x : Int) : Bool := decide (0 ≤ x ∧ x < 65536)
set_option maxRecDepth 100000 in
set_option maxHeartbeats 400000 in
theorem below16_any (n c : Int) (w : World) :
    Calls Tryd.prog 32 #[.int .i64 n, .int .i64 c] w fun e w' => e = .returned (.bool (decide (0 ≤ n ∧ n < c))) ∧ w = w' := by
  by_cases h0 : 0 ≤ n
  · by_cases h1 : n < c
    · have t0 : decide (0 ≤ n) = true := by simpa using h0
      have t1 : decide (n < c) = true := by simpa using h1
      rw [decide_eq_true (⟨h0, h1⟩ : 0 ≤ n ∧ n < c)]
      go_enter Tryd.func32, Tryd.ntmps32
      go_wp2
      go_ret
      exact ⟨rfl, rfl⟩
    · have t0 : decide (0 ≤ n) = true := by simpa using h0
      have t1 : decide (n < c) = false := by simpa using h1
      rw [decide_eq_false (show ¬ (0 ≤ n ∧ n < c) from fun h => h1 h.2)]
      go_enter Tryd.func32, Tryd.ntmps32
      go_wp2
      go_ret
      exact ⟨rfl, rfl⟩
  · have t0 : decide (0 ≤ n) = false := by simpa using h0
    rw [decide_eq_false (show ¬ (0 ≤ n ∧ n < c) from fun h => h0 h.1)]
    go_enter Tryd.func32, Tryd.ntmps32
    go_wp2
    go_ret
    exact ⟨rfl, rfl⟩
set_option maxRecDepth 100000 in
set_option maxHeartbeats 400000 in
theorem refused16_any (n : Int) (w : World) :
    Calls Tryd.prog 31 #[.int .i64 n] w fun e w' => e = .returned (.bool (!okW n)) ∧ w = w' := by
  have HB := Lib.hid (below16_any n 65536 w)
  unfold okW
  obtain ⟨o, ho⟩ : ∃ o, decide (0 ≤ n ∧ n < 65536) = o := ⟨_, rfl⟩
  rw [ho] at HB ⊢
  go_enter Tryd.func31, Tryd.ntmps31
  go_wp2_with fail
  refine HB.out.mono ?_
  rintro e w' ⟨rfl, rfl⟩
  go_wp2
  go_ret
  exact ⟨rfl, rfl⟩
set_option maxRecDepth 100000 in
set_option maxHeartbeats 1000000 in
theorem contains16_any (P : Nat → Prop) (l : List Int) (v : Value) (w : World) (hv : Lies w P v (ints l)) (hl : l.length ≤ 65536) :
    Calls Tryd.prog 45 #[v, .func (.func 31) #[] #[]] w fun e w' => (∃ n : Int, e = .returned (.int .i64 n) ∧ decide (0 ≤ n) = !(l.all okW)) ∧ w = w' := by
  obtain ⟨A, n, c, rfl, HN, HV⟩ := lies_open hv
  have hn : n ≤ 65536 := by rw [← HN.out]; exact hl
  clear hv hl
  go_enter Tryd.func45, Tryd.ntmps45
  go_wp2
  go_loopw [8] (fun i wr => ∃ k : Nat, k ≤ n ∧ i = .int .i64 k ∧ Hid ((l.take k).all okW = true) ∧ w = wr) (fun i _ => n - (intOf i).toNat)
  case atStart => exact ⟨0, Nat.zero_le _, rfl, Lib.hid (by simp), rfl⟩
  case round =>
    obtain ⟨k, hk, rfl, HT, rfl⟩ := hrel
    by_cases hlt : k < n
    · obtain ⟨a, ha⟩ : ∃ a, l[k]? = some a := ⟨_, List.getElem?_eq_getElem (by rw [HN.out]; exact hlt)⟩
      obtain ⟨g, o, rfl, hP, hg, hc⟩ := lies_at HV.out ha
      have hkn : (k : Int) < (n : Int) := by omega
      have A1 := Lib.hid ha; clear ha
      have HR := Lib.hid (refused16_any a w)
      cases ho : okW a with
      | false =>
        rw [ho] at HR
        have HO := Lib.hid ho; clear ho
        go_wp2_with fail
        refine HR.out.mono ?_
        rintro e w' ⟨rfl, rfl⟩
        go_wp2
        go_ret
        refine ⟨⟨_, rfl, ?_⟩, rfl⟩
        have : l.all okW = false := by
          rw [List.all_eq_false]
          exact ⟨a, List.mem_of_getElem? A1.out, by rw [HO.out]; decide⟩
        rw [this]
        simp
      | true =>
        rw [ho] at HR
        have HO := Lib.hid ho; clear ho
        go_wp2_with fail
        refine HR.out.mono ?_
        rintro e w' ⟨rfl, rfl⟩
        go_wp2
        go_roundw
        case rel =>
          refine ⟨k + 1, by omega, by go_num, Lib.hid ?_, trivial⟩
          rw [List.take_add_one, A1.out]
          simp only [Option.toList_some, List.all_append, HT.out, List.all_cons, HO.out, List.all_nil]
          rfl
        case measure => simp [intOf]; omega
    · obtain rfl : k = n := by omega
      go_wp2
      go_ret
      refine ⟨⟨_, rfl, ?_⟩, rfl⟩
      have := HT.out
      rw [← HN.out, List.take_length] at this
      rw [this]
      rfl
end

end Go.Proofs.YteipocjgmgaglaaDoor
