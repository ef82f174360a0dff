/-
  Texts merged, with what one theorem needs of them.
  Conditions: those that each theorem states.
-/
import Derived.Test.YtiofipofbeodpaaGreatDoorRows
import Derived.Test.YtiofipofbeodpaaGreatDoorZ1
import Derived.Test.YtiofipofbeodpaaGreatDoorZ2
import Derived.Test.YtiofipofbeodpaaGreatDoorZ3
import Derived.Test.YtiofipofbeodpaaGreatDoorZ7
import Derived.Test.YtiofipofbeodpaaGreatDoorZ13
import Derived.Test.YtiofipofbeodpaaGreatDoorZ14
import Derived.Test.YtiofipofbeodpaaGreatDoorZ15
import Derived.Test.YtiofipofbeodpaaGreatDoorZ16
import Derived.Below
import Derived.BigQuiet
import Derived.Deep.AppendLies
import Derived.Deep.DeepMust
import Derived.Deep.Draws
import Derived.Deep.MidRow
import Derived.Deep.OwnRows
import Derived.Deep.QuietTactic
import Derived.Deep.RegionHeld3
import Derived.Great.BuildSlice
import Derived.Handy
import Derived.IntWalk
import Derived.Laws.BitsLemmas
import Derived.Laws.CopyOwn
import Derived.Laws.OwnMore
import Derived.Laws.Rows
import Derived.Lib.Hide
import Derived.Lib.SliceRun
import Derived.Maps.AppendAt
import Derived.OpenShut
import Derived.OwnWalk
import Derived.ProofKit
import Derived.RegionTactic
import Derived.WalkKit
namespace Go.Proofs.YtiofipofbeodpaaGreatDoor

section
open Go.ChangeShapes Go.WideShapes Go.ChangeAt Go.RowKit
/-- What Give of the reference leaves: its table, the handle, and whether. -/
def RGiveP (P : Nat → Prop) (l : List (Int × Bool)) (h : Int) (b : Bool) (w : World) (e : Ending) (w' : World) : Prop :=
  ∃ v, e = .returned (.tuple #[v, .int .i64 h, .bool b]) ∧ RTab w' P l v ∧ Below w.heap.size w w'
/-- What Drop of the reference leaves. -/
def RDropP (P : Nat → Prop) (l : List (Int × Bool)) (E : Int) (w : World) (e : Ending) (w' : World) : Prop :=
  ∃ v, e = .returned (.tuple #[v, .int .i64 E]) ∧ RTab w' P l v ∧ Below w.heap.size w w'
theorem keep15 {w0 : World} {B : Nat} {u v : Value} (f0 : w0.cell? ⟨B, 0, none⟩ = some u) (f1 : w0.cell? ⟨B, 1, none⟩ = some v) (hlt : B < w0.heap.size) {W : World} (hb : Below w0.heap.size w0 W) : W.cell? ⟨B, 0, none⟩ = some u ∧ W.cell? ⟨B, 1, none⟩ = some v ∧ Below w0.heap.size w0 W :=
  ⟨(hb.cell (p := ⟨B, 0, none⟩) hlt).trans f0, (hb.cell (p := ⟨B, 1, none⟩) hlt).trans f1, hb⟩
set_option maxRecDepth 100000 in
set_option maxHeartbeats 4000000 in
theorem rgive15_any (P : Nat → Prop) (v : Value) (l : List (Int × Bool)) (i : Int) (w : World) (r : RTab w P l v) (h64 : l.length ≤ 64) (hP : ∀ b, w.heap.size ≤ b → P b) :
    Calls Tryz.prog 83 #[v, .int .i64 i] w (RGiveP P (giveL15 l i) (giveV15 l i) (giveB15 l i) w) := by
  obtain ⟨A, n, d, rfl, HN, R⟩ := r.open_
  rcases at15_cases l i with ⟨h, h0⟩ | ⟨k, e, b, rfl, hk, h⟩
  · rw [show giveL15 l i = l from by unfold giveL15; rw [h], show giveV15 l i = 0 from by unfold giveV15; rw [h], show giveB15 l i = false from by unfold giveB15; rw [h]]
    rw [HN.out] at h0
    clear h r hP
    by_cases h1 : i < 0
    · clear h0
      go_enter Tryz.func83, Tryz.ntmps83
      go_wp2
      go_ret3
      exact ⟨_, rfl, R.out, Below.refl _ _⟩
    · have h2 : (n : Int) ≤ i := by omega
      have h3 : decide (i < 0) = false := by simpa using h1
      have h4 : decide ((n : Int) ≤ i) = true := by simpa using h2
      clear h0
      go_enter Tryz.func83, Tryz.ntmps83
      go_wp2
      go_ret3
      exact ⟨_, rfl, R.out, Below.refl _ _⟩
  · obtain ⟨g, o, rfl, _, hg, ce, cb⟩ := R.out.slot h
    have hkn : (k : Int) < (n : Int) := by have := HN.out; omega
    have hk0 : ¬ ((k : Int) < 0) := by omega
    have hk1 : decide ((n : Int) ≤ (k : Int)) = false := by simp; omega
    have hk2 : ¬ ((n : Int) ≤ (k : Int)) := by omega
    cases b with
    | true =>
      rw [show giveL15 l k = l from by unfold giveL15; rw [at15_nat, h], show giveV15 l k = 0 from by unfold giveV15; rw [at15_nat, h], show giveB15 l k = false from by unfold giveB15; rw [at15_nat, h]]
      clear h r hP hk
      go_enter Tryz.func83, Tryz.ntmps83
      go_wp2
      go_ret3
      exact ⟨_, rfl, R.out, Below.refl _ _⟩
    | false =>
      rw [show giveL15 l k = l.set k (addW e 1, true) from by unfold giveL15; rw [at15_nat, h]; rfl, show giveV15 l k = addW e 1 * 64 + k from by unfold giveV15; rw [at15_nat, h], show giveB15 l k = true from by unfold giveB15; rw [at15_nat, h]]
      obtain ⟨a0, a1⟩ := addW_bd e 1
      have AD := Lib.hid (fun W => radd_any e 1 W)
      have WI := Lib.hid (fun W (hb : Below w.heap.size w W) => rwith15_any P (.slice (some ⟨g, o, none⟩) n d) l k (addW e 1) true W (R.out.below hb) hk h64)
      have HPP := Lib.hid hP
      have h64k : k < 64 := by omega
      generalize addW e 1 = y at a0 a1 AD WI ⊢
      have HW : Hid (Value.int .i64 (IntKind.i64.wrap (IntKind.i64.wrap (y * 64) + (k : Int))) = .int .i64 (y * 64 + (k : Int))) := Lib.hid (by rw [IntWalk.i64_in (y * 64) (by omega), IntWalk.i64_in (y * 64 + (k : Int)) (by omega)])
      have ROW := Row.new w 77 #[.int .i64 y, .bool true]
      have HB := Lib.hid (below_al w (.cells #[.int .i64 y, .bool true] 77))
      clear h r hP hk
      go_enter Tryz.func83, Tryz.ntmps83
      go_wp2_with fail
      refine (AD.out _).mono ?_
      rintro e w' ⟨rfl, rfl⟩
      go_wp2_with fail
      generalize w.alloc (.cells #[.int .i64 y, .bool true] 77) = w0 at ROW HB ⊢
      have f0 := ROW.cell 0
      have f1 := ROW.cell 1
      have hlt := ROW.lt
      simp only [List.getElem?_cons_zero, List.getElem?_cons_succ] at f0 f1
      have hbb : Below w0.heap.size w0 w0 := Below.refl _ _
      have WJ := Lib.hid (fun W (hb : Below w0.heap.size w0 W) => (WI.out W (below_on HB.out hb)).mono (R' := fun e w' => ∃ A n c, e = .returned (.slice A n c) ∧ Hid (RTab w' P (l.set k (y, true)) (.slice A n c)) ∧ Below w0.heap.size w0 w') (fun e w' ⟨v, he, hr, hb'⟩ => by
        obtain ⟨A2, n2, c2, rfl, _, R2⟩ := hr.open_
        exact ⟨A2, n2, c2, he, Lib.hid (R2.out.weak (fun b _ hbb => HPP.out b (Nat.le_trans (below_on HB.out hb).size hbb))), below_on hb hb'⟩))
      generalize w.heap.size = B at f0 f1 hlt ⊢
      clear ROW WI
      go_region_held3 (fun w' => w'.cell? ⟨B, 0, none⟩ = some (.int .i64 y) ∧ w'.cell? ⟨B, 1, none⟩ = some (.bool true) ∧ Below w0.heap.size w0 w')
        (first
          | exact keep15 f0 f1 hlt hb4
          | exact keep15 f0 f1 hlt hbb.drew
          | exact keep15 f0 f1 hlt hbb
          | go_keep)
        (first
          | (go_at_call 56; (with_reducible refine (WJ.out _ ?_).mono ?_); (go_split_ands; assumption); rintro e w4 ⟨A4, n4, c4, rfl, hr4, hb4⟩))
      all_goals go_wp2
      all_goals go_ret3
      all_goals exact ⟨_, by rw [← HW.out]; rfl, hr4.out, below_on HB.out hb4⟩
set_option maxRecDepth 100000 in
set_option maxHeartbeats 2000000 in
theorem rdrop15_any (P : Nat → Prop) (v : Value) (l : List (Int × Bool)) (h : Int) (w : World) (r : RTab w P l v) (h64 : l.length ≤ 64) (wd : Wd15 l) (hP : ∀ b, w.heap.size ≤ b → P b) :
    Calls Tryz.prog 35 #[v, .int .i64 h] w (RDropP P (dropL15 l h) (dropE15 l h) w) := by
  obtain ⟨A, n, d, rfl, HN, R⟩ := r.open_
  have k1 := Lib.hid (rslot15_any P _ l h w R.out h64 wd)
  unfold slotV15 slotB15 at k1
  unfold dropL15 dropE15
  cases hs : slotO15 l h with
  | none =>
    rw [hs] at k1
    clear hs r hP
    go_enter Tryz.func35, Tryz.ntmps35
    go_wp2_with fail
    refine k1.out.mono ?_
    rintro e w' ⟨rfl, rfl⟩
    go_wp2
    go_ret2
    exact ⟨_, rfl, R.out, Below.refl _ _⟩
  | some k =>
    rw [hs] at k1
    obtain ⟨e, ha, -⟩ := slotO15_is hs
    have hk := lt_of_at ha
    simp only [offL15, ha]
    obtain ⟨g, o, rfl, _, hg, ce, cb⟩ := R.out.slot ha
    have hkn : (k : Int) < (n : Int) := by have := HN.out; omega
    have wi := Lib.hid (rwith15_any P (.slice (some ⟨g, o, none⟩) n d) l k e false w R.out hk h64)
    have HPP := Lib.hid hP
    clear hs ha hk r hP
    go_enter Tryz.func35, Tryz.ntmps35
    go_wp2_with fail
    refine k1.out.mono ?_
    rintro e w' ⟨rfl, rfl⟩
    go_wp2_with fail
    refine wi.out.mono ?_
    rintro e w2 ⟨v2, rfl, r2, hb2⟩
    obtain ⟨A2, n2, c2, rfl, HN2, R2⟩ := r2.open_
    have HB2 := Lib.hid hb2
    clear r2 hb2
    go_wp2
    go_ret2
    exact ⟨_, rfl, R2.out.weak (fun b _ hb => HPP.out b hb), HB2.out⟩
/-! ### Clear -/
def offK15 (l : List (Int × Bool)) (k : Nat) : List (Int × Bool) := clearL15 (l.take k) ++ l.drop k
theorem offK15_zero (l : List (Int × Bool)) : offK15 l 0 = l := by simp [offK15, clearL15]
theorem offK15_all {l : List (Int × Bool)} {n : Nat} (h : l.length = n) : offK15 l n = clearL15 l := by
  subst h
  simp [offK15, clearL15]
theorem offK15_len {l : List (Int × Bool)} {n : Nat} (h : l.length = n) {k : Nat} (hk : k ≤ n) : (offK15 l k).length = n := by
  simp [offK15, clearL15]; omega
theorem offK15_at {l : List (Int × Bool)} {k : Nat} (hk : k < l.length) : (offK15 l k)[k]? = l[k]? := by
  have e : (clearL15 (l.take k)).length = k := by simp [clearL15]; omega
  unfold offK15
  rw [List.getElem?_append_right (by omega), e, Nat.sub_self, List.getElem?_drop, Nat.add_zero]
theorem offK15_set {l : List (Int × Bool)} {k : Nat} {e : Int} {b : Bool} (h : l[k]? = some (e, b)) : (offK15 l k).set k (e, false) = offK15 l (k + 1) := by
  have hk := lt_of_at h
  have e1 : (clearL15 (l.take k)).length = k := by simp [clearL15]; omega
  unfold offK15
  rw [List.set_append_right _ _ (by omega), e1, Nat.sub_self, List.drop_eq_getElem_cons hk, List.set_cons_zero, List.take_add_one, h]
  simp [clearL15]
set_option maxRecDepth 100000 in
set_option maxHeartbeats 2000000 in
theorem rclear15_any (P : Nat → Prop) (v : Value) (l : List (Int × Bool)) (w : World) (r : RTab w P l v) (h64 : l.length ≤ 64) (hP : ∀ b, w.heap.size ≤ b → P b) :
    Calls Tryz.prog 64 #[v] w fun e w' => ∃ u, e = .returned u ∧ RTab w' P (clearL15 l) u ∧ Below w.heap.size w w' := by
  obtain ⟨A, n, d, rfl, HN, R⟩ := r.open_
  have HPP := Lib.hid hP
  rw [HN.out] at h64
  clear r hP
  go_enter Tryz.func64, Tryz.ntmps64
  go_wp2
  go_loopw [0, 3] (fun u i wr => ∃ (k : Nat) (A : Option Addr) (d : Nat), k ≤ n ∧ u = .slice A n d ∧ i = .int .i64 k ∧ Hid (RTab wr P (offK15 l k) (.slice A n d)) ∧ Hid (Below w.heap.size w wr)) (fun _ i _ => n - (intOf i).toNat)
  case atStart => exact ⟨0, _, _, Nat.zero_le _, rfl, rfl, Lib.hid (by rw [offK15_zero]; exact R.out), Lib.hid (Below.refl _ _)⟩
  case round =>
    clear R
    obtain ⟨k, A, d, hk, rfl, rfl, R, HB⟩ := hrel
    by_cases hlt : k < n
    · obtain ⟨⟨e, b⟩, hx⟩ : ∃ x, l[k]? = some x := ⟨_, List.getElem?_eq_getElem (by rw [HN.out]; exact hlt)⟩
      have hx2 : (offK15 l k)[k]? = some (e, b) := (offK15_at (by rw [HN.out]; exact hlt)).trans hx
      have hl2 := offK15_len HN.out hk
      obtain ⟨g, o, rfl, _, hg, ce, cb⟩ := R.out.slot hx2
      have wi := rwith15_any P (.slice (some ⟨g, o, none⟩) n d) (offK15 l k) k e false wr R.out (by omega) (by omega)
      rw [offK15_set hx] at wi
      have WI := Lib.hid wi
      have HL2 := Lib.hid (offK15_len HN.out (show k + 1 ≤ n by omega))
      have hkn : (k : Int) < (n : Int) := by omega
      clear hx hx2 hl2 wi
      go_wp2_with fail
      refine WI.out.mono ?_
      rintro e w2 ⟨v2, rfl, r2, hb2⟩
      obtain ⟨A2, n2, c2, rfl, HN2, R2⟩ := r2.open_
      obtain rfl : n2 = n := by rw [← HN2.out]; exact HL2.out
      have HB2 := Lib.hid hb2
      clear r2 hb2
      go_wp2
      go_roundw
      case rel => exact ⟨k + 1, A2, c2, by omega, rfl, by go_num, Lib.hid (R2.out.weak (fun b _ hb => HPP.out b (Nat.le_trans HB.out.size hb))), Lib.hid (below_on HB.out HB2.out)⟩
      case measure => simp [intOf]; omega
    · obtain rfl : k = n := by omega
      go_wp2
      go_ret
      exact ⟨_, rfl, by rw [← offK15_all HN.out]; exact R.out, HB.out⟩
/-! ### Handle -/
/-- The handle of the x-th held slot, or x. -/
def hanL15 (l : List (Int × Bool)) (x : Int) : Int :=
  if 0 ≤ x then match (onN15 l l.length)[x.toNat]? with
    | some k => (match l[k]? with | some (e, _) => e * 64 + k | none => x)
    | none => x
  else x
theorem hanL15_cases (l : List (Int × Bool)) (x : Int) : (hanL15 l x = x ∧ (x < 0 ∨ ((onL15 l l.length).length : Int) ≤ x)) ∨ ∃ (j k : Nat) (e : Int), x = j ∧ j < (onL15 l l.length).length ∧ (onL15 l l.length)[j]? = some (k : Int) ∧ l[k]? = some (e, true) ∧ hanL15 l x = e * 64 + k := by
  have hlen : (onL15 l l.length).length = (onN15 l l.length).length := by simp [onL15]
  by_cases h0 : x < 0
  · exact .inl ⟨by unfold hanL15; rw [if_neg (by omega)], .inl h0⟩
  · obtain ⟨j, rfl⟩ := Int.eq_ofNat_of_zero_le (show 0 ≤ x by omega)
    by_cases h1 : j < (onN15 l l.length).length
    · obtain ⟨k, hk⟩ : ∃ k, (onN15 l l.length)[j]? = some k := ⟨_, List.getElem?_eq_getElem h1⟩
      obtain ⟨-, e, he⟩ := onN15_mem (List.mem_of_getElem? hk)
      refine .inr ⟨j, k, e, rfl, by omega, by simp [onL15, hk], he, ?_⟩
      unfold hanL15
      rw [if_pos (by omega), Int.toNat_natCast, hk]
      simp only [he]
    · refine .inl ⟨?_, .inr (by omega)⟩
      unfold hanL15
      rw [if_pos (by omega), Int.toNat_natCast, List.getElem?_eq_none (by omega)]
set_option maxRecDepth 100000 in
set_option maxHeartbeats 2000000 in
theorem rhandle15_any (P : Nat → Prop) (v : Value) (l : List (Int × Bool)) (x : Int) (w : World) (r : RTab w P l v) (h64 : l.length ≤ 64) (wd : Wd15 l) :
    Calls Tryz.prog 13 #[v, .int .i64 x] w fun e w' => e = .returned (.int .i64 (hanL15 l x)) ∧ Below w.heap.size w w' := by
  obtain ⟨A, n, d, rfl, HN, R⟩ := r.open_
  have k1 := Lib.hid (rheld15_any P _ l w R.out h64)
  have hm := onL15_len l l.length
  rcases hanL15_cases l x with ⟨hh, hx⟩ | ⟨j, k, e, rfl, hj, hjk, hk, hh⟩
  · rw [hh]
    obtain ⟨m, hm'⟩ : ∃ m, (onL15 l l.length).length = m := ⟨_, rfl⟩
    rw [hm'] at hx
    have HM := Lib.hid hm'
    clear hh r hm' hm
    go_enter Tryz.func13, Tryz.ntmps13
    go_wp2_with fail
    refine k1.out.mono ?_
    rintro e w1 ⟨v1, rfl, own1, hb1⟩
    obtain ⟨A1, c1, rfl⟩ := own15_is own1
    rw [HM.out]
    have HB1 := Lib.hid hb1
    clear own1 hb1
    by_cases h1 : x < 0
    · clear hx
      go_wp2
      go_ret
      exact ⟨rfl, HB1.out⟩
    · have h2 : (m : Int) ≤ x := by omega
      have h3 : decide (x < 0) = false := by simpa using h1
      have h4 : decide ((m : Int) ≤ x) = true := by simpa using h2
      clear hx
      go_wp2
      go_ret
      exact ⟨rfl, HB1.out⟩
  · rw [hh]
    have hjk' := hjk
    obtain ⟨m, hm'⟩ : ∃ m, (onL15 l l.length).length = m := ⟨_, rfl⟩
    rw [hm'] at hj
    have HM := Lib.hid hm'
    obtain ⟨g, o, rfl, _, hg, ce, cb⟩ := R.out.slot hk
    have hkn : (k : Int) < (n : Int) := by have := HN.out; have := lt_of_at hk; omega
    obtain ⟨e0, e1⟩ := wd k e true hk
    have hk64 : k < 64 := by have := lt_of_at hk; omega
    have HJ := Lib.hid hjk
    have hj0 : ¬ ((j : Int) < 0) := by omega
    have hj1 : ¬ ((m : Int) ≤ (j : Int)) := by omega
    have hj2 : decide ((m : Int) ≤ (j : Int)) = false := by simpa using hj1
    have hjm : (j : Int) < (m : Int) := by omega
    clear hh r hm' hm hk hjk hjk' wd
    go_enter Tryz.func13, Tryz.ntmps13
    go_wp2_with fail
    refine k1.out.mono ?_
    rintro e w1 ⟨v1, rfl, own1, hb1⟩
    rw [HM.out] at own1
    obtain ⟨g1, c1, rfl, hg1, hl1⟩ := own1.form (by omega)
    have hc1 : w1.cell? ⟨g1, j, none⟩ = some (.int .i64 (k : Int)) := (own1.cellAt j (by omega)).trans (ints_some HJ.out)
    have ce1 : w1.cell? ⟨g, o + k * 2, none⟩ = some (.int .i64 e) := (hb1.cell (p := ⟨g, o + k * 2, none⟩) hg).trans ce
    have HB1 := Lib.hid hb1
    clear own1 hb1 ce cb
    go_wp2_with fail
    go_quiet (fail)
    go_wp2
    go_ret
    exact ⟨rfl, below_on HB1.out (below_q _ _)⟩
end

end Go.Proofs.YtiofipofbeodpaaGreatDoor
