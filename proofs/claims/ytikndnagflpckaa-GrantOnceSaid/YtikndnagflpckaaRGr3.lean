/-
  Layer 15 (grant): the reference's Do.
  Conditions: those that each theorem states.
-/
import Derived.Test.YtikndnagflpckaaRGr2
namespace Go.Proofs.Ytikndnagflpckaa
open Go.ChangeShapes Go.WideShapes Go.ChangeAt Go.RowKit

theorem giveL15_wd {l : List (Int × Bool)} (h : Wd15 l) (x : Int) : Wd15 (giveL15 l x) := by
  unfold giveL15
  split
  · exact h.set (addW_bd _ _).1 (addW_bd _ _).2
  · exact h
theorem dropL15_wd {l : List (Int × Bool)} (h : Wd15 l) (x : Int) : Wd15 (dropL15 l x) := by
  unfold dropL15
  split
  · rename_i k _
    unfold offL15
    split
    · rename_i e b hb
      exact h.set (h k e b hb).1 (h k e b hb).2
    · exact h
  · exact h
theorem dL15_wd {l : List (Int × Bool)} (h : Wd15 l) (K x : Int) : Wd15 (dL15 l K x) := by
  unfold dL15
  split
  · exact giveL15_wd h x
  · split
    · exact dropL15_wd h x
    · split
      · exact clearL15_wd h
      · exact h

/-- What a call of the reference leaves: its table, what is told, and the error. -/
def RDoP (P : Nat → Prop) (l : List (Int × Bool)) (V E : Int) (w : World) (e : Ending) (w' : World) : Prop :=
  ∃ v, e = .returned (.tuple #[v, .int .i64 V, .int .i64 E]) ∧ RTab w' P l v ∧ Below w.heap.size w w'

section
variable (P : Nat → Prop) (v : Value) (l : List (Int × Bool)) (x : Int) (w : World)

set_option maxRecDepth 100000 in
set_option maxHeartbeats 2000000 in
theorem rdo15_0 (r : RTab w P l v) (h64 : l.length ≤ 64) (hP : ∀ b, w.heap.size ≤ b → P b) :
    Calls Try.prog 11 #[v, opV15 0 x] w (RDoP P (giveL15 l x) (giveV15 l x) (b01 (giveB15 l x)) w) := by
  have B1 := below_al w (.cells #[.int .i64 0, .int .i64 x] 24)
  have k1 := rgive15_any P v l x _ (r.below B1) h64 (fun b hb => hP b (Nat.le_trans B1.size hb))
  obtain ⟨A, n, d, rfl, HN, R⟩ := r.open_
  have HB1 := Lib.hid B1
  unfold b01
  unfold opV15
  cases hE : giveB15 l x with
  | true =>
    rw [hE] at k1
    have K1 := Lib.hid k1
    clear B1 r hP hE k1
    go_enter Try.func11, Try.ntmps11
    go_wp2_with fail
    refine K1.out.mono ?_
    rintro e w2 ⟨v2, rfl, r2, hb2⟩
    obtain ⟨A2, n2, c2, rfl, HN2, R2⟩ := r2.open_
    have HB2 := Lib.hid hb2
    clear r2 hb2
    go_wp2
    go_ret3
    exact ⟨_, rfl, R2.out, below_on HB1.out HB2.out⟩
  | false =>
    have hv : giveV15 l x = 0 := by
      unfold giveB15 at hE
      unfold giveV15
      rcases at15_cases l x with ⟨h, _⟩ | ⟨k, e, b, rfl, _, h⟩
      · rw [h]
      · rw [at15_nat, h] at hE ⊢
        cases b with
        | true => rfl
        | false => cases hE
    rw [hE] at k1
    rw [hv] at k1 ⊢
    have K1 := Lib.hid k1
    clear B1 r hP hE k1 hv
    go_enter Try.func11, Try.ntmps11
    go_wp2_with fail
    refine K1.out.mono ?_
    rintro e w2 ⟨v2, rfl, r2, hb2⟩
    obtain ⟨A2, n2, c2, rfl, HN2, R2⟩ := r2.open_
    have HB2 := Lib.hid hb2
    clear r2 hb2
    go_wp2
    go_ret3
    exact ⟨_, rfl, R2.out, below_on HB1.out HB2.out⟩

set_option maxRecDepth 100000 in
set_option maxHeartbeats 2000000 in
theorem rdo15_1 (r : RTab w P l v) (h64 : l.length ≤ 64) (wd : Wd15 l) (hP : ∀ b, w.heap.size ≤ b → P b) :
    Calls Try.prog 11 #[v, opV15 1 x] w (RDoP P (dropL15 l x) 0 (dropE15 l x) w) := by
  have B1 := below_al w (.cells #[.int .i64 1, .int .i64 x] 24)
  have K1 := Lib.hid (rdrop15_any P v l x _ (r.below B1) h64 wd (fun b hb => hP b (Nat.le_trans B1.size hb)))
  obtain ⟨A, n, d, rfl, HN, R⟩ := r.open_
  have HB1 := Lib.hid B1
  obtain ⟨E, hE⟩ : ∃ E, dropE15 l x = E := ⟨_, rfl⟩
  rw [hE] at K1 ⊢
  unfold opV15
  clear B1 r hP hE wd
  go_enter Try.func11, Try.ntmps11
  go_wp2_with fail
  refine K1.out.mono ?_
  rintro e w2 ⟨v2, rfl, r2, hb2⟩
  obtain ⟨A2, n2, c2, rfl, HN2, R2⟩ := r2.open_
  have HB2 := Lib.hid hb2
  clear r2 hb2
  go_wp2
  go_ret3
  exact ⟨_, rfl, R2.out, below_on HB1.out HB2.out⟩

set_option maxRecDepth 100000 in
set_option maxHeartbeats 2000000 in
theorem rdo15_3 (r : RTab w P l v) (h64 : l.length ≤ 64) (wd : Wd15 l) (hP : ∀ b, w.heap.size ≤ b → P b) :
    Calls Try.prog 11 #[v, opV15 3 x] w (RDoP P (dropL15 l (hanL15 l x)) 0 (dropE15 l (hanL15 l x)) w) := by
  have B1 := below_al w (.cells #[.int .i64 3, .int .i64 x] 24)
  have K1 := Lib.hid (rhandle15_any P v l x _ (r.below B1) h64 wd)
  have R1 := Lib.hid ((r.weak (Q := fun b => P b ∧ b ≠ w.heap.size) (fun b hb h => ⟨h, by omega⟩)).below B1)
  obtain ⟨A, n, d, rfl, HN, R⟩ := r.open_
  have HB1 := Lib.hid B1
  have ROW := Lib.hid (Row.new w 24 #[.int .i64 3, .int .i64 x])
  have KD := Lib.hid (fun W (r : RTab W P l (.slice A n d)) (hb : w.heap.size ≤ W.heap.size) => rdrop15_any P _ l (hanL15 l x) W r h64 wd (fun b hbb => hP b (Nat.le_trans hb hbb)))
  obtain ⟨y, hy⟩ : ∃ y, hanL15 l x = y := ⟨_, rfl⟩
  rw [hy] at K1 KD ⊢
  obtain ⟨E, hE⟩ : ∃ E, dropE15 l y = E := ⟨_, rfl⟩
  rw [hE] at KD ⊢
  unfold opV15
  clear B1 r hP hE wd hy
  go_enter Try.func11, Try.ntmps11
  go_wp2_with fail
  refine K1.out.mono ?_
  rintro e w2 ⟨rfl, hb2⟩
  have row2 := ROW.out.below hb2
  have f1 := row2.soft 1
  have c1 := row2.cell 1
  simp only [List.getElem?_cons_zero, List.getElem?_cons_succ] at c1
  have HB2 := Lib.hid (below_on HB1.out hb2)
  have R2 := Lib.hid (R1.out.below hb2)
  have ROW2 := Lib.hid row2
  have hlt2 := row2.lt
  clear hb2 row2 K1 R1 ROW
  have HB3 : Hid (Below w.heap.size w (w2.setCell ⟨w.heap.size, 1, none⟩ (.int .i64 y))) := Lib.hid (HB2.out.setCell (p := ⟨w.heap.size, 1, none⟩) (Nat.le_refl _) _)
  have R3 : Hid (RTab (w2.setCell ⟨w.heap.size, 1, none⟩ (.int .i64 y)) P l (.slice A n d)) := Lib.hid ((R2.out.only ((Only.refl (· = w.heap.size) w2).setCell (p := ⟨w.heap.size, 1, none⟩) (.inl rfl) _) (fun b e h => h.2 e)).weak (fun b _ h => h.1))
  have KD3 := Lib.hid (KD.out _ R3.out HB3.out.size)
  clear KD R2 R3
  go_wp2_with fail
  refine KD3.out.mono ?_
  rintro e w4 ⟨v4, rfl, r4, hb4⟩
  obtain ⟨A4, n4, c4, rfl, HN4, R4⟩ := r4.open_
  have HB4 := Lib.hid (below_on HB3.out hb4)
  clear r4 hb4
  go_wp2
  go_ret3
  exact ⟨_, rfl, R4.out, HB4.out⟩

set_option maxRecDepth 100000 in
set_option maxHeartbeats 2000000 in
theorem rdo15_2 (r : RTab w P l v) (h64 : l.length ≤ 64) (hP : ∀ b, w.heap.size ≤ b → P b) :
    Calls Try.prog 11 #[v, opV15 2 x] w (RDoP P (clearL15 l) ((onL15 l l.length).length : Int) 0 w) := by
  have B1 := below_al w (.cells #[.int .i64 2, .int .i64 x] 24)
  have K1 := Lib.hid (rclear15_any P v l _ (r.below B1) h64 (fun b hb => hP b (Nat.le_trans B1.size hb)))
  obtain ⟨A, n, d, rfl, HN, R⟩ := r.open_
  have R1 := Lib.hid (R.out.below B1)
  have HB1 := Lib.hid B1
  have KH := Lib.hid (fun W (r : RTab W P l (.slice A n d)) => rheld15_any P _ l W r h64)
  obtain ⟨m, hm⟩ : ∃ m, (onL15 l l.length).length = m := ⟨_, rfl⟩
  rw [hm]
  have HM := Lib.hid hm
  unfold opV15
  clear B1 r hP hm
  go_enter Try.func11, Try.ntmps11
  go_wp2_with fail
  refine K1.out.mono ?_
  rintro e w2 ⟨v2, rfl, r2, hb2⟩
  obtain ⟨A2, n2, c2, rfl, HN2, R2⟩ := r2.open_
  have HB2 := Lib.hid (below_on HB1.out hb2)
  have KH2 := Lib.hid (KH.out w2 (R1.out.below hb2))
  clear r2 hb2 KH R1
  go_wp2_with fail
  refine KH2.out.mono ?_
  rintro e w3 ⟨v3, rfl, own3, hb3⟩
  obtain ⟨A3, c3, rfl⟩ := own15_is own3
  rw [HM.out]
  have HB3 := Lib.hid (below_on HB2.out hb3)
  have R3 := Lib.hid (R2.out.below hb3)
  clear own3 hb3 R2
  go_wp2
  go_ret3
  exact ⟨_, rfl, R3.out, HB3.out⟩

set_option maxRecDepth 100000 in
set_option maxHeartbeats 2000000 in
theorem rdo15_4 (K : Int) (r : RTab w P l v) (h64 : l.length ≤ 64) (wd : Wd15 l) (h0 : (K == 0) = false) (h1 : (K == 1) = false) (h2 : (K == 2) = false) (h3 : (K == 3) = false) :
    Calls Try.prog 11 #[v, opV15 K x] w (RDoP P l (slotV15 l x) (b01 (slotB15 l x)) w) := by
  have B1 := below_al w (.cells #[.int .i64 K, .int .i64 x] 24)
  have k1 := rslot15_any P v l x _ (r.below B1) h64 wd
  obtain ⟨A, n, d, rfl, HN, R⟩ := r.open_
  have HB1 := Lib.hid B1
  unfold b01
  unfold opV15
  obtain ⟨V, hV⟩ : ∃ V, slotV15 l x = V := ⟨_, rfl⟩
  cases hE : slotB15 l x with
  | true =>
    rw [hE, hV] at k1
    rw [hV]
    have K1 := Lib.hid k1
    clear B1 r hE k1 hV wd
    go_enter Try.func11, Try.ntmps11
    go_wp2_with fail
    refine K1.out.mono ?_
    rintro e w2 ⟨rfl, rfl⟩
    go_wp2
    go_ret3
    exact ⟨_, rfl, R.out.below HB1.out, HB1.out⟩
  | false =>
    have hv : V = 0 := by
      rw [← hV]
      unfold slotB15 at hE
      unfold slotV15
      cases hs : slotO15 l x with
      | none => rfl
      | some j => rw [hs] at hE; cases hE
    subst hv
    rw [hE, hV] at k1
    rw [hV]
    have K1 := Lib.hid k1
    clear B1 r hE k1 hV wd
    go_enter Try.func11, Try.ntmps11
    go_wp2_with fail
    refine K1.out.mono ?_
    rintro e w2 ⟨rfl, rfl⟩
    go_wp2
    go_ret3
    exact ⟨_, rfl, R.out.below HB1.out, HB1.out⟩
end

/-- The call that a call stands for: 3 is a Drop of the handle that is meant. -/
def kN15 (K : Int) : Int := if K = 3 then 1 else K
def xN15 (l : List (Int × Bool)) (K x : Int) : Int := if K = 3 then hanL15 l x else x

theorem rdo15_any (P : Nat → Prop) (v : Value) (l : List (Int × Bool)) (K x : Int) (w : World) (r : RTab w P l v) (h64 : l.length ≤ 64) (wd : Wd15 l) (hP : ∀ b, w.heap.size ≤ b → P b) :
    Calls Try.prog 11 #[v, opV15 K x] w (RDoP P (dL15 l (kN15 K) (xN15 l K x)) (dV15 l (kN15 K) (xN15 l K x)) (dE15 l (kN15 K) (xN15 l K x)) w) := by
  unfold kN15 xN15
  by_cases h3 : K = 3
  · subst h3
    simp only [if_true]
    unfold dL15 dV15 dE15
    rw [if_neg (by omega), if_pos (by omega), if_neg (by omega), if_pos (by omega), if_neg (by omega), if_pos (by omega)]
    exact rdo15_3 P v l x w r h64 wd hP
  · simp only [if_neg h3]
    unfold dL15 dV15 dE15
    by_cases h0 : K = 0
    · subst h0
      simp only [if_true]
      exact rdo15_0 P v l x w r h64 hP
    · by_cases h1 : K = 1
      · subst h1
        rw [if_neg (by omega), if_pos (by omega), if_neg (by omega), if_pos (by omega), if_neg (by omega), if_pos (by omega)]
        exact rdo15_1 P v l x w r h64 wd hP
      · have h13 : ¬ (K = 1 ∨ K = 3) := by omega
        by_cases h2 : K = 2
        · subst h2
          simp only [if_neg h0, if_neg h13, if_true]
          exact rdo15_2 P v l x w r h64 hP
        · simp only [if_neg h0, if_neg h13, if_neg h2]
          exact rdo15_4 P v l x w K r h64 wd (by simpa using h0) (by simpa using h1) (by simpa using h2) (by simpa using h3)

#print axioms rdo15_any
end Go.Proofs.Ytikndnagflpckaa
