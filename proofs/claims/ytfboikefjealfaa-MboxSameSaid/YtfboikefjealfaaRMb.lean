/-
  The reference of layer 9: its mailboxes as a value (RBox); Is, has.
  Conditions: those that each theorem states.
-/
import Derived.Test.YtfboikefjealfaaMb16
namespace Go.Proofs.Ytfboikefjealfaa
open Go.ChangeShapes Go.WideShapes Go.ChangeAt Go.RowKit

/-- The slice v holds rows of cells; its block, if it has elements, is one of those that P allows. -/
def Many (w : World) (P : Nat → Prop) (v : Value) (rows : List (List Value)) : Prop :=
  ∃ A c, v = .slice A rows.length c ∧ (0 < rows.length → ∃ g o, A = some ⟨g, o, none⟩ ∧ P g ∧ g < w.heap.size ∧ ∀ j u, rows.flatten[j]? = some u → w.cell? ⟨g, o + j, none⟩ = some u)

theorem Many.weak {w : World} {P Q : Nat → Prop} {v : Value} {rows : List (List Value)} (h : Many w P v rows) (hPQ : ∀ g, g < w.heap.size → P g → Q g) : Many w Q v rows := by
  obtain ⟨A, c, rfl, hc⟩ := h
  refine ⟨A, c, rfl, fun hp => ?_⟩
  obtain ⟨g, o, hA, hP, hlt, hcell⟩ := hc hp
  exact ⟨g, o, hA, hPQ g hlt hP, hlt, hcell⟩

theorem Many.only {S : Nat → Prop} {w w' : World} {P : Nat → Prop} {v : Value} {rows : List (List Value)} (h : Many w P v rows) (ho : Only S w w') (hr : ∀ g, S g → ¬ P g) : Many w' P v rows := by
  obtain ⟨A, c, rfl, hc⟩ := h
  refine ⟨A, c, rfl, fun hp => ?_⟩
  obtain ⟨g, o, hA, hP, hlt, hcell⟩ := hc hp
  refine ⟨g, o, hA, hP, Nat.lt_of_lt_of_le hlt ho.size, fun j u hu => ?_⟩
  rw [World.cell?_of_block (w := w) (ho.block g hlt (fun e => hr g e hP))]
  exact hcell j u hu

theorem flatten_len {rows : List (List Value)} {k : Nat} (h : ∀ r ∈ rows, r.length = k) : rows.flatten.length = rows.length * k := by
  induction rows with
  | nil => simp
  | cons r t ih =>
    rw [List.flatten_cons, List.length_append, ih (fun r hr => h r (List.mem_cons_of_mem _ hr)), h r List.mem_cons_self, List.length_cons, Nat.add_mul]
    omega

theorem flatten_at {rows : List (List Value)} {k : Nat} (h : ∀ r ∈ rows, r.length = k) {i j : Nat} {r : List Value} (hr : rows[i]? = some r) (hj : j < k) : rows.flatten[i * k + j]? = r[j]? := by
  induction rows generalizing i with
  | nil => simp at hr
  | cons r0 t ih =>
    have h0 := h r0 List.mem_cons_self
    rw [List.flatten_cons]
    cases i with
    | zero =>
      simp only [List.getElem?_cons_zero, Option.some.injEq] at hr
      subst hr
      rw [Nat.zero_mul, Nat.zero_add, List.getElem?_append_left (by omega)]
    | succ i =>
      have hr' : t[i]? = some r := by simpa using hr
      have e : (i + 1) * k + j = k + (i * k + j) := by rw [Nat.add_mul]; omega
      rw [e, List.getElem?_append_right (by omega), h0, Nat.add_sub_cancel_left]
      exact ih (fun r hr => h r (List.mem_cons_of_mem _ hr)) hr'

/-- A row of cells set one after the other. -/
def sets (l : List Value) (a : Nat) : List Value → List Value
  | [] => l
  | v :: vs => sets (l.set a v) (a + 1) vs
theorem sets_over : ∀ (vs r rest : List Value), r.length = vs.length → sets (r ++ rest) 0 vs = vs ++ rest := by
  have key : ∀ (vs done r rest : List Value), r.length = vs.length → sets (done ++ (r ++ rest)) done.length vs = done ++ (vs ++ rest) := by
    intro vs
    induction vs with
    | nil =>
      intro done r rest h
      have : r = [] := List.eq_nil_of_length_eq_zero h
      subst this
      rfl
    | cons v vs ih =>
      intro done r rest h
      cases r with
      | nil => simp at h
      | cons r0 r =>
        show sets ((done ++ (r0 :: r ++ rest)).set done.length v) (done.length + 1) vs = _
        rw [List.set_append_right _ _ (Nat.le_refl _), Nat.sub_self]
        have := ih (done ++ [v]) r rest (by simpa using h)
        simpa using this
  intro vs r rest h
  exact key vs [] r rest h
theorem sets_far : ∀ (vs pre rest : List Value) (a : Nat), sets (pre ++ rest) (pre.length + a) vs = pre ++ sets rest a vs := by
  intro vs
  induction vs with
  | nil => intro pre rest a; rfl
  | cons v vs ih =>
    intro pre rest a
    show sets ((pre ++ rest).set (pre.length + a) v) (pre.length + a + 1) vs = _
    rw [List.set_append_right _ _ (by omega), Nat.add_sub_cancel_left, Nat.add_assoc]
    exact ih pre (rest.set a v) (a + 1)
theorem sets_flatten {rows : List (List Value)} {k : Nat} (h : ∀ r ∈ rows, r.length = k) {i : Nat} (hi : i < rows.length) {vs : List Value} (hv : vs.length = k) : sets rows.flatten (i * k) vs = (rows.set i vs).flatten := by
  induction rows generalizing i with
  | nil => simp at hi
  | cons r0 t ih =>
    have h0 := h r0 List.mem_cons_self
    cases i with
    | zero =>
      rw [Nat.zero_mul, List.flatten_cons, sets_over vs r0 t.flatten (by omega)]
      simp
    | succ i =>
      have e : (i + 1) * k = r0.length + i * k := by rw [Nat.add_mul, h0]; omega
      rw [e, List.flatten_cons, sets_far, ih (fun r hr => h r (List.mem_cons_of_mem _ hr)) (by simpa using hi)]
      simp

/-- A mailbox of the reference as cells: eight bits and a slice of items. -/
def rcL (m : Mail) (lv : Value) : List Value := m.1.map Value.bool ++ [lv]
theorem rcL_len {m : Mail} (h : MailOk m) (lv : Value) : (rcL m lv).length = 9 := by simp [rcL, h.len]
theorem bools8 {l : List Bool} (h : l.length = 8) : ∃ b0 b1 b2 b3 b4 b5 b6 b7, l = [b0, b1, b2, b3, b4, b5, b6, b7] := by
  match l, h with
  | [b0, b1, b2, b3, b4, b5, b6, b7], _ => exact ⟨b0, b1, b2, b3, b4, b5, b6, b7, rfl⟩

/-- The mailboxes of the reference, a slice of cores. -/
structure RBox (w : World) (P : Nat → Prop) (ms : List Mail) (v : Value) : Prop where
  rows : ∃ lvs, Many w P v (List.zipWith rcL ms lvs) ∧ lvs.length = ms.length ∧ ∀ (i : Nat) (m : Mail) (lv : Value), ms[i]? = some m → lvs[i]? = some lv → Two w P lv (its m.2) ∧ CapOk lv
  cap : CapOk v
  ok : ∀ (i : Nat) (m : Mail), ms[i]? = some m → MailOk m
  pos : 1 ≤ ms.length
  most : ms.length ≤ 8

theorem RBox.only {S : Nat → Prop} {w w' : World} {P : Nat → Prop} {ms : List Mail} {v : Value} (h : RBox w P ms v) (ho : Only S w w') (hr : ∀ g, S g → ¬ P g) : RBox w' P ms v := by
  obtain ⟨lvs, h1, h2, h3⟩ := h.rows
  exact ⟨⟨lvs, h1.only ho hr, h2, fun i m lv a b => ⟨(h3 i m lv a b).1.only ho hr, (h3 i m lv a b).2⟩⟩, h.cap, h.ok, h.pos, h.most⟩
theorem RBox.below {w w' : World} {P : Nat → Prop} {ms : List Mail} {v : Value} (h : RBox w P ms v) (hb : Below w.heap.size w w') : RBox w' P ms v :=
  h.only (Only.of_below hb (fun _ => False)) (fun _ h => h.elim)
theorem RBox.weak {w : World} {P Q : Nat → Prop} {ms : List Mail} {v : Value} (h : RBox w P ms v) (hPQ : ∀ g, g < w.heap.size → P g → Q g) : RBox w Q ms v := by
  obtain ⟨lvs, h1, h2, h3⟩ := h.rows
  exact ⟨⟨lvs, h1.weak hPQ, h2, fun i m lv a b => ⟨(h3 i m lv a b).1.weak hPQ, (h3 i m lv a b).2⟩⟩, h.cap, h.ok, h.pos, h.most⟩

theorem zip_len {ms : List Mail} {lvs : List Value} (h : lvs.length = ms.length) : (List.zipWith rcL ms lvs).length = ms.length := by simp [h]
theorem zip_nine {ms : List Mail} {lvs : List Value} (ok : ∀ (i : Nat) (m : Mail), ms[i]? = some m → MailOk m) : ∀ r ∈ List.zipWith rcL ms lvs, r.length = 9 := by
  intro r hr
  obtain ⟨i, hi, rfl⟩ := List.mem_iff_getElem.1 hr
  simp only [List.getElem_zipWith]
  exact rcL_len (ok i _ (List.getElem?_eq_getElem _)) _

/-- The slice written out. -/
theorem RBox.open_ {w : World} {P : Nat → Prop} {ms : List Mail} {v : Value} (h : RBox w P ms v) : ∃ A c, v = .slice A ms.length c := by
  obtain ⟨lvs, ⟨A, c, hv, _⟩, h2, _⟩ := h.rows
  exact ⟨A, c, by rw [hv, zip_len h2]⟩

/-- Core number i: where it lies. -/
theorem RBox.core {w : World} {P : Nat → Prop} {ms : List Mail} {A : Option Addr} {n d : Nat} (h : RBox w P ms (.slice A n d)) {i : Nat} {m : Mail} (hm : ms[i]? = some m) :
    ∃ g o lv, A = some ⟨g, o, none⟩ ∧ P g ∧ g < w.heap.size ∧ (∀ j u, (rcL m lv)[j]? = some u → w.cell? ⟨g, o + i * 9 + j, none⟩ = some u) ∧ Two w P lv (its m.2) ∧ CapOk lv := by
  obtain ⟨lvs, ⟨A', c', hv, hA⟩, h2, h3⟩ := h.rows
  injection hv with e1 e2 e3
  subst e1
  have hi := lt_of_at hm
  obtain ⟨lv, hlv⟩ : ∃ lv, lvs[i]? = some lv := ⟨_, List.getElem?_eq_getElem (by omega)⟩
  obtain ⟨g, o, rfl, hP, hg, hc⟩ := hA (by rw [zip_len h2]; omega)
  have hrow : (List.zipWith rcL ms lvs)[i]? = some (rcL m lv) := by rw [List.getElem?_zipWith, hm, hlv]
  refine ⟨g, o, lv, rfl, hP, hg, fun j u hu => ?_, h3 i m lv hm hlv⟩
  have hj : j < 9 := by rw [← rcL_len (h.ok i m hm) lv]; exact lt_of_at hu
  rw [Nat.add_assoc]
  refine hc _ _ ?_
  rw [flatten_at (zip_nine h.ok) hrow hj]
  exact hu

/-- What a call of the reference leaves: its mailboxes, and the rest of what it answers. -/
def RBoxP (P : Nat → Prop) (ms : List Mail) (ans : Value → Value) (w : World) (e : Ending) (w' : World) : Prop :=
  ∃ A n c, e = .returned (ans (.slice A n c)) ∧ RBox w' P ms (.slice A n c) ∧ Below w.heap.size w w'

theorem core_info : (Try.prog.info? 40).map (fun i => (i.zero, i.size, i.bytes)) = some (some (.agg #[.bool false, .bool false, .bool false, .bool false, .bool false, .bool false, .bool false, .bool false, .slice none 0 0]), 9, 32) := by kernel_rfl

/-- May there be so many cores? -/
def isC (c : Int) : Bool := decide (1 ≤ c ∧ c ≤ 8)

set_option maxRecDepth 100000 in
set_option maxHeartbeats 400000 in
theorem ris9_any (c : Int) (w : World) :
    Calls Try.prog 9 #[.int .i64 c] w fun e w' => e = .returned (.bool (isC c)) ∧ w = w' := by
  by_cases h : 1 ≤ c
  · have e : isC c = decide (c ≤ 8) := by simp [isC, h]
    have E := Lib.hid e; clear e
    go_enter Try.func9, Try.ntmps9
    go_wp2
    go_ret
    exact ⟨by rw [E.out]; rfl, rfl⟩
  · have e : isC c = false := by simp [isC, h]
    have E := Lib.hid e; clear e
    go_enter Try.func9, Try.ntmps9
    go_wp2
    go_ret
    exact ⟨by rw [E.out]; rfl, rfl⟩

set_option maxRecDepth 100000 in
set_option maxHeartbeats 400000 in
theorem rhas9 (A : Option Addr) (n d : Nat) (c : Int) (w : World) :
    Calls Try.prog 23 #[.slice A n d, .int .i64 c] w fun e w' => e = .returned (.bool (cIs n c)) ∧ w = w' := by
  by_cases h0 : 0 ≤ c
  · have e : cIs n c = decide (c < (n : Int)) := by simp [cIs, h0]
    have E := Lib.hid e; clear e
    go_enter Try.func23, Try.ntmps23
    go_wp2
    go_ret
    exact ⟨by rw [E.out]; rfl, rfl⟩
  · have e : cIs n c = false := by simp [cIs, h0]
    have E := Lib.hid e; clear e
    go_enter Try.func23, Try.ntmps23
    go_wp2
    go_ret
    exact ⟨by rw [E.out]; rfl, rfl⟩

#print axioms sets_flatten
#print axioms RBox.core
#print axioms rhas9
end Go.Proofs.Ytfboikefjealfaa
