/-
  Layer 9 (mbox): mailboxes that are known whole (BoxAt), what a call on them leaves (BoxP), and what changes of their parts make of them.
  Conditions: those that each theorem states.
-/
import Derived.Test.YtfboikefjealfaaLane3
import Derived.Test.YtfboikefjealfaaTwo
import Derived.Test.YtfboikefjealfaaMbN
namespace Go.Proofs.Ytfboikefjealfaa
open Go.ChangeShapes Go.WideShapes Go.ChangeAt Go.RowKit

theorem lt_of_at {α : Type} {l : List α} {i : Nat} {x : α} (h : l[i]? = some x) : i < l.length := (List.getElem?_eq_some_iff.1 h).1
theorem size_al (w : World) (o : Obj) : (w.alloc o).heap.size = w.heap.size + 1 := by simp

theorem flat_set1 : ∀ (l : List (Value × Value)) (i : Nat) (x : Value) (p : Value × Value), l[i]? = some p → (flat l).set (i * 2) x = flat (l.set i (x, p.2))
  | [], i, x, p, h => by simp at h
  | q :: l, 0, x, p, h => by
    simp only [List.getElem?_cons_zero, Option.some.injEq] at h
    subst h
    simp [flat]
  | q :: l, i + 1, x, p, h => by
    have e : (i + 1) * 2 = i * 2 + 1 + 1 := by omega
    rw [e]
    simp only [flat, List.set_cons_succ]
    rw [flat_set1 l i x p (by simpa using h)]

/-- Where mailboxes lie: the struct, the row of mailboxes, the queues' structs and rings. -/
structure MLay where
  g : Nat
  mb : Nat
  gf : Nat → Nat
  hf : Nat → Nat

/-- Their blocks. -/
def MLay.fp (L : MLay) (n : Nat) (b : Nat) : Prop := b = L.g ∨ b = L.mb ∨ ∃ i, i < n ∧ (b = L.gf i ∨ b = L.hf i)
theorem MLay.fp_g (L : MLay) (n : Nat) : L.fp n L.g := .inl rfl
theorem MLay.fp_mb (L : MLay) (n : Nat) : L.fp n L.mb := .inr (.inl rfl)
theorem MLay.fp_gf (L : MLay) {n i : Nat} (h : i < n) : L.fp n (L.gf i) := .inr (.inr ⟨i, h, .inl rfl⟩)
theorem MLay.fp_hf (L : MLay) {n i : Nat} (h : i < n) : L.fp n (L.hf i) := .inr (.inr ⟨i, h, .inr rfl⟩)

/-- A mailbox's two cells; all of them. -/
def mcell (gf : Nat → Nat) (i : Nat) (m : Mail) : Value × Value := (.int .i64 (maskB m.1), ptr (gf i))
def mc (gf : Nat → Nat) (ms : List Mail) : List Value := flat (ms.mapIdx (mcell gf))
theorem mc_len (gf : Nat → Nat) (ms : List Mail) : (mc gf ms).length = ms.length * 2 := by simp [mc, flat_len]
theorem mc_at {gf : Nat → Nat} {ms : List Mail} {i : Nat} {m : Mail} (h : ms[i]? = some m) : (mc gf ms)[i * 2]? = some (.int .i64 (maskB m.1)) ∧ (mc gf ms)[i * 2 + 1]? = some (ptr (gf i)) := by
  have : (ms.mapIdx (mcell gf))[i]? = some (mcell gf i m) := by simp [List.getElem?_mapIdx, h]
  exact flat_at this
theorem mapIdx_setC (gf : Nat → Nat) (ms : List Mail) (i : Nat) (m : Mail) : (ms.mapIdx (mcell gf)).set i (mcell gf i m) = (ms.set i m).mapIdx (mcell gf) := by
  apply List.ext_getElem?
  intro j
  simp only [List.getElem?_set, List.getElem?_mapIdx, List.length_mapIdx]
  by_cases h : i = j
  · subst h
    by_cases h2 : i < ms.length <;> simp [h2]
  · simp [h]
theorem mc_set {gf : Nat → Nat} {ms : List Mail} {i : Nat} {m : Mail} (h : ms[i]? = some m) (b : List Bool) (q : List (Int × Int)) : (mc gf ms).set (i * 2) (.int .i64 (maskB b)) = mc gf (ms.set i (b, q)) := by
  have h1 : (ms.mapIdx (mcell gf))[i]? = some (mcell gf i m) := by simp [List.getElem?_mapIdx, h]
  unfold mc
  rw [flat_set1 _ i _ _ h1]
  exact congrArg flat (mapIdx_setC gf ms i (b, q))
theorem mc_same {gf : Nat → Nat} {ms : List Mail} {i : Nat} {m : Mail} (h : ms[i]? = some m) (q : List (Int × Int)) : mc gf ms = mc gf (ms.set i (m.1, q)) := by
  have h1 : (ms.mapIdx (mcell gf))[i]? = some (mcell gf i m) := by simp [List.getElem?_mapIdx, h]
  unfold mc
  rw [← mapIdx_setC gf ms i (m.1, q)]
  congr 1
  apply List.ext_getElem?
  intro j
  rw [List.getElem?_set]
  by_cases e : i = j
  · subst e
    rw [if_pos rfl, h1, if_pos (lt_of_at h1)]
    rfl
  · rw [if_neg e]

structure BoxAt (w : World) (L : MLay) (ms : List Mail) : Prop where
  top : Row w L.g 62 [.slice (some ⟨L.mb, 0, none⟩) ms.length ms.length]
  row : Row w L.mb 66 (mc L.gf ms)
  q : ∀ (i : Nat) (m : Mail), ms[i]? = some m → LaneQ w (L.gf i) (L.hf i) 16 (jns m.2)
  ok : ∀ (i : Nat) (m : Mail), ms[i]? = some m → MailOk m
  gne : ∀ i j, i < ms.length → j < ms.length → i ≠ j → L.gf i ≠ L.gf j
  hne : ∀ i j, i < ms.length → j < ms.length → i ≠ j → L.hf i ≠ L.hf j
  pos : 1 ≤ ms.length
  most : ms.length ≤ 8

theorem LaneQ.rows {w : World} {g h N : Nat} {q : List Int} (r : LaneQ w g h N q) : ∃ cs ds, Row w g 86 cs ∧ Row w h 3 ds := by
  obtain ⟨f, ring, r⟩ := r
  exact ⟨_, _, r.top, r.low⟩

theorem BoxAt.fp_lt {w : World} {L : MLay} {ms : List Mail} (r : BoxAt w L ms) {b : Nat} (h : L.fp ms.length b) : b < w.heap.size := by
  rcases h with rfl | rfl | ⟨i, hi, h⟩
  · exact r.top.lt
  · exact r.row.lt
  · have hf := (r.q i _ (List.getElem?_eq_getElem hi)).fit
    rcases h with rfl | rfl
    · exact hf.2.2.2.1
    · exact hf.2.2.2.2

theorem BoxAt.only {S : Nat → Prop} {w w' : World} {L : MLay} {ms : List Mail} (r : BoxAt w L ms) (ho : Only S w w') (hn : ∀ b, L.fp ms.length b → ¬ S b) : BoxAt w' L ms where
  top := r.top.only ho (hn _ (L.fp_g _))
  row := r.row.only ho (hn _ (L.fp_mb _))
  q := fun i m h => (r.q i m h).only ho (hn _ (L.fp_gf (lt_of_at h))) (hn _ (L.fp_hf (lt_of_at h)))
  ok := r.ok
  gne := r.gne
  hne := r.hne
  pos := r.pos
  most := r.most

theorem BoxAt.below {w w' : World} {L : MLay} {ms : List Mail} (r : BoxAt w L ms) (hb : Below w.heap.size w w') : BoxAt w' L ms :=
  r.only (Only.of_below hb (fun _ => False)) (fun _ _ h => h)

/-- The element types of the blocks tell them apart. -/
theorem BoxAt.apart {w : World} {L : MLay} {ms : List Mail} (r : BoxAt w L ms) {i : Nat} (hi : i < ms.length) :
    L.g ≠ L.gf i ∧ L.g ≠ L.hf i ∧ L.mb ≠ L.gf i ∧ L.mb ≠ L.hf i ∧ ∀ j, j < ms.length → L.gf j ≠ L.hf i := by
  obtain ⟨cs, ds, h1, h2⟩ := (r.q i _ (List.getElem?_eq_getElem hi)).rows
  refine ⟨r.top.ne h1 (by decide), r.top.ne h2 (by decide), r.row.ne h1 (by decide), r.row.ne h2 (by decide), fun j hj => ?_⟩
  obtain ⟨cs', ds', h3, h4⟩ := (r.q j _ (List.getElem?_eq_getElem hj)).rows
  exact h3.ne h2 (by decide)

theorem BoxAt.gm {w : World} {L : MLay} {ms : List Mail} (r : BoxAt w L ms) : L.g ≠ L.mb := r.top.ne r.row (by decide)

/-- A call on one queue, as the mailboxes see it. -/
theorem BoxAt.putQ {w w' : World} {L : MLay} {ms : List Mail} (r : BoxAt w L ms) {i : Nat} {m : Mail} (hm : ms[i]? = some m) {q' : List (Int × Int)}
    (hb : LaneQ w' (L.gf i) (L.hf i) 16 (jns q')) (ho : Only (fun b => b = L.gf i ∨ b = L.hf i) w w') (hk : MailOk (m.1, q')) : BoxAt w' L (ms.set i (m.1, q')) := by
  have hi := lt_of_at hm
  obtain ⟨a1, a2, a3, a4, a5⟩ := r.apart hi
  have hlen : (ms.set i (m.1, q')).length = ms.length := List.length_set
  refine ⟨?_, ?_, ?_, ?_, by rw [hlen]; exact r.gne, by rw [hlen]; exact r.hne, by rw [hlen]; exact r.pos, by rw [hlen]; exact r.most⟩
  · rw [hlen]
    exact r.top.only ho (fun h => h.elim a1 a2)
  · rw [← mc_same hm q']
    exact r.row.only ho (fun h => h.elim a3 a4)
  · intro j m' hj
    rw [List.getElem?_set] at hj
    by_cases e : i = j
    · subst e
      rw [if_pos rfl, if_pos hi] at hj
      injection hj with hj
      subst hj
      exact hb
    · rw [if_neg e] at hj
      have hjl := lt_of_at hj
      refine (r.q j m' hj).only ho (fun h => h.elim (fun h => r.gne j i hjl hi (fun x => e x.symm) h) (fun h => a5 j hjl h)) (fun h => h.elim (fun h => (r.apart hjl).2.2.2.2 i hi h.symm) (fun h => r.hne j i hjl hi (fun x => e x.symm) h))
  · intro j m' hj
    rw [List.getElem?_set] at hj
    by_cases e : i = j
    · subst e
      rw [if_pos rfl, if_pos hi] at hj
      injection hj with hj
      subst hj
      exact hk
    · rw [if_neg e] at hj
      exact r.ok j m' hj

/-- A store of bits, as the mailboxes see it. -/
theorem BoxAt.putB {w : World} {L : MLay} {ms : List Mail} (r : BoxAt w L ms) {i : Nat} {m : Mail} (hm : ms[i]? = some m) (b : List Bool) (hb : b.length = 8) : BoxAt (w.setCell ⟨L.mb, i * 2, none⟩ (.int .i64 (maskB b))) L (ms.set i (b, m.2)) := by
  have hi := lt_of_at hm
  have hlen : (ms.set i (b, m.2)).length = ms.length := List.length_set
  have ho : Only (fun b => b = L.mb) w (w.setCell ⟨L.mb, i * 2, none⟩ (.int .i64 (maskB b))) := (Only.refl (fun b => b = L.mb) w).setCell (p := ⟨L.mb, i * 2, none⟩) (.inl rfl) _
  refine ⟨?_, ?_, ?_, ?_, by rw [hlen]; exact r.gne, by rw [hlen]; exact r.hne, by rw [hlen]; exact r.pos, by rw [hlen]; exact r.most⟩
  · rw [hlen]
    exact r.top.far (p := ⟨L.mb, i * 2, none⟩) r.gm _
  · rw [← mc_set hm b m.2]
    exact r.row.put (i * 2) _
  · intro j m' hj
    rw [List.getElem?_set] at hj
    by_cases e : i = j
    · subst e
      rw [if_pos rfl, if_pos hi] at hj
      injection hj with hj
      subst hj
      exact (r.q i m hm).only ho (fun h => (r.apart hi).2.2.1 h.symm) (fun h => (r.apart hi).2.2.2.1 h.symm)
    · rw [if_neg e] at hj
      have hjl := lt_of_at hj
      exact (r.q j m' hj).only ho (fun h => (r.apart hjl).2.2.1 h.symm) (fun h => (r.apart hjl).2.2.2.1 h.symm)
  · intro j m' hj
    rw [List.getElem?_set] at hj
    by_cases e : i = j
    · subst e
      rw [if_pos rfl, if_pos hi] at hj
      injection hj with hj
      subst hj
      exact ⟨hb, (r.ok i m hm).fit, (r.ok i m hm).low⟩
    · rw [if_neg e] at hj
      exact r.ok j m' hj

/-- What a call that may change mailboxes leaves: its answer, and the mailboxes. -/
def BoxP (L : MLay) (ms : List Mail) (a : Value) (w : World) (e : Ending) (w' : World) : Prop :=
  e = .returned a ∧ BoxAt w' L ms ∧ Only (L.fp ms.length) w w'

/-- What a call leaves that only tells. -/
def TellP (a : Value) (w : World) (e : Ending) (w' : World) : Prop := e = .returned a ∧ Below w.heap.size w w'

theorem only_put (w : World) (b i : Nat) (u : Value) : Only (fun g => g = b) w (w.setCell ⟨b, i, none⟩ u) := (Only.refl (fun g => g = b) w).setCell (p := ⟨b, i, none⟩) (.inl rfl) u
theorem set_same {α : Type} {l : List α} {i : Nat} {x : α} (h : l[i]? = some x) : l.set i x = l := by
  apply List.ext_getElem?
  intro j
  rw [List.getElem?_set]
  by_cases e : i = j
  · subst e
    rw [if_pos rfl, if_pos (lt_of_at h), h]
  · rw [if_neg e]
theorem BoxAt.setVar {w : World} {L : MLay} {ms : List Mail} (r : BoxAt w L ms) {c : Nat} (hn : ¬ L.fp ms.length c) (i : Nat) (u : Value) : BoxAt (w.setCell ⟨c, i, none⟩ u) L ms := r.only (only_put w c i u) (fun _ hb e => hn (e ▸ hb))
theorem BoxAt.new_not {w : World} {L : MLay} {ms : List Mail} (r : BoxAt w L ms) {c : Nat} (h : w.heap.size ≤ c) : ¬ L.fp ms.length c := fun hb => by have := r.fp_lt hb; omega
theorem set_at {α : Type} {l : List α} {i : Nat} {x y : α} (h : l[i]? = some x) : (l.set i y)[i]? = some y := by
  rw [List.getElem?_set, if_pos rfl, if_pos (lt_of_at h)]
theorem set_set' {α : Type} (l : List α) (i : Nat) (x y : α) : (l.set i x).set i y = l.set i y := by simp

#print axioms BoxAt.putQ
#print axioms BoxAt.putB
end Go.Proofs.Ytfboikefjealfaa
