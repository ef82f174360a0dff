/-
  Layer 6 (bus): a bus that is known whole (BusAt), what a call on it leaves (BusP), its numbers, and what changes of its parts make of it.
  Conditions: those that each theorem states.
-/
import Derived.Test.YtgoogclcpnfmkaaSbuf4
import Derived.Test.YtgoogclcpnfmkaaRam4
namespace Go.Proofs.Ytgoogclcpnfmkaa
open Go.ChangeShapes Go.WideShapes Go.ChangeAt Go.RowKit

/-- Where a bus lies: its struct, the memory's struct and words, the row of buffers, the buffers' structs and their memories. -/
structure Lay where
  g : Nat
  rg : Nat
  rh : Nat
  bb : Nat
  gf : Nat → Nat
  hf : Nat → Option Nat

/-- With other memories of the buffers. -/
abbrev Lay.up (L : Lay) (f : Nat → Option Nat) : Lay := { L with hf := f }

/-- The blocks of a bus of n cores. -/
def Lay.fp (L : Lay) (n : Nat) (b : Nat) : Prop := b = L.g ∨ b = L.rg ∨ b = L.rh ∨ b = L.bb ∨ ∃ i, i < n ∧ (b = L.gf i ∨ L.hf i = some b)

/-- The memories f are those of L, or newer than w. -/
def Ext (L : Lay) (f : Nat → Option Nat) (w : World) : Prop := ∀ i b, f i = some b → L.hf i = some b ∨ w.heap.size ≤ b

/-- Pointers to the first n blocks of a function. -/
def ptrs (gf : Nat → Nat) (n : Nat) : List Value := (List.range n).map fun i => ptr (gf i)
theorem ptrs_len (gf : Nat → Nat) (n : Nat) : (ptrs gf n).length = n := by simp [ptrs]
theorem ptrs_at (gf : Nat → Nat) {n i : Nat} (h : i < n) : (ptrs gf n)[i]? = some (ptr (gf i)) := by simp [ptrs, h]

/-- A bus: where it lies, the capacity of its buffers, the words of its memory, the stores that wait, core by core. -/
structure BusAt (w : World) (L : Lay) (N : Nat) (l : List Int) (qs : List (List (Int × Int))) : Prop where
  top : Row w L.g 77 [ptr L.rg, .slice (some ⟨L.bb, 0, none⟩) qs.length qs.length]
  ram : RamAt w L.rg L.rh l
  row : Row w L.bb 78 (ptrs L.gf qs.length)
  buf : ∀ (i : Nat) (q : List (Int × Int)), qs[i]? = some q → BufQ w (L.gf i) (L.hf i) N q
  adr : ∀ (i : Nat) (q : List (Int × Int)), qs[i]? = some q → ∀ p ∈ q, p.1 < l.length
  gne : ∀ i j, i < qs.length → j < qs.length → i ≠ j → L.gf i ≠ L.gf j
  hne : ∀ i j b, i < qs.length → j < qs.length → i ≠ j → L.hf i = some b → L.hf j ≠ some b
  pos : 1 ≤ qs.length
  most : qs.length ≤ 8

theorem Lay.fp_g (L : Lay) (n : Nat) : L.fp n L.g := .inl rfl
theorem Lay.fp_rg (L : Lay) (n : Nat) : L.fp n L.rg := .inr (.inl rfl)
theorem Lay.fp_rh (L : Lay) (n : Nat) : L.fp n L.rh := .inr (.inr (.inl rfl))
theorem Lay.fp_bb (L : Lay) (n : Nat) : L.fp n L.bb := .inr (.inr (.inr (.inl rfl)))
theorem Lay.fp_gf (L : Lay) {n i : Nat} (h : i < n) : L.fp n (L.gf i) := .inr (.inr (.inr (.inr ⟨i, h, .inl rfl⟩)))
theorem Lay.fp_hf (L : Lay) {n i b : Nat} (h : i < n) (hb : L.hf i = some b) : L.fp n b := .inr (.inr (.inr (.inr ⟨i, h, .inr hb⟩)))

theorem lt_of_at {α : Type} {l : List α} {i : Nat} {x : α} (h : l[i]? = some x) : i < l.length := (List.getElem?_eq_some_iff.1 h).1

theorem BusAt.fp_lt {w : World} {L : Lay} {N : Nat} {l : List Int} {qs : List (List (Int × Int))} (r : BusAt w L N l qs) {b : Nat} (h : L.fp qs.length b) : b < w.heap.size := by
  rcases h with rfl | rfl | rfl | rfl | ⟨i, hi, h⟩
  · exact r.top.lt
  · exact r.ram.top.lt
  · exact r.ram.low.lt
  · exact r.row.lt
  · have hf := (r.buf i _ (List.getElem?_eq_getElem hi)).fit
    rcases h with rfl | h
    · exact hf.2.2.2.1
    · exact (hf.2.2.2.2.1 b h).1

theorem BusAt.only {S : Nat → Prop} {w w' : World} {L : Lay} {N : Nat} {l : List Int} {qs : List (List (Int × Int))} (r : BusAt w L N l qs) (ho : Only S w w') (hn : ∀ b, L.fp qs.length b → ¬ S b) : BusAt w' L N l qs where
  top := r.top.only ho (hn _ (L.fp_g _))
  ram := ⟨r.ram.top.only ho (hn _ (L.fp_rg _)), r.ram.low.only ho (hn _ (L.fp_rh _)), r.ram.len, r.ram.word⟩
  row := r.row.only ho (hn _ (L.fp_bb _))
  buf := fun i q h => (r.buf i q h).only ho (hn _ (L.fp_gf (lt_of_at h))) (fun b hb => hn b (L.fp_hf (lt_of_at h) hb))
  adr := r.adr
  gne := r.gne
  hne := r.hne
  pos := r.pos
  most := r.most

theorem BusAt.below {w w' : World} {L : Lay} {N : Nat} {l : List Int} {qs : List (List (Int × Int))} (r : BusAt w L N l qs) (hb : Below w.heap.size w w') : BusAt w' L N l qs :=
  r.only (Only.of_below hb (fun _ => False)) (fun _ _ h => h)

/-- The element types of a bus's blocks tell them apart. -/
theorem BusAt.apart {w : World} {L : Lay} {N : Nat} {l : List Int} {qs : List (List (Int × Int))} (r : BusAt w L N l qs) {i : Nat} (hi : i < qs.length) :
    L.g ≠ L.gf i ∧ L.rg ≠ L.gf i ∧ L.rh ≠ L.gf i ∧ L.bb ≠ L.gf i ∧ L.g ≠ L.rh ∧ L.rg ≠ L.rh ∧ L.bb ≠ L.rh ∧ (∀ b, L.hf i = some b → L.g ≠ b ∧ L.rg ≠ b ∧ L.rh ≠ b ∧ L.bb ≠ b) ∧
    ∀ j, j < qs.length → L.gf j ≠ L.rh ∧ (∀ b, L.hf j = some b → b ≠ L.rh) ∧ (∀ b, L.hf j = some b → b ≠ L.gf i) := by
  have key : ∀ j, j < qs.length → ∃ A c q, BufAt w (L.gf j) (L.hf j) N A c q := fun j hj => by
    obtain ⟨A, c, h⟩ := r.buf j _ (List.getElem?_eq_getElem hj)
    exact ⟨A, c, _, h⟩
  have mem : ∀ j, j < qs.length → ∀ b, L.hf j = some b → ∃ cs, Row w b 112 cs := fun j hj b hb => by
    obtain ⟨A, c, q, h⟩ := key j hj
    rcases h.mem with ⟨_, h0⟩ | ⟨b', off, cs, hh, _, hr, _⟩
    · rw [hb] at h0; cases h0
    · rw [hb] at hh; injection hh with hh; subst hh; exact ⟨cs, hr⟩
  obtain ⟨A, c, q, bi⟩ := key i hi
  refine ⟨r.top.ne bi.top (by decide), r.ram.top.ne bi.top (by decide), r.ram.low.ne bi.top (by decide), r.row.ne bi.top (by decide), r.top.ne r.ram.low (by decide), r.ram.top.ne r.ram.low (by decide), r.row.ne r.ram.low (by decide), ?_, ?_⟩
  · intro b hb
    obtain ⟨cs, hr⟩ := mem i hi b hb
    exact ⟨r.top.ne hr (by decide), r.ram.top.ne hr (by decide), r.ram.low.ne hr (by decide), r.row.ne hr (by decide)⟩
  · intro j hj
    obtain ⟨A', c', q', bj⟩ := key j hj
    refine ⟨bj.top.ne r.ram.low (by decide), ?_, ?_⟩
    · intro b hb
      obtain ⟨cs, hr⟩ := mem j hj b hb
      exact hr.ne r.ram.low (by decide)
    · intro b hb
      obtain ⟨cs, hr⟩ := mem j hj b hb
      exact hr.ne bi.top (by decide)

/-- A call on one buffer, as the bus sees it. -/
theorem BusAt.putBuf {w w' : World} {L : Lay} {N : Nat} {l : List Int} {qs : List (List (Int × Int))} (r : BusAt w L N l qs) {i : Nat} (hi : i < qs.length) {h' : Option Nat} {q' : List (Int × Int)}
    (hb : BufQ w' (L.gf i) h' N q') (ho : Only (fun b => b = L.gf i ∨ L.hf i = some b) w w') (hh : ∀ b, h' = some b → L.hf i = some b ∨ w.heap.size ≤ b) (ha : ∀ p ∈ q', p.1 < l.length) :
    BusAt w' (L.up fun j => if j = i then h' else L.hf j) N l (qs.set i q') := by
  obtain ⟨a1, a2, a3, a4, a5, a6, a7, a8, a9⟩ := r.apart hi
  have hlen : (qs.set i q').length = qs.length := List.length_set
  have new : ∀ j b, j < qs.length → L.hf j = some b → b < w.heap.size := fun j b hj hb => r.fp_lt (L.fp_hf hj hb)
  constructor
  · rw [hlen]
    exact r.top.only ho (fun h => h.elim (fun e => a1 e) (fun e => (a8 _ e).1 rfl))
  · exact ⟨r.ram.top.only ho (fun h => h.elim (fun e => a2 e) (fun e => (a8 _ e).2.1 rfl)), r.ram.low.only ho (fun h => h.elim (fun e => a3 e) (fun e => (a8 _ e).2.2.1 rfl)), r.ram.len, r.ram.word⟩
  · rw [hlen]
    exact r.row.only ho (fun h => h.elim (fun e => a4 e) (fun e => (a8 _ e).2.2.2 rfl))
  · intro j q hj
    rw [List.getElem?_set] at hj
    by_cases hij : i = j
    · subst hij
      rw [if_pos rfl, if_pos hi] at hj
      injection hj with hj
      subst hj
      show BufQ w' (L.gf i) (if i = i then h' else L.hf i) N _
      rw [if_pos rfl]
      exact hb
    · rw [if_neg hij] at hj
      have hjl := lt_of_at hj
      show BufQ w' (L.gf j) (if j = i then h' else L.hf j) N q
      rw [if_neg (fun e => hij e.symm)]
      refine (r.buf j q hj).only ho (fun h => h.elim (fun e => r.gne j i hjl hi (fun e => hij e.symm) e) (fun e => ?_)) (fun b hb h => h.elim (fun e => (a9 j hjl).2.2 b hb e) (fun e => r.hne i j b hi hjl hij e hb))
      exact (r.apart hjl).2.2.2.2.2.2.2.2 i hi |>.2.2 _ e rfl
  · intro j q hj
    rw [List.getElem?_set] at hj
    by_cases hij : i = j
    · subst hij
      rw [if_pos rfl, if_pos hi] at hj
      injection hj with hj
      subst hj
      exact ha
    · rw [if_neg hij] at hj
      exact r.adr j q hj
  · rw [hlen]; exact r.gne
  · rw [hlen]
    intro j k b hj hk hjk h1 h2
    simp only at h1 h2
    by_cases e1 : j = i
    · rw [if_pos e1] at h1
      rw [if_neg (by omega)] at h2
      rcases hh b h1 with h | h
      · exact r.hne j k b hj hk hjk (by rw [e1]; exact h) h2
      · have := new k b hk h2; omega
    · rw [if_neg e1] at h1
      by_cases e2 : k = i
      · rw [if_pos e2] at h2
        rcases hh b h2 with h | h
        · exact r.hne j k b hj hk hjk h1 (by rw [e2]; exact h)
        · have := new j b hj h1; omega
      · rw [if_neg e2] at h2
        exact r.hne j k b hj hk hjk h1 h2
  · rw [hlen]; exact r.pos
  · rw [hlen]; exact r.most

/-- A call on the memory, as the bus sees it. -/
theorem BusAt.putRam {w w' : World} {L : Lay} {N : Nat} {l l' : List Int} {qs : List (List (Int × Int))} (r : BusAt w L N l qs) (hr : RamAt w' L.rg L.rh l') (ho : Only (fun b => b = L.rh) w w') (hl : l'.length = l.length) : BusAt w' L N l' qs := by
  have h0 : 0 < qs.length := r.pos
  obtain ⟨a1, a2, a3, a4, a5, a6, a7, a8, a9⟩ := r.apart h0
  exact { top := r.top.only ho a5, ram := hr, row := r.row.only ho a7, buf := fun i q h => (r.buf i q h).only ho (a9 i (lt_of_at h)).1 (fun b hb => (a9 i (lt_of_at h)).2.1 b hb), adr := fun i q h p hp => by rw [hl]; exact r.adr i q h p hp, gne := r.gne, hne := r.hne, pos := r.pos, most := r.most }

theorem Ext.refl (L : Lay) (w : World) : Ext L L.hf w := fun _ _ h => .inl h
theorem Ext.trans {L : Lay} {f f' : Nat → Option Nat} {w w' : World} (h : Ext L f w) (h' : Ext (L.up f) f' w') (hs : w.heap.size ≤ w'.heap.size) : Ext L f' w := fun i b hb => by
  rcases h' i b hb with h1 | h1
  · exact h i b h1
  · exact .inr (by omega)
theorem Ext.one {L : Lay} {w : World} {i : Nat} {h' : Option Nat} (hh : ∀ b, h' = some b → L.hf i = some b ∨ w.heap.size ≤ b) : Ext L (fun j => if j = i then h' else L.hf j) w := fun j b hb => by
  simp only at hb
  by_cases e : j = i
  · rw [if_pos e] at hb; rw [e]; exact hh b hb
  · rw [if_neg e] at hb; exact .inl hb
theorem Ext.mono {L : Lay} {f : Nat → Option Nat} {w w' : World} (h : Ext L f w') (hs : w.heap.size ≤ w'.heap.size) : Ext L f w := fun i b hb => (h i b hb).imp id (fun h => by omega)

theorem Ext.fp {L : Lay} {f : Nat → Option Nat} {w : World} (h : Ext L f w) {n b : Nat} (hb : (L.up f).fp n b) : L.fp n b ∨ w.heap.size ≤ b := by
  rcases hb with hb | hb | hb | hb | ⟨i, hi, hb | hb⟩
  · exact .inl (.inl hb)
  · exact .inl (.inr (.inl hb))
  · exact .inl (.inr (.inr (.inl hb)))
  · exact .inl (.inr (.inr (.inr (.inl hb))))
  · exact .inl (.inr (.inr (.inr (.inr ⟨i, hi, .inl hb⟩))))
  · rcases h i b hb with h1 | h1
    · exact .inl (L.fp_hf hi h1)
    · exact .inr h1

theorem Only.up {L : Lay} {f : Nat → Option Nat} {n : Nat} {a w w' : World} (h : Only (L.fp n) a w) (he : Ext L f a) (k : Only ((L.up f).fp n) w w') : Only (L.fp n) a w' :=
  ⟨k.os.trans h.os, k.tape.trans h.tape, k.output.trans h.output, Nat.le_trans h.size k.size, fun i hi hn => (k.block i (Nat.lt_of_lt_of_le hi h.size) (fun hf => (he.fp hf).elim hn (fun h2 => by omega))).trans (h.block i hi hn)⟩

/-- What a call that may change the bus leaves: its answer, and the bus. -/
def BusP (L : Lay) (N : Nat) (l : List Int) (qs : List (List (Int × Int))) (a : Value) (w : World) (e : Ending) (w' : World) : Prop :=
  ∃ f, e = .returned a ∧ BusAt w' (L.up f) N l qs ∧ Ext L f w ∧ Only (L.fp qs.length) w w'

/-- The words behind stores that were drained. -/
def drs (l : List Int) (q : List (Int × Int)) : List Int := q.foldl (fun l p => fillL l p.1 1 p.2) l
theorem drs_nil (l : List Int) : drs l [] = l := rfl
theorem drs_one (l : List Int) (p : Int × Int) : drs l [p] = fillL l p.1 1 p.2 := rfl
theorem drs_append (l : List Int) (a b : List (Int × Int)) : drs l (a ++ b) = drs (drs l a) b := by simp [drs]
theorem drs_len (l : List Int) (q : List (Int × Int)) : (drs l q).length = l.length := by
  induction q generalizing l with
  | nil => rfl
  | cons p t ih => exact (ih _).trans (fillL_len _ _ _ _)
theorem drs_more (l : List Int) (q : List (Int × Int)) (k : Nat) : drs (drs l (q.take k)) ((q.drop k).take 1) = drs l (q.take (k + 1)) := by
  rw [← drs_append, List.take_add]
theorem take_one_cons (p : Int × Int) (t : List (Int × Int)) : (p :: t).take 1 = [p] := rfl

theorem set_same {α : Type} {l : List α} {i : Nat} {x : α} (h : l[i]? = some x) : l.set i x = l := by
  obtain ⟨hi, rfl⟩ := List.getElem?_eq_some_iff.1 h
  exact List.set_getElem_self hi
theorem set_at {α : Type} {l : List α} {i : Nat} (x : α) (h : i < l.length) : (l.set i x)[i]? = some x := by simp [h]

#print axioms BusAt.putBuf
#print axioms Only.up
end Go.Proofs.Ytgoogclcpnfmkaa
