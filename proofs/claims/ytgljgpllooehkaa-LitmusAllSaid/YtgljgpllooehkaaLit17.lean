/-
  Layer 7 (litmus): lists of lists in memory; slices.SortFunc over them.
  Conditions: those that each theorem states.
-/
import Derived.Test.YtgljgpllooehkaaLit16
import Derived.Test.YtgljgpllooehkaaLitSort
namespace Go.Proofs.Ytgljgpllooehkaa
open Go.ChangeShapes Go.WideShapes Go.ChangeAt Go.RowKit Go.Sort Go.Shelf

/-- Rows of other element types lie in other blocks. -/
theorem own_types {w : World} {b1 b2 s1 s2 n1 n2 : Nat} {e1 e2 : TypeId} {v1 v2 : Value} {x1 x2 : List Value} (h1 : w.ownsRow b1 e1 s1 v1 n1 x1) (h2 : w.ownsRow b2 e2 s2 v2 n2 x2) (hne : e1 ≠ e2) : ∀ k, v1.ownBlock = some k → v2.ownBlock ≠ some k := by
  intro k hk hk2
  rcases h1.2 with ⟨rfl, _⟩ | ⟨g, cap, cur, rfl, _, hg, _⟩
  · cases hk
  · rcases h2.2 with ⟨rfl, _⟩ | ⟨g', cap', cur', rfl, _, hg', _⟩
    · cases hk2
    · injection hk with hk
      injection hk2 with hk2
      subst hk hk2
      rw [hg] at hg'
      injection hg' with hg'
      injection hg' with _ ht
      exact hne ht

/-- The value v is a list of lists of integers, in rows of the call's own. -/
structure Lists (w : World) (base : Nat) (v : Value) (vs : List Value) (Ls : List (List Int)) : Prop where
  own : w.ownsRow base 35 1 v vs.length vs
  len : vs.length = Ls.length
  each : ∀ (i : Nat) (u : Value) (l : List Int), vs[i]? = some u → Ls[i]? = some l → w.ownsRow base 3 1 u l.length (ints l)

theorem own_grown {w w' : World} {base : Nat} {e : TypeId} {size : Nat} {v : Value} {n : Nat} {xs : List Value} {row : Option Nat} (h : w.ownsRow base e size v n xs) (hg : w.grownBy w' row) (hn : ∀ k, v.ownBlock = some k → row ≠ some k) : w'.ownsRow base e size v n xs :=
  own_only h (S := fun b => row = some b) ⟨hg.os, hg.tape, hg.output, hg.size, fun k hk hne => hg.block k hk (fun e => hne e.symm)⟩ (fun k hk e => hn k hk e)

theorem Lists.below {w w' : World} {base : Nat} {v : Value} {vs : List Value} {Ls : List (List Int)} (h : Lists w base v vs Ls) (hb : Below w.heap.size w w') : Lists w' base v vs Ls :=
  ⟨own_grown h.own (gr_below hb none) (fun _ _ => by simp), h.len, fun i u l hu hl => own_grown (h.each i u l hu hl) (gr_below hb none) (fun _ _ => by simp)⟩

theorem Lists.nil_ (w : World) (base : Nat) : Lists w base (.slice none 0 0) [] [] := ⟨⟨rfl, .inl ⟨rfl, rfl⟩⟩, rfl, fun i u l hu _ => by simp at hu⟩

theorem Lists.intsAt {w : World} {base : Nat} {v : Value} {vs : List Value} {Ls : List (List Int)} (h : Lists w base v vs Ls) {i : Nat} {u : Value} {l : List Int} (hu : vs[i]? = some u) (hl : Ls[i]? = some l) : IntsAt w u l := IntsAt.of_own (h.each i u l hu hl)

theorem sort_only {α : Type} [Inhabited α] (enc : α → Value) (w : World) (blk off m : Nat) (dk : Array α) (os : Array Obj) : Only (· = blk) w (sortWorld enc w blk off m dk os) := by
  refine ⟨rfl, rfl, rfl, ?_, ?_⟩
  · simp only [sortWorld, grow, putRow, mapBlock, Sort.ahead, Array.size_append, Array.size_modify]
    omega
  · intro k hk hne
    simp only [sortWorld, grow, putRow, mapBlock, Sort.ahead]
    rw [Array.getElem?_append, if_pos (by simpa using hk), Array.getElem?_modify, if_neg (fun e => hne e.symm)]

theorem sort_heap {α : Type} [Inhabited α] (enc : α → Value) (w : World) (blk off m : Nat) (dk : Array α) (os : Array Obj) {cur : Array Value} {e : TypeId} (hg : w.heap[blk]? = some (.cells cur e (0, 0))) :
    (sortWorld enc w blk off m dk os).heap[blk]? = some (.cells (putCells enc off dk cur) e (0, 0)) := by
  have hlt : blk < w.heap.size := (Array.getElem?_eq_some_iff.1 hg).1
  simp only [sortWorld, grow, putRow, mapBlock, Sort.ahead]
  rw [Array.getElem?_append, if_pos (by simpa using hlt), Array.getElem?_modify, if_pos rfl, hg]
  rfl

/-- What sorting leaves. -/
def SortP (base : Nat) (v : Value) (Ls : List (List Int)) (w : World) (e : Ending) (w' : World) : Prop :=
  e = .returned (.tuple #[]) ∧ ∃ vs' Ls', Lists w' base v vs' Ls' ∧ Ls'.Pairwise (fun x y => cmpL x y < 0) ∧ (∀ x, x ∈ Ls' ↔ x ∈ Ls) ∧ Only (fun b => v.ownBlock = some b) w w' ∧ Ls'.length = Ls.length

theorem sort_any (base : Nat) (v : Value) (vs : List Value) (Ls : List (List Int)) (w : World) (h : Lists w base v vs Ls) (hne : vs ≠ []) (hnd : Ls.Nodup) (hl : ∀ l ∈ Ls, l.length ≤ 1000000) (hsz : vs.length < 4611686018427387904) :
    Calls Try.prog 24 #[v, .func (.func 25) #[] #[]] w (SortP base v Ls w) := by
  obtain ⟨m, hm⟩ : ∃ m, vs.length = m + 1 := ⟨vs.length - 1, by have := List.length_pos_iff.2 hne; omega⟩
  have hLm : Ls.length = m + 1 := by rw [← h.len]; exact hm
  have hown := h.own
  rcases hown.2 with ⟨_, h0⟩ | ⟨g, cap, cur, rfl, hb, hg, hn, hmx, hcs, ht⟩
  · omega
  rw [Nat.mul_one] at hcs ht
  let enc : Fin (m + 1) → Value := fun i => vs[i.1]'(by rw [hm]; exact i.2)
  let L : Fin (m + 1) → List Int := fun i => Ls[i.1]'(by rw [hLm]; exact i.2)
  let cf : Fin (m + 1) → Fin (m + 1) → Int := fun i j => cmpL (L i) (L j)
  let d : Array (Fin (m + 1)) := Array.ofFn id
  have hd : d.size = m + 1 := by simp [d]
  have hdj : ∀ j (hj : j < m + 1), d[j]! = (⟨j, hj⟩ : Fin (m + 1)) := fun j hj => by
    rw [getElem!_pos d j (by rw [hd]; exact hj)]
    simp [d]
  have hve : ∀ i : Fin (m + 1), vs[i.1]? = some (enc i) := fun i => List.getElem?_eq_getElem _
  have hLe : ∀ i : Fin (m + 1), Ls[i.1]? = some (L i) := fun i => List.getElem?_eq_getElem _
  have heach : ∀ i : Fin (m + 1), w.ownsRow base 3 1 (enc i) (L i).length (ints (L i)) := fun i => h.each i.1 _ _ (hve i) (hLe i)
  have hone : OneCell enc := fun i => by
    rcases (heach i).2 with ⟨e, _⟩ | ⟨_, _, _, e, _⟩ <;> rw [e] <;> rfl
  have hO : SWO (ltOf cf) := {
    irrefl := fun x => by
      have : cf x x = 0 := cmpL_zero.2 rfl
      simp [ltOf, this]
    trans := fun x y z h1 h2 => by
      simp only [ltOf, decide_eq_true_eq] at *
      exact cmpL_trans h1 h2
    ntrans := fun x y z h1 h2 => by
      simp only [ltOf, decide_eq_false_iff_not] at *
      intro h3
      have e1 := cmpL_neg (L x) (L y)
      have e2 := cmpL_neg (L y) (L z)
      have k1 : cmpL (L y) (L x) ≤ 0 := by have : ¬ cmpL (L x) (L y) < 0 := h1; omega
      have k2 : cmpL (L z) (L y) ≤ 0 := by have : ¬ cmpL (L y) (L z) < 0 := h2; omega
      have h3' : cmpL (L x) (L z) < 0 := h3
      by_cases z1 : cmpL (L y) (L x) = 0
      · have := cmpL_zero.1 z1
        rw [← this] at h3'
        omega
      · have k4 := cmpL_trans (show cmpL (L y) (L x) < 0 by omega) h3'
        omega }
  have eg : ∀ args w, (callFunc 25 args).run Try.prog w = .ok (.enter 25 args) w := enters_of Try.func25 (by kernel_rfl) rfl
  have inner : ∀ {W : World}, Only (· = g) w W → ∀ i, W.ownsRow base 3 1 (enc i) (L i).length (ints (L i)) := fun hW i =>
    own_only (heach i) hW (fun k hk e => own_types (heach i) h.own (by decide) k hk (by rw [e]; rfl))
  have hcmp : CmpReads Try.prog 25 #[] enc cf g 0 d.size w := fun q os dk hdk x y => by
    have hW := sort_only enc w g 0 q dk os
    refine (compare_any (enc x) (enc y) (L x) (L y) _ (IntsAt.of_own (inner hW x)) (IntsAt.of_own (inner hW y)) (hl _ (List.getElem_mem _))).mono ?_
    rintro e w' ⟨he, hw⟩
    exact ⟨he, 0, hw.symm⟩
  have hH : Holds enc w g 0 d := fun j hj => by
    rw [hd] at hj
    refine ⟨?_, by simp [World.frozen?, hg]⟩
    rw [Nat.zero_add, cell_of_row w g j cur _ (0, 0) hg, hdj j hj, ← hve ⟨j, hj⟩]
    simp only
    rw [← ht, List.getElem?_take, if_pos (by rw [hm]; exact hj)]
    simp
  have con := Any.slices_SortFunc Try.sortF enc hone cf hO 25 #[] g 0 cap d w eg hcmp.lays hH (Array.getElem?_eq_some_iff.1 hg).1 (by rw [hd]; omega)
  rw [hd] at con
  rw [hm]
  refine Calls.mono con ?_
  rintro e w' ⟨he, d', q, os, hperm, hsort, rfl⟩
  obtain ⟨hsz', _, hpm⟩ := hperm
  have hd' : d'.size = m + 1 := hsz'.trans hd
  have hpm' : d'.toList.Perm d.toList := by
    have e1 : (d'.extract 0 (m + 1)).toList = d'.toList := by simp [← hd']
    have e2 : (d.extract 0 (m + 1)).toList = d.toList := by simp [← hd]
    rw [e1, e2] at hpm
    exact hpm
  have hdt : ∀ j (hj : j < m + 1), d.toList[j]? = some (⟨j, hj⟩ : Fin (m + 1)) := fun j hj => by
    have := hdj j hj
    rw [getElem!_pos d j (by rw [hd]; exact hj)] at this
    rw [List.getElem?_eq_getElem (by simp [hd]; exact hj)]
    simpa using this
  have hdl : d.toList.Nodup := by
    rw [List.nodup_iff_pairwise_ne, List.pairwise_iff_getElem]
    intro i j hi hj hij e
    have hi' : i < m + 1 := by simpa [hd] using hi
    have hj' : j < m + 1 := by simpa [hd] using hj
    have e1 := hdt i hi'
    have e2 := hdt j hj'
    rw [List.getElem?_eq_getElem hi] at e1
    rw [List.getElem?_eq_getElem hj, ← e] at e2
    rw [e1] at e2
    injection e2 with e2
    injection e2 with e2
    omega
  have hdl' : d'.toList.Nodup := hpm'.symm.nodup hdl
  have hall : ∀ i : Fin (m + 1), i ∈ d.toList := fun i => List.mem_of_getElem? (hdt i.1 i.2)
  have hat : ∀ j (hj : j < m + 1), d'[j]! = d'.toList[j]'(by simp [hd']; exact hj) := fun j hj => by
    rw [getElem!_pos d' j (by rw [hd']; exact hj)]; simp
  refine ⟨he, d'.toList.map enc, d'.toList.map L, ⟨⟨by simp, .inr ⟨g, cap, putCells enc 0 d' cur, ?_, hb, sort_heap enc w g 0 q d' os hg, ?_, hmx, ?_, ?_⟩⟩, by simp, ?_⟩, ?_, ?_, ?_, by simp [hd', hLm]⟩
  · simp [hd']
  · simp [hd']; omega
  · simp [putCells, hcs]
  · apply List.ext_getElem?
    intro j
    simp only [List.length_map, Array.length_toList, hd', Nat.mul_one, List.getElem?_take, putCells, List.getElem?_map]
    by_cases hj : j < m + 1
    · have hjc : j < cur.size := by omega
      rw [if_pos hj]
      rw [show d'.toList[j]? = some (d'[j]!) by rw [hat j hj, List.getElem?_eq_getElem]]
      simp [hjc, hd', hj]
    · rw [if_neg hj, List.getElem?_eq_none (by simp [hd']; omega)]
      rfl
  · intro i u l hu hl'
    simp only [List.getElem?_map, Option.map_eq_some_iff] at hu hl'
    obtain ⟨a, ha, rfl⟩ := hu
    obtain ⟨b, hb', rfl⟩ := hl'
    rw [ha] at hb'
    injection hb' with e
    subst e
    exact inner (sort_only enc w g 0 q d' os) a
  · rw [List.pairwise_iff_getElem]
    intro i j hi hj hij
    simp only [List.length_map, Array.length_toList, hd'] at hi hj
    simp only [List.getElem_map]
    have hs := hsort i j (Nat.zero_le _) hij hj
    simp only [ltOf, decide_eq_false_iff_not] at hs
    rw [hat i hi, hat j hj] at hs
    have hs' : ¬ cmpL (L (d'.toList[j]'(by simp [hd']; exact hj))) (L (d'.toList[i]'(by simp [hd']; exact hi))) < 0 := hs
    have hn2 := cmpL_neg (L (d'.toList[i]'(by simp [hd']; exact hi))) (L (d'.toList[j]'(by simp [hd']; exact hj)))
    have hne' : cmpL (L (d'.toList[i]'(by simp [hd']; exact hi))) (L (d'.toList[j]'(by simp [hd']; exact hj))) ≠ 0 := by
      intro e
      have e2 := cmpL_zero.1 e
      have e3 := (List.nodup_iff_pairwise_ne.1 hnd)
      rw [List.pairwise_iff_getElem] at e3
      have e4 := List.pairwise_iff_getElem.1 (List.nodup_iff_pairwise_ne.1 hdl') i j (by simp [hd']; exact hi) (by simp [hd']; exact hj) hij
      have hlt : ∀ a : Fin (m + 1), a.1 < Ls.length := fun a => by rw [hLm]; exact a.2
      rcases Nat.lt_or_gt_of_ne (fun e5 => e4 (Fin.ext e5)) with h5 | h5
      · exact e3 _ _ (hlt _) (hlt _) h5 e2
      · exact e3 _ _ (hlt _) (hlt _) h5 e2.symm
    omega
  · intro x
    simp only [List.mem_map]
    constructor
    · rintro ⟨a, _, rfl⟩
      exact List.getElem_mem _
    · intro hx
      obtain ⟨i, hi, rfl⟩ := List.getElem_of_mem hx
      exact ⟨⟨i, by rw [← hLm]; exact hi⟩, hpm'.symm.mem_iff.1 (hall _), rfl⟩
  · exact (sort_only enc w g 0 q d' os).mono (fun b _ e => by rw [e]; rfl)

#print axioms sort_any
end Go.Proofs.Ytgljgpllooehkaa
