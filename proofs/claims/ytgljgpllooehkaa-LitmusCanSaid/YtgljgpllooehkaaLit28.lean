/-
  Layer 7 (litmus), no program in it: words are only handed on: with other words the same executions; the outcomes of LitmusOrder's programs.
  Conditions: those that each theorem states.
-/
import Derived.Test.YtgljgpllooehkaaLit22
namespace Go.Proofs.Ytgljgpllooehkaa

def mapC (f : Int → Int) (c : Core) : Core := ⟨c.next, c.regs.map f, c.buf.map fun p => (p.1, f p.2)⟩
def mapS (f : Int → Int) (s : St) : St := ⟨s.cores.map (mapC f), s.mem.map f⟩
def mapO (f : Int → Int) (o : Opn) : Opn := ⟨o.kind, o.addr, f o.word, o.reg⟩
def mapP (f : Int → Int) (p : List (List Opn)) : List (List Opn) := p.map (·.map (mapO f))

theorem map_core (f : Int → Int) (s : St) (i : Nat) : (mapS f s).cores[i]? = s.cores[i]?.map (mapC f) := by simp [mapS]

theorem map_wrt (f : Int → Int) (m : List Int) (p : Int × Int) : wrt (m.map f) (p.1, f p.2) = (wrt m p).map f := by simp [wrt, List.map_set]

theorem map_wrts (f : Int → Int) (q : List (Int × Int)) : ∀ m : List Int, (q.map fun p => (p.1, f p.2)).foldl wrt (m.map f) = (q.foldl wrt m).map f := by
  induction q with
  | nil => intro m; rfl
  | cons p q ih => intro m; rw [List.map_cons, List.foldl_cons, List.foldl_cons, map_wrt, ih]

theorem map_getD (f : Int → Int) (h0 : f 0 = 0) (m : List Int) (k : Nat) : (m.map f).getD k 0 = f (m.getD k 0) := by
  rw [List.getD_eq_getElem?_getD, List.getD_eq_getElem?_getD, List.getElem?_map]
  cases m[k]? <;> simp [h0]

theorem map_sees (f : Int → Int) (h0 : f 0 = 0) (q : List (Int × Int)) (m : List Int) (a : Int) : sees (q.map fun p => (p.1, f p.2)) (m.map f) a = f (sees q m a) := by
  unfold sees
  rw [map_getD f h0]
  generalize m.getD a.toNat 0 = x
  induction q generalizing x with
  | nil => rfl
  | cons p q ih =>
    simp only [List.map_cons, List.foldl_cons]
    rw [← ih]
    congr 1
    split <;> rfl

theorem map_next (f : Int → Int) (s : St) (i : Nat) : nextS i (mapS f s) = mapS f (nextS i s) := by
  unfold nextS
  rw [map_core]
  cases s.cores[i]? with
  | none => rfl
  | some c => simp [mapS, mapC, List.map_set]

theorem map_drain (f : Int → Int) (s : St) (i : Nat) : drainS i (mapS f s) = mapS f (drainS i s) := by
  unfold drainS
  rw [map_core]
  cases h : s.cores[i]? with
  | none => rfl
  | some c =>
    obtain ⟨n, r, b⟩ := c
    cases b with
    | nil => simp [mapC]
    | cons p q => simp [mapS, mapC, List.map_set, map_wrt]

theorem map_flush (f : Int → Int) (s : St) (i : Nat) : flushS i (mapS f s) = mapS f (flushS i s) := by
  unfold flushS
  rw [map_core]
  cases s.cores[i]? with
  | none => rfl
  | some c => simp [mapS, mapC, List.map_set, map_wrts]

theorem map_reg (f : Int → Int) (s : St) (i : Nat) (r x : Int) : regS i r (f x) (mapS f s) = mapS f (regS i r x s) := by
  unfold regS
  rw [map_core]
  cases s.cores[i]? with
  | none => rfl
  | some c => simp [mapS, mapC, List.map_set]

theorem map_push (f : Int → Int) (s : St) (i : Nat) (p : Int × Int) : pushS i (p.1, f p.2) (mapS f s) = mapS f (pushS i p s) := by
  unfold pushS
  rw [map_core]
  cases s.cores[i]? with
  | none => rfl
  | some c => simp [mapS, mapC, List.map_set]

theorem map_bufOf (f : Int → Int) (s : St) (i : Nat) : bufOf i (mapS f s) = (bufOf i s).map fun p => (p.1, f p.2) := by
  unfold bufOf
  rw [map_core]
  cases s.cores[i]? <;> rfl

theorem map_nextOf (f : Int → Int) (s : St) (i : Nat) : nextOf i (mapS f s) = nextOf i s := by
  unfold nextOf
  rw [map_core]
  cases s.cores[i]? <;> rfl

theorem map_store (f : Int → Int) (s : St) (N i : Nat) (a x : Int) : storeS N i (a, f x) (mapS f s) = mapS f (storeS N i (a, x) s) := by
  unfold storeS
  rw [map_bufOf, List.length_map]
  split
  · show (⟨_, _⟩ : St) = ⟨_, _⟩
    congr 1
    exact map_wrt f s.mem (a, x)
  · split
    · rw [map_drain]; exact map_push f _ i (a, x)
    · exact map_push f _ i (a, x)

theorem map_exec (f : Int → Int) (h0 : f 0 = 0) (s : St) (N i : Nat) (o : Opn) : execS N i (mapO f o) (mapS f s) = mapS f (execS N i o s) := by
  obtain ⟨K, a, x, r⟩ := o
  show execS N i ⟨K, a, f x, r⟩ (mapS f s) = _
  unfold execS
  dsimp only
  by_cases k1 : K = 1
  · rw [if_pos k1, if_pos k1, map_bufOf, map_next]
    show regS i r (sees _ (s.mem.map f) a) _ = _
    rw [map_sees f h0, map_reg]
  rw [if_neg k1, if_neg k1]
  by_cases k2 : K = 2
  · rw [if_pos k2, if_pos k2, map_next, map_store]
  rw [if_neg k2, if_neg k2]
  by_cases k3 : K = 3
  · rw [if_pos k3, if_pos k3, map_next, map_flush]
  rw [if_neg k3, if_neg k3]
  by_cases k4 : K = 4
  · rw [if_pos k4, if_pos k4, map_next, map_flush]
    have e : (mapS f (flushS i (nextS i s))).mem.getD a.toNat 0 = f ((flushS i (nextS i s)).mem.getD a.toNat 0) := map_getD f h0 _ _
    rw [e, map_reg]
    show (⟨_, _⟩ : St) = ⟨_, _⟩
    congr 1
    exact map_wrt f _ (a, x)
  · rw [if_neg k4, if_neg k4, map_next]

theorem map_steps (f : Int → Int) (h0 : f 0 = 0) (p : List (List Opn)) (N : Nat) (s : St) : stepsS (mapP f p) N (mapS f s) = (stepsS p N s).map (mapS f) := by
  unfold stepsS
  rw [List.map_flatMap]
  have hl : (mapP f p).length = p.length := by simp [mapP]
  rw [hl]
  congr 1
  funext i
  unfold stepsAt
  rw [map_nextOf, map_bufOf, map_drain, List.map_append]
  have hg : ((mapP f p).getD i [])[nextOf i s]? = ((p.getD i [])[nextOf i s]?).map (mapO f) := by
    rw [List.getD_eq_getElem?_getD, List.getD_eq_getElem?_getD]
    unfold mapP
    rw [List.getElem?_map]
    cases p[i]? <;> simp
  rw [hg]
  congr 1
  · cases (p.getD i [])[nextOf i s]? with
    | none => rfl
    | some o => simp [map_exec f h0]
  · cases bufOf i s <;> simp

theorem map_st0 (f : Int → Int) (h0 : f 0 = 0) : mapS f st0 = st0 := by
  simp [mapS, st0, core0, mapC, h0]

theorem map_reach (f : Int → Int) (h0 : f 0 = 0) (p : List (List Opn)) (N : Nat) (t : St) : Reach (mapP f p) N t ↔ ∃ s, Reach p N s ∧ t = mapS f s := by
  constructor
  · intro h
    induction h with
    | start => exact ⟨st0, .start, (map_st0 f h0).symm⟩
    | step _ ht ih =>
      obtain ⟨s, hs, rfl⟩ := ih
      rw [map_steps f h0] at ht
      obtain ⟨u, hu, rfl⟩ := List.mem_map.1 ht
      exact ⟨u, hs.step hu, rfl⟩
  · rintro ⟨s, hs, rfl⟩
    induction hs with
    | start => rw [map_st0 f h0]; exact .start
    | step _ ht ih => exact ih.step (by rw [map_steps f h0]; exact List.mem_map.2 ⟨_, ht, rfl⟩)

theorem map_out (f : Int → Int) (n : Nat) (s : St) : outS n (mapS f s) = (outS n s).map f := by
  unfold outS
  simp [mapS, mapC, List.map_append, List.map_flatMap, ← List.map_take, List.flatMap_map]

theorem map_isOut (f : Int → Int) (h0 : f 0 = 0) (p : List (List Opn)) (N : Nat) (x : List Int) : IsOut (mapP f p) N x ↔ ∃ y, IsOut p N y ∧ x = y.map f := by
  have hl : (mapP f p).length = p.length := by simp [mapP]
  constructor
  · rintro ⟨t, ht, he, rfl⟩
    obtain ⟨s, hs, rfl⟩ := (map_reach f h0 p N t).1 ht
    rw [map_steps f h0, List.map_eq_nil_iff] at he
    exact ⟨_, ⟨s, hs, he, rfl⟩, by rw [hl, map_out]⟩
  · rintro ⟨y, ⟨s, hs, he, rfl⟩, rfl⟩
    exact ⟨mapS f s, (map_reach f h0 p N _).2 ⟨s, hs, rfl⟩, by rw [map_steps f h0, he]; rfl, by rw [hl, map_out]⟩

/-- The programs of LitmusOrder. -/
def ordP (x y : Nat) (a b : Int) : List (List Opn) := [[⟨2, x, a, 0⟩, ⟨2, y, b, 0⟩], [⟨1, y, 0, 1⟩, ⟨1, x, 0, 2⟩]]
def ordM (x y : Nat) (a b : Int) : List Int := ([0, 0, 0, 0].set x a).set y b
def ordL (x y : Nat) (a b : Int) : List (List Int) :=
  [[0, 0, 0, 0, 0, 0, 0, 0] ++ ordM x y a b, [0, 0, 0, 0, 0, 0, a, 0] ++ ordM x y a b, [0, 0, 0, 0, 0, b, a, 0] ++ ordM x y a b]

def ordS (x y N : Nat) : List St := expl (ordP x y 1 2) N 400 [st0] [st0]
def ordOk (x y N : Nat) : Bool := closedB (ordP x y 1 2) N (ordS x y N) && outsB (ordP x y 1 2) N (ordS x y N) (ordL x y 1 2) && risingB (ordL x y 1 2)

theorem ord_all : ∀ x < 4, ∀ y < 4, x ≠ y → ∀ N < 5, ordOk x y N = true := by decide +kernel

theorem ord_base {x y N : Nat} (hx : x < 4) (hy : y < 4) (hne : x ≠ y) (hN : N < 5) : Outs (ordP x y 1 2) N (ordL x y 1 2) := by
  have h := ord_all x hx y hy hne N hN
  simp only [ordOk, Bool.and_eq_true] at h
  exact outs_of (S := ordS x y N) (expl_reach _ _ _ (fun s hs => by simp at hs; subst hs; exact .start) (fun s hs => by simp at hs; subst hs; exact .start)) h.1.1 h.1.2 h.2

def ordF (a b : Int) (z : Int) : Int := if z = 1 then a else if z = 2 then b else 0

theorem ord_rising (x y : Nat) {a b : Int} (ha : 1 ≤ a) (hb : 1 ≤ b) : (ordL x y a b).Pairwise (fun u v => cmpL u v < 0) := by
  refine risingB_pairwise ?_
  simp only [ordL, risingB, Bool.and_eq_true, decide_eq_true_eq, Bool.and_true]
  have h1 : (0 : Int) < a := by omega
  have h2 : (0 : Int) < b := by omega
  constructor
  · simp [cmpL, cmpI, h1]
  · simp [cmpL, cmpI, h2]

theorem ord_outs {x y N : Nat} {a b : Int} (hx : x < 4) (hy : y < 4) (hne : x ≠ y) (hN : N < 5) (ha : 1 ≤ a) (hb : 1 ≤ b) : Outs (ordP x y a b) N (ordL x y a b) where
  rising := ord_rising x y ha hb
  iff z := by
    have hf : ordF a b 0 = 0 := rfl
    have hp : mapP (ordF a b) (ordP x y 1 2) = ordP x y a b := by simp [mapP, ordP, mapO, ordF]
    have hm : (ordM x y 1 2).map (ordF a b) = ordM x y a b := by simp [ordM, List.map_set, ordF]
    have hl : ordL x y a b = (ordL x y 1 2).map (·.map (ordF a b)) := by simp [ordL, hm, ordF]
    rw [← hp, map_isOut _ hf, hl, List.mem_map]
    constructor
    · rintro ⟨u, hu, rfl⟩
      exact ⟨u, ((ord_base hx hy hne hN).iff u).1 hu, rfl⟩
    · rintro ⟨u, hu, rfl⟩
      exact ⟨u, ((ord_base hx hy hne hN).iff u).2 hu, rfl⟩

theorem ord_right {x y N : Nat} {a b : Int} (hx : x < 4) (hy : y < 4) (hN : N < 5) (ha : 1 ≤ a) (hb : 1 ≤ b) (ha9 : a ≤ 9) (hb9 : b ≤ 9) : RightS (ordP x y a b) (N : Int) where
  lo := by simp [ordP]
  hi := by simp [ordP]
  b0 := by omega
  b4 := by omega
  each l hl := by
    simp only [ordP, List.mem_cons, List.not_mem_nil, or_false] at hl
    rcases hl with rfl | rfl
    · refine ⟨by simp, fun o ho => ?_⟩
      simp only [List.mem_cons, List.not_mem_nil, or_false] at ho
      rcases ho with rfl | rfl <;> simp only [okOp] <;> omega
    · refine ⟨by simp, fun o ho => ?_⟩
      simp only [List.mem_cons, List.not_mem_nil, or_false] at ho
      rcases ho with rfl | rfl <;> simp only [okOp] <;> omega
  all := by simp [ordP]

#print axioms ord_outs
#print axioms ord_right
end Go.Proofs.Ytgljgpllooehkaa
