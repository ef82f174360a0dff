/-
  Layer 7 (litmus): the chapter's example: all outcomes of one program by reckoning; crossed, alive.
  Conditions: those that each theorem states.
-/
import Derived.Test.YtgljgpllooehkaaLit20
namespace Go.Proofs.Ytgljgpllooehkaa
open Go.ChangeShapes Go.WideShapes Go.ChangeAt Go.RowKit

/-- A search by reckoning. -/
def expl (p : List (List Opn)) (N : Nat) : Nat → List St → List St → List St
  | 0, _, seen => seen
  | _, [], seen => seen
  | f + 1, s :: todo, seen =>
    let new := ((stepsS p N s).filter fun t => !decide (t ∈ seen)).eraseDups
    expl p N f (new ++ todo) (seen ++ new)

theorem mem_eraseDups {α : Type} [BEq α] [LawfulBEq α] {a : α} {l : List α} (h : a ∈ l.eraseDups) : a ∈ l := List.mem_eraseDups.1 h

theorem expl_reach {p : List (List Opn)} {N : Nat} : ∀ (f : Nat) (todo seen : List St), (∀ s ∈ todo, Reach p N s) → (∀ s ∈ seen, Reach p N s) → ∀ s ∈ expl p N f todo seen, Reach p N s
  | 0, _, _, _, h2 => h2
  | _ + 1, [], _, _, h2 => h2
  | f + 1, s :: todo, seen, h1, h2 => by
    have hn : ∀ t ∈ ((stepsS p N s).filter fun t => !decide (t ∈ seen)).eraseDups, Reach p N t := fun t ht =>
      (h1 s (by simp)).step (List.mem_filter.1 (mem_eraseDups ht)).1
    refine expl_reach f _ _ ?_ ?_
    · intro t ht
      rcases List.mem_append.1 ht with ht | ht
      · exact hn t ht
      · exact h1 t (by simp [ht])
    · intro t ht
      rcases List.mem_append.1 ht with ht | ht
      · exact h2 t ht
      · exact hn t ht

def closedB (p : List (List Opn)) (N : Nat) (S : List St) : Bool := decide (st0 ∈ S) && S.all fun s => (stepsS p N s).all fun t => decide (t ∈ S)
def outsB (p : List (List Opn)) (N : Nat) (S : List St) (L : List (List Int)) : Bool :=
  (S.all fun s => !(stepsS p N s).isEmpty || decide (outS p.length s ∈ L)) && L.all fun x => S.any fun s => (stepsS p N s).isEmpty && decide (outS p.length s = x)
def risingB : List (List Int) → Bool
  | x :: y :: l => decide (cmpL x y < 0) && risingB (y :: l)
  | _ => true

theorem risingB_pairwise : ∀ {L : List (List Int)}, risingB L = true → L.Pairwise (fun x y => cmpL x y < 0)
  | [], _ => List.Pairwise.nil
  | [_], _ => by simp
  | x :: y :: l, h => by
    simp only [risingB, Bool.and_eq_true, decide_eq_true_eq] at h
    have ih := risingB_pairwise h.2
    refine List.pairwise_cons.2 ⟨fun z hz => ?_, ih⟩
    rcases List.mem_cons.1 hz with rfl | hz
    · exact h.1
    · exact cmpL_trans h.1 ((List.pairwise_cons.1 ih).1 z hz)

theorem outs_of {p : List (List Opn)} {N : Nat} {S : List St} {L : List (List Int)} (hS : ∀ s ∈ S, Reach p N s) (hc : closedB p N S = true) (ho : outsB p N S L = true) (hr : risingB L = true) : Outs p N L where
  rising := risingB_pairwise hr
  iff x := by
    simp only [closedB, Bool.and_eq_true, decide_eq_true_eq, List.all_eq_true] at hc
    simp only [outsB, Bool.and_eq_true, List.all_eq_true, List.any_eq_true, Bool.or_eq_true, decide_eq_true_eq, Bool.not_eq_true', List.isEmpty_iff] at ho
    have all : ∀ s, Reach p N s → s ∈ S := by
      intro s hs
      induction hs with
      | start => exact hc.1
      | step _ ht ih => exact hc.2 _ ih _ ht
    constructor
    · intro hx
      obtain ⟨s, hs, h1, h2⟩ := ho.2 x hx
      exact ⟨s, hS s hs, h1, h2⟩
    · rintro ⟨s, h1, h2, rfl⟩
      rcases ho.1 s (all s h1) with h3 | h3
      · rw [h2] at h3; simp at h3
      · exact h3

def crossedP : List (List Opn) := [[⟨2, 0, 1, 0⟩, ⟨1, 1, 0, 0⟩], [⟨2, 1, 1, 0⟩, ⟨1, 0, 0, 0⟩]]
def crossed0 : List (List Int) := [[0, 0, 0, 0, 1, 0, 0, 0, 1, 1, 0, 0], [1, 0, 0, 0, 0, 0, 0, 0, 1, 1, 0, 0], [1, 0, 0, 0, 1, 0, 0, 0, 1, 1, 0, 0]]
def crossed1 : List (List Int) := [0, 0, 0, 0, 0, 0, 0, 0, 1, 1, 0, 0] :: crossed0

theorem outs0 : Outs crossedP 0 crossed0 :=
  outs_of (S := expl crossedP 0 100 [st0] [st0]) (expl_reach _ _ _ (fun s hs => by simp at hs; subst hs; exact .start) (fun s hs => by simp at hs; subst hs; exact .start)) (by decide +kernel) (by decide +kernel) (by decide +kernel)

theorem outs1 : Outs crossedP 1 crossed1 :=
  outs_of (S := expl crossedP 1 200 [st0] [st0]) (expl_reach _ _ _ (fun s hs => by simp at hs; subst hs; exact .start) (fun s hs => by simp at hs; subst hs; exact .start)) (by decide +kernel) (by decide +kernel) (by decide +kernel)

theorem right_crossed {N : Int} (h0 : 0 ≤ N) (h4 : N ≤ 4) : RightS crossedP N where
  lo := by decide
  hi := by decide
  b0 := h0
  b4 := h4
  each l hl := by
    simp only [crossedP, List.mem_cons, List.not_mem_nil, or_false] at hl
    rcases hl with rfl | rfl
    · exact ⟨by decide, fun o ho => by simp only [List.mem_cons, List.not_mem_nil, or_false] at ho; rcases ho with rfl | rfl <;> simp [okOp]⟩
    · exact ⟨by decide, fun o ho => by simp only [List.mem_cons, List.not_mem_nil, or_false] at ho; rcases ho with rfl | rfl <;> simp [okOp]⟩
  all := by decide

/-- Operations in a block of their own. -/
theorem ops_row {w : World} {b : Nat} {t : TypeId} {l : List Opn} (r : Row w b t (ints (l.flatMap opL))) (hl : ∀ o ∈ l, ∀ z ∈ opL o, -9223372036854775808 ≤ z ∧ z ≤ 9223372036854775807) (c : Nat) : Recs w 4 (.slice (some ⟨b, 0, none⟩) l.length c) (l.map opL) := by
  refine ⟨_, c, by rw [List.length_map], fun _ => ⟨_, rfl, r.lt, fun k zs hk => ?_⟩⟩
  rw [List.getElem?_map, Option.map_eq_some_iff] at hk
  obtain ⟨o, ho, rfl⟩ := hk
  refine ⟨rfl, fun z hz => hl o (List.mem_of_getElem? ho) z hz, fun j u hu => ?_⟩
  have hj : j < 4 := by have := (List.getElem?_eq_some_iff.1 hu).1; simpa [ints, opL] using this
  rw [Addr.add_lit, Addr.add_lit, Nat.zero_add, r.cell]
  have flat : ∀ {l : List Opn} {k : Nat} {o : Opn}, l[k]? = some o → ∀ j, j < 4 → (l.flatMap opL)[k * 4 + j]? = (opL o)[j]? := by
    intro l
    induction l with
    | nil => intro k o h; simp at h
    | cons x l ih =>
      intro k o h j hj
      match k, h with
      | 0, h =>
        obtain rfl : x = o := by simpa using h
        rw [List.flatMap_cons, List.getElem?_append_left (by simp [opL]; omega)]
        congr 1; omega
      | k + 1, h =>
        rw [List.flatMap_cons, List.getElem?_append_right (by simp [opL]; omega)]
        have := ih (by simpa using h) j hj
        rw [← this]
        congr 1
        simp [opL]; omega
  simp only [ints, List.getElem?_map] at hu ⊢
  rw [flat ho j hj]
  exact hu

theorem crossed_prg (w : World) : Prg (((w.alloc (.cells #[.int .i64 2, .int .i64 0, .int .i64 1, .int .i64 0, .int .i64 1, .int .i64 1, .int .i64 0, .int .i64 0] 40)).alloc (.cells #[.int .i64 2, .int .i64 1, .int .i64 1, .int .i64 0, .int .i64 1, .int .i64 0, .int .i64 0, .int .i64 0] 40)).alloc
    (.cells #[.slice (some ⟨w.heap.size, 0, none⟩) 2 2, .slice (some ⟨w.heap.size + 1, 0, none⟩) 2 2] 38)) (.slice (some ⟨w.heap.size + 1 + 1, 0, none⟩) 2 2) crossedP := by
  obtain ⟨w1, e1⟩ : ∃ w1, w.alloc (.cells #[.int .i64 2, .int .i64 0, .int .i64 1, .int .i64 0, .int .i64 1, .int .i64 1, .int .i64 0, .int .i64 0] 40) = w1 := ⟨_, rfl⟩
  have r1 : Row w1 w.heap.size 40 (ints ([⟨2, 0, 1, 0⟩, ⟨1, 1, 0, 0⟩].flatMap opL)) := by rw [← e1]; exact Row.new w _ _
  have s1 : w1.heap.size = w.heap.size + 1 := by rw [← e1]; simp
  rw [e1]
  obtain ⟨w2, e2⟩ : ∃ w2, w1.alloc (.cells #[.int .i64 2, .int .i64 1, .int .i64 1, .int .i64 0, .int .i64 1, .int .i64 0, .int .i64 0, .int .i64 0] 40) = w2 := ⟨_, rfl⟩
  have r2 : Row w2 (w.heap.size + 1) 40 (ints ([⟨2, 1, 1, 0⟩, ⟨1, 0, 0, 0⟩].flatMap opL)) := by rw [← e2, ← s1]; exact Row.new w1 _ _
  have b2 : Below w1.heap.size w1 w2 := by rw [← e2]; exact below_al _ _
  have s2 : w2.heap.size = w.heap.size + 1 + 1 := by rw [← e2]; simp [s1]
  rw [e2, ← s2]
  have r3 := Row.new w2 38 #[.slice (some ⟨w.heap.size, 0, none⟩) 2 2, .slice (some ⟨w.heap.size + 1, 0, none⟩) 2 2]
  have q1 := (r1.below b2).below (below_al w2 (.cells #[.slice (some ⟨w.heap.size, 0, none⟩) 2 2, .slice (some ⟨w.heap.size + 1, 0, none⟩) 2 2] 38))
  have q2 := r2.below (below_al w2 (.cells #[.slice (some ⟨w.heap.size, 0, none⟩) 2 2, .slice (some ⟨w.heap.size + 1, 0, none⟩) 2 2] 38))
  have small : ∀ (l : List Opn), l ∈ crossedP → ∀ o ∈ l, ∀ z ∈ opL o, -9223372036854775808 ≤ z ∧ z ≤ 9223372036854775807 := by
    intro l hl o ho z hz
    obtain ⟨k1, k4, a0, a3, g0, g3, x0, x9⟩ := ((right_crossed (N := 0) (by omega) (by omega)).each l hl).2 o ho
    simp only [opL, List.mem_cons, List.not_mem_nil, or_false] at hz
    rcases hz with rfl | rfl | rfl | rfl <;> omega
  refine ⟨_, 2, rfl, fun _ => ⟨_, rfl, r3.lt, fun k l hk => ?_⟩⟩
  rw [Addr.add_lit, Nat.zero_add, r3.cell]
  match k, hk with
  | 0, hk =>
    obtain rfl : _ = l := by simpa [crossedP] using hk
    exact ⟨_, rfl, ops_row q1 (small _ (by simp [crossedP])) 2⟩
  | 1, hk =>
    obtain rfl : _ = l := by simpa [crossedP] using hk
    exact ⟨_, rfl, ops_row q2 (small _ (by simp [crossedP])) 2⟩
  | k + 2, hk => simp [crossedP] at hk

/-- What crossed leaves. -/
def CrossP (w : World) (e : Ending) (w' : World) : Prop := ∃ A c, e = .returned (.slice A 2 c) ∧ Prg w' (.slice A 2 c) crossedP ∧ Below w.heap.size w w'

set_option maxRecDepth 100000 in
set_option maxHeartbeats 1000000 in
theorem crossed_any (w : World) : Calls Try.prog 21 #[] w (CrossP w) := by
  go_enter Try.func21, Try.ntmps21
  go_wp2
  go_ret
  exact ⟨_, _, rfl, crossed_prg w, below_on (below_on (below_al _ _) (below_al _ _)) (below_al _ _)⟩

theorem weak1 : (crossed1.any fun x => !decide (x ∈ crossed0)) = true := by decide +kernel
theorem weak0 : (crossed0.any fun x => !decide (x ∈ crossed0)) = false := by decide +kernel
theorem can1 : decide ([0, 0, 0, 0, 0, 0, 0, 0, 1, 1, 0, 0] ∈ crossed1) = true := by decide +kernel

set_option maxRecDepth 100000 in
set_option maxHeartbeats 1000000 in
theorem alive_any (w : World) : Calls Try.prog 10 #[] w fun e w' => e = .returned (.bool true) ∧ Below w.heap.size w w' := by
  go_enter Try.func10, Try.ntmps10
  go_wp2_with fail
  refine (crossed_any _).mono ?_
  rintro e w1 ⟨A, c, rfl, hp, hb1⟩
  have P1 := Lib.hid hp
  have B1 := Lib.hid hb1
  have wk := weak_yes 1 (.slice A 2 c) crossedP crossed1 crossed0 w1 hp (right_crossed (by omega) (by omega)) outs1 outs0
  rw [weak1] at wk
  have WK := Lib.hid wk
  clear hp hb1 wk
  go_wp2_with fail
  refine WK.out.mono ?_
  rintro e w2 ⟨rfl, hb2⟩
  have P2 := Lib.hid (P1.out.below hb2)
  have wk := weak_yes 0 (.slice A 2 c) crossedP crossed0 crossed0 w2 P2.out (right_crossed (by omega) (by omega)) outs0 outs0
  rw [weak0] at wk
  have WK2 := Lib.hid wk
  have B2 := Lib.hid (below_on B1.out hb2)
  clear hb2 wk
  go_wp2_with fail
  refine WK2.out.mono ?_
  rintro e w3 ⟨rfl, hb3⟩
  have P3 := Lib.hid (P2.out.below hb3)
  have B3 := Lib.hid (below_on B2.out hb3)
  have cn := can_yes 1 (.slice A 2 c) (.slice (some ⟨w3.heap.size, 0, none⟩) 12 12) crossedP [0, 0, 0, 0, 0, 0, 0, 0, 1, 1, 0, 0] crossed1 (w3.alloc (.cells (ints [0, 0, 0, 0, 0, 0, 0, 0, 1, 1, 0, 0]).toArray 3)) (P3.out.below (below_al _ _)) (right_crossed (by omega) (by omega)) outs1
    ⟨_, 12, rfl, fun k x hk => ⟨_, rfl, by simp, by rw [Addr.add_lit, Nat.zero_add, Row.cell (Row.new w3 3 (ints [0, 0, 0, 0, 0, 0, 0, 0, 1, 1, 0, 0]).toArray)]; exact ints_some hk⟩⟩
  rw [can1] at cn
  have CN := Lib.hid cn
  clear hb3 cn
  go_wp2_with fail
  refine CN.out.mono ?_
  rintro e w4 ⟨rfl, hb4⟩
  go_wp2
  go_ret
  exact ⟨rfl, below_on (below_on B3.out (below_al _ _)) hb4⟩

#print axioms alive_any
end Go.Proofs.Ytgljgpllooehkaa
