/-
  Layer 15 (grant): the memory of the law GrantOnce (Once15), parts of a list of its own.
  Conditions: those that each theorem states.
-/
import Derived.Test.YtikndnagflpckaaGr6
namespace Go.Proofs.Ytikndnagflpckaa
open Go.ChangeShapes Go.WideShapes Go.ChangeAt Go.RowKit

/-- The memory of the law's loop: the table, the handles that are gone, those that are good, and that they lie apart. -/
structure Once15 (w wr : World) (g : Nat) (l : List (Int × Bool)) (gone good : List Int) (vo vg : Value) : Prop where
  tab : GrAt wr g l
  ogo : wr.ownsRow w.heap.size 3 1 vo gone.length (ints gone)
  ogd : wr.ownsRow w.heap.size 3 1 vg good.length (ints good)
  apart : ∀ k, vo.ownBlock = some k → k ≠ g ∧ vg.ownBlock ≠ some k
  apart' : ∀ k, vg.ownBlock = some k → k ≠ g
  below : Below w.heap.size w wr
  new : w.heap.size ≤ g

section
variable {w wr w2 w3 : World} {g : Nat} {l l' : List (Int × Bool)} {gone good xs : List Int} {vo vg v3 : Value}

theorem Once15.quiet (s : Once15 w wr g l gone good vo vg) (hb : Below wr.heap.size wr w2) : Once15 w w2 g l gone good vo vg :=
  ⟨s.tab.below hb, own_only s.ogo (Only.of_below hb (fun _ => False)) (fun _ _ h => h), own_only s.ogd (Only.of_below hb (fun _ => False)) (fun _ _ h => h), s.apart, s.apart', below_on s.below hb, s.new⟩

/-- Behind a call of the table. -/
theorem Once15.step (s : Once15 w wr g l gone good vo vg) (r : GrAt w2 g l') (ho : Only (· = g) wr w2) : Once15 w w2 g l' gone good vo vg :=
  ⟨r, own_only s.ogo ho (fun k hk => (s.apart k hk).1), own_only s.ogd ho s.apart', s.apart, s.apart', below_tab15 s.below s.new ho, s.new⟩

/-- Behind an append to what is gone. -/
theorem Once15.moreO (s : Once15 w wr g l gone good vo vg) (hg3 : wr.grownBy w3 vo.ownBlock) (hown : w3.ownsRow w.heap.size 3 1 v3 (gone.length + xs.length) (ints gone ++ ints xs))
    (hat : v3.ownBlock = vo.ownBlock ∨ v3.ownBlock = some wr.heap.size) : Once15 w w3 g l (gone ++ xs) good v3 vg := by
  have hO := Only.of_own hg3
  have hgl := s.tab.row.lt
  refine ⟨s.tab.only hO (fun e => (s.apart g e).1 rfl), by rw [List.length_append, ints_append]; exact hown, own_only s.ogd hO (fun k hk e => (s.apart k e).2 hk), fun k hk => ?_, s.apart', Only.below s.below hO s.below.size (fun y hy e => by have := (s.ogo.lt y e).1; omega), s.new⟩
  rcases hat with e | e
  · exact s.apart k (by rw [← e]; exact hk)
  · rw [e] at hk
    injection hk with hk
    exact ⟨by omega, fun e2 => by have := (s.ogd.lt k e2).2; omega⟩

/-- Behind an append to what is good. -/
theorem Once15.moreG (s : Once15 w wr g l gone good vo vg) (hg3 : wr.grownBy w3 vg.ownBlock) (hown : w3.ownsRow w.heap.size 3 1 v3 (good.length + xs.length) (ints good ++ ints xs))
    (hat : v3.ownBlock = vg.ownBlock ∨ v3.ownBlock = some wr.heap.size) : Once15 w w3 g l gone (good ++ xs) vo v3 := by
  have hO := Only.of_own hg3
  have hgl := s.tab.row.lt
  refine ⟨s.tab.only hO (fun e => s.apart' g e rfl), own_only s.ogo hO (fun k hk e => (s.apart k hk).2 e), by rw [List.length_append, ints_append]; exact hown, fun k hk => ⟨(s.apart k hk).1, fun e2 => ?_⟩, fun k hk => ?_, Only.below s.below hO s.below.size (fun y hy e => by have := (s.ogd.lt y e).1; omega), s.new⟩
  · rcases hat with e | e
    · exact (s.apart k hk).2 (by rw [← e]; exact e2)
    · rw [e] at e2
      injection e2 with e2
      have := (s.ogo.lt k hk).2
      omega
  · rcases hat with e | e
    · exact s.apart' k (by rw [← e]; exact hk)
    · rw [e] at hk
      injection hk with hk
      omega

/-- What is good lies in a new block. -/
theorem Once15.setG (s : Once15 w wr g l gone good vo vg) (hb : Below wr.heap.size wr w3) (hown : w3.ownsRow wr.heap.size 3 1 v3 xs.length (ints xs)) : Once15 w w3 g l gone xs vo v3 := by
  have hgl := s.tab.row.lt
  have hsz := s.below.size
  refine ⟨s.tab.below hb, own_only s.ogo (Only.of_below hb (fun _ => False)) (fun _ _ h => h), ⟨hown.1, hown.2.imp id (fun ⟨g', cap, cur, h1, h2, h3⟩ => ⟨g', cap, cur, h1, by omega, h3⟩)⟩, fun k hk => ⟨(s.apart k hk).1, fun e => ?_⟩, fun k hk => ?_, below_on s.below hb, s.new⟩
  · have := (s.ogo.lt k hk).2
    have := (hown.lt k e).1
    omega
  · have := (hown.lt k hk).1
    omega

theorem Once15.nilG (s : Once15 w wr g l gone good vo vg) : Once15 w wr g l gone [] vo (.slice none 0 0) :=
  ⟨s.tab, s.ogo, World.ownsRow_nil _ _ _ _, fun k hk => ⟨(s.apart k hk).1, fun e => by cases e⟩, fun k hk => (by cases hk), s.below, s.new⟩
end

/-- An empty row of the call's own. -/
theorem own_empty15 {W : World} {B base : Nat} {e : TypeId} {s : Nat} (h : Row W B e []) (hB : base ≤ B) : W.ownsRow base e s (.slice (some ⟨B, 0, none⟩) 0 0) 0 [] :=
  ⟨by simp, .inr ⟨B, 0, #[], rfl, hB, h.raw, Nat.le_refl _, by unfold maxLen; omega, by simp, by simp⟩⟩

/-- The first k of a list of its own. -/
theorem head15 {w : World} {base g n c : Nat} {xs : List Int} (h : w.ownsRow base 3 1 (.slice (some ⟨g, 0, none⟩) n c) n (ints xs)) {k : Nat} (hk : k ≤ n) : Lies w (base ≤ ·) (.slice (some ⟨g, 0, none⟩) k c) (ints (xs.take k)) ∧ CapOk (.slice (some ⟨g, 0, none⟩) k c) := by
  have h1 := Lies.of_own h
  have h2 : n ≤ c := CapOk.of_own h
  have hl : xs.length = n := by have := h.1; rw [ints_len] at this; omega
  obtain ⟨A, c', hv, hc⟩ := h1
  injection hv with e1 e2 e3
  subst e1 e3
  refine ⟨⟨_, c, by rw [ints_len, List.length_take, Nat.min_eq_left (by omega)], fun hp => ?_⟩, by show k ≤ c; omega⟩
  rw [ints_len, List.length_take] at hp
  obtain ⟨g', o, hA, hP, hlt, hcell⟩ := hc (by rw [ints_len]; omega)
  refine ⟨g', o, hA, hP, hlt, fun j u hu => hcell j u ?_⟩
  rw [show ints (xs.take k) = (ints xs).take k from by simp [ints, List.map_take], List.getElem?_take] at hu
  split at hu
  · exact hu
  · cases hu

/-- A list of its own behind number k. -/
theorem tail15 {w : World} {base g n c : Nat} {xs : List Int} (h : w.ownsRow base 3 1 (.slice (some ⟨g, 0, none⟩) n c) n (ints xs)) {k : Nat} (hk : k ≤ n) {A : Option Addr} (hA : k < n → A = some ⟨g, k, none⟩) (hS : A.isSome = true) : Lies w (base ≤ ·) (.slice A (n - k) (c - k)) (ints (xs.drop k)) ∧ CapOk (.slice A (n - k) (c - k)) := by
  have h1 := Lies.of_own h
  have h2 : n ≤ c := CapOk.of_own h
  have hl : xs.length = n := by have := h.1; rw [ints_len] at this; omega
  obtain ⟨A', c', hv, hc⟩ := h1
  injection hv with e1 e2 e3
  subst e1 e3
  obtain ⟨ad, rfl⟩ := Option.isSome_iff_exists.1 hS
  refine ⟨⟨_, c - k, by rw [ints_len, List.length_drop, hl], fun hp => ?_⟩, by show n - k ≤ c - k; omega⟩
  rw [ints_len, List.length_drop] at hp
  obtain ⟨g', o, hA', hP, hlt, hcell⟩ := hc (by rw [ints_len]; omega)
  injection hA' with hA'
  injection hA' with e4 e5
  subst e4 e5
  refine ⟨g, k, hA (by omega), hP, hlt, fun j u hu => ?_⟩
  rw [show ints (xs.drop k) = (ints xs).drop k from by simp [ints, List.map_drop], List.getElem?_drop] at hu
  have := hcell _ _ hu
  rwa [Nat.zero_add] at this

#print axioms Once15.moreO
#print axioms Once15.moreG
#print axioms Once15.setG
#print axioms tail15
end Go.Proofs.Ytikndnagflpckaa
