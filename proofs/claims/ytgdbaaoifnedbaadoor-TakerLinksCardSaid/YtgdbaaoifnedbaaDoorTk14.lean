/-
  Layer 17 (taker): the memory of the law TakerLinks, and what each of its calls makes of it.
  Conditions: those that each theorem states.
-/
import Derived.Test.YtgdbaaoifnedbaaDoorTk13
import Derived.Test.YtgdbaaoifnedbaaDoorRPl2
namespace Go.Proofs.YtgdbaaoifnedbaaDoor
open Go.ChangeShapes Go.WideShapes Go.ChangeAt Go.RowKit

/-- The ring's variable (the first block behind w), the taker and the port, all behind w. -/
structure Lj17 (w wr : World) (g p : Nat) (G : Tk) (V E K : List Int) (ring : Int) : Prop where
  box : Row wr w.heap.size 3 [.int .i64 ring]
  sys : SysP17 wr (fun x => w.heap.size < x) g p G V E K
  below : Below w.heap.size w wr

section
variable {w wr w1 : World} {g p : Nat} {G : Tk} {V E K : List Int} {ring : Int}

theorem Lj17.quiet (L : Lj17 w wr g p G V E K ring) (hb : Below wr.heap.size wr w1) : Lj17 w w1 g p G V E K ring :=
  ⟨L.box.below hb, L.sys.below hb, below_on L.below hb⟩

theorem Lj17.only (L : Lj17 w wr g p G V E K ring) {G' : Tk} {V' E' K' : List Int} (ho : Only (fun x => w.heap.size < x) wr w1) (hs : SysP17 w1 (fun x => w.heap.size < x ∨ wr.heap.size ≤ x) g p G' V' E' K') : Lj17 w w1 g p G' V' E' K' ring := by
  have hlt := L.box.lt
  exact ⟨L.box.only ho (fun h => by omega), hs.weak (fun x _ h => by rcases h with h | h <;> omega), Only.below L.below ho L.below.size (fun x hx h => by omega)⟩

theorem Lj17.tab (L : Lj17 w wr g p G V E K ring) (hT : TabAt w) : ∀ w2, Only (fun x => w.heap.size < x) wr w2 → TabAt w2 := fun w2 ho => by
  have h1 := hT.below L.below
  have hl := hT.lt
  exact h1.only17 ho (fun h => by omega)

/-- Recv, Release. -/
theorem Lj17.recv (L : Lj17 w wr g p G V E K ring) :
    Calls Tryd.prog 40 #[.pointer (some ⟨g, 0, none⟩)] wr fun e w' => e = .returned (.int .i64 (recE17 G)) ∧ Lj17 w w' g p (recT17 G) V E K ring :=
  (recvP17 wr L.sys).mono fun _ _ ⟨he, hs, ho⟩ => ⟨he, L.only ho hs⟩
theorem Lj17.release (L : Lj17 w wr g p G V E K ring) (h : Int) :
    Calls Tryd.prog 41 #[.pointer (some ⟨g, 0, none⟩), .int .i64 h] wr fun e w' => e = .returned (.int .i64 (relE17 G h)) ∧ Lj17 w w' g p (relT17 G h) V E K ring :=
  (releaseP17 h wr L.sys).mono fun _ _ ⟨he, hs, ho⟩ => ⟨he, L.only ho hs⟩

/-- A call to its end. -/
theorem Lj17.run (L : Lj17 w wr g p G V E K ring) (hT : TabAt w) {e : Int} {G' : Tk} {V' K' : List Int} (h : Over17 E ⟨G, V, K, []⟩ e G' V' K') (hp : pot17 G ≤ 100) :
    Calls Tryd.prog 49 #[.pointer (some ⟨g, 0, none⟩), face14 p] wr fun r w' => r = .returned (.int .i64 e) ∧ Lj17 w w' g p G' V' E K' ring := by
  obtain ⟨n, he, hn, hG, hV, hK⟩ := h
  refine (run17_any ⟨G, V, K, []⟩ n e wr L.sys he (by have : n < pot17 G := hn; omega) (L.tab hT)).mono fun _ _ ⟨hr, hs, ho⟩ => ⟨hr, ?_⟩
  rw [hG, hV, hK] at hs
  exact L.only ho hs

theorem Lj17.load (L : Lj17 w wr g p G V E K ring) (i : Int) :
    Calls Tryd.prog 55 #[.pointer (some ⟨p, 0, none⟩), .int .i64 i] wr fun e w' => e = .returned (.int .i64 (nth14 V i)) ∧ wr = w' := by
  obtain ⟨s, vl, vg, a, b, k, r, rp, -, -, -⟩ := L.sys
  exact load14_any i wr rp

theorem Lj17.store (L : Lj17 w wr g p G V E K ring) (i x : Int) :
    Calls Tryd.prog 35 #[.pointer (some ⟨p, 0, none⟩), .int .i64 i, .int .i64 x] wr fun e w' => e = .returned (.tuple #[]) ∧ Lj17 w w' g p G (put14 V i (x % 65536)) E K ring := by
  obtain ⟨s, vl, vg, a, b, k, r, rp, hd, h1, h2⟩ := L.sys
  refine (store14_any i x wr rp).mono fun _ w' ⟨he, rp', ho⟩ => ⟨he, L.only (ho.mono fun x hx h => ?_) ⟨s, vl, vg, a, b, k, r.only ho (fun y hy h => ?_), rp', hd, fun y hy => .inl (h1 y hy), fun y hy => .inl (h2 y hy)⟩⟩
  · subst h
    exact h2 _ (.inl (by unfold own17p; simp))
  · subst h
    exact hd _ hy (.inl (by unfold own17p; simp))

theorem Lj17.linked (L : Lj17 w wr g p G V E K ring) : Calls Tryd.prog 52 #[.pointer (some ⟨g, 0, none⟩)] wr fun e w' => e = .returned (.bool G.linked) ∧ wr = w' := by
  obtain ⟨s, vl, vg, a, b, k, r, -⟩ := L.sys
  exact linked17_any wr r
theorem Lj17.busy (L : Lj17 w wr g p G V E K ring) : Calls Tryd.prog 43 #[.pointer (some ⟨g, 0, none⟩)] wr fun e w' => e = .returned (.bool ((G.st : Int) != 0)) ∧ wr = w' := by
  obtain ⟨s, vl, vg, a, b, k, r, -⟩ := L.sys
  exact busy17_any wr r
theorem Lj17.held (L : Lj17 w wr g p G V E K ring) : Calls Tryd.prog 46 #[.pointer (some ⟨g, 0, none⟩)] wr fun e w' => ∃ A c, e = .returned (.slice A (hs17 G).length c) ∧ Lies w' (fun _ => True) (.slice A (hs17 G).length c) (ints (hs17 G)) ∧ Below wr.heap.size wr w' := by
  obtain ⟨s, vl, vg, a, b, k, r, -⟩ := L.sys
  refine (held17_any wr r).mono fun _ w' ⟨v', he, ho, hb⟩ => ?_
  obtain ⟨A, c, rfl⟩ := own_open14 ho
  exact ⟨A, c, he, (Lies.of_own ho).weak (fun _ _ _ => trivial), hb⟩
theorem Lj17.slot (L : Lj17 w wr g p G V E K ring) (h : Int) : Calls Tryd.prog 51 #[.pointer (some ⟨g, 0, none⟩), .int .i64 h] wr fun e w' => e = .returned (.tuple #[.int .i64 (slotV15 G.tab h), .bool (slotB15 G.tab h)]) ∧ wr = w' := by
  obtain ⟨s, vl, vg, a, b, k, r, -⟩ := L.sys
  exact slot17_any h wr r
theorem Lj17.got (L : Lj17 w wr g p G V E K ring) (hl : G.gl.length ≤ 65536) : Calls Tryd.prog 45 #[.pointer (some ⟨g, 0, none⟩)] wr fun e w' => ∃ A c, e = .returned (.tuple #[.slice A (gotL17 G).length c, .int .i64 G.gh]) ∧ Lies w' (fun _ => True) (.slice A (gotL17 G).length c) (ints (gotL17 G)) ∧ Below wr.heap.size wr w' := by
  obtain ⟨s, vl, vg, a, b, k, r, -⟩ := L.sys
  refine (got17_any wr r hl).mono fun _ w' ⟨v', he, ho, hb⟩ => ?_
  obtain ⟨A, c, rfl⟩ := own_open14 ho
  exact ⟨A, c, he, (Lies.of_own ho).weak (fun _ _ _ => trivial), hb⟩
theorem Lj17.words (L : Lj17 w wr g p G V E K ring) : Calls Tryd.prog 26 #[.pointer (some ⟨p, 0, none⟩)] wr fun e w' => ∃ A c, e = .returned (.slice A V.length c) ∧ Lies w' (fun _ => True) (.slice A V.length c) (ints V) ∧ Below wr.heap.size wr w' := by
  obtain ⟨s, vl, vg, a, b, k, r, rp, -⟩ := L.sys
  refine (words14_any wr rp).mono fun _ w' ⟨v', he, ho, hb⟩ => ?_
  obtain ⟨A, c, rfl⟩ := own_open14 ho
  exact ⟨A, c, he, (Lies.of_own ho).weak (fun _ _ _ => trivial), hb⟩
theorem Lj17.kicks (L : Lj17 w wr g p G V E K ring) (hl : K.length ≤ 65536) : Calls Tryd.prog 36 #[.pointer (some ⟨p, 0, none⟩)] wr fun e w' => ∃ A c, e = .returned (.slice A K.length c) ∧ Below wr.heap.size wr w' := by
  obtain ⟨s, vl, vg, a, b, k, r, rp, -⟩ := L.sys
  refine (kicks14_any wr rp hl).mono fun _ w' ⟨v', he, ho, hb⟩ => ?_
  obtain ⟨A, c, rfl⟩ := own_open14 ho
  exact ⟨A, c, he, hb⟩

set_option maxRecDepth 100000 in
set_option maxHeartbeats 1000000 in
/-- The law's own function at. -/
theorem Lj17.at_ (L : Lj17 w wr g p G V E K ring) (f : Int) (hR : 0 ≤ ring ∧ ring ≤ 64) :
    Calls Tryd.prog 54 #[.int .i64 f, .pointer (some ⟨w.heap.size, 0, none⟩)] wr fun e w' => e = .returned (.int .i64 (atV13 0 ring f 0 0)) ∧ wr = w' := by
  have c0 := L.box.cell 0
  simp only [List.getElem?_cons_zero] at c0
  have KA := Lib.hid (fun W => rat13_any 0 ring f 0 0 (by omega) hR W)
  generalize w.heap.size = Q at *
  clear L hR
  go_enter Tryd.func54, Tryd.ntmps54
  go_wp2_with fail
  refine (KA.out _).mono ?_
  rintro e w' ⟨rfl, rfl⟩
  go_wp2
  go_ret
  exact ⟨rfl, rfl⟩
end

#print axioms Lj17.run
#print axioms Lj17.at_
end Go.Proofs.YtgdbaaoifnedbaaDoor
