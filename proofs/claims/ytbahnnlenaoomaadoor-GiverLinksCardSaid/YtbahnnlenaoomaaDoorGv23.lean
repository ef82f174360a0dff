/-
  Layer 16 (giver): the memory of the law GiverLinks, and what each of its calls makes of it.
  Conditions: those that each theorem states.
-/
import Derived.Test.YtbahnnlenaoomaaDoorGv22
import Derived.Test.YtbahnnlenaoomaaDoorRPl2
namespace Go.Proofs.YtbahnnlenaoomaaDoor
open Go.ChangeShapes Go.WideShapes Go.ChangeAt Go.RowKit

/-- The ring's variable (the first block behind w), the giver and the port, all behind w. -/
structure Li16 (w wr : World) (g p : Nat) (G : Gv) (V E K : List Int) (ring : Int) : Prop where
  box : Row wr w.heap.size 3 [.int .i64 ring]
  sys : SysP16 wr (fun x => w.heap.size < x) g p G V E K
  below : Below w.heap.size w wr

section
variable {w wr w1 : World} {g p : Nat} {G : Gv} {V E K : List Int} {ring : Int}

theorem Li16.quiet (L : Li16 w wr g p G V E K ring) (hb : Below wr.heap.size wr w1) : Li16 w w1 g p G V E K ring :=
  ⟨L.box.below hb, L.sys.below hb, below_on L.below hb⟩

theorem Li16.only (L : Li16 w wr g p G V E K ring) {G' : Gv} {V' E' K' : List Int} (ho : Only (fun x => w.heap.size < x) wr w1) (hs : SysP16 w1 (fun x => w.heap.size < x ∨ wr.heap.size ≤ x) g p G' V' E' K') : Li16 w w1 g p G' V' E' K' ring := by
  have hlt := L.box.lt
  exact ⟨L.box.only ho (fun h => by omega), hs.weak (fun x _ h => by rcases h with h | h <;> omega), Only.below L.below ho L.below.size (fun x hx h => by omega)⟩

theorem Li16.tab (L : Li16 w wr g p G V E K ring) (hT : TabAt w) : ∀ w2, Only (fun x => w.heap.size < x) wr w2 → TabAt w2 := fun w2 ho => by
  have h1 := hT.below L.below
  have hl := hT.lt
  exact h1.only ho (fun h => by omega)

/-- Send. -/
theorem Li16.send (L : Li16 w wr g p G V E K ring) {l : List Int} {v : Value} (hv : Lies w (fun _ => True) v (ints l)) (hcap : CapOk v) :
    Calls Tryd.prog 16 #[.pointer (some ⟨g, 0, none⟩), v] wr fun e w' => e = .returned (.int .i64 (sendE16 G l)) ∧ Li16 w w' g p (sendG16 G l) V E K ring :=
  (sendP16 (fun _ => True) l v wr L.sys (hv.below L.below) hcap).mono fun _ _ ⟨he, hs, ho⟩ => ⟨he, L.only ho hs⟩

/-- A call to its end. -/
theorem Li16.run (L : Li16 w wr g p G V E K ring) (hT : TabAt w) {e : Int} {G' : Gv} {V' K' : List Int} (h : Over16 E ⟨G, V, K, []⟩ e G' V' K') (hp : pot16 G ≤ 100) (hk : K.length ≤ 60000) :
    Calls Tryd.prog 34 #[.pointer (some ⟨g, 0, none⟩), face14 p] wr fun r w' => r = .returned (.int .i64 e) ∧ Li16 w w' g p G' V' E K' ring := by
  obtain ⟨n, he, hn, hG, hV, hK⟩ := h
  refine (run16_any ⟨G, V, K, []⟩ n e wr L.sys he (by have : n < pot16 G := hn; omega) hk (L.tab hT)).mono fun _ _ ⟨hr, hs, ho⟩ => ⟨hr, ?_⟩
  rw [hG, hV, hK] at hs
  exact L.only ho hs

theorem Li16.load (L : Li16 w wr g p G V E K ring) (i : Int) :
    Calls Tryd.prog 39 #[.pointer (some ⟨p, 0, none⟩), .int .i64 i] wr fun e w' => e = .returned (.int .i64 (nth14 V i)) ∧ wr = w' := by
  obtain ⟨vf, vo, vl, a, b, k, r, rp, -, -, -⟩ := L.sys
  exact load14_any i wr rp

theorem Li16.store (L : Li16 w wr g p G V E K ring) (i x : Int) :
    Calls Tryd.prog 36 #[.pointer (some ⟨p, 0, none⟩), .int .i64 i, .int .i64 x] wr fun e w' => e = .returned (.tuple #[]) ∧ Li16 w w' g p G (put14 V i (x % 65536)) E K ring := by
  obtain ⟨vf, vo, vl, a, b, k, r, rp, hd, h1, h2⟩ := L.sys
  refine (store14_any i x wr rp).mono fun _ w' ⟨he, rp', ho⟩ => ⟨he, L.only (ho.mono fun x hx h => ?_) ⟨vf, vo, vl, a, b, k, r.only ho (fun y hy h => ?_), rp', hd, fun y hy => .inl (h1 y hy), fun y hy => .inl (h2 y hy)⟩⟩
  · subst h
    exact h2 _ (.inl (by unfold own14p; simp))
  · subst h
    exact hd _ hy (.inl (by unfold own14p; simp))

theorem Li16.linked (L : Li16 w wr g p G V E K ring) : Calls Tryd.prog 27 #[.pointer (some ⟨g, 0, none⟩)] wr fun e w' => e = .returned (.bool G.linked) ∧ wr = w' := by
  obtain ⟨vf, vo, vl, a, b, k, r, -⟩ := L.sys
  exact linked16_any wr r
theorem Li16.busy (L : Li16 w wr g p G V E K ring) : Calls Tryd.prog 26 #[.pointer (some ⟨g, 0, none⟩)] wr fun e w' => e = .returned (.bool ((G.st : Int) != 0)) ∧ wr = w' := by
  obtain ⟨vf, vo, vl, a, b, k, r, -⟩ := L.sys
  exact busy16_any wr r
theorem Li16.out (L : Li16 w wr g p G V E K ring) (hl : G.out.length ≤ 65536) : Calls Tryd.prog 29 #[.pointer (some ⟨g, 0, none⟩)] wr fun e w' => ∃ A c, e = .returned (.slice A G.out.length c) ∧ Lies w' (fun _ => True) (.slice A G.out.length c) (ints G.out) ∧ Below wr.heap.size wr w' := by
  obtain ⟨vf, vo, vl, a, b, k, r, -⟩ := L.sys
  refine (out16_any wr r hl).mono fun _ w' ⟨v', he, ho, hb⟩ => ?_
  obtain ⟨A, c, rfl⟩ := own_open14 ho
  exact ⟨A, c, he, (Lies.of_own ho).weak (fun _ _ _ => trivial), hb⟩
theorem Li16.words (L : Li16 w wr g p G V E K ring) : Calls Tryd.prog 25 #[.pointer (some ⟨p, 0, none⟩)] wr fun e w' => ∃ A c, e = .returned (.slice A V.length c) ∧ Lies w' (fun _ => True) (.slice A V.length c) (ints V) ∧ Below wr.heap.size wr w' := by
  obtain ⟨vf, vo, vl, a, b, k, r, rp, -⟩ := L.sys
  refine (words14_any wr rp).mono fun _ w' ⟨v', he, ho, hb⟩ => ?_
  obtain ⟨A, c, rfl⟩ := own_open14 ho
  exact ⟨A, c, he, (Lies.of_own ho).weak (fun _ _ _ => trivial), hb⟩
theorem Li16.kicks (L : Li16 w wr g p G V E K ring) (hl : K.length ≤ 65536) : Calls Tryd.prog 37 #[.pointer (some ⟨p, 0, none⟩)] wr fun e w' => ∃ A c, e = .returned (.slice A K.length c) ∧ Below wr.heap.size wr w' := by
  obtain ⟨vf, vo, vl, a, b, k, r, rp, -⟩ := L.sys
  refine (kicks14_any wr rp hl).mono fun _ w' ⟨v', he, ho, hb⟩ => ?_
  obtain ⟨A, c, rfl⟩ := own_open14 ho
  exact ⟨A, c, he, hb⟩

set_option maxRecDepth 100000 in
set_option maxHeartbeats 1000000 in
/-- The law's own function at. -/
theorem Li16.at_ (L : Li16 w wr g p G V E K ring) (f : Int) (hR : 0 ≤ ring ∧ ring ≤ 64) :
    Calls Tryd.prog 38 #[.int .i64 f, .pointer (some ⟨w.heap.size, 0, none⟩)] wr fun e w' => e = .returned (.int .i64 (atV13 0 ring f 0 0)) ∧ wr = w' := by
  have c0 := L.box.cell 0
  simp only [List.getElem?_cons_zero] at c0
  have KA := Lib.hid (fun W => rat13_any 0 ring f 0 0 (by omega) hR W)
  generalize w.heap.size = Q at *
  clear L hR
  go_enter Tryd.func38, Tryd.ntmps38
  go_wp2_with fail
  refine (KA.out _).mono ?_
  rintro e w' ⟨rfl, rfl⟩
  go_wp2
  go_ret
  exact ⟨rfl, rfl⟩
end

#print axioms Li16.run
#print axioms Li16.at_
end Go.Proofs.YtbahnnlenaoomaaDoor
