/-
  Layer 17 (taker): the memory of the law TakerTakes, and what each of its calls makes of it.
  Conditions: those that each theorem states.
-/
import Derived.Test.YtgdbaaoifnedbaaDoorTk21
import Derived.Test.YtgdbaaoifnedbaaDoorRPl2
import Derived.Test.YtgdbaaoifnedbaaDoorPrg4
namespace Go.Proofs.YtgdbaaoifnedbaaDoor
open Go.ChangeShapes Go.WideShapes Go.ChangeAt Go.RowKit

/-- The taker and its port (their blocks are among those that U allows), a list of its own (v), other blocks (X); all is newer than w0. -/
structure Lr17 (w0 wr : World) (X : Nat → Prop) (g p : Nat) (v : Value) (H : List Int) (G : Tk) (V E K : List Int) (U : Nat → Prop) : Prop where
  sys : SysP17 wr U g p G V E K
  hl : wr.ownsRow w0.heap.size 3 1 v H.length (ints H)
  apart : ∀ x, U x → v.ownBlock ≠ some x
  hU : ∀ x, U x → w0.heap.size ≤ x ∧ ¬ X x
  hv : ∀ x, v.ownBlock = some x → ¬ X x
  hX : ∀ x, X x → x < wr.heap.size
  below : Below w0.heap.size w0 wr

section
variable {w0 wr w1 : World} {X : Nat → Prop} {g p : Nat} {v : Value} {H : List Int} {G : Tk} {V E K : List Int} {U : Nat → Prop}

theorem Lr17.quiet (L : Lr17 w0 wr X g p v H G V E K U) (hb : Below wr.heap.size wr w1) : Lr17 w0 w1 X g p v H G V E K U :=
  ⟨L.sys.below hb, own_quiet L.hl (fun x hx => hb.block x (L.hl.lt x hx).2), L.apart, L.hU, L.hv, fun x hx => Nat.lt_of_lt_of_le (L.hX x hx) hb.size, below_on L.below hb⟩

theorem Lr17.step (L : Lr17 w0 wr X g p v H G V E K U) {G' : Tk} {V' K' : List Int} (ho : Only U wr w1) (hs : SysP17 w1 (fun x => U x ∨ wr.heap.size ≤ x) g p G' V' E K') : Lr17 w0 w1 X g p v H G' V' E K' (fun x => U x ∨ wr.heap.size ≤ x) := by
  have hsz := L.below.size
  refine ⟨hs, own_quiet L.hl (fun x hx => ho.block x (L.hl.lt x hx).2 (fun h => L.apart x h hx)), fun x hx e => ?_, fun x hx => ?_, L.hv, fun x hx => Nat.lt_of_lt_of_le (L.hX x hx) ho.size, Only.below L.below ho hsz (fun x hx h => by have := (L.hU x h).1; omega)⟩
  · rcases hx with hx | hx
    · exact L.apart x hx e
    · have := (L.hl.lt x e).2; omega
  · rcases hx with hx | hx
    · exact L.hU x hx
    · exact ⟨by omega, fun h => by have := L.hX x h; omega⟩

/-- Another list lies in the place of the one. -/
theorem Lr17.list (L : Lr17 w0 wr X g p v H G V E K U) {v' : Value} {H' : List Int} (hb : Below wr.heap.size wr w1) (h' : w1.ownsRow wr.heap.size 3 1 v' H'.length (ints H')) : Lr17 w0 w1 X g p v' H' G V E K (fun x => U x ∧ x < wr.heap.size) := by
  have hsz := L.below.size
  exact ⟨(L.sys.weak (U' := fun x => U x ∧ x < wr.heap.size) (fun x hx hu => ⟨hu, hx⟩)).below hb, own_rebase17 h' hsz, fun x hx e => by have := (h'.lt x e).1; omega, fun x hx => L.hU x hx.1, fun x hx h => by have := (h'.lt x hx).1; have := L.hX x h; omega, fun x hx => Nat.lt_of_lt_of_le (L.hX x hx) hb.size, below_on L.below hb⟩

/-- The list has grown: in its place, or to a new one. -/
theorem Lr17.more (L : Lr17 w0 wr X g p v H G V E K U) {v' : Value} {H' : List Int} (ho : Only (fun x => v.ownBlock = some x) wr w1) (h' : w1.ownsRow w0.heap.size 3 1 v' H'.length (ints H')) (hat : v'.ownBlock = v.ownBlock ∨ ∃ x, v'.ownBlock = some x ∧ wr.heap.size ≤ x) : Lr17 w0 w1 X g p v' H' G V E K (fun x => U x ∧ x < wr.heap.size) := by
  have hsz := L.below.size
  refine ⟨(L.sys.weak (U' := fun x => U x ∧ x < wr.heap.size) (fun x hx hu => ⟨hu, hx⟩)).only ho (fun x _ hu h => L.apart x hu.1 h), h', fun x hx e => ?_, fun x hx => L.hU x hx.1, fun x hx h => ?_, fun x hx => Nat.lt_of_lt_of_le (L.hX x hx) ho.size, Only.below L.below ho hsz (fun x hx h => by have := (L.hl.lt x h).1; omega)⟩
  · rcases hat with ha | ⟨y, ha, hy⟩
    · exact L.apart x hx.1 (by rw [← ha]; exact e)
    · rw [e] at ha; injection ha with ha; omega
  · rcases hat with ha | ⟨y, ha, hy⟩
    · exact L.hv x (by rw [← ha]; exact hx) h
    · rw [hx] at ha; injection ha with ha; have := L.hX x h; omega

theorem Lr17.tab (L : Lr17 w0 wr X g p v H G V E K U) (hT : TabAt w0) : ∀ w2, Only U wr w2 → TabAt w2 := fun w2 ho => by
  have h1 := hT.below L.below
  have hl := hT.lt
  exact h1.only17 ho (fun h => by have := (L.hU _ h).1; omega)

/-- What a call leaves. -/
def Nx17 (w0 wr : World) (X : Nat → Prop) (g p : Nat) (v : Value) (H : List Int) (G : Tk) (V E K : List Int) (w1 : World) : Prop :=
  (∃ U, Lr17 w0 w1 X g p v H G V E K U) ∧ ∀ (b : Nat) (t : TypeId) (cs : List Value), X b → Row wr b t cs → Row w1 b t cs

theorem Lr17.nx (L : Lr17 w0 wr X g p v H G V E K U) {G' : Tk} {V' K' : List Int} (ho : Only U wr w1) (hs : SysP17 w1 (fun x => U x ∨ wr.heap.size ≤ x) g p G' V' E K') : Nx17 w0 wr X g p v H G' V' E K' w1 :=
  ⟨⟨_, L.step ho hs⟩, fun b _ _ hb r => r.only ho (fun h => (L.hU b h).2 hb)⟩

theorem Lr17.recv (L : Lr17 w0 wr X g p v H G V E K U) :
    Calls Tryd.prog 40 #[.pointer (some ⟨g, 0, none⟩)] wr fun e w' => e = .returned (.int .i64 (recE17 G)) ∧ Nx17 w0 wr X g p v H (recT17 G) V E K w' :=
  (recvP17 wr L.sys).mono fun _ _ ⟨he, hs, ho⟩ => ⟨he, L.nx ho hs⟩
theorem Lr17.release (L : Lr17 w0 wr X g p v H G V E K U) (h : Int) :
    Calls Tryd.prog 41 #[.pointer (some ⟨g, 0, none⟩), .int .i64 h] wr fun e w' => e = .returned (.int .i64 (relE17 G h)) ∧ Nx17 w0 wr X g p v H (relT17 G h) V E K w' :=
  (releaseP17 h wr L.sys).mono fun _ _ ⟨he, hs, ho⟩ => ⟨he, L.nx ho hs⟩

/-- A call to its end. -/
theorem Lr17.run (L : Lr17 w0 wr X g p v H G V E K U) (hT : TabAt w0) {e : Int} {G' : Tk} {V' K' : List Int} (h : Over17 E ⟨G, V, K, []⟩ e G' V' K') (hp : pot17 G ≤ 100) :
    Calls Tryd.prog 49 #[.pointer (some ⟨g, 0, none⟩), face14 p] wr fun r w' => r = .returned (.int .i64 e) ∧ Nx17 w0 wr X g p v H G' V' E K' w' := by
  obtain ⟨n, he, hn, hG, hV, hK⟩ := h
  refine (run17_any ⟨G, V, K, []⟩ n e wr L.sys he (by have : n < pot17 G := hn; omega) (L.tab hT)).mono fun _ _ ⟨hr, hs, ho⟩ => ⟨hr, ?_⟩
  rw [hG, hV, hK] at hs
  exact L.nx ho hs

theorem Lr17.load (L : Lr17 w0 wr X g p v H G V E K U) (i : Int) :
    Calls Tryd.prog 55 #[.pointer (some ⟨p, 0, none⟩), .int .i64 i] wr fun e w' => e = .returned (.int .i64 (nth14 V i)) ∧ wr = w' := by
  obtain ⟨s, vl, vg, a, b, k, r, rp, -, -, -⟩ := L.sys
  exact load14_any i wr rp
theorem Lr17.store (L : Lr17 w0 wr X g p v H G V E K U) (i x : Int) :
    Calls Tryd.prog 35 #[.pointer (some ⟨p, 0, none⟩), .int .i64 i, .int .i64 x] wr fun e w' => e = .returned (.tuple #[]) ∧ Nx17 w0 wr X g p v H G (put14 V i (x % 65536)) E K w' := by
  obtain ⟨s, vl, vg, a, b, k, r, rp, hd, h1, h2⟩ := L.sys
  refine (store14_any i x wr rp).mono fun _ w' ⟨he, rp', ho⟩ => ⟨he, L.nx (ho.mono fun x _ h => ?_) ⟨s, vl, vg, a, b, k, r.only ho (fun y hy h => ?_), rp', hd, fun y hy => .inl (h1 y hy), fun y hy => .inl (h2 y hy)⟩⟩
  · subst h
    exact h2 _ (.inl (by unfold own17p; simp))
  · subst h
    exact hd _ hy (.inl (by unfold own17p; simp))
theorem Lr17.held (L : Lr17 w0 wr X g p v H G V E K U) : Calls Tryd.prog 46 #[.pointer (some ⟨g, 0, none⟩)] wr fun e w' => ∃ A c, e = .returned (.slice A (hs17 G).length c) ∧ Below wr.heap.size wr w' := by
  obtain ⟨s, vl, vg, a, b, k, r, -⟩ := L.sys
  refine (held17_any wr r).mono fun _ w' ⟨v', he, ho, hb⟩ => ?_
  obtain ⟨A, c, rfl⟩ := own_open14 ho
  exact ⟨A, c, he, hb⟩
theorem Lr17.slot (L : Lr17 w0 wr X g p v H G V E K U) (h : Int) : Calls Tryd.prog 51 #[.pointer (some ⟨g, 0, none⟩), .int .i64 h] wr fun e w' => e = .returned (.tuple #[.int .i64 (slotV15 G.tab h), .bool (slotB15 G.tab h)]) ∧ wr = w' := by
  obtain ⟨s, vl, vg, a, b, k, r, -⟩ := L.sys
  exact slot17_any h wr r
theorem Lr17.got (L : Lr17 w0 wr X g p v H G V E K U) (hl : G.gl.length ≤ 65536) : Calls Tryd.prog 45 #[.pointer (some ⟨g, 0, none⟩)] wr fun e w' => ∃ A c, e = .returned (.tuple #[.slice A (gotL17 G).length c, .int .i64 G.gh]) ∧ Lies w' (wr.heap.size ≤ ·) (.slice A (gotL17 G).length c) (ints (gotL17 G)) ∧ Below wr.heap.size wr w' := by
  obtain ⟨s, vl, vg, a, b, k, r, -⟩ := L.sys
  refine (got17_any wr r hl).mono fun _ w' ⟨v', he, ho, hb⟩ => ?_
  obtain ⟨A, c, rfl⟩ := own_open14 ho
  exact ⟨A, c, he, Lies.of_own ho, hb⟩

set_option maxRecDepth 100000 in
set_option maxHeartbeats 1000000 in
/-- The law's own function put. -/
theorem Lr17.put (L : Lr17 w0 wr X g p v H G V E K U) (f s i u ring : Int) (rb qb : Nat) (hR : 0 ≤ ring ∧ ring ≤ 64) (r0 : Row wr rb 3 [.int .i64 ring]) (rq : Row wr qb 54 [.pointer (some ⟨p, 0, none⟩)]) :
    Calls Tryd.prog 48 #[.int .i64 f, .int .i64 s, .int .i64 i, .int .i64 u, .pointer (some ⟨rb, 0, none⟩), .pointer (some ⟨qb, 0, none⟩)] wr fun e w' => e = .returned (.tuple #[]) ∧ Nx17 w0 wr X g p v H G (put14 V (atV13 0 ring f s i) (u % 65536)) E K w' := by
  have c0 := r0.cell 0
  have q0 := rq.cell 0
  simp only [List.getElem?_cons_zero] at c0 q0
  have KA := Lib.hid (fun W => rat13_any 0 ring f s i (by omega) hR W)
  have KS := Lib.hid (fun a => L.store a u)
  clear L hR r0 rq
  go_enter Tryd.func48, Tryd.ntmps48
  go_wp2_with fail
  refine (KA.out _).mono ?_
  rintro e w' ⟨rfl, rfl⟩
  go_wp2_with fail
  refine (KS.out _).mono ?_
  rintro e w2 ⟨rfl, n2⟩
  have N2 := Lib.hid n2
  clear n2
  go_wp2
  go_end0
  exact ⟨rfl, N2.out⟩

/-! ### Parts of a list of its own -/

theorem own_empty17 {W : World} {B base : Nat} {e : TypeId} {s : Nat} (h : Row W B e []) (hB : base ≤ B) : W.ownsRow base e s (.slice (some ⟨B, 0, none⟩) 0 0) 0 [] :=
  ⟨by simp, .inr ⟨B, 0, #[], rfl, hB, h.raw, Nat.le_refl _, by unfold maxLen; omega, by simp, by simp⟩⟩

/-- The first k of a list of its own. -/
theorem head17 {w : World} {base g n c : Nat} {xs : List Int} (h : w.ownsRow base 3 1 (.slice (some ⟨g, 0, none⟩) n c) n (ints xs)) {k : Nat} (hk : k ≤ n) : Lies w (base ≤ ·) (.slice (some ⟨g, 0, none⟩) k c) (ints (xs.take k)) ∧ CapOk (.slice (some ⟨g, 0, none⟩) k c) := by
  have h1 := Lies.of_own h
  have h2 : n ≤ c := CapOk.of_own h
  have hl : xs.length = n := by have := h.1; rw [ints_len] at this; omega
  obtain ⟨A, c', hv, hc⟩ := h1
  injection hv with e1 e2 e3
  subst e1 e3
  refine ⟨⟨_, c, by rw [ints_len, List.length_take, Nat.min_eq_left (by omega)], fun hp => ?_⟩, by show k ≤ c; omega⟩
  rw [ints_len, List.length_take] at hp
  obtain ⟨g', o, hA, hP, hlt, hcell⟩ := hc (by rw [ints_len]; omega)
  refine ⟨g', o, hA, hP, hlt, fun j u hu => hcell j u ?_⟩
  rw [show ints (xs.take k) = (ints xs).take k from by simp [ints, List.map_take], List.getElem?_take] at hu
  split at hu
  · exact hu
  · cases hu

/-- A list of its own behind number k. -/
theorem tail17 {w : World} {base g n c : Nat} {xs : List Int} (h : w.ownsRow base 3 1 (.slice (some ⟨g, 0, none⟩) n c) n (ints xs)) {k : Nat} (hk : k ≤ n) {A : Option Addr} (hA : k < n → A = some ⟨g, k, none⟩) (hS : A.isSome = true) : Lies w (base ≤ ·) (.slice A (n - k) (c - k)) (ints (xs.drop k)) ∧ CapOk (.slice A (n - k) (c - k)) := by
  have h1 := Lies.of_own h
  have h2 : n ≤ c := CapOk.of_own h
  have hl : xs.length = n := by have := h.1; rw [ints_len] at this; omega
  obtain ⟨A', c', hv, hc⟩ := h1
  injection hv with e1 e2 e3
  subst e1 e3
  obtain ⟨ad, rfl⟩ := Option.isSome_iff_exists.1 hS
  refine ⟨⟨_, c - k, by rw [ints_len, List.length_drop, hl], fun hp => ?_⟩, by show n - k ≤ c - k; omega⟩
  rw [ints_len, List.length_drop] at hp
  obtain ⟨g', o, hA', hP, hlt, hcell⟩ := hc (by rw [ints_len]; omega)
  injection hA' with hA'
  injection hA' with e4 e5
  subst e4 e5
  refine ⟨g, k, hA (by omega), hP, hlt, fun j u hu => ?_⟩
  rw [show ints (xs.drop k) = (ints xs).drop k from by simp [ints, List.map_drop], List.getElem?_drop] at hu
  have := hcell _ _ hu
  rwa [Nat.zero_add] at this

/-- A word with one of the first eight numbers in its bits. -/
theorem xor17 {a : Int} {j : Nat} (h0 : 0 ≤ a) (h1 : a ≤ 65535) (hj : j < 8) : 0 ≤ bits .xor .i64 a (j : Int) ∧ bits .xor .i64 a (j : Int) < 65536 := by
  show 0 ≤ IntKind.i64.wrap ((BitVec.ofInt 64 a ^^^ BitVec.ofInt 64 (j : Int)).toNat : Nat) ∧ IntKind.i64.wrap ((BitVec.ofInt 64 a ^^^ BitVec.ofInt 64 (j : Int)).toNat : Nat) < 65536
  have hlt : (BitVec.ofInt 64 a ^^^ BitVec.ofInt 64 (j : Int)).toNat < 2 ^ 16 := by
    rw [BitVec.toNat_xor]
    refine Nat.xor_lt_two_pow ?_ ?_
    · rw [BitVec.toNat_ofInt]; omega
    · rw [BitVec.toNat_ofInt]; omega
  rw [IntWalk.i64_in _ (by omega)]
  omega
end

#print axioms Lr17.run
#print axioms Lr17.put
#print axioms xor17
end Go.Proofs.YtgdbaaoifnedbaaDoor
