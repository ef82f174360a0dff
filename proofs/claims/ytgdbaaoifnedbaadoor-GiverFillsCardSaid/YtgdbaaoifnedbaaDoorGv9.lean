/-
  Layer 16 (giver): access by a Plain.
  Conditions: those that each theorem states.
-/
import Derived.Test.YtgdbaaoifnedbaaDoorGv8
namespace Go.Proofs.YtgdbaaoifnedbaaDoor
open Go.ChangeShapes Go.WideShapes Go.ChangeAt Go.RowKit

/-- The blocks of a Plain that a call may change. -/
def own14p (p a : Nat) (k : Value) (x : Nat) : Prop := x = p ∨ x = a ∨ k.ownBlock = some x

/-- What a call by a Plain leaves. -/
def PlP (p a b : Nat) (k : Value) (V E K : List Int) (ans : Value) (w : World) (e : Ending) (w' : World) : Prop :=
  ∃ k', e = .returned ans ∧ PlainAt w' p a b k' V E K ∧ Only (own14p p a k) w w' ∧ (k'.ownBlock = k.ownBlock ∨ ∃ x, k'.ownBlock = some x ∧ w.heap.size ≤ x)

/-- What an access by a Plain leaves. -/
def AccP (g : Nat) (G : Gv) (vf vo vl : Value) (p a b : Nat) (k : Value) (V E K : List Int) (n : Int) (w : World) (e : Ending) (w' : World) : Prop :=
  ∃ k', e = .returned (.int .i64 n) ∧ GAt w' g G vf vo vl ∧ PlainAt w' p a b k' V E K ∧ Only (fun x => own14p p a k x ∨ x = g) w w' ∧ (k'.ownBlock = k.ownBlock ∨ ∃ x, k'.ownBlock = some x ∧ w.heap.size ≤ x)

section
variable {g : Nat} {G : Gv} {vf vo vl : Value} {p a b : Nat} {k : Value} {V E K : List Int}

theorem PlainAt.lt {w : World} (r : PlainAt w p a b k V E K) : ∀ x, own14p p a k x ∨ x = b → x < w.heap.size := by
  rintro x (h | rfl)
  · rcases h with rfl | rfl | h
    · exact r.row.lt
    · exact r.words.lt
    · exact (r.kb h).2
  · exact r.epochs.lt
theorem PlainAt.onlyS {S : Nat → Prop} {w w' : World} (r : PlainAt w p a b k V E K) (ho : Only S w w') (hS : ∀ x, own14p p a k x ∨ x = b → ¬ S x) : PlainAt w' p a b k V E K :=
  r.only ho (hS _ (.inl (.inl rfl))) (hS _ (.inl (.inr (.inl rfl)))) (hS _ (.inr rfl)) (fun x hx => hS x (.inl (.inr (.inr hx))))
theorem PlP.since {ans : Value} {w w1 w' : World} {e : Ending} {V' K' : List Int} (hb : Below w.heap.size w w1) (h : PlP p a b k V' E K' ans w1 e w') : PlP p a b k V' E K' ans w e w' := by
  obtain ⟨k', he, h1, h2, h3⟩ := h
  have := hb.size
  exact ⟨k', he, h1, (Only.of_below hb _).trans h2, h3.imp id (fun ⟨x, a1, a2⟩ => ⟨x, a1, by omega⟩)⟩
theorem pload16 (i : Int) (w : World) (r : PlainAt w p a b k V E K) : Calls Tryd.prog 55 #[.pointer (some ⟨p, 0, none⟩), .int .i64 i] w (PlP p a b k V E K (.int .i64 (nth14 V i)) w) :=
  (load14_any i w r).mono fun _ _ ⟨he, hw⟩ => ⟨k, he, by rw [← hw]; exact r, by rw [← hw]; exact Only.refl _ _, .inl rfl⟩
theorem pepoch16 (i : Int) (w : World) (r : PlainAt w p a b k V E K) : Calls Tryd.prog 140 #[.pointer (some ⟨p, 0, none⟩), .int .i64 i] w (PlP p a b k V E K (.int .i64 (nth14 E i)) w) :=
  (epoch14_any i w r).mono fun _ _ ⟨he, hw⟩ => ⟨k, he, by rw [← hw]; exact r, by rw [← hw]; exact Only.refl _ _, .inl rfl⟩
theorem pfence16 (w : World) (r : PlainAt w p a b k V E K) : Calls Tryd.prog 141 #[.pointer (some ⟨p, 0, none⟩)] w (PlP p a b k V E K (.tuple #[]) w) :=
  (fence14_any _ w).mono fun _ _ ⟨he, hw⟩ => ⟨k, he, by rw [← hw]; exact r, by rw [← hw]; exact Only.refl _ _, .inl rfl⟩
theorem pstore16 (i u : Int) (w : World) (r : PlainAt w p a b k V E K) : Calls Tryd.prog 35 #[.pointer (some ⟨p, 0, none⟩), .int .i64 i, .int .i64 u] w (PlP p a b k (put14 V i (u % 65536)) E K (.tuple #[]) w) :=
  (store14_any i u w r).mono fun _ _ ⟨he, h1, h2⟩ => ⟨k, he, h1, h2.mono (fun _ _ h => .inr (.inl h)), .inl rfl⟩
theorem pkick16 (i : Int) (w : World) (r : PlainAt w p a b k V E K) (hl : K.length ≤ 65536) : Calls Tryd.prog 142 #[.pointer (some ⟨p, 0, none⟩), .int .i64 i] w (PlP p a b k V E (K ++ [i]) (.tuple #[]) w) :=
  (kick14_any i w r hl).mono fun _ _ ⟨k', he, h1, h2, h3⟩ => ⟨k', he, h1, h2.mono (fun _ _ h => by rcases h with h | h; exact .inl h; exact .inr (.inr h)), h3⟩

theorem endP16 {k2 : Value} {V' K' : List Int} {n : Int} {w w1 w2 : World} (hi : G.ins = false) (o1 : Only (· = g) w w1) (r2 : GAt w2 g (in16 G) vf vo vl) (rp : PlainAt w2 p a b k2 V' E K') (o2 : Only (own14p p a k) w1 w2)
    (hg : ∀ x, own14p p a k x ∨ x = b → x ≠ g) (hlt : g < w.heap.size) (hk : k2.ownBlock = k.ownBlock ∨ ∃ x, k2.ownBlock = some x ∧ w.heap.size ≤ x) :
    AccP g G vf vo vl p a b k V' E K' n w (.returned (.int .i64 n)) (w2.setCell ⟨g, 7, none⟩ (.bool false)) := by
  obtain ⟨r3, o3⟩ := leave16 hi o1 r2 o2
  refine ⟨k2, rfl, r3, rp.onlyS (only_put16 w2 g 7 _) (fun x hx e => ?_), o3, hk⟩
  rcases hx with hx | hx
  · rcases hx with hx | hx | hx
    · exact hg x (.inl (.inl hx)) e
    · exact hg x (.inl (.inr (.inl hx))) e
    · rcases hk with h | ⟨y, h, hy⟩
      · exact hg x (.inl (.inr (.inr (by rw [← h]; exact hx)))) e
      · rw [hx] at h; injection h with h; omega
  · exact hg x (.inr hx) e

set_option maxRecDepth 100000 in
set_option maxHeartbeats 4000000 in
theorem accP_s4 (w : World) (r : GAt w g G vf vo vl) (h : Acc16 G) (rp : PlainAt w p a b k V E K) (hT : TabAt w) (hdis : ∀ x, own16 g vf vo vl x → ¬ (own14p p a k x ∨ x = b)) (hst : G.st = 4) :
    Calls Tryd.prog 69 #[.pointer (some ⟨g, 0, none⟩), face14 p] w (AccP g G vf vo vl p a b k V E K 0 w) := by
  have hmf : ∀ (fn : Fn) (first cap : Array Value) (w : World), (Instr.makeFunc fn first cap).run Tryd.prog w = .ok (.func fn first cap) w := fun _ _ _ _ => rfl
  have f7 := r.row.soft 7
  have c7 := r.row.cell 7
  have c6 := r.row.cell 6
  simp only [gvC, List.getElem?_cons_zero, List.getElem?_cons_succ] at c6 c7
  rw [h.ins] at c7
  rw [hst] at c6
  have hgl := r.row.lt
  have HLT := Lib.hid rp.lt
  have HI := Lib.hid h.ins
  obtain ⟨e0, e1, e2⟩ := enter16 w r
  obtain ⟨w1, hw1⟩ : ∃ w1, w1 = (w.setCell ⟨g, 7, none⟩ (.bool true)).alloc (.cells #[.pointer (some ⟨g, 0, none⟩)] 29) := ⟨_, rfl⟩
  rw [← hw1] at e0 e1 e2
  have hsz := e2.size
  have hgd : ∀ x, own14p p a k x ∨ x = b → x ≠ g := fun x hx e => hdis g (.inl rfl) (by rw [← e]; exact hx)
  have rp1 := rp.onlyS e2 (fun x hx e => hgd x hx e)
  have hT1 : TabAt w1 := hT.only e2 (fun e => tab_ne hT r e)
  have z0 : w1.cell? ⟨w.heap.size, 0, none⟩ = some (.pointer (some ⟨g, 0, none⟩)) := e0.cell 0
  have E0 := Lib.hid e0
  have E1 := Lib.hid e1
  have E2 := Lib.hid e2
  have HGD := Lib.hid hgd
  have HD := Lib.hid (fun x (hx : own16 g vf vo vl x) (hy : own14p p a k x) => hdis x hx (.inl hy))
  clear r h rp hT hdis e0 e1 e2 hgd hst
  unfold face14
  go_enter_defers Tryd.func69, Tryd.ntmps69
  go_wp2_with fail
  rw [← hw1]
  clear hw1
  refine (pfence16 w1 rp1).mono ?_
  rintro e w2 ⟨k2, rfl, r2, o2, hk2⟩
  go_wp2_with fail
  have G2 := Lib.hid (E1.out.only o2 (fun x hx hy => HD.out x hx hy))
  have T2 := Lib.hid (E0.out.only o2 (fun e => by have := HLT.out _ (.inl e); omega))
  have y0 : w2.cell? ⟨w.heap.size, 0, none⟩ = some (.pointer (some ⟨g, 0, none⟩)) := T2.out.cell 0
  have y7 := G2.out.row.cell 7
  have g7 := G2.out.row.soft 7
  simp only [gvC, in16, List.getElem?_cons_zero, List.getElem?_cons_succ] at y7
  refine leaves_cons (f := 99) (args := #[.pointer (some ⟨w.heap.size, 0, none⟩)]) (by simp) (by simp [go_sem]) ?_
  refine (caught16 w2 y0 y7 g7).mono ?_
  rintro e u' w3 ⟨rfl, rfl, rfl⟩
  simp [Leaves, settle, results, Tryd.results69, go_sem]
  exact endP16 HI.out E2.out G2.out r2 o2 HGD.out hgl (hk2.imp id (fun ⟨x, h1, h2⟩ => ⟨x, h1, by omega⟩))

set_option maxRecDepth 100000 in
set_option maxHeartbeats 4000000 in
theorem accP_s11 (w : World) (r : GAt w g G vf vo vl) (h : Acc16 G) (rp : PlainAt w p a b k V E K) (hT : TabAt w) (hdis : ∀ x, own16 g vf vo vl x → ¬ (own14p p a k x ∨ x = b)) (hst : G.st = 11) :
    Calls Tryd.prog 69 #[.pointer (some ⟨g, 0, none⟩), face14 p] w (AccP g G vf vo vl p a b k V E K 0 w) := by
  have hmf : ∀ (fn : Fn) (first cap : Array Value) (w : World), (Instr.makeFunc fn first cap).run Tryd.prog w = .ok (.func fn first cap) w := fun _ _ _ _ => rfl
  have f7 := r.row.soft 7
  have c7 := r.row.cell 7
  have c6 := r.row.cell 6
  simp only [gvC, List.getElem?_cons_zero, List.getElem?_cons_succ] at c6 c7
  rw [h.ins] at c7
  rw [hst] at c6
  have hgl := r.row.lt
  have HLT := Lib.hid rp.lt
  have HI := Lib.hid h.ins
  obtain ⟨e0, e1, e2⟩ := enter16 w r
  obtain ⟨w1, hw1⟩ : ∃ w1, w1 = (w.setCell ⟨g, 7, none⟩ (.bool true)).alloc (.cells #[.pointer (some ⟨g, 0, none⟩)] 29) := ⟨_, rfl⟩
  rw [← hw1] at e0 e1 e2
  have hsz := e2.size
  have hgd : ∀ x, own14p p a k x ∨ x = b → x ≠ g := fun x hx e => hdis g (.inl rfl) (by rw [← e]; exact hx)
  have rp1 := rp.onlyS e2 (fun x hx e => hgd x hx e)
  have hT1 : TabAt w1 := hT.only e2 (fun e => tab_ne hT r e)
  have z0 : w1.cell? ⟨w.heap.size, 0, none⟩ = some (.pointer (some ⟨g, 0, none⟩)) := e0.cell 0
  have E0 := Lib.hid e0
  have E1 := Lib.hid e1
  have E2 := Lib.hid e2
  have HGD := Lib.hid hgd
  have HD := Lib.hid (fun x (hx : own16 g vf vo vl x) (hy : own14p p a k x) => hdis x hx (.inl hy))
  clear r h rp hT hdis e0 e1 e2 hgd hst
  unfold face14
  go_enter_defers Tryd.func69, Tryd.ntmps69
  go_wp2_with fail
  rw [← hw1]
  clear hw1
  refine (pfence16 w1 rp1).mono ?_
  rintro e w2 ⟨k2, rfl, r2, o2, hk2⟩
  go_wp2_with fail
  have G2 := Lib.hid (E1.out.only o2 (fun x hx hy => HD.out x hx hy))
  have T2 := Lib.hid (E0.out.only o2 (fun e => by have := HLT.out _ (.inl e); omega))
  have y0 : w2.cell? ⟨w.heap.size, 0, none⟩ = some (.pointer (some ⟨g, 0, none⟩)) := T2.out.cell 0
  have y7 := G2.out.row.cell 7
  have g7 := G2.out.row.soft 7
  simp only [gvC, in16, List.getElem?_cons_zero, List.getElem?_cons_succ] at y7
  refine leaves_cons (f := 99) (args := #[.pointer (some ⟨w.heap.size, 0, none⟩)]) (by simp) (by simp [go_sem]) ?_
  refine (caught16 w2 y0 y7 g7).mono ?_
  rintro e u' w3 ⟨rfl, rfl, rfl⟩
  simp [Leaves, settle, results, Tryd.results69, go_sem]
  exact endP16 HI.out E2.out G2.out r2 o2 HGD.out hgl (hk2.imp id (fun ⟨x, h1, h2⟩ => ⟨x, h1, by omega⟩))

set_option maxRecDepth 100000 in
set_option maxHeartbeats 4000000 in
theorem accP_s13 (w : World) (r : GAt w g G vf vo vl) (h : Acc16 G) (rp : PlainAt w p a b k V E K) (hT : TabAt w) (hdis : ∀ x, own16 g vf vo vl x → ¬ (own14p p a k x ∨ x = b)) (hst : G.st = 13) :
    Calls Tryd.prog 69 #[.pointer (some ⟨g, 0, none⟩), face14 p] w (AccP g G vf vo vl p a b k V E K 0 w) := by
  have hmf : ∀ (fn : Fn) (first cap : Array Value) (w : World), (Instr.makeFunc fn first cap).run Tryd.prog w = .ok (.func fn first cap) w := fun _ _ _ _ => rfl
  have f7 := r.row.soft 7
  have c7 := r.row.cell 7
  have c6 := r.row.cell 6
  simp only [gvC, List.getElem?_cons_zero, List.getElem?_cons_succ] at c6 c7
  rw [h.ins] at c7
  rw [hst] at c6
  have hgl := r.row.lt
  have HLT := Lib.hid rp.lt
  have HI := Lib.hid h.ins
  obtain ⟨e0, e1, e2⟩ := enter16 w r
  obtain ⟨w1, hw1⟩ : ∃ w1, w1 = (w.setCell ⟨g, 7, none⟩ (.bool true)).alloc (.cells #[.pointer (some ⟨g, 0, none⟩)] 29) := ⟨_, rfl⟩
  rw [← hw1] at e0 e1 e2
  have hsz := e2.size
  have hgd : ∀ x, own14p p a k x ∨ x = b → x ≠ g := fun x hx e => hdis g (.inl rfl) (by rw [← e]; exact hx)
  have rp1 := rp.onlyS e2 (fun x hx e => hgd x hx e)
  have hT1 : TabAt w1 := hT.only e2 (fun e => tab_ne hT r e)
  have z0 : w1.cell? ⟨w.heap.size, 0, none⟩ = some (.pointer (some ⟨g, 0, none⟩)) := e0.cell 0
  have E0 := Lib.hid e0
  have E1 := Lib.hid e1
  have E2 := Lib.hid e2
  have HGD := Lib.hid hgd
  have HD := Lib.hid (fun x (hx : own16 g vf vo vl x) (hy : own14p p a k x) => hdis x hx (.inl hy))
  clear r h rp hT hdis e0 e1 e2 hgd hst
  unfold face14
  go_enter_defers Tryd.func69, Tryd.ntmps69
  go_wp2_with fail
  rw [← hw1]
  clear hw1
  refine (pfence16 w1 rp1).mono ?_
  rintro e w2 ⟨k2, rfl, r2, o2, hk2⟩
  go_wp2_with fail
  have G2 := Lib.hid (E1.out.only o2 (fun x hx hy => HD.out x hx hy))
  have T2 := Lib.hid (E0.out.only o2 (fun e => by have := HLT.out _ (.inl e); omega))
  have y0 : w2.cell? ⟨w.heap.size, 0, none⟩ = some (.pointer (some ⟨g, 0, none⟩)) := T2.out.cell 0
  have y7 := G2.out.row.cell 7
  have g7 := G2.out.row.soft 7
  simp only [gvC, in16, List.getElem?_cons_zero, List.getElem?_cons_succ] at y7
  refine leaves_cons (f := 99) (args := #[.pointer (some ⟨w.heap.size, 0, none⟩)]) (by simp) (by simp [go_sem]) ?_
  refine (caught16 w2 y0 y7 g7).mono ?_
  rintro e u' w3 ⟨rfl, rfl, rfl⟩
  simp [Leaves, settle, results, Tryd.results69, go_sem]
  exact endP16 HI.out E2.out G2.out r2 o2 HGD.out hgl (hk2.imp id (fun ⟨x, h1, h2⟩ => ⟨x, h1, by omega⟩))

set_option maxRecDepth 100000 in
set_option maxHeartbeats 4000000 in
theorem accP_s1 (w : World) (r : GAt w g G vf vo vl) (h : Acc16 G) (rp : PlainAt w p a b k V E K) (hT : TabAt w) (hdis : ∀ x, own16 g vf vo vl x → ¬ (own14p p a k x ∨ x = b)) (hst : G.st = 1) :
    Calls Tryd.prog 69 #[.pointer (some ⟨g, 0, none⟩), face14 p] w (AccP g G vf vo vl p a b k V E K (nth14 E G.peer) w) := by
  have hmf : ∀ (fn : Fn) (first cap : Array Value) (w : World), (Instr.makeFunc fn first cap).run Tryd.prog w = .ok (.func fn first cap) w := fun _ _ _ _ => rfl
  have f7 := r.row.soft 7
  have c7 := r.row.cell 7
  have c6 := r.row.cell 6
  simp only [gvC, List.getElem?_cons_zero, List.getElem?_cons_succ] at c6 c7
  rw [h.ins] at c7
  rw [hst] at c6
  have hgl := r.row.lt
  have HLT := Lib.hid rp.lt
  have HI := Lib.hid h.ins
  obtain ⟨e0, e1, e2⟩ := enter16 w r
  obtain ⟨w1, hw1⟩ : ∃ w1, w1 = (w.setCell ⟨g, 7, none⟩ (.bool true)).alloc (.cells #[.pointer (some ⟨g, 0, none⟩)] 29) := ⟨_, rfl⟩
  rw [← hw1] at e0 e1 e2
  have hsz := e2.size
  have hgd : ∀ x, own14p p a k x ∨ x = b → x ≠ g := fun x hx e => hdis g (.inl rfl) (by rw [← e]; exact hx)
  have rp1 := rp.onlyS e2 (fun x hx e => hgd x hx e)
  have hT1 : TabAt w1 := hT.only e2 (fun e => tab_ne hT r e)
  have z0 : w1.cell? ⟨w.heap.size, 0, none⟩ = some (.pointer (some ⟨g, 0, none⟩)) := e0.cell 0
  have c2 := e1.row.cell 2
  simp only [gvC, in16, List.getElem?_cons_zero, List.getElem?_cons_succ] at c2
  have E0 := Lib.hid e0
  have E1 := Lib.hid e1
  have E2 := Lib.hid e2
  have HGD := Lib.hid hgd
  have HD := Lib.hid (fun x (hx : own16 g vf vo vl x) (hy : own14p p a k x) => hdis x hx (.inl hy))
  clear r h rp hT hdis e0 e1 e2 hgd hst
  have KP := Lib.hid (fun W (hb : Below w1.heap.size w1 W) => (pepoch16 G.peer W (rp1.below hb)).mono (fun _ _ h => PlP.since hb h))
  have SB : Hid (∀ W, Row W w.heap.size 29 [.pointer (some ⟨g, 0, none⟩)] → GAt W g (in16 G) vf vo vl → W.cell? ⟨w.heap.size, 0, none⟩ = some (.pointer (some ⟨g, 0, none⟩)) ∧ W.cell? ⟨g, 2, none⟩ = some (.int .i64 G.peer)) := Lib.hid (fun W q0 q1 => ?sb)
  case sb =>
    have d0 := q0.cell 0
    have d2 := q1.row.cell 2
    simp only [gvC, in16, List.getElem?_cons_zero, List.getElem?_cons_succ] at d2
    exact ⟨d0, d2⟩
  have SN : Hid (∀ W, Below w1.heap.size w1 W → W.cell? ⟨w.heap.size, 0, none⟩ = some (.pointer (some ⟨g, 0, none⟩)) ∧ W.cell? ⟨g, 2, none⟩ = some (.int .i64 G.peer)) := Lib.hid (fun W hb => SB.out W (E0.out.below hb) (E1.out.below hb))
  have SO : Hid (∀ W, Only (own14p p a k) w1 W → W.cell? ⟨w.heap.size, 0, none⟩ = some (.pointer (some ⟨g, 0, none⟩)) ∧ W.cell? ⟨g, 2, none⟩ = some (.int .i64 G.peer)) := Lib.hid (fun W ho => SB.out W (E0.out.only ho (fun e => by have := HLT.out _ (.inl e); omega)) (E1.out.only ho (fun x hx hy => HD.out x hx hy)))
  unfold face14
  go_enter_defers Tryd.func69, Tryd.ntmps69
  go_wp2_with fail
  rw [← hw1]
  clear hw1
  have hS0 := SN.out w1.drew (Below.refl _ _).drew
  have hbd : Below w1.heap.size w1 w1.drew := (Below.refl _ _).drew
  generalize hQ : w.heap.size = Q at *
  go_region_held3 (fun W => W.cell? ⟨Q, 0, none⟩ = some (.pointer (some ⟨g, 0, none⟩)) ∧ W.cell? ⟨g, 2, none⟩ = some (.int .i64 G.peer))
    (first | exact hS0 | exact hS2 | go_keep)
    (first
      | (go_at_call 140; refine (KP.out _ (by first | assumption)).mono ?_; rintro e w2 ⟨k2, rfl, r2, o2, hk2⟩; have hS2 := SO.out _ o2))
  subst hQ
  all_goals
    go_wp2_with fail
    have G2 := Lib.hid (E1.out.only o2 (fun x hx hy => HD.out x hx hy))
    have T2 := Lib.hid (E0.out.only o2 (fun e => by have := HLT.out _ (.inl e); omega))
    have y0 : w2.cell? ⟨w.heap.size, 0, none⟩ = some (.pointer (some ⟨g, 0, none⟩)) := T2.out.cell 0
    have y7 := G2.out.row.cell 7
    have g7 := G2.out.row.soft 7
    simp only [gvC, in16, List.getElem?_cons_zero, List.getElem?_cons_succ] at y7
    refine leaves_cons (f := 99) (args := #[.pointer (some ⟨w.heap.size, 0, none⟩)]) (by simp) (by simp [go_sem]) ?_
    refine (caught16 w2 y0 y7 g7).mono ?_
    rintro e u' w3 ⟨rfl, rfl, rfl⟩
    simp [Leaves, settle, results, Tryd.results69, go_sem]
    exact endP16 HI.out E2.out G2.out r2 o2 HGD.out hgl (hk2.imp id (fun ⟨x, h1, h2⟩ => ⟨x, h1, by omega⟩))

set_option maxRecDepth 100000 in
set_option maxHeartbeats 4000000 in
theorem accP_s15 (w : World) (r : GAt w g G vf vo vl) (h : Acc16 G) (rp : PlainAt w p a b k V E K) (hT : TabAt w) (hdis : ∀ x, own16 g vf vo vl x → ¬ (own14p p a k x ∨ x = b)) (hst : G.st = 15) :
    Calls Tryd.prog 69 #[.pointer (some ⟨g, 0, none⟩), face14 p] w (AccP g G vf vo vl p a b k V E K (nth14 E G.peer) w) := by
  have hmf : ∀ (fn : Fn) (first cap : Array Value) (w : World), (Instr.makeFunc fn first cap).run Tryd.prog w = .ok (.func fn first cap) w := fun _ _ _ _ => rfl
  have f7 := r.row.soft 7
  have c7 := r.row.cell 7
  have c6 := r.row.cell 6
  simp only [gvC, List.getElem?_cons_zero, List.getElem?_cons_succ] at c6 c7
  rw [h.ins] at c7
  rw [hst] at c6
  have hgl := r.row.lt
  have HLT := Lib.hid rp.lt
  have HI := Lib.hid h.ins
  obtain ⟨e0, e1, e2⟩ := enter16 w r
  obtain ⟨w1, hw1⟩ : ∃ w1, w1 = (w.setCell ⟨g, 7, none⟩ (.bool true)).alloc (.cells #[.pointer (some ⟨g, 0, none⟩)] 29) := ⟨_, rfl⟩
  rw [← hw1] at e0 e1 e2
  have hsz := e2.size
  have hgd : ∀ x, own14p p a k x ∨ x = b → x ≠ g := fun x hx e => hdis g (.inl rfl) (by rw [← e]; exact hx)
  have rp1 := rp.onlyS e2 (fun x hx e => hgd x hx e)
  have hT1 : TabAt w1 := hT.only e2 (fun e => tab_ne hT r e)
  have z0 : w1.cell? ⟨w.heap.size, 0, none⟩ = some (.pointer (some ⟨g, 0, none⟩)) := e0.cell 0
  have c2 := e1.row.cell 2
  simp only [gvC, in16, List.getElem?_cons_zero, List.getElem?_cons_succ] at c2
  have E0 := Lib.hid e0
  have E1 := Lib.hid e1
  have E2 := Lib.hid e2
  have HGD := Lib.hid hgd
  have HD := Lib.hid (fun x (hx : own16 g vf vo vl x) (hy : own14p p a k x) => hdis x hx (.inl hy))
  clear r h rp hT hdis e0 e1 e2 hgd hst
  have KP := Lib.hid (fun W (hb : Below w1.heap.size w1 W) => (pepoch16 G.peer W (rp1.below hb)).mono (fun _ _ h => PlP.since hb h))
  have SB : Hid (∀ W, Row W w.heap.size 29 [.pointer (some ⟨g, 0, none⟩)] → GAt W g (in16 G) vf vo vl → W.cell? ⟨w.heap.size, 0, none⟩ = some (.pointer (some ⟨g, 0, none⟩)) ∧ W.cell? ⟨g, 2, none⟩ = some (.int .i64 G.peer)) := Lib.hid (fun W q0 q1 => ?sb)
  case sb =>
    have d0 := q0.cell 0
    have d2 := q1.row.cell 2
    simp only [gvC, in16, List.getElem?_cons_zero, List.getElem?_cons_succ] at d2
    exact ⟨d0, d2⟩
  have SN : Hid (∀ W, Below w1.heap.size w1 W → W.cell? ⟨w.heap.size, 0, none⟩ = some (.pointer (some ⟨g, 0, none⟩)) ∧ W.cell? ⟨g, 2, none⟩ = some (.int .i64 G.peer)) := Lib.hid (fun W hb => SB.out W (E0.out.below hb) (E1.out.below hb))
  have SO : Hid (∀ W, Only (own14p p a k) w1 W → W.cell? ⟨w.heap.size, 0, none⟩ = some (.pointer (some ⟨g, 0, none⟩)) ∧ W.cell? ⟨g, 2, none⟩ = some (.int .i64 G.peer)) := Lib.hid (fun W ho => SB.out W (E0.out.only ho (fun e => by have := HLT.out _ (.inl e); omega)) (E1.out.only ho (fun x hx hy => HD.out x hx hy)))
  unfold face14
  go_enter_defers Tryd.func69, Tryd.ntmps69
  go_wp2_with fail
  rw [← hw1]
  clear hw1
  have hS0 := SN.out w1.drew (Below.refl _ _).drew
  have hbd : Below w1.heap.size w1 w1.drew := (Below.refl _ _).drew
  generalize hQ : w.heap.size = Q at *
  go_region_held3 (fun W => W.cell? ⟨Q, 0, none⟩ = some (.pointer (some ⟨g, 0, none⟩)) ∧ W.cell? ⟨g, 2, none⟩ = some (.int .i64 G.peer))
    (first | exact hS0 | exact hS2 | go_keep)
    (first
      | (go_at_call 140; refine (KP.out _ (by first | assumption)).mono ?_; rintro e w2 ⟨k2, rfl, r2, o2, hk2⟩; have hS2 := SO.out _ o2))
  subst hQ
  all_goals
    go_wp2_with fail
    have G2 := Lib.hid (E1.out.only o2 (fun x hx hy => HD.out x hx hy))
    have T2 := Lib.hid (E0.out.only o2 (fun e => by have := HLT.out _ (.inl e); omega))
    have y0 : w2.cell? ⟨w.heap.size, 0, none⟩ = some (.pointer (some ⟨g, 0, none⟩)) := T2.out.cell 0
    have y7 := G2.out.row.cell 7
    have g7 := G2.out.row.soft 7
    simp only [gvC, in16, List.getElem?_cons_zero, List.getElem?_cons_succ] at y7
    refine leaves_cons (f := 99) (args := #[.pointer (some ⟨w.heap.size, 0, none⟩)]) (by simp) (by simp [go_sem]) ?_
    refine (caught16 w2 y0 y7 g7).mono ?_
    rintro e u' w3 ⟨rfl, rfl, rfl⟩
    simp [Leaves, settle, results, Tryd.results69, go_sem]
    exact endP16 HI.out E2.out G2.out r2 o2 HGD.out hgl (hk2.imp id (fun ⟨x, h1, h2⟩ => ⟨x, h1, by omega⟩))

set_option maxRecDepth 100000 in
set_option maxHeartbeats 4000000 in
theorem accP_s14 (w : World) (r : GAt w g G vf vo vl) (h : Acc16 G) (rp : PlainAt w p a b k V E K) (hT : TabAt w) (hdis : ∀ x, own16 g vf vo vl x → ¬ (own14p p a k x ∨ x = b)) (hkl : K.length ≤ 65536) (hst : G.st = 14) :
    Calls Tryd.prog 69 #[.pointer (some ⟨g, 0, none⟩), face14 p] w (AccP g G vf vo vl p a b k V E (K ++ [G.peer]) 0 w) := by
  have hmf : ∀ (fn : Fn) (first cap : Array Value) (w : World), (Instr.makeFunc fn first cap).run Tryd.prog w = .ok (.func fn first cap) w := fun _ _ _ _ => rfl
  have f7 := r.row.soft 7
  have c7 := r.row.cell 7
  have c6 := r.row.cell 6
  simp only [gvC, List.getElem?_cons_zero, List.getElem?_cons_succ] at c6 c7
  rw [h.ins] at c7
  rw [hst] at c6
  have hgl := r.row.lt
  have HLT := Lib.hid rp.lt
  have HI := Lib.hid h.ins
  obtain ⟨e0, e1, e2⟩ := enter16 w r
  obtain ⟨w1, hw1⟩ : ∃ w1, w1 = (w.setCell ⟨g, 7, none⟩ (.bool true)).alloc (.cells #[.pointer (some ⟨g, 0, none⟩)] 29) := ⟨_, rfl⟩
  rw [← hw1] at e0 e1 e2
  have hsz := e2.size
  have hgd : ∀ x, own14p p a k x ∨ x = b → x ≠ g := fun x hx e => hdis g (.inl rfl) (by rw [← e]; exact hx)
  have rp1 := rp.onlyS e2 (fun x hx e => hgd x hx e)
  have hT1 : TabAt w1 := hT.only e2 (fun e => tab_ne hT r e)
  have z0 : w1.cell? ⟨w.heap.size, 0, none⟩ = some (.pointer (some ⟨g, 0, none⟩)) := e0.cell 0
  have c2 := e1.row.cell 2
  simp only [gvC, in16, List.getElem?_cons_zero, List.getElem?_cons_succ] at c2
  have E0 := Lib.hid e0
  have E1 := Lib.hid e1
  have E2 := Lib.hid e2
  have HGD := Lib.hid hgd
  have HD := Lib.hid (fun x (hx : own16 g vf vo vl x) (hy : own14p p a k x) => hdis x hx (.inl hy))
  clear r h rp hT hdis e0 e1 e2 hgd hst
  have KP := Lib.hid (fun W (hb : Below w1.heap.size w1 W) => (pkick16 G.peer W (rp1.below hb) hkl).mono (fun _ _ h => PlP.since hb h))
  have SB : Hid (∀ W, Row W w.heap.size 29 [.pointer (some ⟨g, 0, none⟩)] → GAt W g (in16 G) vf vo vl → W.cell? ⟨w.heap.size, 0, none⟩ = some (.pointer (some ⟨g, 0, none⟩)) ∧ W.cell? ⟨g, 2, none⟩ = some (.int .i64 G.peer)) := Lib.hid (fun W q0 q1 => ?sb)
  case sb =>
    have d0 := q0.cell 0
    have d2 := q1.row.cell 2
    simp only [gvC, in16, List.getElem?_cons_zero, List.getElem?_cons_succ] at d2
    exact ⟨d0, d2⟩
  have SN : Hid (∀ W, Below w1.heap.size w1 W → W.cell? ⟨w.heap.size, 0, none⟩ = some (.pointer (some ⟨g, 0, none⟩)) ∧ W.cell? ⟨g, 2, none⟩ = some (.int .i64 G.peer)) := Lib.hid (fun W hb => SB.out W (E0.out.below hb) (E1.out.below hb))
  have SO : Hid (∀ W, Only (own14p p a k) w1 W → W.cell? ⟨w.heap.size, 0, none⟩ = some (.pointer (some ⟨g, 0, none⟩)) ∧ W.cell? ⟨g, 2, none⟩ = some (.int .i64 G.peer)) := Lib.hid (fun W ho => SB.out W (E0.out.only ho (fun e => by have := HLT.out _ (.inl e); omega)) (E1.out.only ho (fun x hx hy => HD.out x hx hy)))
  unfold face14
  go_enter_defers Tryd.func69, Tryd.ntmps69
  go_wp2_with fail
  rw [← hw1]
  clear hw1
  have hS0 := SN.out w1.drew (Below.refl _ _).drew
  have hbd : Below w1.heap.size w1 w1.drew := (Below.refl _ _).drew
  generalize hQ : w.heap.size = Q at *
  go_region_held3 (fun W => W.cell? ⟨Q, 0, none⟩ = some (.pointer (some ⟨g, 0, none⟩)) ∧ W.cell? ⟨g, 2, none⟩ = some (.int .i64 G.peer))
    (first | exact hS0 | exact hS2 | go_keep)
    (first
      | (go_at_call 142; refine (KP.out _ (by first | assumption)).mono ?_; rintro e w2 ⟨k2, rfl, r2, o2, hk2⟩; have hS2 := SO.out _ o2))
  subst hQ
  all_goals
    go_wp2_with fail
    have G2 := Lib.hid (E1.out.only o2 (fun x hx hy => HD.out x hx hy))
    have T2 := Lib.hid (E0.out.only o2 (fun e => by have := HLT.out _ (.inl e); omega))
    have y0 : w2.cell? ⟨w.heap.size, 0, none⟩ = some (.pointer (some ⟨g, 0, none⟩)) := T2.out.cell 0
    have y7 := G2.out.row.cell 7
    have g7 := G2.out.row.soft 7
    simp only [gvC, in16, List.getElem?_cons_zero, List.getElem?_cons_succ] at y7
    refine leaves_cons (f := 99) (args := #[.pointer (some ⟨w.heap.size, 0, none⟩)]) (by simp) (by simp [go_sem]) ?_
    refine (caught16 w2 y0 y7 g7).mono ?_
    rintro e u' w3 ⟨rfl, rfl, rfl⟩
    simp [Leaves, settle, results, Tryd.results69, go_sem]
    exact endP16 HI.out E2.out G2.out r2 o2 HGD.out hgl (hk2.imp id (fun ⟨x, h1, h2⟩ => ⟨x, h1, by omega⟩))

set_option maxRecDepth 100000 in
set_option maxHeartbeats 4000000 in
theorem accP_s2 (w : World) (r : GAt w g G vf vo vl) (h : Acc16 G) (rp : PlainAt w p a b k V E K) (hT : TabAt w) (hdis : ∀ x, own16 g vf vo vl x → ¬ (own14p p a k x ∨ x = b)) (hst : G.st = 2) :
    Calls Tryd.prog 69 #[.pointer (some ⟨g, 0, none⟩), face14 p] w (AccP g G vf vo vl p a b k (put14 V (ad16 G 3 0 0) ((0) % 65536)) E K 0 w) := by
  have hmf : ∀ (fn : Fn) (first cap : Array Value) (w : World), (Instr.makeFunc fn first cap).run Tryd.prog w = .ok (.func fn first cap) w := fun _ _ _ _ => rfl
  obtain ⟨A, hA⟩ : ∃ A, ad16 G 3 0 0 = A := ⟨_, rfl⟩
  rw [hA]
  have f7 := r.row.soft 7
  have c7 := r.row.cell 7
  have c6 := r.row.cell 6
  simp only [gvC, List.getElem?_cons_zero, List.getElem?_cons_succ] at c6 c7
  rw [h.ins] at c7
  rw [hst] at c6
  have hgl := r.row.lt
  have HLT := Lib.hid rp.lt
  have HI := Lib.hid h.ins
  obtain ⟨e0, e1, e2⟩ := enter16 w r
  obtain ⟨w1, hw1⟩ : ∃ w1, w1 = (w.setCell ⟨g, 7, none⟩ (.bool true)).alloc (.cells #[.pointer (some ⟨g, 0, none⟩)] 29) := ⟨_, rfl⟩
  rw [← hw1] at e0 e1 e2
  have hsz := e2.size
  have hgd : ∀ x, own14p p a k x ∨ x = b → x ≠ g := fun x hx e => hdis g (.inl rfl) (by rw [← e]; exact hx)
  have rp1 := rp.onlyS e2 (fun x hx e => hgd x hx e)
  have hT1 : TabAt w1 := hT.only e2 (fun e => tab_ne hT r e)
  have z0 : w1.cell? ⟨w.heap.size, 0, none⟩ = some (.pointer (some ⟨g, 0, none⟩)) := e0.cell 0
  have K5 := Lib.hid (fun W (hb : Below w1.heap.size w1 W) => (at16_any (G := in16 G) 3 0 0 W (e1.below hb) h.B h.R.2 (hT1.below hb)).mono (R' := fun e w' => e = .returned (.int .i64 A) ∧ Below w1.heap.size w1 w') (fun _ _ ⟨he, hb'⟩ => ⟨by rw [he, ← hA]; rfl, below_on hb hb'⟩))
  have E0 := Lib.hid e0
  have E1 := Lib.hid e1
  have E2 := Lib.hid e2
  have HGD := Lib.hid hgd
  have HD := Lib.hid (fun x (hx : own16 g vf vo vl x) (hy : own14p p a k x) => hdis x hx (.inl hy))
  clear r h rp hT hdis e0 e1 e2 hgd hst
  have KP := Lib.hid (fun W (hb : Below w1.heap.size w1 W) => (pstore16 A 0 W (rp1.below hb)).mono (fun _ _ h => PlP.since hb h))
  have SB : Hid (∀ W, Row W w.heap.size 29 [.pointer (some ⟨g, 0, none⟩)] → GAt W g (in16 G) vf vo vl → W.cell? ⟨w.heap.size, 0, none⟩ = some (.pointer (some ⟨g, 0, none⟩))) := Lib.hid (fun W q0 q1 => ?sb)
  case sb =>
    have d0 := q0.cell 0
    exact d0
  have SN : Hid (∀ W, Below w1.heap.size w1 W → W.cell? ⟨w.heap.size, 0, none⟩ = some (.pointer (some ⟨g, 0, none⟩))) := Lib.hid (fun W hb => SB.out W (E0.out.below hb) (E1.out.below hb))
  have SO : Hid (∀ W, Only (own14p p a k) w1 W → W.cell? ⟨w.heap.size, 0, none⟩ = some (.pointer (some ⟨g, 0, none⟩))) := Lib.hid (fun W ho => SB.out W (E0.out.only ho (fun e => by have := HLT.out _ (.inl e); omega)) (E1.out.only ho (fun x hx hy => HD.out x hx hy)))
  unfold face14
  go_enter_defers Tryd.func69, Tryd.ntmps69
  go_wp2_with fail
  rw [← hw1]
  clear hw1
  have hS0 := SN.out w1.drew (Below.refl _ _).drew
  have hbd : Below w1.heap.size w1 w1.drew := (Below.refl _ _).drew
  generalize hQ : w.heap.size = Q at *
  go_region_held3 (fun W => W.cell? ⟨Q, 0, none⟩ = some (.pointer (some ⟨g, 0, none⟩)))
    (first | exact hS0 | exact hS2 | exact hS5 | go_keep)
    (first
      | (go_at_call 35; refine (KP.out _ (by first | assumption)).mono ?_; rintro e w2 ⟨k2, rfl, r2, o2, hk2⟩; have hS2 := SO.out _ o2)
      | (go_at_call 100; refine (K5.out _ (by first | assumption)).mono ?_; rintro e w5 ⟨rfl, hb5⟩; have hS5 := SN.out _ hb5))
  subst hQ
  all_goals
    go_wp2_with fail
    have G2 := Lib.hid (E1.out.only o2 (fun x hx hy => HD.out x hx hy))
    have T2 := Lib.hid (E0.out.only o2 (fun e => by have := HLT.out _ (.inl e); omega))
    have y0 : w2.cell? ⟨w.heap.size, 0, none⟩ = some (.pointer (some ⟨g, 0, none⟩)) := T2.out.cell 0
    have y7 := G2.out.row.cell 7
    have g7 := G2.out.row.soft 7
    simp only [gvC, in16, List.getElem?_cons_zero, List.getElem?_cons_succ] at y7
    refine leaves_cons (f := 99) (args := #[.pointer (some ⟨w.heap.size, 0, none⟩)]) (by simp) (by simp [go_sem]) ?_
    refine (caught16 w2 y0 y7 g7).mono ?_
    rintro e u' w3 ⟨rfl, rfl, rfl⟩
    simp [Leaves, settle, results, Tryd.results69, go_sem]
    exact endP16 HI.out E2.out G2.out r2 o2 HGD.out hgl (hk2.imp id (fun ⟨x, h1, h2⟩ => ⟨x, h1, by omega⟩))

set_option maxRecDepth 100000 in
set_option maxHeartbeats 4000000 in
theorem accP_s3 (w : World) (r : GAt w g G vf vo vl) (h : Acc16 G) (rp : PlainAt w p a b k V E K) (hT : TabAt w) (hdis : ∀ x, own16 g vf vo vl x → ¬ (own14p p a k x ∨ x = b)) (hst : G.st = 3) :
    Calls Tryd.prog 69 #[.pointer (some ⟨g, 0, none⟩), face14 p] w (AccP g G vf vo vl p a b k (put14 V (ad16 G 1 0 0) ((ep16 G) % 65536)) E K 0 w) := by
  have hmf : ∀ (fn : Fn) (first cap : Array Value) (w : World), (Instr.makeFunc fn first cap).run Tryd.prog w = .ok (.func fn first cap) w := fun _ _ _ _ => rfl
  obtain ⟨U, hU⟩ : ∃ A, ep16 G = A := ⟨_, rfl⟩
  rw [hU]
  obtain ⟨A, hA⟩ : ∃ A, ad16 G 1 0 0 = A := ⟨_, rfl⟩
  rw [hA]
  have f7 := r.row.soft 7
  have c7 := r.row.cell 7
  have c6 := r.row.cell 6
  simp only [gvC, List.getElem?_cons_zero, List.getElem?_cons_succ] at c6 c7
  rw [h.ins] at c7
  rw [hst] at c6
  have hgl := r.row.lt
  have HLT := Lib.hid rp.lt
  have HI := Lib.hid h.ins
  obtain ⟨e0, e1, e2⟩ := enter16 w r
  obtain ⟨w1, hw1⟩ : ∃ w1, w1 = (w.setCell ⟨g, 7, none⟩ (.bool true)).alloc (.cells #[.pointer (some ⟨g, 0, none⟩)] 29) := ⟨_, rfl⟩
  rw [← hw1] at e0 e1 e2
  have hsz := e2.size
  have hgd : ∀ x, own14p p a k x ∨ x = b → x ≠ g := fun x hx e => hdis g (.inl rfl) (by rw [← e]; exact hx)
  have rp1 := rp.onlyS e2 (fun x hx e => hgd x hx e)
  have hT1 : TabAt w1 := hT.only e2 (fun e => tab_ne hT r e)
  have z0 : w1.cell? ⟨w.heap.size, 0, none⟩ = some (.pointer (some ⟨g, 0, none⟩)) := e0.cell 0
  have K5 := Lib.hid (fun W (hb : Below w1.heap.size w1 W) => (at16_any (G := in16 G) 1 0 0 W (e1.below hb) h.B h.R.2 (hT1.below hb)).mono (R' := fun e w' => e = .returned (.int .i64 A) ∧ Below w1.heap.size w1 w') (fun _ _ ⟨he, hb'⟩ => ⟨by rw [he, ← hA]; rfl, below_on hb hb'⟩))
  have K6 := Lib.hid (fun W (hb : Below w1.heap.size w1 W) => (epoch16_any (G := in16 G) W (e1.below hb)).mono (R' := fun e w' => e = .returned (.int .i64 U) ∧ Below w1.heap.size w1 w') (fun _ _ ⟨he, hb'⟩ => ⟨by rw [he, ← hU]; rfl, below_on hb hb'⟩))
  have E0 := Lib.hid e0
  have E1 := Lib.hid e1
  have E2 := Lib.hid e2
  have HGD := Lib.hid hgd
  have HD := Lib.hid (fun x (hx : own16 g vf vo vl x) (hy : own14p p a k x) => hdis x hx (.inl hy))
  clear r h rp hT hdis e0 e1 e2 hgd hst
  have KP := Lib.hid (fun W (hb : Below w1.heap.size w1 W) => (pstore16 A U W (rp1.below hb)).mono (fun _ _ h => PlP.since hb h))
  have SB : Hid (∀ W, Row W w.heap.size 29 [.pointer (some ⟨g, 0, none⟩)] → GAt W g (in16 G) vf vo vl → W.cell? ⟨w.heap.size, 0, none⟩ = some (.pointer (some ⟨g, 0, none⟩))) := Lib.hid (fun W q0 q1 => ?sb)
  case sb =>
    have d0 := q0.cell 0
    exact d0
  have SN : Hid (∀ W, Below w1.heap.size w1 W → W.cell? ⟨w.heap.size, 0, none⟩ = some (.pointer (some ⟨g, 0, none⟩))) := Lib.hid (fun W hb => SB.out W (E0.out.below hb) (E1.out.below hb))
  have SO : Hid (∀ W, Only (own14p p a k) w1 W → W.cell? ⟨w.heap.size, 0, none⟩ = some (.pointer (some ⟨g, 0, none⟩))) := Lib.hid (fun W ho => SB.out W (E0.out.only ho (fun e => by have := HLT.out _ (.inl e); omega)) (E1.out.only ho (fun x hx hy => HD.out x hx hy)))
  unfold face14
  go_enter_defers Tryd.func69, Tryd.ntmps69
  go_wp2_with fail
  rw [← hw1]
  clear hw1
  have hS0 := SN.out w1.drew (Below.refl _ _).drew
  have hbd : Below w1.heap.size w1 w1.drew := (Below.refl _ _).drew
  generalize hQ : w.heap.size = Q at *
  go_region_held3 (fun W => W.cell? ⟨Q, 0, none⟩ = some (.pointer (some ⟨g, 0, none⟩)))
    (first | exact hS0 | exact hS2 | exact hS5 | exact hS6 | go_keep)
    (first
      | (go_at_call 35; refine (KP.out _ (by first | assumption)).mono ?_; rintro e w2 ⟨k2, rfl, r2, o2, hk2⟩; have hS2 := SO.out _ o2)
      | (go_at_call 100; refine (K5.out _ (by first | assumption)).mono ?_; rintro e w5 ⟨rfl, hb5⟩; have hS5 := SN.out _ hb5)
      | (go_at_call 94; refine (K6.out _ (by first | assumption)).mono ?_; rintro e w6 ⟨rfl, hb6⟩; have hS6 := SN.out _ hb6))
  subst hQ
  all_goals
    go_wp2_with fail
    have G2 := Lib.hid (E1.out.only o2 (fun x hx hy => HD.out x hx hy))
    have T2 := Lib.hid (E0.out.only o2 (fun e => by have := HLT.out _ (.inl e); omega))
    have y0 : w2.cell? ⟨w.heap.size, 0, none⟩ = some (.pointer (some ⟨g, 0, none⟩)) := T2.out.cell 0
    have y7 := G2.out.row.cell 7
    have g7 := G2.out.row.soft 7
    simp only [gvC, in16, List.getElem?_cons_zero, List.getElem?_cons_succ] at y7
    refine leaves_cons (f := 99) (args := #[.pointer (some ⟨w.heap.size, 0, none⟩)]) (by simp) (by simp [go_sem]) ?_
    refine (caught16 w2 y0 y7 g7).mono ?_
    rintro e u' w3 ⟨rfl, rfl, rfl⟩
    simp [Leaves, settle, results, Tryd.results69, go_sem]
    exact endP16 HI.out E2.out G2.out r2 o2 HGD.out hgl (hk2.imp id (fun ⟨x, h1, h2⟩ => ⟨x, h1, by omega⟩))

set_option maxRecDepth 100000 in
set_option maxHeartbeats 4000000 in
theorem accP_s5 (w : World) (r : GAt w g G vf vo vl) (h : Acc16 G) (rp : PlainAt w p a b k V E K) (hT : TabAt w) (hdis : ∀ x, own16 g vf vo vl x → ¬ (own14p p a k x ∨ x = b)) (hst : G.st = 5) :
    Calls Tryd.prog 69 #[.pointer (some ⟨g, 0, none⟩), face14 p] w (AccP g G vf vo vl p a b k V E K (nth14 V (ad16 G 2 0 0)) w) := by
  have hmf : ∀ (fn : Fn) (first cap : Array Value) (w : World), (Instr.makeFunc fn first cap).run Tryd.prog w = .ok (.func fn first cap) w := fun _ _ _ _ => rfl
  obtain ⟨A, hA⟩ : ∃ A, ad16 G 2 0 0 = A := ⟨_, rfl⟩
  rw [hA]
  have f7 := r.row.soft 7
  have c7 := r.row.cell 7
  have c6 := r.row.cell 6
  simp only [gvC, List.getElem?_cons_zero, List.getElem?_cons_succ] at c6 c7
  rw [h.ins] at c7
  rw [hst] at c6
  have hgl := r.row.lt
  have HLT := Lib.hid rp.lt
  have HI := Lib.hid h.ins
  obtain ⟨e0, e1, e2⟩ := enter16 w r
  obtain ⟨w1, hw1⟩ : ∃ w1, w1 = (w.setCell ⟨g, 7, none⟩ (.bool true)).alloc (.cells #[.pointer (some ⟨g, 0, none⟩)] 29) := ⟨_, rfl⟩
  rw [← hw1] at e0 e1 e2
  have hsz := e2.size
  have hgd : ∀ x, own14p p a k x ∨ x = b → x ≠ g := fun x hx e => hdis g (.inl rfl) (by rw [← e]; exact hx)
  have rp1 := rp.onlyS e2 (fun x hx e => hgd x hx e)
  have hT1 : TabAt w1 := hT.only e2 (fun e => tab_ne hT r e)
  have z0 : w1.cell? ⟨w.heap.size, 0, none⟩ = some (.pointer (some ⟨g, 0, none⟩)) := e0.cell 0
  have K5 := Lib.hid (fun W (hb : Below w1.heap.size w1 W) => (at16_any (G := in16 G) 2 0 0 W (e1.below hb) h.B h.R.2 (hT1.below hb)).mono (R' := fun e w' => e = .returned (.int .i64 A) ∧ Below w1.heap.size w1 w') (fun _ _ ⟨he, hb'⟩ => ⟨by rw [he, ← hA]; rfl, below_on hb hb'⟩))
  have E0 := Lib.hid e0
  have E1 := Lib.hid e1
  have E2 := Lib.hid e2
  have HGD := Lib.hid hgd
  have HD := Lib.hid (fun x (hx : own16 g vf vo vl x) (hy : own14p p a k x) => hdis x hx (.inl hy))
  clear r h rp hT hdis e0 e1 e2 hgd hst
  have KP := Lib.hid (fun W (hb : Below w1.heap.size w1 W) => (pload16 A W (rp1.below hb)).mono (fun _ _ h => PlP.since hb h))
  have SB : Hid (∀ W, Row W w.heap.size 29 [.pointer (some ⟨g, 0, none⟩)] → GAt W g (in16 G) vf vo vl → W.cell? ⟨w.heap.size, 0, none⟩ = some (.pointer (some ⟨g, 0, none⟩))) := Lib.hid (fun W q0 q1 => ?sb)
  case sb =>
    have d0 := q0.cell 0
    exact d0
  have SN : Hid (∀ W, Below w1.heap.size w1 W → W.cell? ⟨w.heap.size, 0, none⟩ = some (.pointer (some ⟨g, 0, none⟩))) := Lib.hid (fun W hb => SB.out W (E0.out.below hb) (E1.out.below hb))
  have SO : Hid (∀ W, Only (own14p p a k) w1 W → W.cell? ⟨w.heap.size, 0, none⟩ = some (.pointer (some ⟨g, 0, none⟩))) := Lib.hid (fun W ho => SB.out W (E0.out.only ho (fun e => by have := HLT.out _ (.inl e); omega)) (E1.out.only ho (fun x hx hy => HD.out x hx hy)))
  unfold face14
  go_enter_defers Tryd.func69, Tryd.ntmps69
  go_wp2_with fail
  rw [← hw1]
  clear hw1
  have hS0 := SN.out w1.drew (Below.refl _ _).drew
  have hbd : Below w1.heap.size w1 w1.drew := (Below.refl _ _).drew
  generalize hQ : w.heap.size = Q at *
  go_region_held3 (fun W => W.cell? ⟨Q, 0, none⟩ = some (.pointer (some ⟨g, 0, none⟩)))
    (first | exact hS0 | exact hS2 | exact hS5 | go_keep)
    (first
      | (go_at_call 55; refine (KP.out _ (by first | assumption)).mono ?_; rintro e w2 ⟨k2, rfl, r2, o2, hk2⟩; have hS2 := SO.out _ o2)
      | (go_at_call 100; refine (K5.out _ (by first | assumption)).mono ?_; rintro e w5 ⟨rfl, hb5⟩; have hS5 := SN.out _ hb5))
  subst hQ
  all_goals
    go_wp2_with fail
    have G2 := Lib.hid (E1.out.only o2 (fun x hx hy => HD.out x hx hy))
    have T2 := Lib.hid (E0.out.only o2 (fun e => by have := HLT.out _ (.inl e); omega))
    have y0 : w2.cell? ⟨w.heap.size, 0, none⟩ = some (.pointer (some ⟨g, 0, none⟩)) := T2.out.cell 0
    have y7 := G2.out.row.cell 7
    have g7 := G2.out.row.soft 7
    simp only [gvC, in16, List.getElem?_cons_zero, List.getElem?_cons_succ] at y7
    refine leaves_cons (f := 99) (args := #[.pointer (some ⟨w.heap.size, 0, none⟩)]) (by simp) (by simp [go_sem]) ?_
    refine (caught16 w2 y0 y7 g7).mono ?_
    rintro e u' w3 ⟨rfl, rfl, rfl⟩
    simp [Leaves, settle, results, Tryd.results69, go_sem]
    exact endP16 HI.out E2.out G2.out r2 o2 HGD.out hgl (hk2.imp id (fun ⟨x, h1, h2⟩ => ⟨x, h1, by omega⟩))

set_option maxRecDepth 100000 in
set_option maxHeartbeats 4000000 in
theorem accP_s6 (w : World) (r : GAt w g G vf vo vl) (h : Acc16 G) (rp : PlainAt w p a b k V E K) (hT : TabAt w) (hdis : ∀ x, own16 g vf vo vl x → ¬ (own14p p a k x ∨ x = b)) (hst : G.st = 6) :
    Calls Tryd.prog 69 #[.pointer (some ⟨g, 0, none⟩), face14 p] w (AccP g G vf vo vl p a b k V E K (nth14 V (ad16 G 4 0 0)) w) := by
  have hmf : ∀ (fn : Fn) (first cap : Array Value) (w : World), (Instr.makeFunc fn first cap).run Tryd.prog w = .ok (.func fn first cap) w := fun _ _ _ _ => rfl
  obtain ⟨A, hA⟩ : ∃ A, ad16 G 4 0 0 = A := ⟨_, rfl⟩
  rw [hA]
  have f7 := r.row.soft 7
  have c7 := r.row.cell 7
  have c6 := r.row.cell 6
  simp only [gvC, List.getElem?_cons_zero, List.getElem?_cons_succ] at c6 c7
  rw [h.ins] at c7
  rw [hst] at c6
  have hgl := r.row.lt
  have HLT := Lib.hid rp.lt
  have HI := Lib.hid h.ins
  obtain ⟨e0, e1, e2⟩ := enter16 w r
  obtain ⟨w1, hw1⟩ : ∃ w1, w1 = (w.setCell ⟨g, 7, none⟩ (.bool true)).alloc (.cells #[.pointer (some ⟨g, 0, none⟩)] 29) := ⟨_, rfl⟩
  rw [← hw1] at e0 e1 e2
  have hsz := e2.size
  have hgd : ∀ x, own14p p a k x ∨ x = b → x ≠ g := fun x hx e => hdis g (.inl rfl) (by rw [← e]; exact hx)
  have rp1 := rp.onlyS e2 (fun x hx e => hgd x hx e)
  have hT1 : TabAt w1 := hT.only e2 (fun e => tab_ne hT r e)
  have z0 : w1.cell? ⟨w.heap.size, 0, none⟩ = some (.pointer (some ⟨g, 0, none⟩)) := e0.cell 0
  have K5 := Lib.hid (fun W (hb : Below w1.heap.size w1 W) => (at16_any (G := in16 G) 4 0 0 W (e1.below hb) h.B h.R.2 (hT1.below hb)).mono (R' := fun e w' => e = .returned (.int .i64 A) ∧ Below w1.heap.size w1 w') (fun _ _ ⟨he, hb'⟩ => ⟨by rw [he, ← hA]; rfl, below_on hb hb'⟩))
  have E0 := Lib.hid e0
  have E1 := Lib.hid e1
  have E2 := Lib.hid e2
  have HGD := Lib.hid hgd
  have HD := Lib.hid (fun x (hx : own16 g vf vo vl x) (hy : own14p p a k x) => hdis x hx (.inl hy))
  clear r h rp hT hdis e0 e1 e2 hgd hst
  have KP := Lib.hid (fun W (hb : Below w1.heap.size w1 W) => (pload16 A W (rp1.below hb)).mono (fun _ _ h => PlP.since hb h))
  have SB : Hid (∀ W, Row W w.heap.size 29 [.pointer (some ⟨g, 0, none⟩)] → GAt W g (in16 G) vf vo vl → W.cell? ⟨w.heap.size, 0, none⟩ = some (.pointer (some ⟨g, 0, none⟩))) := Lib.hid (fun W q0 q1 => ?sb)
  case sb =>
    have d0 := q0.cell 0
    exact d0
  have SN : Hid (∀ W, Below w1.heap.size w1 W → W.cell? ⟨w.heap.size, 0, none⟩ = some (.pointer (some ⟨g, 0, none⟩))) := Lib.hid (fun W hb => SB.out W (E0.out.below hb) (E1.out.below hb))
  have SO : Hid (∀ W, Only (own14p p a k) w1 W → W.cell? ⟨w.heap.size, 0, none⟩ = some (.pointer (some ⟨g, 0, none⟩))) := Lib.hid (fun W ho => SB.out W (E0.out.only ho (fun e => by have := HLT.out _ (.inl e); omega)) (E1.out.only ho (fun x hx hy => HD.out x hx hy)))
  unfold face14
  go_enter_defers Tryd.func69, Tryd.ntmps69
  go_wp2_with fail
  rw [← hw1]
  clear hw1
  have hS0 := SN.out w1.drew (Below.refl _ _).drew
  have hbd : Below w1.heap.size w1 w1.drew := (Below.refl _ _).drew
  generalize hQ : w.heap.size = Q at *
  go_region_held3 (fun W => W.cell? ⟨Q, 0, none⟩ = some (.pointer (some ⟨g, 0, none⟩)))
    (first | exact hS0 | exact hS2 | exact hS5 | go_keep)
    (first
      | (go_at_call 55; refine (KP.out _ (by first | assumption)).mono ?_; rintro e w2 ⟨k2, rfl, r2, o2, hk2⟩; have hS2 := SO.out _ o2)
      | (go_at_call 100; refine (K5.out _ (by first | assumption)).mono ?_; rintro e w5 ⟨rfl, hb5⟩; have hS5 := SN.out _ hb5))
  subst hQ
  all_goals
    go_wp2_with fail
    have G2 := Lib.hid (E1.out.only o2 (fun x hx hy => HD.out x hx hy))
    have T2 := Lib.hid (E0.out.only o2 (fun e => by have := HLT.out _ (.inl e); omega))
    have y0 : w2.cell? ⟨w.heap.size, 0, none⟩ = some (.pointer (some ⟨g, 0, none⟩)) := T2.out.cell 0
    have y7 := G2.out.row.cell 7
    have g7 := G2.out.row.soft 7
    simp only [gvC, in16, List.getElem?_cons_zero, List.getElem?_cons_succ] at y7
    refine leaves_cons (f := 99) (args := #[.pointer (some ⟨w.heap.size, 0, none⟩)]) (by simp) (by simp [go_sem]) ?_
    refine (caught16 w2 y0 y7 g7).mono ?_
    rintro e u' w3 ⟨rfl, rfl, rfl⟩
    simp [Leaves, settle, results, Tryd.results69, go_sem]
    exact endP16 HI.out E2.out G2.out r2 o2 HGD.out hgl (hk2.imp id (fun ⟨x, h1, h2⟩ => ⟨x, h1, by omega⟩))

set_option maxRecDepth 100000 in
set_option maxHeartbeats 4000000 in
theorem accP_s7 (w : World) (r : GAt w g G vf vo vl) (h : Acc16 G) (rp : PlainAt w p a b k V E K) (hT : TabAt w) (hdis : ∀ x, own16 g vf vo vl x → ¬ (own14p p a k x ∨ x = b)) (hst : G.st = 7) :
    Calls Tryd.prog 69 #[.pointer (some ⟨g, 0, none⟩), face14 p] w (AccP g G vf vo vl p a b k V E K (nth14 V (ad16 G 6 (G.tail % (G.R : Int)) 0)) w) := by
  have hmf : ∀ (fn : Fn) (first cap : Array Value) (w : World), (Instr.makeFunc fn first cap).run Tryd.prog w = .ok (.func fn first cap) w := fun _ _ _ _ => rfl
  obtain ⟨m, hm⟩ : ∃ m, G.tail % (G.R : Int) = m := ⟨_, rfl⟩
  have hm0 : 0 ≤ m ∧ m < 64 := by
    have h1 := Int.emod_nonneg G.tail (show (G.R : Int) ≠ 0 by have := h.R; omega)
    have h2 := Int.emod_lt_of_pos G.tail (show (0 : Int) < (G.R : Int) by have := h.R; omega)
    have := h.R
    omega
  have hmt : G.tail.tmod (G.R : Int) = m := by rw [Int.tmod_eq_emod_of_nonneg h.tail.1]; exact hm
  have hmw : wrap64 m = m := by rw [← IntWalk.i64_left, IntWalk.i64_in _ (by omega)]
  have hR0 : (G.R : Int) ≠ 0 := by have := h.R; omega
  have hR1 : ¬ G.R = 0 := by have := h.R; omega
  rw [hm]
  obtain ⟨A, hA⟩ : ∃ A, ad16 G 6 m 0 = A := ⟨_, rfl⟩
  rw [hA]
  have f7 := r.row.soft 7
  have c7 := r.row.cell 7
  have c6 := r.row.cell 6
  simp only [gvC, List.getElem?_cons_zero, List.getElem?_cons_succ] at c6 c7
  rw [h.ins] at c7
  rw [hst] at c6
  have hgl := r.row.lt
  have HLT := Lib.hid rp.lt
  have HI := Lib.hid h.ins
  obtain ⟨e0, e1, e2⟩ := enter16 w r
  obtain ⟨w1, hw1⟩ : ∃ w1, w1 = (w.setCell ⟨g, 7, none⟩ (.bool true)).alloc (.cells #[.pointer (some ⟨g, 0, none⟩)] 29) := ⟨_, rfl⟩
  rw [← hw1] at e0 e1 e2
  have hsz := e2.size
  have hgd : ∀ x, own14p p a k x ∨ x = b → x ≠ g := fun x hx e => hdis g (.inl rfl) (by rw [← e]; exact hx)
  have rp1 := rp.onlyS e2 (fun x hx e => hgd x hx e)
  have hT1 : TabAt w1 := hT.only e2 (fun e => tab_ne hT r e)
  have z0 : w1.cell? ⟨w.heap.size, 0, none⟩ = some (.pointer (some ⟨g, 0, none⟩)) := e0.cell 0
  have c1 := e1.row.cell 1
  have c12 := e1.row.cell 12
  simp only [gvC, in16, List.getElem?_cons_zero, List.getElem?_cons_succ] at c1 c12
  have K5 := Lib.hid (fun W (hb : Below w1.heap.size w1 W) => (at16_any (G := in16 G) 6 m 0 W (e1.below hb) h.B h.R.2 (hT1.below hb)).mono (R' := fun e w' => e = .returned (.int .i64 A) ∧ Below w1.heap.size w1 w') (fun _ _ ⟨he, hb'⟩ => ⟨by rw [he, ← hA]; rfl, below_on hb hb'⟩))
  have E0 := Lib.hid e0
  have E1 := Lib.hid e1
  have E2 := Lib.hid e2
  have HGD := Lib.hid hgd
  have HD := Lib.hid (fun x (hx : own16 g vf vo vl x) (hy : own14p p a k x) => hdis x hx (.inl hy))
  clear r h rp hT hdis e0 e1 e2 hgd hst
  have KP := Lib.hid (fun W (hb : Below w1.heap.size w1 W) => (pload16 A W (rp1.below hb)).mono (fun _ _ h => PlP.since hb h))
  have SB : Hid (∀ W, Row W w.heap.size 29 [.pointer (some ⟨g, 0, none⟩)] → GAt W g (in16 G) vf vo vl → W.cell? ⟨w.heap.size, 0, none⟩ = some (.pointer (some ⟨g, 0, none⟩)) ∧ W.cell? ⟨g, 1, none⟩ = some (.int .i64 (G.R : Int)) ∧ W.cell? ⟨g, 12, none⟩ = some (.int .i64 G.tail)) := Lib.hid (fun W q0 q1 => ?sb)
  case sb =>
    have d0 := q0.cell 0
    have d1 := q1.row.cell 1
    have d12 := q1.row.cell 12
    simp only [gvC, in16, List.getElem?_cons_zero, List.getElem?_cons_succ] at d1 d12
    exact ⟨d0, d1, d12⟩
  have SN : Hid (∀ W, Below w1.heap.size w1 W → W.cell? ⟨w.heap.size, 0, none⟩ = some (.pointer (some ⟨g, 0, none⟩)) ∧ W.cell? ⟨g, 1, none⟩ = some (.int .i64 (G.R : Int)) ∧ W.cell? ⟨g, 12, none⟩ = some (.int .i64 G.tail)) := Lib.hid (fun W hb => SB.out W (E0.out.below hb) (E1.out.below hb))
  have SO : Hid (∀ W, Only (own14p p a k) w1 W → W.cell? ⟨w.heap.size, 0, none⟩ = some (.pointer (some ⟨g, 0, none⟩)) ∧ W.cell? ⟨g, 1, none⟩ = some (.int .i64 (G.R : Int)) ∧ W.cell? ⟨g, 12, none⟩ = some (.int .i64 G.tail)) := Lib.hid (fun W ho => SB.out W (E0.out.only ho (fun e => by have := HLT.out _ (.inl e); omega)) (E1.out.only ho (fun x hx hy => HD.out x hx hy)))
  unfold face14
  go_enter_defers Tryd.func69, Tryd.ntmps69
  go_wp2_with fail
  rw [← hw1]
  clear hw1
  have hS0 := SN.out w1.drew (Below.refl _ _).drew
  have hbd : Below w1.heap.size w1 w1.drew := (Below.refl _ _).drew
  generalize hQ : w.heap.size = Q at *
  go_region_held3 (fun W => W.cell? ⟨Q, 0, none⟩ = some (.pointer (some ⟨g, 0, none⟩)) ∧ W.cell? ⟨g, 1, none⟩ = some (.int .i64 (G.R : Int)) ∧ W.cell? ⟨g, 12, none⟩ = some (.int .i64 G.tail))
    (first | exact hS0 | exact hS2 | exact hS5 | go_keep)
    (first
      | (go_at_call 55; refine (KP.out _ (by first | assumption)).mono ?_; rintro e w2 ⟨k2, rfl, r2, o2, hk2⟩; have hS2 := SO.out _ o2)
      | (go_at_call 100; refine (K5.out _ (by first | assumption)).mono ?_; rintro e w5 ⟨rfl, hb5⟩; have hS5 := SN.out _ hb5))
  subst hQ
  all_goals
    go_wp2_with fail
    have G2 := Lib.hid (E1.out.only o2 (fun x hx hy => HD.out x hx hy))
    have T2 := Lib.hid (E0.out.only o2 (fun e => by have := HLT.out _ (.inl e); omega))
    have y0 : w2.cell? ⟨w.heap.size, 0, none⟩ = some (.pointer (some ⟨g, 0, none⟩)) := T2.out.cell 0
    have y7 := G2.out.row.cell 7
    have g7 := G2.out.row.soft 7
    simp only [gvC, in16, List.getElem?_cons_zero, List.getElem?_cons_succ] at y7
    refine leaves_cons (f := 99) (args := #[.pointer (some ⟨w.heap.size, 0, none⟩)]) (by simp) (by simp [go_sem]) ?_
    refine (caught16 w2 y0 y7 g7).mono ?_
    rintro e u' w3 ⟨rfl, rfl, rfl⟩
    simp [Leaves, settle, results, Tryd.results69, go_sem]
    exact endP16 HI.out E2.out G2.out r2 o2 HGD.out hgl (hk2.imp id (fun ⟨x, h1, h2⟩ => ⟨x, h1, by omega⟩))

set_option maxRecDepth 100000 in
set_option maxHeartbeats 4000000 in
theorem accP_s9 (w : World) (r : GAt w g G vf vo vl) (h : Acc16 G) (rp : PlainAt w p a b k V E K) (hT : TabAt w) (hdis : ∀ x, own16 g vf vo vl x → ¬ (own14p p a k x ∨ x = b)) (hst : G.st = 9) :
    Calls Tryd.prog 69 #[.pointer (some ⟨g, 0, none⟩), face14 p] w (AccP g G vf vo vl p a b k (put14 V (ad16 G 7 (tk16 G) 0) (((G.load.length : Int)) % 65536)) E K 0 w) := by
  have hmf : ∀ (fn : Fn) (first cap : Array Value) (w : World), (Instr.makeFunc fn first cap).run Tryd.prog w = .ok (.func fn first cap) w := fun _ _ _ _ => rfl
  have hout := h.held (by omega) (by omega)
  have hol := h.out
  obtain ⟨D, hD⟩ : ∃ A, tk16 G = A := ⟨_, rfl⟩
  rw [hD]
  obtain ⟨A, hA⟩ : ∃ A, ad16 G 7 D 0 = A := ⟨_, rfl⟩
  rw [hA]
  obtain ⟨Al, cl, rfl⟩ := own_open14 r.load
  have f7 := r.row.soft 7
  have c7 := r.row.cell 7
  have c6 := r.row.cell 6
  simp only [gvC, List.getElem?_cons_zero, List.getElem?_cons_succ] at c6 c7
  rw [h.ins] at c7
  rw [hst] at c6
  have hgl := r.row.lt
  have HLT := Lib.hid rp.lt
  have HI := Lib.hid h.ins
  obtain ⟨e0, e1, e2⟩ := enter16 w r
  obtain ⟨w1, hw1⟩ : ∃ w1, w1 = (w.setCell ⟨g, 7, none⟩ (.bool true)).alloc (.cells #[.pointer (some ⟨g, 0, none⟩)] 29) := ⟨_, rfl⟩
  rw [← hw1] at e0 e1 e2
  have hsz := e2.size
  have hgd : ∀ x, own14p p a k x ∨ x = b → x ≠ g := fun x hx e => hdis g (.inl rfl) (by rw [← e]; exact hx)
  have rp1 := rp.onlyS e2 (fun x hx e => hgd x hx e)
  have hT1 : TabAt w1 := hT.only e2 (fun e => tab_ne hT r e)
  have z0 : w1.cell? ⟨w.heap.size, 0, none⟩ = some (.pointer (some ⟨g, 0, none⟩)) := e0.cell 0
  have c13 := e1.row.cell 13
  simp only [gvC, in16, List.getElem?_cons_zero, List.getElem?_cons_succ] at c13
  have K5 := Lib.hid (fun W (hb : Below w1.heap.size w1 W) => (taken16_any (G := in16 G) W (e1.below hb) hout (by show G.out.length ≤ 65536; omega)).mono (R' := fun e w' => e = .returned (.int .i64 D) ∧ Below w1.heap.size w1 w') (fun _ _ ⟨he, hb'⟩ => ⟨by rw [he, ← hD]; rfl, below_on hb hb'⟩))
  have K6 := Lib.hid (fun W (hb : Below w1.heap.size w1 W) => (at16_any (G := in16 G) 7 D 0 W (e1.below hb) h.B h.R.2 (hT1.below hb)).mono (R' := fun e w' => e = .returned (.int .i64 A) ∧ Below w1.heap.size w1 w') (fun _ _ ⟨he, hb'⟩ => ⟨by rw [he, ← hA]; rfl, below_on hb hb'⟩))
  have E0 := Lib.hid e0
  have E1 := Lib.hid e1
  have E2 := Lib.hid e2
  have HGD := Lib.hid hgd
  have HD := Lib.hid (fun x (hx : own16 g vf vo (.slice Al G.load.length cl) x) (hy : own14p p a k x) => hdis x hx (.inl hy))
  clear r h rp hT hdis e0 e1 e2 hgd hst
  have KP := Lib.hid (fun W (hb : Below w1.heap.size w1 W) => (pstore16 A (G.load.length : Int) W (rp1.below hb)).mono (fun _ _ h => PlP.since hb h))
  have SB : Hid (∀ W, Row W w.heap.size 29 [.pointer (some ⟨g, 0, none⟩)] → GAt W g (in16 G) vf vo (.slice Al G.load.length cl) → W.cell? ⟨w.heap.size, 0, none⟩ = some (.pointer (some ⟨g, 0, none⟩)) ∧ W.cell? ⟨g, 13, none⟩ = some (.slice Al G.load.length cl)) := Lib.hid (fun W q0 q1 => ?sb)
  case sb =>
    have d0 := q0.cell 0
    have d13 := q1.row.cell 13
    simp only [gvC, in16, List.getElem?_cons_zero, List.getElem?_cons_succ] at d13
    exact ⟨d0, d13⟩
  have SN : Hid (∀ W, Below w1.heap.size w1 W → W.cell? ⟨w.heap.size, 0, none⟩ = some (.pointer (some ⟨g, 0, none⟩)) ∧ W.cell? ⟨g, 13, none⟩ = some (.slice Al G.load.length cl)) := Lib.hid (fun W hb => SB.out W (E0.out.below hb) (E1.out.below hb))
  have SO : Hid (∀ W, Only (own14p p a k) w1 W → W.cell? ⟨w.heap.size, 0, none⟩ = some (.pointer (some ⟨g, 0, none⟩)) ∧ W.cell? ⟨g, 13, none⟩ = some (.slice Al G.load.length cl)) := Lib.hid (fun W ho => SB.out W (E0.out.only ho (fun e => by have := HLT.out _ (.inl e); omega)) (E1.out.only ho (fun x hx hy => HD.out x hx hy)))
  unfold face14
  go_enter_defers Tryd.func69, Tryd.ntmps69
  go_wp2_with fail
  rw [← hw1]
  clear hw1
  have hS0 := SN.out w1.drew (Below.refl _ _).drew
  have hbd : Below w1.heap.size w1 w1.drew := (Below.refl _ _).drew
  generalize hQ : w.heap.size = Q at *
  go_region_held3 (fun W => W.cell? ⟨Q, 0, none⟩ = some (.pointer (some ⟨g, 0, none⟩)) ∧ W.cell? ⟨g, 13, none⟩ = some (.slice Al G.load.length cl))
    (first | exact hS0 | exact hS2 | exact hS5 | exact hS6 | go_keep)
    (first
      | (go_at_call 35; refine (KP.out _ (by first | assumption)).mono ?_; rintro e w2 ⟨k2, rfl, r2, o2, hk2⟩; have hS2 := SO.out _ o2)
      | (go_at_call 101; refine (K5.out _ (by first | assumption)).mono ?_; rintro e w5 ⟨rfl, hb5⟩; have hS5 := SN.out _ hb5)
      | (go_at_call 100; refine (K6.out _ (by first | assumption)).mono ?_; rintro e w6 ⟨rfl, hb6⟩; have hS6 := SN.out _ hb6))
  subst hQ
  all_goals
    go_wp2_with fail
    have G2 := Lib.hid (E1.out.only o2 (fun x hx hy => HD.out x hx hy))
    have T2 := Lib.hid (E0.out.only o2 (fun e => by have := HLT.out _ (.inl e); omega))
    have y0 : w2.cell? ⟨w.heap.size, 0, none⟩ = some (.pointer (some ⟨g, 0, none⟩)) := T2.out.cell 0
    have y7 := G2.out.row.cell 7
    have g7 := G2.out.row.soft 7
    simp only [gvC, in16, List.getElem?_cons_zero, List.getElem?_cons_succ] at y7
    refine leaves_cons (f := 99) (args := #[.pointer (some ⟨w.heap.size, 0, none⟩)]) (by simp) (by simp [go_sem]) ?_
    refine (caught16 w2 y0 y7 g7).mono ?_
    rintro e u' w3 ⟨rfl, rfl, rfl⟩
    simp [Leaves, settle, results, Tryd.results69, go_sem]
    exact endP16 HI.out E2.out G2.out r2 o2 HGD.out hgl (hk2.imp id (fun ⟨x, h1, h2⟩ => ⟨x, h1, by omega⟩))

set_option maxRecDepth 100000 in
set_option maxHeartbeats 4000000 in
theorem accP_s10 (w : World) (r : GAt w g G vf vo vl) (h : Acc16 G) (rp : PlainAt w p a b k V E K) (hT : TabAt w) (hdis : ∀ x, own16 g vf vo vl x → ¬ (own14p p a k x ∨ x = b)) (hst : G.st = 10) :
    Calls Tryd.prog 69 #[.pointer (some ⟨g, 0, none⟩), face14 p] w (AccP g G vf vo vl p a b k (put14 V (ad16 G 5 (G.next % (G.R : Int)) 0) ((tk16 G) % 65536)) E K 0 w) := by
  have hmf : ∀ (fn : Fn) (first cap : Array Value) (w : World), (Instr.makeFunc fn first cap).run Tryd.prog w = .ok (.func fn first cap) w := fun _ _ _ _ => rfl
  have hout := h.held (by omega) (by omega)
  have hol := h.out
  obtain ⟨D, hD⟩ : ∃ A, tk16 G = A := ⟨_, rfl⟩
  rw [hD]
  obtain ⟨m, hm⟩ : ∃ m, G.next % (G.R : Int) = m := ⟨_, rfl⟩
  have hm0 : 0 ≤ m ∧ m < 64 := by
    have h1 := Int.emod_nonneg G.next (show (G.R : Int) ≠ 0 by have := h.R; omega)
    have h2 := Int.emod_lt_of_pos G.next (show (0 : Int) < (G.R : Int) by have := h.R; omega)
    have := h.R
    omega
  have hmt : G.next.tmod (G.R : Int) = m := by rw [Int.tmod_eq_emod_of_nonneg h.next.1]; exact hm
  have hmw : wrap64 m = m := by rw [← IntWalk.i64_left, IntWalk.i64_in _ (by omega)]
  have hR0 : (G.R : Int) ≠ 0 := by have := h.R; omega
  have hR1 : ¬ G.R = 0 := by have := h.R; omega
  rw [hm]
  obtain ⟨A, hA⟩ : ∃ A, ad16 G 5 m 0 = A := ⟨_, rfl⟩
  rw [hA]
  have f7 := r.row.soft 7
  have c7 := r.row.cell 7
  have c6 := r.row.cell 6
  simp only [gvC, List.getElem?_cons_zero, List.getElem?_cons_succ] at c6 c7
  rw [h.ins] at c7
  rw [hst] at c6
  have hgl := r.row.lt
  have HLT := Lib.hid rp.lt
  have HI := Lib.hid h.ins
  obtain ⟨e0, e1, e2⟩ := enter16 w r
  obtain ⟨w1, hw1⟩ : ∃ w1, w1 = (w.setCell ⟨g, 7, none⟩ (.bool true)).alloc (.cells #[.pointer (some ⟨g, 0, none⟩)] 29) := ⟨_, rfl⟩
  rw [← hw1] at e0 e1 e2
  have hsz := e2.size
  have hgd : ∀ x, own14p p a k x ∨ x = b → x ≠ g := fun x hx e => hdis g (.inl rfl) (by rw [← e]; exact hx)
  have rp1 := rp.onlyS e2 (fun x hx e => hgd x hx e)
  have hT1 : TabAt w1 := hT.only e2 (fun e => tab_ne hT r e)
  have z0 : w1.cell? ⟨w.heap.size, 0, none⟩ = some (.pointer (some ⟨g, 0, none⟩)) := e0.cell 0
  have c1 := e1.row.cell 1
  have c11 := e1.row.cell 11
  simp only [gvC, in16, List.getElem?_cons_zero, List.getElem?_cons_succ] at c1 c11
  have K5 := Lib.hid (fun W (hb : Below w1.heap.size w1 W) => (at16_any (G := in16 G) 5 m 0 W (e1.below hb) h.B h.R.2 (hT1.below hb)).mono (R' := fun e w' => e = .returned (.int .i64 A) ∧ Below w1.heap.size w1 w') (fun _ _ ⟨he, hb'⟩ => ⟨by rw [he, ← hA]; rfl, below_on hb hb'⟩))
  have K6 := Lib.hid (fun W (hb : Below w1.heap.size w1 W) => (taken16_any (G := in16 G) W (e1.below hb) hout (by show G.out.length ≤ 65536; omega)).mono (R' := fun e w' => e = .returned (.int .i64 D) ∧ Below w1.heap.size w1 w') (fun _ _ ⟨he, hb'⟩ => ⟨by rw [he, ← hD]; rfl, below_on hb hb'⟩))
  have E0 := Lib.hid e0
  have E1 := Lib.hid e1
  have E2 := Lib.hid e2
  have HGD := Lib.hid hgd
  have HD := Lib.hid (fun x (hx : own16 g vf vo vl x) (hy : own14p p a k x) => hdis x hx (.inl hy))
  clear r h rp hT hdis e0 e1 e2 hgd hst
  have KP := Lib.hid (fun W (hb : Below w1.heap.size w1 W) => (pstore16 A D W (rp1.below hb)).mono (fun _ _ h => PlP.since hb h))
  have SB : Hid (∀ W, Row W w.heap.size 29 [.pointer (some ⟨g, 0, none⟩)] → GAt W g (in16 G) vf vo vl → W.cell? ⟨w.heap.size, 0, none⟩ = some (.pointer (some ⟨g, 0, none⟩)) ∧ W.cell? ⟨g, 1, none⟩ = some (.int .i64 (G.R : Int)) ∧ W.cell? ⟨g, 11, none⟩ = some (.int .i64 G.next)) := Lib.hid (fun W q0 q1 => ?sb)
  case sb =>
    have d0 := q0.cell 0
    have d1 := q1.row.cell 1
    have d11 := q1.row.cell 11
    simp only [gvC, in16, List.getElem?_cons_zero, List.getElem?_cons_succ] at d1 d11
    exact ⟨d0, d1, d11⟩
  have SN : Hid (∀ W, Below w1.heap.size w1 W → W.cell? ⟨w.heap.size, 0, none⟩ = some (.pointer (some ⟨g, 0, none⟩)) ∧ W.cell? ⟨g, 1, none⟩ = some (.int .i64 (G.R : Int)) ∧ W.cell? ⟨g, 11, none⟩ = some (.int .i64 G.next)) := Lib.hid (fun W hb => SB.out W (E0.out.below hb) (E1.out.below hb))
  have SO : Hid (∀ W, Only (own14p p a k) w1 W → W.cell? ⟨w.heap.size, 0, none⟩ = some (.pointer (some ⟨g, 0, none⟩)) ∧ W.cell? ⟨g, 1, none⟩ = some (.int .i64 (G.R : Int)) ∧ W.cell? ⟨g, 11, none⟩ = some (.int .i64 G.next)) := Lib.hid (fun W ho => SB.out W (E0.out.only ho (fun e => by have := HLT.out _ (.inl e); omega)) (E1.out.only ho (fun x hx hy => HD.out x hx hy)))
  unfold face14
  go_enter_defers Tryd.func69, Tryd.ntmps69
  go_wp2_with fail
  rw [← hw1]
  clear hw1
  have hS0 := SN.out w1.drew (Below.refl _ _).drew
  have hbd : Below w1.heap.size w1 w1.drew := (Below.refl _ _).drew
  generalize hQ : w.heap.size = Q at *
  go_region_held3 (fun W => W.cell? ⟨Q, 0, none⟩ = some (.pointer (some ⟨g, 0, none⟩)) ∧ W.cell? ⟨g, 1, none⟩ = some (.int .i64 (G.R : Int)) ∧ W.cell? ⟨g, 11, none⟩ = some (.int .i64 G.next))
    (first | exact hS0 | exact hS2 | exact hS5 | exact hS6 | go_keep)
    (first
      | (go_at_call 35; refine (KP.out _ (by first | assumption)).mono ?_; rintro e w2 ⟨k2, rfl, r2, o2, hk2⟩; have hS2 := SO.out _ o2)
      | (go_at_call 100; refine (K5.out _ (by first | assumption)).mono ?_; rintro e w5 ⟨rfl, hb5⟩; have hS5 := SN.out _ hb5)
      | (go_at_call 101; refine (K6.out _ (by first | assumption)).mono ?_; rintro e w6 ⟨rfl, hb6⟩; have hS6 := SN.out _ hb6))
  subst hQ
  all_goals
    go_wp2_with fail
    have G2 := Lib.hid (E1.out.only o2 (fun x hx hy => HD.out x hx hy))
    have T2 := Lib.hid (E0.out.only o2 (fun e => by have := HLT.out _ (.inl e); omega))
    have y0 : w2.cell? ⟨w.heap.size, 0, none⟩ = some (.pointer (some ⟨g, 0, none⟩)) := T2.out.cell 0
    have y7 := G2.out.row.cell 7
    have g7 := G2.out.row.soft 7
    simp only [gvC, in16, List.getElem?_cons_zero, List.getElem?_cons_succ] at y7
    refine leaves_cons (f := 99) (args := #[.pointer (some ⟨w.heap.size, 0, none⟩)]) (by simp) (by simp [go_sem]) ?_
    refine (caught16 w2 y0 y7 g7).mono ?_
    rintro e u' w3 ⟨rfl, rfl, rfl⟩
    simp [Leaves, settle, results, Tryd.results69, go_sem]
    exact endP16 HI.out E2.out G2.out r2 o2 HGD.out hgl (hk2.imp id (fun ⟨x, h1, h2⟩ => ⟨x, h1, by omega⟩))

set_option maxRecDepth 100000 in
set_option maxHeartbeats 4000000 in
theorem accP_s12 (w : World) (r : GAt w g G vf vo vl) (h : Acc16 G) (rp : PlainAt w p a b k V E K) (hT : TabAt w) (hdis : ∀ x, own16 g vf vo vl x → ¬ (own14p p a k x ∨ x = b)) (hst : G.st = 12) :
    Calls Tryd.prog 69 #[.pointer (some ⟨g, 0, none⟩), face14 p] w (AccP g G vf vo vl p a b k (put14 V (ad16 G 3 0 0) ((addW G.next 1) % 65536)) E K 0 w) := by
  have hmf : ∀ (fn : Fn) (first cap : Array Value) (w : World), (Instr.makeFunc fn first cap).run Tryd.prog w = .ok (.func fn first cap) w := fun _ _ _ _ => rfl
  obtain ⟨U, hU⟩ : ∃ A, addW G.next 1 = A := ⟨_, rfl⟩
  rw [hU]
  obtain ⟨A, hA⟩ : ∃ A, ad16 G 3 0 0 = A := ⟨_, rfl⟩
  rw [hA]
  have f7 := r.row.soft 7
  have c7 := r.row.cell 7
  have c6 := r.row.cell 6
  simp only [gvC, List.getElem?_cons_zero, List.getElem?_cons_succ] at c6 c7
  rw [h.ins] at c7
  rw [hst] at c6
  have hgl := r.row.lt
  have HLT := Lib.hid rp.lt
  have HI := Lib.hid h.ins
  obtain ⟨e0, e1, e2⟩ := enter16 w r
  obtain ⟨w1, hw1⟩ : ∃ w1, w1 = (w.setCell ⟨g, 7, none⟩ (.bool true)).alloc (.cells #[.pointer (some ⟨g, 0, none⟩)] 29) := ⟨_, rfl⟩
  rw [← hw1] at e0 e1 e2
  have hsz := e2.size
  have hgd : ∀ x, own14p p a k x ∨ x = b → x ≠ g := fun x hx e => hdis g (.inl rfl) (by rw [← e]; exact hx)
  have rp1 := rp.onlyS e2 (fun x hx e => hgd x hx e)
  have hT1 : TabAt w1 := hT.only e2 (fun e => tab_ne hT r e)
  have z0 : w1.cell? ⟨w.heap.size, 0, none⟩ = some (.pointer (some ⟨g, 0, none⟩)) := e0.cell 0
  have c11 := e1.row.cell 11
  simp only [gvC, in16, List.getElem?_cons_zero, List.getElem?_cons_succ] at c11
  have K5 := Lib.hid (fun W (hb : Below w1.heap.size w1 W) => (at16_any (G := in16 G) 3 0 0 W (e1.below hb) h.B h.R.2 (hT1.below hb)).mono (R' := fun e w' => e = .returned (.int .i64 A) ∧ Below w1.heap.size w1 w') (fun _ _ ⟨he, hb'⟩ => ⟨by rw [he, ← hA]; rfl, below_on hb hb'⟩))
  have K6 := Lib.hid (fun W (hb : Below w1.heap.size w1 W) => (add_any G.next 1 W).mono (R' := fun e w' => e = .returned (.int .i64 U) ∧ Below w1.heap.size w1 w') (fun _ _ ⟨he, hw⟩ => ⟨by rw [he, ← hU], by rw [← hw]; exact hb⟩))
  have E0 := Lib.hid e0
  have E1 := Lib.hid e1
  have E2 := Lib.hid e2
  have HGD := Lib.hid hgd
  have HD := Lib.hid (fun x (hx : own16 g vf vo vl x) (hy : own14p p a k x) => hdis x hx (.inl hy))
  clear r h rp hT hdis e0 e1 e2 hgd hst
  have KP := Lib.hid (fun W (hb : Below w1.heap.size w1 W) => (pstore16 A U W (rp1.below hb)).mono (fun _ _ h => PlP.since hb h))
  have SB : Hid (∀ W, Row W w.heap.size 29 [.pointer (some ⟨g, 0, none⟩)] → GAt W g (in16 G) vf vo vl → W.cell? ⟨w.heap.size, 0, none⟩ = some (.pointer (some ⟨g, 0, none⟩)) ∧ W.cell? ⟨g, 11, none⟩ = some (.int .i64 G.next)) := Lib.hid (fun W q0 q1 => ?sb)
  case sb =>
    have d0 := q0.cell 0
    have d11 := q1.row.cell 11
    simp only [gvC, in16, List.getElem?_cons_zero, List.getElem?_cons_succ] at d11
    exact ⟨d0, d11⟩
  have SN : Hid (∀ W, Below w1.heap.size w1 W → W.cell? ⟨w.heap.size, 0, none⟩ = some (.pointer (some ⟨g, 0, none⟩)) ∧ W.cell? ⟨g, 11, none⟩ = some (.int .i64 G.next)) := Lib.hid (fun W hb => SB.out W (E0.out.below hb) (E1.out.below hb))
  have SO : Hid (∀ W, Only (own14p p a k) w1 W → W.cell? ⟨w.heap.size, 0, none⟩ = some (.pointer (some ⟨g, 0, none⟩)) ∧ W.cell? ⟨g, 11, none⟩ = some (.int .i64 G.next)) := Lib.hid (fun W ho => SB.out W (E0.out.only ho (fun e => by have := HLT.out _ (.inl e); omega)) (E1.out.only ho (fun x hx hy => HD.out x hx hy)))
  unfold face14
  go_enter_defers Tryd.func69, Tryd.ntmps69
  go_wp2_with fail
  rw [← hw1]
  clear hw1
  have hS0 := SN.out w1.drew (Below.refl _ _).drew
  have hbd : Below w1.heap.size w1 w1.drew := (Below.refl _ _).drew
  generalize hQ : w.heap.size = Q at *
  go_region_held3 (fun W => W.cell? ⟨Q, 0, none⟩ = some (.pointer (some ⟨g, 0, none⟩)) ∧ W.cell? ⟨g, 11, none⟩ = some (.int .i64 G.next))
    (first | exact hS0 | exact hS2 | exact hS5 | exact hS6 | go_keep)
    (first
      | (go_at_call 35; refine (KP.out _ (by first | assumption)).mono ?_; rintro e w2 ⟨k2, rfl, r2, o2, hk2⟩; have hS2 := SO.out _ o2)
      | (go_at_call 100; refine (K5.out _ (by first | assumption)).mono ?_; rintro e w5 ⟨rfl, hb5⟩; have hS5 := SN.out _ hb5)
      | (go_at_call 102; refine (K6.out _ (by first | assumption)).mono ?_; rintro e w6 ⟨rfl, hb6⟩; have hS6 := SN.out _ hb6))
  subst hQ
  all_goals
    go_wp2_with fail
    have G2 := Lib.hid (E1.out.only o2 (fun x hx hy => HD.out x hx hy))
    have T2 := Lib.hid (E0.out.only o2 (fun e => by have := HLT.out _ (.inl e); omega))
    have y0 : w2.cell? ⟨w.heap.size, 0, none⟩ = some (.pointer (some ⟨g, 0, none⟩)) := T2.out.cell 0
    have y7 := G2.out.row.cell 7
    have g7 := G2.out.row.soft 7
    simp only [gvC, in16, List.getElem?_cons_zero, List.getElem?_cons_succ] at y7
    refine leaves_cons (f := 99) (args := #[.pointer (some ⟨w.heap.size, 0, none⟩)]) (by simp) (by simp [go_sem]) ?_
    refine (caught16 w2 y0 y7 g7).mono ?_
    rintro e u' w3 ⟨rfl, rfl, rfl⟩
    simp [Leaves, settle, results, Tryd.results69, go_sem]
    exact endP16 HI.out E2.out G2.out r2 o2 HGD.out hgl (hk2.imp id (fun ⟨x, h1, h2⟩ => ⟨x, h1, by omega⟩))

set_option maxRecDepth 100000 in
set_option maxHeartbeats 4000000 in
theorem accP_s8 (w : World) (r : GAt w g G vf vo vl) (h : Acc16 G) (rp : PlainAt w p a b k V E K) (hT : TabAt w) (hdis : ∀ x, own16 g vf vo vl x → ¬ (own14p p a k x ∨ x = b)) (hst : G.st = 8) :
    Calls Tryd.prog 69 #[.pointer (some ⟨g, 0, none⟩), face14 p] w (AccP g G vf vo vl p a b k (put14 V (ad16 G 8 (tk16 G) (G.sto : Int)) ((G.load.getD G.sto 0) % 65536)) E K 0 w) := by
  have hmf : ∀ (fn : Fn) (first cap : Array Value) (w : World), (Instr.makeFunc fn first cap).run Tryd.prog w = .ok (.func fn first cap) w := fun _ _ _ _ => rfl
  have hout := h.held (by omega) (by omega)
  have hol := h.out
  obtain ⟨D, hD⟩ : ∃ A, tk16 G = A := ⟨_, rfl⟩
  rw [hD]
  obtain ⟨A, hA⟩ : ∃ A, ad16 G 8 D (G.sto : Int) = A := ⟨_, rfl⟩
  rw [hA]
  have hw := h.word hst
  obtain ⟨lb, cl, rfl, _, hlb⟩ := r.load.form (by omega)
  obtain ⟨u, hu⟩ : ∃ u, G.load.getD G.sto 0 = u := ⟨_, rfl⟩
  rw [hu]
  have hu1 : (ints G.load)[G.sto]? = some (.int .i64 u) := by rw [ints_at _ _ hw, hu]
  have HU := Lib.hid hu1
  have hw1 : (G.sto : Int) < (G.load.length : Int) := by omega
  have hw0 : (0 : Int) ≤ (G.sto : Int) := by omega
  clear hu hu1
  have f7 := r.row.soft 7
  have c7 := r.row.cell 7
  have c6 := r.row.cell 6
  simp only [gvC, List.getElem?_cons_zero, List.getElem?_cons_succ] at c6 c7
  rw [h.ins] at c7
  rw [hst] at c6
  have hgl := r.row.lt
  have HLT := Lib.hid rp.lt
  have HI := Lib.hid h.ins
  obtain ⟨e0, e1, e2⟩ := enter16 w r
  obtain ⟨w1, hw1⟩ : ∃ w1, w1 = (w.setCell ⟨g, 7, none⟩ (.bool true)).alloc (.cells #[.pointer (some ⟨g, 0, none⟩)] 29) := ⟨_, rfl⟩
  rw [← hw1] at e0 e1 e2
  have hsz := e2.size
  have hgd : ∀ x, own14p p a k x ∨ x = b → x ≠ g := fun x hx e => hdis g (.inl rfl) (by rw [← e]; exact hx)
  have rp1 := rp.onlyS e2 (fun x hx e => hgd x hx e)
  have hT1 : TabAt w1 := hT.only e2 (fun e => tab_ne hT r e)
  have z0 : w1.cell? ⟨w.heap.size, 0, none⟩ = some (.pointer (some ⟨g, 0, none⟩)) := e0.cell 0
  have c13 := e1.row.cell 13
  have c14 := e1.row.cell 14
  simp only [gvC, in16, List.getElem?_cons_zero, List.getElem?_cons_succ] at c13 c14
  have K5 := Lib.hid (fun W (hb : Below w1.heap.size w1 W) => (taken16_any (G := in16 G) W (e1.below hb) hout (by show G.out.length ≤ 65536; omega)).mono (R' := fun e w' => e = .returned (.int .i64 D) ∧ Below w1.heap.size w1 w') (fun _ _ ⟨he, hb'⟩ => ⟨by rw [he, ← hD]; rfl, below_on hb hb'⟩))
  have K6 := Lib.hid (fun W (hb : Below w1.heap.size w1 W) => (at16_any (G := in16 G) 8 D (G.sto : Int) W (e1.below hb) h.B h.R.2 (hT1.below hb)).mono (R' := fun e w' => e = .returned (.int .i64 A) ∧ Below w1.heap.size w1 w') (fun _ _ ⟨he, hb'⟩ => ⟨by rw [he, ← hA]; rfl, below_on hb hb'⟩))
  have E0 := Lib.hid e0
  have E1 := Lib.hid e1
  have E2 := Lib.hid e2
  have HGD := Lib.hid hgd
  have HD := Lib.hid (fun x (hx : own16 g vf vo (.slice (some ⟨lb, 0, none⟩) G.load.length cl) x) (hy : own14p p a k x) => hdis x hx (.inl hy))
  clear r h rp hT hdis e0 e1 e2 hgd hst
  have KP := Lib.hid (fun W (hb : Below w1.heap.size w1 W) => (pstore16 A u W (rp1.below hb)).mono (fun _ _ h => PlP.since hb h))
  have SB : Hid (∀ W, Row W w.heap.size 29 [.pointer (some ⟨g, 0, none⟩)] → GAt W g (in16 G) vf vo (.slice (some ⟨lb, 0, none⟩) G.load.length cl) → W.cell? ⟨w.heap.size, 0, none⟩ = some (.pointer (some ⟨g, 0, none⟩)) ∧ W.cell? ⟨g, 13, none⟩ = some (.slice (some ⟨lb, 0, none⟩) G.load.length cl) ∧ W.cell? ⟨g, 14, none⟩ = some (.int .i64 (G.sto : Int)) ∧ W.cell? ⟨lb, G.sto, none⟩ = some (.int .i64 u)) := Lib.hid (fun W q0 q1 => ?sb)
  case sb =>
    have d0 := q0.cell 0
    have d13 := q1.row.cell 13
    have d14 := q1.row.cell 14
    simp only [gvC, in16, List.getElem?_cons_zero, List.getElem?_cons_succ] at d13 d14
    exact ⟨d0, d13, d14, (q1.load.cellAt G.sto (by show G.sto < G.load.length * 1; omega)).trans HU.out⟩
  have SN : Hid (∀ W, Below w1.heap.size w1 W → W.cell? ⟨w.heap.size, 0, none⟩ = some (.pointer (some ⟨g, 0, none⟩)) ∧ W.cell? ⟨g, 13, none⟩ = some (.slice (some ⟨lb, 0, none⟩) G.load.length cl) ∧ W.cell? ⟨g, 14, none⟩ = some (.int .i64 (G.sto : Int)) ∧ W.cell? ⟨lb, G.sto, none⟩ = some (.int .i64 u)) := Lib.hid (fun W hb => SB.out W (E0.out.below hb) (E1.out.below hb))
  have SO : Hid (∀ W, Only (own14p p a k) w1 W → W.cell? ⟨w.heap.size, 0, none⟩ = some (.pointer (some ⟨g, 0, none⟩)) ∧ W.cell? ⟨g, 13, none⟩ = some (.slice (some ⟨lb, 0, none⟩) G.load.length cl) ∧ W.cell? ⟨g, 14, none⟩ = some (.int .i64 (G.sto : Int)) ∧ W.cell? ⟨lb, G.sto, none⟩ = some (.int .i64 u)) := Lib.hid (fun W ho => SB.out W (E0.out.only ho (fun e => by have := HLT.out _ (.inl e); omega)) (E1.out.only ho (fun x hx hy => HD.out x hx hy)))
  unfold face14
  go_enter_defers Tryd.func69, Tryd.ntmps69
  go_wp2_with fail
  rw [← hw1]
  clear hw1
  have hS0 := SN.out w1.drew (Below.refl _ _).drew
  have hbd : Below w1.heap.size w1 w1.drew := (Below.refl _ _).drew
  generalize hQ : w.heap.size = Q at *
  go_region_held3 (fun W => W.cell? ⟨Q, 0, none⟩ = some (.pointer (some ⟨g, 0, none⟩)) ∧ W.cell? ⟨g, 13, none⟩ = some (.slice (some ⟨lb, 0, none⟩) G.load.length cl) ∧ W.cell? ⟨g, 14, none⟩ = some (.int .i64 (G.sto : Int)) ∧ W.cell? ⟨lb, G.sto, none⟩ = some (.int .i64 u))
    (first | exact hS0 | exact hS2 | exact hS5 | exact hS6 | go_keep)
    (first
      | (go_at_call 35; refine (KP.out _ (by first | assumption)).mono ?_; rintro e w2 ⟨k2, rfl, r2, o2, hk2⟩; have hS2 := SO.out _ o2)
      | (go_at_call 101; refine (K5.out _ (by first | assumption)).mono ?_; rintro e w5 ⟨rfl, hb5⟩; have hS5 := SN.out _ hb5)
      | (go_at_call 100; refine (K6.out _ (by first | assumption)).mono ?_; rintro e w6 ⟨rfl, hb6⟩; have hS6 := SN.out _ hb6))
  subst hQ
  all_goals
    go_wp2_with fail
    have G2 := Lib.hid (E1.out.only o2 (fun x hx hy => HD.out x hx hy))
    have T2 := Lib.hid (E0.out.only o2 (fun e => by have := HLT.out _ (.inl e); omega))
    have y0 : w2.cell? ⟨w.heap.size, 0, none⟩ = some (.pointer (some ⟨g, 0, none⟩)) := T2.out.cell 0
    have y7 := G2.out.row.cell 7
    have g7 := G2.out.row.soft 7
    simp only [gvC, in16, List.getElem?_cons_zero, List.getElem?_cons_succ] at y7
    refine leaves_cons (f := 99) (args := #[.pointer (some ⟨w.heap.size, 0, none⟩)]) (by simp) (by simp [go_sem]) ?_
    refine (caught16 w2 y0 y7 g7).mono ?_
    rintro e u' w3 ⟨rfl, rfl, rfl⟩
    simp [Leaves, settle, results, Tryd.results69, go_sem]
    exact endP16 HI.out E2.out G2.out r2 o2 HGD.out hgl (hk2.imp id (fun ⟨x, h1, h2⟩ => ⟨x, h1, by omega⟩))

theorem accP_any (w : World) (r : GAt w g G vf vo vl) (h : Acc16 G) (rp : PlainAt w p a b k V E K) (hT : TabAt w) (hdis : ∀ x, own16 g vf vo vl x → ¬ (own14p p a k x ∨ x = b)) (hkl : K.length ≤ 65536) (hst : 1 ≤ G.st ∧ G.st ≤ 15) :
    Calls Tryd.prog 69 #[.pointer (some ⟨g, 0, none⟩), face14 p] w (AccP g G vf vo vl p a b k (aV16 V (tch16 G)) E (aK16 K (tch16 G)) (aN16 V E (tch16 G)) w) := by
  have : G.st = 1 ∨ G.st = 2 ∨ G.st = 3 ∨ G.st = 4 ∨ G.st = 5 ∨ G.st = 6 ∨ G.st = 7 ∨ G.st = 8 ∨ G.st = 9 ∨ G.st = 10 ∨ G.st = 11 ∨ G.st = 12 ∨ G.st = 13 ∨ G.st = 14 ∨ G.st = 15 := by omega
  rcases this with e | e | e | e | e | e | e | e | e | e | e | e | e | e | e
  · have := accP_s1 w r h rp hT hdis e
    unfold tch16 aV16 aK16 aN16
    simpa [e, dV14, dK14, dN14] using this
  · have := accP_s2 w r h rp hT hdis e
    unfold tch16 aV16 aK16 aN16
    simpa [e, dV14, dK14, dN14] using this
  · have := accP_s3 w r h rp hT hdis e
    unfold tch16 aV16 aK16 aN16
    simpa [e, dV14, dK14, dN14] using this
  · have := accP_s4 w r h rp hT hdis e
    unfold tch16 aV16 aK16 aN16
    simpa [e, dV14, dK14, dN14] using this
  · have := accP_s5 w r h rp hT hdis e
    unfold tch16 aV16 aK16 aN16
    simpa [e, dV14, dK14, dN14] using this
  · have := accP_s6 w r h rp hT hdis e
    unfold tch16 aV16 aK16 aN16
    simpa [e, dV14, dK14, dN14] using this
  · have := accP_s7 w r h rp hT hdis e
    unfold tch16 aV16 aK16 aN16
    simpa [e, dV14, dK14, dN14] using this
  · have := accP_s8 w r h rp hT hdis e
    unfold tch16 aV16 aK16 aN16
    simpa [e, dV14, dK14, dN14] using this
  · have := accP_s9 w r h rp hT hdis e
    unfold tch16 aV16 aK16 aN16
    simpa [e, dV14, dK14, dN14] using this
  · have := accP_s10 w r h rp hT hdis e
    unfold tch16 aV16 aK16 aN16
    simpa [e, dV14, dK14, dN14] using this
  · have := accP_s11 w r h rp hT hdis e
    unfold tch16 aV16 aK16 aN16
    simpa [e, dV14, dK14, dN14] using this
  · have := accP_s12 w r h rp hT hdis e
    unfold tch16 aV16 aK16 aN16
    simpa [e, dV14, dK14, dN14] using this
  · have := accP_s13 w r h rp hT hdis e
    unfold tch16 aV16 aK16 aN16
    simpa [e, dV14, dK14, dN14] using this
  · have := accP_s14 w r h rp hT hdis hkl e
    unfold tch16 aV16 aK16 aN16
    simpa [e, dV14, dK14, dN14] using this
  · have := accP_s15 w r h rp hT hdis e
    unfold tch16 aV16 aK16 aN16
    simpa [e, dV14, dK14, dN14] using this

end

#print axioms accP_any
end Go.Proofs.YtgdbaaoifnedbaaDoor
