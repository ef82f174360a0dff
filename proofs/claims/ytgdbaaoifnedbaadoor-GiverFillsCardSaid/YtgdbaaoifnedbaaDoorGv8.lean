/-
  Layer 16 (giver): access by a Trace that forwards to a Plain.
  Conditions: those that each theorem states.
-/
import Derived.Test.YtgdbaaoifnedbaaDoorGv7
import Derived.Deep.RegionHeld3
namespace Go.Proofs.YtgdbaaoifnedbaaDoor
open Go.ChangeShapes Go.WideShapes Go.ChangeAt Go.RowKit

section
variable {g : Nat} {G : Gv} {vf vo vl : Value} {t p a b : Nat} {k v : Value} {V E K : List Int} {T : List Tch}

set_option maxRecDepth 100000 in
set_option maxHeartbeats 4000000 in
theorem accT_s4 (w : World) (r : GAt w g G vf vo vl) (h : Acc16 G) (rp : PtAt w t p a b k v V E K T) (hT : TabAt w) (hdis : ∀ x, own16 g vf vo vl x → ¬ (own14 t p a k v x ∨ x = b)) (hl : T.length ≤ 65536) (hst : G.st = 4) :
    Calls Tryd.prog 69 #[.pointer (some ⟨g, 0, none⟩), tface14 t] w (AccT g G vf vo vl t p a b k v V E K (T ++ [(3, 0, 0)]) 0 w) := by
  have hmf : ∀ (fn : Fn) (first cap : Array Value) (w : World), (Instr.makeFunc fn first cap).run Tryd.prog w = .ok (.func fn first cap) w := fun _ _ _ _ => rfl
  have f7 := r.row.soft 7
  have c7 := r.row.cell 7
  have c6 := r.row.cell 6
  simp only [gvC, List.getElem?_cons_zero, List.getElem?_cons_succ] at c6 c7
  rw [h.ins] at c7
  rw [hst] at c6
  have hgl := r.row.lt
  have HLT := Lib.hid rp.lt
  have HI := Lib.hid h.ins
  obtain ⟨e0, e1, e2⟩ := enter16 w r
  obtain ⟨w1, hw1⟩ : ∃ w1, w1 = (w.setCell ⟨g, 7, none⟩ (.bool true)).alloc (.cells #[.pointer (some ⟨g, 0, none⟩)] 29) := ⟨_, rfl⟩
  rw [← hw1] at e0 e1 e2
  have hsz := e2.size
  have hgd : ∀ x, own14 t p a k v x ∨ x = b → x ≠ g := fun x hx e => hdis g (.inl rfl) (by rw [← e]; exact hx)
  have rp1 := rp.only e2 (fun x hx e => hgd x hx e)
  have hT1 : TabAt w1 := hT.only e2 (fun e => tab_ne hT r e)
  have z0 : w1.cell? ⟨w.heap.size, 0, none⟩ = some (.pointer (some ⟨g, 0, none⟩)) := e0.cell 0
  have E0 := Lib.hid e0
  have E1 := Lib.hid e1
  have E2 := Lib.hid e2
  have HGD := Lib.hid hgd
  have HD := Lib.hid (fun x (hx : own16 g vf vo vl x) (hy : own14 t p a k v x) => hdis x hx (.inl hy))
  clear r h rp hT hdis e0 e1 e2 hgd hst
  unfold tface14
  go_enter_defers Tryd.func69, Tryd.ntmps69
  go_wp2_with fail
  rw [← hw1]
  clear hw1
  refine (tfence14_any w1 rp1 hl).mono ?_
  rintro e w2 ⟨k2, v2, rfl, r2, o2, hk2, hv2⟩
  go_wp2_with fail
  have G2 := Lib.hid (E1.out.only o2 (fun x hx hy => HD.out x hx hy))
  have T2 := Lib.hid (E0.out.only o2 (fun e => by have := HLT.out _ (.inl e); omega))
  have y0 : w2.cell? ⟨w.heap.size, 0, none⟩ = some (.pointer (some ⟨g, 0, none⟩)) := T2.out.cell 0
  have y7 := G2.out.row.cell 7
  have g7 := G2.out.row.soft 7
  simp only [gvC, in16, List.getElem?_cons_zero, List.getElem?_cons_succ] at y7
  refine leaves_cons (f := 99) (args := #[.pointer (some ⟨w.heap.size, 0, none⟩)]) (by simp) (by simp [go_sem]) ?_
  refine (caught16 w2 y0 y7 g7).mono ?_
  rintro e u' w3 ⟨rfl, rfl, rfl⟩
  simp [Leaves, settle, results, Tryd.results69, go_sem]
  exact endT16 HI.out E2.out G2.out r2 o2 HGD.out hgl (hk2.imp id (fun ⟨x, h1, h2⟩ => ⟨x, h1, by omega⟩)) (hv2.imp id (fun ⟨x, h1, h2⟩ => ⟨x, h1, by omega⟩))

set_option maxRecDepth 100000 in
set_option maxHeartbeats 4000000 in
theorem accT_s11 (w : World) (r : GAt w g G vf vo vl) (h : Acc16 G) (rp : PtAt w t p a b k v V E K T) (hT : TabAt w) (hdis : ∀ x, own16 g vf vo vl x → ¬ (own14 t p a k v x ∨ x = b)) (hl : T.length ≤ 65536) (hst : G.st = 11) :
    Calls Tryd.prog 69 #[.pointer (some ⟨g, 0, none⟩), tface14 t] w (AccT g G vf vo vl t p a b k v V E K (T ++ [(3, 0, 0)]) 0 w) := by
  have hmf : ∀ (fn : Fn) (first cap : Array Value) (w : World), (Instr.makeFunc fn first cap).run Tryd.prog w = .ok (.func fn first cap) w := fun _ _ _ _ => rfl
  have f7 := r.row.soft 7
  have c7 := r.row.cell 7
  have c6 := r.row.cell 6
  simp only [gvC, List.getElem?_cons_zero, List.getElem?_cons_succ] at c6 c7
  rw [h.ins] at c7
  rw [hst] at c6
  have hgl := r.row.lt
  have HLT := Lib.hid rp.lt
  have HI := Lib.hid h.ins
  obtain ⟨e0, e1, e2⟩ := enter16 w r
  obtain ⟨w1, hw1⟩ : ∃ w1, w1 = (w.setCell ⟨g, 7, none⟩ (.bool true)).alloc (.cells #[.pointer (some ⟨g, 0, none⟩)] 29) := ⟨_, rfl⟩
  rw [← hw1] at e0 e1 e2
  have hsz := e2.size
  have hgd : ∀ x, own14 t p a k v x ∨ x = b → x ≠ g := fun x hx e => hdis g (.inl rfl) (by rw [← e]; exact hx)
  have rp1 := rp.only e2 (fun x hx e => hgd x hx e)
  have hT1 : TabAt w1 := hT.only e2 (fun e => tab_ne hT r e)
  have z0 : w1.cell? ⟨w.heap.size, 0, none⟩ = some (.pointer (some ⟨g, 0, none⟩)) := e0.cell 0
  have E0 := Lib.hid e0
  have E1 := Lib.hid e1
  have E2 := Lib.hid e2
  have HGD := Lib.hid hgd
  have HD := Lib.hid (fun x (hx : own16 g vf vo vl x) (hy : own14 t p a k v x) => hdis x hx (.inl hy))
  clear r h rp hT hdis e0 e1 e2 hgd hst
  unfold tface14
  go_enter_defers Tryd.func69, Tryd.ntmps69
  go_wp2_with fail
  rw [← hw1]
  clear hw1
  refine (tfence14_any w1 rp1 hl).mono ?_
  rintro e w2 ⟨k2, v2, rfl, r2, o2, hk2, hv2⟩
  go_wp2_with fail
  have G2 := Lib.hid (E1.out.only o2 (fun x hx hy => HD.out x hx hy))
  have T2 := Lib.hid (E0.out.only o2 (fun e => by have := HLT.out _ (.inl e); omega))
  have y0 : w2.cell? ⟨w.heap.size, 0, none⟩ = some (.pointer (some ⟨g, 0, none⟩)) := T2.out.cell 0
  have y7 := G2.out.row.cell 7
  have g7 := G2.out.row.soft 7
  simp only [gvC, in16, List.getElem?_cons_zero, List.getElem?_cons_succ] at y7
  refine leaves_cons (f := 99) (args := #[.pointer (some ⟨w.heap.size, 0, none⟩)]) (by simp) (by simp [go_sem]) ?_
  refine (caught16 w2 y0 y7 g7).mono ?_
  rintro e u' w3 ⟨rfl, rfl, rfl⟩
  simp [Leaves, settle, results, Tryd.results69, go_sem]
  exact endT16 HI.out E2.out G2.out r2 o2 HGD.out hgl (hk2.imp id (fun ⟨x, h1, h2⟩ => ⟨x, h1, by omega⟩)) (hv2.imp id (fun ⟨x, h1, h2⟩ => ⟨x, h1, by omega⟩))

set_option maxRecDepth 100000 in
set_option maxHeartbeats 4000000 in
theorem accT_s13 (w : World) (r : GAt w g G vf vo vl) (h : Acc16 G) (rp : PtAt w t p a b k v V E K T) (hT : TabAt w) (hdis : ∀ x, own16 g vf vo vl x → ¬ (own14 t p a k v x ∨ x = b)) (hl : T.length ≤ 65536) (hst : G.st = 13) :
    Calls Tryd.prog 69 #[.pointer (some ⟨g, 0, none⟩), tface14 t] w (AccT g G vf vo vl t p a b k v V E K (T ++ [(3, 0, 0)]) 0 w) := by
  have hmf : ∀ (fn : Fn) (first cap : Array Value) (w : World), (Instr.makeFunc fn first cap).run Tryd.prog w = .ok (.func fn first cap) w := fun _ _ _ _ => rfl
  have f7 := r.row.soft 7
  have c7 := r.row.cell 7
  have c6 := r.row.cell 6
  simp only [gvC, List.getElem?_cons_zero, List.getElem?_cons_succ] at c6 c7
  rw [h.ins] at c7
  rw [hst] at c6
  have hgl := r.row.lt
  have HLT := Lib.hid rp.lt
  have HI := Lib.hid h.ins
  obtain ⟨e0, e1, e2⟩ := enter16 w r
  obtain ⟨w1, hw1⟩ : ∃ w1, w1 = (w.setCell ⟨g, 7, none⟩ (.bool true)).alloc (.cells #[.pointer (some ⟨g, 0, none⟩)] 29) := ⟨_, rfl⟩
  rw [← hw1] at e0 e1 e2
  have hsz := e2.size
  have hgd : ∀ x, own14 t p a k v x ∨ x = b → x ≠ g := fun x hx e => hdis g (.inl rfl) (by rw [← e]; exact hx)
  have rp1 := rp.only e2 (fun x hx e => hgd x hx e)
  have hT1 : TabAt w1 := hT.only e2 (fun e => tab_ne hT r e)
  have z0 : w1.cell? ⟨w.heap.size, 0, none⟩ = some (.pointer (some ⟨g, 0, none⟩)) := e0.cell 0
  have E0 := Lib.hid e0
  have E1 := Lib.hid e1
  have E2 := Lib.hid e2
  have HGD := Lib.hid hgd
  have HD := Lib.hid (fun x (hx : own16 g vf vo vl x) (hy : own14 t p a k v x) => hdis x hx (.inl hy))
  clear r h rp hT hdis e0 e1 e2 hgd hst
  unfold tface14
  go_enter_defers Tryd.func69, Tryd.ntmps69
  go_wp2_with fail
  rw [← hw1]
  clear hw1
  refine (tfence14_any w1 rp1 hl).mono ?_
  rintro e w2 ⟨k2, v2, rfl, r2, o2, hk2, hv2⟩
  go_wp2_with fail
  have G2 := Lib.hid (E1.out.only o2 (fun x hx hy => HD.out x hx hy))
  have T2 := Lib.hid (E0.out.only o2 (fun e => by have := HLT.out _ (.inl e); omega))
  have y0 : w2.cell? ⟨w.heap.size, 0, none⟩ = some (.pointer (some ⟨g, 0, none⟩)) := T2.out.cell 0
  have y7 := G2.out.row.cell 7
  have g7 := G2.out.row.soft 7
  simp only [gvC, in16, List.getElem?_cons_zero, List.getElem?_cons_succ] at y7
  refine leaves_cons (f := 99) (args := #[.pointer (some ⟨w.heap.size, 0, none⟩)]) (by simp) (by simp [go_sem]) ?_
  refine (caught16 w2 y0 y7 g7).mono ?_
  rintro e u' w3 ⟨rfl, rfl, rfl⟩
  simp [Leaves, settle, results, Tryd.results69, go_sem]
  exact endT16 HI.out E2.out G2.out r2 o2 HGD.out hgl (hk2.imp id (fun ⟨x, h1, h2⟩ => ⟨x, h1, by omega⟩)) (hv2.imp id (fun ⟨x, h1, h2⟩ => ⟨x, h1, by omega⟩))

set_option maxRecDepth 100000 in
set_option maxHeartbeats 4000000 in
theorem accT_s1 (w : World) (r : GAt w g G vf vo vl) (h : Acc16 G) (rp : PtAt w t p a b k v V E K T) (hT : TabAt w) (hdis : ∀ x, own16 g vf vo vl x → ¬ (own14 t p a k v x ∨ x = b)) (hl : T.length ≤ 65536) (hst : G.st = 1) :
    Calls Tryd.prog 69 #[.pointer (some ⟨g, 0, none⟩), tface14 t] w (AccT g G vf vo vl t p a b k v V E K (T ++ [(4, G.peer, nth14 E G.peer)]) (nth14 E G.peer) w) := by
  have hmf : ∀ (fn : Fn) (first cap : Array Value) (w : World), (Instr.makeFunc fn first cap).run Tryd.prog w = .ok (.func fn first cap) w := fun _ _ _ _ => rfl
  have f7 := r.row.soft 7
  have c7 := r.row.cell 7
  have c6 := r.row.cell 6
  simp only [gvC, List.getElem?_cons_zero, List.getElem?_cons_succ] at c6 c7
  rw [h.ins] at c7
  rw [hst] at c6
  have hgl := r.row.lt
  have HLT := Lib.hid rp.lt
  have HI := Lib.hid h.ins
  obtain ⟨e0, e1, e2⟩ := enter16 w r
  obtain ⟨w1, hw1⟩ : ∃ w1, w1 = (w.setCell ⟨g, 7, none⟩ (.bool true)).alloc (.cells #[.pointer (some ⟨g, 0, none⟩)] 29) := ⟨_, rfl⟩
  rw [← hw1] at e0 e1 e2
  have hsz := e2.size
  have hgd : ∀ x, own14 t p a k v x ∨ x = b → x ≠ g := fun x hx e => hdis g (.inl rfl) (by rw [← e]; exact hx)
  have rp1 := rp.only e2 (fun x hx e => hgd x hx e)
  have hT1 : TabAt w1 := hT.only e2 (fun e => tab_ne hT r e)
  have z0 : w1.cell? ⟨w.heap.size, 0, none⟩ = some (.pointer (some ⟨g, 0, none⟩)) := e0.cell 0
  have c2 := e1.row.cell 2
  simp only [gvC, in16, List.getElem?_cons_zero, List.getElem?_cons_succ] at c2
  have E0 := Lib.hid e0
  have E1 := Lib.hid e1
  have E2 := Lib.hid e2
  have HGD := Lib.hid hgd
  have HD := Lib.hid (fun x (hx : own16 g vf vo vl x) (hy : own14 t p a k v x) => hdis x hx (.inl hy))
  clear r h rp hT hdis e0 e1 e2 hgd hst
  have KP := Lib.hid (fun W (hb : Below w1.heap.size w1 W) => (tepoch14_any G.peer W (rp1.below hb) hl).mono (fun _ _ h => PtP.since hb h))
  have SB : Hid (∀ W, Row W w.heap.size 29 [.pointer (some ⟨g, 0, none⟩)] → GAt W g (in16 G) vf vo vl → W.cell? ⟨w.heap.size, 0, none⟩ = some (.pointer (some ⟨g, 0, none⟩)) ∧ W.cell? ⟨g, 2, none⟩ = some (.int .i64 G.peer)) := Lib.hid (fun W q0 q1 => ?sb)
  case sb =>
    have d0 := q0.cell 0
    have d2 := q1.row.cell 2
    simp only [gvC, in16, List.getElem?_cons_zero, List.getElem?_cons_succ] at d2
    exact ⟨d0, d2⟩
  have SN : Hid (∀ W, Below w1.heap.size w1 W → W.cell? ⟨w.heap.size, 0, none⟩ = some (.pointer (some ⟨g, 0, none⟩)) ∧ W.cell? ⟨g, 2, none⟩ = some (.int .i64 G.peer)) := Lib.hid (fun W hb => SB.out W (E0.out.below hb) (E1.out.below hb))
  have SO : Hid (∀ W, Only (own14 t p a k v) w1 W → W.cell? ⟨w.heap.size, 0, none⟩ = some (.pointer (some ⟨g, 0, none⟩)) ∧ W.cell? ⟨g, 2, none⟩ = some (.int .i64 G.peer)) := Lib.hid (fun W ho => SB.out W (E0.out.only ho (fun e => by have := HLT.out _ (.inl e); omega)) (E1.out.only ho (fun x hx hy => HD.out x hx hy)))
  unfold tface14
  go_enter_defers Tryd.func69, Tryd.ntmps69
  go_wp2_with fail
  rw [← hw1]
  clear hw1
  have hS0 := SN.out w1.drew (Below.refl _ _).drew
  have hbd : Below w1.heap.size w1 w1.drew := (Below.refl _ _).drew
  generalize hQ : w.heap.size = Q at *
  go_region_held3 (fun W => W.cell? ⟨Q, 0, none⟩ = some (.pointer (some ⟨g, 0, none⟩)) ∧ W.cell? ⟨g, 2, none⟩ = some (.int .i64 G.peer))
    (first | exact hS0 | exact hS2 | go_keep)
    (first
      | (go_at_call 143; refine (KP.out _ (by first | assumption)).mono ?_; rintro e w2 ⟨k2, v2, rfl, r2, o2, hk2, hv2⟩; have hS2 := SO.out _ o2))
  subst hQ
  all_goals
    go_wp2_with fail
    have G2 := Lib.hid (E1.out.only o2 (fun x hx hy => HD.out x hx hy))
    have T2 := Lib.hid (E0.out.only o2 (fun e => by have := HLT.out _ (.inl e); omega))
    have y0 : w2.cell? ⟨w.heap.size, 0, none⟩ = some (.pointer (some ⟨g, 0, none⟩)) := T2.out.cell 0
    have y7 := G2.out.row.cell 7
    have g7 := G2.out.row.soft 7
    simp only [gvC, in16, List.getElem?_cons_zero, List.getElem?_cons_succ] at y7
    refine leaves_cons (f := 99) (args := #[.pointer (some ⟨w.heap.size, 0, none⟩)]) (by simp) (by simp [go_sem]) ?_
    refine (caught16 w2 y0 y7 g7).mono ?_
    rintro e u' w3 ⟨rfl, rfl, rfl⟩
    simp [Leaves, settle, results, Tryd.results69, go_sem]
    exact endT16 HI.out E2.out G2.out r2 o2 HGD.out hgl (hk2.imp id (fun ⟨x, h1, h2⟩ => ⟨x, h1, by omega⟩)) (hv2.imp id (fun ⟨x, h1, h2⟩ => ⟨x, h1, by omega⟩))

set_option maxRecDepth 100000 in
set_option maxHeartbeats 4000000 in
theorem accT_s15 (w : World) (r : GAt w g G vf vo vl) (h : Acc16 G) (rp : PtAt w t p a b k v V E K T) (hT : TabAt w) (hdis : ∀ x, own16 g vf vo vl x → ¬ (own14 t p a k v x ∨ x = b)) (hl : T.length ≤ 65536) (hst : G.st = 15) :
    Calls Tryd.prog 69 #[.pointer (some ⟨g, 0, none⟩), tface14 t] w (AccT g G vf vo vl t p a b k v V E K (T ++ [(4, G.peer, nth14 E G.peer)]) (nth14 E G.peer) w) := by
  have hmf : ∀ (fn : Fn) (first cap : Array Value) (w : World), (Instr.makeFunc fn first cap).run Tryd.prog w = .ok (.func fn first cap) w := fun _ _ _ _ => rfl
  have f7 := r.row.soft 7
  have c7 := r.row.cell 7
  have c6 := r.row.cell 6
  simp only [gvC, List.getElem?_cons_zero, List.getElem?_cons_succ] at c6 c7
  rw [h.ins] at c7
  rw [hst] at c6
  have hgl := r.row.lt
  have HLT := Lib.hid rp.lt
  have HI := Lib.hid h.ins
  obtain ⟨e0, e1, e2⟩ := enter16 w r
  obtain ⟨w1, hw1⟩ : ∃ w1, w1 = (w.setCell ⟨g, 7, none⟩ (.bool true)).alloc (.cells #[.pointer (some ⟨g, 0, none⟩)] 29) := ⟨_, rfl⟩
  rw [← hw1] at e0 e1 e2
  have hsz := e2.size
  have hgd : ∀ x, own14 t p a k v x ∨ x = b → x ≠ g := fun x hx e => hdis g (.inl rfl) (by rw [← e]; exact hx)
  have rp1 := rp.only e2 (fun x hx e => hgd x hx e)
  have hT1 : TabAt w1 := hT.only e2 (fun e => tab_ne hT r e)
  have z0 : w1.cell? ⟨w.heap.size, 0, none⟩ = some (.pointer (some ⟨g, 0, none⟩)) := e0.cell 0
  have c2 := e1.row.cell 2
  simp only [gvC, in16, List.getElem?_cons_zero, List.getElem?_cons_succ] at c2
  have E0 := Lib.hid e0
  have E1 := Lib.hid e1
  have E2 := Lib.hid e2
  have HGD := Lib.hid hgd
  have HD := Lib.hid (fun x (hx : own16 g vf vo vl x) (hy : own14 t p a k v x) => hdis x hx (.inl hy))
  clear r h rp hT hdis e0 e1 e2 hgd hst
  have KP := Lib.hid (fun W (hb : Below w1.heap.size w1 W) => (tepoch14_any G.peer W (rp1.below hb) hl).mono (fun _ _ h => PtP.since hb h))
  have SB : Hid (∀ W, Row W w.heap.size 29 [.pointer (some ⟨g, 0, none⟩)] → GAt W g (in16 G) vf vo vl → W.cell? ⟨w.heap.size, 0, none⟩ = some (.pointer (some ⟨g, 0, none⟩)) ∧ W.cell? ⟨g, 2, none⟩ = some (.int .i64 G.peer)) := Lib.hid (fun W q0 q1 => ?sb)
  case sb =>
    have d0 := q0.cell 0
    have d2 := q1.row.cell 2
    simp only [gvC, in16, List.getElem?_cons_zero, List.getElem?_cons_succ] at d2
    exact ⟨d0, d2⟩
  have SN : Hid (∀ W, Below w1.heap.size w1 W → W.cell? ⟨w.heap.size, 0, none⟩ = some (.pointer (some ⟨g, 0, none⟩)) ∧ W.cell? ⟨g, 2, none⟩ = some (.int .i64 G.peer)) := Lib.hid (fun W hb => SB.out W (E0.out.below hb) (E1.out.below hb))
  have SO : Hid (∀ W, Only (own14 t p a k v) w1 W → W.cell? ⟨w.heap.size, 0, none⟩ = some (.pointer (some ⟨g, 0, none⟩)) ∧ W.cell? ⟨g, 2, none⟩ = some (.int .i64 G.peer)) := Lib.hid (fun W ho => SB.out W (E0.out.only ho (fun e => by have := HLT.out _ (.inl e); omega)) (E1.out.only ho (fun x hx hy => HD.out x hx hy)))
  unfold tface14
  go_enter_defers Tryd.func69, Tryd.ntmps69
  go_wp2_with fail
  rw [← hw1]
  clear hw1
  have hS0 := SN.out w1.drew (Below.refl _ _).drew
  have hbd : Below w1.heap.size w1 w1.drew := (Below.refl _ _).drew
  generalize hQ : w.heap.size = Q at *
  go_region_held3 (fun W => W.cell? ⟨Q, 0, none⟩ = some (.pointer (some ⟨g, 0, none⟩)) ∧ W.cell? ⟨g, 2, none⟩ = some (.int .i64 G.peer))
    (first | exact hS0 | exact hS2 | go_keep)
    (first
      | (go_at_call 143; refine (KP.out _ (by first | assumption)).mono ?_; rintro e w2 ⟨k2, v2, rfl, r2, o2, hk2, hv2⟩; have hS2 := SO.out _ o2))
  subst hQ
  all_goals
    go_wp2_with fail
    have G2 := Lib.hid (E1.out.only o2 (fun x hx hy => HD.out x hx hy))
    have T2 := Lib.hid (E0.out.only o2 (fun e => by have := HLT.out _ (.inl e); omega))
    have y0 : w2.cell? ⟨w.heap.size, 0, none⟩ = some (.pointer (some ⟨g, 0, none⟩)) := T2.out.cell 0
    have y7 := G2.out.row.cell 7
    have g7 := G2.out.row.soft 7
    simp only [gvC, in16, List.getElem?_cons_zero, List.getElem?_cons_succ] at y7
    refine leaves_cons (f := 99) (args := #[.pointer (some ⟨w.heap.size, 0, none⟩)]) (by simp) (by simp [go_sem]) ?_
    refine (caught16 w2 y0 y7 g7).mono ?_
    rintro e u' w3 ⟨rfl, rfl, rfl⟩
    simp [Leaves, settle, results, Tryd.results69, go_sem]
    exact endT16 HI.out E2.out G2.out r2 o2 HGD.out hgl (hk2.imp id (fun ⟨x, h1, h2⟩ => ⟨x, h1, by omega⟩)) (hv2.imp id (fun ⟨x, h1, h2⟩ => ⟨x, h1, by omega⟩))

set_option maxRecDepth 100000 in
set_option maxHeartbeats 4000000 in
theorem accT_s14 (w : World) (r : GAt w g G vf vo vl) (h : Acc16 G) (rp : PtAt w t p a b k v V E K T) (hT : TabAt w) (hdis : ∀ x, own16 g vf vo vl x → ¬ (own14 t p a k v x ∨ x = b)) (hl : T.length ≤ 65536) (hkl : K.length ≤ 65536) (hst : G.st = 14) :
    Calls Tryd.prog 69 #[.pointer (some ⟨g, 0, none⟩), tface14 t] w (AccT g G vf vo vl t p a b k v V E (K ++ [G.peer]) (T ++ [(5, G.peer, 0)]) 0 w) := by
  have hmf : ∀ (fn : Fn) (first cap : Array Value) (w : World), (Instr.makeFunc fn first cap).run Tryd.prog w = .ok (.func fn first cap) w := fun _ _ _ _ => rfl
  have f7 := r.row.soft 7
  have c7 := r.row.cell 7
  have c6 := r.row.cell 6
  simp only [gvC, List.getElem?_cons_zero, List.getElem?_cons_succ] at c6 c7
  rw [h.ins] at c7
  rw [hst] at c6
  have hgl := r.row.lt
  have HLT := Lib.hid rp.lt
  have HI := Lib.hid h.ins
  obtain ⟨e0, e1, e2⟩ := enter16 w r
  obtain ⟨w1, hw1⟩ : ∃ w1, w1 = (w.setCell ⟨g, 7, none⟩ (.bool true)).alloc (.cells #[.pointer (some ⟨g, 0, none⟩)] 29) := ⟨_, rfl⟩
  rw [← hw1] at e0 e1 e2
  have hsz := e2.size
  have hgd : ∀ x, own14 t p a k v x ∨ x = b → x ≠ g := fun x hx e => hdis g (.inl rfl) (by rw [← e]; exact hx)
  have rp1 := rp.only e2 (fun x hx e => hgd x hx e)
  have hT1 : TabAt w1 := hT.only e2 (fun e => tab_ne hT r e)
  have z0 : w1.cell? ⟨w.heap.size, 0, none⟩ = some (.pointer (some ⟨g, 0, none⟩)) := e0.cell 0
  have c2 := e1.row.cell 2
  simp only [gvC, in16, List.getElem?_cons_zero, List.getElem?_cons_succ] at c2
  have E0 := Lib.hid e0
  have E1 := Lib.hid e1
  have E2 := Lib.hid e2
  have HGD := Lib.hid hgd
  have HD := Lib.hid (fun x (hx : own16 g vf vo vl x) (hy : own14 t p a k v x) => hdis x hx (.inl hy))
  clear r h rp hT hdis e0 e1 e2 hgd hst
  have KP := Lib.hid (fun W (hb : Below w1.heap.size w1 W) => (tkick14_any G.peer W (rp1.below hb) hl hkl).mono (fun _ _ h => PtP.since hb h))
  have SB : Hid (∀ W, Row W w.heap.size 29 [.pointer (some ⟨g, 0, none⟩)] → GAt W g (in16 G) vf vo vl → W.cell? ⟨w.heap.size, 0, none⟩ = some (.pointer (some ⟨g, 0, none⟩)) ∧ W.cell? ⟨g, 2, none⟩ = some (.int .i64 G.peer)) := Lib.hid (fun W q0 q1 => ?sb)
  case sb =>
    have d0 := q0.cell 0
    have d2 := q1.row.cell 2
    simp only [gvC, in16, List.getElem?_cons_zero, List.getElem?_cons_succ] at d2
    exact ⟨d0, d2⟩
  have SN : Hid (∀ W, Below w1.heap.size w1 W → W.cell? ⟨w.heap.size, 0, none⟩ = some (.pointer (some ⟨g, 0, none⟩)) ∧ W.cell? ⟨g, 2, none⟩ = some (.int .i64 G.peer)) := Lib.hid (fun W hb => SB.out W (E0.out.below hb) (E1.out.below hb))
  have SO : Hid (∀ W, Only (own14 t p a k v) w1 W → W.cell? ⟨w.heap.size, 0, none⟩ = some (.pointer (some ⟨g, 0, none⟩)) ∧ W.cell? ⟨g, 2, none⟩ = some (.int .i64 G.peer)) := Lib.hid (fun W ho => SB.out W (E0.out.only ho (fun e => by have := HLT.out _ (.inl e); omega)) (E1.out.only ho (fun x hx hy => HD.out x hx hy)))
  unfold tface14
  go_enter_defers Tryd.func69, Tryd.ntmps69
  go_wp2_with fail
  rw [← hw1]
  clear hw1
  have hS0 := SN.out w1.drew (Below.refl _ _).drew
  have hbd : Below w1.heap.size w1 w1.drew := (Below.refl _ _).drew
  generalize hQ : w.heap.size = Q at *
  go_region_held3 (fun W => W.cell? ⟨Q, 0, none⟩ = some (.pointer (some ⟨g, 0, none⟩)) ∧ W.cell? ⟨g, 2, none⟩ = some (.int .i64 G.peer))
    (first | exact hS0 | exact hS2 | go_keep)
    (first
      | (go_at_call 145; refine (KP.out _ (by first | assumption)).mono ?_; rintro e w2 ⟨k2, v2, rfl, r2, o2, hk2, hv2⟩; have hS2 := SO.out _ o2))
  subst hQ
  all_goals
    go_wp2_with fail
    have G2 := Lib.hid (E1.out.only o2 (fun x hx hy => HD.out x hx hy))
    have T2 := Lib.hid (E0.out.only o2 (fun e => by have := HLT.out _ (.inl e); omega))
    have y0 : w2.cell? ⟨w.heap.size, 0, none⟩ = some (.pointer (some ⟨g, 0, none⟩)) := T2.out.cell 0
    have y7 := G2.out.row.cell 7
    have g7 := G2.out.row.soft 7
    simp only [gvC, in16, List.getElem?_cons_zero, List.getElem?_cons_succ] at y7
    refine leaves_cons (f := 99) (args := #[.pointer (some ⟨w.heap.size, 0, none⟩)]) (by simp) (by simp [go_sem]) ?_
    refine (caught16 w2 y0 y7 g7).mono ?_
    rintro e u' w3 ⟨rfl, rfl, rfl⟩
    simp [Leaves, settle, results, Tryd.results69, go_sem]
    exact endT16 HI.out E2.out G2.out r2 o2 HGD.out hgl (hk2.imp id (fun ⟨x, h1, h2⟩ => ⟨x, h1, by omega⟩)) (hv2.imp id (fun ⟨x, h1, h2⟩ => ⟨x, h1, by omega⟩))

set_option maxRecDepth 100000 in
set_option maxHeartbeats 4000000 in
theorem accT_s2 (w : World) (r : GAt w g G vf vo vl) (h : Acc16 G) (rp : PtAt w t p a b k v V E K T) (hT : TabAt w) (hdis : ∀ x, own16 g vf vo vl x → ¬ (own14 t p a k v x ∨ x = b)) (hl : T.length ≤ 65536) (hst : G.st = 2) :
    Calls Tryd.prog 69 #[.pointer (some ⟨g, 0, none⟩), tface14 t] w (AccT g G vf vo vl t p a b k v (put14 V (ad16 G 3 0 0) ((0) % 65536)) E K (T ++ [(2, ad16 G 3 0 0, 0)]) 0 w) := by
  have hmf : ∀ (fn : Fn) (first cap : Array Value) (w : World), (Instr.makeFunc fn first cap).run Tryd.prog w = .ok (.func fn first cap) w := fun _ _ _ _ => rfl
  obtain ⟨A, hA⟩ : ∃ A, ad16 G 3 0 0 = A := ⟨_, rfl⟩
  rw [hA]
  have f7 := r.row.soft 7
  have c7 := r.row.cell 7
  have c6 := r.row.cell 6
  simp only [gvC, List.getElem?_cons_zero, List.getElem?_cons_succ] at c6 c7
  rw [h.ins] at c7
  rw [hst] at c6
  have hgl := r.row.lt
  have HLT := Lib.hid rp.lt
  have HI := Lib.hid h.ins
  obtain ⟨e0, e1, e2⟩ := enter16 w r
  obtain ⟨w1, hw1⟩ : ∃ w1, w1 = (w.setCell ⟨g, 7, none⟩ (.bool true)).alloc (.cells #[.pointer (some ⟨g, 0, none⟩)] 29) := ⟨_, rfl⟩
  rw [← hw1] at e0 e1 e2
  have hsz := e2.size
  have hgd : ∀ x, own14 t p a k v x ∨ x = b → x ≠ g := fun x hx e => hdis g (.inl rfl) (by rw [← e]; exact hx)
  have rp1 := rp.only e2 (fun x hx e => hgd x hx e)
  have hT1 : TabAt w1 := hT.only e2 (fun e => tab_ne hT r e)
  have z0 : w1.cell? ⟨w.heap.size, 0, none⟩ = some (.pointer (some ⟨g, 0, none⟩)) := e0.cell 0
  have K5 := Lib.hid (fun W (hb : Below w1.heap.size w1 W) => (at16_any (G := in16 G) 3 0 0 W (e1.below hb) h.B h.R.2 (hT1.below hb)).mono (R' := fun e w' => e = .returned (.int .i64 A) ∧ Below w1.heap.size w1 w') (fun _ _ ⟨he, hb'⟩ => ⟨by rw [he, ← hA]; rfl, below_on hb hb'⟩))
  have E0 := Lib.hid e0
  have E1 := Lib.hid e1
  have E2 := Lib.hid e2
  have HGD := Lib.hid hgd
  have HD := Lib.hid (fun x (hx : own16 g vf vo vl x) (hy : own14 t p a k v x) => hdis x hx (.inl hy))
  clear r h rp hT hdis e0 e1 e2 hgd hst
  have KP := Lib.hid (fun W (hb : Below w1.heap.size w1 W) => (tstore14_any A 0 W (rp1.below hb) hl).mono (fun _ _ h => PtP.since hb h))
  have SB : Hid (∀ W, Row W w.heap.size 29 [.pointer (some ⟨g, 0, none⟩)] → GAt W g (in16 G) vf vo vl → W.cell? ⟨w.heap.size, 0, none⟩ = some (.pointer (some ⟨g, 0, none⟩))) := Lib.hid (fun W q0 q1 => ?sb)
  case sb =>
    have d0 := q0.cell 0
    exact d0
  have SN : Hid (∀ W, Below w1.heap.size w1 W → W.cell? ⟨w.heap.size, 0, none⟩ = some (.pointer (some ⟨g, 0, none⟩))) := Lib.hid (fun W hb => SB.out W (E0.out.below hb) (E1.out.below hb))
  have SO : Hid (∀ W, Only (own14 t p a k v) w1 W → W.cell? ⟨w.heap.size, 0, none⟩ = some (.pointer (some ⟨g, 0, none⟩))) := Lib.hid (fun W ho => SB.out W (E0.out.only ho (fun e => by have := HLT.out _ (.inl e); omega)) (E1.out.only ho (fun x hx hy => HD.out x hx hy)))
  unfold tface14
  go_enter_defers Tryd.func69, Tryd.ntmps69
  go_wp2_with fail
  rw [← hw1]
  clear hw1
  have hS0 := SN.out w1.drew (Below.refl _ _).drew
  have hbd : Below w1.heap.size w1 w1.drew := (Below.refl _ _).drew
  generalize hQ : w.heap.size = Q at *
  go_region_held3 (fun W => W.cell? ⟨Q, 0, none⟩ = some (.pointer (some ⟨g, 0, none⟩)))
    (first | exact hS0 | exact hS2 | exact hS5 | go_keep)
    (first
      | (go_at_call 147; refine (KP.out _ (by first | assumption)).mono ?_; rintro e w2 ⟨k2, v2, rfl, r2, o2, hk2, hv2⟩; have hS2 := SO.out _ o2)
      | (go_at_call 100; refine (K5.out _ (by first | assumption)).mono ?_; rintro e w5 ⟨rfl, hb5⟩; have hS5 := SN.out _ hb5))
  subst hQ
  all_goals
    go_wp2_with fail
    have G2 := Lib.hid (E1.out.only o2 (fun x hx hy => HD.out x hx hy))
    have T2 := Lib.hid (E0.out.only o2 (fun e => by have := HLT.out _ (.inl e); omega))
    have y0 : w2.cell? ⟨w.heap.size, 0, none⟩ = some (.pointer (some ⟨g, 0, none⟩)) := T2.out.cell 0
    have y7 := G2.out.row.cell 7
    have g7 := G2.out.row.soft 7
    simp only [gvC, in16, List.getElem?_cons_zero, List.getElem?_cons_succ] at y7
    refine leaves_cons (f := 99) (args := #[.pointer (some ⟨w.heap.size, 0, none⟩)]) (by simp) (by simp [go_sem]) ?_
    refine (caught16 w2 y0 y7 g7).mono ?_
    rintro e u' w3 ⟨rfl, rfl, rfl⟩
    simp [Leaves, settle, results, Tryd.results69, go_sem]
    exact endT16 HI.out E2.out G2.out r2 o2 HGD.out hgl (hk2.imp id (fun ⟨x, h1, h2⟩ => ⟨x, h1, by omega⟩)) (hv2.imp id (fun ⟨x, h1, h2⟩ => ⟨x, h1, by omega⟩))

set_option maxRecDepth 100000 in
set_option maxHeartbeats 4000000 in
theorem accT_s3 (w : World) (r : GAt w g G vf vo vl) (h : Acc16 G) (rp : PtAt w t p a b k v V E K T) (hT : TabAt w) (hdis : ∀ x, own16 g vf vo vl x → ¬ (own14 t p a k v x ∨ x = b)) (hl : T.length ≤ 65536) (hst : G.st = 3) :
    Calls Tryd.prog 69 #[.pointer (some ⟨g, 0, none⟩), tface14 t] w (AccT g G vf vo vl t p a b k v (put14 V (ad16 G 1 0 0) ((ep16 G) % 65536)) E K (T ++ [(2, ad16 G 1 0 0, ep16 G)]) 0 w) := by
  have hmf : ∀ (fn : Fn) (first cap : Array Value) (w : World), (Instr.makeFunc fn first cap).run Tryd.prog w = .ok (.func fn first cap) w := fun _ _ _ _ => rfl
  obtain ⟨U, hU⟩ : ∃ A, ep16 G = A := ⟨_, rfl⟩
  rw [hU]
  obtain ⟨A, hA⟩ : ∃ A, ad16 G 1 0 0 = A := ⟨_, rfl⟩
  rw [hA]
  have f7 := r.row.soft 7
  have c7 := r.row.cell 7
  have c6 := r.row.cell 6
  simp only [gvC, List.getElem?_cons_zero, List.getElem?_cons_succ] at c6 c7
  rw [h.ins] at c7
  rw [hst] at c6
  have hgl := r.row.lt
  have HLT := Lib.hid rp.lt
  have HI := Lib.hid h.ins
  obtain ⟨e0, e1, e2⟩ := enter16 w r
  obtain ⟨w1, hw1⟩ : ∃ w1, w1 = (w.setCell ⟨g, 7, none⟩ (.bool true)).alloc (.cells #[.pointer (some ⟨g, 0, none⟩)] 29) := ⟨_, rfl⟩
  rw [← hw1] at e0 e1 e2
  have hsz := e2.size
  have hgd : ∀ x, own14 t p a k v x ∨ x = b → x ≠ g := fun x hx e => hdis g (.inl rfl) (by rw [← e]; exact hx)
  have rp1 := rp.only e2 (fun x hx e => hgd x hx e)
  have hT1 : TabAt w1 := hT.only e2 (fun e => tab_ne hT r e)
  have z0 : w1.cell? ⟨w.heap.size, 0, none⟩ = some (.pointer (some ⟨g, 0, none⟩)) := e0.cell 0
  have K5 := Lib.hid (fun W (hb : Below w1.heap.size w1 W) => (at16_any (G := in16 G) 1 0 0 W (e1.below hb) h.B h.R.2 (hT1.below hb)).mono (R' := fun e w' => e = .returned (.int .i64 A) ∧ Below w1.heap.size w1 w') (fun _ _ ⟨he, hb'⟩ => ⟨by rw [he, ← hA]; rfl, below_on hb hb'⟩))
  have K6 := Lib.hid (fun W (hb : Below w1.heap.size w1 W) => (epoch16_any (G := in16 G) W (e1.below hb)).mono (R' := fun e w' => e = .returned (.int .i64 U) ∧ Below w1.heap.size w1 w') (fun _ _ ⟨he, hb'⟩ => ⟨by rw [he, ← hU]; rfl, below_on hb hb'⟩))
  have E0 := Lib.hid e0
  have E1 := Lib.hid e1
  have E2 := Lib.hid e2
  have HGD := Lib.hid hgd
  have HD := Lib.hid (fun x (hx : own16 g vf vo vl x) (hy : own14 t p a k v x) => hdis x hx (.inl hy))
  clear r h rp hT hdis e0 e1 e2 hgd hst
  have KP := Lib.hid (fun W (hb : Below w1.heap.size w1 W) => (tstore14_any A U W (rp1.below hb) hl).mono (fun _ _ h => PtP.since hb h))
  have SB : Hid (∀ W, Row W w.heap.size 29 [.pointer (some ⟨g, 0, none⟩)] → GAt W g (in16 G) vf vo vl → W.cell? ⟨w.heap.size, 0, none⟩ = some (.pointer (some ⟨g, 0, none⟩))) := Lib.hid (fun W q0 q1 => ?sb)
  case sb =>
    have d0 := q0.cell 0
    exact d0
  have SN : Hid (∀ W, Below w1.heap.size w1 W → W.cell? ⟨w.heap.size, 0, none⟩ = some (.pointer (some ⟨g, 0, none⟩))) := Lib.hid (fun W hb => SB.out W (E0.out.below hb) (E1.out.below hb))
  have SO : Hid (∀ W, Only (own14 t p a k v) w1 W → W.cell? ⟨w.heap.size, 0, none⟩ = some (.pointer (some ⟨g, 0, none⟩))) := Lib.hid (fun W ho => SB.out W (E0.out.only ho (fun e => by have := HLT.out _ (.inl e); omega)) (E1.out.only ho (fun x hx hy => HD.out x hx hy)))
  unfold tface14
  go_enter_defers Tryd.func69, Tryd.ntmps69
  go_wp2_with fail
  rw [← hw1]
  clear hw1
  have hS0 := SN.out w1.drew (Below.refl _ _).drew
  have hbd : Below w1.heap.size w1 w1.drew := (Below.refl _ _).drew
  generalize hQ : w.heap.size = Q at *
  go_region_held3 (fun W => W.cell? ⟨Q, 0, none⟩ = some (.pointer (some ⟨g, 0, none⟩)))
    (first | exact hS0 | exact hS2 | exact hS5 | exact hS6 | go_keep)
    (first
      | (go_at_call 147; refine (KP.out _ (by first | assumption)).mono ?_; rintro e w2 ⟨k2, v2, rfl, r2, o2, hk2, hv2⟩; have hS2 := SO.out _ o2)
      | (go_at_call 100; refine (K5.out _ (by first | assumption)).mono ?_; rintro e w5 ⟨rfl, hb5⟩; have hS5 := SN.out _ hb5)
      | (go_at_call 94; refine (K6.out _ (by first | assumption)).mono ?_; rintro e w6 ⟨rfl, hb6⟩; have hS6 := SN.out _ hb6))
  subst hQ
  all_goals
    go_wp2_with fail
    have G2 := Lib.hid (E1.out.only o2 (fun x hx hy => HD.out x hx hy))
    have T2 := Lib.hid (E0.out.only o2 (fun e => by have := HLT.out _ (.inl e); omega))
    have y0 : w2.cell? ⟨w.heap.size, 0, none⟩ = some (.pointer (some ⟨g, 0, none⟩)) := T2.out.cell 0
    have y7 := G2.out.row.cell 7
    have g7 := G2.out.row.soft 7
    simp only [gvC, in16, List.getElem?_cons_zero, List.getElem?_cons_succ] at y7
    refine leaves_cons (f := 99) (args := #[.pointer (some ⟨w.heap.size, 0, none⟩)]) (by simp) (by simp [go_sem]) ?_
    refine (caught16 w2 y0 y7 g7).mono ?_
    rintro e u' w3 ⟨rfl, rfl, rfl⟩
    simp [Leaves, settle, results, Tryd.results69, go_sem]
    exact endT16 HI.out E2.out G2.out r2 o2 HGD.out hgl (hk2.imp id (fun ⟨x, h1, h2⟩ => ⟨x, h1, by omega⟩)) (hv2.imp id (fun ⟨x, h1, h2⟩ => ⟨x, h1, by omega⟩))

set_option maxRecDepth 100000 in
set_option maxHeartbeats 4000000 in
theorem accT_s5 (w : World) (r : GAt w g G vf vo vl) (h : Acc16 G) (rp : PtAt w t p a b k v V E K T) (hT : TabAt w) (hdis : ∀ x, own16 g vf vo vl x → ¬ (own14 t p a k v x ∨ x = b)) (hl : T.length ≤ 65536) (hst : G.st = 5) :
    Calls Tryd.prog 69 #[.pointer (some ⟨g, 0, none⟩), tface14 t] w (AccT g G vf vo vl t p a b k v V E K (T ++ [(1, ad16 G 2 0 0, nth14 V (ad16 G 2 0 0))]) (nth14 V (ad16 G 2 0 0)) w) := by
  have hmf : ∀ (fn : Fn) (first cap : Array Value) (w : World), (Instr.makeFunc fn first cap).run Tryd.prog w = .ok (.func fn first cap) w := fun _ _ _ _ => rfl
  obtain ⟨A, hA⟩ : ∃ A, ad16 G 2 0 0 = A := ⟨_, rfl⟩
  rw [hA]
  have f7 := r.row.soft 7
  have c7 := r.row.cell 7
  have c6 := r.row.cell 6
  simp only [gvC, List.getElem?_cons_zero, List.getElem?_cons_succ] at c6 c7
  rw [h.ins] at c7
  rw [hst] at c6
  have hgl := r.row.lt
  have HLT := Lib.hid rp.lt
  have HI := Lib.hid h.ins
  obtain ⟨e0, e1, e2⟩ := enter16 w r
  obtain ⟨w1, hw1⟩ : ∃ w1, w1 = (w.setCell ⟨g, 7, none⟩ (.bool true)).alloc (.cells #[.pointer (some ⟨g, 0, none⟩)] 29) := ⟨_, rfl⟩
  rw [← hw1] at e0 e1 e2
  have hsz := e2.size
  have hgd : ∀ x, own14 t p a k v x ∨ x = b → x ≠ g := fun x hx e => hdis g (.inl rfl) (by rw [← e]; exact hx)
  have rp1 := rp.only e2 (fun x hx e => hgd x hx e)
  have hT1 : TabAt w1 := hT.only e2 (fun e => tab_ne hT r e)
  have z0 : w1.cell? ⟨w.heap.size, 0, none⟩ = some (.pointer (some ⟨g, 0, none⟩)) := e0.cell 0
  have K5 := Lib.hid (fun W (hb : Below w1.heap.size w1 W) => (at16_any (G := in16 G) 2 0 0 W (e1.below hb) h.B h.R.2 (hT1.below hb)).mono (R' := fun e w' => e = .returned (.int .i64 A) ∧ Below w1.heap.size w1 w') (fun _ _ ⟨he, hb'⟩ => ⟨by rw [he, ← hA]; rfl, below_on hb hb'⟩))
  have E0 := Lib.hid e0
  have E1 := Lib.hid e1
  have E2 := Lib.hid e2
  have HGD := Lib.hid hgd
  have HD := Lib.hid (fun x (hx : own16 g vf vo vl x) (hy : own14 t p a k v x) => hdis x hx (.inl hy))
  clear r h rp hT hdis e0 e1 e2 hgd hst
  have KP := Lib.hid (fun W (hb : Below w1.heap.size w1 W) => (tload14_any A W (rp1.below hb) hl).mono (fun _ _ h => PtP.since hb h))
  have SB : Hid (∀ W, Row W w.heap.size 29 [.pointer (some ⟨g, 0, none⟩)] → GAt W g (in16 G) vf vo vl → W.cell? ⟨w.heap.size, 0, none⟩ = some (.pointer (some ⟨g, 0, none⟩))) := Lib.hid (fun W q0 q1 => ?sb)
  case sb =>
    have d0 := q0.cell 0
    exact d0
  have SN : Hid (∀ W, Below w1.heap.size w1 W → W.cell? ⟨w.heap.size, 0, none⟩ = some (.pointer (some ⟨g, 0, none⟩))) := Lib.hid (fun W hb => SB.out W (E0.out.below hb) (E1.out.below hb))
  have SO : Hid (∀ W, Only (own14 t p a k v) w1 W → W.cell? ⟨w.heap.size, 0, none⟩ = some (.pointer (some ⟨g, 0, none⟩))) := Lib.hid (fun W ho => SB.out W (E0.out.only ho (fun e => by have := HLT.out _ (.inl e); omega)) (E1.out.only ho (fun x hx hy => HD.out x hx hy)))
  unfold tface14
  go_enter_defers Tryd.func69, Tryd.ntmps69
  go_wp2_with fail
  rw [← hw1]
  clear hw1
  have hS0 := SN.out w1.drew (Below.refl _ _).drew
  have hbd : Below w1.heap.size w1 w1.drew := (Below.refl _ _).drew
  generalize hQ : w.heap.size = Q at *
  go_region_held3 (fun W => W.cell? ⟨Q, 0, none⟩ = some (.pointer (some ⟨g, 0, none⟩)))
    (first | exact hS0 | exact hS2 | exact hS5 | go_keep)
    (first
      | (go_at_call 146; refine (KP.out _ (by first | assumption)).mono ?_; rintro e w2 ⟨k2, v2, rfl, r2, o2, hk2, hv2⟩; have hS2 := SO.out _ o2)
      | (go_at_call 100; refine (K5.out _ (by first | assumption)).mono ?_; rintro e w5 ⟨rfl, hb5⟩; have hS5 := SN.out _ hb5))
  subst hQ
  all_goals
    go_wp2_with fail
    have G2 := Lib.hid (E1.out.only o2 (fun x hx hy => HD.out x hx hy))
    have T2 := Lib.hid (E0.out.only o2 (fun e => by have := HLT.out _ (.inl e); omega))
    have y0 : w2.cell? ⟨w.heap.size, 0, none⟩ = some (.pointer (some ⟨g, 0, none⟩)) := T2.out.cell 0
    have y7 := G2.out.row.cell 7
    have g7 := G2.out.row.soft 7
    simp only [gvC, in16, List.getElem?_cons_zero, List.getElem?_cons_succ] at y7
    refine leaves_cons (f := 99) (args := #[.pointer (some ⟨w.heap.size, 0, none⟩)]) (by simp) (by simp [go_sem]) ?_
    refine (caught16 w2 y0 y7 g7).mono ?_
    rintro e u' w3 ⟨rfl, rfl, rfl⟩
    simp [Leaves, settle, results, Tryd.results69, go_sem]
    exact endT16 HI.out E2.out G2.out r2 o2 HGD.out hgl (hk2.imp id (fun ⟨x, h1, h2⟩ => ⟨x, h1, by omega⟩)) (hv2.imp id (fun ⟨x, h1, h2⟩ => ⟨x, h1, by omega⟩))

set_option maxRecDepth 100000 in
set_option maxHeartbeats 4000000 in
theorem accT_s6 (w : World) (r : GAt w g G vf vo vl) (h : Acc16 G) (rp : PtAt w t p a b k v V E K T) (hT : TabAt w) (hdis : ∀ x, own16 g vf vo vl x → ¬ (own14 t p a k v x ∨ x = b)) (hl : T.length ≤ 65536) (hst : G.st = 6) :
    Calls Tryd.prog 69 #[.pointer (some ⟨g, 0, none⟩), tface14 t] w (AccT g G vf vo vl t p a b k v V E K (T ++ [(1, ad16 G 4 0 0, nth14 V (ad16 G 4 0 0))]) (nth14 V (ad16 G 4 0 0)) w) := by
  have hmf : ∀ (fn : Fn) (first cap : Array Value) (w : World), (Instr.makeFunc fn first cap).run Tryd.prog w = .ok (.func fn first cap) w := fun _ _ _ _ => rfl
  obtain ⟨A, hA⟩ : ∃ A, ad16 G 4 0 0 = A := ⟨_, rfl⟩
  rw [hA]
  have f7 := r.row.soft 7
  have c7 := r.row.cell 7
  have c6 := r.row.cell 6
  simp only [gvC, List.getElem?_cons_zero, List.getElem?_cons_succ] at c6 c7
  rw [h.ins] at c7
  rw [hst] at c6
  have hgl := r.row.lt
  have HLT := Lib.hid rp.lt
  have HI := Lib.hid h.ins
  obtain ⟨e0, e1, e2⟩ := enter16 w r
  obtain ⟨w1, hw1⟩ : ∃ w1, w1 = (w.setCell ⟨g, 7, none⟩ (.bool true)).alloc (.cells #[.pointer (some ⟨g, 0, none⟩)] 29) := ⟨_, rfl⟩
  rw [← hw1] at e0 e1 e2
  have hsz := e2.size
  have hgd : ∀ x, own14 t p a k v x ∨ x = b → x ≠ g := fun x hx e => hdis g (.inl rfl) (by rw [← e]; exact hx)
  have rp1 := rp.only e2 (fun x hx e => hgd x hx e)
  have hT1 : TabAt w1 := hT.only e2 (fun e => tab_ne hT r e)
  have z0 : w1.cell? ⟨w.heap.size, 0, none⟩ = some (.pointer (some ⟨g, 0, none⟩)) := e0.cell 0
  have K5 := Lib.hid (fun W (hb : Below w1.heap.size w1 W) => (at16_any (G := in16 G) 4 0 0 W (e1.below hb) h.B h.R.2 (hT1.below hb)).mono (R' := fun e w' => e = .returned (.int .i64 A) ∧ Below w1.heap.size w1 w') (fun _ _ ⟨he, hb'⟩ => ⟨by rw [he, ← hA]; rfl, below_on hb hb'⟩))
  have E0 := Lib.hid e0
  have E1 := Lib.hid e1
  have E2 := Lib.hid e2
  have HGD := Lib.hid hgd
  have HD := Lib.hid (fun x (hx : own16 g vf vo vl x) (hy : own14 t p a k v x) => hdis x hx (.inl hy))
  clear r h rp hT hdis e0 e1 e2 hgd hst
  have KP := Lib.hid (fun W (hb : Below w1.heap.size w1 W) => (tload14_any A W (rp1.below hb) hl).mono (fun _ _ h => PtP.since hb h))
  have SB : Hid (∀ W, Row W w.heap.size 29 [.pointer (some ⟨g, 0, none⟩)] → GAt W g (in16 G) vf vo vl → W.cell? ⟨w.heap.size, 0, none⟩ = some (.pointer (some ⟨g, 0, none⟩))) := Lib.hid (fun W q0 q1 => ?sb)
  case sb =>
    have d0 := q0.cell 0
    exact d0
  have SN : Hid (∀ W, Below w1.heap.size w1 W → W.cell? ⟨w.heap.size, 0, none⟩ = some (.pointer (some ⟨g, 0, none⟩))) := Lib.hid (fun W hb => SB.out W (E0.out.below hb) (E1.out.below hb))
  have SO : Hid (∀ W, Only (own14 t p a k v) w1 W → W.cell? ⟨w.heap.size, 0, none⟩ = some (.pointer (some ⟨g, 0, none⟩))) := Lib.hid (fun W ho => SB.out W (E0.out.only ho (fun e => by have := HLT.out _ (.inl e); omega)) (E1.out.only ho (fun x hx hy => HD.out x hx hy)))
  unfold tface14
  go_enter_defers Tryd.func69, Tryd.ntmps69
  go_wp2_with fail
  rw [← hw1]
  clear hw1
  have hS0 := SN.out w1.drew (Below.refl _ _).drew
  have hbd : Below w1.heap.size w1 w1.drew := (Below.refl _ _).drew
  generalize hQ : w.heap.size = Q at *
  go_region_held3 (fun W => W.cell? ⟨Q, 0, none⟩ = some (.pointer (some ⟨g, 0, none⟩)))
    (first | exact hS0 | exact hS2 | exact hS5 | go_keep)
    (first
      | (go_at_call 146; refine (KP.out _ (by first | assumption)).mono ?_; rintro e w2 ⟨k2, v2, rfl, r2, o2, hk2, hv2⟩; have hS2 := SO.out _ o2)
      | (go_at_call 100; refine (K5.out _ (by first | assumption)).mono ?_; rintro e w5 ⟨rfl, hb5⟩; have hS5 := SN.out _ hb5))
  subst hQ
  all_goals
    go_wp2_with fail
    have G2 := Lib.hid (E1.out.only o2 (fun x hx hy => HD.out x hx hy))
    have T2 := Lib.hid (E0.out.only o2 (fun e => by have := HLT.out _ (.inl e); omega))
    have y0 : w2.cell? ⟨w.heap.size, 0, none⟩ = some (.pointer (some ⟨g, 0, none⟩)) := T2.out.cell 0
    have y7 := G2.out.row.cell 7
    have g7 := G2.out.row.soft 7
    simp only [gvC, in16, List.getElem?_cons_zero, List.getElem?_cons_succ] at y7
    refine leaves_cons (f := 99) (args := #[.pointer (some ⟨w.heap.size, 0, none⟩)]) (by simp) (by simp [go_sem]) ?_
    refine (caught16 w2 y0 y7 g7).mono ?_
    rintro e u' w3 ⟨rfl, rfl, rfl⟩
    simp [Leaves, settle, results, Tryd.results69, go_sem]
    exact endT16 HI.out E2.out G2.out r2 o2 HGD.out hgl (hk2.imp id (fun ⟨x, h1, h2⟩ => ⟨x, h1, by omega⟩)) (hv2.imp id (fun ⟨x, h1, h2⟩ => ⟨x, h1, by omega⟩))

set_option maxRecDepth 100000 in
set_option maxHeartbeats 4000000 in
theorem accT_s7 (w : World) (r : GAt w g G vf vo vl) (h : Acc16 G) (rp : PtAt w t p a b k v V E K T) (hT : TabAt w) (hdis : ∀ x, own16 g vf vo vl x → ¬ (own14 t p a k v x ∨ x = b)) (hl : T.length ≤ 65536) (hst : G.st = 7) :
    Calls Tryd.prog 69 #[.pointer (some ⟨g, 0, none⟩), tface14 t] w (AccT g G vf vo vl t p a b k v V E K (T ++ [(1, ad16 G 6 (G.tail % (G.R : Int)) 0, nth14 V (ad16 G 6 (G.tail % (G.R : Int)) 0))]) (nth14 V (ad16 G 6 (G.tail % (G.R : Int)) 0)) w) := by
  have hmf : ∀ (fn : Fn) (first cap : Array Value) (w : World), (Instr.makeFunc fn first cap).run Tryd.prog w = .ok (.func fn first cap) w := fun _ _ _ _ => rfl
  obtain ⟨m, hm⟩ : ∃ m, G.tail % (G.R : Int) = m := ⟨_, rfl⟩
  have hm0 : 0 ≤ m ∧ m < 64 := by
    have h1 := Int.emod_nonneg G.tail (show (G.R : Int) ≠ 0 by have := h.R; omega)
    have h2 := Int.emod_lt_of_pos G.tail (show (0 : Int) < (G.R : Int) by have := h.R; omega)
    have := h.R
    omega
  have hmt : G.tail.tmod (G.R : Int) = m := by rw [Int.tmod_eq_emod_of_nonneg h.tail.1]; exact hm
  have hmw : wrap64 m = m := by rw [← IntWalk.i64_left, IntWalk.i64_in _ (by omega)]
  have hR0 : (G.R : Int) ≠ 0 := by have := h.R; omega
  have hR1 : ¬ G.R = 0 := by have := h.R; omega
  rw [hm]
  obtain ⟨A, hA⟩ : ∃ A, ad16 G 6 m 0 = A := ⟨_, rfl⟩
  rw [hA]
  have f7 := r.row.soft 7
  have c7 := r.row.cell 7
  have c6 := r.row.cell 6
  simp only [gvC, List.getElem?_cons_zero, List.getElem?_cons_succ] at c6 c7
  rw [h.ins] at c7
  rw [hst] at c6
  have hgl := r.row.lt
  have HLT := Lib.hid rp.lt
  have HI := Lib.hid h.ins
  obtain ⟨e0, e1, e2⟩ := enter16 w r
  obtain ⟨w1, hw1⟩ : ∃ w1, w1 = (w.setCell ⟨g, 7, none⟩ (.bool true)).alloc (.cells #[.pointer (some ⟨g, 0, none⟩)] 29) := ⟨_, rfl⟩
  rw [← hw1] at e0 e1 e2
  have hsz := e2.size
  have hgd : ∀ x, own14 t p a k v x ∨ x = b → x ≠ g := fun x hx e => hdis g (.inl rfl) (by rw [← e]; exact hx)
  have rp1 := rp.only e2 (fun x hx e => hgd x hx e)
  have hT1 : TabAt w1 := hT.only e2 (fun e => tab_ne hT r e)
  have z0 : w1.cell? ⟨w.heap.size, 0, none⟩ = some (.pointer (some ⟨g, 0, none⟩)) := e0.cell 0
  have c1 := e1.row.cell 1
  have c12 := e1.row.cell 12
  simp only [gvC, in16, List.getElem?_cons_zero, List.getElem?_cons_succ] at c1 c12
  have K5 := Lib.hid (fun W (hb : Below w1.heap.size w1 W) => (at16_any (G := in16 G) 6 m 0 W (e1.below hb) h.B h.R.2 (hT1.below hb)).mono (R' := fun e w' => e = .returned (.int .i64 A) ∧ Below w1.heap.size w1 w') (fun _ _ ⟨he, hb'⟩ => ⟨by rw [he, ← hA]; rfl, below_on hb hb'⟩))
  have E0 := Lib.hid e0
  have E1 := Lib.hid e1
  have E2 := Lib.hid e2
  have HGD := Lib.hid hgd
  have HD := Lib.hid (fun x (hx : own16 g vf vo vl x) (hy : own14 t p a k v x) => hdis x hx (.inl hy))
  clear r h rp hT hdis e0 e1 e2 hgd hst
  have KP := Lib.hid (fun W (hb : Below w1.heap.size w1 W) => (tload14_any A W (rp1.below hb) hl).mono (fun _ _ h => PtP.since hb h))
  have SB : Hid (∀ W, Row W w.heap.size 29 [.pointer (some ⟨g, 0, none⟩)] → GAt W g (in16 G) vf vo vl → W.cell? ⟨w.heap.size, 0, none⟩ = some (.pointer (some ⟨g, 0, none⟩)) ∧ W.cell? ⟨g, 1, none⟩ = some (.int .i64 (G.R : Int)) ∧ W.cell? ⟨g, 12, none⟩ = some (.int .i64 G.tail)) := Lib.hid (fun W q0 q1 => ?sb)
  case sb =>
    have d0 := q0.cell 0
    have d1 := q1.row.cell 1
    have d12 := q1.row.cell 12
    simp only [gvC, in16, List.getElem?_cons_zero, List.getElem?_cons_succ] at d1 d12
    exact ⟨d0, d1, d12⟩
  have SN : Hid (∀ W, Below w1.heap.size w1 W → W.cell? ⟨w.heap.size, 0, none⟩ = some (.pointer (some ⟨g, 0, none⟩)) ∧ W.cell? ⟨g, 1, none⟩ = some (.int .i64 (G.R : Int)) ∧ W.cell? ⟨g, 12, none⟩ = some (.int .i64 G.tail)) := Lib.hid (fun W hb => SB.out W (E0.out.below hb) (E1.out.below hb))
  have SO : Hid (∀ W, Only (own14 t p a k v) w1 W → W.cell? ⟨w.heap.size, 0, none⟩ = some (.pointer (some ⟨g, 0, none⟩)) ∧ W.cell? ⟨g, 1, none⟩ = some (.int .i64 (G.R : Int)) ∧ W.cell? ⟨g, 12, none⟩ = some (.int .i64 G.tail)) := Lib.hid (fun W ho => SB.out W (E0.out.only ho (fun e => by have := HLT.out _ (.inl e); omega)) (E1.out.only ho (fun x hx hy => HD.out x hx hy)))
  unfold tface14
  go_enter_defers Tryd.func69, Tryd.ntmps69
  go_wp2_with fail
  rw [← hw1]
  clear hw1
  have hS0 := SN.out w1.drew (Below.refl _ _).drew
  have hbd : Below w1.heap.size w1 w1.drew := (Below.refl _ _).drew
  generalize hQ : w.heap.size = Q at *
  go_region_held3 (fun W => W.cell? ⟨Q, 0, none⟩ = some (.pointer (some ⟨g, 0, none⟩)) ∧ W.cell? ⟨g, 1, none⟩ = some (.int .i64 (G.R : Int)) ∧ W.cell? ⟨g, 12, none⟩ = some (.int .i64 G.tail))
    (first | exact hS0 | exact hS2 | exact hS5 | go_keep)
    (first
      | (go_at_call 146; refine (KP.out _ (by first | assumption)).mono ?_; rintro e w2 ⟨k2, v2, rfl, r2, o2, hk2, hv2⟩; have hS2 := SO.out _ o2)
      | (go_at_call 100; refine (K5.out _ (by first | assumption)).mono ?_; rintro e w5 ⟨rfl, hb5⟩; have hS5 := SN.out _ hb5))
  subst hQ
  all_goals
    go_wp2_with fail
    have G2 := Lib.hid (E1.out.only o2 (fun x hx hy => HD.out x hx hy))
    have T2 := Lib.hid (E0.out.only o2 (fun e => by have := HLT.out _ (.inl e); omega))
    have y0 : w2.cell? ⟨w.heap.size, 0, none⟩ = some (.pointer (some ⟨g, 0, none⟩)) := T2.out.cell 0
    have y7 := G2.out.row.cell 7
    have g7 := G2.out.row.soft 7
    simp only [gvC, in16, List.getElem?_cons_zero, List.getElem?_cons_succ] at y7
    refine leaves_cons (f := 99) (args := #[.pointer (some ⟨w.heap.size, 0, none⟩)]) (by simp) (by simp [go_sem]) ?_
    refine (caught16 w2 y0 y7 g7).mono ?_
    rintro e u' w3 ⟨rfl, rfl, rfl⟩
    simp [Leaves, settle, results, Tryd.results69, go_sem]
    exact endT16 HI.out E2.out G2.out r2 o2 HGD.out hgl (hk2.imp id (fun ⟨x, h1, h2⟩ => ⟨x, h1, by omega⟩)) (hv2.imp id (fun ⟨x, h1, h2⟩ => ⟨x, h1, by omega⟩))

set_option maxRecDepth 100000 in
set_option maxHeartbeats 4000000 in
theorem accT_s9 (w : World) (r : GAt w g G vf vo vl) (h : Acc16 G) (rp : PtAt w t p a b k v V E K T) (hT : TabAt w) (hdis : ∀ x, own16 g vf vo vl x → ¬ (own14 t p a k v x ∨ x = b)) (hl : T.length ≤ 65536) (hst : G.st = 9) :
    Calls Tryd.prog 69 #[.pointer (some ⟨g, 0, none⟩), tface14 t] w (AccT g G vf vo vl t p a b k v (put14 V (ad16 G 7 (tk16 G) 0) (((G.load.length : Int)) % 65536)) E K (T ++ [(2, ad16 G 7 (tk16 G) 0, (G.load.length : Int))]) 0 w) := by
  have hmf : ∀ (fn : Fn) (first cap : Array Value) (w : World), (Instr.makeFunc fn first cap).run Tryd.prog w = .ok (.func fn first cap) w := fun _ _ _ _ => rfl
  have hout := h.held (by omega) (by omega)
  have hol := h.out
  obtain ⟨D, hD⟩ : ∃ A, tk16 G = A := ⟨_, rfl⟩
  rw [hD]
  obtain ⟨A, hA⟩ : ∃ A, ad16 G 7 D 0 = A := ⟨_, rfl⟩
  rw [hA]
  obtain ⟨Al, cl, rfl⟩ := own_open14 r.load
  have f7 := r.row.soft 7
  have c7 := r.row.cell 7
  have c6 := r.row.cell 6
  simp only [gvC, List.getElem?_cons_zero, List.getElem?_cons_succ] at c6 c7
  rw [h.ins] at c7
  rw [hst] at c6
  have hgl := r.row.lt
  have HLT := Lib.hid rp.lt
  have HI := Lib.hid h.ins
  obtain ⟨e0, e1, e2⟩ := enter16 w r
  obtain ⟨w1, hw1⟩ : ∃ w1, w1 = (w.setCell ⟨g, 7, none⟩ (.bool true)).alloc (.cells #[.pointer (some ⟨g, 0, none⟩)] 29) := ⟨_, rfl⟩
  rw [← hw1] at e0 e1 e2
  have hsz := e2.size
  have hgd : ∀ x, own14 t p a k v x ∨ x = b → x ≠ g := fun x hx e => hdis g (.inl rfl) (by rw [← e]; exact hx)
  have rp1 := rp.only e2 (fun x hx e => hgd x hx e)
  have hT1 : TabAt w1 := hT.only e2 (fun e => tab_ne hT r e)
  have z0 : w1.cell? ⟨w.heap.size, 0, none⟩ = some (.pointer (some ⟨g, 0, none⟩)) := e0.cell 0
  have c13 := e1.row.cell 13
  simp only [gvC, in16, List.getElem?_cons_zero, List.getElem?_cons_succ] at c13
  have K5 := Lib.hid (fun W (hb : Below w1.heap.size w1 W) => (taken16_any (G := in16 G) W (e1.below hb) hout (by show G.out.length ≤ 65536; omega)).mono (R' := fun e w' => e = .returned (.int .i64 D) ∧ Below w1.heap.size w1 w') (fun _ _ ⟨he, hb'⟩ => ⟨by rw [he, ← hD]; rfl, below_on hb hb'⟩))
  have K6 := Lib.hid (fun W (hb : Below w1.heap.size w1 W) => (at16_any (G := in16 G) 7 D 0 W (e1.below hb) h.B h.R.2 (hT1.below hb)).mono (R' := fun e w' => e = .returned (.int .i64 A) ∧ Below w1.heap.size w1 w') (fun _ _ ⟨he, hb'⟩ => ⟨by rw [he, ← hA]; rfl, below_on hb hb'⟩))
  have E0 := Lib.hid e0
  have E1 := Lib.hid e1
  have E2 := Lib.hid e2
  have HGD := Lib.hid hgd
  have HD := Lib.hid (fun x (hx : own16 g vf vo (.slice Al G.load.length cl) x) (hy : own14 t p a k v x) => hdis x hx (.inl hy))
  clear r h rp hT hdis e0 e1 e2 hgd hst
  have KP := Lib.hid (fun W (hb : Below w1.heap.size w1 W) => (tstore14_any A (G.load.length : Int) W (rp1.below hb) hl).mono (fun _ _ h => PtP.since hb h))
  have SB : Hid (∀ W, Row W w.heap.size 29 [.pointer (some ⟨g, 0, none⟩)] → GAt W g (in16 G) vf vo (.slice Al G.load.length cl) → W.cell? ⟨w.heap.size, 0, none⟩ = some (.pointer (some ⟨g, 0, none⟩)) ∧ W.cell? ⟨g, 13, none⟩ = some (.slice Al G.load.length cl)) := Lib.hid (fun W q0 q1 => ?sb)
  case sb =>
    have d0 := q0.cell 0
    have d13 := q1.row.cell 13
    simp only [gvC, in16, List.getElem?_cons_zero, List.getElem?_cons_succ] at d13
    exact ⟨d0, d13⟩
  have SN : Hid (∀ W, Below w1.heap.size w1 W → W.cell? ⟨w.heap.size, 0, none⟩ = some (.pointer (some ⟨g, 0, none⟩)) ∧ W.cell? ⟨g, 13, none⟩ = some (.slice Al G.load.length cl)) := Lib.hid (fun W hb => SB.out W (E0.out.below hb) (E1.out.below hb))
  have SO : Hid (∀ W, Only (own14 t p a k v) w1 W → W.cell? ⟨w.heap.size, 0, none⟩ = some (.pointer (some ⟨g, 0, none⟩)) ∧ W.cell? ⟨g, 13, none⟩ = some (.slice Al G.load.length cl)) := Lib.hid (fun W ho => SB.out W (E0.out.only ho (fun e => by have := HLT.out _ (.inl e); omega)) (E1.out.only ho (fun x hx hy => HD.out x hx hy)))
  unfold tface14
  go_enter_defers Tryd.func69, Tryd.ntmps69
  go_wp2_with fail
  rw [← hw1]
  clear hw1
  have hS0 := SN.out w1.drew (Below.refl _ _).drew
  have hbd : Below w1.heap.size w1 w1.drew := (Below.refl _ _).drew
  generalize hQ : w.heap.size = Q at *
  go_region_held3 (fun W => W.cell? ⟨Q, 0, none⟩ = some (.pointer (some ⟨g, 0, none⟩)) ∧ W.cell? ⟨g, 13, none⟩ = some (.slice Al G.load.length cl))
    (first | exact hS0 | exact hS2 | exact hS5 | exact hS6 | go_keep)
    (first
      | (go_at_call 147; refine (KP.out _ (by first | assumption)).mono ?_; rintro e w2 ⟨k2, v2, rfl, r2, o2, hk2, hv2⟩; have hS2 := SO.out _ o2)
      | (go_at_call 101; refine (K5.out _ (by first | assumption)).mono ?_; rintro e w5 ⟨rfl, hb5⟩; have hS5 := SN.out _ hb5)
      | (go_at_call 100; refine (K6.out _ (by first | assumption)).mono ?_; rintro e w6 ⟨rfl, hb6⟩; have hS6 := SN.out _ hb6))
  subst hQ
  all_goals
    go_wp2_with fail
    have G2 := Lib.hid (E1.out.only o2 (fun x hx hy => HD.out x hx hy))
    have T2 := Lib.hid (E0.out.only o2 (fun e => by have := HLT.out _ (.inl e); omega))
    have y0 : w2.cell? ⟨w.heap.size, 0, none⟩ = some (.pointer (some ⟨g, 0, none⟩)) := T2.out.cell 0
    have y7 := G2.out.row.cell 7
    have g7 := G2.out.row.soft 7
    simp only [gvC, in16, List.getElem?_cons_zero, List.getElem?_cons_succ] at y7
    refine leaves_cons (f := 99) (args := #[.pointer (some ⟨w.heap.size, 0, none⟩)]) (by simp) (by simp [go_sem]) ?_
    refine (caught16 w2 y0 y7 g7).mono ?_
    rintro e u' w3 ⟨rfl, rfl, rfl⟩
    simp [Leaves, settle, results, Tryd.results69, go_sem]
    exact endT16 HI.out E2.out G2.out r2 o2 HGD.out hgl (hk2.imp id (fun ⟨x, h1, h2⟩ => ⟨x, h1, by omega⟩)) (hv2.imp id (fun ⟨x, h1, h2⟩ => ⟨x, h1, by omega⟩))

set_option maxRecDepth 100000 in
set_option maxHeartbeats 4000000 in
theorem accT_s10 (w : World) (r : GAt w g G vf vo vl) (h : Acc16 G) (rp : PtAt w t p a b k v V E K T) (hT : TabAt w) (hdis : ∀ x, own16 g vf vo vl x → ¬ (own14 t p a k v x ∨ x = b)) (hl : T.length ≤ 65536) (hst : G.st = 10) :
    Calls Tryd.prog 69 #[.pointer (some ⟨g, 0, none⟩), tface14 t] w (AccT g G vf vo vl t p a b k v (put14 V (ad16 G 5 (G.next % (G.R : Int)) 0) ((tk16 G) % 65536)) E K (T ++ [(2, ad16 G 5 (G.next % (G.R : Int)) 0, tk16 G)]) 0 w) := by
  have hmf : ∀ (fn : Fn) (first cap : Array Value) (w : World), (Instr.makeFunc fn first cap).run Tryd.prog w = .ok (.func fn first cap) w := fun _ _ _ _ => rfl
  have hout := h.held (by omega) (by omega)
  have hol := h.out
  obtain ⟨D, hD⟩ : ∃ A, tk16 G = A := ⟨_, rfl⟩
  rw [hD]
  obtain ⟨m, hm⟩ : ∃ m, G.next % (G.R : Int) = m := ⟨_, rfl⟩
  have hm0 : 0 ≤ m ∧ m < 64 := by
    have h1 := Int.emod_nonneg G.next (show (G.R : Int) ≠ 0 by have := h.R; omega)
    have h2 := Int.emod_lt_of_pos G.next (show (0 : Int) < (G.R : Int) by have := h.R; omega)
    have := h.R
    omega
  have hmt : G.next.tmod (G.R : Int) = m := by rw [Int.tmod_eq_emod_of_nonneg h.next.1]; exact hm
  have hmw : wrap64 m = m := by rw [← IntWalk.i64_left, IntWalk.i64_in _ (by omega)]
  have hR0 : (G.R : Int) ≠ 0 := by have := h.R; omega
  have hR1 : ¬ G.R = 0 := by have := h.R; omega
  rw [hm]
  obtain ⟨A, hA⟩ : ∃ A, ad16 G 5 m 0 = A := ⟨_, rfl⟩
  rw [hA]
  have f7 := r.row.soft 7
  have c7 := r.row.cell 7
  have c6 := r.row.cell 6
  simp only [gvC, List.getElem?_cons_zero, List.getElem?_cons_succ] at c6 c7
  rw [h.ins] at c7
  rw [hst] at c6
  have hgl := r.row.lt
  have HLT := Lib.hid rp.lt
  have HI := Lib.hid h.ins
  obtain ⟨e0, e1, e2⟩ := enter16 w r
  obtain ⟨w1, hw1⟩ : ∃ w1, w1 = (w.setCell ⟨g, 7, none⟩ (.bool true)).alloc (.cells #[.pointer (some ⟨g, 0, none⟩)] 29) := ⟨_, rfl⟩
  rw [← hw1] at e0 e1 e2
  have hsz := e2.size
  have hgd : ∀ x, own14 t p a k v x ∨ x = b → x ≠ g := fun x hx e => hdis g (.inl rfl) (by rw [← e]; exact hx)
  have rp1 := rp.only e2 (fun x hx e => hgd x hx e)
  have hT1 : TabAt w1 := hT.only e2 (fun e => tab_ne hT r e)
  have z0 : w1.cell? ⟨w.heap.size, 0, none⟩ = some (.pointer (some ⟨g, 0, none⟩)) := e0.cell 0
  have c1 := e1.row.cell 1
  have c11 := e1.row.cell 11
  simp only [gvC, in16, List.getElem?_cons_zero, List.getElem?_cons_succ] at c1 c11
  have K5 := Lib.hid (fun W (hb : Below w1.heap.size w1 W) => (at16_any (G := in16 G) 5 m 0 W (e1.below hb) h.B h.R.2 (hT1.below hb)).mono (R' := fun e w' => e = .returned (.int .i64 A) ∧ Below w1.heap.size w1 w') (fun _ _ ⟨he, hb'⟩ => ⟨by rw [he, ← hA]; rfl, below_on hb hb'⟩))
  have K6 := Lib.hid (fun W (hb : Below w1.heap.size w1 W) => (taken16_any (G := in16 G) W (e1.below hb) hout (by show G.out.length ≤ 65536; omega)).mono (R' := fun e w' => e = .returned (.int .i64 D) ∧ Below w1.heap.size w1 w') (fun _ _ ⟨he, hb'⟩ => ⟨by rw [he, ← hD]; rfl, below_on hb hb'⟩))
  have E0 := Lib.hid e0
  have E1 := Lib.hid e1
  have E2 := Lib.hid e2
  have HGD := Lib.hid hgd
  have HD := Lib.hid (fun x (hx : own16 g vf vo vl x) (hy : own14 t p a k v x) => hdis x hx (.inl hy))
  clear r h rp hT hdis e0 e1 e2 hgd hst
  have KP := Lib.hid (fun W (hb : Below w1.heap.size w1 W) => (tstore14_any A D W (rp1.below hb) hl).mono (fun _ _ h => PtP.since hb h))
  have SB : Hid (∀ W, Row W w.heap.size 29 [.pointer (some ⟨g, 0, none⟩)] → GAt W g (in16 G) vf vo vl → W.cell? ⟨w.heap.size, 0, none⟩ = some (.pointer (some ⟨g, 0, none⟩)) ∧ W.cell? ⟨g, 1, none⟩ = some (.int .i64 (G.R : Int)) ∧ W.cell? ⟨g, 11, none⟩ = some (.int .i64 G.next)) := Lib.hid (fun W q0 q1 => ?sb)
  case sb =>
    have d0 := q0.cell 0
    have d1 := q1.row.cell 1
    have d11 := q1.row.cell 11
    simp only [gvC, in16, List.getElem?_cons_zero, List.getElem?_cons_succ] at d1 d11
    exact ⟨d0, d1, d11⟩
  have SN : Hid (∀ W, Below w1.heap.size w1 W → W.cell? ⟨w.heap.size, 0, none⟩ = some (.pointer (some ⟨g, 0, none⟩)) ∧ W.cell? ⟨g, 1, none⟩ = some (.int .i64 (G.R : Int)) ∧ W.cell? ⟨g, 11, none⟩ = some (.int .i64 G.next)) := Lib.hid (fun W hb => SB.out W (E0.out.below hb) (E1.out.below hb))
  have SO : Hid (∀ W, Only (own14 t p a k v) w1 W → W.cell? ⟨w.heap.size, 0, none⟩ = some (.pointer (some ⟨g, 0, none⟩)) ∧ W.cell? ⟨g, 1, none⟩ = some (.int .i64 (G.R : Int)) ∧ W.cell? ⟨g, 11, none⟩ = some (.int .i64 G.next)) := Lib.hid (fun W ho => SB.out W (E0.out.only ho (fun e => by have := HLT.out _ (.inl e); omega)) (E1.out.only ho (fun x hx hy => HD.out x hx hy)))
  unfold tface14
  go_enter_defers Tryd.func69, Tryd.ntmps69
  go_wp2_with fail
  rw [← hw1]
  clear hw1
  have hS0 := SN.out w1.drew (Below.refl _ _).drew
  have hbd : Below w1.heap.size w1 w1.drew := (Below.refl _ _).drew
  generalize hQ : w.heap.size = Q at *
  go_region_held3 (fun W => W.cell? ⟨Q, 0, none⟩ = some (.pointer (some ⟨g, 0, none⟩)) ∧ W.cell? ⟨g, 1, none⟩ = some (.int .i64 (G.R : Int)) ∧ W.cell? ⟨g, 11, none⟩ = some (.int .i64 G.next))
    (first | exact hS0 | exact hS2 | exact hS5 | exact hS6 | go_keep)
    (first
      | (go_at_call 147; refine (KP.out _ (by first | assumption)).mono ?_; rintro e w2 ⟨k2, v2, rfl, r2, o2, hk2, hv2⟩; have hS2 := SO.out _ o2)
      | (go_at_call 100; refine (K5.out _ (by first | assumption)).mono ?_; rintro e w5 ⟨rfl, hb5⟩; have hS5 := SN.out _ hb5)
      | (go_at_call 101; refine (K6.out _ (by first | assumption)).mono ?_; rintro e w6 ⟨rfl, hb6⟩; have hS6 := SN.out _ hb6))
  subst hQ
  all_goals
    go_wp2_with fail
    have G2 := Lib.hid (E1.out.only o2 (fun x hx hy => HD.out x hx hy))
    have T2 := Lib.hid (E0.out.only o2 (fun e => by have := HLT.out _ (.inl e); omega))
    have y0 : w2.cell? ⟨w.heap.size, 0, none⟩ = some (.pointer (some ⟨g, 0, none⟩)) := T2.out.cell 0
    have y7 := G2.out.row.cell 7
    have g7 := G2.out.row.soft 7
    simp only [gvC, in16, List.getElem?_cons_zero, List.getElem?_cons_succ] at y7
    refine leaves_cons (f := 99) (args := #[.pointer (some ⟨w.heap.size, 0, none⟩)]) (by simp) (by simp [go_sem]) ?_
    refine (caught16 w2 y0 y7 g7).mono ?_
    rintro e u' w3 ⟨rfl, rfl, rfl⟩
    simp [Leaves, settle, results, Tryd.results69, go_sem]
    exact endT16 HI.out E2.out G2.out r2 o2 HGD.out hgl (hk2.imp id (fun ⟨x, h1, h2⟩ => ⟨x, h1, by omega⟩)) (hv2.imp id (fun ⟨x, h1, h2⟩ => ⟨x, h1, by omega⟩))

set_option maxRecDepth 100000 in
set_option maxHeartbeats 4000000 in
theorem accT_s12 (w : World) (r : GAt w g G vf vo vl) (h : Acc16 G) (rp : PtAt w t p a b k v V E K T) (hT : TabAt w) (hdis : ∀ x, own16 g vf vo vl x → ¬ (own14 t p a k v x ∨ x = b)) (hl : T.length ≤ 65536) (hst : G.st = 12) :
    Calls Tryd.prog 69 #[.pointer (some ⟨g, 0, none⟩), tface14 t] w (AccT g G vf vo vl t p a b k v (put14 V (ad16 G 3 0 0) ((addW G.next 1) % 65536)) E K (T ++ [(2, ad16 G 3 0 0, addW G.next 1)]) 0 w) := by
  have hmf : ∀ (fn : Fn) (first cap : Array Value) (w : World), (Instr.makeFunc fn first cap).run Tryd.prog w = .ok (.func fn first cap) w := fun _ _ _ _ => rfl
  obtain ⟨U, hU⟩ : ∃ A, addW G.next 1 = A := ⟨_, rfl⟩
  rw [hU]
  obtain ⟨A, hA⟩ : ∃ A, ad16 G 3 0 0 = A := ⟨_, rfl⟩
  rw [hA]
  have f7 := r.row.soft 7
  have c7 := r.row.cell 7
  have c6 := r.row.cell 6
  simp only [gvC, List.getElem?_cons_zero, List.getElem?_cons_succ] at c6 c7
  rw [h.ins] at c7
  rw [hst] at c6
  have hgl := r.row.lt
  have HLT := Lib.hid rp.lt
  have HI := Lib.hid h.ins
  obtain ⟨e0, e1, e2⟩ := enter16 w r
  obtain ⟨w1, hw1⟩ : ∃ w1, w1 = (w.setCell ⟨g, 7, none⟩ (.bool true)).alloc (.cells #[.pointer (some ⟨g, 0, none⟩)] 29) := ⟨_, rfl⟩
  rw [← hw1] at e0 e1 e2
  have hsz := e2.size
  have hgd : ∀ x, own14 t p a k v x ∨ x = b → x ≠ g := fun x hx e => hdis g (.inl rfl) (by rw [← e]; exact hx)
  have rp1 := rp.only e2 (fun x hx e => hgd x hx e)
  have hT1 : TabAt w1 := hT.only e2 (fun e => tab_ne hT r e)
  have z0 : w1.cell? ⟨w.heap.size, 0, none⟩ = some (.pointer (some ⟨g, 0, none⟩)) := e0.cell 0
  have c11 := e1.row.cell 11
  simp only [gvC, in16, List.getElem?_cons_zero, List.getElem?_cons_succ] at c11
  have K5 := Lib.hid (fun W (hb : Below w1.heap.size w1 W) => (at16_any (G := in16 G) 3 0 0 W (e1.below hb) h.B h.R.2 (hT1.below hb)).mono (R' := fun e w' => e = .returned (.int .i64 A) ∧ Below w1.heap.size w1 w') (fun _ _ ⟨he, hb'⟩ => ⟨by rw [he, ← hA]; rfl, below_on hb hb'⟩))
  have K6 := Lib.hid (fun W (hb : Below w1.heap.size w1 W) => (add_any G.next 1 W).mono (R' := fun e w' => e = .returned (.int .i64 U) ∧ Below w1.heap.size w1 w') (fun _ _ ⟨he, hw⟩ => ⟨by rw [he, ← hU], by rw [← hw]; exact hb⟩))
  have E0 := Lib.hid e0
  have E1 := Lib.hid e1
  have E2 := Lib.hid e2
  have HGD := Lib.hid hgd
  have HD := Lib.hid (fun x (hx : own16 g vf vo vl x) (hy : own14 t p a k v x) => hdis x hx (.inl hy))
  clear r h rp hT hdis e0 e1 e2 hgd hst
  have KP := Lib.hid (fun W (hb : Below w1.heap.size w1 W) => (tstore14_any A U W (rp1.below hb) hl).mono (fun _ _ h => PtP.since hb h))
  have SB : Hid (∀ W, Row W w.heap.size 29 [.pointer (some ⟨g, 0, none⟩)] → GAt W g (in16 G) vf vo vl → W.cell? ⟨w.heap.size, 0, none⟩ = some (.pointer (some ⟨g, 0, none⟩)) ∧ W.cell? ⟨g, 11, none⟩ = some (.int .i64 G.next)) := Lib.hid (fun W q0 q1 => ?sb)
  case sb =>
    have d0 := q0.cell 0
    have d11 := q1.row.cell 11
    simp only [gvC, in16, List.getElem?_cons_zero, List.getElem?_cons_succ] at d11
    exact ⟨d0, d11⟩
  have SN : Hid (∀ W, Below w1.heap.size w1 W → W.cell? ⟨w.heap.size, 0, none⟩ = some (.pointer (some ⟨g, 0, none⟩)) ∧ W.cell? ⟨g, 11, none⟩ = some (.int .i64 G.next)) := Lib.hid (fun W hb => SB.out W (E0.out.below hb) (E1.out.below hb))
  have SO : Hid (∀ W, Only (own14 t p a k v) w1 W → W.cell? ⟨w.heap.size, 0, none⟩ = some (.pointer (some ⟨g, 0, none⟩)) ∧ W.cell? ⟨g, 11, none⟩ = some (.int .i64 G.next)) := Lib.hid (fun W ho => SB.out W (E0.out.only ho (fun e => by have := HLT.out _ (.inl e); omega)) (E1.out.only ho (fun x hx hy => HD.out x hx hy)))
  unfold tface14
  go_enter_defers Tryd.func69, Tryd.ntmps69
  go_wp2_with fail
  rw [← hw1]
  clear hw1
  have hS0 := SN.out w1.drew (Below.refl _ _).drew
  have hbd : Below w1.heap.size w1 w1.drew := (Below.refl _ _).drew
  generalize hQ : w.heap.size = Q at *
  go_region_held3 (fun W => W.cell? ⟨Q, 0, none⟩ = some (.pointer (some ⟨g, 0, none⟩)) ∧ W.cell? ⟨g, 11, none⟩ = some (.int .i64 G.next))
    (first | exact hS0 | exact hS2 | exact hS5 | exact hS6 | go_keep)
    (first
      | (go_at_call 147; refine (KP.out _ (by first | assumption)).mono ?_; rintro e w2 ⟨k2, v2, rfl, r2, o2, hk2, hv2⟩; have hS2 := SO.out _ o2)
      | (go_at_call 100; refine (K5.out _ (by first | assumption)).mono ?_; rintro e w5 ⟨rfl, hb5⟩; have hS5 := SN.out _ hb5)
      | (go_at_call 102; refine (K6.out _ (by first | assumption)).mono ?_; rintro e w6 ⟨rfl, hb6⟩; have hS6 := SN.out _ hb6))
  subst hQ
  all_goals
    go_wp2_with fail
    have G2 := Lib.hid (E1.out.only o2 (fun x hx hy => HD.out x hx hy))
    have T2 := Lib.hid (E0.out.only o2 (fun e => by have := HLT.out _ (.inl e); omega))
    have y0 : w2.cell? ⟨w.heap.size, 0, none⟩ = some (.pointer (some ⟨g, 0, none⟩)) := T2.out.cell 0
    have y7 := G2.out.row.cell 7
    have g7 := G2.out.row.soft 7
    simp only [gvC, in16, List.getElem?_cons_zero, List.getElem?_cons_succ] at y7
    refine leaves_cons (f := 99) (args := #[.pointer (some ⟨w.heap.size, 0, none⟩)]) (by simp) (by simp [go_sem]) ?_
    refine (caught16 w2 y0 y7 g7).mono ?_
    rintro e u' w3 ⟨rfl, rfl, rfl⟩
    simp [Leaves, settle, results, Tryd.results69, go_sem]
    exact endT16 HI.out E2.out G2.out r2 o2 HGD.out hgl (hk2.imp id (fun ⟨x, h1, h2⟩ => ⟨x, h1, by omega⟩)) (hv2.imp id (fun ⟨x, h1, h2⟩ => ⟨x, h1, by omega⟩))

set_option maxRecDepth 100000 in
set_option maxHeartbeats 4000000 in
theorem accT_s8 (w : World) (r : GAt w g G vf vo vl) (h : Acc16 G) (rp : PtAt w t p a b k v V E K T) (hT : TabAt w) (hdis : ∀ x, own16 g vf vo vl x → ¬ (own14 t p a k v x ∨ x = b)) (hl : T.length ≤ 65536) (hst : G.st = 8) :
    Calls Tryd.prog 69 #[.pointer (some ⟨g, 0, none⟩), tface14 t] w (AccT g G vf vo vl t p a b k v (put14 V (ad16 G 8 (tk16 G) (G.sto : Int)) ((G.load.getD G.sto 0) % 65536)) E K (T ++ [(2, ad16 G 8 (tk16 G) (G.sto : Int), G.load.getD G.sto 0)]) 0 w) := by
  have hmf : ∀ (fn : Fn) (first cap : Array Value) (w : World), (Instr.makeFunc fn first cap).run Tryd.prog w = .ok (.func fn first cap) w := fun _ _ _ _ => rfl
  have hout := h.held (by omega) (by omega)
  have hol := h.out
  obtain ⟨D, hD⟩ : ∃ A, tk16 G = A := ⟨_, rfl⟩
  rw [hD]
  obtain ⟨A, hA⟩ : ∃ A, ad16 G 8 D (G.sto : Int) = A := ⟨_, rfl⟩
  rw [hA]
  have hw := h.word hst
  obtain ⟨lb, cl, rfl, _, hlb⟩ := r.load.form (by omega)
  obtain ⟨u, hu⟩ : ∃ u, G.load.getD G.sto 0 = u := ⟨_, rfl⟩
  rw [hu]
  have hu1 : (ints G.load)[G.sto]? = some (.int .i64 u) := by rw [ints_at _ _ hw, hu]
  have HU := Lib.hid hu1
  have hw1 : (G.sto : Int) < (G.load.length : Int) := by omega
  have hw0 : (0 : Int) ≤ (G.sto : Int) := by omega
  clear hu hu1
  have f7 := r.row.soft 7
  have c7 := r.row.cell 7
  have c6 := r.row.cell 6
  simp only [gvC, List.getElem?_cons_zero, List.getElem?_cons_succ] at c6 c7
  rw [h.ins] at c7
  rw [hst] at c6
  have hgl := r.row.lt
  have HLT := Lib.hid rp.lt
  have HI := Lib.hid h.ins
  obtain ⟨e0, e1, e2⟩ := enter16 w r
  obtain ⟨w1, hw1⟩ : ∃ w1, w1 = (w.setCell ⟨g, 7, none⟩ (.bool true)).alloc (.cells #[.pointer (some ⟨g, 0, none⟩)] 29) := ⟨_, rfl⟩
  rw [← hw1] at e0 e1 e2
  have hsz := e2.size
  have hgd : ∀ x, own14 t p a k v x ∨ x = b → x ≠ g := fun x hx e => hdis g (.inl rfl) (by rw [← e]; exact hx)
  have rp1 := rp.only e2 (fun x hx e => hgd x hx e)
  have hT1 : TabAt w1 := hT.only e2 (fun e => tab_ne hT r e)
  have z0 : w1.cell? ⟨w.heap.size, 0, none⟩ = some (.pointer (some ⟨g, 0, none⟩)) := e0.cell 0
  have c13 := e1.row.cell 13
  have c14 := e1.row.cell 14
  simp only [gvC, in16, List.getElem?_cons_zero, List.getElem?_cons_succ] at c13 c14
  have K5 := Lib.hid (fun W (hb : Below w1.heap.size w1 W) => (taken16_any (G := in16 G) W (e1.below hb) hout (by show G.out.length ≤ 65536; omega)).mono (R' := fun e w' => e = .returned (.int .i64 D) ∧ Below w1.heap.size w1 w') (fun _ _ ⟨he, hb'⟩ => ⟨by rw [he, ← hD]; rfl, below_on hb hb'⟩))
  have K6 := Lib.hid (fun W (hb : Below w1.heap.size w1 W) => (at16_any (G := in16 G) 8 D (G.sto : Int) W (e1.below hb) h.B h.R.2 (hT1.below hb)).mono (R' := fun e w' => e = .returned (.int .i64 A) ∧ Below w1.heap.size w1 w') (fun _ _ ⟨he, hb'⟩ => ⟨by rw [he, ← hA]; rfl, below_on hb hb'⟩))
  have E0 := Lib.hid e0
  have E1 := Lib.hid e1
  have E2 := Lib.hid e2
  have HGD := Lib.hid hgd
  have HD := Lib.hid (fun x (hx : own16 g vf vo (.slice (some ⟨lb, 0, none⟩) G.load.length cl) x) (hy : own14 t p a k v x) => hdis x hx (.inl hy))
  clear r h rp hT hdis e0 e1 e2 hgd hst
  have KP := Lib.hid (fun W (hb : Below w1.heap.size w1 W) => (tstore14_any A u W (rp1.below hb) hl).mono (fun _ _ h => PtP.since hb h))
  have SB : Hid (∀ W, Row W w.heap.size 29 [.pointer (some ⟨g, 0, none⟩)] → GAt W g (in16 G) vf vo (.slice (some ⟨lb, 0, none⟩) G.load.length cl) → W.cell? ⟨w.heap.size, 0, none⟩ = some (.pointer (some ⟨g, 0, none⟩)) ∧ W.cell? ⟨g, 13, none⟩ = some (.slice (some ⟨lb, 0, none⟩) G.load.length cl) ∧ W.cell? ⟨g, 14, none⟩ = some (.int .i64 (G.sto : Int)) ∧ W.cell? ⟨lb, G.sto, none⟩ = some (.int .i64 u)) := Lib.hid (fun W q0 q1 => ?sb)
  case sb =>
    have d0 := q0.cell 0
    have d13 := q1.row.cell 13
    have d14 := q1.row.cell 14
    simp only [gvC, in16, List.getElem?_cons_zero, List.getElem?_cons_succ] at d13 d14
    exact ⟨d0, d13, d14, (q1.load.cellAt G.sto (by show G.sto < G.load.length * 1; omega)).trans HU.out⟩
  have SN : Hid (∀ W, Below w1.heap.size w1 W → W.cell? ⟨w.heap.size, 0, none⟩ = some (.pointer (some ⟨g, 0, none⟩)) ∧ W.cell? ⟨g, 13, none⟩ = some (.slice (some ⟨lb, 0, none⟩) G.load.length cl) ∧ W.cell? ⟨g, 14, none⟩ = some (.int .i64 (G.sto : Int)) ∧ W.cell? ⟨lb, G.sto, none⟩ = some (.int .i64 u)) := Lib.hid (fun W hb => SB.out W (E0.out.below hb) (E1.out.below hb))
  have SO : Hid (∀ W, Only (own14 t p a k v) w1 W → W.cell? ⟨w.heap.size, 0, none⟩ = some (.pointer (some ⟨g, 0, none⟩)) ∧ W.cell? ⟨g, 13, none⟩ = some (.slice (some ⟨lb, 0, none⟩) G.load.length cl) ∧ W.cell? ⟨g, 14, none⟩ = some (.int .i64 (G.sto : Int)) ∧ W.cell? ⟨lb, G.sto, none⟩ = some (.int .i64 u)) := Lib.hid (fun W ho => SB.out W (E0.out.only ho (fun e => by have := HLT.out _ (.inl e); omega)) (E1.out.only ho (fun x hx hy => HD.out x hx hy)))
  unfold tface14
  go_enter_defers Tryd.func69, Tryd.ntmps69
  go_wp2_with fail
  rw [← hw1]
  clear hw1
  have hS0 := SN.out w1.drew (Below.refl _ _).drew
  have hbd : Below w1.heap.size w1 w1.drew := (Below.refl _ _).drew
  generalize hQ : w.heap.size = Q at *
  go_region_held3 (fun W => W.cell? ⟨Q, 0, none⟩ = some (.pointer (some ⟨g, 0, none⟩)) ∧ W.cell? ⟨g, 13, none⟩ = some (.slice (some ⟨lb, 0, none⟩) G.load.length cl) ∧ W.cell? ⟨g, 14, none⟩ = some (.int .i64 (G.sto : Int)) ∧ W.cell? ⟨lb, G.sto, none⟩ = some (.int .i64 u))
    (first | exact hS0 | exact hS2 | exact hS5 | exact hS6 | go_keep)
    (first
      | (go_at_call 147; refine (KP.out _ (by first | assumption)).mono ?_; rintro e w2 ⟨k2, v2, rfl, r2, o2, hk2, hv2⟩; have hS2 := SO.out _ o2)
      | (go_at_call 101; refine (K5.out _ (by first | assumption)).mono ?_; rintro e w5 ⟨rfl, hb5⟩; have hS5 := SN.out _ hb5)
      | (go_at_call 100; refine (K6.out _ (by first | assumption)).mono ?_; rintro e w6 ⟨rfl, hb6⟩; have hS6 := SN.out _ hb6))
  subst hQ
  all_goals
    go_wp2_with fail
    have G2 := Lib.hid (E1.out.only o2 (fun x hx hy => HD.out x hx hy))
    have T2 := Lib.hid (E0.out.only o2 (fun e => by have := HLT.out _ (.inl e); omega))
    have y0 : w2.cell? ⟨w.heap.size, 0, none⟩ = some (.pointer (some ⟨g, 0, none⟩)) := T2.out.cell 0
    have y7 := G2.out.row.cell 7
    have g7 := G2.out.row.soft 7
    simp only [gvC, in16, List.getElem?_cons_zero, List.getElem?_cons_succ] at y7
    refine leaves_cons (f := 99) (args := #[.pointer (some ⟨w.heap.size, 0, none⟩)]) (by simp) (by simp [go_sem]) ?_
    refine (caught16 w2 y0 y7 g7).mono ?_
    rintro e u' w3 ⟨rfl, rfl, rfl⟩
    simp [Leaves, settle, results, Tryd.results69, go_sem]
    exact endT16 HI.out E2.out G2.out r2 o2 HGD.out hgl (hk2.imp id (fun ⟨x, h1, h2⟩ => ⟨x, h1, by omega⟩)) (hv2.imp id (fun ⟨x, h1, h2⟩ => ⟨x, h1, by omega⟩))

/-- The word, the kicks and the list that an access makes, and what it reads. -/
def aV16 (V : List Int) (x : Tch) : List Int := dV14 V x.1 x.2.1 x.2.2
def aK16 (K : List Int) (x : Tch) : List Int := dK14 K x.1 x.2.1
def aT16 (V E : List Int) (x : Tch) : List Tch := dT14 V E x.1 x.2.1 x.2.2
def aN16 (V E : List Int) (x : Tch) : Int := dN14 V E x.1 x.2.1

theorem accT_any (w : World) (r : GAt w g G vf vo vl) (h : Acc16 G) (rp : PtAt w t p a b k v V E K T) (hT : TabAt w) (hdis : ∀ x, own16 g vf vo vl x → ¬ (own14 t p a k v x ∨ x = b)) (hl : T.length ≤ 65536) (hkl : K.length ≤ 65536) (hst : 1 ≤ G.st ∧ G.st ≤ 15) :
    Calls Tryd.prog 69 #[.pointer (some ⟨g, 0, none⟩), tface14 t] w (AccT g G vf vo vl t p a b k v (aV16 V (tch16 G)) E (aK16 K (tch16 G)) (T ++ aT16 V E (tch16 G)) (aN16 V E (tch16 G)) w) := by
  have : G.st = 1 ∨ G.st = 2 ∨ G.st = 3 ∨ G.st = 4 ∨ G.st = 5 ∨ G.st = 6 ∨ G.st = 7 ∨ G.st = 8 ∨ G.st = 9 ∨ G.st = 10 ∨ G.st = 11 ∨ G.st = 12 ∨ G.st = 13 ∨ G.st = 14 ∨ G.st = 15 := by omega
  rcases this with e | e | e | e | e | e | e | e | e | e | e | e | e | e | e
  · have := accT_s1 w r h rp hT hdis hl e
    unfold tch16 aV16 aK16 aT16 aN16
    simpa [e, dV14, dK14, dT14, dN14] using this
  · have := accT_s2 w r h rp hT hdis hl e
    unfold tch16 aV16 aK16 aT16 aN16
    simpa [e, dV14, dK14, dT14, dN14] using this
  · have := accT_s3 w r h rp hT hdis hl e
    unfold tch16 aV16 aK16 aT16 aN16
    simpa [e, dV14, dK14, dT14, dN14] using this
  · have := accT_s4 w r h rp hT hdis hl e
    unfold tch16 aV16 aK16 aT16 aN16
    simpa [e, dV14, dK14, dT14, dN14] using this
  · have := accT_s5 w r h rp hT hdis hl e
    unfold tch16 aV16 aK16 aT16 aN16
    simpa [e, dV14, dK14, dT14, dN14] using this
  · have := accT_s6 w r h rp hT hdis hl e
    unfold tch16 aV16 aK16 aT16 aN16
    simpa [e, dV14, dK14, dT14, dN14] using this
  · have := accT_s7 w r h rp hT hdis hl e
    unfold tch16 aV16 aK16 aT16 aN16
    simpa [e, dV14, dK14, dT14, dN14] using this
  · have := accT_s8 w r h rp hT hdis hl e
    unfold tch16 aV16 aK16 aT16 aN16
    simpa [e, dV14, dK14, dT14, dN14] using this
  · have := accT_s9 w r h rp hT hdis hl e
    unfold tch16 aV16 aK16 aT16 aN16
    simpa [e, dV14, dK14, dT14, dN14] using this
  · have := accT_s10 w r h rp hT hdis hl e
    unfold tch16 aV16 aK16 aT16 aN16
    simpa [e, dV14, dK14, dT14, dN14] using this
  · have := accT_s11 w r h rp hT hdis hl e
    unfold tch16 aV16 aK16 aT16 aN16
    simpa [e, dV14, dK14, dT14, dN14] using this
  · have := accT_s12 w r h rp hT hdis hl e
    unfold tch16 aV16 aK16 aT16 aN16
    simpa [e, dV14, dK14, dT14, dN14] using this
  · have := accT_s13 w r h rp hT hdis hl e
    unfold tch16 aV16 aK16 aT16 aN16
    simpa [e, dV14, dK14, dT14, dN14] using this
  · have := accT_s14 w r h rp hT hdis hl hkl e
    unfold tch16 aV16 aK16 aT16 aN16
    simpa [e, dV14, dK14, dT14, dN14] using this
  · have := accT_s15 w r h rp hT hdis hl e
    unfold tch16 aV16 aK16 aT16 aN16
    simpa [e, dV14, dK14, dT14, dN14] using this

end

#print axioms accT_any
end Go.Proofs.YtgdbaaoifnedbaaDoor
