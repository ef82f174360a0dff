/-
  Layer 17 (taker): access by a Trace that forwards to a Plain.
  Conditions: those that each theorem states.
-/
import Derived.Test.YtgdbaaoifnedbaaDoorTk4
import Derived.Deep.RegionHeld3
namespace Go.Proofs.YtgdbaaoifnedbaaDoor
open Go.ChangeShapes Go.WideShapes Go.ChangeAt Go.RowKit

section
variable {g : Nat} {G : Tk} {s : Nat} {vl vg : Value} {t p a b : Nat} {k v : Value} {V E K : List Int} {T : List Tch}

set_option maxRecDepth 100000 in
set_option maxHeartbeats 4000000 in
theorem accT17_s4 (w : World) (r : KAt w g G s vl vg) (h : Acc17 G) (rp : PtAt w t p a b k v V E K T) (hT : TabAt w) (hdis : ∀ x, own17 g s vl vg x → ¬ (own14 t p a k v x ∨ x = b)) (hl : T.length ≤ 65536) (hst : G.st = 4) :
    Calls Tryd.prog 79 #[.pointer (some ⟨g, 0, none⟩), tface14 t] w (AccT17 g G s vl vg t p a b k v V E K (T ++ [(3, 0, 0)]) 0 w) := by
  have hmf : ∀ (fn : Fn) (first cap : Array Value) (w : World), (Instr.makeFunc fn first cap).run Tryd.prog w = .ok (.func fn first cap) w := fun _ _ _ _ => rfl
  have f7 := r.row.soft 7
  have c7 := r.row.cell 7
  have c6 := r.row.cell 6
  simp only [tkC, List.getElem?_cons_zero, List.getElem?_cons_succ] at c6 c7
  rw [h.ins] at c7
  rw [hst] at c6
  have hgl := r.row.lt
  have HLT := Lib.hid rp.lt
  have HI := Lib.hid h.ins
  obtain ⟨e0, e1, e2⟩ := enter17 w r
  obtain ⟨w1, hw1⟩ : ∃ w1, w1 = (w.setCell ⟨g, 7, none⟩ (.bool true)).alloc (.cells #[.pointer (some ⟨g, 0, none⟩)] 73) := ⟨_, rfl⟩
  rw [← hw1] at e0 e1 e2
  have hsz := e2.size
  have hgd : ∀ x, own14 t p a k v x ∨ x = b → x ≠ g := fun x hx e => hdis g (.inl rfl) (by rw [← e]; exact hx)
  have rp1 := rp.only e2 (fun x hx e => hgd x hx e)
  have hT1 : TabAt w1 := hT.only17 e2 (fun e => tab_ne17 hT r e)
  have z0 : w1.cell? ⟨w.heap.size, 0, none⟩ = some (.pointer (some ⟨g, 0, none⟩)) := e0.cell 0
  have E0 := Lib.hid e0
  have E1 := Lib.hid e1
  have E2 := Lib.hid e2
  have HGD := Lib.hid hgd
  have HD := Lib.hid (fun x (hx : own17 g s vl vg x) (hy : own14 t p a k v x) => hdis x hx (.inl hy))
  clear r h rp hT hdis e0 e1 e2 hgd hst
  unfold tface14
  go_enter_defers Tryd.func79, Tryd.ntmps79
  go_wp2_with fail
  rw [← hw1]
  clear hw1
  refine (tfence14_any w1 rp1 hl).mono ?_
  rintro e w2 ⟨k2, v2, rfl, r2, o2, hk2, hv2⟩
  go_wp2_with fail
  have G2 := Lib.hid (E1.out.only o2 (fun x hx hy => HD.out x hx hy))
  have T2 := Lib.hid (E0.out.only o2 (fun e => by have := HLT.out _ (.inl e); omega))
  have y0 : w2.cell? ⟨w.heap.size, 0, none⟩ = some (.pointer (some ⟨g, 0, none⟩)) := T2.out.cell 0
  have y7 := G2.out.row.cell 7
  have g7 := G2.out.row.soft 7
  simp only [tkC, in17, List.getElem?_cons_zero, List.getElem?_cons_succ] at y7
  refine leaves_cons (f := 116) (args := #[.pointer (some ⟨w.heap.size, 0, none⟩)]) (by simp) (by simp [go_sem]) ?_
  refine (caught17 w2 y0 y7 g7).mono ?_
  rintro e u' w3 ⟨rfl, rfl, rfl⟩
  simp [Leaves, settle, results, Tryd.results79, go_sem]
  exact endT17 HI.out E2.out G2.out r2 o2 HGD.out hgl (hk2.imp id (fun ⟨x, h1, h2⟩ => ⟨x, h1, by omega⟩)) (hv2.imp id (fun ⟨x, h1, h2⟩ => ⟨x, h1, by omega⟩))

set_option maxRecDepth 100000 in
set_option maxHeartbeats 4000000 in
theorem accT17_s11 (w : World) (r : KAt w g G s vl vg) (h : Acc17 G) (rp : PtAt w t p a b k v V E K T) (hT : TabAt w) (hdis : ∀ x, own17 g s vl vg x → ¬ (own14 t p a k v x ∨ x = b)) (hl : T.length ≤ 65536) (hst : G.st = 11) :
    Calls Tryd.prog 79 #[.pointer (some ⟨g, 0, none⟩), tface14 t] w (AccT17 g G s vl vg t p a b k v V E K (T ++ [(3, 0, 0)]) 0 w) := by
  have hmf : ∀ (fn : Fn) (first cap : Array Value) (w : World), (Instr.makeFunc fn first cap).run Tryd.prog w = .ok (.func fn first cap) w := fun _ _ _ _ => rfl
  have f7 := r.row.soft 7
  have c7 := r.row.cell 7
  have c6 := r.row.cell 6
  simp only [tkC, List.getElem?_cons_zero, List.getElem?_cons_succ] at c6 c7
  rw [h.ins] at c7
  rw [hst] at c6
  have hgl := r.row.lt
  have HLT := Lib.hid rp.lt
  have HI := Lib.hid h.ins
  obtain ⟨e0, e1, e2⟩ := enter17 w r
  obtain ⟨w1, hw1⟩ : ∃ w1, w1 = (w.setCell ⟨g, 7, none⟩ (.bool true)).alloc (.cells #[.pointer (some ⟨g, 0, none⟩)] 73) := ⟨_, rfl⟩
  rw [← hw1] at e0 e1 e2
  have hsz := e2.size
  have hgd : ∀ x, own14 t p a k v x ∨ x = b → x ≠ g := fun x hx e => hdis g (.inl rfl) (by rw [← e]; exact hx)
  have rp1 := rp.only e2 (fun x hx e => hgd x hx e)
  have hT1 : TabAt w1 := hT.only17 e2 (fun e => tab_ne17 hT r e)
  have z0 : w1.cell? ⟨w.heap.size, 0, none⟩ = some (.pointer (some ⟨g, 0, none⟩)) := e0.cell 0
  have E0 := Lib.hid e0
  have E1 := Lib.hid e1
  have E2 := Lib.hid e2
  have HGD := Lib.hid hgd
  have HD := Lib.hid (fun x (hx : own17 g s vl vg x) (hy : own14 t p a k v x) => hdis x hx (.inl hy))
  clear r h rp hT hdis e0 e1 e2 hgd hst
  unfold tface14
  go_enter_defers Tryd.func79, Tryd.ntmps79
  go_wp2_with fail
  rw [← hw1]
  clear hw1
  refine (tfence14_any w1 rp1 hl).mono ?_
  rintro e w2 ⟨k2, v2, rfl, r2, o2, hk2, hv2⟩
  go_wp2_with fail
  have G2 := Lib.hid (E1.out.only o2 (fun x hx hy => HD.out x hx hy))
  have T2 := Lib.hid (E0.out.only o2 (fun e => by have := HLT.out _ (.inl e); omega))
  have y0 : w2.cell? ⟨w.heap.size, 0, none⟩ = some (.pointer (some ⟨g, 0, none⟩)) := T2.out.cell 0
  have y7 := G2.out.row.cell 7
  have g7 := G2.out.row.soft 7
  simp only [tkC, in17, List.getElem?_cons_zero, List.getElem?_cons_succ] at y7
  refine leaves_cons (f := 116) (args := #[.pointer (some ⟨w.heap.size, 0, none⟩)]) (by simp) (by simp [go_sem]) ?_
  refine (caught17 w2 y0 y7 g7).mono ?_
  rintro e u' w3 ⟨rfl, rfl, rfl⟩
  simp [Leaves, settle, results, Tryd.results79, go_sem]
  exact endT17 HI.out E2.out G2.out r2 o2 HGD.out hgl (hk2.imp id (fun ⟨x, h1, h2⟩ => ⟨x, h1, by omega⟩)) (hv2.imp id (fun ⟨x, h1, h2⟩ => ⟨x, h1, by omega⟩))

set_option maxRecDepth 100000 in
set_option maxHeartbeats 4000000 in
theorem accT17_s13 (w : World) (r : KAt w g G s vl vg) (h : Acc17 G) (rp : PtAt w t p a b k v V E K T) (hT : TabAt w) (hdis : ∀ x, own17 g s vl vg x → ¬ (own14 t p a k v x ∨ x = b)) (hl : T.length ≤ 65536) (hst : G.st = 13) :
    Calls Tryd.prog 79 #[.pointer (some ⟨g, 0, none⟩), tface14 t] w (AccT17 g G s vl vg t p a b k v V E K (T ++ [(3, 0, 0)]) 0 w) := by
  have hmf : ∀ (fn : Fn) (first cap : Array Value) (w : World), (Instr.makeFunc fn first cap).run Tryd.prog w = .ok (.func fn first cap) w := fun _ _ _ _ => rfl
  have f7 := r.row.soft 7
  have c7 := r.row.cell 7
  have c6 := r.row.cell 6
  simp only [tkC, List.getElem?_cons_zero, List.getElem?_cons_succ] at c6 c7
  rw [h.ins] at c7
  rw [hst] at c6
  have hgl := r.row.lt
  have HLT := Lib.hid rp.lt
  have HI := Lib.hid h.ins
  obtain ⟨e0, e1, e2⟩ := enter17 w r
  obtain ⟨w1, hw1⟩ : ∃ w1, w1 = (w.setCell ⟨g, 7, none⟩ (.bool true)).alloc (.cells #[.pointer (some ⟨g, 0, none⟩)] 73) := ⟨_, rfl⟩
  rw [← hw1] at e0 e1 e2
  have hsz := e2.size
  have hgd : ∀ x, own14 t p a k v x ∨ x = b → x ≠ g := fun x hx e => hdis g (.inl rfl) (by rw [← e]; exact hx)
  have rp1 := rp.only e2 (fun x hx e => hgd x hx e)
  have hT1 : TabAt w1 := hT.only17 e2 (fun e => tab_ne17 hT r e)
  have z0 : w1.cell? ⟨w.heap.size, 0, none⟩ = some (.pointer (some ⟨g, 0, none⟩)) := e0.cell 0
  have E0 := Lib.hid e0
  have E1 := Lib.hid e1
  have E2 := Lib.hid e2
  have HGD := Lib.hid hgd
  have HD := Lib.hid (fun x (hx : own17 g s vl vg x) (hy : own14 t p a k v x) => hdis x hx (.inl hy))
  clear r h rp hT hdis e0 e1 e2 hgd hst
  unfold tface14
  go_enter_defers Tryd.func79, Tryd.ntmps79
  go_wp2_with fail
  rw [← hw1]
  clear hw1
  refine (tfence14_any w1 rp1 hl).mono ?_
  rintro e w2 ⟨k2, v2, rfl, r2, o2, hk2, hv2⟩
  go_wp2_with fail
  have G2 := Lib.hid (E1.out.only o2 (fun x hx hy => HD.out x hx hy))
  have T2 := Lib.hid (E0.out.only o2 (fun e => by have := HLT.out _ (.inl e); omega))
  have y0 : w2.cell? ⟨w.heap.size, 0, none⟩ = some (.pointer (some ⟨g, 0, none⟩)) := T2.out.cell 0
  have y7 := G2.out.row.cell 7
  have g7 := G2.out.row.soft 7
  simp only [tkC, in17, List.getElem?_cons_zero, List.getElem?_cons_succ] at y7
  refine leaves_cons (f := 116) (args := #[.pointer (some ⟨w.heap.size, 0, none⟩)]) (by simp) (by simp [go_sem]) ?_
  refine (caught17 w2 y0 y7 g7).mono ?_
  rintro e u' w3 ⟨rfl, rfl, rfl⟩
  simp [Leaves, settle, results, Tryd.results79, go_sem]
  exact endT17 HI.out E2.out G2.out r2 o2 HGD.out hgl (hk2.imp id (fun ⟨x, h1, h2⟩ => ⟨x, h1, by omega⟩)) (hv2.imp id (fun ⟨x, h1, h2⟩ => ⟨x, h1, by omega⟩))

set_option maxRecDepth 100000 in
set_option maxHeartbeats 4000000 in
theorem accT17_s1 (w : World) (r : KAt w g G s vl vg) (h : Acc17 G) (rp : PtAt w t p a b k v V E K T) (hT : TabAt w) (hdis : ∀ x, own17 g s vl vg x → ¬ (own14 t p a k v x ∨ x = b)) (hl : T.length ≤ 65536) (hst : G.st = 1) :
    Calls Tryd.prog 79 #[.pointer (some ⟨g, 0, none⟩), tface14 t] w (AccT17 g G s vl vg t p a b k v V E K (T ++ [(4, G.peer, nth14 E G.peer)]) (nth14 E G.peer) w) := by
  have hmf : ∀ (fn : Fn) (first cap : Array Value) (w : World), (Instr.makeFunc fn first cap).run Tryd.prog w = .ok (.func fn first cap) w := fun _ _ _ _ => rfl
  have f7 := r.row.soft 7
  have c7 := r.row.cell 7
  have c6 := r.row.cell 6
  simp only [tkC, List.getElem?_cons_zero, List.getElem?_cons_succ] at c6 c7
  rw [h.ins] at c7
  rw [hst] at c6
  have hgl := r.row.lt
  have HLT := Lib.hid rp.lt
  have HI := Lib.hid h.ins
  obtain ⟨e0, e1, e2⟩ := enter17 w r
  obtain ⟨w1, hw1⟩ : ∃ w1, w1 = (w.setCell ⟨g, 7, none⟩ (.bool true)).alloc (.cells #[.pointer (some ⟨g, 0, none⟩)] 73) := ⟨_, rfl⟩
  rw [← hw1] at e0 e1 e2
  have hsz := e2.size
  have hgd : ∀ x, own14 t p a k v x ∨ x = b → x ≠ g := fun x hx e => hdis g (.inl rfl) (by rw [← e]; exact hx)
  have rp1 := rp.only e2 (fun x hx e => hgd x hx e)
  have hT1 : TabAt w1 := hT.only17 e2 (fun e => tab_ne17 hT r e)
  have z0 : w1.cell? ⟨w.heap.size, 0, none⟩ = some (.pointer (some ⟨g, 0, none⟩)) := e0.cell 0
  have c2 := e1.row.cell 2
  simp only [tkC, in17, List.getElem?_cons_zero, List.getElem?_cons_succ] at c2
  have E0 := Lib.hid e0
  have E1 := Lib.hid e1
  have E2 := Lib.hid e2
  have HGD := Lib.hid hgd
  have HD := Lib.hid (fun x (hx : own17 g s vl vg x) (hy : own14 t p a k v x) => hdis x hx (.inl hy))
  clear r h rp hT hdis e0 e1 e2 hgd hst
  have KP := Lib.hid (fun W (hb : Below w1.heap.size w1 W) => (tepoch14_any G.peer W (rp1.below hb) hl).mono (fun _ _ h => PtP.since hb h))
  have SB : Hid (∀ W, Row W w.heap.size 73 [.pointer (some ⟨g, 0, none⟩)] → KAt W g (in17 G) s vl vg → W.cell? ⟨w.heap.size, 0, none⟩ = some (.pointer (some ⟨g, 0, none⟩)) ∧ W.cell? ⟨g, 2, none⟩ = some (.int .i64 G.peer)) := Lib.hid (fun W q0 q1 => ?sb)
  case sb =>
    have d0 := q0.cell 0
    have d2 := q1.row.cell 2
    simp only [tkC, in17, List.getElem?_cons_zero, List.getElem?_cons_succ] at d2
    exact ⟨d0, d2⟩
  have SN : Hid (∀ W, Below w1.heap.size w1 W → W.cell? ⟨w.heap.size, 0, none⟩ = some (.pointer (some ⟨g, 0, none⟩)) ∧ W.cell? ⟨g, 2, none⟩ = some (.int .i64 G.peer)) := Lib.hid (fun W hb => SB.out W (E0.out.below hb) (E1.out.below hb))
  have SO : Hid (∀ W, Only (own14 t p a k v) w1 W → W.cell? ⟨w.heap.size, 0, none⟩ = some (.pointer (some ⟨g, 0, none⟩)) ∧ W.cell? ⟨g, 2, none⟩ = some (.int .i64 G.peer)) := Lib.hid (fun W ho => SB.out W (E0.out.only ho (fun e => by have := HLT.out _ (.inl e); omega)) (E1.out.only ho (fun x hx hy => HD.out x hx hy)))
  unfold tface14
  go_enter_defers Tryd.func79, Tryd.ntmps79
  go_wp2_with fail
  rw [← hw1]
  clear hw1
  have hS0 := SN.out w1.drew (Below.refl _ _).drew
  have hbd : Below w1.heap.size w1 w1.drew := (Below.refl _ _).drew
  generalize hQ : w.heap.size = Q at *
  go_region_held3 (fun W => W.cell? ⟨Q, 0, none⟩ = some (.pointer (some ⟨g, 0, none⟩)) ∧ W.cell? ⟨g, 2, none⟩ = some (.int .i64 G.peer))
    (first | exact hS0 | exact hS2 | go_keep)
    (first
      | (go_at_call 143; refine (KP.out _ (by first | assumption)).mono ?_; rintro e w2 ⟨k2, v2, rfl, r2, o2, hk2, hv2⟩; have hS2 := SO.out _ o2))
  subst hQ
  all_goals
    go_wp2_with fail
    have G2 := Lib.hid (E1.out.only o2 (fun x hx hy => HD.out x hx hy))
    have T2 := Lib.hid (E0.out.only o2 (fun e => by have := HLT.out _ (.inl e); omega))
    have y0 : w2.cell? ⟨w.heap.size, 0, none⟩ = some (.pointer (some ⟨g, 0, none⟩)) := T2.out.cell 0
    have y7 := G2.out.row.cell 7
    have g7 := G2.out.row.soft 7
    simp only [tkC, in17, List.getElem?_cons_zero, List.getElem?_cons_succ] at y7
    refine leaves_cons (f := 116) (args := #[.pointer (some ⟨w.heap.size, 0, none⟩)]) (by simp) (by simp [go_sem]) ?_
    refine (caught17 w2 y0 y7 g7).mono ?_
    rintro e u' w3 ⟨rfl, rfl, rfl⟩
    simp [Leaves, settle, results, Tryd.results79, go_sem]
    exact endT17 HI.out E2.out G2.out r2 o2 HGD.out hgl (hk2.imp id (fun ⟨x, h1, h2⟩ => ⟨x, h1, by omega⟩)) (hv2.imp id (fun ⟨x, h1, h2⟩ => ⟨x, h1, by omega⟩))

set_option maxRecDepth 100000 in
set_option maxHeartbeats 4000000 in
theorem accT17_s14 (w : World) (r : KAt w g G s vl vg) (h : Acc17 G) (rp : PtAt w t p a b k v V E K T) (hT : TabAt w) (hdis : ∀ x, own17 g s vl vg x → ¬ (own14 t p a k v x ∨ x = b)) (hl : T.length ≤ 65536) (hst : G.st = 14) :
    Calls Tryd.prog 79 #[.pointer (some ⟨g, 0, none⟩), tface14 t] w (AccT17 g G s vl vg t p a b k v V E K (T ++ [(4, G.peer, nth14 E G.peer)]) (nth14 E G.peer) w) := by
  have hmf : ∀ (fn : Fn) (first cap : Array Value) (w : World), (Instr.makeFunc fn first cap).run Tryd.prog w = .ok (.func fn first cap) w := fun _ _ _ _ => rfl
  have f7 := r.row.soft 7
  have c7 := r.row.cell 7
  have c6 := r.row.cell 6
  simp only [tkC, List.getElem?_cons_zero, List.getElem?_cons_succ] at c6 c7
  rw [h.ins] at c7
  rw [hst] at c6
  have hgl := r.row.lt
  have HLT := Lib.hid rp.lt
  have HI := Lib.hid h.ins
  obtain ⟨e0, e1, e2⟩ := enter17 w r
  obtain ⟨w1, hw1⟩ : ∃ w1, w1 = (w.setCell ⟨g, 7, none⟩ (.bool true)).alloc (.cells #[.pointer (some ⟨g, 0, none⟩)] 73) := ⟨_, rfl⟩
  rw [← hw1] at e0 e1 e2
  have hsz := e2.size
  have hgd : ∀ x, own14 t p a k v x ∨ x = b → x ≠ g := fun x hx e => hdis g (.inl rfl) (by rw [← e]; exact hx)
  have rp1 := rp.only e2 (fun x hx e => hgd x hx e)
  have hT1 : TabAt w1 := hT.only17 e2 (fun e => tab_ne17 hT r e)
  have z0 : w1.cell? ⟨w.heap.size, 0, none⟩ = some (.pointer (some ⟨g, 0, none⟩)) := e0.cell 0
  have c2 := e1.row.cell 2
  simp only [tkC, in17, List.getElem?_cons_zero, List.getElem?_cons_succ] at c2
  have E0 := Lib.hid e0
  have E1 := Lib.hid e1
  have E2 := Lib.hid e2
  have HGD := Lib.hid hgd
  have HD := Lib.hid (fun x (hx : own17 g s vl vg x) (hy : own14 t p a k v x) => hdis x hx (.inl hy))
  clear r h rp hT hdis e0 e1 e2 hgd hst
  have KP := Lib.hid (fun W (hb : Below w1.heap.size w1 W) => (tepoch14_any G.peer W (rp1.below hb) hl).mono (fun _ _ h => PtP.since hb h))
  have SB : Hid (∀ W, Row W w.heap.size 73 [.pointer (some ⟨g, 0, none⟩)] → KAt W g (in17 G) s vl vg → W.cell? ⟨w.heap.size, 0, none⟩ = some (.pointer (some ⟨g, 0, none⟩)) ∧ W.cell? ⟨g, 2, none⟩ = some (.int .i64 G.peer)) := Lib.hid (fun W q0 q1 => ?sb)
  case sb =>
    have d0 := q0.cell 0
    have d2 := q1.row.cell 2
    simp only [tkC, in17, List.getElem?_cons_zero, List.getElem?_cons_succ] at d2
    exact ⟨d0, d2⟩
  have SN : Hid (∀ W, Below w1.heap.size w1 W → W.cell? ⟨w.heap.size, 0, none⟩ = some (.pointer (some ⟨g, 0, none⟩)) ∧ W.cell? ⟨g, 2, none⟩ = some (.int .i64 G.peer)) := Lib.hid (fun W hb => SB.out W (E0.out.below hb) (E1.out.below hb))
  have SO : Hid (∀ W, Only (own14 t p a k v) w1 W → W.cell? ⟨w.heap.size, 0, none⟩ = some (.pointer (some ⟨g, 0, none⟩)) ∧ W.cell? ⟨g, 2, none⟩ = some (.int .i64 G.peer)) := Lib.hid (fun W ho => SB.out W (E0.out.only ho (fun e => by have := HLT.out _ (.inl e); omega)) (E1.out.only ho (fun x hx hy => HD.out x hx hy)))
  unfold tface14
  go_enter_defers Tryd.func79, Tryd.ntmps79
  go_wp2_with fail
  rw [← hw1]
  clear hw1
  have hS0 := SN.out w1.drew (Below.refl _ _).drew
  have hbd : Below w1.heap.size w1 w1.drew := (Below.refl _ _).drew
  generalize hQ : w.heap.size = Q at *
  go_region_held3 (fun W => W.cell? ⟨Q, 0, none⟩ = some (.pointer (some ⟨g, 0, none⟩)) ∧ W.cell? ⟨g, 2, none⟩ = some (.int .i64 G.peer))
    (first | exact hS0 | exact hS2 | go_keep)
    (first
      | (go_at_call 143; refine (KP.out _ (by first | assumption)).mono ?_; rintro e w2 ⟨k2, v2, rfl, r2, o2, hk2, hv2⟩; have hS2 := SO.out _ o2))
  subst hQ
  all_goals
    go_wp2_with fail
    have G2 := Lib.hid (E1.out.only o2 (fun x hx hy => HD.out x hx hy))
    have T2 := Lib.hid (E0.out.only o2 (fun e => by have := HLT.out _ (.inl e); omega))
    have y0 : w2.cell? ⟨w.heap.size, 0, none⟩ = some (.pointer (some ⟨g, 0, none⟩)) := T2.out.cell 0
    have y7 := G2.out.row.cell 7
    have g7 := G2.out.row.soft 7
    simp only [tkC, in17, List.getElem?_cons_zero, List.getElem?_cons_succ] at y7
    refine leaves_cons (f := 116) (args := #[.pointer (some ⟨w.heap.size, 0, none⟩)]) (by simp) (by simp [go_sem]) ?_
    refine (caught17 w2 y0 y7 g7).mono ?_
    rintro e u' w3 ⟨rfl, rfl, rfl⟩
    simp [Leaves, settle, results, Tryd.results79, go_sem]
    exact endT17 HI.out E2.out G2.out r2 o2 HGD.out hgl (hk2.imp id (fun ⟨x, h1, h2⟩ => ⟨x, h1, by omega⟩)) (hv2.imp id (fun ⟨x, h1, h2⟩ => ⟨x, h1, by omega⟩))

set_option maxRecDepth 100000 in
set_option maxHeartbeats 4000000 in
theorem accT17_s2 (w : World) (r : KAt w g G s vl vg) (h : Acc17 G) (rp : PtAt w t p a b k v V E K T) (hT : TabAt w) (hdis : ∀ x, own17 g s vl vg x → ¬ (own14 t p a k v x ∨ x = b)) (hl : T.length ≤ 65536) (hst : G.st = 2) :
    Calls Tryd.prog 79 #[.pointer (some ⟨g, 0, none⟩), tface14 t] w (AccT17 g G s vl vg t p a b k v (put14 V (ad17 G 4 0 0) ((0) % 65536)) E K (T ++ [(2, ad17 G 4 0 0, 0)]) 0 w) := by
  have hmf : ∀ (fn : Fn) (first cap : Array Value) (w : World), (Instr.makeFunc fn first cap).run Tryd.prog w = .ok (.func fn first cap) w := fun _ _ _ _ => rfl
  obtain ⟨A, hA⟩ : ∃ A, ad17 G 4 0 0 = A := ⟨_, rfl⟩
  rw [hA]
  have f7 := r.row.soft 7
  have c7 := r.row.cell 7
  have c6 := r.row.cell 6
  simp only [tkC, List.getElem?_cons_zero, List.getElem?_cons_succ] at c6 c7
  rw [h.ins] at c7
  rw [hst] at c6
  have hgl := r.row.lt
  have HLT := Lib.hid rp.lt
  have HI := Lib.hid h.ins
  obtain ⟨e0, e1, e2⟩ := enter17 w r
  obtain ⟨w1, hw1⟩ : ∃ w1, w1 = (w.setCell ⟨g, 7, none⟩ (.bool true)).alloc (.cells #[.pointer (some ⟨g, 0, none⟩)] 73) := ⟨_, rfl⟩
  rw [← hw1] at e0 e1 e2
  have hsz := e2.size
  have hgd : ∀ x, own14 t p a k v x ∨ x = b → x ≠ g := fun x hx e => hdis g (.inl rfl) (by rw [← e]; exact hx)
  have rp1 := rp.only e2 (fun x hx e => hgd x hx e)
  have hT1 : TabAt w1 := hT.only17 e2 (fun e => tab_ne17 hT r e)
  have z0 : w1.cell? ⟨w.heap.size, 0, none⟩ = some (.pointer (some ⟨g, 0, none⟩)) := e0.cell 0
  have K5 := Lib.hid (fun W (hb : Below w1.heap.size w1 W) => (at17_any (T := in17 G) 4 0 0 W (e1.below hb) h.B h.R.2 (hT1.below hb)).mono (R' := fun e w' => e = .returned (.int .i64 A) ∧ Below w1.heap.size w1 w') (fun _ _ ⟨he, hb'⟩ => ⟨by rw [he, ← hA]; rfl, below_on hb hb'⟩))
  have E0 := Lib.hid e0
  have E1 := Lib.hid e1
  have E2 := Lib.hid e2
  have HGD := Lib.hid hgd
  have HD := Lib.hid (fun x (hx : own17 g s vl vg x) (hy : own14 t p a k v x) => hdis x hx (.inl hy))
  clear r h rp hT hdis e0 e1 e2 hgd hst
  have KP := Lib.hid (fun W (hb : Below w1.heap.size w1 W) => (tstore14_any A 0 W (rp1.below hb) hl).mono (fun _ _ h => PtP.since hb h))
  have SB : Hid (∀ W, Row W w.heap.size 73 [.pointer (some ⟨g, 0, none⟩)] → KAt W g (in17 G) s vl vg → W.cell? ⟨w.heap.size, 0, none⟩ = some (.pointer (some ⟨g, 0, none⟩))) := Lib.hid (fun W q0 q1 => ?sb)
  case sb =>
    have d0 := q0.cell 0
    exact d0
  have SN : Hid (∀ W, Below w1.heap.size w1 W → W.cell? ⟨w.heap.size, 0, none⟩ = some (.pointer (some ⟨g, 0, none⟩))) := Lib.hid (fun W hb => SB.out W (E0.out.below hb) (E1.out.below hb))
  have SO : Hid (∀ W, Only (own14 t p a k v) w1 W → W.cell? ⟨w.heap.size, 0, none⟩ = some (.pointer (some ⟨g, 0, none⟩))) := Lib.hid (fun W ho => SB.out W (E0.out.only ho (fun e => by have := HLT.out _ (.inl e); omega)) (E1.out.only ho (fun x hx hy => HD.out x hx hy)))
  unfold tface14
  go_enter_defers Tryd.func79, Tryd.ntmps79
  go_wp2_with fail
  rw [← hw1]
  clear hw1
  have hS0 := SN.out w1.drew (Below.refl _ _).drew
  have hbd : Below w1.heap.size w1 w1.drew := (Below.refl _ _).drew
  generalize hQ : w.heap.size = Q at *
  go_region_held3 (fun W => W.cell? ⟨Q, 0, none⟩ = some (.pointer (some ⟨g, 0, none⟩)))
    (first | exact hS0 | exact hS2 | exact hS5 | go_keep)
    (first
      | (go_at_call 147; refine (KP.out _ (by first | assumption)).mono ?_; rintro e w2 ⟨k2, v2, rfl, r2, o2, hk2, hv2⟩; have hS2 := SO.out _ o2)
      | (go_at_call 117; refine (K5.out _ (by first | assumption)).mono ?_; rintro e w5 ⟨rfl, hb5⟩; have hS5 := SN.out _ hb5))
  subst hQ
  all_goals
    go_wp2_with fail
    have G2 := Lib.hid (E1.out.only o2 (fun x hx hy => HD.out x hx hy))
    have T2 := Lib.hid (E0.out.only o2 (fun e => by have := HLT.out _ (.inl e); omega))
    have y0 : w2.cell? ⟨w.heap.size, 0, none⟩ = some (.pointer (some ⟨g, 0, none⟩)) := T2.out.cell 0
    have y7 := G2.out.row.cell 7
    have g7 := G2.out.row.soft 7
    simp only [tkC, in17, List.getElem?_cons_zero, List.getElem?_cons_succ] at y7
    refine leaves_cons (f := 116) (args := #[.pointer (some ⟨w.heap.size, 0, none⟩)]) (by simp) (by simp [go_sem]) ?_
    refine (caught17 w2 y0 y7 g7).mono ?_
    rintro e u' w3 ⟨rfl, rfl, rfl⟩
    simp [Leaves, settle, results, Tryd.results79, go_sem]
    exact endT17 HI.out E2.out G2.out r2 o2 HGD.out hgl (hk2.imp id (fun ⟨x, h1, h2⟩ => ⟨x, h1, by omega⟩)) (hv2.imp id (fun ⟨x, h1, h2⟩ => ⟨x, h1, by omega⟩))

set_option maxRecDepth 100000 in
set_option maxHeartbeats 4000000 in
theorem accT17_s3 (w : World) (r : KAt w g G s vl vg) (h : Acc17 G) (rp : PtAt w t p a b k v V E K T) (hT : TabAt w) (hdis : ∀ x, own17 g s vl vg x → ¬ (own14 t p a k v x ∨ x = b)) (hl : T.length ≤ 65536) (hst : G.st = 3) :
    Calls Tryd.prog 79 #[.pointer (some ⟨g, 0, none⟩), tface14 t] w (AccT17 g G s vl vg t p a b k v (put14 V (ad17 G 2 0 0) ((ep17 G) % 65536)) E K (T ++ [(2, ad17 G 2 0 0, ep17 G)]) 0 w) := by
  have hmf : ∀ (fn : Fn) (first cap : Array Value) (w : World), (Instr.makeFunc fn first cap).run Tryd.prog w = .ok (.func fn first cap) w := fun _ _ _ _ => rfl
  obtain ⟨U, hU⟩ : ∃ A, ep17 G = A := ⟨_, rfl⟩
  rw [hU]
  obtain ⟨A, hA⟩ : ∃ A, ad17 G 2 0 0 = A := ⟨_, rfl⟩
  rw [hA]
  have f7 := r.row.soft 7
  have c7 := r.row.cell 7
  have c6 := r.row.cell 6
  simp only [tkC, List.getElem?_cons_zero, List.getElem?_cons_succ] at c6 c7
  rw [h.ins] at c7
  rw [hst] at c6
  have hgl := r.row.lt
  have HLT := Lib.hid rp.lt
  have HI := Lib.hid h.ins
  obtain ⟨e0, e1, e2⟩ := enter17 w r
  obtain ⟨w1, hw1⟩ : ∃ w1, w1 = (w.setCell ⟨g, 7, none⟩ (.bool true)).alloc (.cells #[.pointer (some ⟨g, 0, none⟩)] 73) := ⟨_, rfl⟩
  rw [← hw1] at e0 e1 e2
  have hsz := e2.size
  have hgd : ∀ x, own14 t p a k v x ∨ x = b → x ≠ g := fun x hx e => hdis g (.inl rfl) (by rw [← e]; exact hx)
  have rp1 := rp.only e2 (fun x hx e => hgd x hx e)
  have hT1 : TabAt w1 := hT.only17 e2 (fun e => tab_ne17 hT r e)
  have z0 : w1.cell? ⟨w.heap.size, 0, none⟩ = some (.pointer (some ⟨g, 0, none⟩)) := e0.cell 0
  have K5 := Lib.hid (fun W (hb : Below w1.heap.size w1 W) => (at17_any (T := in17 G) 2 0 0 W (e1.below hb) h.B h.R.2 (hT1.below hb)).mono (R' := fun e w' => e = .returned (.int .i64 A) ∧ Below w1.heap.size w1 w') (fun _ _ ⟨he, hb'⟩ => ⟨by rw [he, ← hA]; rfl, below_on hb hb'⟩))
  have K6 := Lib.hid (fun W (hb : Below w1.heap.size w1 W) => (epoch17_any (T := in17 G) W (e1.below hb)).mono (R' := fun e w' => e = .returned (.int .i64 U) ∧ Below w1.heap.size w1 w') (fun _ _ ⟨he, hb'⟩ => ⟨by rw [he, ← hU]; rfl, below_on hb hb'⟩))
  have E0 := Lib.hid e0
  have E1 := Lib.hid e1
  have E2 := Lib.hid e2
  have HGD := Lib.hid hgd
  have HD := Lib.hid (fun x (hx : own17 g s vl vg x) (hy : own14 t p a k v x) => hdis x hx (.inl hy))
  clear r h rp hT hdis e0 e1 e2 hgd hst
  have KP := Lib.hid (fun W (hb : Below w1.heap.size w1 W) => (tstore14_any A U W (rp1.below hb) hl).mono (fun _ _ h => PtP.since hb h))
  have SB : Hid (∀ W, Row W w.heap.size 73 [.pointer (some ⟨g, 0, none⟩)] → KAt W g (in17 G) s vl vg → W.cell? ⟨w.heap.size, 0, none⟩ = some (.pointer (some ⟨g, 0, none⟩))) := Lib.hid (fun W q0 q1 => ?sb)
  case sb =>
    have d0 := q0.cell 0
    exact d0
  have SN : Hid (∀ W, Below w1.heap.size w1 W → W.cell? ⟨w.heap.size, 0, none⟩ = some (.pointer (some ⟨g, 0, none⟩))) := Lib.hid (fun W hb => SB.out W (E0.out.below hb) (E1.out.below hb))
  have SO : Hid (∀ W, Only (own14 t p a k v) w1 W → W.cell? ⟨w.heap.size, 0, none⟩ = some (.pointer (some ⟨g, 0, none⟩))) := Lib.hid (fun W ho => SB.out W (E0.out.only ho (fun e => by have := HLT.out _ (.inl e); omega)) (E1.out.only ho (fun x hx hy => HD.out x hx hy)))
  unfold tface14
  go_enter_defers Tryd.func79, Tryd.ntmps79
  go_wp2_with fail
  rw [← hw1]
  clear hw1
  have hS0 := SN.out w1.drew (Below.refl _ _).drew
  have hbd : Below w1.heap.size w1 w1.drew := (Below.refl _ _).drew
  generalize hQ : w.heap.size = Q at *
  go_region_held3 (fun W => W.cell? ⟨Q, 0, none⟩ = some (.pointer (some ⟨g, 0, none⟩)))
    (first | exact hS0 | exact hS2 | exact hS5 | exact hS6 | go_keep)
    (first
      | (go_at_call 147; refine (KP.out _ (by first | assumption)).mono ?_; rintro e w2 ⟨k2, v2, rfl, r2, o2, hk2, hv2⟩; have hS2 := SO.out _ o2)
      | (go_at_call 117; refine (K5.out _ (by first | assumption)).mono ?_; rintro e w5 ⟨rfl, hb5⟩; have hS5 := SN.out _ hb5)
      | (go_at_call 112; refine (K6.out _ (by first | assumption)).mono ?_; rintro e w6 ⟨rfl, hb6⟩; have hS6 := SN.out _ hb6))
  subst hQ
  all_goals
    go_wp2_with fail
    have G2 := Lib.hid (E1.out.only o2 (fun x hx hy => HD.out x hx hy))
    have T2 := Lib.hid (E0.out.only o2 (fun e => by have := HLT.out _ (.inl e); omega))
    have y0 : w2.cell? ⟨w.heap.size, 0, none⟩ = some (.pointer (some ⟨g, 0, none⟩)) := T2.out.cell 0
    have y7 := G2.out.row.cell 7
    have g7 := G2.out.row.soft 7
    simp only [tkC, in17, List.getElem?_cons_zero, List.getElem?_cons_succ] at y7
    refine leaves_cons (f := 116) (args := #[.pointer (some ⟨w.heap.size, 0, none⟩)]) (by simp) (by simp [go_sem]) ?_
    refine (caught17 w2 y0 y7 g7).mono ?_
    rintro e u' w3 ⟨rfl, rfl, rfl⟩
    simp [Leaves, settle, results, Tryd.results79, go_sem]
    exact endT17 HI.out E2.out G2.out r2 o2 HGD.out hgl (hk2.imp id (fun ⟨x, h1, h2⟩ => ⟨x, h1, by omega⟩)) (hv2.imp id (fun ⟨x, h1, h2⟩ => ⟨x, h1, by omega⟩))

set_option maxRecDepth 100000 in
set_option maxHeartbeats 4000000 in
theorem accT17_s5 (w : World) (r : KAt w g G s vl vg) (h : Acc17 G) (rp : PtAt w t p a b k v V E K T) (hT : TabAt w) (hdis : ∀ x, own17 g s vl vg x → ¬ (own14 t p a k v x ∨ x = b)) (hl : T.length ≤ 65536) (hst : G.st = 5) :
    Calls Tryd.prog 79 #[.pointer (some ⟨g, 0, none⟩), tface14 t] w (AccT17 g G s vl vg t p a b k v V E K (T ++ [(1, ad17 G 1 0 0, nth14 V (ad17 G 1 0 0))]) (nth14 V (ad17 G 1 0 0)) w) := by
  have hmf : ∀ (fn : Fn) (first cap : Array Value) (w : World), (Instr.makeFunc fn first cap).run Tryd.prog w = .ok (.func fn first cap) w := fun _ _ _ _ => rfl
  obtain ⟨A, hA⟩ : ∃ A, ad17 G 1 0 0 = A := ⟨_, rfl⟩
  rw [hA]
  have f7 := r.row.soft 7
  have c7 := r.row.cell 7
  have c6 := r.row.cell 6
  simp only [tkC, List.getElem?_cons_zero, List.getElem?_cons_succ] at c6 c7
  rw [h.ins] at c7
  rw [hst] at c6
  have hgl := r.row.lt
  have HLT := Lib.hid rp.lt
  have HI := Lib.hid h.ins
  obtain ⟨e0, e1, e2⟩ := enter17 w r
  obtain ⟨w1, hw1⟩ : ∃ w1, w1 = (w.setCell ⟨g, 7, none⟩ (.bool true)).alloc (.cells #[.pointer (some ⟨g, 0, none⟩)] 73) := ⟨_, rfl⟩
  rw [← hw1] at e0 e1 e2
  have hsz := e2.size
  have hgd : ∀ x, own14 t p a k v x ∨ x = b → x ≠ g := fun x hx e => hdis g (.inl rfl) (by rw [← e]; exact hx)
  have rp1 := rp.only e2 (fun x hx e => hgd x hx e)
  have hT1 : TabAt w1 := hT.only17 e2 (fun e => tab_ne17 hT r e)
  have z0 : w1.cell? ⟨w.heap.size, 0, none⟩ = some (.pointer (some ⟨g, 0, none⟩)) := e0.cell 0
  have K5 := Lib.hid (fun W (hb : Below w1.heap.size w1 W) => (at17_any (T := in17 G) 1 0 0 W (e1.below hb) h.B h.R.2 (hT1.below hb)).mono (R' := fun e w' => e = .returned (.int .i64 A) ∧ Below w1.heap.size w1 w') (fun _ _ ⟨he, hb'⟩ => ⟨by rw [he, ← hA]; rfl, below_on hb hb'⟩))
  have E0 := Lib.hid e0
  have E1 := Lib.hid e1
  have E2 := Lib.hid e2
  have HGD := Lib.hid hgd
  have HD := Lib.hid (fun x (hx : own17 g s vl vg x) (hy : own14 t p a k v x) => hdis x hx (.inl hy))
  clear r h rp hT hdis e0 e1 e2 hgd hst
  have KP := Lib.hid (fun W (hb : Below w1.heap.size w1 W) => (tload14_any A W (rp1.below hb) hl).mono (fun _ _ h => PtP.since hb h))
  have SB : Hid (∀ W, Row W w.heap.size 73 [.pointer (some ⟨g, 0, none⟩)] → KAt W g (in17 G) s vl vg → W.cell? ⟨w.heap.size, 0, none⟩ = some (.pointer (some ⟨g, 0, none⟩))) := Lib.hid (fun W q0 q1 => ?sb)
  case sb =>
    have d0 := q0.cell 0
    exact d0
  have SN : Hid (∀ W, Below w1.heap.size w1 W → W.cell? ⟨w.heap.size, 0, none⟩ = some (.pointer (some ⟨g, 0, none⟩))) := Lib.hid (fun W hb => SB.out W (E0.out.below hb) (E1.out.below hb))
  have SO : Hid (∀ W, Only (own14 t p a k v) w1 W → W.cell? ⟨w.heap.size, 0, none⟩ = some (.pointer (some ⟨g, 0, none⟩))) := Lib.hid (fun W ho => SB.out W (E0.out.only ho (fun e => by have := HLT.out _ (.inl e); omega)) (E1.out.only ho (fun x hx hy => HD.out x hx hy)))
  unfold tface14
  go_enter_defers Tryd.func79, Tryd.ntmps79
  go_wp2_with fail
  rw [← hw1]
  clear hw1
  have hS0 := SN.out w1.drew (Below.refl _ _).drew
  have hbd : Below w1.heap.size w1 w1.drew := (Below.refl _ _).drew
  generalize hQ : w.heap.size = Q at *
  go_region_held3 (fun W => W.cell? ⟨Q, 0, none⟩ = some (.pointer (some ⟨g, 0, none⟩)))
    (first | exact hS0 | exact hS2 | exact hS5 | go_keep)
    (first
      | (go_at_call 146; refine (KP.out _ (by first | assumption)).mono ?_; rintro e w2 ⟨k2, v2, rfl, r2, o2, hk2, hv2⟩; have hS2 := SO.out _ o2)
      | (go_at_call 117; refine (K5.out _ (by first | assumption)).mono ?_; rintro e w5 ⟨rfl, hb5⟩; have hS5 := SN.out _ hb5))
  subst hQ
  all_goals
    go_wp2_with fail
    have G2 := Lib.hid (E1.out.only o2 (fun x hx hy => HD.out x hx hy))
    have T2 := Lib.hid (E0.out.only o2 (fun e => by have := HLT.out _ (.inl e); omega))
    have y0 : w2.cell? ⟨w.heap.size, 0, none⟩ = some (.pointer (some ⟨g, 0, none⟩)) := T2.out.cell 0
    have y7 := G2.out.row.cell 7
    have g7 := G2.out.row.soft 7
    simp only [tkC, in17, List.getElem?_cons_zero, List.getElem?_cons_succ] at y7
    refine leaves_cons (f := 116) (args := #[.pointer (some ⟨w.heap.size, 0, none⟩)]) (by simp) (by simp [go_sem]) ?_
    refine (caught17 w2 y0 y7 g7).mono ?_
    rintro e u' w3 ⟨rfl, rfl, rfl⟩
    simp [Leaves, settle, results, Tryd.results79, go_sem]
    exact endT17 HI.out E2.out G2.out r2 o2 HGD.out hgl (hk2.imp id (fun ⟨x, h1, h2⟩ => ⟨x, h1, by omega⟩)) (hv2.imp id (fun ⟨x, h1, h2⟩ => ⟨x, h1, by omega⟩))

set_option maxRecDepth 100000 in
set_option maxHeartbeats 4000000 in
theorem accT17_s6 (w : World) (r : KAt w g G s vl vg) (h : Acc17 G) (rp : PtAt w t p a b k v V E K T) (hT : TabAt w) (hdis : ∀ x, own17 g s vl vg x → ¬ (own14 t p a k v x ∨ x = b)) (hl : T.length ≤ 65536) (hst : G.st = 6) :
    Calls Tryd.prog 79 #[.pointer (some ⟨g, 0, none⟩), tface14 t] w (AccT17 g G s vl vg t p a b k v V E K (T ++ [(1, ad17 G 3 0 0, nth14 V (ad17 G 3 0 0))]) (nth14 V (ad17 G 3 0 0)) w) := by
  have hmf : ∀ (fn : Fn) (first cap : Array Value) (w : World), (Instr.makeFunc fn first cap).run Tryd.prog w = .ok (.func fn first cap) w := fun _ _ _ _ => rfl
  obtain ⟨A, hA⟩ : ∃ A, ad17 G 3 0 0 = A := ⟨_, rfl⟩
  rw [hA]
  have f7 := r.row.soft 7
  have c7 := r.row.cell 7
  have c6 := r.row.cell 6
  simp only [tkC, List.getElem?_cons_zero, List.getElem?_cons_succ] at c6 c7
  rw [h.ins] at c7
  rw [hst] at c6
  have hgl := r.row.lt
  have HLT := Lib.hid rp.lt
  have HI := Lib.hid h.ins
  obtain ⟨e0, e1, e2⟩ := enter17 w r
  obtain ⟨w1, hw1⟩ : ∃ w1, w1 = (w.setCell ⟨g, 7, none⟩ (.bool true)).alloc (.cells #[.pointer (some ⟨g, 0, none⟩)] 73) := ⟨_, rfl⟩
  rw [← hw1] at e0 e1 e2
  have hsz := e2.size
  have hgd : ∀ x, own14 t p a k v x ∨ x = b → x ≠ g := fun x hx e => hdis g (.inl rfl) (by rw [← e]; exact hx)
  have rp1 := rp.only e2 (fun x hx e => hgd x hx e)
  have hT1 : TabAt w1 := hT.only17 e2 (fun e => tab_ne17 hT r e)
  have z0 : w1.cell? ⟨w.heap.size, 0, none⟩ = some (.pointer (some ⟨g, 0, none⟩)) := e0.cell 0
  have K5 := Lib.hid (fun W (hb : Below w1.heap.size w1 W) => (at17_any (T := in17 G) 3 0 0 W (e1.below hb) h.B h.R.2 (hT1.below hb)).mono (R' := fun e w' => e = .returned (.int .i64 A) ∧ Below w1.heap.size w1 w') (fun _ _ ⟨he, hb'⟩ => ⟨by rw [he, ← hA]; rfl, below_on hb hb'⟩))
  have E0 := Lib.hid e0
  have E1 := Lib.hid e1
  have E2 := Lib.hid e2
  have HGD := Lib.hid hgd
  have HD := Lib.hid (fun x (hx : own17 g s vl vg x) (hy : own14 t p a k v x) => hdis x hx (.inl hy))
  clear r h rp hT hdis e0 e1 e2 hgd hst
  have KP := Lib.hid (fun W (hb : Below w1.heap.size w1 W) => (tload14_any A W (rp1.below hb) hl).mono (fun _ _ h => PtP.since hb h))
  have SB : Hid (∀ W, Row W w.heap.size 73 [.pointer (some ⟨g, 0, none⟩)] → KAt W g (in17 G) s vl vg → W.cell? ⟨w.heap.size, 0, none⟩ = some (.pointer (some ⟨g, 0, none⟩))) := Lib.hid (fun W q0 q1 => ?sb)
  case sb =>
    have d0 := q0.cell 0
    exact d0
  have SN : Hid (∀ W, Below w1.heap.size w1 W → W.cell? ⟨w.heap.size, 0, none⟩ = some (.pointer (some ⟨g, 0, none⟩))) := Lib.hid (fun W hb => SB.out W (E0.out.below hb) (E1.out.below hb))
  have SO : Hid (∀ W, Only (own14 t p a k v) w1 W → W.cell? ⟨w.heap.size, 0, none⟩ = some (.pointer (some ⟨g, 0, none⟩))) := Lib.hid (fun W ho => SB.out W (E0.out.only ho (fun e => by have := HLT.out _ (.inl e); omega)) (E1.out.only ho (fun x hx hy => HD.out x hx hy)))
  unfold tface14
  go_enter_defers Tryd.func79, Tryd.ntmps79
  go_wp2_with fail
  rw [← hw1]
  clear hw1
  have hS0 := SN.out w1.drew (Below.refl _ _).drew
  have hbd : Below w1.heap.size w1 w1.drew := (Below.refl _ _).drew
  generalize hQ : w.heap.size = Q at *
  go_region_held3 (fun W => W.cell? ⟨Q, 0, none⟩ = some (.pointer (some ⟨g, 0, none⟩)))
    (first | exact hS0 | exact hS2 | exact hS5 | go_keep)
    (first
      | (go_at_call 146; refine (KP.out _ (by first | assumption)).mono ?_; rintro e w2 ⟨k2, v2, rfl, r2, o2, hk2, hv2⟩; have hS2 := SO.out _ o2)
      | (go_at_call 117; refine (K5.out _ (by first | assumption)).mono ?_; rintro e w5 ⟨rfl, hb5⟩; have hS5 := SN.out _ hb5))
  subst hQ
  all_goals
    go_wp2_with fail
    have G2 := Lib.hid (E1.out.only o2 (fun x hx hy => HD.out x hx hy))
    have T2 := Lib.hid (E0.out.only o2 (fun e => by have := HLT.out _ (.inl e); omega))
    have y0 : w2.cell? ⟨w.heap.size, 0, none⟩ = some (.pointer (some ⟨g, 0, none⟩)) := T2.out.cell 0
    have y7 := G2.out.row.cell 7
    have g7 := G2.out.row.soft 7
    simp only [tkC, in17, List.getElem?_cons_zero, List.getElem?_cons_succ] at y7
    refine leaves_cons (f := 116) (args := #[.pointer (some ⟨w.heap.size, 0, none⟩)]) (by simp) (by simp [go_sem]) ?_
    refine (caught17 w2 y0 y7 g7).mono ?_
    rintro e u' w3 ⟨rfl, rfl, rfl⟩
    simp [Leaves, settle, results, Tryd.results79, go_sem]
    exact endT17 HI.out E2.out G2.out r2 o2 HGD.out hgl (hk2.imp id (fun ⟨x, h1, h2⟩ => ⟨x, h1, by omega⟩)) (hv2.imp id (fun ⟨x, h1, h2⟩ => ⟨x, h1, by omega⟩))

set_option maxRecDepth 100000 in
set_option maxHeartbeats 4000000 in
theorem accT17_s7 (w : World) (r : KAt w g G s vl vg) (h : Acc17 G) (rp : PtAt w t p a b k v V E K T) (hT : TabAt w) (hdis : ∀ x, own17 g s vl vg x → ¬ (own14 t p a k v x ∨ x = b)) (hl : T.length ≤ 65536) (hst : G.st = 7) :
    Calls Tryd.prog 79 #[.pointer (some ⟨g, 0, none⟩), tface14 t] w (AccT17 g G s vl vg t p a b k v V E K (T ++ [(1, ad17 G 5 (G.head % (G.R : Int)) 0, nth14 V (ad17 G 5 (G.head % (G.R : Int)) 0))]) (nth14 V (ad17 G 5 (G.head % (G.R : Int)) 0)) w) := by
  have hmf : ∀ (fn : Fn) (first cap : Array Value) (w : World), (Instr.makeFunc fn first cap).run Tryd.prog w = .ok (.func fn first cap) w := fun _ _ _ _ => rfl
  obtain ⟨m, hm⟩ : ∃ m, G.head % (G.R : Int) = m := ⟨_, rfl⟩
  have hm0 : 0 ≤ m ∧ m < 64 := by
    have h1 := Int.emod_nonneg G.head (show (G.R : Int) ≠ 0 by have := h.R; omega)
    have h2 := Int.emod_lt_of_pos G.head (show (0 : Int) < (G.R : Int) by have := h.R; omega)
    have := h.R
    omega
  have hmt : G.head.tmod (G.R : Int) = m := by rw [Int.tmod_eq_emod_of_nonneg h.head.1]; exact hm
  have hmw : wrap64 m = m := by rw [← IntWalk.i64_left, IntWalk.i64_in _ (by omega)]
  have hR0 : (G.R : Int) ≠ 0 := by have := h.R; omega
  have hR1 : ¬ G.R = 0 := by have := h.R; omega
  rw [hm]
  obtain ⟨A, hA⟩ : ∃ A, ad17 G 5 m 0 = A := ⟨_, rfl⟩
  rw [hA]
  have f7 := r.row.soft 7
  have c7 := r.row.cell 7
  have c6 := r.row.cell 6
  simp only [tkC, List.getElem?_cons_zero, List.getElem?_cons_succ] at c6 c7
  rw [h.ins] at c7
  rw [hst] at c6
  have hgl := r.row.lt
  have HLT := Lib.hid rp.lt
  have HI := Lib.hid h.ins
  obtain ⟨e0, e1, e2⟩ := enter17 w r
  obtain ⟨w1, hw1⟩ : ∃ w1, w1 = (w.setCell ⟨g, 7, none⟩ (.bool true)).alloc (.cells #[.pointer (some ⟨g, 0, none⟩)] 73) := ⟨_, rfl⟩
  rw [← hw1] at e0 e1 e2
  have hsz := e2.size
  have hgd : ∀ x, own14 t p a k v x ∨ x = b → x ≠ g := fun x hx e => hdis g (.inl rfl) (by rw [← e]; exact hx)
  have rp1 := rp.only e2 (fun x hx e => hgd x hx e)
  have hT1 : TabAt w1 := hT.only17 e2 (fun e => tab_ne17 hT r e)
  have z0 : w1.cell? ⟨w.heap.size, 0, none⟩ = some (.pointer (some ⟨g, 0, none⟩)) := e0.cell 0
  have c1 := e1.row.cell 1
  have c10 := e1.row.cell 10
  simp only [tkC, in17, List.getElem?_cons_zero, List.getElem?_cons_succ] at c1 c10
  have K5 := Lib.hid (fun W (hb : Below w1.heap.size w1 W) => (at17_any (T := in17 G) 5 m 0 W (e1.below hb) h.B h.R.2 (hT1.below hb)).mono (R' := fun e w' => e = .returned (.int .i64 A) ∧ Below w1.heap.size w1 w') (fun _ _ ⟨he, hb'⟩ => ⟨by rw [he, ← hA]; rfl, below_on hb hb'⟩))
  have E0 := Lib.hid e0
  have E1 := Lib.hid e1
  have E2 := Lib.hid e2
  have HGD := Lib.hid hgd
  have HD := Lib.hid (fun x (hx : own17 g s vl vg x) (hy : own14 t p a k v x) => hdis x hx (.inl hy))
  clear r h rp hT hdis e0 e1 e2 hgd hst
  have KP := Lib.hid (fun W (hb : Below w1.heap.size w1 W) => (tload14_any A W (rp1.below hb) hl).mono (fun _ _ h => PtP.since hb h))
  have SB : Hid (∀ W, Row W w.heap.size 73 [.pointer (some ⟨g, 0, none⟩)] → KAt W g (in17 G) s vl vg → W.cell? ⟨w.heap.size, 0, none⟩ = some (.pointer (some ⟨g, 0, none⟩)) ∧ W.cell? ⟨g, 1, none⟩ = some (.int .i64 (G.R : Int)) ∧ W.cell? ⟨g, 10, none⟩ = some (.int .i64 G.head)) := Lib.hid (fun W q0 q1 => ?sb)
  case sb =>
    have d0 := q0.cell 0
    have d1 := q1.row.cell 1
    have d10 := q1.row.cell 10
    simp only [tkC, in17, List.getElem?_cons_zero, List.getElem?_cons_succ] at d1 d10
    exact ⟨d0, d1, d10⟩
  have SN : Hid (∀ W, Below w1.heap.size w1 W → W.cell? ⟨w.heap.size, 0, none⟩ = some (.pointer (some ⟨g, 0, none⟩)) ∧ W.cell? ⟨g, 1, none⟩ = some (.int .i64 (G.R : Int)) ∧ W.cell? ⟨g, 10, none⟩ = some (.int .i64 G.head)) := Lib.hid (fun W hb => SB.out W (E0.out.below hb) (E1.out.below hb))
  have SO : Hid (∀ W, Only (own14 t p a k v) w1 W → W.cell? ⟨w.heap.size, 0, none⟩ = some (.pointer (some ⟨g, 0, none⟩)) ∧ W.cell? ⟨g, 1, none⟩ = some (.int .i64 (G.R : Int)) ∧ W.cell? ⟨g, 10, none⟩ = some (.int .i64 G.head)) := Lib.hid (fun W ho => SB.out W (E0.out.only ho (fun e => by have := HLT.out _ (.inl e); omega)) (E1.out.only ho (fun x hx hy => HD.out x hx hy)))
  unfold tface14
  go_enter_defers Tryd.func79, Tryd.ntmps79
  go_wp2_with fail
  rw [← hw1]
  clear hw1
  have hS0 := SN.out w1.drew (Below.refl _ _).drew
  have hbd : Below w1.heap.size w1 w1.drew := (Below.refl _ _).drew
  generalize hQ : w.heap.size = Q at *
  go_region_held3 (fun W => W.cell? ⟨Q, 0, none⟩ = some (.pointer (some ⟨g, 0, none⟩)) ∧ W.cell? ⟨g, 1, none⟩ = some (.int .i64 (G.R : Int)) ∧ W.cell? ⟨g, 10, none⟩ = some (.int .i64 G.head))
    (first | exact hS0 | exact hS2 | exact hS5 | go_keep)
    (first
      | (go_at_call 146; refine (KP.out _ (by first | assumption)).mono ?_; rintro e w2 ⟨k2, v2, rfl, r2, o2, hk2, hv2⟩; have hS2 := SO.out _ o2)
      | (go_at_call 117; refine (K5.out _ (by first | assumption)).mono ?_; rintro e w5 ⟨rfl, hb5⟩; have hS5 := SN.out _ hb5))
  subst hQ
  all_goals
    go_wp2_with fail
    have G2 := Lib.hid (E1.out.only o2 (fun x hx hy => HD.out x hx hy))
    have T2 := Lib.hid (E0.out.only o2 (fun e => by have := HLT.out _ (.inl e); omega))
    have y0 : w2.cell? ⟨w.heap.size, 0, none⟩ = some (.pointer (some ⟨g, 0, none⟩)) := T2.out.cell 0
    have y7 := G2.out.row.cell 7
    have g7 := G2.out.row.soft 7
    simp only [tkC, in17, List.getElem?_cons_zero, List.getElem?_cons_succ] at y7
    refine leaves_cons (f := 116) (args := #[.pointer (some ⟨w.heap.size, 0, none⟩)]) (by simp) (by simp [go_sem]) ?_
    refine (caught17 w2 y0 y7 g7).mono ?_
    rintro e u' w3 ⟨rfl, rfl, rfl⟩
    simp [Leaves, settle, results, Tryd.results79, go_sem]
    exact endT17 HI.out E2.out G2.out r2 o2 HGD.out hgl (hk2.imp id (fun ⟨x, h1, h2⟩ => ⟨x, h1, by omega⟩)) (hv2.imp id (fun ⟨x, h1, h2⟩ => ⟨x, h1, by omega⟩))

set_option maxRecDepth 100000 in
set_option maxHeartbeats 4000000 in
theorem accT17_s8 (w : World) (r : KAt w g G s vl vg) (h : Acc17 G) (rp : PtAt w t p a b k v V E K T) (hT : TabAt w) (hdis : ∀ x, own17 g s vl vg x → ¬ (own14 t p a k v x ∨ x = b)) (hl : T.length ≤ 65536) (hst : G.st = 8) :
    Calls Tryd.prog 79 #[.pointer (some ⟨g, 0, none⟩), tface14 t] w (AccT17 g G s vl vg t p a b k v V E K (T ++ [(1, ad17 G 7 G.slot 0, nth14 V (ad17 G 7 G.slot 0))]) (nth14 V (ad17 G 7 G.slot 0)) w) := by
  have hmf : ∀ (fn : Fn) (first cap : Array Value) (w : World), (Instr.makeFunc fn first cap).run Tryd.prog w = .ok (.func fn first cap) w := fun _ _ _ _ => rfl
  obtain ⟨A, hA⟩ : ∃ A, ad17 G 7 G.slot 0 = A := ⟨_, rfl⟩
  rw [hA]
  have f7 := r.row.soft 7
  have c7 := r.row.cell 7
  have c6 := r.row.cell 6
  simp only [tkC, List.getElem?_cons_zero, List.getElem?_cons_succ] at c6 c7
  rw [h.ins] at c7
  rw [hst] at c6
  have hgl := r.row.lt
  have HLT := Lib.hid rp.lt
  have HI := Lib.hid h.ins
  obtain ⟨e0, e1, e2⟩ := enter17 w r
  obtain ⟨w1, hw1⟩ : ∃ w1, w1 = (w.setCell ⟨g, 7, none⟩ (.bool true)).alloc (.cells #[.pointer (some ⟨g, 0, none⟩)] 73) := ⟨_, rfl⟩
  rw [← hw1] at e0 e1 e2
  have hsz := e2.size
  have hgd : ∀ x, own14 t p a k v x ∨ x = b → x ≠ g := fun x hx e => hdis g (.inl rfl) (by rw [← e]; exact hx)
  have rp1 := rp.only e2 (fun x hx e => hgd x hx e)
  have hT1 : TabAt w1 := hT.only17 e2 (fun e => tab_ne17 hT r e)
  have z0 : w1.cell? ⟨w.heap.size, 0, none⟩ = some (.pointer (some ⟨g, 0, none⟩)) := e0.cell 0
  have c13 := e1.row.cell 13
  simp only [tkC, in17, List.getElem?_cons_zero, List.getElem?_cons_succ] at c13
  have K5 := Lib.hid (fun W (hb : Below w1.heap.size w1 W) => (at17_any (T := in17 G) 7 G.slot 0 W (e1.below hb) h.B h.R.2 (hT1.below hb)).mono (R' := fun e w' => e = .returned (.int .i64 A) ∧ Below w1.heap.size w1 w') (fun _ _ ⟨he, hb'⟩ => ⟨by rw [he, ← hA]; rfl, below_on hb hb'⟩))
  have E0 := Lib.hid e0
  have E1 := Lib.hid e1
  have E2 := Lib.hid e2
  have HGD := Lib.hid hgd
  have HD := Lib.hid (fun x (hx : own17 g s vl vg x) (hy : own14 t p a k v x) => hdis x hx (.inl hy))
  clear r h rp hT hdis e0 e1 e2 hgd hst
  have KP := Lib.hid (fun W (hb : Below w1.heap.size w1 W) => (tload14_any A W (rp1.below hb) hl).mono (fun _ _ h => PtP.since hb h))
  have SB : Hid (∀ W, Row W w.heap.size 73 [.pointer (some ⟨g, 0, none⟩)] → KAt W g (in17 G) s vl vg → W.cell? ⟨w.heap.size, 0, none⟩ = some (.pointer (some ⟨g, 0, none⟩)) ∧ W.cell? ⟨g, 13, none⟩ = some (.int .i64 G.slot)) := Lib.hid (fun W q0 q1 => ?sb)
  case sb =>
    have d0 := q0.cell 0
    have d13 := q1.row.cell 13
    simp only [tkC, in17, List.getElem?_cons_zero, List.getElem?_cons_succ] at d13
    exact ⟨d0, d13⟩
  have SN : Hid (∀ W, Below w1.heap.size w1 W → W.cell? ⟨w.heap.size, 0, none⟩ = some (.pointer (some ⟨g, 0, none⟩)) ∧ W.cell? ⟨g, 13, none⟩ = some (.int .i64 G.slot)) := Lib.hid (fun W hb => SB.out W (E0.out.below hb) (E1.out.below hb))
  have SO : Hid (∀ W, Only (own14 t p a k v) w1 W → W.cell? ⟨w.heap.size, 0, none⟩ = some (.pointer (some ⟨g, 0, none⟩)) ∧ W.cell? ⟨g, 13, none⟩ = some (.int .i64 G.slot)) := Lib.hid (fun W ho => SB.out W (E0.out.only ho (fun e => by have := HLT.out _ (.inl e); omega)) (E1.out.only ho (fun x hx hy => HD.out x hx hy)))
  unfold tface14
  go_enter_defers Tryd.func79, Tryd.ntmps79
  go_wp2_with fail
  rw [← hw1]
  clear hw1
  have hS0 := SN.out w1.drew (Below.refl _ _).drew
  have hbd : Below w1.heap.size w1 w1.drew := (Below.refl _ _).drew
  generalize hQ : w.heap.size = Q at *
  go_region_held3 (fun W => W.cell? ⟨Q, 0, none⟩ = some (.pointer (some ⟨g, 0, none⟩)) ∧ W.cell? ⟨g, 13, none⟩ = some (.int .i64 G.slot))
    (first | exact hS0 | exact hS2 | exact hS5 | go_keep)
    (first
      | (go_at_call 146; refine (KP.out _ (by first | assumption)).mono ?_; rintro e w2 ⟨k2, v2, rfl, r2, o2, hk2, hv2⟩; have hS2 := SO.out _ o2)
      | (go_at_call 117; refine (K5.out _ (by first | assumption)).mono ?_; rintro e w5 ⟨rfl, hb5⟩; have hS5 := SN.out _ hb5))
  subst hQ
  all_goals
    go_wp2_with fail
    have G2 := Lib.hid (E1.out.only o2 (fun x hx hy => HD.out x hx hy))
    have T2 := Lib.hid (E0.out.only o2 (fun e => by have := HLT.out _ (.inl e); omega))
    have y0 : w2.cell? ⟨w.heap.size, 0, none⟩ = some (.pointer (some ⟨g, 0, none⟩)) := T2.out.cell 0
    have y7 := G2.out.row.cell 7
    have g7 := G2.out.row.soft 7
    simp only [tkC, in17, List.getElem?_cons_zero, List.getElem?_cons_succ] at y7
    refine leaves_cons (f := 116) (args := #[.pointer (some ⟨w.heap.size, 0, none⟩)]) (by simp) (by simp [go_sem]) ?_
    refine (caught17 w2 y0 y7 g7).mono ?_
    rintro e u' w3 ⟨rfl, rfl, rfl⟩
    simp [Leaves, settle, results, Tryd.results79, go_sem]
    exact endT17 HI.out E2.out G2.out r2 o2 HGD.out hgl (hk2.imp id (fun ⟨x, h1, h2⟩ => ⟨x, h1, by omega⟩)) (hv2.imp id (fun ⟨x, h1, h2⟩ => ⟨x, h1, by omega⟩))

set_option maxRecDepth 100000 in
set_option maxHeartbeats 4000000 in
theorem accT17_s9 (w : World) (r : KAt w g G s vl vg) (h : Acc17 G) (rp : PtAt w t p a b k v V E K T) (hT : TabAt w) (hdis : ∀ x, own17 g s vl vg x → ¬ (own14 t p a k v x ∨ x = b)) (hl : T.length ≤ 65536) (hst : G.st = 9) :
    Calls Tryd.prog 79 #[.pointer (some ⟨g, 0, none⟩), tface14 t] w (AccT17 g G s vl vg t p a b k v V E K (T ++ [(1, ad17 G 8 G.slot (G.load.length : Int), nth14 V (ad17 G 8 G.slot (G.load.length : Int)))]) (nth14 V (ad17 G 8 G.slot (G.load.length : Int))) w) := by
  have hmf : ∀ (fn : Fn) (first cap : Array Value) (w : World), (Instr.makeFunc fn first cap).run Tryd.prog w = .ok (.func fn first cap) w := fun _ _ _ _ => rfl
  obtain ⟨A, hA⟩ : ∃ A, ad17 G 8 G.slot (G.load.length : Int) = A := ⟨_, rfl⟩
  rw [hA]
  obtain ⟨Al, cl, rfl⟩ := own_open14 r.load
  have f7 := r.row.soft 7
  have c7 := r.row.cell 7
  have c6 := r.row.cell 6
  simp only [tkC, List.getElem?_cons_zero, List.getElem?_cons_succ] at c6 c7
  rw [h.ins] at c7
  rw [hst] at c6
  have hgl := r.row.lt
  have HLT := Lib.hid rp.lt
  have HI := Lib.hid h.ins
  obtain ⟨e0, e1, e2⟩ := enter17 w r
  obtain ⟨w1, hw1⟩ : ∃ w1, w1 = (w.setCell ⟨g, 7, none⟩ (.bool true)).alloc (.cells #[.pointer (some ⟨g, 0, none⟩)] 73) := ⟨_, rfl⟩
  rw [← hw1] at e0 e1 e2
  have hsz := e2.size
  have hgd : ∀ x, own14 t p a k v x ∨ x = b → x ≠ g := fun x hx e => hdis g (.inl rfl) (by rw [← e]; exact hx)
  have rp1 := rp.only e2 (fun x hx e => hgd x hx e)
  have hT1 : TabAt w1 := hT.only17 e2 (fun e => tab_ne17 hT r e)
  have z0 : w1.cell? ⟨w.heap.size, 0, none⟩ = some (.pointer (some ⟨g, 0, none⟩)) := e0.cell 0
  have c13 := e1.row.cell 13
  have c15 := e1.row.cell 15
  simp only [tkC, in17, List.getElem?_cons_zero, List.getElem?_cons_succ] at c13 c15
  have K5 := Lib.hid (fun W (hb : Below w1.heap.size w1 W) => (at17_any (T := in17 G) 8 G.slot (G.load.length : Int) W (e1.below hb) h.B h.R.2 (hT1.below hb)).mono (R' := fun e w' => e = .returned (.int .i64 A) ∧ Below w1.heap.size w1 w') (fun _ _ ⟨he, hb'⟩ => ⟨by rw [he, ← hA]; rfl, below_on hb hb'⟩))
  have E0 := Lib.hid e0
  have E1 := Lib.hid e1
  have E2 := Lib.hid e2
  have HGD := Lib.hid hgd
  have HD := Lib.hid (fun x (hx : own17 g s (.slice Al G.load.length cl) vg x) (hy : own14 t p a k v x) => hdis x hx (.inl hy))
  clear r h rp hT hdis e0 e1 e2 hgd hst
  have KP := Lib.hid (fun W (hb : Below w1.heap.size w1 W) => (tload14_any A W (rp1.below hb) hl).mono (fun _ _ h => PtP.since hb h))
  have SB : Hid (∀ W, Row W w.heap.size 73 [.pointer (some ⟨g, 0, none⟩)] → KAt W g (in17 G) s (.slice Al G.load.length cl) vg → W.cell? ⟨w.heap.size, 0, none⟩ = some (.pointer (some ⟨g, 0, none⟩)) ∧ W.cell? ⟨g, 13, none⟩ = some (.int .i64 G.slot) ∧ W.cell? ⟨g, 15, none⟩ = some (.slice Al G.load.length cl)) := Lib.hid (fun W q0 q1 => ?sb)
  case sb =>
    have d0 := q0.cell 0
    have d13 := q1.row.cell 13
    have d15 := q1.row.cell 15
    simp only [tkC, in17, List.getElem?_cons_zero, List.getElem?_cons_succ] at d13 d15
    exact ⟨d0, d13, d15⟩
  have SN : Hid (∀ W, Below w1.heap.size w1 W → W.cell? ⟨w.heap.size, 0, none⟩ = some (.pointer (some ⟨g, 0, none⟩)) ∧ W.cell? ⟨g, 13, none⟩ = some (.int .i64 G.slot) ∧ W.cell? ⟨g, 15, none⟩ = some (.slice Al G.load.length cl)) := Lib.hid (fun W hb => SB.out W (E0.out.below hb) (E1.out.below hb))
  have SO : Hid (∀ W, Only (own14 t p a k v) w1 W → W.cell? ⟨w.heap.size, 0, none⟩ = some (.pointer (some ⟨g, 0, none⟩)) ∧ W.cell? ⟨g, 13, none⟩ = some (.int .i64 G.slot) ∧ W.cell? ⟨g, 15, none⟩ = some (.slice Al G.load.length cl)) := Lib.hid (fun W ho => SB.out W (E0.out.only ho (fun e => by have := HLT.out _ (.inl e); omega)) (E1.out.only ho (fun x hx hy => HD.out x hx hy)))
  unfold tface14
  go_enter_defers Tryd.func79, Tryd.ntmps79
  go_wp2_with fail
  rw [← hw1]
  clear hw1
  have hS0 := SN.out w1.drew (Below.refl _ _).drew
  have hbd : Below w1.heap.size w1 w1.drew := (Below.refl _ _).drew
  generalize hQ : w.heap.size = Q at *
  go_region_held3 (fun W => W.cell? ⟨Q, 0, none⟩ = some (.pointer (some ⟨g, 0, none⟩)) ∧ W.cell? ⟨g, 13, none⟩ = some (.int .i64 G.slot) ∧ W.cell? ⟨g, 15, none⟩ = some (.slice Al G.load.length cl))
    (first | exact hS0 | exact hS2 | exact hS5 | go_keep)
    (first
      | (go_at_call 146; refine (KP.out _ (by first | assumption)).mono ?_; rintro e w2 ⟨k2, v2, rfl, r2, o2, hk2, hv2⟩; have hS2 := SO.out _ o2)
      | (go_at_call 117; refine (K5.out _ (by first | assumption)).mono ?_; rintro e w5 ⟨rfl, hb5⟩; have hS5 := SN.out _ hb5))
  subst hQ
  all_goals
    go_wp2_with fail
    have G2 := Lib.hid (E1.out.only o2 (fun x hx hy => HD.out x hx hy))
    have T2 := Lib.hid (E0.out.only o2 (fun e => by have := HLT.out _ (.inl e); omega))
    have y0 : w2.cell? ⟨w.heap.size, 0, none⟩ = some (.pointer (some ⟨g, 0, none⟩)) := T2.out.cell 0
    have y7 := G2.out.row.cell 7
    have g7 := G2.out.row.soft 7
    simp only [tkC, in17, List.getElem?_cons_zero, List.getElem?_cons_succ] at y7
    refine leaves_cons (f := 116) (args := #[.pointer (some ⟨w.heap.size, 0, none⟩)]) (by simp) (by simp [go_sem]) ?_
    refine (caught17 w2 y0 y7 g7).mono ?_
    rintro e u' w3 ⟨rfl, rfl, rfl⟩
    simp [Leaves, settle, results, Tryd.results79, go_sem]
    exact endT17 HI.out E2.out G2.out r2 o2 HGD.out hgl (hk2.imp id (fun ⟨x, h1, h2⟩ => ⟨x, h1, by omega⟩)) (hv2.imp id (fun ⟨x, h1, h2⟩ => ⟨x, h1, by omega⟩))

set_option maxRecDepth 100000 in
set_option maxHeartbeats 4000000 in
theorem accT17_s10 (w : World) (r : KAt w g G s vl vg) (h : Acc17 G) (rp : PtAt w t p a b k v V E K T) (hT : TabAt w) (hdis : ∀ x, own17 g s vl vg x → ¬ (own14 t p a k v x ∨ x = b)) (hl : T.length ≤ 65536) (hst : G.st = 10) :
    Calls Tryd.prog 79 #[.pointer (some ⟨g, 0, none⟩), tface14 t] w (AccT17 g G s vl vg t p a b k v (put14 V (ad17 G 6 (G.used % (G.R : Int)) 0) ((G.slot) % 65536)) E K (T ++ [(2, ad17 G 6 (G.used % (G.R : Int)) 0, G.slot)]) 0 w) := by
  have hmf : ∀ (fn : Fn) (first cap : Array Value) (w : World), (Instr.makeFunc fn first cap).run Tryd.prog w = .ok (.func fn first cap) w := fun _ _ _ _ => rfl
  obtain ⟨m, hm⟩ : ∃ m, G.used % (G.R : Int) = m := ⟨_, rfl⟩
  have hm0 : 0 ≤ m ∧ m < 64 := by
    have h1 := Int.emod_nonneg G.used (show (G.R : Int) ≠ 0 by have := h.R; omega)
    have h2 := Int.emod_lt_of_pos G.used (show (0 : Int) < (G.R : Int) by have := h.R; omega)
    have := h.R
    omega
  have hmt : G.used.tmod (G.R : Int) = m := by rw [Int.tmod_eq_emod_of_nonneg h.used.1]; exact hm
  have hmw : wrap64 m = m := by rw [← IntWalk.i64_left, IntWalk.i64_in _ (by omega)]
  have hR0 : (G.R : Int) ≠ 0 := by have := h.R; omega
  have hR1 : ¬ G.R = 0 := by have := h.R; omega
  rw [hm]
  obtain ⟨A, hA⟩ : ∃ A, ad17 G 6 m 0 = A := ⟨_, rfl⟩
  rw [hA]
  have f7 := r.row.soft 7
  have c7 := r.row.cell 7
  have c6 := r.row.cell 6
  simp only [tkC, List.getElem?_cons_zero, List.getElem?_cons_succ] at c6 c7
  rw [h.ins] at c7
  rw [hst] at c6
  have hgl := r.row.lt
  have HLT := Lib.hid rp.lt
  have HI := Lib.hid h.ins
  obtain ⟨e0, e1, e2⟩ := enter17 w r
  obtain ⟨w1, hw1⟩ : ∃ w1, w1 = (w.setCell ⟨g, 7, none⟩ (.bool true)).alloc (.cells #[.pointer (some ⟨g, 0, none⟩)] 73) := ⟨_, rfl⟩
  rw [← hw1] at e0 e1 e2
  have hsz := e2.size
  have hgd : ∀ x, own14 t p a k v x ∨ x = b → x ≠ g := fun x hx e => hdis g (.inl rfl) (by rw [← e]; exact hx)
  have rp1 := rp.only e2 (fun x hx e => hgd x hx e)
  have hT1 : TabAt w1 := hT.only17 e2 (fun e => tab_ne17 hT r e)
  have z0 : w1.cell? ⟨w.heap.size, 0, none⟩ = some (.pointer (some ⟨g, 0, none⟩)) := e0.cell 0
  have c1 := e1.row.cell 1
  have c11 := e1.row.cell 11
  have c13 := e1.row.cell 13
  simp only [tkC, in17, List.getElem?_cons_zero, List.getElem?_cons_succ] at c1 c11 c13
  have K5 := Lib.hid (fun W (hb : Below w1.heap.size w1 W) => (at17_any (T := in17 G) 6 m 0 W (e1.below hb) h.B h.R.2 (hT1.below hb)).mono (R' := fun e w' => e = .returned (.int .i64 A) ∧ Below w1.heap.size w1 w') (fun _ _ ⟨he, hb'⟩ => ⟨by rw [he, ← hA]; rfl, below_on hb hb'⟩))
  have E0 := Lib.hid e0
  have E1 := Lib.hid e1
  have E2 := Lib.hid e2
  have HGD := Lib.hid hgd
  have HD := Lib.hid (fun x (hx : own17 g s vl vg x) (hy : own14 t p a k v x) => hdis x hx (.inl hy))
  clear r h rp hT hdis e0 e1 e2 hgd hst
  have KP := Lib.hid (fun W (hb : Below w1.heap.size w1 W) => (tstore14_any A G.slot W (rp1.below hb) hl).mono (fun _ _ h => PtP.since hb h))
  have SB : Hid (∀ W, Row W w.heap.size 73 [.pointer (some ⟨g, 0, none⟩)] → KAt W g (in17 G) s vl vg → W.cell? ⟨w.heap.size, 0, none⟩ = some (.pointer (some ⟨g, 0, none⟩)) ∧ W.cell? ⟨g, 1, none⟩ = some (.int .i64 (G.R : Int)) ∧ W.cell? ⟨g, 11, none⟩ = some (.int .i64 G.used) ∧ W.cell? ⟨g, 13, none⟩ = some (.int .i64 G.slot)) := Lib.hid (fun W q0 q1 => ?sb)
  case sb =>
    have d0 := q0.cell 0
    have d1 := q1.row.cell 1
    have d11 := q1.row.cell 11
    have d13 := q1.row.cell 13
    simp only [tkC, in17, List.getElem?_cons_zero, List.getElem?_cons_succ] at d1 d11 d13
    exact ⟨d0, d1, d11, d13⟩
  have SN : Hid (∀ W, Below w1.heap.size w1 W → W.cell? ⟨w.heap.size, 0, none⟩ = some (.pointer (some ⟨g, 0, none⟩)) ∧ W.cell? ⟨g, 1, none⟩ = some (.int .i64 (G.R : Int)) ∧ W.cell? ⟨g, 11, none⟩ = some (.int .i64 G.used) ∧ W.cell? ⟨g, 13, none⟩ = some (.int .i64 G.slot)) := Lib.hid (fun W hb => SB.out W (E0.out.below hb) (E1.out.below hb))
  have SO : Hid (∀ W, Only (own14 t p a k v) w1 W → W.cell? ⟨w.heap.size, 0, none⟩ = some (.pointer (some ⟨g, 0, none⟩)) ∧ W.cell? ⟨g, 1, none⟩ = some (.int .i64 (G.R : Int)) ∧ W.cell? ⟨g, 11, none⟩ = some (.int .i64 G.used) ∧ W.cell? ⟨g, 13, none⟩ = some (.int .i64 G.slot)) := Lib.hid (fun W ho => SB.out W (E0.out.only ho (fun e => by have := HLT.out _ (.inl e); omega)) (E1.out.only ho (fun x hx hy => HD.out x hx hy)))
  unfold tface14
  go_enter_defers Tryd.func79, Tryd.ntmps79
  go_wp2_with fail
  rw [← hw1]
  clear hw1
  have hS0 := SN.out w1.drew (Below.refl _ _).drew
  have hbd : Below w1.heap.size w1 w1.drew := (Below.refl _ _).drew
  generalize hQ : w.heap.size = Q at *
  go_region_held3 (fun W => W.cell? ⟨Q, 0, none⟩ = some (.pointer (some ⟨g, 0, none⟩)) ∧ W.cell? ⟨g, 1, none⟩ = some (.int .i64 (G.R : Int)) ∧ W.cell? ⟨g, 11, none⟩ = some (.int .i64 G.used) ∧ W.cell? ⟨g, 13, none⟩ = some (.int .i64 G.slot))
    (first | exact hS0 | exact hS2 | exact hS5 | go_keep)
    (first
      | (go_at_call 147; refine (KP.out _ (by first | assumption)).mono ?_; rintro e w2 ⟨k2, v2, rfl, r2, o2, hk2, hv2⟩; have hS2 := SO.out _ o2)
      | (go_at_call 117; refine (K5.out _ (by first | assumption)).mono ?_; rintro e w5 ⟨rfl, hb5⟩; have hS5 := SN.out _ hb5))
  subst hQ
  all_goals
    go_wp2_with fail
    have G2 := Lib.hid (E1.out.only o2 (fun x hx hy => HD.out x hx hy))
    have T2 := Lib.hid (E0.out.only o2 (fun e => by have := HLT.out _ (.inl e); omega))
    have y0 : w2.cell? ⟨w.heap.size, 0, none⟩ = some (.pointer (some ⟨g, 0, none⟩)) := T2.out.cell 0
    have y7 := G2.out.row.cell 7
    have g7 := G2.out.row.soft 7
    simp only [tkC, in17, List.getElem?_cons_zero, List.getElem?_cons_succ] at y7
    refine leaves_cons (f := 116) (args := #[.pointer (some ⟨w.heap.size, 0, none⟩)]) (by simp) (by simp [go_sem]) ?_
    refine (caught17 w2 y0 y7 g7).mono ?_
    rintro e u' w3 ⟨rfl, rfl, rfl⟩
    simp [Leaves, settle, results, Tryd.results79, go_sem]
    exact endT17 HI.out E2.out G2.out r2 o2 HGD.out hgl (hk2.imp id (fun ⟨x, h1, h2⟩ => ⟨x, h1, by omega⟩)) (hv2.imp id (fun ⟨x, h1, h2⟩ => ⟨x, h1, by omega⟩))

set_option maxRecDepth 100000 in
set_option maxHeartbeats 4000000 in
theorem accT17_s12 (w : World) (r : KAt w g G s vl vg) (h : Acc17 G) (rp : PtAt w t p a b k v V E K T) (hT : TabAt w) (hdis : ∀ x, own17 g s vl vg x → ¬ (own14 t p a k v x ∨ x = b)) (hl : T.length ≤ 65536) (hst : G.st = 12) :
    Calls Tryd.prog 79 #[.pointer (some ⟨g, 0, none⟩), tface14 t] w (AccT17 g G s vl vg t p a b k v (put14 V (ad17 G 4 0 0) ((addW G.used 1) % 65536)) E K (T ++ [(2, ad17 G 4 0 0, addW G.used 1)]) 0 w) := by
  have hmf : ∀ (fn : Fn) (first cap : Array Value) (w : World), (Instr.makeFunc fn first cap).run Tryd.prog w = .ok (.func fn first cap) w := fun _ _ _ _ => rfl
  obtain ⟨U, hU⟩ : ∃ A, addW G.used 1 = A := ⟨_, rfl⟩
  rw [hU]
  obtain ⟨A, hA⟩ : ∃ A, ad17 G 4 0 0 = A := ⟨_, rfl⟩
  rw [hA]
  have f7 := r.row.soft 7
  have c7 := r.row.cell 7
  have c6 := r.row.cell 6
  simp only [tkC, List.getElem?_cons_zero, List.getElem?_cons_succ] at c6 c7
  rw [h.ins] at c7
  rw [hst] at c6
  have hgl := r.row.lt
  have HLT := Lib.hid rp.lt
  have HI := Lib.hid h.ins
  obtain ⟨e0, e1, e2⟩ := enter17 w r
  obtain ⟨w1, hw1⟩ : ∃ w1, w1 = (w.setCell ⟨g, 7, none⟩ (.bool true)).alloc (.cells #[.pointer (some ⟨g, 0, none⟩)] 73) := ⟨_, rfl⟩
  rw [← hw1] at e0 e1 e2
  have hsz := e2.size
  have hgd : ∀ x, own14 t p a k v x ∨ x = b → x ≠ g := fun x hx e => hdis g (.inl rfl) (by rw [← e]; exact hx)
  have rp1 := rp.only e2 (fun x hx e => hgd x hx e)
  have hT1 : TabAt w1 := hT.only17 e2 (fun e => tab_ne17 hT r e)
  have z0 : w1.cell? ⟨w.heap.size, 0, none⟩ = some (.pointer (some ⟨g, 0, none⟩)) := e0.cell 0
  have c11 := e1.row.cell 11
  simp only [tkC, in17, List.getElem?_cons_zero, List.getElem?_cons_succ] at c11
  have K5 := Lib.hid (fun W (hb : Below w1.heap.size w1 W) => (at17_any (T := in17 G) 4 0 0 W (e1.below hb) h.B h.R.2 (hT1.below hb)).mono (R' := fun e w' => e = .returned (.int .i64 A) ∧ Below w1.heap.size w1 w') (fun _ _ ⟨he, hb'⟩ => ⟨by rw [he, ← hA]; rfl, below_on hb hb'⟩))
  have K6 := Lib.hid (fun W (hb : Below w1.heap.size w1 W) => (add_any G.used 1 W).mono (R' := fun e w' => e = .returned (.int .i64 U) ∧ Below w1.heap.size w1 w') (fun _ _ ⟨he, hw⟩ => ⟨by rw [he, ← hU], by rw [← hw]; exact hb⟩))
  have E0 := Lib.hid e0
  have E1 := Lib.hid e1
  have E2 := Lib.hid e2
  have HGD := Lib.hid hgd
  have HD := Lib.hid (fun x (hx : own17 g s vl vg x) (hy : own14 t p a k v x) => hdis x hx (.inl hy))
  clear r h rp hT hdis e0 e1 e2 hgd hst
  have KP := Lib.hid (fun W (hb : Below w1.heap.size w1 W) => (tstore14_any A U W (rp1.below hb) hl).mono (fun _ _ h => PtP.since hb h))
  have SB : Hid (∀ W, Row W w.heap.size 73 [.pointer (some ⟨g, 0, none⟩)] → KAt W g (in17 G) s vl vg → W.cell? ⟨w.heap.size, 0, none⟩ = some (.pointer (some ⟨g, 0, none⟩)) ∧ W.cell? ⟨g, 11, none⟩ = some (.int .i64 G.used)) := Lib.hid (fun W q0 q1 => ?sb)
  case sb =>
    have d0 := q0.cell 0
    have d11 := q1.row.cell 11
    simp only [tkC, in17, List.getElem?_cons_zero, List.getElem?_cons_succ] at d11
    exact ⟨d0, d11⟩
  have SN : Hid (∀ W, Below w1.heap.size w1 W → W.cell? ⟨w.heap.size, 0, none⟩ = some (.pointer (some ⟨g, 0, none⟩)) ∧ W.cell? ⟨g, 11, none⟩ = some (.int .i64 G.used)) := Lib.hid (fun W hb => SB.out W (E0.out.below hb) (E1.out.below hb))
  have SO : Hid (∀ W, Only (own14 t p a k v) w1 W → W.cell? ⟨w.heap.size, 0, none⟩ = some (.pointer (some ⟨g, 0, none⟩)) ∧ W.cell? ⟨g, 11, none⟩ = some (.int .i64 G.used)) := Lib.hid (fun W ho => SB.out W (E0.out.only ho (fun e => by have := HLT.out _ (.inl e); omega)) (E1.out.only ho (fun x hx hy => HD.out x hx hy)))
  unfold tface14
  go_enter_defers Tryd.func79, Tryd.ntmps79
  go_wp2_with fail
  rw [← hw1]
  clear hw1
  have hS0 := SN.out w1.drew (Below.refl _ _).drew
  have hbd : Below w1.heap.size w1 w1.drew := (Below.refl _ _).drew
  generalize hQ : w.heap.size = Q at *
  go_region_held3 (fun W => W.cell? ⟨Q, 0, none⟩ = some (.pointer (some ⟨g, 0, none⟩)) ∧ W.cell? ⟨g, 11, none⟩ = some (.int .i64 G.used))
    (first | exact hS0 | exact hS2 | exact hS5 | exact hS6 | go_keep)
    (first
      | (go_at_call 147; refine (KP.out _ (by first | assumption)).mono ?_; rintro e w2 ⟨k2, v2, rfl, r2, o2, hk2, hv2⟩; have hS2 := SO.out _ o2)
      | (go_at_call 117; refine (K5.out _ (by first | assumption)).mono ?_; rintro e w5 ⟨rfl, hb5⟩; have hS5 := SN.out _ hb5)
      | (go_at_call 102; refine (K6.out _ (by first | assumption)).mono ?_; rintro e w6 ⟨rfl, hb6⟩; have hS6 := SN.out _ hb6))
  subst hQ
  all_goals
    go_wp2_with fail
    have G2 := Lib.hid (E1.out.only o2 (fun x hx hy => HD.out x hx hy))
    have T2 := Lib.hid (E0.out.only o2 (fun e => by have := HLT.out _ (.inl e); omega))
    have y0 : w2.cell? ⟨w.heap.size, 0, none⟩ = some (.pointer (some ⟨g, 0, none⟩)) := T2.out.cell 0
    have y7 := G2.out.row.cell 7
    have g7 := G2.out.row.soft 7
    simp only [tkC, in17, List.getElem?_cons_zero, List.getElem?_cons_succ] at y7
    refine leaves_cons (f := 116) (args := #[.pointer (some ⟨w.heap.size, 0, none⟩)]) (by simp) (by simp [go_sem]) ?_
    refine (caught17 w2 y0 y7 g7).mono ?_
    rintro e u' w3 ⟨rfl, rfl, rfl⟩
    simp [Leaves, settle, results, Tryd.results79, go_sem]
    exact endT17 HI.out E2.out G2.out r2 o2 HGD.out hgl (hk2.imp id (fun ⟨x, h1, h2⟩ => ⟨x, h1, by omega⟩)) (hv2.imp id (fun ⟨x, h1, h2⟩ => ⟨x, h1, by omega⟩))

/-- The word, the kicks and the list that an access makes, and what it reads. -/
def aV17 (V : List Int) (x : Tch) : List Int := dV14 V x.1 x.2.1 x.2.2
def aK17 (K : List Int) (x : Tch) : List Int := dK14 K x.1 x.2.1
def aT17 (V E : List Int) (x : Tch) : List Tch := dT14 V E x.1 x.2.1 x.2.2
def aN17 (V E : List Int) (x : Tch) : Int := dN14 V E x.1 x.2.1

theorem accT17_any (w : World) (r : KAt w g G s vl vg) (h : Acc17 G) (rp : PtAt w t p a b k v V E K T) (hT : TabAt w) (hdis : ∀ x, own17 g s vl vg x → ¬ (own14 t p a k v x ∨ x = b)) (hl : T.length ≤ 65536) (hst : 1 ≤ G.st ∧ G.st ≤ 14) :
    Calls Tryd.prog 79 #[.pointer (some ⟨g, 0, none⟩), tface14 t] w (AccT17 g G s vl vg t p a b k v (aV17 V (tch17 G)) E (aK17 K (tch17 G)) (T ++ aT17 V E (tch17 G)) (aN17 V E (tch17 G)) w) := by
  have : G.st = 1 ∨ G.st = 2 ∨ G.st = 3 ∨ G.st = 4 ∨ G.st = 5 ∨ G.st = 6 ∨ G.st = 7 ∨ G.st = 8 ∨ G.st = 9 ∨ G.st = 10 ∨ G.st = 11 ∨ G.st = 12 ∨ G.st = 13 ∨ G.st = 14 := by omega
  rcases this with e | e | e | e | e | e | e | e | e | e | e | e | e | e
  · have := accT17_s1 w r h rp hT hdis hl e
    unfold tch17 aV17 aK17 aT17 aN17
    simpa [e, dV14, dK14, dT14, dN14] using this
  · have := accT17_s2 w r h rp hT hdis hl e
    unfold tch17 aV17 aK17 aT17 aN17
    simpa [e, dV14, dK14, dT14, dN14] using this
  · have := accT17_s3 w r h rp hT hdis hl e
    unfold tch17 aV17 aK17 aT17 aN17
    simpa [e, dV14, dK14, dT14, dN14] using this
  · have := accT17_s4 w r h rp hT hdis hl e
    unfold tch17 aV17 aK17 aT17 aN17
    simpa [e, dV14, dK14, dT14, dN14] using this
  · have := accT17_s5 w r h rp hT hdis hl e
    unfold tch17 aV17 aK17 aT17 aN17
    simpa [e, dV14, dK14, dT14, dN14] using this
  · have := accT17_s6 w r h rp hT hdis hl e
    unfold tch17 aV17 aK17 aT17 aN17
    simpa [e, dV14, dK14, dT14, dN14] using this
  · have := accT17_s7 w r h rp hT hdis hl e
    unfold tch17 aV17 aK17 aT17 aN17
    simpa [e, dV14, dK14, dT14, dN14] using this
  · have := accT17_s8 w r h rp hT hdis hl e
    unfold tch17 aV17 aK17 aT17 aN17
    simpa [e, dV14, dK14, dT14, dN14] using this
  · have := accT17_s9 w r h rp hT hdis hl e
    unfold tch17 aV17 aK17 aT17 aN17
    simpa [e, dV14, dK14, dT14, dN14] using this
  · have := accT17_s10 w r h rp hT hdis hl e
    unfold tch17 aV17 aK17 aT17 aN17
    simpa [e, dV14, dK14, dT14, dN14] using this
  · have := accT17_s11 w r h rp hT hdis hl e
    unfold tch17 aV17 aK17 aT17 aN17
    simpa [e, dV14, dK14, dT14, dN14] using this
  · have := accT17_s12 w r h rp hT hdis hl e
    unfold tch17 aV17 aK17 aT17 aN17
    simpa [e, dV14, dK14, dT14, dN14] using this
  · have := accT17_s13 w r h rp hT hdis hl e
    unfold tch17 aV17 aK17 aT17 aN17
    simpa [e, dV14, dK14, dT14, dN14] using this
  · have := accT17_s14 w r h rp hT hdis hl e
    unfold tch17 aV17 aK17 aT17 aN17
    simpa [e, dV14, dK14, dT14, dN14] using this

end

#print axioms accT17_any
end Go.Proofs.YtgdbaaoifnedbaaDoor
