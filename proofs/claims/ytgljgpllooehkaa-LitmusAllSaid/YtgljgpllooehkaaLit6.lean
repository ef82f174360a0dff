/-
  Layer 7 (litmus): execute over states.
  Conditions: those that each theorem states.
-/
import Derived.Test.YtgljgpllooehkaaLit5
import Derived.Deep.RegionWith
namespace Go.Proofs.Ytgljgpllooehkaa
open Go.ChangeShapes Go.WideShapes Go.ChangeAt Go.RowKit

theorem next_eq {s : St} {i : Nat} {c : Core} (hc : s.cores[i]? = some c) : nextS i s = ⟨s.cores.set i { c with next := c.next + 1 }, s.mem⟩ := by
  simp [nextS, hc]

theorem reg_eq {s : St} {i : Nat} {c : Core} (hc : s.cores[i]? = some c) (r x : Int) : regS i r x s = ⟨s.cores.set i { c with regs := c.regs.set r.toNat x }, s.mem⟩ := by
  simp [regS, hc]

theorem next_core {s : St} {i : Nat} {c : Core} (hc : s.cores[i]? = some c) : (nextS i s).cores[i]? = some { c with next := c.next + 1 } := by
  rw [next_eq hc]; exact set_at' hc _

theorem flush_core {s : St} {i : Nat} {c : Core} (hc : s.cores[i]? = some c) : (flushS i s).cores[i]? = some { c with buf := [] } := by
  rw [flush_eq hc]; exact set_at' hc _

theorem Shape.next {s : St} (h : Shape s) {i : Nat} {c : Core} (hc : s.cores[i]? = some c) (hn : c.next ≤ 4) : Shape (nextS i s) := by
  rw [next_eq hc]
  have hok := h.core i c hc
  exact h.setCore ⟨by simp; omega, hok.regs, hok.regd, hok.room, hok.bufd⟩

theorem Shape.reg {s : St} (h : Shape s) {i : Nat} {c : Core} (hc : s.cores[i]? = some c) (r : Int) {x : Int} (hx : digit x) : Shape (regS i r x s) := by
  rw [reg_eq hc]
  have hok := h.core i c hc
  refine h.setCore ⟨hok.next, by simp [hok.regs], fun y hy => ?_, hok.room, hok.bufd⟩
  rcases List.mem_or_eq_of_mem_set hy with hy | rfl
  · exact hok.regd y hy
  · exact hx

theorem foldl_wrt_ok : ∀ (q : List (Int × Int)) (m : List Int), (∀ p ∈ q, digit p.2) → (∀ x ∈ m, digit x) → (q.foldl wrt m).length = m.length ∧ ∀ x ∈ q.foldl wrt m, digit x
  | [], m, _, hm => ⟨rfl, hm⟩
  | p :: q, m, hq, hm => by
    have ih := foldl_wrt_ok q (wrt m p) (fun y hy => hq y (List.mem_cons_of_mem _ hy)) (wrt_digit hm (hq p (by simp)))
    exact ⟨by rw [List.foldl_cons, ih.1, wrt_len], ih.2⟩

theorem Shape.flush {s : St} (h : Shape s) {i : Nat} {c : Core} (hc : s.cores[i]? = some c) : Shape (flushS i s) := by
  rw [flush_eq hc]
  have hok := h.core i c hc
  have hf := foldl_wrt_ok c.buf s.mem (fun p hp => (hok.bufd p hp).2.2) h.memd
  have h1 : Shape ⟨s.cores, c.buf.foldl wrt s.mem⟩ := ⟨h.len, by rw [hf.1]; exact h.mem, hf.2, h.core⟩
  exact h1.setCore ⟨hok.next, hok.regs, hok.regd, by simp, fun q hq => by simp at hq⟩

theorem mem_digit {s : St} (h : Shape s) {a : Int} (ha0 : 0 ≤ a) (ha3 : a < 4) : s.mem[a.toNat]? = some (s.mem.getD a.toNat 0) ∧ digit (s.mem.getD a.toNat 0) := by
  have hlt : a.toNat < s.mem.length := by rw [h.mem]; omega
  rw [List.getD_eq_getElem?_getD, List.getElem?_eq_getElem hlt]
  exact ⟨rfl, h.memd _ (List.getElem_mem hlt)⟩

theorem sees_digit {s : St} (h : Shape s) {i : Nat} {c : Core} (hc : s.cores[i]? = some c) {a : Int} (ha0 : 0 ≤ a) (ha3 : a < 4) : digit (sees c.buf s.mem a) := by
  unfold sees
  have hb := (h.core i c hc).bufd
  have : ∀ (q : List (Int × Int)) (x : Int), (∀ p ∈ q, digit p.2) → digit x → digit (q.foldl (fun x p => if p.1 = a then p.2 else x) x) := by
    intro q
    induction q with
    | nil => intro x _ hx; exact hx
    | cons p q ih =>
      intro x hq hx
      rw [List.foldl_cons]
      refine ih _ (fun y hy => hq y (List.mem_cons_of_mem _ hy)) ?_
      split
      · exact hq p (by simp)
      · exact hx
  exact this _ _ (fun p hp => (hb p hp).2.2) (mem_digit h ha0 ha3).2

theorem StAt.next {w : World} {b : Nat} {s : St} (r : StAt w b s) (h : Shape s) {i : Nat} {c : Core} (hc : s.cores[i]? = some c) : StAt (w.setCell ⟨b, i * 14, none⟩ (.int .i64 ((c.next : Int) + 1))) b (nextS i s) := by
  have := row_put r (i * 14) ((c.next : Int) + 1)
  have e := stL_set h hc (j := 0) (by omega) (coreL_next (c := c))
  rw [Nat.add_zero] at e
  rw [e, ← next_eq hc] at this
  exact this

theorem StAt.reg {w : World} {b : Nat} {s : St} (r : StAt w b s) (h : Shape s) {i : Nat} {c : Core} (hc : s.cores[i]? = some c) {g : Int} (hg0 : 0 ≤ g) (hg3 : g < 4) (x : Int) : StAt (w.setCell ⟨b, i * 14 + 1 + g.toNat, none⟩ (.int .i64 x)) b (regS i g x s) := by
  have := row_put r (i * 14 + 1 + g.toNat) x
  have e := stL_set h hc (j := 1 + g.toNat) (v := x) (by omega) (coreL_reg (h.core i c hc) (r := g.toNat) (by omega) x)
  rw [← Nat.add_assoc] at e
  rw [e, ← reg_eq hc] at this
  exact this

theorem StAt.write {w : World} {b : Nat} {s : St} (r : StAt w b s) (h : Shape s) (a x : Int) : StAt (w.setCell ⟨b, 42 + a.toNat, none⟩ (.int .i64 x)) b ⟨s.cores, wrt s.mem (a, x)⟩ := by
  have := row_put r (42 + a.toNat) x
  rw [stL_wrt h (a, x)] at this
  exact this

theorem StAt.only {S : Nat → Prop} {w w' : World} {b : Nat} {s : St} (r : StAt w b s) (h : Only S w w') (hn : ¬ S b) : StAt w' b s := Row.only r h hn
theorem StAt.below {w w' : World} {b : Nat} {s : St} (r : StAt w b s) (h : Below w.heap.size w w') : StAt w' b s := Row.below r h
theorem StAt.drew {w : World} {b : Nat} {s : St} (r : StAt w b s) : StAt w.drew b s := r

/-- The state and the operation's own block, behind the first statement of execute. -/
structure ExAt (w0 w : World) (b ob : Nat) (o : Opn) (s : St) : Prop where
  st : StAt w b s
  op : Row w ob 40 [.int .i64 o.kind, .int .i64 o.addr, .int .i64 o.word, .int .i64 o.reg]
  ne : ob ≠ b
  new : w0.heap.size ≤ ob
  only : Only (· = b) w0 w

set_option maxRecDepth 100000 in
set_option maxHeartbeats 1000000 in
theorem exec_any (b i N : Nat) (s : St) (c : Core) (o : Opn) (w : World) (r : StAt w b s) (h : Shape s) (hc : s.cores[i]? = some c) (hN : N ≤ 4) (hr : c.buf.length ≤ N) (hn : c.next ≤ 4) (ho : okOp o) :
    Calls Try.prog 44 #[ptr b, .int .i64 (i : Int), .agg #[.int .i64 o.kind, .int .i64 o.addr, .int .i64 o.word, .int .i64 o.reg], .int .i64 (N : Int)] w (StP b (execS N i o s) w) := by
  have hi := core_lt h hc
  have i0 : (0 : Int) ≤ (i : Int) := by omega
  have i3 : (i : Int) < 3 := by omega
  obtain ⟨k1, k4, a0, a3, g0, g3, x0, x9⟩ := ho
  have c0 := r.core h hc (j := 0) (by omega) (next_at c)
  rw [Nat.add_zero] at c0
  have f0 := Row.soft r (i * 14)
  have hbl := Row.lt r
  have hbn : b ≠ w.heap.size := by omega
  have hnx : ((c.next : Int)) ≤ 4 := by omega
  have h1 := h.next hc hn
  have hc1 := next_core hc
  have m1 : ExAt w (((w.setCell ⟨b, i * 14, none⟩ (.int .i64 ((c.next : Int) + 1))).alloc (.cells #[.int .i64 o.kind, .int .i64 o.addr, .int .i64 o.word, .int .i64 o.reg] 40))).drew b w.heap.size o (nextS i s) :=
    ⟨((r.next h hc).below (below_al _ _)).drew, by have := Row.new (w.setCell ⟨b, i * 14, none⟩ (.int .i64 ((c.next : Int) + 1))) 40 #[.int .i64 o.kind, .int .i64 o.addr, .int .i64 o.word, .int .i64 o.reg]; simpa [World.setCell] using this.drew, by omega, Nat.le_refl _, ((one_put (Only.refl _ _) _ _).alloc _).drew⟩
  have hbuf : bufOf i s = c.buf := by simp [bufOf, hc]
  have hmem : (nextS i s).mem = s.mem := by rw [next_eq hc]
  have HB := Lib.hid hbuf
  have HM := Lib.hid hmem
  have M1 := Lib.hid m1
  have H1 := Lib.hid h1
  have C1 := Lib.hid hc1
  obtain ⟨s1, es1⟩ : ∃ s1, nextS i s = s1 := ⟨_, rfl⟩
  rw [es1] at M1 H1 C1 HM
  have E1 := Lib.hid es1
  clear r h hc m1 h1 hc1 hbuf hmem es1
  obtain ⟨kind, addr, word, reg⟩ := o
  dsimp only at *
  obtain ⟨W1, hW1⟩ : ∃ W1, (((w.setCell ⟨b, i * 14, none⟩ (.int .i64 ((c.next : Int) + 1))).alloc (.cells #[.int .i64 kind, .int .i64 addr, .int .i64 word, .int .i64 reg] 40))).drew = W1 := ⟨_, rfl⟩
  rw [hW1] at M1
  have HW1 := Lib.hid hW1
  clear hW1
  unfold ptr
  go_enter Try.func44, Try.ntmps44
  go_wp2
  go_region
  rw [HW1.out]
  obtain ⟨ob, hob⟩ : ∃ ob, w.heap.size = ob := ⟨_, rfl⟩
  rw [hob] at M1 ⊢
  have q0 := M1.out.op.cell 0
  have q1 := M1.out.op.cell 1
  have q2 := M1.out.op.cell 2
  have q3 := M1.out.op.cell 3
  simp only [List.getElem?_cons_zero, List.getElem?_cons_succ] at q0 q1 q2 q3
  have HOB := Lib.hid hob
  have hob' := M1.out.ne
  have hbl1 := Row.lt M1.out.st
  have hol1 := M1.out.op.lt
  clear hob c0 f0 hbl hbn hnx
  rcases (show kind = 1 ∨ kind = 2 ∨ kind = 3 ∨ kind = 4 by omega) with rfl | rfl | rfl | rfl
  · have LD := Lib.hid (fun W (hb : Below W1.heap.size W1 W) => load_any b i s1 _ addr W (M1.out.st.below hb) H1.out C1.out a0 (by omega))
    have fr := Row.soft M1.out.st (i * 14 + 1 + reg.toNat)
    have hL := stL_len H1.out
    have cr := row_cell M1.out.st (List.getElem?_eq_getElem (show i * 14 + 1 + reg.toNat < (stL s1).length by omega))
    generalize (stL s1)[i * 14 + 1 + reg.toNat] = y6 at cr
    unfold ptr at LD
    go_wp2
    go_region_with (first | (go_at_call 57; refine (LD.out _ (Below.refl _ _).drew).mono ?_; rintro e w2 ⟨rfl, hb2⟩; have p3 := (hb2.cell (p := ⟨ob, 3, none⟩) hol1).trans q3; have pr := (hb2.cell (p := ⟨b, i * 14 + 1 + reg.toNat, none⟩) hbl1).trans cr; have pf := (hb2.frozen (p := ⟨b, i * 14 + 1 + reg.toNat, none⟩) hbl1).trans fr))
    all_goals
      go_wp2
      go_end0
      have hbd : Below W1.heap.size W1 w2 := (Below.refl _ _).drew.trans hb2
      refine ⟨rfl, ?_, one_put (M1.out.only.then_below hbd) _ _⟩
      have := (M1.out.st.below hbd).reg H1.out C1.out g0 (show reg < 4 by omega) (sees c.buf s1.mem addr)
      unfold execS
      rw [if_pos rfl, E1.out, HB.out, ← HM.out]
      exact this
  · have ST := Lib.hid (store_any b i N s1 _ addr word W1 M1.out.st H1.out C1.out hN hr a0 (by omega))
    unfold ptr at ST
    go_wp2_with (go_at_call 58; refine ST.out.mono ?_; rintro e w2 ⟨rfl, hr2, ho2⟩)
    go_end0
    refine ⟨rfl, ?_, M1.out.only.trans ho2⟩
    unfold execS
    rw [if_neg (by simp), if_pos rfl, E1.out]
    exact hr2
  · have DA := Lib.hid (drainAll_any b i s1 _ W1 M1.out.st H1.out C1.out)
    unfold ptr at DA
    go_wp2_with (go_at_call 59; refine DA.out.mono ?_; rintro e w2 ⟨rfl, hr2, ho2⟩)
    go_end0
    refine ⟨rfl, ?_, M1.out.only.trans ho2⟩
    unfold execS
    rw [if_neg (by simp), if_neg (by simp), if_pos rfl, E1.out]
    exact hr2
  · have DA := Lib.hid (drainAll_any b i s1 _ W1 M1.out.st H1.out C1.out)
    unfold ptr at DA
    go_wp2_with (go_at_call 59; refine DA.out.mono ?_; rintro e w2 ⟨rfl, hr2, ho2⟩)
    have hop := M1.out.op.only ho2 hob'
    have u1 := hop.cell 1
    have u2 := hop.cell 2
    have u3 := hop.cell 3
    simp only [List.getElem?_cons_zero, List.getElem?_cons_succ] at u1 u2 u3
    have ht := H1.out.flush C1.out
    have hct := flush_core C1.out
    obtain ⟨t, et⟩ : ∃ t, flushS i s1 = t := ⟨_, rfl⟩
    rw [et] at hr2 ht hct
    have cm := hr2.mem ht (mem_digit ht a0 (by omega)).1
    have dm := (mem_digit ht a0 (by omega)).2
    obtain ⟨y, hy⟩ : ∃ y, t.mem.getD addr.toNat 0 = y := ⟨_, rfl⟩
    rw [hy] at cm dm
    have fr := Row.soft hr2 (i * 14 + 1 + reg.toNat)
    have hL := stL_len ht
    have cr := row_cell hr2 (List.getElem?_eq_getElem (show i * 14 + 1 + reg.toNat < (stL t).length by omega))
    generalize (stL t)[i * 14 + 1 + reg.toNat] = y6 at cr
    have R2 := Lib.hid hr2
    have O2 := Lib.hid (M1.out.only.trans ho2)
    have OP2 := Lib.hid hop
    have HT := Lib.hid ht
    have CT := Lib.hid hct
    have ET := Lib.hid et
    have HY := Lib.hid hy
    have DM := Lib.hid dm
    clear hr2 ho2 hop ht hct et hy dm hL q0 q1 q2 q3
    go_wp2
    go_region
    have hr3 := (R2.out.reg HT.out CT.out g0 (show reg < 4 by omega) y).drew
    have h3 := HT.out.reg CT.out reg DM.out
    have o3 := (one_put O2.out (i * 14 + 1 + reg.toNat) (.int .i64 y)).drew
    have op3 := (OP2.out.far (p := ⟨b, i * 14 + 1 + reg.toNat, none⟩) hob' (.int .i64 y)).drew
    generalize (w2.setCell ⟨b, i * 14 + 1 + reg.toNat, none⟩ (.int .i64 y)).drew = w3 at hr3 o3 op3 ⊢
    have v1 := op3.cell 1
    have v2 := op3.cell 2
    simp only [List.getElem?_cons_zero, List.getElem?_cons_succ] at v1 v2
    have cm3 := hr3.mem h3 (mem_digit h3 a0 (by omega)).1
    have fm3 := Row.soft hr3 (42 + addr.toNat)
    generalize (regS i reg y t).mem.getD addr.toNat 0 = y8 at cm3
    have R3 := Lib.hid hr3
    have O3 := Lib.hid o3
    have H3 := Lib.hid h3
    clear hr3 o3 op3 h3 u1 u2 u3 cm fr cr
    go_wp2
    go_region
    go_wp2
    go_end0
    refine ⟨rfl, ?_, (one_put O3.out _ _).drew⟩
    have := (R3.out.write H3.out addr word).drew
    unfold execS
    rw [if_neg (by simp), if_neg (by simp), if_neg (by simp), if_pos rfl, E1.out, ET.out]
    dsimp only
    rw [HY.out]
    exact this

#print axioms exec_any
end Go.Proofs.Ytgljgpllooehkaa
