/-
  Layer 7 (litmus): store over states.
  Conditions: those that each theorem states.
-/
import Derived.Test.YtgljgpllooehkaaLit4
namespace Go.Proofs.Ytgljgpllooehkaa
open Go.ChangeShapes Go.WideShapes Go.ChangeAt Go.RowKit

theorem CoreOk.push {c : Core} (h : CoreOk c) (hr : c.buf.length < 4) {a x : Int} (ha0 : 0 ≤ a) (ha3 : a ≤ 3) (hx : digit x) : CoreOk { c with buf := c.buf ++ [(a, x)] } where
  next := h.next
  regs := h.regs
  regd := h.regd
  room := by simp; omega
  bufd q hq := by
    rcases List.mem_append.1 hq with hq | hq
    · exact h.bufd q hq
    · obtain rfl : q = (a, x) := by simpa using hq
      exact ⟨ha0, ha3, hx⟩

theorem push_eq {s : St} {i : Nat} {c : Core} (hc : s.cores[i]? = some c) (p : Int × Int) : pushS i p s = ⟨s.cores.set i { c with buf := c.buf ++ [p] }, s.mem⟩ := by
  simp [pushS, hc]

theorem stL_push {s : St} (h : Shape s) {i : Nat} {c : Core} (hc : s.cores[i]? = some c) (hr : c.buf.length < 4) (a x : Int) :
    stL (pushS i (a, x) s) = (((stL s).set (i * 14 + 6 + c.buf.length * 2) a).set (i * 14 + 6 + c.buf.length * 2 + 1) x).set (i * 14 + 5) ((c.buf.length : Int) + 1) := by
  have hok := h.core i c hc
  have hL := coreL_len hok
  have hi := core_lt h hc
  have h14 := h.flat.2
  have hlen : (s.cores.map coreL).length = 3 := by simp [h.len]
  have k2 : ∀ (L : List Int), L.length = 14 → ∀ X ∈ (s.cores.map coreL).set i L, X.length = 14 := by
    intro L hL X hX
    rcases List.mem_or_eq_of_mem_set hX with hX | rfl
    · exact h14 X hX
    · exact hL
  have at_ : ∀ L : List Int, ((s.cores.map coreL).set i L)[i]? = some L := fun L => List.getElem?_set_self (by omega)
  rw [push_eq hc, stL_join s, Nat.add_assoc (i * 14) 6,
    join_set _ _ i (6 + c.buf.length * 2) (coreL c) _ h14 (by simp [hc]) (by omega), Nat.add_assoc (i * 14) (6 + c.buf.length * 2) 1,
    join_set _ _ i (6 + c.buf.length * 2 + 1) _ _ (k2 _ (by simp [hL])) (at_ _) (by omega), List.set_set,
    join_set _ _ i 5 _ _ (k2 _ (by simp [hL])) (at_ _) (by omega), List.set_set, ← coreL_push hok hr, stL_join]
  simp only [List.map_set]

theorem Shape.push {s : St} (h : Shape s) {i : Nat} {c : Core} (hc : s.cores[i]? = some c) (hr : c.buf.length < 4) {a x : Int} (ha0 : 0 ≤ a) (ha3 : a ≤ 3) (hx : digit x) : Shape (pushS i (a, x) s) := by
  rw [push_eq hc]
  exact h.setCore ((h.core i c hc).push hr ha0 ha3 hx)

theorem store_now (b i : Nat) (s : St) (a x : Int) (w : World) (r : StAt w b s) (h : Shape s) (ha0 : 0 ≤ a) (ha3 : a < 4) :
    Calls Try.prog 58 #[ptr b, .int .i64 (i : Int), .int .i64 a, .int .i64 x, .int .i64 0] w (StP b ⟨s.cores, wrt s.mem (a, x)⟩ w) := by
  have hm : s.mem[a.toNat]? = some (s.mem.getD a.toNat 0) := by
    rw [List.getD_eq_getElem?_getD, List.getElem?_eq_getElem (by rw [h.mem]; omega)]; rfl
  have cm := r.mem h hm
  have f1 := Row.soft r (42 + a.toNat)
  have R := Lib.hid r
  have H := Lib.hid h
  clear r h hm
  unfold ptr
  go_enter Try.func58, Try.ntmps58
  go_wp2
  go_end0
  refine ⟨rfl, ?_, one_put (Only.refl _ _) _ _⟩
  have := row_put R.out (42 + a.toNat) x
  rw [stL_wrt H.out (a, x)] at this
  exact this

set_option maxRecDepth 100000 in
set_option maxHeartbeats 1000000 in
theorem store_room (b i N : Nat) (s : St) (c : Core) (a x : Int) (w : World) (r : StAt w b s) (h : Shape s) (hc : s.cores[i]? = some c) (hN0 : 0 < N) (hN : N ≤ 4) (hr : c.buf.length < N) :
    Calls Try.prog 58 #[ptr b, .int .i64 (i : Int), .int .i64 a, .int .i64 x, .int .i64 (N : Int)] w (StP b (pushS i (a, x) s) w) := by
  have hi := core_lt h hc
  have hok := h.core i c hc
  have i0 : (0 : Int) ≤ (i : Int) := by omega
  have i3 : (i : Int) < 3 := by omega
  have sp := stL_push h hc (by omega) a x
  have c5 := r.core h hc (by omega) (count_at hok)
  obtain ⟨k, hk⟩ : ∃ k, c.buf.length = k := ⟨_, rfl⟩
  rw [hk] at sp c5 hr
  have hL := stL_len h
  have d6 := row_cell r (List.getElem?_eq_getElem (show i * 14 + 6 + k * 2 < (stL s).length by omega))
  have d7 := row_cell r (List.getElem?_eq_getElem (show i * 14 + 6 + k * 2 + 1 < (stL s).length by omega))
  generalize (stL s)[i * 14 + 6 + k * 2] = y6 at d6
  generalize (stL s)[i * 14 + 6 + k * 2 + 1] = y7 at d7
  have g5 := Row.soft r (i * 14 + 5)
  have g6 := Row.soft r (i * 14 + 6 + k * 2)
  have g7 := Row.soft r (i * 14 + 6 + k * 2 + 1)
  have b0 : ((N : Int) == 0) = false := by simp; omega
  have b1 : ((k : Int) == (N : Int)) = false := by simp; omega
  have SP := Lib.hid sp
  have R := Lib.hid r
  clear r h hc hok sp hk hL hi
  unfold ptr
  go_enter Try.func58, Try.ntmps58
  go_wp2
  go_region
  go_wp2
  go_end0
  refine ⟨rfl, ?_, ?_⟩
  · unfold StAt
    rw [SP.out]
    exact (row_put (row_put (row_put R.out _ a) _ x) _ _).drew
  · exact (one_put (one_put (one_put (Only.refl _ _) _ _) _ _) _ _).drew

set_option maxRecDepth 100000 in
set_option maxHeartbeats 1000000 in
theorem store_full (b i N : Nat) (s : St) (c : Core) (a x : Int) (w : World) (r : StAt w b s) (h : Shape s) (hc : s.cores[i]? = some c) (hN0 : 0 < N) (hN : N ≤ 4) (hr : c.buf.length = N) :
    Calls Try.prog 58 #[ptr b, .int .i64 (i : Int), .int .i64 a, .int .i64 x, .int .i64 (N : Int)] w (StP b (pushS i (a, x) (drainS i s)) w) := by
  have hi := core_lt h hc
  have hok := h.core i c hc
  have i0 : (0 : Int) ≤ (i : Int) := by omega
  have i3 : (i : Int) < 3 := by omega
  obtain ⟨p, q, hb⟩ : ∃ p q, c.buf = p :: q := by
    cases e : c.buf with
    | nil => rw [e] at hr; simp at hr; omega
    | cons p q => exact ⟨p, q, rfl⟩
  have hq : q.length + 1 = N := by rw [hb] at hr; simpa using hr
  have dr := drain_any b i s c p q w r h hc hb
  unfold ptr at dr
  have h1 := h.drain i
  have hc1 := drain_core hc hb
  have sp := stL_push h1 hc1 (by simp; omega) a x
  have c5 := r.core h hc (by omega) (count_at hok)
  have ok1 := count_at (h1.core i _ hc1)
  simp only at sp ok1
  obtain ⟨k, hk⟩ : ∃ k, q.length = k := ⟨_, rfl⟩
  rw [hk] at sp ok1 hq
  rw [hr] at c5
  have b0 : ((N : Int) == 0) = false := by simp; omega
  have hk4 : k < 4 := by omega
  have SP := Lib.hid sp
  have DR := Lib.hid dr
  have H1 := Lib.hid h1
  have C1 := Lib.hid hc1
  have OK1 := Lib.hid ok1
  clear r h hc hok sp hk dr h1 hc1 ok1 hr hb
  unfold ptr
  go_enter Try.func58, Try.ntmps58
  go_wp2_with (go_at_call 45; refine DR.out.mono ?_; rintro e w1 ⟨rfl, hr1, ho1⟩)
  have e5 := hr1.core H1.out C1.out (by omega) OK1.out
  have hL := stL_len H1.out
  have d6 := row_cell hr1 (List.getElem?_eq_getElem (show i * 14 + 6 + k * 2 < (stL (drainS i s)).length by omega))
  have d7 := row_cell hr1 (List.getElem?_eq_getElem (show i * 14 + 6 + k * 2 + 1 < (stL (drainS i s)).length by omega))
  generalize (stL (drainS i s))[i * 14 + 6 + k * 2] = y6 at d6
  generalize (stL (drainS i s))[i * 14 + 6 + k * 2 + 1] = y7 at d7
  have g5 := Row.soft hr1 (i * 14 + 5)
  have g6 := Row.soft hr1 (i * 14 + 6 + k * 2)
  have g7 := Row.soft hr1 (i * 14 + 6 + k * 2 + 1)
  have R1 := Lib.hid hr1
  have O1 := Lib.hid ho1
  clear hr1 ho1 c5 hL hi hq hN0 hN b0
  go_wp2
  go_region
  go_wp2
  go_end0
  refine ⟨rfl, ?_, ?_⟩
  · unfold StAt
    rw [SP.out]
    exact (row_put (row_put (row_put R1.out _ a) _ x) _ _).drew
  · exact (one_put (one_put (one_put O1.out _ _) _ _) _ _).drew

theorem store_any (b i N : Nat) (s : St) (c : Core) (a x : Int) (w : World) (r : StAt w b s) (h : Shape s) (hc : s.cores[i]? = some c) (hN : N ≤ 4) (hr : c.buf.length ≤ N) (ha0 : 0 ≤ a) (ha3 : a < 4) :
    Calls Try.prog 58 #[ptr b, .int .i64 (i : Int), .int .i64 a, .int .i64 x, .int .i64 (N : Int)] w (StP b (storeS N i (a, x) s) w) := by
  have hbuf : bufOf i s = c.buf := by simp [bufOf, hc]
  unfold storeS
  by_cases h0 : N = 0
  · subst h0
    rw [if_pos rfl]
    exact store_now b i s a x w r h ha0 ha3
  · rw [if_neg h0, hbuf]
    by_cases h1 : c.buf.length = N
    · rw [if_pos h1]
      exact store_full b i N s c a x w r h hc (by omega) hN h1
    · rw [if_neg h1]
      exact store_room b i N s c a x w r h hc (by omega) hN (by omega)

#print axioms store_any
end Go.Proofs.Ytgljgpllooehkaa
