/-
  Layer 7 (litmus), the reference: step.
  Layer 7 (litmus), the reference: step, a swap.
  Layer 7 (litmus), the reference: step, a load.
  Layer 7 (litmus), the reference: step, a store.
  Layer 7 (litmus), the reference: step, a store into a full buffer.
  Conditions: those that each theorem states.
-/
import Derived.Test.YtgljgpllooehkaaRLit5
import Derived.Test.YtgljgpllooehkaaLit8
import Derived.Deep.QuietTactic
import Derived.BigQuiet
namespace Go.Proofs.Ytgljgpllooehkaa
open Go.ChangeShapes Go.WideShapes Go.ChangeAt Go.RowKit

/-- What step keeps: the state, the variable of its result, the operation. -/
def SpAt (w wr : World) (B B3 : Nat) (g : Nat → Int) (K a x r : Int) : Prop :=
  DrAt w wr B g ∧ Row wr B3 48 [.int .i64 K, .int .i64 a, .int .i64 x, .int .i64 r] ∧ B < B3 ∧ B3 < wr.heap.size

theorem SpAt.put {w wr : World} {B B3 : Nat} {g : Nat → Int} {K a x r : Int} (h : SpAt w wr B B3 g K a x r) (k : Nat) (u : Int) : SpAt w (wr.setCell ⟨w.heap.size, k, none⟩ (.int .i64 u)) B B3 (upd g k u) K a x r :=
  ⟨h.1.put k u, h.2.1.far (p := ⟨w.heap.size, k, none⟩) (by have := h.1.2.2.2; have := h.2.2.1; show B3 ≠ w.heap.size; omega) _, h.2.2.1, by simpa [World.setCell] using h.2.2.2⟩
theorem SpAt.drew {w wr : World} {B B3 : Nat} {g : Nat → Int} {K a x r : Int} (h : SpAt w wr B B3 g K a x r) : SpAt w wr.drew B B3 g K a x r := ⟨h.1.drew, h.2.1, h.2.2⟩
theorem SpAt.drewN {w wr : World} {B B3 : Nat} {g : Nat → Int} {K a x r : Int} (h : SpAt w wr B B3 g K a x r) (n : Nat) : SpAt w (wr.drewN n) B B3 g K a x r := ⟨⟨h.1.1, h.1.2.1, below_dn h.1.2.2.1 n, h.1.2.2.2⟩, h.2.1, h.2.2⟩
theorem SpAt.ext {w wr : World} {B B3 : Nat} {g g' : Nat → Int} {K a x r : Int} (h : SpAt w wr B B3 g K a x r) (e : ∀ k, k < 46 → g k = g' k) : SpAt w wr B B3 g' K a x r := ⟨h.1.ext e, h.2⟩
theorem SpAt.retake {w wr W w' : World} {B B3 : Nat} {g g' : Nat → Int} {K a x r : Int} (h : SpAt w wr B B3 g K a x r) (hb : Below wr.heap.size wr W) (hr : Row w' w.heap.size 69 (ints (rL g'))) (ho : Only (· = w.heap.size) W w') : SpAt w w' B B3 g' K a x r :=
  ⟨h.1.retake hb hr ho, (h.2.1.below hb).only ho (fun e => by have := h.1.2.2.2; have := h.2.2.1; omega), h.2.2.1, Nat.lt_of_lt_of_le h.2.2.2 (Nat.le_trans hb.size ho.size)⟩
theorem SpAt.cell {w wr : World} {B B3 : Nat} {g : Nat → Int} {K a x r : Int} (h : SpAt w wr B B3 g K a x r) {k : Nat} (hk : k < 46) : wr.cell? ⟨w.heap.size, k, none⟩ = some (.int .i64 (g k)) := h.1.1.cell hk
theorem SpAt.soft {w wr : World} {B B3 : Nat} {g : Nat → Int} {K a x r : Int} (h : SpAt w wr B B3 g K a x r) (k : Nat) : wr.frozen? ⟨w.heap.size, k, none⟩ = false := h.1.1.soft k
theorem SpAt.row {w wr : World} {B B3 : Nat} {g : Nat → Int} {K a x r : Int} (h : SpAt w wr B B3 g K a x r) : Row wr w.heap.size 69 (ints (rL g)) := h.1.1
theorem SpAt.zeros {w wr : World} {B B3 : Nat} {g : Nat → Int} {K a x r : Int} (h : SpAt w wr B B3 g K a x r) : Row wr B 69 (ints (List.replicate 46 0)) := h.1.2.1
theorem SpAt.op {w wr : World} {B B3 : Nat} {g : Nat → Int} {K a x r : Int} (h : SpAt w wr B B3 g K a x r) : wr.cell? ⟨B3, 0, none⟩ = some (.int .i64 K) ∧ wr.cell? ⟨B3, 1, none⟩ = some (.int .i64 a) ∧ wr.cell? ⟨B3, 2, none⟩ = some (.int .i64 x) ∧ wr.cell? ⟨B3, 3, none⟩ = some (.int .i64 r) :=
  ⟨h.2.1.cell 0, h.2.1.cell 1, h.2.1.cell 2, h.2.1.cell 3⟩
theorem SpAt.done {w wr w' : World} {B B3 : Nat} {g : Nat → Int} {K a x r : Int} (h : SpAt w wr B B3 g K a x r) (ho : Only (· = B) wr w') : Below w.heap.size w w' :=
  Only.below h.1.2.2.1 ho h.1.2.2.1.size (fun k hk e => by have := h.1.2.2.2; omega)

theorem rcell_wrt2 {s : St} {a : Nat} {x : Int} (hs : s.mem.length = 4) (ha : a < 4) : ∀ k, k < 46 → upd (rcell s) (15 + a) x k = rcell ⟨s.cores, wrt s.mem ((a : Int), x)⟩ k := by
  intro k _
  unfold upd rcell coreOf wrt
  simp only [Int.toNat_natCast]
  by_cases e : k = 15 + a
  · rw [if_pos e, if_neg (by omega), if_neg (by omega), if_pos (by omega), show k - 15 = a by omega, List.getElem?_set_self (by rw [hs]; exact ha)]; rfl
  · rw [if_neg e]
    split
    · rfl
    · split
      · rfl
      · split
        · rw [List.getElem?_set_ne (by omega)]
        · rfl

theorem st_sizes : ∀ g, (Try.prog.info? 69).map (·.size) = some (ints (rL g)).length := fun g => (rst_size).trans (congrArg some (rL_ints_len g).symm)
theorem st_lens : ∀ g, (ints (List.replicate 46 0)).length = (ints (rL g)).length := fun g => by rw [rL_ints_len, ints_len, List.length_replicate]

set_option linter.unusedVariables false in
set_option maxRecDepth 100000 in
set_option maxHeartbeats 4000000 in
theorem rstep_fence (N i : Nat) (s : St) (v : Value) (p : List (List Opn)) (c : Core) (l : List Opn) (x : Int) (a r : Nat) (w : World) (hs : Shape s) (hi : i < 3) (hc : s.cores[i]? = some c) (hp : Prg w v p) (hl : p[i]? = some l) (ho : l[c.next]? = some ⟨3, a, x, r⟩) (ha : a < 4) (hr : r < 4) (hroom : c.buf.length ≤ N) (hN : N ≤ 4) (hn4 : c.next ≤ 4) :
    Calls Try.prog 29 #[v, .int .i64 (N : Int), .agg (ints (rSt s)).toArray, .int .i64 (i : Int)] w (RetSt (rcell (flushS i (nextS i s))) w) := by
  have i0 : (0 : Int) ≤ (i : Int) := by omega
  have i3 : (i : Int) < 3 := by omega
  have a0 : (0 : Int) ≤ (a : Int) := by omega
  have a3 : (a : Int) < 4 := by omega
  have HP := Lib.hid hp
  obtain ⟨ad, cc, A', c', rfl, q1, hrec⟩ := hp.at_ hl
  have hip : i < p.length := (List.getElem?_eq_some_iff.1 hl).1
  have hnl : c.next < l.length := (List.getElem?_eq_some_iff.1 ho).1
  obtain ⟨ad2, c2, k0, k1, k2, k3, hzs, hv2, hzb, o0, o1, o2, o3⟩ := Recs.four hrec (Below.refl _ _) (by rw [List.length_map]; exact hnl)
  rw [List.length_map] at hv2
  injection hv2 with f1 _ f3
  subst f1 f3
  have hk : 3 = k0 ∧ (a : Int) = k1 ∧ x = k2 ∧ (r : Int) = k3 := by
    rw [List.getElem?_map, ho] at hzs
    simpa [opL] using hzs
  obtain ⟨rfl, rfl, rfl, rfl⟩ := hk
  obtain ⟨m, hm⟩ : ∃ m, p.length = m := ⟨_, rfl⟩
  obtain ⟨n, hn⟩ : ∃ n, l.length = n := ⟨_, rfl⟩
  obtain ⟨nx, hnx⟩ : ∃ n, c.next = n := ⟨_, rfl⟩
  rw [hm] at hip ⊢
  rw [hn] at hnl q1
  rw [hnx] at hnl o0 o1 o2 o3
  have HNX := Lib.hid hnx
  have HC := Lib.hid hc
  have HS := Lib.hid hs
  have hpos := rcell_pos s hi
  rw [coreOf_some hc, hnx] at hpos
  have HPOS := Lib.hid hpos
  have ip : (i : Int) < (m : Int) := by omega
  have n0 : (0 : Int) ≤ (nx : Int) := by omega
  have n1 : (nx : Int) < (n : Int) := by omega
  have hnb : (nx : Int) ≤ 5 := by have := (hs.core i c hc).next; omega
  have KEEP := Lib.hid (fun W (hb : Below w.heap.size w W) => (show W.cell? (ad.add i) = some (.slice (some ad2) n c') ∧ W.cell? (ad2.add (nx * 4)) = some (.int .i64 3) ∧ W.cell? ⟨(ad2.add (nx * 4)).block, (ad2.add (nx * 4)).off + 1, none⟩ = some (.int .i64 (a : Int)) ∧ W.cell? ⟨(ad2.add (nx * 4)).block, (ad2.add (nx * 4)).off + 2, none⟩ = some (.int .i64 x) ∧ W.cell? ⟨(ad2.add (nx * 4)).block, (ad2.add (nx * 4)).off + 3, none⟩ = some (.int .i64 (r : Int)) from
    ⟨(hb.cell (World.block_lt_of_cell? w _ q1)).trans q1, (hb.cell (World.block_lt_of_cell? w _ o0)).trans o0, (hb.cell (World.block_lt_of_cell? w _ o1)).trans o1, (hb.cell (World.block_lt_of_cell? w _ o2)).trans o2, (hb.cell (World.block_lt_of_cell? w _ o3)).trans o3⟩))
  have SZ := Lib.hid st_sizes
  have ZL := Lib.hid st_lens
  clear hs hc hp hl ho hrec hzs hzb q1 o0 o1 o2 o3 hm hn hnx hpos HP
  unfold rSt
  go_enter Try.func29, Try.ntmps29
  go_wp2_with (first
    | ((with_reducible refine box_walk rfl 69 (.tmp 2) rfl (ints (rL (rcell s))) rfl ?_); intro w1 r1 b1 z1; have R1 := Lib.hid (show RAt w1 w.heap.size (rcell s) from r1); have B1 := Lib.hid b1; have hlt1 := r1.lt; clear r1 b1 z1)
    | ((with_reducible refine alloc_walk (o := ⟨some 8, _, _, _, _, _⟩) rfl 69 rfl _ rst_zero ?_); intro w2 r2 b2 z2; have D2 := Lib.hid (show DrAt w w2 w1.heap.size (rcell s) from ⟨R1.out.below b2, r2, below_on B1.out b2, hlt1⟩); have hlt2 := r2.lt; clear r2 b2 z2)
    | fail)
  obtain ⟨q1, o0, o1, o2, o3⟩ := KEEP.out w2 D2.out.2.2.1
  have cp : w2.cell? ⟨w.heap.size, i, none⟩ = some (.int .i64 (nx : Int)) := (D2.out.1.cell (k := i) (by omega)).trans (by rw [HPOS.out])
  have l1 := World.block_lt_of_cell? w2 _ q1
  have l2 := World.block_lt_of_cell? w2 _ o0
  have l3 : w.heap.size < w2.heap.size := D2.out.1.lt
  go_region
  have D3 := Lib.hid (show SpAt w (w2.alloc (.cells #[.int .i64 3, .int .i64 (a : Int), .int .i64 x, .int .i64 (r : Int)] 48)).drew w1.heap.size w2.heap.size (rcell s) 3 (a : Int) x (r : Int) from
    ⟨⟨D2.out.1.below (below_al _ _).drew, D2.out.2.1.below (below_al _ _).drew, below_on D2.out.2.2.1 (below_al _ _).drew, D2.out.2.2.2⟩, Row.new w2 48 #[.int .i64 3, .int .i64 (a : Int), .int .i64 x, .int .i64 (r : Int)], hlt2, by show w2.heap.size < (w2.alloc _).heap.size; simp⟩)
  generalize (w2.alloc (.cells #[.int .i64 3, .int .i64 (a : Int), .int .i64 x, .int .i64 (r : Int)] 48)).drew = w3 at D3 ⊢
  generalize w2.heap.size = B3 at D3 ⊢
  generalize w1.heap.size = B at D3 ⊢
  clear q1 o0 o1 o2 o3 cp l1 l2 l3 D2 R1 B1 hlt1 hlt2 KEEP
  have e0 : w3.cell? ⟨w.heap.size, i, none⟩ = some (.int .i64 (nx : Int)) := (D3.out.cell (k := i) (by omega)).trans (by rw [HPOS.out])
  have ef := D3.out.soft i
  have D4 := Lib.hid ((D3.out.put i ((nx : Int) + 1)).ext (g' := rcell (nextS i s)) (fun k hk => by have := rcell_next HC.out hi k hk; rw [HNX.out] at this; exact this))
  have HSN := Lib.hid (HS.out.next HC.out hn4)
  have HCN : Hid ((nextS i s).cores[i]? = some { c with next := c.next + 1 }) := Lib.hid (by rw [rnext_eq HC.out]; exact List.getElem?_set_self (List.getElem?_eq_some_iff.1 HC.out).1)
  obtain ⟨k0, k1, k2, k3⟩ := D4.out.op
  have R4 := Lib.hid D4.out.row
  have hB3 : B3 ≠ w.heap.size := by have := D3.out.1.2.2.2; have := D3.out.2.2.1; omega
  clear hn4
  have AL := Lib.hid (rall_any i (nextS i s) (w3.setCell ⟨w.heap.size, i, none⟩ (.int .i64 ((nx : Int) + 1))) HSN.out hi)
  unfold rSt at AL
  have ZT : Hid ((ints (rL (rcell (nextS i s)))).length = (ints (rL (rcell (flushS i (nextS i s))))).length) := Lib.hid (by rw [rL_ints_len, rL_ints_len])
  go_wp2_with (first
    | (with_reducible refine loadRow_walk rfl 69 (.tmp 6) rfl w.heap.size rfl (ints (rL (rcell (nextS i s)))) rst_struct (SZ.out _) 69 R4.out ?_)
    | (go_at_call 41; refine AL.out.mono ?_; rintro e w5 ⟨rfl, hb5⟩; have B5 := Lib.hid hb5; have R5 := Lib.hid (R4.out.below hb5); clear hb5)
    | ((with_reducible refine storeRow_walk rfl 69 (.tmp 6) (.tmp 117) rfl w.heap.size rfl (ints (rL (rcell (flushS i (nextS i s))))) rfl (SZ.out _) 69 (ints (rL (rcell (nextS i s)))) R5.out ZT.out (ints_one _) ?_); (intro w7 r7 o7 z7; have D7 := Lib.hid (D4.out.retake B5.out r7 o7); clear r7 o7 z7))
    | (with_reducible refine loadRow_walk rfl 69 (.tmp 6) rfl w.heap.size rfl (ints (rL (rcell (flushS i (nextS i s))))) rst_struct (SZ.out _) 69 D7.out.row ?_)
    | ((with_reducible refine storeRow_walk rfl 69 (.tmp 8) (.tmp 141) rfl B rfl (ints (rL (rcell (flushS i (nextS i s))))) rfl (SZ.out _) 69 (ints (List.replicate 46 0)) D7.out.zeros (ZL.out _) (ints_one _) ?_); (intro w8 r8 o8 z8; have R8 := Lib.hid r8; have B8 := Lib.hid (D7.out.done o8); clear r8 o8 z8)))
  refine bodyPost_ret (results_row Try.results29 rfl rst_struct (SZ.out _) R8.out) rfl ⟨rfl, B8.out⟩

set_option linter.unusedVariables false in
set_option maxRecDepth 100000 in
set_option maxHeartbeats 4000000 in
theorem rstep_swap (N i : Nat) (s : St) (v : Value) (p : List (List Opn)) (c : Core) (l : List Opn) (x : Int) (a r : Nat) (w : World) (hs : Shape s) (hi : i < 3) (hc : s.cores[i]? = some c) (hp : Prg w v p) (hl : p[i]? = some l) (ho : l[c.next]? = some ⟨4, a, x, r⟩) (ha : a < 4) (hr : r < 4) (hroom : c.buf.length ≤ N) (hN : N ≤ 4) (hn4 : c.next ≤ 4) :
    Calls Try.prog 29 #[v, .int .i64 (N : Int), .agg (ints (rSt s)).toArray, .int .i64 (i : Int)] w (RetSt (rcell (⟨(regS i (r : Int) (((flushS i (nextS i s)).mem[a]?).getD 0) (flushS i (nextS i s))).cores, wrt (regS i (r : Int) (((flushS i (nextS i s)).mem[a]?).getD 0) (flushS i (nextS i s))).mem ((a : Int), x)⟩)) w) := by
  have i0 : (0 : Int) ≤ (i : Int) := by omega
  have i3 : (i : Int) < 3 := by omega
  have a0 : (0 : Int) ≤ (a : Int) := by omega
  have a3 : (a : Int) < 4 := by omega
  have HP := Lib.hid hp
  obtain ⟨ad, cc, A', c', rfl, q1, hrec⟩ := hp.at_ hl
  have hip : i < p.length := (List.getElem?_eq_some_iff.1 hl).1
  have hnl : c.next < l.length := (List.getElem?_eq_some_iff.1 ho).1
  obtain ⟨ad2, c2, k0, k1, k2, k3, hzs, hv2, hzb, o0, o1, o2, o3⟩ := Recs.four hrec (Below.refl _ _) (by rw [List.length_map]; exact hnl)
  rw [List.length_map] at hv2
  injection hv2 with f1 _ f3
  subst f1 f3
  have hk : 4 = k0 ∧ (a : Int) = k1 ∧ x = k2 ∧ (r : Int) = k3 := by
    rw [List.getElem?_map, ho] at hzs
    simpa [opL] using hzs
  obtain ⟨rfl, rfl, rfl, rfl⟩ := hk
  obtain ⟨m, hm⟩ : ∃ m, p.length = m := ⟨_, rfl⟩
  obtain ⟨n, hn⟩ : ∃ n, l.length = n := ⟨_, rfl⟩
  obtain ⟨nx, hnx⟩ : ∃ n, c.next = n := ⟨_, rfl⟩
  rw [hm] at hip ⊢
  rw [hn] at hnl q1
  rw [hnx] at hnl o0 o1 o2 o3
  have HNX := Lib.hid hnx
  have HC := Lib.hid hc
  have HS := Lib.hid hs
  have hpos := rcell_pos s hi
  rw [coreOf_some hc, hnx] at hpos
  have HPOS := Lib.hid hpos
  have ip : (i : Int) < (m : Int) := by omega
  have n0 : (0 : Int) ≤ (nx : Int) := by omega
  have n1 : (nx : Int) < (n : Int) := by omega
  have hnb : (nx : Int) ≤ 5 := by have := (hs.core i c hc).next; omega
  have KEEP := Lib.hid (fun W (hb : Below w.heap.size w W) => (show W.cell? (ad.add i) = some (.slice (some ad2) n c') ∧ W.cell? (ad2.add (nx * 4)) = some (.int .i64 4) ∧ W.cell? ⟨(ad2.add (nx * 4)).block, (ad2.add (nx * 4)).off + 1, none⟩ = some (.int .i64 (a : Int)) ∧ W.cell? ⟨(ad2.add (nx * 4)).block, (ad2.add (nx * 4)).off + 2, none⟩ = some (.int .i64 x) ∧ W.cell? ⟨(ad2.add (nx * 4)).block, (ad2.add (nx * 4)).off + 3, none⟩ = some (.int .i64 (r : Int)) from
    ⟨(hb.cell (World.block_lt_of_cell? w _ q1)).trans q1, (hb.cell (World.block_lt_of_cell? w _ o0)).trans o0, (hb.cell (World.block_lt_of_cell? w _ o1)).trans o1, (hb.cell (World.block_lt_of_cell? w _ o2)).trans o2, (hb.cell (World.block_lt_of_cell? w _ o3)).trans o3⟩))
  have SZ := Lib.hid st_sizes
  have ZL := Lib.hid st_lens
  clear hs hc hp hl ho hrec hzs hzb q1 o0 o1 o2 o3 hm hn hnx hpos HP
  unfold rSt
  go_enter Try.func29, Try.ntmps29
  go_wp2_with (first
    | ((with_reducible refine box_walk rfl 69 (.tmp 2) rfl (ints (rL (rcell s))) rfl ?_); intro w1 r1 b1 z1; have R1 := Lib.hid (show RAt w1 w.heap.size (rcell s) from r1); have B1 := Lib.hid b1; have hlt1 := r1.lt; clear r1 b1 z1)
    | ((with_reducible refine alloc_walk (o := ⟨some 8, _, _, _, _, _⟩) rfl 69 rfl _ rst_zero ?_); intro w2 r2 b2 z2; have D2 := Lib.hid (show DrAt w w2 w1.heap.size (rcell s) from ⟨R1.out.below b2, r2, below_on B1.out b2, hlt1⟩); have hlt2 := r2.lt; clear r2 b2 z2)
    | fail)
  obtain ⟨q1, o0, o1, o2, o3⟩ := KEEP.out w2 D2.out.2.2.1
  have cp : w2.cell? ⟨w.heap.size, i, none⟩ = some (.int .i64 (nx : Int)) := (D2.out.1.cell (k := i) (by omega)).trans (by rw [HPOS.out])
  have l1 := World.block_lt_of_cell? w2 _ q1
  have l2 := World.block_lt_of_cell? w2 _ o0
  have l3 : w.heap.size < w2.heap.size := D2.out.1.lt
  go_region
  have D3 := Lib.hid (show SpAt w (w2.alloc (.cells #[.int .i64 4, .int .i64 (a : Int), .int .i64 x, .int .i64 (r : Int)] 48)).drew w1.heap.size w2.heap.size (rcell s) 4 (a : Int) x (r : Int) from
    ⟨⟨D2.out.1.below (below_al _ _).drew, D2.out.2.1.below (below_al _ _).drew, below_on D2.out.2.2.1 (below_al _ _).drew, D2.out.2.2.2⟩, Row.new w2 48 #[.int .i64 4, .int .i64 (a : Int), .int .i64 x, .int .i64 (r : Int)], hlt2, by show w2.heap.size < (w2.alloc _).heap.size; simp⟩)
  generalize (w2.alloc (.cells #[.int .i64 4, .int .i64 (a : Int), .int .i64 x, .int .i64 (r : Int)] 48)).drew = w3 at D3 ⊢
  generalize w2.heap.size = B3 at D3 ⊢
  generalize w1.heap.size = B at D3 ⊢
  clear q1 o0 o1 o2 o3 cp l1 l2 l3 D2 R1 B1 hlt1 hlt2 KEEP
  have e0 : w3.cell? ⟨w.heap.size, i, none⟩ = some (.int .i64 (nx : Int)) := (D3.out.cell (k := i) (by omega)).trans (by rw [HPOS.out])
  have ef := D3.out.soft i
  have D4 := Lib.hid ((D3.out.put i ((nx : Int) + 1)).ext (g' := rcell (nextS i s)) (fun k hk => by have := rcell_next HC.out hi k hk; rw [HNX.out] at this; exact this))
  have HSN := Lib.hid (HS.out.next HC.out hn4)
  have HCN : Hid ((nextS i s).cores[i]? = some { c with next := c.next + 1 }) := Lib.hid (by rw [rnext_eq HC.out]; exact List.getElem?_set_self (List.getElem?_eq_some_iff.1 HC.out).1)
  obtain ⟨k0, k1, k2, k3⟩ := D4.out.op
  have R4 := Lib.hid D4.out.row
  have hB3 : B3 ≠ w.heap.size := by have := D3.out.1.2.2.2; have := D3.out.2.2.1; omega
  clear hn4
  have AL := Lib.hid (rall_any i (nextS i s) (w3.setCell ⟨w.heap.size, i, none⟩ (.int .i64 ((nx : Int) + 1))) HSN.out hi)
  unfold rSt at AL
  have ZT : Hid ((ints (rL (rcell (nextS i s)))).length = (ints (rL (rcell (flushS i (nextS i s))))).length) := Lib.hid (by rw [rL_ints_len, rL_ints_len])
  go_wp2_with (first
    | (with_reducible refine loadRow_walk rfl 69 (.tmp 6) rfl w.heap.size rfl (ints (rL (rcell (nextS i s)))) rst_struct (SZ.out _) 69 R4.out ?_)
    | (go_at_call 41; refine AL.out.mono ?_; rintro e w5 ⟨rfl, hb5⟩; have B5 := Lib.hid hb5; have R5 := Lib.hid (R4.out.below hb5); clear hb5)
    | ((with_reducible refine storeRow_walk rfl 69 (.tmp 6) (.tmp 122) rfl w.heap.size rfl (ints (rL (rcell (flushS i (nextS i s))))) rfl (SZ.out _) 69 (ints (rL (rcell (nextS i s)))) R5.out ZT.out (ints_one _) ?_); (intro w7 r7 o7 z7; have D7 := Lib.hid (D4.out.retake B5.out r7 o7); clear r7 o7 z7))
    | fail)
  have HF := Lib.hid (HSN.out.flush HCN.out)
  have HCF : Hid (∃ d, (flushS i (nextS i s)).cores[i]? = some d) := Lib.hid ⟨_, List.getElem?_eq_getElem (by rw [HF.out.len]; exact hi)⟩
  obtain ⟨d, hd⟩ := HCF.out
  have HD := Lib.hid hd
  clear hd k0 k1 k2 k3
  generalize hFF : flushS i (nextS i s) = FF at D7 HF HCF HD
  have HFF := Lib.hid hFF
  obtain ⟨k0, k1, k2, k3⟩ := D7.out.op
  obtain ⟨y, hy⟩ : ∃ y, (FF.mem[a]?).getD 0 = y := ⟨_, rfl⟩
  have cm : w7.cell? ⟨w.heap.size, 15 + a, none⟩ = some (.int .i64 y) := (D7.out.cell (k := 15 + a) (by omega)).trans (by rw [rcell_mem _ ha, hy])
  have cr := D7.out.cell (k := 3 + (4 * i + r)) (by omega)
  have fr := D7.out.soft (3 + (4 * i + r))
  generalize rcell FF (3 + (4 * i + r)) = z at cr
  have D8 := Lib.hid (((D7.out.put (3 + (4 * i + r)) y).drew).ext (g' := rcell (regS i (r : Int) y FF)) (fun k hk => rcell_regs HF.out HD.out hi hr k hk))
  have HY := Lib.hid hy
  have r0 : (0 : Int) ≤ (r : Int) := by omega
  have r4 : (r : Int) < 4 := by omega
  clear hy AL ZT D4 R4 hFF
  go_simp
  go_region
  generalize (w7.setCell ⟨w.heap.size, 3 + (4 * i + r), none⟩ (.int .i64 y)).drew = w8 at D8 ⊢
  have hu : (regS i (r : Int) y FF).mem = FF.mem := by simp [regS, HD.out]
  have hsu : (regS i (r : Int) y FF).mem.length = 4 := by rw [hu]; exact HF.out.mem
  obtain ⟨U, hU⟩ : ∃ U, regS i (r : Int) y FF = U := ⟨_, rfl⟩
  rw [hU] at D8 hsu
  have D9 := Lib.hid ((D8.out.put (15 + a) x).ext (g' := rcell ⟨U.cores, wrt U.mem ((a : Int), x)⟩) (fun k hk => rcell_wrt2 hsu ha k hk))
  have GOAL : Hid (rcell ⟨(regS i (r : Int) (((flushS i (nextS i s)).mem[a]?).getD 0) (flushS i (nextS i s))).cores, wrt (regS i (r : Int) (((flushS i (nextS i s)).mem[a]?).getD 0) (flushS i (nextS i s))).mem ((a : Int), x)⟩ = rcell ⟨U.cores, wrt U.mem ((a : Int), x)⟩) := Lib.hid (by rw [HFF.out, HY.out, hU])
  clear k0 k1 k2 k3 cm cr fr D7 hu hsu hU
  obtain ⟨k0, k1, k2, k3⟩ := D8.out.op
  have cr := D8.out.cell (k := 15 + a) (by omega)
  have fr := D8.out.soft (15 + a)
  generalize rcell U (15 + a) = z at cr
  go_wp2_with (first
    | (with_reducible refine loadRow_walk rfl 69 (.tmp 6) rfl w.heap.size rfl (ints (rL (rcell ⟨U.cores, wrt U.mem ((a : Int), x)⟩))) rst_struct (SZ.out _) 69 D9.out.row ?_)
    | ((with_reducible refine storeRow_walk rfl 69 (.tmp 8) (.tmp 141) rfl B rfl (ints (rL (rcell ⟨U.cores, wrt U.mem ((a : Int), x)⟩))) rfl (SZ.out _) 69 (ints (List.replicate 46 0)) D9.out.zeros (ZL.out _) (ints_one _) ?_); (intro w8 r8 o8 z8; have R8 := Lib.hid r8; have B8 := Lib.hid (D9.out.done o8); clear r8 o8 z8)))
  refine bodyPost_ret (results_row Try.results29 rfl rst_struct (SZ.out _) R8.out) rfl ⟨by rw [GOAL.out], B8.out⟩

set_option linter.unusedVariables false in
set_option maxRecDepth 100000 in
set_option maxHeartbeats 4000000 in
theorem rstep_load (N i : Nat) (s : St) (v : Value) (p : List (List Opn)) (c : Core) (l : List Opn) (x : Int) (a r : Nat) (w : World) (hs : Shape s) (hi : i < 3) (hc : s.cores[i]? = some c) (hp : Prg w v p) (hl : p[i]? = some l) (ho : l[c.next]? = some ⟨1, a, x, r⟩) (ha : a < 4) (hr : r < 4) (hroom : c.buf.length ≤ N) (hN : N ≤ 4) (hn4 : c.next ≤ 4) :
    Calls Try.prog 29 #[v, .int .i64 (N : Int), .agg (ints (rSt s)).toArray, .int .i64 (i : Int)] w (RetSt (rcell (regS i (r : Int) (sees c.buf s.mem (a : Int)) (nextS i s))) w) := by
  have i0 : (0 : Int) ≤ (i : Int) := by omega
  have i3 : (i : Int) < 3 := by omega
  have a0 : (0 : Int) ≤ (a : Int) := by omega
  have a3 : (a : Int) < 4 := by omega
  have HP := Lib.hid hp
  obtain ⟨ad, cc, A', c', rfl, q1, hrec⟩ := hp.at_ hl
  have hip : i < p.length := (List.getElem?_eq_some_iff.1 hl).1
  have hnl : c.next < l.length := (List.getElem?_eq_some_iff.1 ho).1
  obtain ⟨ad2, c2, k0, k1, k2, k3, hzs, hv2, hzb, o0, o1, o2, o3⟩ := Recs.four hrec (Below.refl _ _) (by rw [List.length_map]; exact hnl)
  rw [List.length_map] at hv2
  injection hv2 with f1 _ f3
  subst f1 f3
  have hk : 1 = k0 ∧ (a : Int) = k1 ∧ x = k2 ∧ (r : Int) = k3 := by
    rw [List.getElem?_map, ho] at hzs
    simpa [opL] using hzs
  obtain ⟨rfl, rfl, rfl, rfl⟩ := hk
  obtain ⟨m, hm⟩ : ∃ m, p.length = m := ⟨_, rfl⟩
  obtain ⟨n, hn⟩ : ∃ n, l.length = n := ⟨_, rfl⟩
  obtain ⟨nx, hnx⟩ : ∃ n, c.next = n := ⟨_, rfl⟩
  rw [hm] at hip ⊢
  rw [hn] at hnl q1
  rw [hnx] at hnl o0 o1 o2 o3
  have HNX := Lib.hid hnx
  have HC := Lib.hid hc
  have HS := Lib.hid hs
  have hpos := rcell_pos s hi
  rw [coreOf_some hc, hnx] at hpos
  have HPOS := Lib.hid hpos
  have ip : (i : Int) < (m : Int) := by omega
  have n0 : (0 : Int) ≤ (nx : Int) := by omega
  have n1 : (nx : Int) < (n : Int) := by omega
  have hnb : (nx : Int) ≤ 5 := by have := (hs.core i c hc).next; omega
  have KEEP := Lib.hid (fun W (hb : Below w.heap.size w W) => (show W.cell? (ad.add i) = some (.slice (some ad2) n c') ∧ W.cell? (ad2.add (nx * 4)) = some (.int .i64 1) ∧ W.cell? ⟨(ad2.add (nx * 4)).block, (ad2.add (nx * 4)).off + 1, none⟩ = some (.int .i64 (a : Int)) ∧ W.cell? ⟨(ad2.add (nx * 4)).block, (ad2.add (nx * 4)).off + 2, none⟩ = some (.int .i64 x) ∧ W.cell? ⟨(ad2.add (nx * 4)).block, (ad2.add (nx * 4)).off + 3, none⟩ = some (.int .i64 (r : Int)) from
    ⟨(hb.cell (World.block_lt_of_cell? w _ q1)).trans q1, (hb.cell (World.block_lt_of_cell? w _ o0)).trans o0, (hb.cell (World.block_lt_of_cell? w _ o1)).trans o1, (hb.cell (World.block_lt_of_cell? w _ o2)).trans o2, (hb.cell (World.block_lt_of_cell? w _ o3)).trans o3⟩))
  have SZ := Lib.hid st_sizes
  have ZL := Lib.hid st_lens
  clear hs hc hp hl ho hrec hzs hzb q1 o0 o1 o2 o3 hm hn hnx hpos HP
  unfold rSt
  go_enter Try.func29, Try.ntmps29
  go_wp2_with (first
    | ((with_reducible refine box_walk rfl 69 (.tmp 2) rfl (ints (rL (rcell s))) rfl ?_); intro w1 r1 b1 z1; have R1 := Lib.hid (show RAt w1 w.heap.size (rcell s) from r1); have B1 := Lib.hid b1; have hlt1 := r1.lt; clear r1 b1 z1)
    | ((with_reducible refine alloc_walk (o := ⟨some 8, _, _, _, _, _⟩) rfl 69 rfl _ rst_zero ?_); intro w2 r2 b2 z2; have D2 := Lib.hid (show DrAt w w2 w1.heap.size (rcell s) from ⟨R1.out.below b2, r2, below_on B1.out b2, hlt1⟩); have hlt2 := r2.lt; clear r2 b2 z2)
    | fail)
  obtain ⟨q1, o0, o1, o2, o3⟩ := KEEP.out w2 D2.out.2.2.1
  have cp : w2.cell? ⟨w.heap.size, i, none⟩ = some (.int .i64 (nx : Int)) := (D2.out.1.cell (k := i) (by omega)).trans (by rw [HPOS.out])
  have l1 := World.block_lt_of_cell? w2 _ q1
  have l2 := World.block_lt_of_cell? w2 _ o0
  have l3 : w.heap.size < w2.heap.size := D2.out.1.lt
  go_region
  have D3 := Lib.hid (show SpAt w (w2.alloc (.cells #[.int .i64 1, .int .i64 (a : Int), .int .i64 x, .int .i64 (r : Int)] 48)).drew w1.heap.size w2.heap.size (rcell s) 1 (a : Int) x (r : Int) from
    ⟨⟨D2.out.1.below (below_al _ _).drew, D2.out.2.1.below (below_al _ _).drew, below_on D2.out.2.2.1 (below_al _ _).drew, D2.out.2.2.2⟩, Row.new w2 48 #[.int .i64 1, .int .i64 (a : Int), .int .i64 x, .int .i64 (r : Int)], hlt2, by show w2.heap.size < (w2.alloc _).heap.size; simp⟩)
  generalize (w2.alloc (.cells #[.int .i64 1, .int .i64 (a : Int), .int .i64 x, .int .i64 (r : Int)] 48)).drew = w3 at D3 ⊢
  generalize w2.heap.size = B3 at D3 ⊢
  generalize w1.heap.size = B at D3 ⊢
  clear q1 o0 o1 o2 o3 cp l1 l2 l3 D2 R1 B1 hlt1 hlt2 KEEP
  have e0 : w3.cell? ⟨w.heap.size, i, none⟩ = some (.int .i64 (nx : Int)) := (D3.out.cell (k := i) (by omega)).trans (by rw [HPOS.out])
  have ef := D3.out.soft i
  have D4 := Lib.hid ((D3.out.put i ((nx : Int) + 1)).ext (g' := rcell (nextS i s)) (fun k hk => by have := rcell_next HC.out hi k hk; rw [HNX.out] at this; exact this))
  have HSN := Lib.hid (HS.out.next HC.out hn4)
  have HCN : Hid ((nextS i s).cores[i]? = some { c with next := c.next + 1 }) := Lib.hid (by rw [rnext_eq HC.out]; exact List.getElem?_set_self (List.getElem?_eq_some_iff.1 HC.out).1)
  obtain ⟨k0, k1, k2, k3⟩ := D4.out.op
  have R4 := Lib.hid D4.out.row
  have hB3 : B3 ≠ w.heap.size := by have := D3.out.1.2.2.2; have := D3.out.2.2.1; omega
  clear hn4
  have cb := coreOf_some HCN.out
  have hlenb : rcell (nextS i s) (19 + i) = (c.buf.length : Int) := by rw [rcell_len _ hi, cb]
  have hb4 : c.buf.length ≤ 4 := (HS.out.core i c HC.out).room
  have hmem : (nextS i s).mem = s.mem := by rw [rnext_eq HC.out]
  obtain ⟨y0, hy0⟩ : ∃ y, sees [] s.mem (a : Int) = y := ⟨_, rfl⟩
  have hy1 : (s.mem[a]?).getD 0 = y0 := by rw [← hy0]; simp [sees]
  have cm : (w3.setCell ⟨w.heap.size, i, none⟩ (.int .i64 ((nx : Int) + 1))).cell? ⟨w.heap.size, 15 + a, none⟩ = some (.int .i64 y0) := (D4.out.cell (k := 15 + a) (by omega)).trans (by rw [rcell_mem _ ha, hmem, hy1])
  have HB := Lib.hid cb
  have HY0 := Lib.hid hy0
  have HLB := Lib.hid hlenb
  obtain ⟨b, hb⟩ : ∃ b, c.buf.length = b := ⟨_, rfl⟩
  rw [hb] at hb4
  have HLEN := Lib.hid hb
  clear cb hy0 hy1 hlenb hmem hb
  go_wp2
  generalize (w3.setCell ⟨w.heap.size, i, none⟩ (.int .i64 ((nx : Int) + 1))) = w4 at D4 ⊢
  clear k0 k1 k2 k3 cm R4
  go_loopw [10, 11] (fun wv kv wr => ∃ (k : Nat) (y : Int), k ≤ b ∧ kv = .int .i64 k ∧ wv = .int .i64 y ∧ Hid (sees (c.buf.take k) s.mem (a : Int) = y) ∧ Hid (SpAt w wr B B3 (rcell (nextS i s)) 1 (a : Int) x (r : Int))) (fun _ kv _ => b - (intOf kv).toNat)
  case atStart => exact ⟨0, y0, Nat.zero_le _, rfl, rfl, HY0, D4⟩
  case round =>
    obtain ⟨k, y, hk, rfl, rfl, HSE, HD⟩ := hrel
    have cl : wr.cell? ⟨w.heap.size, 19 + i, none⟩ = some (.int .i64 (b : Int)) := (HD.out.cell (k := 19 + i) (by omega)).trans (by rw [HLB.out, HLEN.out])
    obtain ⟨k0, k1, k2, k3⟩ := HD.out.op
    by_cases hlt : k < b
    · obtain ⟨p0, hp0⟩ : ∃ p, c.buf[k]? = some p := ⟨_, List.getElem?_eq_getElem (by rw [HLEN.out]; exact hlt)⟩
      have hse := sees_more s.mem (a : Int) hp0
      obtain ⟨pa, px⟩ := p0
      rw [HSE.out] at hse
      have c0 : wr.cell? ⟨w.heap.size, 22 + i * 8 + k * 2, none⟩ = some (.int .i64 pa) := (HD.out.cell (k := 22 + i * 8 + k * 2) (by omega)).trans (by rw [rcell_buf _ (by omega), HB.out, bcell_even hp0])
      have c1 : wr.cell? ⟨w.heap.size, 22 + i * 8 + k * 2 + 1, none⟩ = some (.int .i64 px) := (HD.out.cell (k := 22 + i * 8 + k * 2 + 1) (by omega)).trans (by rw [show 22 + i * 8 + k * 2 + 1 = 22 + i * 8 + (k * 2 + 1) by omega, rcell_buf _ (by omega), HB.out, bcell_odd hp0])
      have j0 : (0 : Int) ≤ (k : Int) := by omega
      have j4 : (k : Int) < 4 := by omega
      have HSM := Lib.hid hse
      clear hse hp0
      by_cases he : pa = (a : Int)
      · have be : (pa == (a : Int)) = true := by simpa using he
        have HE := Lib.hid he
        clear he
        go_wp2
        go_quiet (fail)
        go_wp2
        go_roundw
        case rel => exact ⟨k + 1, px, by omega, by go_num, rfl, Lib.hid (by rw [HSM.out, if_pos HE.out]), Lib.hid (HD.out.drewN nq)⟩
        case measure => simp [intOf]; omega
      · have be : (pa == (a : Int)) = false := by simpa using he
        have HE := Lib.hid he
        clear he
        go_wp2
        go_quiet (fail)
        go_wp2
        go_roundw
        case rel => exact ⟨k + 1, y, by omega, by go_num, rfl, Lib.hid (by rw [HSM.out, if_neg HE.out]), Lib.hid (HD.out.drewN nq)⟩
        case measure => simp [intOf]; omega
    · obtain rfl : k = b := by omega
      have hall : sees c.buf s.mem (a : Int) = y := by have := HSE.out; rwa [List.take_of_length_le (by rw [HLEN.out]; exact Nat.le_refl _)] at this
      have HALL := Lib.hid hall
      have r0 : (0 : Int) ≤ (r : Int) := by omega
      have r4 : (r : Int) < 4 := by omega
      have cr := HD.out.cell (k := 3 + (4 * i + r)) (by omega)
      have fr := HD.out.soft (3 + (4 * i + r))
      generalize rcell (nextS i s) (3 + (4 * i + r)) = z at cr
      have D5 := Lib.hid ((HD.out.put (3 + (4 * i + r)) y).ext (g' := rcell (regS i (r : Int) y (nextS i s))) (fun k hk => rcell_regs HSN.out HCN.out hi hr k hk))
      have GOAL : Hid (rcell (regS i (r : Int) (sees c.buf s.mem (a : Int)) (nextS i s)) = rcell (regS i (r : Int) y (nextS i s))) := Lib.hid (by rw [HALL.out])
      clear hall D4
      go_wp2_with (first
        | (with_reducible refine loadRow_walk rfl 69 (.tmp 6) rfl w.heap.size rfl (ints (rL (rcell (regS i (r : Int) y (nextS i s))))) rst_struct (SZ.out _) 69 D5.out.row ?_)
        | ((with_reducible refine storeRow_walk rfl 69 (.tmp 8) (.tmp 141) rfl B rfl (ints (rL (rcell (regS i (r : Int) y (nextS i s))))) rfl (SZ.out _) 69 (ints (List.replicate 46 0)) D5.out.zeros (ZL.out _) (ints_one _) ?_); (intro w8 r8 o8 z8; have R8 := Lib.hid r8; have B8 := Lib.hid (D5.out.done o8); clear r8 o8 z8)))
      refine bodyPost_ret (results_row Try.results29 rfl rst_struct (SZ.out _) R8.out) rfl ⟨by rw [GOAL.out], B8.out⟩

set_option linter.unusedVariables false in
set_option maxRecDepth 100000 in
set_option maxHeartbeats 4000000 in
theorem rstep_store0 (N i : Nat) (s : St) (v : Value) (p : List (List Opn)) (c : Core) (l : List Opn) (x : Int) (a r : Nat) (w : World) (hs : Shape s) (hi : i < 3) (hc : s.cores[i]? = some c) (hp : Prg w v p) (hl : p[i]? = some l) (ho : l[c.next]? = some ⟨2, a, x, r⟩) (ha : a < 4) (hr : r < 4) (hroom : c.buf.length ≤ N) (hN : N ≤ 4) (hn4 : c.next ≤ 4) (h0 : N = 0) :
    Calls Try.prog 29 #[v, .int .i64 (N : Int), .agg (ints (rSt s)).toArray, .int .i64 (i : Int)] w (RetSt (rcell (⟨(nextS i s).cores, wrt (nextS i s).mem ((a : Int), x)⟩)) w) := by
  have bN : ((N : Int) == 0) = true := by simp [h0]
  clear h0
  have i0 : (0 : Int) ≤ (i : Int) := by omega
  have i3 : (i : Int) < 3 := by omega
  have a0 : (0 : Int) ≤ (a : Int) := by omega
  have a3 : (a : Int) < 4 := by omega
  have HP := Lib.hid hp
  obtain ⟨ad, cc, A', c', rfl, q1, hrec⟩ := hp.at_ hl
  have hip : i < p.length := (List.getElem?_eq_some_iff.1 hl).1
  have hnl : c.next < l.length := (List.getElem?_eq_some_iff.1 ho).1
  obtain ⟨ad2, c2, k0, k1, k2, k3, hzs, hv2, hzb, o0, o1, o2, o3⟩ := Recs.four hrec (Below.refl _ _) (by rw [List.length_map]; exact hnl)
  rw [List.length_map] at hv2
  injection hv2 with f1 _ f3
  subst f1 f3
  have hk : 2 = k0 ∧ (a : Int) = k1 ∧ x = k2 ∧ (r : Int) = k3 := by
    rw [List.getElem?_map, ho] at hzs
    simpa [opL] using hzs
  obtain ⟨rfl, rfl, rfl, rfl⟩ := hk
  obtain ⟨m, hm⟩ : ∃ m, p.length = m := ⟨_, rfl⟩
  obtain ⟨n, hn⟩ : ∃ n, l.length = n := ⟨_, rfl⟩
  obtain ⟨nx, hnx⟩ : ∃ n, c.next = n := ⟨_, rfl⟩
  rw [hm] at hip ⊢
  rw [hn] at hnl q1
  rw [hnx] at hnl o0 o1 o2 o3
  have HNX := Lib.hid hnx
  have HC := Lib.hid hc
  have HS := Lib.hid hs
  have hpos := rcell_pos s hi
  rw [coreOf_some hc, hnx] at hpos
  have HPOS := Lib.hid hpos
  have ip : (i : Int) < (m : Int) := by omega
  have n0 : (0 : Int) ≤ (nx : Int) := by omega
  have n1 : (nx : Int) < (n : Int) := by omega
  have hnb : (nx : Int) ≤ 5 := by have := (hs.core i c hc).next; omega
  have KEEP := Lib.hid (fun W (hb : Below w.heap.size w W) => (show W.cell? (ad.add i) = some (.slice (some ad2) n c') ∧ W.cell? (ad2.add (nx * 4)) = some (.int .i64 2) ∧ W.cell? ⟨(ad2.add (nx * 4)).block, (ad2.add (nx * 4)).off + 1, none⟩ = some (.int .i64 (a : Int)) ∧ W.cell? ⟨(ad2.add (nx * 4)).block, (ad2.add (nx * 4)).off + 2, none⟩ = some (.int .i64 x) ∧ W.cell? ⟨(ad2.add (nx * 4)).block, (ad2.add (nx * 4)).off + 3, none⟩ = some (.int .i64 (r : Int)) from
    ⟨(hb.cell (World.block_lt_of_cell? w _ q1)).trans q1, (hb.cell (World.block_lt_of_cell? w _ o0)).trans o0, (hb.cell (World.block_lt_of_cell? w _ o1)).trans o1, (hb.cell (World.block_lt_of_cell? w _ o2)).trans o2, (hb.cell (World.block_lt_of_cell? w _ o3)).trans o3⟩))
  have SZ := Lib.hid st_sizes
  have ZL := Lib.hid st_lens
  clear hs hc hp hl ho hrec hzs hzb q1 o0 o1 o2 o3 hm hn hnx hpos HP
  unfold rSt
  go_enter Try.func29, Try.ntmps29
  go_wp2_with (first
    | ((with_reducible refine box_walk rfl 69 (.tmp 2) rfl (ints (rL (rcell s))) rfl ?_); intro w1 r1 b1 z1; have R1 := Lib.hid (show RAt w1 w.heap.size (rcell s) from r1); have B1 := Lib.hid b1; have hlt1 := r1.lt; clear r1 b1 z1)
    | ((with_reducible refine alloc_walk (o := ⟨some 8, _, _, _, _, _⟩) rfl 69 rfl _ rst_zero ?_); intro w2 r2 b2 z2; have D2 := Lib.hid (show DrAt w w2 w1.heap.size (rcell s) from ⟨R1.out.below b2, r2, below_on B1.out b2, hlt1⟩); have hlt2 := r2.lt; clear r2 b2 z2)
    | fail)
  obtain ⟨q1, o0, o1, o2, o3⟩ := KEEP.out w2 D2.out.2.2.1
  have cp : w2.cell? ⟨w.heap.size, i, none⟩ = some (.int .i64 (nx : Int)) := (D2.out.1.cell (k := i) (by omega)).trans (by rw [HPOS.out])
  have l1 := World.block_lt_of_cell? w2 _ q1
  have l2 := World.block_lt_of_cell? w2 _ o0
  have l3 : w.heap.size < w2.heap.size := D2.out.1.lt
  go_region
  have D3 := Lib.hid (show SpAt w (w2.alloc (.cells #[.int .i64 2, .int .i64 (a : Int), .int .i64 x, .int .i64 (r : Int)] 48)).drew w1.heap.size w2.heap.size (rcell s) 2 (a : Int) x (r : Int) from
    ⟨⟨D2.out.1.below (below_al _ _).drew, D2.out.2.1.below (below_al _ _).drew, below_on D2.out.2.2.1 (below_al _ _).drew, D2.out.2.2.2⟩, Row.new w2 48 #[.int .i64 2, .int .i64 (a : Int), .int .i64 x, .int .i64 (r : Int)], hlt2, by show w2.heap.size < (w2.alloc _).heap.size; simp⟩)
  generalize (w2.alloc (.cells #[.int .i64 2, .int .i64 (a : Int), .int .i64 x, .int .i64 (r : Int)] 48)).drew = w3 at D3 ⊢
  generalize w2.heap.size = B3 at D3 ⊢
  generalize w1.heap.size = B at D3 ⊢
  clear q1 o0 o1 o2 o3 cp l1 l2 l3 D2 R1 B1 hlt1 hlt2 KEEP
  have e0 : w3.cell? ⟨w.heap.size, i, none⟩ = some (.int .i64 (nx : Int)) := (D3.out.cell (k := i) (by omega)).trans (by rw [HPOS.out])
  have ef := D3.out.soft i
  have D4 := Lib.hid ((D3.out.put i ((nx : Int) + 1)).ext (g' := rcell (nextS i s)) (fun k hk => by have := rcell_next HC.out hi k hk; rw [HNX.out] at this; exact this))
  have HSN := Lib.hid (HS.out.next HC.out hn4)
  have HCN : Hid ((nextS i s).cores[i]? = some { c with next := c.next + 1 }) := Lib.hid (by rw [rnext_eq HC.out]; exact List.getElem?_set_self (List.getElem?_eq_some_iff.1 HC.out).1)
  obtain ⟨k0, k1, k2, k3⟩ := D4.out.op
  have R4 := Lib.hid D4.out.row
  have hB3 : B3 ≠ w.heap.size := by have := D3.out.1.2.2.2; have := D3.out.2.2.1; omega
  clear hn4
  have cr := D4.out.cell (k := 15 + a) (by omega)
  have fr := D4.out.soft (15 + a)
  generalize rcell (nextS i s) (15 + a) = z at cr
  have D5 := Lib.hid ((D4.out.put (15 + a) x).ext (g' := rcell ⟨(nextS i s).cores, wrt (nextS i s).mem ((a : Int), x)⟩) (fun k hk => rcell_wrt2 HSN.out.mem ha k hk))
  go_wp2_with (first
    | (with_reducible refine loadRow_walk rfl 69 (.tmp 6) rfl w.heap.size rfl (ints (rL (rcell ⟨(nextS i s).cores, wrt (nextS i s).mem ((a : Int), x)⟩))) rst_struct (SZ.out _) 69 D5.out.row ?_)
    | ((with_reducible refine storeRow_walk rfl 69 (.tmp 8) (.tmp 82) rfl B rfl (ints (rL (rcell ⟨(nextS i s).cores, wrt (nextS i s).mem ((a : Int), x)⟩))) rfl (SZ.out _) 69 (ints (List.replicate 46 0)) D5.out.zeros (ZL.out _) (ints_one _) ?_); (intro w8 r8 o8 z8; have R8 := Lib.hid r8; have B8 := Lib.hid (D5.out.done o8); clear r8 o8 z8)))
  refine bodyPost_ret (results_row Try.results29 rfl rst_struct (SZ.out _) R8.out) rfl ⟨rfl, B8.out⟩

set_option linter.unusedVariables false in
set_option maxRecDepth 100000 in
set_option maxHeartbeats 4000000 in
theorem rstep_room (N i : Nat) (s : St) (v : Value) (p : List (List Opn)) (c : Core) (l : List Opn) (x : Int) (a r : Nat) (w : World) (hs : Shape s) (hi : i < 3) (hc : s.cores[i]? = some c) (hp : Prg w v p) (hl : p[i]? = some l) (ho : l[c.next]? = some ⟨2, a, x, r⟩) (ha : a < 4) (hr : r < 4) (hroom : c.buf.length ≤ N) (hN : N ≤ 4) (hn4 : c.next ≤ 4) (h0 : N ≠ 0) (hfull : c.buf.length ≠ N) :
    Calls Try.prog 29 #[v, .int .i64 (N : Int), .agg (ints (rSt s)).toArray, .int .i64 (i : Int)] w (RetSt (rcell (pushS i ((a : Int), x) (nextS i s))) w) := by
  have bN : ((N : Int) == 0) = false := by simp; omega
  have hroom4 : c.buf.length < 4 := by omega
  have HFUL := Lib.hid hfull
  clear h0 hfull
  have i0 : (0 : Int) ≤ (i : Int) := by omega
  have i3 : (i : Int) < 3 := by omega
  have a0 : (0 : Int) ≤ (a : Int) := by omega
  have a3 : (a : Int) < 4 := by omega
  have HP := Lib.hid hp
  obtain ⟨ad, cc, A', c', rfl, q1, hrec⟩ := hp.at_ hl
  have hip : i < p.length := (List.getElem?_eq_some_iff.1 hl).1
  have hnl : c.next < l.length := (List.getElem?_eq_some_iff.1 ho).1
  obtain ⟨ad2, c2, k0, k1, k2, k3, hzs, hv2, hzb, o0, o1, o2, o3⟩ := Recs.four hrec (Below.refl _ _) (by rw [List.length_map]; exact hnl)
  rw [List.length_map] at hv2
  injection hv2 with f1 _ f3
  subst f1 f3
  have hk : 2 = k0 ∧ (a : Int) = k1 ∧ x = k2 ∧ (r : Int) = k3 := by
    rw [List.getElem?_map, ho] at hzs
    simpa [opL] using hzs
  obtain ⟨rfl, rfl, rfl, rfl⟩ := hk
  obtain ⟨m, hm⟩ : ∃ m, p.length = m := ⟨_, rfl⟩
  obtain ⟨n, hn⟩ : ∃ n, l.length = n := ⟨_, rfl⟩
  obtain ⟨nx, hnx⟩ : ∃ n, c.next = n := ⟨_, rfl⟩
  rw [hm] at hip ⊢
  rw [hn] at hnl q1
  rw [hnx] at hnl o0 o1 o2 o3
  have HNX := Lib.hid hnx
  have HC := Lib.hid hc
  have HS := Lib.hid hs
  have hpos := rcell_pos s hi
  rw [coreOf_some hc, hnx] at hpos
  have HPOS := Lib.hid hpos
  have ip : (i : Int) < (m : Int) := by omega
  have n0 : (0 : Int) ≤ (nx : Int) := by omega
  have n1 : (nx : Int) < (n : Int) := by omega
  have hnb : (nx : Int) ≤ 5 := by have := (hs.core i c hc).next; omega
  have KEEP := Lib.hid (fun W (hb : Below w.heap.size w W) => (show W.cell? (ad.add i) = some (.slice (some ad2) n c') ∧ W.cell? (ad2.add (nx * 4)) = some (.int .i64 2) ∧ W.cell? ⟨(ad2.add (nx * 4)).block, (ad2.add (nx * 4)).off + 1, none⟩ = some (.int .i64 (a : Int)) ∧ W.cell? ⟨(ad2.add (nx * 4)).block, (ad2.add (nx * 4)).off + 2, none⟩ = some (.int .i64 x) ∧ W.cell? ⟨(ad2.add (nx * 4)).block, (ad2.add (nx * 4)).off + 3, none⟩ = some (.int .i64 (r : Int)) from
    ⟨(hb.cell (World.block_lt_of_cell? w _ q1)).trans q1, (hb.cell (World.block_lt_of_cell? w _ o0)).trans o0, (hb.cell (World.block_lt_of_cell? w _ o1)).trans o1, (hb.cell (World.block_lt_of_cell? w _ o2)).trans o2, (hb.cell (World.block_lt_of_cell? w _ o3)).trans o3⟩))
  have SZ := Lib.hid st_sizes
  have ZL := Lib.hid st_lens
  clear hs hc hp hl ho hrec hzs hzb q1 o0 o1 o2 o3 hm hn hnx hpos HP
  unfold rSt
  go_enter Try.func29, Try.ntmps29
  go_wp2_with (first
    | ((with_reducible refine box_walk rfl 69 (.tmp 2) rfl (ints (rL (rcell s))) rfl ?_); intro w1 r1 b1 z1; have R1 := Lib.hid (show RAt w1 w.heap.size (rcell s) from r1); have B1 := Lib.hid b1; have hlt1 := r1.lt; clear r1 b1 z1)
    | ((with_reducible refine alloc_walk (o := ⟨some 8, _, _, _, _, _⟩) rfl 69 rfl _ rst_zero ?_); intro w2 r2 b2 z2; have D2 := Lib.hid (show DrAt w w2 w1.heap.size (rcell s) from ⟨R1.out.below b2, r2, below_on B1.out b2, hlt1⟩); have hlt2 := r2.lt; clear r2 b2 z2)
    | fail)
  obtain ⟨q1, o0, o1, o2, o3⟩ := KEEP.out w2 D2.out.2.2.1
  have cp : w2.cell? ⟨w.heap.size, i, none⟩ = some (.int .i64 (nx : Int)) := (D2.out.1.cell (k := i) (by omega)).trans (by rw [HPOS.out])
  have l1 := World.block_lt_of_cell? w2 _ q1
  have l2 := World.block_lt_of_cell? w2 _ o0
  have l3 : w.heap.size < w2.heap.size := D2.out.1.lt
  go_region
  have D3 := Lib.hid (show SpAt w (w2.alloc (.cells #[.int .i64 2, .int .i64 (a : Int), .int .i64 x, .int .i64 (r : Int)] 48)).drew w1.heap.size w2.heap.size (rcell s) 2 (a : Int) x (r : Int) from
    ⟨⟨D2.out.1.below (below_al _ _).drew, D2.out.2.1.below (below_al _ _).drew, below_on D2.out.2.2.1 (below_al _ _).drew, D2.out.2.2.2⟩, Row.new w2 48 #[.int .i64 2, .int .i64 (a : Int), .int .i64 x, .int .i64 (r : Int)], hlt2, by show w2.heap.size < (w2.alloc _).heap.size; simp⟩)
  generalize (w2.alloc (.cells #[.int .i64 2, .int .i64 (a : Int), .int .i64 x, .int .i64 (r : Int)] 48)).drew = w3 at D3 ⊢
  generalize w2.heap.size = B3 at D3 ⊢
  generalize w1.heap.size = B at D3 ⊢
  clear q1 o0 o1 o2 o3 cp l1 l2 l3 D2 R1 B1 hlt1 hlt2 KEEP
  have e0 : w3.cell? ⟨w.heap.size, i, none⟩ = some (.int .i64 (nx : Int)) := (D3.out.cell (k := i) (by omega)).trans (by rw [HPOS.out])
  have ef := D3.out.soft i
  have D4 := Lib.hid ((D3.out.put i ((nx : Int) + 1)).ext (g' := rcell (nextS i s)) (fun k hk => by have := rcell_next HC.out hi k hk; rw [HNX.out] at this; exact this))
  have HSN := Lib.hid (HS.out.next HC.out hn4)
  have HCN : Hid ((nextS i s).cores[i]? = some { c with next := c.next + 1 }) := Lib.hid (by rw [rnext_eq HC.out]; exact List.getElem?_set_self (List.getElem?_eq_some_iff.1 HC.out).1)
  obtain ⟨k0, k1, k2, k3⟩ := D4.out.op
  have R4 := Lib.hid D4.out.row
  have hB3 : B3 ≠ w.heap.size := by have := D3.out.1.2.2.2; have := D3.out.2.2.1; omega
  clear hn4
  obtain ⟨d, hd, hdb⟩ : ∃ d, (nextS i s).cores[i]? = some d ∧ d.buf = c.buf := ⟨_, HCN.out, rfl⟩
  rw [← hdb] at hroom4 HFUL
  have HCT := Lib.hid hd
  clear hd hdb
  have cb := coreOf_some HCT.out
  have hlenb : rcell (nextS i s) (19 + i) = (d.buf.length : Int) := by rw [rcell_len _ hi, cb]
  have PUSH := Lib.hid (rcell_push (a := (a : Int)) (x := x) HCT.out hi hroom4)
  obtain ⟨b, hb⟩ : ∃ b, d.buf.length = b := ⟨_, rfl⟩
  rw [hb] at hlenb hroom4 PUSH
  have cl : (w3.setCell ⟨w.heap.size, i, none⟩ (.int .i64 ((nx : Int) + 1))).cell? ⟨w.heap.size, 19 + i, none⟩ = some (.int .i64 (b : Int)) := (D4.out.cell (k := 19 + i) (by omega)).trans (by rw [hlenb])
  have c0 := D4.out.cell (k := 22 + i * 8 + b * 2) (by omega)
  have c1 := D4.out.cell (k := 22 + i * 8 + b * 2 + 1) (by omega)
  have f0 := D4.out.soft (22 + i * 8 + b * 2)
  have f1 := D4.out.soft (22 + i * 8 + b * 2 + 1)
  have D9 := ((D4.out.put (22 + i * 8 + b * 2) (a : Int)).put (22 + i * 8 + b * 2 + 1) x).drew
  generalize rcell (nextS i s) (22 + i * 8 + b * 2) = z0 at c0
  generalize rcell (nextS i s) (22 + i * 8 + b * 2 + 1) = z1 at c1
  have j0 : (0 : Int) ≤ (b : Int) := by omega
  have j4 : (b : Int) < 4 := by omega
  have HLB := Lib.hid hlenb
  have HBB := Lib.hid hb
  clear cb hb hlenb
  have bF : ((b : Int) == (N : Int)) = false := by have := HFUL.out; rw [HBB.out] at this; simp; omega
  go_wp2
  go_region
  generalize (((w3.setCell ⟨w.heap.size, i, none⟩ (.int .i64 ((nx : Int) + 1))).setCell ⟨w.heap.size, 22 + i * 8 + b * 2, none⟩ (.int .i64 (a : Int))).setCell ⟨w.heap.size, 22 + i * 8 + b * 2 + 1, none⟩ (.int .i64 x)).drew = w9 at D9 ⊢
  have D9h := Lib.hid D9
  clear D9 cl c0 c1 f0 f1 k0 k1 k2 k3
  obtain ⟨k0, k1, k2, k3⟩ := D9h.out.op
  have cl : w9.cell? ⟨w.heap.size, 19 + i, none⟩ = some (.int .i64 (b : Int)) := (D9h.out.cell (k := 19 + i) (by omega)).trans (by unfold upd; rw [if_neg (by omega), if_neg (by omega), HLB.out])
  have fl := D9h.out.soft (19 + i)
  have D10 := Lib.hid ((D9h.out.put (19 + i) ((b : Int) + 1)).ext (fun k hk => PUSH.out k hk))
  go_wp2_with (first
    | (with_reducible refine loadRow_walk rfl 69 (.tmp 6) rfl w.heap.size rfl (ints (rL (rcell (pushS i ((a : Int), x) (nextS i s))))) rst_struct (SZ.out _) 69 D10.out.row ?_)
    | ((with_reducible refine storeRow_walk rfl 69 (.tmp 8) (.tmp 141) rfl B rfl (ints (rL (rcell (pushS i ((a : Int), x) (nextS i s))))) rfl (SZ.out _) 69 (ints (List.replicate 46 0)) D10.out.zeros (ZL.out _) (ints_one _) ?_); (intro w8 r8 o8 z8; have R8 := Lib.hid r8; have B8 := Lib.hid (D10.out.done o8); clear r8 o8 z8)))
  refine bodyPost_ret (results_row Try.results29 rfl rst_struct (SZ.out _) R8.out) rfl ⟨rfl, B8.out⟩

set_option linter.unusedVariables false in
set_option maxRecDepth 100000 in
set_option maxHeartbeats 4000000 in
theorem rstep_full (N i : Nat) (s : St) (v : Value) (p : List (List Opn)) (c : Core) (l : List Opn) (x : Int) (a r : Nat) (w : World) (hs : Shape s) (hi : i < 3) (hc : s.cores[i]? = some c) (hp : Prg w v p) (hl : p[i]? = some l) (ho : l[c.next]? = some ⟨2, a, x, r⟩) (ha : a < 4) (hr : r < 4) (hroom : c.buf.length ≤ N) (hN : N ≤ 4) (hn4 : c.next ≤ 4) (h0 : N ≠ 0) (hfull : c.buf.length = N) :
    Calls Try.prog 29 #[v, .int .i64 (N : Int), .agg (ints (rSt s)).toArray, .int .i64 (i : Int)] w (RetSt (rcell (pushS i ((a : Int), x) (drainS i (nextS i s)))) w) := by
  have bN : ((N : Int) == 0) = false := by simp; omega
  have hlen0 : rcell s (19 + i) = (N : Int) := by rw [rcell_len s hi, coreOf_some hc, hfull]
  have HL0 := Lib.hid hlen0
  have HFUL := Lib.hid hfull
  have HN0 := Lib.hid h0
  clear h0 hfull hlen0
  have i0 : (0 : Int) ≤ (i : Int) := by omega
  have i3 : (i : Int) < 3 := by omega
  have a0 : (0 : Int) ≤ (a : Int) := by omega
  have a3 : (a : Int) < 4 := by omega
  have HP := Lib.hid hp
  obtain ⟨ad, cc, A', c', rfl, q1, hrec⟩ := hp.at_ hl
  have hip : i < p.length := (List.getElem?_eq_some_iff.1 hl).1
  have hnl : c.next < l.length := (List.getElem?_eq_some_iff.1 ho).1
  obtain ⟨ad2, c2, k0, k1, k2, k3, hzs, hv2, hzb, o0, o1, o2, o3⟩ := Recs.four hrec (Below.refl _ _) (by rw [List.length_map]; exact hnl)
  rw [List.length_map] at hv2
  injection hv2 with f1 _ f3
  subst f1 f3
  have hk : 2 = k0 ∧ (a : Int) = k1 ∧ x = k2 ∧ (r : Int) = k3 := by
    rw [List.getElem?_map, ho] at hzs
    simpa [opL] using hzs
  obtain ⟨rfl, rfl, rfl, rfl⟩ := hk
  obtain ⟨m, hm⟩ : ∃ m, p.length = m := ⟨_, rfl⟩
  obtain ⟨n, hn⟩ : ∃ n, l.length = n := ⟨_, rfl⟩
  obtain ⟨nx, hnx⟩ : ∃ n, c.next = n := ⟨_, rfl⟩
  rw [hm] at hip ⊢
  rw [hn] at hnl q1
  rw [hnx] at hnl o0 o1 o2 o3
  have HNX := Lib.hid hnx
  have HC := Lib.hid hc
  have HS := Lib.hid hs
  have hpos := rcell_pos s hi
  rw [coreOf_some hc, hnx] at hpos
  have HPOS := Lib.hid hpos
  have ip : (i : Int) < (m : Int) := by omega
  have n0 : (0 : Int) ≤ (nx : Int) := by omega
  have n1 : (nx : Int) < (n : Int) := by omega
  have hnb : (nx : Int) ≤ 5 := by have := (hs.core i c hc).next; omega
  have KEEP := Lib.hid (fun W (hb : Below w.heap.size w W) => (show W.cell? (ad.add i) = some (.slice (some ad2) n c') ∧ W.cell? (ad2.add (nx * 4)) = some (.int .i64 2) ∧ W.cell? ⟨(ad2.add (nx * 4)).block, (ad2.add (nx * 4)).off + 1, none⟩ = some (.int .i64 (a : Int)) ∧ W.cell? ⟨(ad2.add (nx * 4)).block, (ad2.add (nx * 4)).off + 2, none⟩ = some (.int .i64 x) ∧ W.cell? ⟨(ad2.add (nx * 4)).block, (ad2.add (nx * 4)).off + 3, none⟩ = some (.int .i64 (r : Int)) from
    ⟨(hb.cell (World.block_lt_of_cell? w _ q1)).trans q1, (hb.cell (World.block_lt_of_cell? w _ o0)).trans o0, (hb.cell (World.block_lt_of_cell? w _ o1)).trans o1, (hb.cell (World.block_lt_of_cell? w _ o2)).trans o2, (hb.cell (World.block_lt_of_cell? w _ o3)).trans o3⟩))
  have SZ := Lib.hid st_sizes
  have ZL := Lib.hid st_lens
  clear hs hc hp hl ho hrec hzs hzb q1 o0 o1 o2 o3 hm hn hnx hpos HP
  unfold rSt
  go_enter Try.func29, Try.ntmps29
  go_wp2_with (first
    | ((with_reducible refine box_walk rfl 69 (.tmp 2) rfl (ints (rL (rcell s))) rfl ?_); intro w1 r1 b1 z1; have R1 := Lib.hid (show RAt w1 w.heap.size (rcell s) from r1); have B1 := Lib.hid b1; have hlt1 := r1.lt; clear r1 b1 z1)
    | ((with_reducible refine alloc_walk (o := ⟨some 8, _, _, _, _, _⟩) rfl 69 rfl _ rst_zero ?_); intro w2 r2 b2 z2; have D2 := Lib.hid (show DrAt w w2 w1.heap.size (rcell s) from ⟨R1.out.below b2, r2, below_on B1.out b2, hlt1⟩); have hlt2 := r2.lt; clear r2 b2 z2)
    | fail)
  obtain ⟨q1, o0, o1, o2, o3⟩ := KEEP.out w2 D2.out.2.2.1
  have cp : w2.cell? ⟨w.heap.size, i, none⟩ = some (.int .i64 (nx : Int)) := (D2.out.1.cell (k := i) (by omega)).trans (by rw [HPOS.out])
  have l1 := World.block_lt_of_cell? w2 _ q1
  have l2 := World.block_lt_of_cell? w2 _ o0
  have l3 : w.heap.size < w2.heap.size := D2.out.1.lt
  go_region
  have D3 := Lib.hid (show SpAt w (w2.alloc (.cells #[.int .i64 2, .int .i64 (a : Int), .int .i64 x, .int .i64 (r : Int)] 48)).drew w1.heap.size w2.heap.size (rcell s) 2 (a : Int) x (r : Int) from
    ⟨⟨D2.out.1.below (below_al _ _).drew, D2.out.2.1.below (below_al _ _).drew, below_on D2.out.2.2.1 (below_al _ _).drew, D2.out.2.2.2⟩, Row.new w2 48 #[.int .i64 2, .int .i64 (a : Int), .int .i64 x, .int .i64 (r : Int)], hlt2, by show w2.heap.size < (w2.alloc _).heap.size; simp⟩)
  generalize (w2.alloc (.cells #[.int .i64 2, .int .i64 (a : Int), .int .i64 x, .int .i64 (r : Int)] 48)).drew = w3 at D3 ⊢
  generalize w2.heap.size = B3 at D3 ⊢
  generalize w1.heap.size = B at D3 ⊢
  clear q1 o0 o1 o2 o3 cp l1 l2 l3 D2 R1 B1 hlt1 hlt2 KEEP
  have e0 : w3.cell? ⟨w.heap.size, i, none⟩ = some (.int .i64 (nx : Int)) := (D3.out.cell (k := i) (by omega)).trans (by rw [HPOS.out])
  have ef := D3.out.soft i
  have D4 := Lib.hid ((D3.out.put i ((nx : Int) + 1)).ext (g' := rcell (nextS i s)) (fun k hk => by have := rcell_next HC.out hi k hk; rw [HNX.out] at this; exact this))
  have HSN := Lib.hid (HS.out.next HC.out hn4)
  have HCN : Hid ((nextS i s).cores[i]? = some { c with next := c.next + 1 }) := Lib.hid (by rw [rnext_eq HC.out]; exact List.getElem?_set_self (List.getElem?_eq_some_iff.1 HC.out).1)
  obtain ⟨k0, k1, k2, k3⟩ := D4.out.op
  have R4 := Lib.hid D4.out.row
  have hB3 : B3 ≠ w.heap.size := by have := D3.out.1.2.2.2; have := D3.out.2.2.1; omega
  clear hn4
  have bF : ((N : Int) == (N : Int)) = true := by simp
  have cn : (w3.setCell ⟨w.heap.size, i, none⟩ (.int .i64 ((nx : Int) + 1))).cell? ⟨w.heap.size, 19 + i, none⟩ = some (.int .i64 (N : Int)) := (D4.out.cell (k := 19 + i) (by omega)).trans (by rw [rcell_len _ hi, coreOf_some HCN.out, ← HFUL.out])
  obtain ⟨p0, q0, hq0⟩ : ∃ p q, c.buf = p :: q := by
    cases hb : c.buf with
    | nil => have h1 := HFUL.out; have h2 := HN0.out; rw [hb] at h1; exact absurd h1.symm h2
    | cons p q => exact ⟨p, q, rfl⟩
  obtain ⟨d, hd, hdb⟩ : ∃ d, (drainS i (nextS i s)).cores[i]? = some d ∧ d.buf = q0 := ⟨{ c with next := c.next + 1, buf := q0 }, by
    have e : drainS i (nextS i s) = ⟨(nextS i s).cores.set i { c with next := c.next + 1, buf := q0 }, wrt (nextS i s).mem p0⟩ := by simp [drainS, HCN.out, hq0]
    rw [e]; exact List.getElem?_set_self (List.getElem?_eq_some_iff.1 HCN.out).1, rfl⟩
  have hroom4 : d.buf.length < 4 := by have := HFUL.out; rw [hq0] at this; simp at this; rw [hdb]; omega
  have HCT := Lib.hid hd
  have DL := Lib.hid (rdrain_any i (nextS i s) (w3.setCell ⟨w.heap.size, i, none⟩ (.int .i64 ((nx : Int) + 1))) HSN.out hi)
  unfold rSt at DL
  have ZT : Hid ((ints (rL (rcell (nextS i s)))).length = (ints (rL (rcell (drainS i (nextS i s))))).length) := Lib.hid (by rw [rL_ints_len, rL_ints_len])
  clear hd hdb hq0
  go_wp2_with (first
    | (with_reducible refine loadRow_walk rfl 69 (.tmp 6) rfl w.heap.size rfl (ints (rL (rcell (nextS i s)))) rst_struct (SZ.out _) 69 R4.out ?_)
    | (go_at_call 30; refine DL.out.mono ?_; rintro e w5 ⟨rfl, hb5⟩; have B5 := Lib.hid hb5; have R5 := Lib.hid (R4.out.below hb5); clear hb5)
    | ((with_reducible refine storeRow_walk rfl 69 (.tmp 6) (.tmp 91) rfl w.heap.size rfl (ints (rL (rcell (drainS i (nextS i s))))) rfl (SZ.out _) 69 (ints (rL (rcell (nextS i s)))) R5.out ZT.out (ints_one _) ?_); (intro w7 r7 o7 z7; have D7 := Lib.hid (D4.out.retake B5.out r7 o7); clear r7 o7 z7))
    | fail)
  clear k0 k1 k2 k3 cn DL ZT
  obtain ⟨k0, k1, k2, k3⟩ := D7.out.op
  have cb := coreOf_some HCT.out
  have hlenb : rcell (drainS i (nextS i s)) (19 + i) = (d.buf.length : Int) := by rw [rcell_len _ hi, cb]
  have PUSH := Lib.hid (rcell_push (a := (a : Int)) (x := x) HCT.out hi hroom4)
  obtain ⟨b, hb⟩ : ∃ b, d.buf.length = b := ⟨_, rfl⟩
  rw [hb] at hlenb hroom4 PUSH
  have cl : w7.cell? ⟨w.heap.size, 19 + i, none⟩ = some (.int .i64 (b : Int)) := (D7.out.cell (k := 19 + i) (by omega)).trans (by rw [hlenb])
  have c0 := D7.out.cell (k := 22 + i * 8 + b * 2) (by omega)
  have c1 := D7.out.cell (k := 22 + i * 8 + b * 2 + 1) (by omega)
  have f0 := D7.out.soft (22 + i * 8 + b * 2)
  have f1 := D7.out.soft (22 + i * 8 + b * 2 + 1)
  have D9 := ((D7.out.put (22 + i * 8 + b * 2) (a : Int)).put (22 + i * 8 + b * 2 + 1) x).drew
  generalize rcell (drainS i (nextS i s)) (22 + i * 8 + b * 2) = z0 at c0
  generalize rcell (drainS i (nextS i s)) (22 + i * 8 + b * 2 + 1) = z1 at c1
  have j0 : (0 : Int) ≤ (b : Int) := by omega
  have j4 : (b : Int) < 4 := by omega
  have HLB := Lib.hid hlenb
  have HBB := Lib.hid hb
  clear cb hb hlenb
  go_simp
  go_region
  generalize ((w7.setCell ⟨w.heap.size, 22 + i * 8 + b * 2, none⟩ (.int .i64 (a : Int))).setCell ⟨w.heap.size, 22 + i * 8 + b * 2 + 1, none⟩ (.int .i64 x)).drew = w9 at D9 ⊢
  have D9h := Lib.hid D9
  clear D9 cl c0 c1 f0 f1 k0 k1 k2 k3
  obtain ⟨k0, k1, k2, k3⟩ := D9h.out.op
  have cl : w9.cell? ⟨w.heap.size, 19 + i, none⟩ = some (.int .i64 (b : Int)) := (D9h.out.cell (k := 19 + i) (by omega)).trans (by unfold upd; rw [if_neg (by omega), if_neg (by omega), HLB.out])
  have fl := D9h.out.soft (19 + i)
  have D10 := Lib.hid ((D9h.out.put (19 + i) ((b : Int) + 1)).ext (fun k hk => PUSH.out k hk))
  go_wp2_with (first
    | (with_reducible refine loadRow_walk rfl 69 (.tmp 6) rfl w.heap.size rfl (ints (rL (rcell (pushS i ((a : Int), x) (drainS i (nextS i s)))))) rst_struct (SZ.out _) 69 D10.out.row ?_)
    | ((with_reducible refine storeRow_walk rfl 69 (.tmp 8) (.tmp 141) rfl B rfl (ints (rL (rcell (pushS i ((a : Int), x) (drainS i (nextS i s)))))) rfl (SZ.out _) 69 (ints (List.replicate 46 0)) D10.out.zeros (ZL.out _) (ints_one _) ?_); (intro w8 r8 o8 z8; have R8 := Lib.hid r8; have B8 := Lib.hid (D10.out.done o8); clear r8 o8 z8)))
  refine bodyPost_ret (results_row Try.results29 rfl rst_struct (SZ.out _) R8.out) rfl ⟨rfl, B8.out⟩

#print axioms rstep_fence
#print axioms rstep_swap
#print axioms rstep_load
#print axioms rstep_store0
#print axioms rstep_room
#print axioms rstep_full
end Go.Proofs.Ytgljgpllooehkaa
