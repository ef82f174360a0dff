/-
  Layer 7 (litmus), the reference: how a state lies in the reference's memory (46 integers by place); laws for its structs as a whole.
  Layer 7 (litmus), the reference: drain.
  Layer 7 (litmus), the reference: drain where a store is pending.
  Layer 7 (litmus), the reference: drain and all, of any state.
  Layer 7 (litmus), the reference: what a step does to the 46 integers (no program in it).
  Conditions: those that each theorem states.
-/
import Derived.Test.YtgljgpllooehkaaLit7
import Derived.Test.YtgljgpllooehkaaLit3
import Derived.Deep.DeepMust
namespace Go.Proofs.Ytgljgpllooehkaa
open Go.ChangeShapes Go.WideShapes Go.ChangeAt Go.RowKit

/-- 46 integers by place. -/
def rL (g : Nat → Int) : List Int := (List.range 46).map g
def upd (g : Nat → Int) (k : Nat) (x : Int) : Nat → Int := fun i => if i = k then x else g i

theorem rL_len (g : Nat → Int) : (rL g).length = 46 := by simp [rL]
theorem rL_at (g : Nat → Int) {k : Nat} (h : k < 46) : (rL g)[k]? = some (g k) := by simp [rL, List.getElem?_range h]
theorem rL_set (g : Nat → Int) (k : Nat) (x : Int) : (rL g).set k x = rL (upd g k x) := by
  apply List.ext_getElem?
  intro i
  by_cases hi : i < 46
  · rw [rL_at _ hi]
    by_cases e : k = i
    · subst e
      rw [List.getElem?_set_self (by rw [rL_len]; exact hi)]
      simp [upd]
    · rw [List.getElem?_set_ne e, rL_at _ hi]
      simp [upd, Ne.symm e]
  · rw [List.getElem?_eq_none (by rw [List.length_set, rL_len]; omega), List.getElem?_eq_none (by rw [rL_len]; omega)]
theorem rL_ext {g h : Nat → Int} (e : ∀ k, k < 46 → g k = h k) : rL g = rL h := by
  unfold rL
  exact List.map_congr_left fun k hk => e k (List.mem_range.1 hk)
theorem rL_inj {g h : Nat → Int} (e : rL g = rL h) : ∀ k, k < 46 → g k = h k := by
  intro k hk
  have h1 := rL_at g hk
  rw [e, rL_at h hk] at h1
  injection h1 with h1
  exact h1.symm

def coreOf (k : Nat) (s : St) : Core := (s.cores[k]?).getD core0

/-- Cell j of a buffer. -/
def bcell (q : List (Int × Int)) (j : Nat) : Int := if j % 2 = 0 then ((q[j / 2]?).getD (0, 0)).1 else ((q[j / 2]?).getD (0, 0)).2

/-- Cell k of a state. -/
def rcell (s : St) (k : Nat) : Int :=
  if k < 3 then ((coreOf k s).next : Int)
  else if k < 15 then (((coreOf ((k - 3) / 4) s).regs)[(k - 3) % 4]?).getD 0
  else if k < 19 then (s.mem[k - 15]?).getD 0
  else if k < 22 then ((coreOf (k - 19) s).buf.length : Int)
  else bcell (coreOf ((k - 22) / 8) s).buf ((k - 22) % 8)

def rSt (s : St) : List Int := rL (rcell s)

theorem coreOf_some {s : St} {i : Nat} {c : Core} (h : s.cores[i]? = some c) : coreOf i s = c := by simp [coreOf, h]

theorem coreOf_set {s : St} {i : Nat} (hi : i < s.cores.length) (c : Core) (m : List Int) (k : Nat) : coreOf k ⟨s.cores.set i c, m⟩ = if k = i then c else coreOf k s := by
  unfold coreOf
  by_cases e : k = i
  · subst e; simp [List.getElem?_set_self hi]
  · simp [List.getElem?_set_ne (Ne.symm e), e]

theorem bcell_cons (p : Int × Int) (q : List (Int × Int)) (j : Nat) : bcell (p :: q) (j + 2) = bcell q j := by
  unfold bcell
  rw [show (j + 2) % 2 = j % 2 by omega, show (j + 2) / 2 = j / 2 + 1 by omega]
  simp

theorem bcell_end {q : List (Int × Int)} {j : Nat} (h : q.length ≤ j / 2) : bcell q j = 0 := by
  unfold bcell
  rw [List.getElem?_eq_none h]
  simp

theorem bcell_even {q : List (Int × Int)} {k : Nat} {p : Int × Int} (h : q[k]? = some p) : bcell q (k * 2) = p.1 := by
  unfold bcell
  rw [show k * 2 % 2 = 0 by omega, show k * 2 / 2 = k by omega, h]; rfl

theorem bcell_odd {q : List (Int × Int)} {k : Nat} {p : Int × Int} (h : q[k]? = some p) : bcell q (k * 2 + 1) = p.2 := by
  unfold bcell
  rw [if_neg (by omega), show (k * 2 + 1) / 2 = k by omega, h]; rfl

theorem rcell_pos (s : St) {i : Nat} (hi : i < 3) : rcell s i = ((coreOf i s).next : Int) := by unfold rcell; rw [if_pos hi]
theorem rcell_len (s : St) {i : Nat} (hi : i < 3) : rcell s (19 + i) = ((coreOf i s).buf.length : Int) := by
  unfold rcell
  rw [if_neg (by omega), if_neg (by omega), if_neg (by omega), if_pos (by omega), show 19 + i - 19 = i by omega]
theorem rcell_mem (s : St) {a : Nat} (ha : a < 4) : rcell s (15 + a) = (s.mem[a]?).getD 0 := by
  unfold rcell
  rw [if_neg (by omega), if_neg (by omega), if_pos (by omega), show 15 + a - 15 = a by omega]
theorem rcell_buf (s : St) {i j : Nat} (hj : j < 8) : rcell s (22 + i * 8 + j) = bcell (coreOf i s).buf j := by
  unfold rcell
  rw [if_neg (by omega), if_neg (by omega), if_neg (by omega), if_neg (by omega), show (22 + i * 8 + j - 22) / 8 = i by omega, show (22 + i * 8 + j - 22) % 8 = j by omega]
theorem rcell_reg (s : St) {i r : Nat} (hi : i < 3) (hr : r < 4) : rcell s (3 + (4 * i + r)) = (((coreOf i s).regs)[r]?).getD 0 := by
  unfold rcell
  rw [if_neg (by omega), if_pos (by omega), show (3 + (4 * i + r) - 3) / 4 = i by omega, show (3 + (4 * i + r) - 3) % 4 = r by omega]

/-- Each of the 46 places is one of these. -/
theorem places {P : Nat → Prop} (h1 : ∀ i, i < 3 → P i) (h2 : ∀ i r, i < 3 → r < 4 → P (3 + (4 * i + r))) (h3 : ∀ a, a < 4 → P (15 + a)) (h4 : ∀ i, i < 3 → P (19 + i)) (h5 : ∀ i j, i < 3 → j < 8 → P (22 + i * 8 + j)) : ∀ k, k < 46 → P k := by
  intro k hk
  by_cases c1 : k < 3
  · exact h1 k c1
  by_cases c2 : k < 15
  · have := h2 ((k - 3) / 4) ((k - 3) % 4) (by omega) (by omega)
    rwa [show 3 + (4 * ((k - 3) / 4) + (k - 3) % 4) = k by omega] at this
  by_cases c3 : k < 19
  · have := h3 (k - 15) (by omega)
    rwa [show 15 + (k - 15) = k by omega] at this
  by_cases c4 : k < 22
  · have := h4 (k - 19) (by omega)
    rwa [show 19 + (k - 19) = k by omega] at this
  · have := h5 ((k - 22) / 8) ((k - 22) % 8) (by omega) (by omega)
    rwa [show 22 + (k - 22) / 8 * 8 + (k - 22) % 8 = k by omega] at this

/-- The state is told by its 46 integers. -/
theorem rSt_inj {s t : St} (hs : Shape s) (ht : Shape t) (h : rSt s = rSt t) : s = t := by
  have e := rL_inj h
  have hc : ∀ i, i < 3 → coreOf i s = coreOf i t := by
    intro i hi
    obtain ⟨c, hcs⟩ : ∃ c, s.cores[i]? = some c := ⟨_, List.getElem?_eq_getElem (by rw [hs.len]; exact hi)⟩
    obtain ⟨d, hdt⟩ : ∃ c, t.cores[i]? = some c := ⟨_, List.getElem?_eq_getElem (by rw [ht.len]; exact hi)⟩
    have oc := hs.core i c hcs
    have od := ht.core i d hdt
    have e1 := e i (by omega)
    rw [rcell_pos s hi, rcell_pos t hi, coreOf_some hcs, coreOf_some hdt] at e1
    have e2 := e (19 + i) (by omega)
    rw [rcell_len s hi, rcell_len t hi, coreOf_some hcs, coreOf_some hdt] at e2
    rw [coreOf_some hcs, coreOf_some hdt]
    have e3 : c.regs = d.regs := by
      apply List.ext_getElem?
      intro r
      by_cases hr : r < 4
      · have := e (3 + (4 * i + r)) (by omega)
        rw [rcell_reg s hi hr, rcell_reg t hi hr, coreOf_some hcs, coreOf_some hdt, List.getElem?_eq_getElem (by rw [oc.regs]; exact hr), List.getElem?_eq_getElem (by rw [od.regs]; exact hr)] at this
        rw [List.getElem?_eq_getElem (by rw [oc.regs]; exact hr), List.getElem?_eq_getElem (by rw [od.regs]; exact hr)]
        simpa using this
      · rw [List.getElem?_eq_none (by rw [oc.regs]; omega), List.getElem?_eq_none (by rw [od.regs]; omega)]
    have e4 : c.buf = d.buf := by
      have hl : c.buf.length = d.buf.length := by omega
      apply List.ext_getElem?
      intro k
      by_cases hk : k < c.buf.length
      · obtain ⟨p, hp⟩ : ∃ p, c.buf[k]? = some p := ⟨_, List.getElem?_eq_getElem hk⟩
        obtain ⟨q, hq⟩ : ∃ p, d.buf[k]? = some p := ⟨_, List.getElem?_eq_getElem (by omega)⟩
        have hk4 : k < 4 := by have := oc.room; omega
        have f1 := e (22 + i * 8 + k * 2) (by omega)
        have f2 := e (22 + i * 8 + (k * 2 + 1)) (by omega)
        rw [rcell_buf s (by omega), rcell_buf t (by omega), coreOf_some hcs, coreOf_some hdt] at f1 f2
        rw [bcell_even hp, bcell_even hq] at f1
        rw [bcell_odd hp, bcell_odd hq] at f2
        rw [hp, hq]
        exact congrArg some (Prod.ext f1 f2)
      · rw [List.getElem?_eq_none (by omega), List.getElem?_eq_none (by omega)]
    obtain ⟨n, g, q⟩ := c
    obtain ⟨n', g', q'⟩ := d
    simp only at e1 e3 e4
    subst e3 e4
    obtain rfl : n = n' := by omega
    rfl
  have h1 : s.cores = t.cores := by
    apply List.ext_getElem?
    intro i
    by_cases hi : i < 3
    · have := hc i hi
      unfold coreOf at this
      rw [List.getElem?_eq_getElem (by rw [hs.len]; exact hi), List.getElem?_eq_getElem (by rw [ht.len]; exact hi)] at this ⊢
      simpa using this
    · rw [List.getElem?_eq_none (by rw [hs.len]; omega), List.getElem?_eq_none (by rw [ht.len]; omega)]
  have h2 : s.mem = t.mem := by
    apply List.ext_getElem?
    intro a
    by_cases ha : a < 4
    · have := e (15 + a) (by omega)
      rw [rcell_mem s ha, rcell_mem t ha, List.getElem?_eq_getElem (by rw [hs.mem]; exact ha), List.getElem?_eq_getElem (by rw [ht.mem]; exact ha)] at this
      rw [List.getElem?_eq_getElem (by rw [hs.mem]; exact ha), List.getElem?_eq_getElem (by rw [ht.mem]; exact ha)]
      simpa using this
    · rw [List.getElem?_eq_none (by rw [hs.mem]; omega), List.getElem?_eq_none (by rw [ht.mem]; omega)]
  obtain ⟨a, b⟩ := s
  obtain ⟨a', b'⟩ := t
  simp only at h1 h2
  subst h1 h2
  rfl

theorem rst_size : (Try.prog.info? 69).map (·.size) = some 46 := by kernel_rfl
theorem rst_zero : (Try.prog.info? 69).map (·.zero) = some (some (.agg (ints (List.replicate 46 0)).toArray)) := by kernel_rfl
theorem rst_one : (Try.prog.info? 69).map (fun i => (i.size, i.zero.isSome)) = some (46, true) := by kernel_rfl
theorem rst_struct : isStruct Try.prog 69 = true := by kernel_rfl
theorem rst_info : (Try.prog.info? 69).map (fun i => (i.zero, i.size, i.bytes)) = some (some (.agg (ints (List.replicate 46 0)).toArray), 46, 368) := by kernel_rfl

/-- A result that lies in a variable of a struct's type. -/
theorem results_row {P : Program} {fn : Func} {s : Tmp} {T : TypeId} (h : fn.results = #[.cell s T]) {tmps : Array Value} {w : World} {b : Nat} (hs : tmps.getD s undef = .pointer (some ⟨b, 0, none⟩)) {cs : List Value} {t : TypeId} (hT : isStruct P T = true) (hi : (P.info? T).map (·.size) = some cs.length) (hg : Row w b t cs) :
    (results fn tmps).run P w = .ok (.agg cs.toArray) w := by
  have hl := run_loadVar_cells (P := P) w T ⟨b, 0, none⟩ cs hT hi (fun j u hu => by rw [Addr.add_lit, Nat.zero_add, hg.cell]; exact hu)
  have hs' : tmps[s]?.getD undef = .pointer (some ⟨b, 0, none⟩) := by simpa using hs
  simp [results, h, hs', hl, asAddr]

/-- State s lies in block b, in the reference's way. -/
def RAt (w : World) (b : Nat) (g : Nat → Int) : Prop := Row w b 69 (ints (rL g))

theorem RAt.row {w : World} {b : Nat} {g : Nat → Int} (h : RAt w b g) : Row w b 69 (ints (rL g)) := h
theorem RAt.lt {w : World} {b : Nat} {g : Nat → Int} (h : RAt w b g) : b < w.heap.size := Row.lt h
theorem RAt.cell {w : World} {b : Nat} {g : Nat → Int} (h : RAt w b g) {k : Nat} (hk : k < 46) : w.cell? ⟨b, k, none⟩ = some (.int .i64 (g k)) := row_cell h (rL_at g hk)
theorem RAt.put {w : World} {b : Nat} {g : Nat → Int} (h : RAt w b g) (k : Nat) (x : Int) : RAt (w.setCell ⟨b, k, none⟩ (.int .i64 x)) b (upd g k x) := by
  have := row_put h k x
  rw [rL_set] at this
  exact this
theorem RAt.drew {w : World} {b : Nat} {g : Nat → Int} (h : RAt w b g) : RAt w.drew b g := h
theorem RAt.soft {w : World} {b : Nat} {g : Nat → Int} (h : RAt w b g) (k : Nat) : w.frozen? ⟨b, k, none⟩ = false := Row.soft h k
theorem RAt.below {w w' : World} {b : Nat} {g : Nat → Int} (h : RAt w b g) (hb : Below w.heap.size w w') : RAt w' b g := Row.below h hb
theorem RAt.ext {w : World} {b : Nat} {g g' : Nat → Int} (h : RAt w b g) (e : ∀ k, k < 46 → g k = g' k) : RAt w b g' := by
  unfold RAt at h ⊢
  rw [← rL_ext e]
  exact h

theorem rL_ints_len (g : Nat → Int) : (ints (rL g)).length = 46 := by rw [ints_len, rL_len]

/-- What a call leaves that answers a state. -/
def RetSt (g : Nat → Int) (w : World) (e : Ending) (w' : World) : Prop := e = .returned (.agg (ints (rL g)).toArray) ∧ Below w.heap.size w w'

set_option maxRecDepth 100000 in
set_option maxHeartbeats 2000000 in
theorem rdrain_none (i : Nat) (hi : i < 3) (g : Nat → Int) (h0 : g (19 + i) = 0) (w : World) :
    Calls Try.prog 30 #[.agg (ints (rL g)).toArray, .int .i64 (i : Int)] w (RetSt g w) := by
  have i0 : (0 : Int) ≤ (i : Int) := by omega
  have i3 : (i : Int) < 3 := by omega
  have SZ := Lib.hid ((rst_size).trans (congrArg some (rL_ints_len g).symm))
  have ZL : Hid ((ints (List.replicate 46 0)).length = (ints (rL g)).length) := Lib.hid (by rw [rL_ints_len, ints_len, List.length_replicate])
  have H0 := Lib.hid h0
  clear h0
  go_enter Try.func30, Try.ntmps30
  go_wp2_with (first
    | ((with_reducible refine box_walk rfl 69 (.tmp 0) rfl (ints (rL g)) rfl ?_); intro w1 r1 b1 z1; have R1 := Lib.hid (show RAt w1 w.heap.size g from r1); have B1 := Lib.hid b1; have hlt1 := r1.lt; clear r1 b1 z1)
    | ((with_reducible refine alloc_walk (o := ⟨some 4, _, _, _, _, _⟩) rfl 69 rfl _ rst_zero ?_); go_must (intro w2 r2 b2 z2; have R2 := Lib.hid (R1.out.below b2); have Q2 := Lib.hid r2; have B2 := Lib.hid (below_on B1.out b2); have c0 : w2.cell? ⟨w.heap.size, 19 + i, none⟩ = some (.int .i64 0) := ((R2.out.cell (k := 19 + i) (by omega)).trans (by rw [H0.out])); clear r2 b2 z2))
    | (with_reducible refine loadRow_walk rfl 69 (.tmp 2) rfl w.heap.size rfl (ints (rL g)) rst_struct SZ.out 69 R2.out.row ?_)
    | ((with_reducible refine storeRow_walk rfl 69 (.tmp 4) (.tmp 11) rfl w1.heap.size rfl (ints (rL g)) rfl SZ.out 69 (ints (List.replicate 46 0)) Q2.out ZL.out (ints_one _) ?_); intro w3 r3 o3 z3; have R3 := Lib.hid r3; have B3 := Lib.hid (Only.below B2.out o3 B2.out.size (fun k hk e => by subst e; omega)); clear r3 o3 z3))
  refine bodyPost_ret (results_row Try.results30 rfl rst_struct SZ.out R3.out) rfl ⟨rfl, B3.out⟩

/-- A call that keeps a state in a variable of its own and answers another variable. -/
def DrAt (w wr : World) (B : Nat) (g : Nat → Int) : Prop :=
  RAt wr w.heap.size g ∧ Row wr B 69 (ints (List.replicate 46 0)) ∧ Below w.heap.size w wr ∧ w.heap.size < B

theorem DrAt.put {w wr : World} {B : Nat} {g : Nat → Int} (h : DrAt w wr B g) (k : Nat) (x : Int) : DrAt w (wr.setCell ⟨w.heap.size, k, none⟩ (.int .i64 x)) B (upd g k x) :=
  ⟨h.1.put k x, h.2.1.far (p := ⟨w.heap.size, k, none⟩) (Nat.ne_of_gt h.2.2.2) _, h.2.2.1.setCell (p := ⟨w.heap.size, k, none⟩) (Nat.le_refl _) _, h.2.2.2⟩
theorem DrAt.drew {w wr : World} {B : Nat} {g : Nat → Int} (h : DrAt w wr B g) : DrAt w wr.drew B g := ⟨h.1, h.2.1, h.2.2.1.drew, h.2.2.2⟩
theorem DrAt.ext {w wr : World} {B : Nat} {g g' : Nat → Int} (h : DrAt w wr B g) (e : ∀ k, k < 46 → g k = g' k) : DrAt w wr B g' := ⟨h.1.ext e, h.2⟩

/-- The first k stores of a buffer have moved up. -/
def shG (g : Nat → Int) (o p : Nat) (x : Int) (k : Nat) : Nat → Int := fun j => if o ≤ j ∧ j < o + 2 * k then g (j + 2) else if j = p then x else g j

theorem shG_zero (g : Nat → Int) (o p : Nat) (x : Int) : ∀ j, j < 46 → upd g p x j = shG g o p x 0 j := by
  intro j _
  unfold upd shG
  rw [if_neg (show ¬ (o ≤ j ∧ j < o + 2 * 0) by omega)]

theorem shG_step (g : Nat → Int) (o p : Nat) (x : Int) (k : Nat) (hp : p < o) : ∀ j, j < 46 → upd (upd (shG g o p x k) (o + k * 2) (g (o + k * 2 + 2))) (o + k * 2 + 1) (g (o + k * 2 + 1 + 2)) j = shG g o p x (k + 1) j := by
  intro j _
  unfold upd shG
  by_cases h1 : j = o + k * 2 + 1
  · subst h1; simp; omega
  · rw [if_neg h1]
    by_cases h2 : j = o + k * 2
    · subst h2; simp; omega
    · rw [if_neg h2]
      by_cases h3 : o ≤ j ∧ j < o + 2 * k
      · rw [if_pos h3, if_pos (by omega)]
      · rw [if_neg h3, if_neg (show ¬ (o ≤ j ∧ j < o + 2 * (k + 1)) by omega)]

/-- The cells behind drain. -/
def drG (g : Nat → Int) (i m : Nat) : Nat → Int :=
  upd (upd (upd (shG g (22 + i * 8) (15 + (g (22 + i * 8)).toNat) (g (22 + i * 8 + 1)) m) (19 + i) (m : Int)) (22 + i * 8 + m * 2) 0) (22 + i * 8 + m * 2 + 1) 0

set_option maxRecDepth 100000 in
set_option maxHeartbeats 4000000 in
theorem rdrain_some (i m : Nat) (hi : i < 3) (hm : m < 4) (g : Nat → Int) (h0 : g (19 + i) = (m : Int) + 1) (ha0 : 0 ≤ g (22 + i * 8)) (ha3 : g (22 + i * 8) < 4) (w : World) :
    Calls Try.prog 30 #[.agg (ints (rL g)).toArray, .int .i64 (i : Int)] w (RetSt (drG g i m) w) := by
  have i0 : (0 : Int) ≤ (i : Int) := by omega
  have i3 : (i : Int) < 3 := by omega
  have SZ := Lib.hid ((rst_size).trans (congrArg some (rL_ints_len g).symm))
  have SZ2 := Lib.hid ((rst_size).trans (congrArg some (rL_ints_len (drG g i m)).symm))
  have ZL : Hid ((ints (List.replicate 46 0)).length = (ints (rL (drG g i m))).length) := Lib.hid (by rw [rL_ints_len, ints_len, List.length_replicate])
  obtain ⟨a, ha⟩ : ∃ a, g (22 + i * 8) = a := ⟨_, rfl⟩
  obtain ⟨x, hx⟩ : ∃ a, g (22 + i * 8 + 1) = a := ⟨_, rfl⟩
  rw [ha] at ha0 ha3
  have H0 := Lib.hid h0
  have HA := Lib.hid ha
  have HX := Lib.hid hx
  have m1 : ¬ ((m : Int) + 1 = 0) := by omega
  have bz : ((m : Int) + 1 == 0) = false := by simpa using m1
  clear h0 ha hx
  have GE : Hid (∀ j, j < 46 → drG g i m j = upd (upd (upd (shG g (22 + i * 8) (15 + a.toNat) x m) (19 + i) (m : Int)) (22 + i * 8 + m * 2) 0) (22 + i * 8 + m * 2 + 1) 0 j) := Lib.hid (fun j _ => by unfold drG; rw [HA.out, HX.out])
  go_enter Try.func30, Try.ntmps30
  go_wp2_with (first
    | ((with_reducible refine box_walk rfl 69 (.tmp 0) rfl (ints (rL g)) rfl ?_); intro w1 r1 b1 z1; have R1 := Lib.hid (show RAt w1 w.heap.size g from r1); have B1 := Lib.hid b1; have hlt1 := r1.lt; clear r1 b1 z1)
    | ((with_reducible refine alloc_walk (o := ⟨some 4, _, _, _, _, _⟩) rfl 69 rfl _ rst_zero ?_); intro w2 r2 b2 z2; have D2 := Lib.hid (show DrAt w w2 w1.heap.size g from ⟨R1.out.below b2, r2, below_on B1.out b2, hlt1⟩); have c0 : w2.cell? ⟨w.heap.size, 19 + i, none⟩ = some (.int .i64 ((m : Int) + 1)) := ((D2.out.1.cell (k := 19 + i) (by omega)).trans (by rw [H0.out])); clear r2 b2 z2)
    | fail)
  generalize hB : w1.heap.size = B2 at D2 ⊢
  have cx0 : w2.cell? ⟨w.heap.size, 22 + i * 8, none⟩ = some (.int .i64 a) := (D2.out.1.cell (k := 22 + i * 8) (by omega)).trans (by rw [HA.out])
  have cx1 : w2.cell? ⟨w.heap.size, 22 + i * 8 + 1, none⟩ = some (.int .i64 x) := (D2.out.1.cell (k := 22 + i * 8 + 1) (by omega)).trans (by rw [HX.out])
  have cx2 := D2.out.1.cell (k := 15 + a.toNat) (by omega)
  have f2 := D2.out.1.soft (15 + a.toNat)
  go_region
  have D3 := Lib.hid (((D2.out.put (15 + a.toNat) x).drew).ext (shG_zero g (22 + i * 8) (15 + a.toNat) x))
  generalize (w2.setCell ⟨w.heap.size, 15 + a.toNat, none⟩ (.int .i64 x)).drew = w3 at D3 ⊢
  clear cx0 cx1 cx2 f2 c0 D2 hB R1 B1 hlt1
  go_wp2
  go_loopw [5] (fun kv wr => ∃ k : Nat, k ≤ m ∧ kv = .int .i64 ((k : Int) + 1) ∧ Hid (DrAt w wr B2 (shG g (22 + i * 8) (15 + a.toNat) x k))) (fun kv _ => m + 1 - (intOf kv).toNat)
  case atStart => exact ⟨0, Nat.zero_le _, rfl, D3⟩
  case round =>
    obtain ⟨k, hk, rfl, HD⟩ := hrel
    have cl : wr.cell? ⟨w.heap.size, 19 + i, none⟩ = some (.int .i64 ((m : Int) + 1)) := (HD.out.1.cell (k := 19 + i) (by omega)).trans (by unfold shG; rw [if_neg (by omega), if_neg (by omega), H0.out])
    by_cases hlt : k < m
    · have c0 : wr.cell? ⟨w.heap.size, 22 + i * 8 + (k + 1) * 2, none⟩ = some (.int .i64 (g (22 + i * 8 + k * 2 + 2))) := (HD.out.1.cell (k := 22 + i * 8 + (k + 1) * 2) (by omega)).trans (by unfold shG; rw [if_neg (by omega), if_neg (by omega), show 22 + i * 8 + (k + 1) * 2 = 22 + i * 8 + k * 2 + 2 by omega])
      have c1 : wr.cell? ⟨w.heap.size, 22 + i * 8 + (k + 1) * 2 + 1, none⟩ = some (.int .i64 (g (22 + i * 8 + k * 2 + 1 + 2))) := (HD.out.1.cell (k := 22 + i * 8 + (k + 1) * 2 + 1) (by omega)).trans (by unfold shG; rw [if_neg (by omega), if_neg (by omega), show 22 + i * 8 + (k + 1) * 2 + 1 = 22 + i * 8 + k * 2 + 1 + 2 by omega])
      have d0 := HD.out.1.cell (k := 22 + i * 8 + k * 2) (by omega)
      have d1 := HD.out.1.cell (k := 22 + i * 8 + k * 2 + 1) (by omega)
      have f0 := HD.out.1.soft (22 + i * 8 + k * 2)
      have f1 := HD.out.1.soft (22 + i * 8 + k * 2 + 1)
      have j0 : (0 : Int) ≤ (k : Int) := by omega
      have j4 : (k : Int) + 1 < 4 := by omega
      have D4 := Lib.hid ((((HD.out.put (22 + i * 8 + k * 2) (g (22 + i * 8 + k * 2 + 2))).put (22 + i * 8 + k * 2 + 1) (g (22 + i * 8 + k * 2 + 1 + 2))).drew).ext (shG_step g (22 + i * 8) (15 + a.toNat) x k (by omega)))
      generalize g (22 + i * 8 + k * 2 + 2) = y0 at c0 D4
      generalize g (22 + i * 8 + k * 2 + 1 + 2) = y1 at c1 D4
      generalize shG g (22 + i * 8) (15 + a.toNat) x k (22 + i * 8 + k * 2) = z0 at d0
      generalize shG g (22 + i * 8) (15 + a.toNat) x k (22 + i * 8 + k * 2 + 1) = z1 at d1
      go_wp2
      go_region
      go_wp2
      go_roundw
      case rel => exact ⟨k + 1, by omega, by go_num, D4⟩
      case measure => simp [intOf]; omega
    · obtain rfl : k = m := by omega
      have ew : IntKind.i64.wrap ((k : Int) + 1 - 1) = (k : Int) := by rw [IntWalk.i64_in _ (by omega)]; omega
      have fl := HD.out.1.soft (19 + i)
      clear D3
      go_wp2
      have D5 := Lib.hid (HD.out.put (19 + i) (k : Int))
      generalize wr.setCell ⟨w.heap.size, 19 + i, none⟩ (.int .i64 (k : Int)) = w5 at D5 ⊢
      have d5 : w5.cell? ⟨w.heap.size, 19 + i, none⟩ = some (.int .i64 (k : Int)) := (D5.out.1.cell (k := 19 + i) (by omega)).trans (by unfold upd; rw [if_pos rfl])
      have d6 := D5.out.1.cell (k := 22 + i * 8 + k * 2) (by omega)
      have d7 := D5.out.1.cell (k := 22 + i * 8 + k * 2 + 1) (by omega)
      have f6 := D5.out.1.soft (22 + i * 8 + k * 2)
      have f7 := D5.out.1.soft (22 + i * 8 + k * 2 + 1)
      generalize upd (shG g (22 + i * 8) (15 + a.toNat) x k) (19 + i) (k : Int) (22 + i * 8 + k * 2) = z0 at d6
      generalize upd (shG g (22 + i * 8) (15 + a.toNat) x k) (19 + i) (k : Int) (22 + i * 8 + k * 2 + 1) = z1 at d7
      have j0 : (0 : Int) ≤ (k : Int) := by omega
      have j4 : (k : Int) < 4 := by omega
      clear cl fl ew
      go_region
      have D6 := Lib.hid ((((D5.out.put (22 + i * 8 + k * 2) 0).put (22 + i * 8 + k * 2 + 1) 0).drew).ext (fun j hj => (GE.out j hj).symm))
      generalize ((w5.setCell ⟨w.heap.size, 22 + i * 8 + k * 2, none⟩ (.int .i64 0)).setCell ⟨w.heap.size, 22 + i * 8 + k * 2 + 1, none⟩ (.int .i64 0)).drew = w6 at D6 ⊢
      clear d5 d6 d7 f6 f7
      have R6 := Lib.hid D6.out.1.row
      have Z6 := Lib.hid D6.out.2.1
      go_wp2_with (first
        | (with_reducible refine loadRow_walk rfl 69 (.tmp 2) rfl w.heap.size rfl (ints (rL (drG g i k))) rst_struct SZ2.out 69 R6.out ?_)
        | ((with_reducible refine storeRow_walk rfl 69 (.tmp 4) (.tmp 63) rfl B2 rfl (ints (rL (drG g i k))) rfl SZ2.out 69 (ints (List.replicate 46 0)) Z6.out ZL.out (ints_one _) ?_); (intro w7 r7 o7 z7; have R7 := Lib.hid r7; have B7 := Lib.hid (Only.below D6.out.2.2.1 o7 D6.out.2.2.1.size (fun k hk e => by subst e; have := D6.out.2.2.2; omega)); clear r7 o7 z7)))
      refine bodyPost_ret (results_row Try.results30 rfl rst_struct SZ2.out R7.out) rfl ⟨rfl, B7.out⟩

theorem drG_drain {s : St} {i m : Nat} {c : Core} {p : Int × Int} {q : List (Int × Int)} (hs : Shape s) (hi : i < 3) (hc : s.cores[i]? = some c) (hb : c.buf = p :: q) (hm : q.length = m) :
    ∀ j, j < 46 → drG (rcell s) i m j = rcell (drainS i s) j := by
  have oc := hs.core i c hc
  have hlen : i < s.cores.length := by rw [hs.len]; exact hi
  have hd : drainS i s = ⟨s.cores.set i { c with buf := q }, wrt s.mem p⟩ := by simp [drainS, hc, hb]
  have hm3 : m ≤ 3 := by have := oc.room; rw [hb] at this; simp at this; omega
  have hp := oc.bufd p (by rw [hb]; simp)
  have co := coreOf_some hc
  have e0 : rcell s (22 + i * 8) = p.1 := by
    have := rcell_buf s (i := i) (j := 0) (by omega)
    rw [Nat.add_zero, co, hb] at this
    rw [this]; rfl
  have e1 : rcell s (22 + i * 8 + 1) = p.2 := by
    rw [rcell_buf s (i := i) (j := 1) (by omega), co, hb]; rfl
  have ev : ∀ j, drG (rcell s) i m j = if j = 22 + i * 8 + m * 2 + 1 then 0 else if j = 22 + i * 8 + m * 2 then 0 else if j = 19 + i then (m : Int) else if 22 + i * 8 ≤ j ∧ j < 22 + i * 8 + 2 * m then rcell s (j + 2) else if j = 15 + p.1.toNat then p.2 else rcell s j := by
    intro j
    unfold drG
    rw [e0, e1]
    rfl
  refine places ?_ ?_ ?_ ?_ ?_
  · intro k hk
    rw [ev, if_neg (by omega), if_neg (by omega), if_neg (by omega), if_neg (by omega), if_neg (by omega), rcell_pos s hk, rcell_pos _ hk, hd, coreOf_set hlen]
    by_cases e : k = i
    · subst e; rw [if_pos rfl, co]
    · rw [if_neg e]
  · intro k r hk hr
    rw [ev, if_neg (by omega), if_neg (by omega), if_neg (by omega), if_neg (by omega), if_neg (by omega), rcell_reg s hk hr, rcell_reg _ hk hr, hd, coreOf_set hlen]
    by_cases e : k = i
    · subst e; rw [if_pos rfl, co]
    · rw [if_neg e]
  · intro a ha
    rw [ev, if_neg (by omega), if_neg (by omega), if_neg (by omega), if_neg (by omega), rcell_mem _ ha, rcell_mem _ ha, hd]
    unfold wrt
    by_cases e : a = p.1.toNat
    · subst e
      rw [if_pos rfl, List.getElem?_set_self (by rw [hs.mem]; exact ha)]; rfl
    · rw [if_neg (by omega), List.getElem?_set_ne (Ne.symm e)]
  · intro k hk
    rw [ev, if_neg (by omega), if_neg (by omega), rcell_len _ hk, rcell_len _ hk, hd, coreOf_set hlen]
    by_cases e : k = i
    · subst e; rw [if_pos rfl, if_pos rfl, hm]
    · rw [if_neg (by omega), if_neg (by omega), if_neg (by omega), if_neg e]
  · intro k b hk hb8
    rw [ev, rcell_buf (drainS i s) hb8, hd, coreOf_set hlen]
    by_cases e : k = i
    · subst e
      rw [if_pos rfl]
      show _ = bcell q b
      by_cases b1 : b = m * 2 + 1
      · rw [if_pos (by omega), bcell_end (by omega)]
      by_cases b2 : b = m * 2
      · rw [if_neg (by omega), if_pos (by omega), bcell_end (by omega)]
      rw [if_neg (by omega), if_neg (by omega), if_neg (by omega)]
      by_cases b3 : b < 2 * m
      · rw [if_pos (by omega), show 22 + k * 8 + b + 2 = 22 + k * 8 + (b + 2) by omega, rcell_buf s (by omega), co, hb, bcell_cons]
      · rw [if_neg (by omega), if_neg (by omega), rcell_buf s hb8, co, hb, bcell_end (by simp; omega), bcell_end (by omega)]
    · rw [if_neg e, if_neg (by omega), if_neg (by omega), if_neg (by omega), if_neg (by omega), if_neg (by omega), rcell_buf s hb8]

/-- drain, of any state. -/
theorem rdrain_any (i : Nat) (s : St) (w : World) (hs : Shape s) (hi : i < 3) :
    Calls Try.prog 30 #[.agg (ints (rSt s)).toArray, .int .i64 (i : Int)] w (RetSt (rcell (drainS i s)) w) := by
  obtain ⟨c, hc⟩ : ∃ c, s.cores[i]? = some c := ⟨_, List.getElem?_eq_getElem (by rw [hs.len]; exact hi)⟩
  have hl := rcell_len s hi
  rw [coreOf_some hc] at hl
  cases hb : c.buf with
  | nil =>
    rw [hb] at hl
    have hd : drainS i s = s := by simp [drainS, hc, hb]
    rw [hd]
    exact rdrain_none i hi (rcell s) (by simpa using hl) w
  | cons p q =>
    rw [hb] at hl
    have oc := hs.core i c hc
    have hp := oc.bufd p (by rw [hb]; simp)
    have hm3 : q.length < 4 := by have := oc.room; rw [hb] at this; simp at this; omega
    have e0 : rcell s (22 + i * 8) = p.1 := by
      have := rcell_buf s (i := i) (j := 0) (by omega)
      rw [Nat.add_zero, coreOf_some hc, hb] at this
      rw [this]; rfl
    have := rdrain_some i q.length hi hm3 (rcell s) (by simpa using hl) (by rw [e0]; exact hp.1) (by rw [e0]; omega) w
    unfold RetSt at this ⊢
    rw [rL_ext (drG_drain hs hi hc hb rfl)] at this
    exact this

theorem DrAt.retake {w wr W w' : World} {B : Nat} {g g' : Nat → Int} (h : DrAt w wr B g) (hb : Below wr.heap.size wr W) (hr : Row w' w.heap.size 69 (ints (rL g'))) (ho : Only (· = w.heap.size) W w') : DrAt w w' B g' :=
  ⟨hr, (h.2.1.below hb).only ho (fun e => Nat.ne_of_gt h.2.2.2 e), Only.below (h.2.2.1.trans (hb.mono h.2.2.1.size)) ho (Nat.le_trans h.2.2.1.size hb.size) (fun _ hk e => Nat.ne_of_lt hk e), h.2.2.2⟩

set_option maxRecDepth 100000 in
set_option maxHeartbeats 4000000 in
theorem rall_any (i : Nat) (s : St) (w : World) (hs : Shape s) (hi : i < 3) :
    Calls Try.prog 41 #[.agg (ints (rSt s)).toArray, .int .i64 (i : Int)] w (RetSt (rcell (flushS i s)) w) := by
  have i0 : (0 : Int) ≤ (i : Int) := by omega
  have i3 : (i : Int) < 3 := by omega
  have SZ : Hid (∀ g, (Try.prog.info? 69).map (·.size) = some (ints (rL g)).length) := Lib.hid (fun g => (rst_size).trans (congrArg some (rL_ints_len g).symm))
  have ZL : Hid (∀ g, (ints (List.replicate 46 0)).length = (ints (rL g)).length) := Lib.hid (fun g => by rw [rL_ints_len, ints_len, List.length_replicate])
  have HS := Lib.hid hs
  clear hs
  unfold rSt
  go_enter Try.func41, Try.ntmps41
  go_wp2_with (first
    | ((with_reducible refine box_walk rfl 69 (.tmp 0) rfl (ints (rL (rcell s))) rfl ?_); intro w1 r1 b1 z1; have R1 := Lib.hid (show RAt w1 w.heap.size (rcell s) from r1); have B1 := Lib.hid b1; have hlt1 := r1.lt; clear r1 b1 z1)
    | ((with_reducible refine alloc_walk (o := ⟨some 4, _, _, _, _, _⟩) rfl 69 rfl _ rst_zero ?_); intro w2 r2 b2 z2; have D2 := Lib.hid (show DrAt w w2 w1.heap.size (rcell s) from ⟨R1.out.below b2, r2, below_on B1.out b2, hlt1⟩); clear r2 b2 z2)
    | fail)
  generalize w1.heap.size = B2 at D2 ⊢
  clear R1 B1 hlt1
  go_simp
  go_loopw [] (fun wr => Hid (∃ t, Shape t ∧ flushS i t = flushS i s ∧ DrAt w wr B2 (rcell t))) (fun wr => (intOf ((wr.cell? ⟨w.heap.size, 19 + i, none⟩).getD undef)).toNat)
  case atStart => exact Lib.hid ⟨s, HS.out, rfl, D2.out⟩
  case round =>
    obtain ⟨t, ht, hft, hD⟩ := hrel.out
    have HT := Lib.hid ht
    have HF := Lib.hid hft
    have HD := Lib.hid hD
    obtain ⟨c, hc⟩ : ∃ c, t.cores[i]? = some c := ⟨_, List.getElem?_eq_getElem (by rw [ht.len]; exact hi)⟩
    have hl := rcell_len t hi
    rw [coreOf_some hc] at hl
    have cl := hD.1.cell (k := 19 + i) (by omega)
    rw [hl] at cl
    have R6 := Lib.hid hD.1.row
    have Z6 := Lib.hid hD.2.1
    clear hrel ht hft hD D2
    cases hb : c.buf with
    | nil =>
      rw [hb] at cl
      have hfe : flushS i s = t := by rw [← HF.out]; exact flush_none hc hb
      have HFE := Lib.hid hfe
      clear hfe hl hc hb
      simp only [List.length_nil] at cl
      go_wp2_with (first
        | (with_reducible refine loadRow_walk rfl 69 (.tmp 2) rfl w.heap.size rfl (ints (rL (rcell t))) rst_struct (SZ.out _) 69 R6.out ?_)
        | ((with_reducible refine storeRow_walk rfl 69 (.tmp 4) (.tmp 13) rfl B2 rfl (ints (rL (rcell t))) rfl (SZ.out _) 69 (ints (List.replicate 46 0)) Z6.out (ZL.out _) (ints_one _) ?_); (intro w7 r7 o7 z7; have R7 := Lib.hid r7; have B7 := Lib.hid (Only.below HD.out.2.2.1 o7 HD.out.2.2.1.size (fun k hk e => by subst e; have := HD.out.2.2.2; omega)); clear r7 o7 z7)))
      refine bodyPost_ret (results_row Try.results41 rfl rst_struct (SZ.out _) R7.out) rfl ⟨by rw [HFE.out], B7.out⟩
    | cons p q =>
      rw [hb] at cl
      have DR := Lib.hid (rdrain_any i t wr HT.out hi)
      unfold rSt at DR
      have hl2 : (rcell (drainS i t)) (19 + i) = (q.length : Int) := by
        rw [rcell_len _ hi]
        have : drainS i t = ⟨t.cores.set i { c with buf := q }, wrt t.mem p⟩ := by simp [drainS, hc, hb]
        rw [this, coreOf_set (by rw [HT.out.len]; exact hi), if_pos rfl]
      have HL2 := Lib.hid hl2
      have HFD := Lib.hid ((flush_drain hc hb).trans HF.out)
      have ZT : Hid ((ints (rL (rcell t))).length = (ints (rL (rcell (drainS i t)))).length) := Lib.hid (by rw [rL_ints_len, rL_ints_len])
      have HCL := Lib.hid cl
      simp only [List.length_cons] at cl
      clear hl hc hb hl2
      go_wp2_with (first
        | (with_reducible refine loadRow_walk rfl 69 (.tmp 2) rfl w.heap.size rfl (ints (rL (rcell t))) rst_struct (SZ.out _) 69 R6.out ?_)
        | (go_at_call 30; refine DR.out.mono ?_; rintro e w5 ⟨rfl, hb5⟩; have B5 := Lib.hid hb5; have R5 := Lib.hid (R6.out.below hb5); clear hb5)
        | ((with_reducible refine storeRow_walk rfl 69 (.tmp 2) (.tmp 12) rfl w.heap.size rfl (ints (rL (rcell (drainS i t)))) rfl (SZ.out _) 69 (ints (rL (rcell t))) R5.out ZT.out (ints_one _) ?_); (intro w7 r7 o7 z7; have D7 := Lib.hid (HD.out.retake B5.out r7 o7); clear r7 o7 z7)))
      try go_simp
      go_roundw
      case rel => exact Lib.hid ⟨drainS i t, HT.out.drain i, HFD.out, D7.out⟩
      case measure =>
        rw [D7.out.1.cell (k := 19 + i) (by omega), HL2.out]
        simp [intOf]
        try omega

/-- One core changes, and no word. -/
theorem rcell_core {s : St} {i : Nat} (hl : i < s.cores.length) (c' : Core) (m : List Int) (k : Nat) : rcell ⟨s.cores.set i c', m⟩ k =
    if k < 3 then (if k = i then (c'.next : Int) else rcell s k)
    else if k < 15 then (if (k - 3) / 4 = i then (c'.regs[(k - 3) % 4]?).getD 0 else rcell s k)
    else if k < 19 then (m[k - 15]?).getD 0
    else if k < 22 then (if k - 19 = i then (c'.buf.length : Int) else rcell s k)
    else (if (k - 22) / 8 = i then bcell c'.buf ((k - 22) % 8) else rcell s k) := by
  unfold rcell
  simp only [coreOf_set hl]
  split
  · split <;> rfl
  · split
    · split <;> rfl
    · split
      · rfl
      · split
        · split <;> rfl
        · split <;> rfl

theorem rcell_here {s : St} {i : Nat} {c : Core} (hc : s.cores[i]? = some c) (k : Nat) : rcell s k =
    if k < 3 then (if k = i then (c.next : Int) else rcell s k)
    else if k < 15 then (if (k - 3) / 4 = i then (c.regs[(k - 3) % 4]?).getD 0 else rcell s k)
    else if k < 19 then (s.mem[k - 15]?).getD 0
    else if k < 22 then (if k - 19 = i then (c.buf.length : Int) else rcell s k)
    else (if (k - 22) / 8 = i then bcell c.buf ((k - 22) % 8) else rcell s k) := by
  have co := coreOf_some hc
  split
  · rename_i h
    split
    · rename_i e; subst e; unfold rcell; rw [if_pos h, co]
    · rfl
  · rename_i h
    split
    · rename_i h2
      split
      · rename_i e; subst e; unfold rcell; rw [if_neg h, if_pos h2, co]
      · rfl
    · rename_i h2
      split
      · rename_i h3; unfold rcell; rw [if_neg h, if_neg h2, if_pos h3]
      · rename_i h3
        split
        · rename_i h4
          split
          · rename_i e; subst e; unfold rcell; rw [if_neg h, if_neg h2, if_neg h3, if_pos h4, co]
          · rfl
        · rename_i h4
          split
          · rename_i e; subst e; unfold rcell; rw [if_neg h, if_neg h2, if_neg h3, if_neg h4, co]
          · rfl

theorem rnext_eq {s : St} {i : Nat} {c : Core} (hc : s.cores[i]? = some c) : nextS i s = ⟨s.cores.set i { c with next := c.next + 1 }, s.mem⟩ := by simp [nextS, hc]

theorem rcell_next {s : St} {i : Nat} {c : Core} (hc : s.cores[i]? = some c) (hi : i < 3) : ∀ k, k < 46 → upd (rcell s) i ((c.next : Int) + 1) k = rcell (nextS i s) k := by
  intro k _
  have hl := (List.getElem?_eq_some_iff.1 hc).1
  rw [rnext_eq hc, rcell_core hl]
  unfold upd
  by_cases e : k = i
  · subst e; rw [if_pos rfl, if_pos hi, if_pos rfl]; simp
  · rw [if_neg e]
    conv => lhs; rw [rcell_here hc k]
    simp only [if_neg e]

theorem rcell_regs {s : St} {i r : Nat} {x : Int} {c : Core} (hs : Shape s) (hc : s.cores[i]? = some c) (hi : i < 3) (hr : r < 4) : ∀ k, k < 46 → upd (rcell s) (3 + (4 * i + r)) x k = rcell (regS i (r : Int) x s) k := by
  intro k _
  have hl := (List.getElem?_eq_some_iff.1 hc).1
  have oc := hs.core i c hc
  have e0 : regS i (r : Int) x s = ⟨s.cores.set i { c with regs := c.regs.set r x }, s.mem⟩ := by simp [regS, hc]
  rw [e0, rcell_core hl]
  unfold upd
  by_cases e : k = 3 + (4 * i + r)
  · rw [if_pos e, if_neg (by omega), if_pos (by omega), if_pos (by omega), show (k - 3) % 4 = r by omega, List.getElem?_set_self (by rw [oc.regs]; exact hr)]; rfl
  · rw [if_neg e]
    conv => lhs; rw [rcell_here hc k]
    split
    · rfl
    · split
      · split
        · rw [List.getElem?_set_ne (by omega)]
        · rfl
      · rfl

theorem rcell_wrt {s : St} {a : Nat} {x : Int} (hs : Shape s) (ha : a < 4) : ∀ k, k < 46 → upd (rcell s) (15 + a) x k = rcell ⟨s.cores, wrt s.mem ((a : Int), x)⟩ k := by
  intro k _
  unfold upd rcell coreOf wrt
  simp only [Int.toNat_natCast]
  by_cases e : k = 15 + a
  · rw [if_pos e, if_neg (by omega), if_neg (by omega), if_pos (by omega), show k - 15 = a by omega, List.getElem?_set_self (by rw [hs.mem]; exact ha)]; rfl
  · rw [if_neg e]
    split
    · rfl
    · split
      · rfl
      · split
        · rw [List.getElem?_set_ne (by omega)]
        · rfl

theorem bcell_snoc (q : List (Int × Int)) (p : Int × Int) (j : Nat) : bcell (q ++ [p]) j = if j = q.length * 2 then p.1 else if j = q.length * 2 + 1 then p.2 else bcell q j := by
  by_cases h1 : j = q.length * 2
  · subst h1
    rw [if_pos rfl]
    exact bcell_even (by simp)
  · rw [if_neg h1]
    by_cases h2 : j = q.length * 2 + 1
    · subst h2
      rw [if_pos rfl]
      exact bcell_odd (by simp)
    · rw [if_neg h2]
      unfold bcell
      by_cases h3 : j / 2 < q.length
      · rw [List.getElem?_append_left h3]
      · rw [List.getElem?_append_right (by omega), List.getElem?_eq_none (l := q) (by omega), List.getElem?_eq_none (by simp; omega)]

theorem rcell_push {s : St} {i : Nat} {a x : Int} {c : Core} (hc : s.cores[i]? = some c) (hi : i < 3) (hb : c.buf.length < 4) : ∀ k, k < 46 → upd (upd (upd (rcell s) (22 + i * 8 + c.buf.length * 2) a) (22 + i * 8 + c.buf.length * 2 + 1) x) (19 + i) ((c.buf.length : Int) + 1) k = rcell (pushS i (a, x) s) k := by
  intro k hk
  have hl := (List.getElem?_eq_some_iff.1 hc).1
  have e0 : pushS i (a, x) s = ⟨s.cores.set i { c with buf := c.buf ++ [(a, x)] }, s.mem⟩ := by simp [pushS, hc]
  rw [e0, rcell_core hl]
  unfold upd
  by_cases e1 : k = 19 + i
  · rw [if_pos e1, if_neg (by omega), if_neg (by omega), if_neg (by omega), if_pos (by omega), if_pos (by omega)]; simp
  rw [if_neg e1]
  by_cases e2 : k = 22 + i * 8 + c.buf.length * 2 + 1
  · rw [if_pos e2, if_neg (by omega), if_neg (by omega), if_neg (by omega), if_neg (by omega), if_pos (by omega), bcell_snoc, if_neg (by omega), if_pos (by omega)]
  rw [if_neg e2]
  by_cases e3 : k = 22 + i * 8 + c.buf.length * 2
  · rw [if_pos e3, if_neg (by omega), if_neg (by omega), if_neg (by omega), if_neg (by omega), if_pos (by omega), bcell_snoc, if_pos (by omega)]
  rw [if_neg e3]
  conv => lhs; rw [rcell_here hc k]
  split
  · rfl
  · split
    · rfl
    · split
      · rfl
      · split
        · split
          · omega
          · rfl
        · split
          · rw [bcell_snoc, if_neg (by omega), if_neg (by omega)]
          · rfl

#print axioms rSt_inj
#print axioms results_row
#print axioms rdrain_none
#print axioms rdrain_some
#print axioms rdrain_any
#print axioms rall_any
#print axioms rcell_push
#print axioms rcell_next
end Go.Proofs.Ytgljgpllooehkaa
