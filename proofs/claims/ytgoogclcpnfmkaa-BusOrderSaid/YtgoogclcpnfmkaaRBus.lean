/-
  The reference of layer 6: its bus as a value (RBus); Is, wrong, with.
  Conditions: those that each theorem states.
-/
import Derived.Test.YtgoogclcpnfmkaaRSbuf3
import Derived.Test.YtgoogclcpnfmkaaRRam
import Derived.Test.YtgoogclcpnfmkaaBus15
namespace Go.Proofs.Ytgoogclcpnfmkaa
open Go.ChangeShapes Go.WideShapes Go.ChangeAt Go.RowKit

/-- Buffers of the reference, each with the capacity N. -/
def bps (N : Nat) (vs : List Value) : List (Value × Value) := vs.map fun v => (.int .i64 N, v)
theorem bps_len (N : Nat) (vs : List Value) : (bps N vs).length = vs.length := by simp [bps]
theorem bps_at {N : Nat} {vs : List Value} {i : Nat} {v : Value} (h : vs[i]? = some v) : (bps N vs)[i]? = some (.int .i64 N, v) := by simp [bps, h]
theorem bps_set (N : Nat) (vs : List Value) (i : Nat) (v : Value) : (bps N vs).set i (.int .i64 N, v) = bps N (vs.set i v) := by simp [bps, List.map_set]

theorem flat_set : ∀ (l : List (Value × Value)) (i : Nat) (p : Value × Value), ((flat l).set (i * 2) p.1).set (i * 2 + 1) p.2 = flat (l.set i p)
  | [], i, p => by simp [flat]
  | q :: l, 0, p => by simp [flat]
  | q :: l, i + 1, p => by
    have e : (i + 1) * 2 = i * 2 + 1 + 1 := by omega
    rw [e]
    simp only [flat, List.set_cons_succ]
    rw [flat_set l i p]

/-- The list of the reference's buffers. -/
structure RBufs (w : World) (P : Nat → Prop) (N : Nat) (qs : List (List (Int × Int))) (vs : List Value) : Prop where
  len : vs.length = qs.length
  each : ∀ (i : Nat) (v : Value) (q : List (Int × Int)), vs[i]? = some v → qs[i]? = some q → Two w P v (sts q) ∧ CapOk v

/-- The reference's bus: the words vr, the buffers vb. -/
structure RBus (w : World) (P : Nat → Prop) (N : Nat) (l : List Int) (qs : List (List (Int × Int))) (vr vb : Value) : Prop where
  ram : Lies w P vr (ints l)
  bufs : ∃ vs, Two w P vb (bps N vs) ∧ RBufs w P N qs vs
  cap : CapOk vb
  size : l.length ≤ 65536
  most : qs.length ≤ 8
  pos : 1 ≤ qs.length
  fit : ∀ q ∈ qs, q.length ≤ N
  cap16 : N ≤ 16

theorem RBufs.only {S : Nat → Prop} {w w' : World} {P : Nat → Prop} {N : Nat} {qs : List (List (Int × Int))} {vs : List Value} (h : RBufs w P N qs vs) (ho : Only S w w') (hr : ∀ g, S g → ¬ P g) : RBufs w' P N qs vs :=
  ⟨h.len, fun i v q h1 h2 => ⟨(h.each i v q h1 h2).1.only ho hr, (h.each i v q h1 h2).2⟩⟩
theorem RBus.only {S : Nat → Prop} {w w' : World} {P : Nat → Prop} {N : Nat} {l : List Int} {qs : List (List (Int × Int))} {vr vb : Value} (h : RBus w P N l qs vr vb) (ho : Only S w w') (hr : ∀ g, S g → ¬ P g) : RBus w' P N l qs vr vb := by
  obtain ⟨vs, h1, h2⟩ := h.bufs
  exact ⟨h.ram.only ho hr, ⟨vs, h1.only ho hr, h2.only ho hr⟩, h.cap, h.size, h.most, h.pos, h.fit, h.cap16⟩
theorem RBus.below {w w' : World} {P : Nat → Prop} {N : Nat} {l : List Int} {qs : List (List (Int × Int))} {vr vb : Value} (h : RBus w P N l qs vr vb) (hb : Below w.heap.size w w') : RBus w' P N l qs vr vb :=
  h.only (Only.of_below hb (fun _ => False)) (fun _ h => h.elim)
theorem RBus.weak {w : World} {P Q : Nat → Prop} {N : Nat} {l : List Int} {qs : List (List (Int × Int))} {vr vb : Value} (h : RBus w P N l qs vr vb) (hPQ : ∀ g, g < w.heap.size → P g → Q g) : RBus w Q N l qs vr vb := by
  obtain ⟨vs, h1, h2⟩ := h.bufs
  exact ⟨h.ram.weak hPQ, ⟨vs, h1.weak hPQ, ⟨h2.len, fun i v q a b => ⟨(h2.each i v q a b).1.weak hPQ, (h2.each i v q a b).2⟩⟩⟩, h.cap, h.size, h.most, h.pos, h.fit, h.cap16⟩

/-- Its slices written out. -/
theorem RBus.open_ {w : World} {P : Nat → Prop} {N : Nat} {l : List Int} {qs : List (List (Int × Int))} {vr vb : Value} (h : RBus w P N l qs vr vb) :
    ∃ A c B d, vr = .slice A l.length c ∧ vb = .slice B qs.length d := by
  obtain ⟨A, c, hr, _⟩ := h.ram
  obtain ⟨vs, ⟨B, d, hb, _⟩, h2⟩ := h.bufs
  exact ⟨A, c, B, d, by rw [hr, ints_len], by rw [hb, bps_len, h2.len]⟩

/-- Buffer number i: where it lies. -/
theorem RBus.buf {w : World} {P : Nat → Prop} {N : Nat} {l : List Int} {qs : List (List (Int × Int))} {vr : Value} {B : Option Addr} {n d : Nat} (h : RBus w P N l qs vr (.slice B n d)) {i : Nat} {q : List (Int × Int)} (hq : qs[i]? = some q) :
    ∃ g o v, B = some ⟨g, o, none⟩ ∧ P g ∧ g < w.heap.size ∧ w.cell? ⟨g, o + i * 2, none⟩ = some (.int .i64 N) ∧ w.cell? ⟨g, o + i * 2 + 1, none⟩ = some v ∧ Two w P v (sts q) ∧ CapOk v := by
  obtain ⟨vs, h1, h2⟩ := h.bufs
  have hi := lt_of_at hq
  obtain ⟨v, hv⟩ : ∃ v, vs[i]? = some v := ⟨_, List.getElem?_eq_getElem (by rw [h2.len]; exact hi)⟩
  obtain ⟨g, o, hB, hP, hg, c1, c2⟩ := h1.cells (bps_at hv)
  exact ⟨g, o, v, hB, hP, hg, c1, c2, h2.each i v q hv hq⟩

/-- What a call of the reference leaves: its bus, and the rest of what it answers. -/
def RBusP (P : Nat → Prop) (N : Nat) (l : List Int) (qs : List (List (Int × Int))) (ans : Value → Value) (w : World) (e : Ending) (w' : World) : Prop :=
  ∃ A n c B m d, e = .returned (ans (.agg #[.slice A n c, .slice B m d])) ∧ RBus w' P N l qs (.slice A n c) (.slice B m d) ∧ Below w.heap.size w w'

theorem buf_info : (Try.prog.info? 82).map (fun i => (i.zero, i.size, i.bytes)) = some (some (.agg #[.int .i64 0, .slice none 0 0]), 2, 32) := by kernel_rfl

theorem bps_one {N : Nat} {vs : List Value} (h : ∀ v ∈ vs, v.oneCell' = true) : ∀ u ∈ flat (bps N vs), u.oneCell' = true := by
  induction vs with
  | nil => intro u hu; simp [bps, flat] at hu
  | cons v t ih =>
    intro u hu
    simp only [bps, List.map_cons, flat, List.mem_cons] at hu
    rcases hu with rfl | rfl | hu
    · rfl
    · exact h _ List.mem_cons_self
    · exact ih (fun x hx => h x (List.mem_cons_of_mem _ hx)) u hu

theorem RBufs.one {w : World} {P : Nat → Prop} {N : Nat} {qs : List (List (Int × Int))} {vs : List Value} (h : RBufs w P N qs vs) : ∀ v ∈ vs, v.oneCell' = true := by
  intro v hv
  obtain ⟨i, hi, rfl⟩ := List.mem_iff_getElem.1 hv
  obtain ⟨⟨A, c, hs, _⟩, _⟩ := h.each i _ _ (List.getElem?_eq_getElem hi) (List.getElem?_eq_getElem (by rw [← h.len]; exact hi))
  rw [hs]
  rfl

set_option maxRecDepth 100000 in
set_option maxHeartbeats 1000000 in
theorem rwrong_core (P : Nat → Prop) (N : Nat) (l : List Int) (qs : List (List (Int × Int))) (vr vb : Value) (c a : Int) (w : World) (r : RBus w P N l qs vr vb) (hc : ¬ cIn qs c) :
    Calls Try.prog 36 #[.agg #[vr, vb], .int .i64 c, .int .i64 a] w fun e w' => e = .returned (.int .i64 3) ∧ Below w.heap.size w w' := by
  obtain ⟨A, k, B, d, rfl, rfl⟩ := r.open_
  have hm := r.most
  have hl := r.size
  clear r
  unfold cIn at hc
  by_cases h0 : c < 0
  · clear hc
    go_enter Try.func36, Try.ntmps36
    go_wp2
    go_ret
    exact ⟨rfl, below_al _ _⟩
  · have h1 : (qs.length : Int) ≤ c := by omega
    clear hc
    go_enter Try.func36, Try.ntmps36
    go_wp2
    go_ret
    exact ⟨rfl, below_al _ _⟩

set_option maxRecDepth 100000 in
set_option maxHeartbeats 1000000 in
theorem rwrong_ok (P : Nat → Prop) (N : Nat) (l : List Int) (qs : List (List (Int × Int))) (vr vb : Value) (c a : Int) (w : World) (r : RBus w P N l qs vr vb) (hc : cIn qs c) :
    Calls Try.prog 36 #[.agg #[vr, vb], .int .i64 c, .int .i64 a] w fun e w' => e = .returned (.int .i64 (runE l.length a 1)) ∧ Below w.heap.size w w' := by
  obtain ⟨A, k, B, d, rfl, rfl⟩ := r.open_
  have hm := r.most
  have hl := r.size
  clear r
  obtain ⟨h0, h1⟩ := hc
  by_cases h2 : a < 0
  · have e : runE l.length a 1 = 4 := runE_out (by omega)
    have E := Lib.hid e
    clear e
    go_enter Try.func36, Try.ntmps36
    go_wp2
    go_ret
    exact ⟨by rw [E.out]; rfl, below_al _ _⟩
  · by_cases h3 : (l.length : Int) ≤ a
    · have e : runE l.length a 1 = 4 := runE_out (by omega)
      have E := Lib.hid e
      clear e
      go_enter Try.func36, Try.ntmps36
      go_wp2
      go_ret
      exact ⟨by rw [E.out]; rfl, below_al _ _⟩
    · have e : runE l.length a 1 = 0 := runE_one (by omega) (by omega)
      have E := Lib.hid e
      clear e
      go_enter Try.func36, Try.ntmps36
      go_wp2
      go_ret
      exact ⟨by rw [E.out]; rfl, below_al _ _⟩

#print axioms rwrong_ok
#print axioms RBus.buf
end Go.Proofs.Ytgoogclcpnfmkaa
