/-
  Layer 7 (litmus): drain, drainAll, load over states.
  Conditions: those that each theorem states.
-/
import Derived.Test.YtgljgpllooehkaaLit3
import Derived.Deep.LoopGhost
namespace Go.Proofs.Ytgljgpllooehkaa
open Go.ChangeShapes Go.WideShapes Go.ChangeAt Go.RowKit

/-- Block b is the state s. -/
def StAt (w : World) (b : Nat) (s : St) : Prop := Row w b 58 (ints (stL s))

theorem StAt.core {w : World} {b : Nat} {s : St} (r : StAt w b s) (h : Shape s) {i j : Nat} {c : Core} {x : Int} (hc : s.cores[i]? = some c) (hj : j < 14) (hx : (coreL c)[j]? = some x) : w.cell? ⟨b, i * 14 + j, none⟩ = some (.int .i64 x) :=
  row_cell r (by rw [stL_core h hc hj]; exact hx)

theorem StAt.mem {w : World} {b : Nat} {s : St} (r : StAt w b s) (h : Shape s) {j : Nat} {x : Int} (hx : s.mem[j]? = some x) : w.cell? ⟨b, 42 + j, none⟩ = some (.int .i64 x) :=
  row_cell r (by rw [stL_mem h]; exact hx)

/-- What a call that writes the state leaves. -/
def StP (b : Nat) (s : St) (w : World) (e : Ending) (w' : World) : Prop := e = .returned (.tuple #[]) ∧ StAt w' b s ∧ Only (· = b) w w'

theorem drain_any (b i : Nat) (s : St) (c : Core) (p : Int × Int) (q : List (Int × Int)) (w : World) (r : StAt w b s) (h : Shape s) (hc : s.cores[i]? = some c) (hb : c.buf = p :: q) :
    Calls Try.prog 45 #[ptr b, .int .i64 (i : Int)] w (StP b (drainS i s) w) := by
  have hok := h.core i c hc
  have hq : q.length < 4 := by have := hok.room; rw [hb] at this; simp at this; omega
  have hi := core_lt h hc
  have hp := hok.bufd p (by rw [hb]; simp)
  have b0 := buf_at hok (k := 0) (p := p) (by rw [hb]; rfl)
  refine (drain_l b i hi (stL s) (stL_len h) p.1 p.2 q.length ?_ ?_ ?_ hp.1 (by omega) hq w r).mono ?_
  · rw [stL_core h hc (by omega), count_at hok, hb]; simp
  · rw [stL_core h hc (by omega)]; exact b0.1
  · rw [stL_core h hc (by omega)]; exact b0.2
  · rintro e w' ⟨he, hr, ho⟩
    refine ⟨he, ?_, ho⟩
    unfold StAt
    rw [stL_drain h hc hb]
    exact hr

theorem set_same' {α : Type} {l : List α} {i : Nat} {x : α} (h : l[i]? = some x) : l.set i x = l := by
  obtain ⟨hl, rfl⟩ := List.getElem?_eq_some_iff.1 h
  exact List.set_getElem_self hl

theorem drain_eq {s : St} {i : Nat} {c : Core} {p : Int × Int} {q : List (Int × Int)} (hc : s.cores[i]? = some c) (hb : c.buf = p :: q) : drainS i s = ⟨s.cores.set i { c with buf := q }, wrt s.mem p⟩ := by
  simp [drainS, hc, hb]

theorem flush_eq {s : St} {i : Nat} {c : Core} (hc : s.cores[i]? = some c) : flushS i s = ⟨s.cores.set i { c with buf := [] }, c.buf.foldl wrt s.mem⟩ := by
  simp [flushS, hc]

theorem set_at' {α : Type} {l : List α} {i : Nat} {x : α} (h : l[i]? = some x) (y : α) : (l.set i y)[i]? = some y := List.getElem?_set_self (List.getElem?_eq_some_iff.1 h).1

theorem flush_drain {s : St} {i : Nat} {c : Core} {p : Int × Int} {q : List (Int × Int)} (hc : s.cores[i]? = some c) (hb : c.buf = p :: q) : flushS i (drainS i s) = flushS i s := by
  rw [flush_eq hc, drain_eq hc hb, flush_eq (s := ⟨s.cores.set i { c with buf := q }, wrt s.mem p⟩) (set_at' hc _), hb]
  simp only [List.set_set, List.foldl_cons]

theorem flush_none {s : St} {i : Nat} {c : Core} (hc : s.cores[i]? = some c) (hb : c.buf = []) : flushS i s = s := by
  obtain ⟨n, r, q⟩ := c
  simp only at hb
  subst hb
  simp only [flushS, hc, List.foldl_nil]
  rw [set_same' hc]

theorem drain_core {s : St} {i : Nat} {c : Core} {p : Int × Int} {q : List (Int × Int)} (hc : s.cores[i]? = some c) (hb : c.buf = p :: q) : (drainS i s).cores[i]? = some { c with buf := q } := by
  rw [drain_eq hc hb]
  exact set_at' hc _

set_option maxRecDepth 100000 in
set_option maxHeartbeats 1000000 in
theorem drainAll_any (b i : Nat) (s : St) (c : Core) (w : World) (r : StAt w b s) (h : Shape s) (hc : s.cores[i]? = some c) :
    Calls Try.prog 59 #[ptr b, .int .i64 (i : Int)] w (StP b (flushS i s) w) := by
  have hi := core_lt h hc
  have i0 : (0 : Int) ≤ (i : Int) := by omega
  have i3 : (i : Int) < 3 := by omega
  have R := Lib.hid r
  have H := Lib.hid h
  have HC := Lib.hid hc
  clear r h hc hi
  unfold ptr
  go_enter Try.func59, Try.ntmps59
  go_wp2
  go_loopg [] c.buf.length (fun gk wr => Hid (∃ t d, StAt wr b t ∧ Shape t ∧ t.cores[i]? = some d ∧ d.buf.length = gk ∧ flushS i t = flushS i s ∧ Only (· = b) w wr))
  case atStart => exact Lib.hid ⟨s, c, R.out, H.out, HC.out, rfl, rfl, Only.refl _ _⟩
  case round =>
    obtain ⟨t, d, hr, hs, hd, hg, hf, ho⟩ := hrel.out
    have hok := hs.core i d hd
    have c5 := hr.core hs hd (by omega) (count_at hok)
    have hroom := hok.room
    have HF := Lib.hid hf
    have HO := Lib.hid ho
    have HR := Lib.hid hr
    have HS := Lib.hid hs
    have HD := Lib.hid hd
    cases hb : d.buf with
    | nil =>
      rw [hb] at c5
      have c5' : wr.cell? ⟨b, i * 14 + 5, none⟩ = some (.int .i64 0) := c5
      have HB := Lib.hid hb
      clear c5 hf ho hr hs hd hb hg hrel hok hroom
      go_wp2
      go_end0
      refine ⟨rfl, ?_, HO.out⟩
      rw [← HF.out, flush_none HD.out HB.out]
      exact HR.out
    | cons p q =>
      have dr := drain_any b i t d p q wr hr hs hd hb
      unfold ptr at dr
      have DR := Lib.hid dr
      rw [hb] at c5 hg hroom
      have c5' : wr.cell? ⟨b, i * 14 + 5, none⟩ = some (.int .i64 ((q.length : Int) + 1)) := c5
      have hpos : (0 : Int) < (q.length : Int) + 1 := by omega
      have HB := Lib.hid hb
      have HG := Lib.hid hg
      clear c5 hf ho hr hs hd hb hg hrel hok dr
      go_wp2_with (go_at_call 45; refine DR.out.mono ?_; rintro e w1 ⟨rfl, hr1, ho1⟩)
      go_roundg q.length
      case rel =>
        exact Lib.hid ⟨drainS i t, _, hr1, HS.out.drain i, drain_core HD.out HB.out, rfl, (flush_drain HD.out HB.out).trans HF.out, HO.out.trans ho1⟩
      case measure => have := HG.out; simp at this; omega

#print axioms drainAll_any

theorem sees_more {q : List (Int × Int)} {k : Nat} {p : Int × Int} (m : List Int) (a : Int) (h : q[k]? = some p) : sees (q.take (k + 1)) m a = if p.1 = a then p.2 else sees (q.take k) m a := by
  unfold sees
  rw [List.take_add_one, h]
  simp [List.foldl_append]

set_option maxRecDepth 100000 in
set_option maxHeartbeats 1000000 in
theorem load_any (b i : Nat) (s : St) (c : Core) (a : Int) (w : World) (r : StAt w b s) (h : Shape s) (hc : s.cores[i]? = some c) (ha0 : 0 ≤ a) (ha3 : a < 4) :
    Calls Try.prog 57 #[ptr b, .int .i64 (i : Int), .int .i64 a] w fun e w' => e = .returned (.int .i64 (sees c.buf s.mem a)) ∧ Below w.heap.size w w' := by
  have hi := core_lt h hc
  have hok := h.core i c hc
  have i0 : (0 : Int) ≤ (i : Int) := by omega
  have i3 : (i : Int) < 3 := by omega
  have hm : s.mem[a.toNat]? = some (s.mem.getD a.toNat 0) := by
    rw [List.getD_eq_getElem?_getD, List.getElem?_eq_getElem (by rw [h.mem]; omega)]; rfl
  have cm := r.mem h hm
  have hz : s.mem.getD a.toNat 0 = sees (c.buf.take 0) s.mem a := rfl
  have c5 := r.core h hc (by omega) (count_at hok)
  obtain ⟨n, hn⟩ : ∃ n, c.buf.length = n := ⟨_, rfl⟩
  have hn4 : n ≤ 4 := by have := hok.room; omega
  have hn4' : (n : Int) ≤ 4 := by omega
  rw [hn] at c5
  rw [hz] at cm
  obtain ⟨x0, hx0⟩ : ∃ x0, sees (c.buf.take 0) s.mem a = x0 := ⟨_, rfl⟩
  rw [hx0] at cm
  have hbl := r.lt
  have HN := Lib.hid hn
  have HX := Lib.hid hx0
  have R := Lib.hid r
  have H := Lib.hid h
  have HC := Lib.hid hc
  have OK := Lib.hid hok
  clear r h hc hok hm hz hn hx0
  unfold ptr
  go_enter Try.func57, Try.ntmps57
  go_wp2
  go_quiet (fail)
  go_wp2
  go_loopw [7, 31] (fun x idx wr => ∃ (k : Nat) (y : Int), k ≤ n ∧ x = .int .i64 y ∧ idx = .int .i64 k ∧ Hid (sees (c.buf.take k) s.mem a = y) ∧ Below w.heap.size w wr) (fun _ idx _ => n - (intOf idx).toNat)
  case atStart => exact ⟨0, x0, Nat.zero_le _, rfl, rfl, HX, below_q w _⟩
  case round =>
    obtain ⟨k, y, hk, rfl, rfl, HY, hb⟩ := hrel
    by_cases hlt : k < n
    · obtain ⟨p, hp⟩ : ∃ p, c.buf[k]? = some p := ⟨_, List.getElem?_eq_getElem (by rw [HN.out]; exact hlt)⟩
      have ba := buf_at OK.out hp
      have d6 : wr.cell? ⟨b, i * 14 + 6 + k * 2, none⟩ = some (.int .i64 p.1) := by
        rw [hb.cell hbl, Nat.add_assoc]; exact R.out.core H.out HC.out (by omega) (by rw [Nat.mul_comm]; exact ba.1)
      have d7 : wr.cell? ⟨b, i * 14 + 6 + k * 2 + 1, none⟩ = some (.int .i64 p.2) := by
        rw [hb.cell hbl, Nat.add_assoc, Nat.add_assoc]; exact R.out.core H.out HC.out (by omega) (by rw [← Nat.add_assoc, Nat.mul_comm]; exact ba.2)
      have sm := sees_more s.mem a hp
      have hsz := hb.size
      have BB := Lib.hid hb
      obtain ⟨pa, px⟩ := p
      dsimp only at d6 d7 sm
      clear hp ba hb
      by_cases hpa : pa = a
      · have b1 : (pa == a) = true := by simpa using hpa
        rw [if_pos hpa] at sm
        have SM := Lib.hid sm
        clear sm hpa
        go_wp2
        go_roundw
        case rel => exact ⟨k + 1, px, by omega, rfl, by go_num, SM, BB.out.alloc hsz _⟩
        case measure => simp [intOf]; omega
      · have b1 : (pa == a) = false := by simpa using hpa
        rw [if_neg hpa] at sm
        have SM := Lib.hid (sm.trans HY.out)
        clear sm hpa
        go_wp2
        go_roundw
        case rel => exact ⟨k + 1, y, by omega, rfl, by go_num, SM, BB.out.alloc hsz _⟩
        case measure => simp [intOf]; omega
    · go_wp2
      go_ret
      have := HY.out
      rw [List.take_of_length_le (by rw [HN.out]; omega)] at this
      exact ⟨by rw [this]; rfl, hb⟩

#print axioms load_any
end Go.Proofs.Ytgljgpllooehkaa
