/-
  Layer 7 (litmus): programs as arguments; steps.
  Conditions: those that each theorem states.
-/
import Derived.Test.YtgljgpllooehkaaLit7
import Derived.Test.YtgljgpllooehkaaArgs
import Derived.Deep.DeepMust
namespace Go.Proofs.Ytgljgpllooehkaa
open Go.ChangeShapes Go.WideShapes Go.ChangeAt Go.RowKit

def opL (o : Opn) : List Int := [o.kind, o.addr, o.word, o.reg]

/-- The value v reads as the programs p. -/
def Prg (w : World) (v : Value) (p : List (List Opn)) : Prop :=
  ∃ A c, v = .slice A p.length c ∧ (0 < p.length → ∃ ad : Addr, A = some ad ∧ ad.block < w.heap.size ∧ ∀ k l, p[k]? = some l → ∃ u, w.cell? (ad.add k) = some u ∧ Recs w 4 u (l.map opL))

theorem Prg.below {w w' : World} {v : Value} {p : List (List Opn)} (h : Prg w v p) (hb : Below w.heap.size w w') : Prg w' v p := by
  obtain ⟨A, c, rfl, hA⟩ := h
  refine ⟨A, c, rfl, fun hp => ?_⟩
  obtain ⟨ad, rfl, hlt, hc⟩ := hA hp
  refine ⟨ad, rfl, Nat.lt_of_lt_of_le hlt hb.size, fun k l hk => ?_⟩
  obtain ⟨u, hu, hr⟩ := hc k l hk
  have hbl : (ad.add k).block = ad.block := by unfold Addr.add; split <;> rfl
  exact ⟨u, by rw [hb.cell (by rw [hbl]; exact hlt)]; exact hu, hr.below hb⟩

theorem Prg.at_ {w : World} {v : Value} {p : List (List Opn)} {k : Nat} {l : List Opn} (h : Prg w v p) (hk : p[k]? = some l) :
    ∃ (ad : Addr) (c : Nat) (A : Option Addr) (c' : Nat), v = .slice (some ad) p.length c ∧ w.cell? (ad.add k) = some (.slice A l.length c') ∧ Recs w 4 (.slice A l.length c') (l.map opL) := by
  obtain ⟨A, c, rfl, hA⟩ := h
  obtain ⟨ad, rfl, hlt, hc⟩ := hA (by have := (List.getElem?_eq_some_iff.1 hk).1; omega)
  obtain ⟨u, hu, hr⟩ := hc k l hk
  have hr0 := hr
  obtain ⟨A', c', rfl, _⟩ := hr
  rw [List.length_map] at hu hr0
  exact ⟨ad, c, A', c', rfl, hu, hr0⟩

/-- A list of states in the making. -/
structure Acc (w wr : World) (v : Value) (ts : List St) : Prop where
  own : Sts wr w.heap.size v ts
  below : Below w.heap.size w wr
  shape : ∀ t ∈ ts, Shape t

theorem Acc.sts {w wr w4 : World} {v : Value} {ts : List St} (h : Acc w wr v ts) (hb : Below wr.heap.size wr w4) : Sts w4 w.heap.size v ts :=
  own_only h.own (Only.of_below hb (fun _ => False)) (fun _ _ h => h.elim)

theorem own_base {w : World} {base : Nat} {e : TypeId} {size : Nat} {v : Value} {n : Nat} {xs : List Value} (h : w.ownsRow base e size v n xs) : ∀ k, v.ownBlock = some k → base ≤ k := by
  intro k hk
  rcases h.2 with ⟨rfl, _⟩ | ⟨g, cap, cur, rfl, hb, _⟩
  · cases hk
  · injection hk with hk; subst hk; exact hb

theorem Acc.push {w wr w4 w5 : World} {v v' : Value} {ts : List St} {t : St} (h : Acc w wr v ts) (hb : Below wr.heap.size wr w4) (hs : Sts w5 w.heap.size v' (ts ++ [t])) (hg : w4.grownBy w5 v.ownBlock) (ht : Shape t) : Acc w w5 v' (ts ++ [t]) where
  own := hs
  below := (h.below.trans (hb.mono h.below.size)).grown hg (Nat.le_trans h.below.size hb.size) (own_base h.own)
  shape u hu := by
    rcases List.mem_append.1 hu with hu | hu
    · exact h.shape u hu
    · obtain rfl : u = t := by simpa using hu
      exact ht

theorem stepsAt_core {p : List (List Opn)} {N : Nat} {s : St} {k : Nat} {c : Core} {l : List Opn} (hc : s.cores[k]? = some c) (hl : p[k]? = some l) :
    stepsAt p N s k = (match l[c.next]? with | some o => [execS N k o s] | none => []) ++ (if c.buf = [] then [] else [drainS k s]) := by
  unfold stepsAt
  have h1 : p.getD k [] = l := by rw [List.getD_eq_getElem?_getD, hl]; rfl
  have h2 : nextOf k s = c.next := by simp [nextOf, hc]
  have h3 : bufOf k s = c.buf := by simp [bufOf, hc]
  rw [h1, h2, h3]
  rfl

theorem range_more {α : Type} (f : Nat → List α) (k : Nat) : (List.range (k + 1)).flatMap f = (List.range k).flatMap f ++ f k := by
  rw [List.range_succ, List.flatMap_append]; simp

theorem Shape.store {s : St} (h : Shape s) {i N : Nat} {c : Core} (hc : s.cores[i]? = some c) (hN : N ≤ 4) (hr : c.buf.length ≤ N) {a x : Int} (ha0 : 0 ≤ a) (ha3 : a ≤ 3) (hx : digit x) : Shape (storeS N i (a, x) s) := by
  have hbuf : bufOf i s = c.buf := by simp [bufOf, hc]
  unfold storeS
  by_cases h0 : N = 0
  · rw [if_pos h0]; exact h.write (p := (a, x)) hx
  · rw [if_neg h0, hbuf]
    by_cases h1 : c.buf.length = N
    · rw [if_pos h1]
      cases e : c.buf with
      | nil => rw [e] at h1; simp at h1; omega
      | cons p q =>
        have hok := h.core i c hc
        have hq : q.length < 4 := by have := hok.room; rw [e] at this; simp at this; omega
        exact (h.drain i).push (drain_core hc e) hq ha0 ha3 hx
    · rw [if_neg h1]
      exact h.push hc (by omega) ha0 ha3 hx

theorem Shape.exec {s : St} (h : Shape s) {i N : Nat} {c : Core} (hc : s.cores[i]? = some c) (hN : N ≤ 4) (hr : c.buf.length ≤ N) (hn : c.next ≤ 4) {o : Opn} (ho : okOp o) : Shape (execS N i o s) := by
  obtain ⟨k1, k4, a0, a3, g0, g3, x0, x9⟩ := ho
  have h1 := h.next hc hn
  have c1 := next_core hc
  have hbuf : bufOf i s = c.buf := by simp [bufOf, hc]
  unfold execS
  split
  · exact h1.reg c1 _ (by rw [hbuf]; exact sees_digit h hc a0 (by omega))
  · split
    · exact h1.store c1 hN hr a0 a3 ⟨x0, x9⟩
    · split
      · exact h1.flush c1
      · split
        · have h2 := h1.flush c1
          have c2 := flush_core c1
          have h3 := h2.reg c2 o.reg (mem_digit h2 a0 (by omega)).2
          exact h3.write (p := (o.addr, o.word)) ⟨x0, x9⟩
        · exact h1

/-- What steps leaves. -/
def StepsP (ts : List St) (w : World) (e : Ending) (w' : World) : Prop := ∃ v, e = .returned v ∧ Acc w w' v ts

set_option maxRecDepth 100000 in
set_option maxHeartbeats 2000000 in
theorem steps_any (b N : Nat) (s : St) (v : Value) (p : List (List Opn)) (w : World) (r : StAt w b s) (hs : StOk p N s) (hR : RightS p (N : Int)) (hp : Prg w v p) :
    Calls Try.prog 36 #[ptr b, v, .int .i64 (N : Int)] w (StepsP (stepsS p N s) w) := by
  have h := hs.sh
  have hN : N ≤ 4 := by have := hR.b4; omega
  have hm3 := hR.hi
  have hp0 := hp
  obtain ⟨A, cc, rfl, hA⟩ := hp0
  clear hA
  obtain ⟨m, hm⟩ : ∃ m, p.length = m := ⟨_, rfl⟩
  rw [hm] at hm3 hp ⊢
  have hbl := Row.lt r
  have R := Lib.hid r
  have H := Lib.hid h
  have HS := Lib.hid hs
  have HP := Lib.hid hp
  have HR := Lib.hid hR
  have HM := Lib.hid hm
  have SZ : Hid ((Try.prog.info? 58).map (·.size) = some (ints (stL s)).length) := Lib.hid (by rw [ints_len, stL_len h]; exact state_size)
  clear r h hs hp hR hm
  unfold ptr
  go_enter Try.func36, Try.ntmps36
  go_wp2
  go_loopw [7, 15] (fun av idx wr => ∃ k : Nat, k ≤ m ∧ idx = .int .i64 k ∧ Hid (Acc w wr av ((List.range k).flatMap (stepsAt p N s)) ∧ ((List.range k).flatMap (stepsAt p N s)).length ≤ 2 * k)) (fun _ idx _ => m - (intOf idx).toNat)
  case atStart => exact ⟨0, Nat.zero_le _, rfl, Lib.hid ⟨⟨Sts.nil_ _ _, Below.refl _ _, fun t ht => by simp at ht⟩, by simp⟩⟩
  case round =>
    obtain ⟨k, hk, rfl, HA⟩ := hrel
    have hbel := HA.out.1.below
    by_cases hlt : k < m
    · obtain ⟨l, hl⟩ : ∃ l, p[k]? = some l := ⟨_, List.getElem?_eq_getElem (by rw [HM.out]; exact hlt)⟩
      obtain ⟨c, hc⟩ : ∃ c, s.cores[k]? = some c := ⟨_, List.getElem?_eq_getElem (by rw [H.out.len]; omega)⟩
      have hok := H.out.core k c hc
      obtain ⟨ad, cv, A', c', hv', q1, hrec⟩ := (HP.out.below hbel).at_ hl
      rw [HM.out] at hv'
      injection hv' with eA _ eC
      subst eA eC
      have hnl : c.next ≤ l.length := by have := HS.out.next k c hc; rw [List.getD_eq_getElem?_getD, hl] at this; exact this
      have hrl : c.buf.length ≤ N := HS.out.room k c hc
      have hl4 := HR.out.each l (List.mem_of_getElem? hl)
      have i0 : (0 : Int) ≤ (k : Int) := by omega
      have i3 : (k : Int) < 3 := by omega
      have c0 : wr.cell? ⟨b, k * 14, none⟩ = some (.int .i64 (c.next : Int)) := by
        have := R.out.core H.out hc (j := 0) (by omega) (next_at c)
        rw [Nat.add_zero] at this
        rw [hbel.cell hbl]; exact this
      have c5 : wr.cell? ⟨b, k * 14 + 5, none⟩ = some (.int .i64 (c.buf.length : Int)) := by
        rw [hbel.cell hbl]; exact R.out.core H.out hc (by omega) (count_at hok)
      have RW := Lib.hid (Row.of_below R.out hbel hbl)
      have SA := Lib.hid (stepsAt_core (N := N) hc hl)
      have HC := Lib.hid hc
      have HL := Lib.hid hl
      have OK := Lib.hid hok
      have HRE := Lib.hid hrec
      obtain ⟨cn, hcn⟩ : ∃ cn, c.next = cn := ⟨_, rfl⟩
      obtain ⟨cb, hcb⟩ : ∃ cb, c.buf.length = cb := ⟨_, rfl⟩
      rw [hcn] at c0 hnl
      rw [hcb] at c5 hrl
      have HCN := Lib.hid hcn
      have HCB := Lib.hid hcb
      have HBE := Lib.hid hbel
      have C5W : Hid (w.cell? ⟨b, k * 14 + 5, none⟩ = some (.int .i64 (cb : Int))) := Lib.hid ((hbel.cell (p := ⟨b, k * 14 + 5, none⟩) hbl).symm.trans c5)
      have L4 := Lib.hid hl4
      have hll : l.length ≤ 4 := hl4.1
      have hbw : b < wr.heap.size := Nat.lt_of_lt_of_le hbl hbel.size
      clear hl hc hok hrec hcn hcb hl4
      obtain ⟨ll, hle⟩ : ∃ ll, l.length = ll := ⟨_, rfl⟩
      rw [hle] at hnl hll q1 HRE
      have HLL := Lib.hid hle
      clear hle hbel
      by_cases hx : cn < ll
      · obtain ⟨o, ho⟩ : ∃ o, l[cn]? = some o := ⟨_, List.getElem?_eq_getElem (by rw [HLL.out]; exact hx)⟩
        have hoo := L4.out.2 o (List.mem_of_getElem? ho)
        have h4 : c.next ≤ 4 := by rw [HCN.out]; omega
        have SE : Hid (Shape (execS N k o s)) := Lib.hid (H.out.exec HC.out hN (by rw [HCB.out]; exact hrl) h4 hoo)
        have SZE : Hid ((Try.prog.info? 58).map (·.size) = some (ints (stL (execS N k o s))).length) := Lib.hid (by rw [ints_len, stL_len SE.out]; exact state_size)
        obtain ⟨ad2, cv2, K, a, n, x, hzs, hv2, hz, d0, d1, d2, d3⟩ := Recs.four HRE.out (Below.refl _ _) (k := cn) (by rw [List.length_map, HLL.out]; exact hx)
        obtain ⟨e0, e1, e2, e3⟩ : o.kind = K ∧ o.addr = a ∧ o.word = n ∧ o.reg = x := by
          rw [List.getElem?_map, ho] at hzs
          simp only [Option.map_some, opL, Option.some.injEq, List.cons.injEq, and_true] at hzs
          exact hzs
        injection hv2 with eA2 eN2 eC2
        subst eA2 eC2 e0 e1 e2 e3
        clear eN2
        have hs1 : (match l[c.next]? with | some o => [execS N k o s] | none => []) = [execS N k o s] := by rw [HCN.out, ho]
        have HS1 := Lib.hid hs1
        have HO := Lib.hid hoo
        clear hs1 hoo ho hzs hz
        have AL : Hid ((ad2.add (cn * 4)).block < wr.heap.size) := Lib.hid (World.block_lt_of_cell? wr _ d0)
        have SHx : Hid (Shape (execS N k o s)) := SE
        have SZx := SZE
        have LEx : Hid ((ints (stL (execS N k o s))).length = 46) := Lib.hid (by rw [ints_len, stL_len SE.out])
        have ZL : Hid ((ints (List.replicate 46 0)).length = (ints (stL s)).length) := Lib.hid (by rw [ints_len, ints_len, stL_len H.out, List.length_replicate])
        have xACC := Lib.hid HA.out.1
        have LNx : Hid (((List.range k).flatMap (stepsAt p N s)).length ≤ 100000000000) := Lib.hid (by have := HA.out.2; omega)
        cases hq : c.buf with
        | nil =>
          have HQ := Lib.hid hq
          have hcb0 : cb ≤ 0 := by have := HCB.out; rw [hq] at this; simp at this; omega
          have hcb2 : decide (0 < cb) = false := by simp; omega
          clear hq
          go_wp2_with (first
            | (with_reducible refine loadRow_walk rfl 58 (.tmp 32) rfl b rfl (ints (stL s)) state_struct SZ.out 58 RW.out ?_)
            | ((with_reducible refine alloc_walk (o := ⟨some 11, _, _, _, _, _⟩) rfl 58 rfl _ state_zero ?_); intro x1 rx1 bx1 zx1; have Ix := Lib.hid zx1; clear zx1)
            | ((with_reducible refine storeRow_walk rfl 58 (.tmp 11) (.tmp 33) rfl wr.heap.size rfl (ints (stL s)) rfl SZ.out 58 (ints (List.replicate 46 0)) rx1 ZL.out (ints_one _) ?_); intro x2 rx2 ox2 zx2; have Bx := Lib.hid (Only.below bx1 ox2 bx1.size (fun g hg => Nat.ne_of_lt hg)); have Rx := Lib.hid rx2; have Zx := Lib.hid (zx2.trans Ix.out); clear zx2 ox2 rx1 bx1 rx2; have dx0 := (Bx.out.cell (p := ad2.add (cn * 4)) AL.out).trans d0; have dx1 := (Bx.out.cell (p := ⟨(ad2.add (cn * 4)).block, (ad2.add (cn * 4)).off + 1, none⟩) AL.out).trans d1; have dx2 := (Bx.out.cell (p := ⟨(ad2.add (cn * 4)).block, (ad2.add (cn * 4)).off + 2, none⟩) AL.out).trans d2; have dx3 := (Bx.out.cell (p := ⟨(ad2.add (cn * 4)).block, (ad2.add (cn * 4)).off + 3, none⟩) AL.out).trans d3)
            | (go_at_call 44; refine (exec_any wr.heap.size k N s c o x2 Rx.out H.out HC.out hN (by rw [HCB.out]; exact hrl) h4 HO.out).mono ?_; rintro e x3 ⟨rfl, tx, ox⟩; have Tx := Lib.hid (show Row _ _ _ _ from tx); have Dx := Lib.hid (Only.below Bx.out ox Bx.out.size (fun g hg => Nat.ne_of_lt hg)); clear tx ox)
            | (with_reducible refine loadRow_walk rfl 58 (.tmp 11) rfl wr.heap.size rfl (ints (stL (execS N k o s))) state_struct SZx.out 58 Tx.out ?_)
            | ((with_reducible refine one_walk rfl 49 58 (.tmp 42) rfl (ints (stL (execS N k o s))) rfl Try.underlying49 46 state_one LEx.out (by omega) (by omega) ?_); intro x4 rx4 bx4 zx4; clear zx4; have Cx := Lib.hid (below_on Dx.out bx4); have Sx := Lib.hid (show StAt x4 x3.heap.size (execS N k o s) from rx4); clear rx4 bx4)
            | (at_builtin; go_must ((with_reducible refine appS_walk rfl (.tmp 41) (.tmp 43) rfl w.heap.size u7 ((List.range k).flatMap (stepsAt p N s)) rfl (xACC.out.sts Cx.out) LNx.out x3.heap.size rfl (execS N k o s) SHx.out Sx.out (Nat.le_trans xACC.out.below.size Cx.out.size) ?_); intro xv x5 sx5 gx5 lx5; clear lx5; have xACC5 := Lib.hid (xACC.out.push Cx.out sx5 gx5 SHx.out); clear sx5 gx5; have bx5 := Cx.out; have c5x : x5.cell? ⟨b, k * 14 + 5, none⟩ = some (.int .i64 (cb : Int)) := (xACC5.out.below.cell (p := ⟨b, k * 14 + 5, none⟩) hbl).trans C5W.out; have RX := Lib.hid (Row.of_below R.out xACC5.out.below hbl); clear bx5)))
          go_roundw
          case rel =>
            refine ⟨k + 1, by omega, by go_num, Lib.hid ?_⟩
            rw [range_more, SA.out, HS1.out, if_pos HQ.out]
            have hlen := HA.out.2
            have hacc := xACC5.out
            refine ⟨?_, by simp only [List.length_append, List.length_cons, List.length_nil]; omega⟩
            simpa using hacc
          case measure => simp [intOf]; omega
        | cons q0 q =>
          have HQ := Lib.hid hq
          have hcb1 : 0 < cb := by have := HCB.out; rw [hq] at this; simp at this; omega
          have hcb1' : (0 : Int) < (cb : Int) := by omega
          clear hq
          have SHy : Hid (Shape (drainS k s)) := Lib.hid (H.out.drain k)
          have SZy : Hid ((Try.prog.info? 58).map (·.size) = some (ints (stL (drainS k s))).length) := Lib.hid (by rw [ints_len, stL_len SHy.out]; exact state_size)
          have LEy : Hid ((ints (stL (drainS k s))).length = 46) := Lib.hid (by rw [ints_len, stL_len SHy.out])
          have LNy : Hid ((((List.range k).flatMap (stepsAt p N s)) ++ [execS N k o s]).length ≤ 100000000000) := Lib.hid (by have := HA.out.2; simp only [List.length_append, List.length_cons, List.length_nil]; omega)
          go_wp2_with (first
            | (with_reducible refine loadRow_walk rfl 58 (.tmp 32) rfl b rfl (ints (stL s)) state_struct SZ.out 58 RW.out ?_)
            | ((with_reducible refine alloc_walk (o := ⟨some 11, _, _, _, _, _⟩) rfl 58 rfl _ state_zero ?_); intro x1 rx1 bx1 zx1; have Ix := Lib.hid zx1; clear zx1)
            | ((with_reducible refine storeRow_walk rfl 58 (.tmp 11) (.tmp 33) rfl wr.heap.size rfl (ints (stL s)) rfl SZ.out 58 (ints (List.replicate 46 0)) rx1 ZL.out (ints_one _) ?_); intro x2 rx2 ox2 zx2; have Bx := Lib.hid (Only.below bx1 ox2 bx1.size (fun g hg => Nat.ne_of_lt hg)); have Rx := Lib.hid rx2; have Zx := Lib.hid (zx2.trans Ix.out); clear zx2 ox2 rx1 bx1 rx2; have dx0 := (Bx.out.cell (p := ad2.add (cn * 4)) AL.out).trans d0; have dx1 := (Bx.out.cell (p := ⟨(ad2.add (cn * 4)).block, (ad2.add (cn * 4)).off + 1, none⟩) AL.out).trans d1; have dx2 := (Bx.out.cell (p := ⟨(ad2.add (cn * 4)).block, (ad2.add (cn * 4)).off + 2, none⟩) AL.out).trans d2; have dx3 := (Bx.out.cell (p := ⟨(ad2.add (cn * 4)).block, (ad2.add (cn * 4)).off + 3, none⟩) AL.out).trans d3)
            | (go_at_call 44; refine (exec_any wr.heap.size k N s c o x2 Rx.out H.out HC.out hN (by rw [HCB.out]; exact hrl) h4 HO.out).mono ?_; rintro e x3 ⟨rfl, tx, ox⟩; have Tx := Lib.hid (show Row _ _ _ _ from tx); have Dx := Lib.hid (Only.below Bx.out ox Bx.out.size (fun g hg => Nat.ne_of_lt hg)); clear tx ox)
            | (with_reducible refine loadRow_walk rfl 58 (.tmp 11) rfl wr.heap.size rfl (ints (stL (execS N k o s))) state_struct SZx.out 58 Tx.out ?_)
            | ((with_reducible refine one_walk rfl 49 58 (.tmp 42) rfl (ints (stL (execS N k o s))) rfl Try.underlying49 46 state_one LEx.out (by omega) (by omega) ?_); intro x4 rx4 bx4 zx4; clear zx4; have Cx := Lib.hid (below_on Dx.out bx4); have Sx := Lib.hid (show StAt x4 x3.heap.size (execS N k o s) from rx4); clear rx4 bx4)
            | (((with_reducible refine appS_walk rfl (.tmp 41) (.tmp 43) rfl w.heap.size u7 ((List.range k).flatMap (stepsAt p N s)) rfl (xACC.out.sts Cx.out) LNx.out x3.heap.size rfl (execS N k o s) SHx.out Sx.out (Nat.le_trans xACC.out.below.size Cx.out.size) ?_); intro xv x5 sx5 gx5 lx5; clear lx5; have xACC5 := Lib.hid (xACC.out.push Cx.out sx5 gx5 SHx.out); clear sx5 gx5; have bx5 := Cx.out; have c5x : x5.cell? ⟨b, k * 14 + 5, none⟩ = some (.int .i64 (cb : Int)) := (xACC5.out.below.cell (p := ⟨b, k * 14 + 5, none⟩) hbl).trans C5W.out; have RX := Lib.hid (Row.of_below R.out xACC5.out.below hbl); clear bx5; have yACC := xACC5))
            | (with_reducible refine loadRow_walk rfl 58 (.tmp 54) rfl b rfl (ints (stL s)) state_struct SZ.out 58 RX.out ?_)
            | ((with_reducible refine alloc_walk (o := ⟨some 12, _, _, _, _, _⟩) rfl 58 rfl _ state_zero ?_); intro y1 ry1 by1 zy1; have Iy := Lib.hid zy1; clear zy1)
            | ((with_reducible refine storeRow_walk rfl 58 (.tmp 12) (.tmp 55) rfl x5.heap.size rfl (ints (stL s)) rfl SZ.out 58 (ints (List.replicate 46 0)) ry1 ZL.out (ints_one _) ?_); intro y2 ry2 oy2 zy2; have By := Lib.hid (Only.below by1 oy2 by1.size (fun g hg => Nat.ne_of_lt hg)); have Ry := Lib.hid ry2; have Zy := Lib.hid (zy2.trans Iy.out); clear zy2 oy2 ry1 by1 ry2)
            | (go_at_call 45; refine (drain_any x5.heap.size k s c q0 q y2 Ry.out H.out HC.out HQ.out).mono ?_; rintro e y3 ⟨rfl, ty, oy⟩; have Ty := Lib.hid (show Row _ _ _ _ from ty); have Dy := Lib.hid (Only.below By.out oy By.out.size (fun g hg => Nat.ne_of_lt hg)); clear ty oy)
            | (with_reducible refine loadRow_walk rfl 58 (.tmp 12) rfl x5.heap.size rfl (ints (stL (drainS k s))) state_struct SZy.out 58 Ty.out ?_)
            | ((with_reducible refine one_walk rfl 49 58 (.tmp 59) rfl (ints (stL (drainS k s))) rfl Try.underlying49 46 state_one LEy.out (by omega) (by omega) ?_); intro y4 ry4 by4 zy4; clear zy4; have Cy := Lib.hid (below_on Dy.out by4); have Sy := Lib.hid (show StAt y4 y3.heap.size (drainS k s) from ry4); clear ry4 by4)
            | (at_builtin; go_must ((with_reducible refine appS_walk rfl (.tmp 58) (.tmp 60) rfl w.heap.size xv (((List.range k).flatMap (stepsAt p N s)) ++ [execS N k o s]) rfl (yACC.out.sts Cy.out) LNy.out y3.heap.size rfl (drainS k s) SHy.out Sy.out (Nat.le_trans yACC.out.below.size Cy.out.size) ?_); intro yv y5 sy5 gy5 ly5; clear ly5; have yACC5 := Lib.hid (yACC.out.push Cy.out sy5 gy5 SHy.out); clear sy5 gy5)))
          go_roundw
          case rel =>
            refine ⟨k + 1, by omega, by go_num, Lib.hid ?_⟩
            rw [range_more, SA.out, HS1.out, if_neg (by rw [HQ.out]; simp)]
            have hlen := HA.out.2
            have hacc := yACC5.out
            refine ⟨?_, by simp only [List.length_append, List.length_cons, List.length_nil]; omega⟩
            simpa using hacc
          case measure => simp [intOf]; omega
      · have ZL : Hid ((ints (List.replicate 46 0)).length = (ints (stL s)).length) := Lib.hid (by rw [ints_len, ints_len, stL_len H.out, List.length_replicate])
        have hs1 : (match l[c.next]? with | some o => [execS N k o s] | none => []) = [] := by rw [HCN.out, List.getElem?_eq_none (by rw [HLL.out]; omega)]
        have HS1 := Lib.hid hs1
        clear hs1
        cases hq : c.buf with
        | nil =>
          have HQ := Lib.hid hq
          have hcb0 : cb ≤ 0 := by have := HCB.out; rw [hq] at this; simp at this; omega
          have hcb2 : decide (0 < cb) = false := by simp; omega
          clear hq
          go_wp2
          go_roundw
          case rel =>
            refine ⟨k + 1, by omega, by go_num, Lib.hid ?_⟩
            rw [range_more, SA.out, HS1.out, if_pos HQ.out]
            have hlen := HA.out.2
            have hacc := HA.out.1
            refine ⟨?_, by simp only [List.length_append, List.length_nil]; omega⟩
            simpa using hacc
          case measure => simp [intOf]; omega
        | cons q0 q =>
          have HQ := Lib.hid hq
          have hcb1 : 0 < cb := by have := HCB.out; rw [hq] at this; simp at this; omega
          have hcb1' : (0 : Int) < (cb : Int) := by omega
          clear hq
          have SHy : Hid (Shape (drainS k s)) := Lib.hid (H.out.drain k)
          have SZy : Hid ((Try.prog.info? 58).map (·.size) = some (ints (stL (drainS k s))).length) := Lib.hid (by rw [ints_len, stL_len SHy.out]; exact state_size)
          have LEy : Hid ((ints (stL (drainS k s))).length = 46) := Lib.hid (by rw [ints_len, stL_len SHy.out])
          have yACC := Lib.hid HA.out.1
          have LNy : Hid ((((List.range k).flatMap (stepsAt p N s))).length ≤ 100000000000) := Lib.hid (by have := HA.out.2; omega)
          go_wp2_with (first
            | (with_reducible refine loadRow_walk rfl 58 (.tmp 54) rfl b rfl (ints (stL s)) state_struct SZ.out 58 RW.out ?_)
            | ((with_reducible refine alloc_walk (o := ⟨some 12, _, _, _, _, _⟩) rfl 58 rfl _ state_zero ?_); intro y1 ry1 by1 zy1; have Iy := Lib.hid zy1; clear zy1)
            | ((with_reducible refine storeRow_walk rfl 58 (.tmp 12) (.tmp 55) rfl wr.heap.size rfl (ints (stL s)) rfl SZ.out 58 (ints (List.replicate 46 0)) ry1 ZL.out (ints_one _) ?_); intro y2 ry2 oy2 zy2; have By := Lib.hid (Only.below by1 oy2 by1.size (fun g hg => Nat.ne_of_lt hg)); have Ry := Lib.hid ry2; have Zy := Lib.hid (zy2.trans Iy.out); clear zy2 oy2 ry1 by1 ry2)
            | (go_at_call 45; refine (drain_any wr.heap.size k s c q0 q y2 Ry.out H.out HC.out HQ.out).mono ?_; rintro e y3 ⟨rfl, ty, oy⟩; have Ty := Lib.hid (show Row _ _ _ _ from ty); have Dy := Lib.hid (Only.below By.out oy By.out.size (fun g hg => Nat.ne_of_lt hg)); clear ty oy)
            | (with_reducible refine loadRow_walk rfl 58 (.tmp 12) rfl wr.heap.size rfl (ints (stL (drainS k s))) state_struct SZy.out 58 Ty.out ?_)
            | ((with_reducible refine one_walk rfl 49 58 (.tmp 59) rfl (ints (stL (drainS k s))) rfl Try.underlying49 46 state_one LEy.out (by omega) (by omega) ?_); intro y4 ry4 by4 zy4; clear zy4; have Cy := Lib.hid (below_on Dy.out by4); have Sy := Lib.hid (show StAt y4 y3.heap.size (drainS k s) from ry4); clear ry4 by4)
            | (at_builtin; go_must ((with_reducible refine appS_walk rfl (.tmp 58) (.tmp 60) rfl w.heap.size u7 ((List.range k).flatMap (stepsAt p N s)) rfl (yACC.out.sts Cy.out) LNy.out y3.heap.size rfl (drainS k s) SHy.out Sy.out (Nat.le_trans yACC.out.below.size Cy.out.size) ?_); intro yv y5 sy5 gy5 ly5; clear ly5; have yACC5 := Lib.hid (yACC.out.push Cy.out sy5 gy5 SHy.out); clear sy5 gy5)))
          go_roundw
          case rel =>
            refine ⟨k + 1, by omega, by go_num, Lib.hid ?_⟩
            rw [range_more, SA.out, HS1.out, if_neg (by rw [HQ.out]; simp)]
            have hlen := HA.out.2
            have hacc := yACC5.out
            refine ⟨?_, by simp only [List.length_append, List.length_cons, List.length_nil]; omega⟩
            simpa using hacc
          case measure => simp [intOf]; omega
    · go_wp2
      go_ret
      obtain rfl : k = m := by omega
      refine ⟨_, rfl, ?_⟩
      unfold stepsS
      rw [HM.out]
      exact HA.out.1

#print axioms steps_any
end Go.Proofs.Ytgljgpllooehkaa
