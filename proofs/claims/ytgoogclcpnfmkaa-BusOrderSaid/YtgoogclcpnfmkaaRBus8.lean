/-
  The reference of layer 6: Do, second part: Lose; any call.
  Conditions: those that each theorem states.
-/
import Derived.Test.YtgoogclcpnfmkaaRBus7
import Derived.Deep.RegionHeld3
namespace Go.Proofs.Ytgoogclcpnfmkaa
open Go.ChangeShapes Go.WideShapes Go.ChangeAt Go.RowKit

/-- What Lose's last statement keeps: the bus, the call, and some bus in the result's block. -/
structure LoseT (w W : World) (a b : Value) (K c x y : Int) : Prop where
  bel : Below w.heap.size w W
  bus : Row W w.heap.size 34 [a, b]
  op : Row W (w.heap.size + 1) 37 [.int .i64 K, .int .i64 c, .int .i64 x, .int .i64 y]
  res : ∃ u v, Row W (w.heap.size + 1 + 1) 34 [u, v]
theorem LoseT.below {w W W' : World} {a b : Value} {K c x y : Int} (h : LoseT w W a b K c x y) (hb : Below W.heap.size W W') : LoseT w W' a b K c x y := by
  obtain ⟨u, v, hr⟩ := h.res
  exact ⟨below_on h.bel hb, h.bus.below hb, h.op.below hb, u, v, hr.below hb⟩
theorem LoseT.store {w W : World} {a b : Value} {K c x y : Int} (h : LoseT w W a b K c x y) (u v : Value) : LoseT w ((W.setCell ⟨w.heap.size + 1 + 1, 0, none⟩ u).setCell ⟨w.heap.size + 1 + 1, 1, none⟩ v) a b K c x y := by
  obtain ⟨u', v', hr⟩ := h.res
  refine ⟨(h.bel.setCell (p := ⟨w.heap.size + 1 + 1, 0, none⟩) (by show w.heap.size ≤ w.heap.size + 1 + 1; omega) u).setCell (p := ⟨w.heap.size + 1 + 1, 1, none⟩) (by show w.heap.size ≤ w.heap.size + 1 + 1; omega) v, ?_, ?_, u, v, ?_⟩
  · exact (h.bus.far (p := ⟨w.heap.size + 1 + 1, 0, none⟩) (by show w.heap.size ≠ w.heap.size + 1 + 1; omega) u).far (p := ⟨w.heap.size + 1 + 1, 1, none⟩) (by show w.heap.size ≠ w.heap.size + 1 + 1; omega) v
  · exact (h.op.far (p := ⟨w.heap.size + 1 + 1, 0, none⟩) (by show w.heap.size + 1 ≠ w.heap.size + 1 + 1; omega) u).far (p := ⟨w.heap.size + 1 + 1, 1, none⟩) (by show w.heap.size + 1 ≠ w.heap.size + 1 + 1; omega) v
  · exact (hr.put 0 u).put 1 v

set_option maxRecDepth 100000 in
set_option maxHeartbeats 2000000 in
theorem rdo6_lose (P : Nat → Prop) (N : Nat) (l : List Int) (qs : List (List (Int × Int))) (vr vb : Value) (i : Nat) (q : List (Int × Int)) (a x : Int) (w : World) (r : RBus w P N l qs vr vb) (hq : qs[i]? = some q) (hP : ∀ b, w.heap.size ≤ b → P b) (hl1 : 1 ≤ l.length) :
    Calls Try.prog 14 #[.agg #[vr, vb], opV 5 i a x] w (RBusP P N (l) (qs.set i []) (fun b => .tuple #[b, .int .i64 q.length, .int .i64 0]) w) := by
  unfold opV
  have r := r.off 3
  have hlm := r.size
  have hm := r.most
  have HP' : Hid (∀ b, w.heap.size + 3 ≤ b → Off P w.heap.size 3 b) := Lib.hid (fun b hb => Off.of (hP b (by omega)) (.inr hb))
  obtain ⟨A, k, B, d, rfl, rfl⟩ := r.open_
  obtain ⟨g, o, v, rfl, hPg, hg, e0, e1, hv, hcv⟩ := r.buf hq
  obtain ⟨Av, nv, cv, rfl, HNV, HV⟩ := hv.open_
  obtain ⟨w3, hw3⟩ : ∃ w3, boxD w (.slice A l.length k) (.slice (some ⟨g, o, none⟩) qs.length d) 5 i a x = w3 := ⟨_, rfl⟩
  have hb3 := boxD_below w (.slice A l.length k) (.slice (some ⟨g, o, none⟩) qs.length d) 5 i a x
  obtain ⟨r0, r1, r2⟩ := boxD_rows w (.slice A l.length k) (.slice (some ⟨g, o, none⟩) qs.length d) 5 i a x
  rw [hw3] at hb3 r0 r1 r2
  unfold boxD at hw3
  have rr := r.below hb3
  have RR := Lib.hid rr
  have HB3 := Lib.hid hb3
  have R0 := Lib.hid r0
  have R1 := Lib.hid r1
  have R2 := Lib.hid r2
  have a0 := r0.cell 0
  have a1 := r0.cell 1
  have b0 := r1.cell 0
  have b1 := r1.cell 1
  have b2 := r1.cell 2
  have b3 := r1.cell 3
  have c0 := r2.cell 0
  have c1 := r2.cell 1
  have d0 := r2.soft 0
  have d1 := r2.soft 1
  simp only [List.getElem?_cons_zero, List.getElem?_cons_succ] at a0 a1 b0 b1 b2 b3 c0 c1
  have l3 := r2.lt
  have hi := lt_of_at hq
  have hnv : q.length = nv := by have := HNV.out; rwa [sts_len] at this
  rw [hnv]
  have wt := rwrong_ok (Off P w.heap.size 3) N l qs _ _ i 0 w3 rr ⟨by omega, by omega⟩
  rw [runE_one (by omega) (by omega)] at wt
  have WT := Lib.hid wt
  obtain ⟨C, hC⟩ : ∃ C, qs.length = C := ⟨_, rfl⟩
  obtain ⟨n, hn⟩ : ∃ n, l.length = n := ⟨_, rfl⟩
  have RO := Lib.hid r
  rw [hC, hn] at hw3 R0 RR WT RO
  rw [hn] at a0
  rw [hC] at a1 hi hm
  rw [hC, hn]
  have HC := Lib.hid hC
  clear r r0 r1 r2 rr hb3 hq hP wt hnv hC hn hv hcv
  go_enter Try.func14, Try.ntmps14
  go_wp2_with fail
  refine WT.out.mono ?_
  rintro e w5 ⟨rfl, hb5⟩
  have t0 := R0.out.below hb5
  have t1 := R1.out.below hb5
  have z0 := t0.cell 0
  have z1 := t0.cell 1
  have q0 := t1.cell 0
  have q1 := t1.cell 1
  simp only [List.getElem?_cons_zero, List.getElem?_cons_succ] at z0 z1 q0 q1
  have b5 := below_on HB3.out hb5
  have k0 : w5.cell? ⟨g, o + i * 2, none⟩ = some (.int .i64 N) := (b5.cell (p := ⟨g, o + i * 2, none⟩) hg).trans e0
  have k1 : w5.cell? ⟨g, o + i * 2 + 1, none⟩ = some (.slice Av nv cv) := (b5.cell (p := ⟨g, o + i * 2 + 1, none⟩) hg).trans e1
  have hs5 := hb5.size
  have r5 := RR.out.below hb5
  have lt5 : LoseT w w5 (.slice A n k) (.slice (some ⟨g, o, none⟩) C d) 5 i a x := ⟨b5, R0.out.below hb5, R1.out.below hb5, _, _, R2.out.below hb5⟩
  have KK := Lib.hid (fun W (h : LoseT w W (.slice A n k) (.slice (some ⟨g, o, none⟩) C d) 5 i a x) => (show W.cell? ⟨w.heap.size, 0, none⟩ = some (.slice A n k) ∧ W.cell? ⟨w.heap.size, 1, none⟩ = some (.slice (some ⟨g, o, none⟩) C d) ∧ W.cell? ⟨w.heap.size + 1, 1, none⟩ = some (.int .i64 i) ∧ W.cell? ⟨g, o + i * 2, none⟩ = some (.int .i64 N) ∧ LoseT w W (.slice A n k) (.slice (some ⟨g, o, none⟩) C d) 5 i a x from ⟨h.bus.cell 0, h.bus.cell 1, h.op.cell 1, (h.bel.cell (p := ⟨g, o + i * 2, none⟩) hg).trans e0, h⟩))
  have WI := Lib.hid (fun W (h : LoseT w W (.slice A n k) (.slice (some ⟨g, o, none⟩) C d) 5 i a x) => (rwith_any (Off P w.heap.size 3) N l qs (.slice A n k) (.slice (some ⟨g, o, none⟩) C d) (.slice none 0 0) i [] W (RO.out.below h.bel) (by rw [HC.out]; exact hi) (Two.nil_ _ _) rfl (by simp) (fun b hb' => HP'.out b (by obtain ⟨_, _, hr⟩ := h.res; have := hr.lt; omega))).mono (R' := fun e w' => ∃ A4 n4 c4 B4 m4 d4 u v, e = .returned (.agg #[.slice A4 n4 c4, .slice B4 m4 d4]) ∧ Hid (RBus w' (Off P w.heap.size 3) N l (qs.set i []) (.slice A4 n4 c4) (.slice B4 m4 d4)) ∧ w'.cell? ⟨w.heap.size + 1 + 1, 0, none⟩ = some u ∧ w'.cell? ⟨w.heap.size + 1 + 1, 1, none⟩ = some v ∧ w'.frozen? ⟨w.heap.size + 1 + 1, 0, none⟩ = false ∧ w'.frozen? ⟨w.heap.size + 1 + 1, 1, none⟩ = false ∧ LoseT w w' (.slice A n k) (.slice (some ⟨g, o, none⟩) C d) 5 i a x) (fun e w' ⟨A4, n4, c4, B4, m4, d4, he, hr4, hb4⟩ => by
    have h4 := h.below hb4
    obtain ⟨u, v, hr⟩ := h4.res
    exact ⟨A4, n4, c4, B4, m4, d4, u, v, he, hr4, hr.cell 0, hr.cell 1, hr.soft 0, hr.soft 1, h4⟩))
  clear t0 t1 hb5 b5 hw3 a0 a1 b0 b1 b2 b3 c0 c1 d0 d1 e0 e1 r5
  go_wp2_with fail
  go_region_held3 (fun W => W.cell? ⟨w.heap.size, 0, none⟩ = some (.slice A n k) ∧ W.cell? ⟨w.heap.size, 1, none⟩ = some (.slice (some ⟨g, o, none⟩) C d) ∧ W.cell? ⟨w.heap.size + 1, 1, none⟩ = some (.int .i64 i) ∧ W.cell? ⟨g, o + i * 2, none⟩ = some (.int .i64 N) ∧ LoseT w W (.slice A n k) (.slice (some ⟨g, o, none⟩) C d) 5 i a x)
    (first | exact KK.out _ (h4.store _ _) | exact KK.out _ h4 | exact KK.out _ (lt5.below (below_q _ 1)) | exact KK.out _ lt5 | go_keep)
    (first
      | (go_at_call 39; refine (WI.out _ ?_).mono ?_; (go_split_ands; assumption); rintro e w4 ⟨A4, n4, c4, B4, m4', d4, u4, v4, rfl, R4, y0, y1, f0, f1, h4⟩))
  all_goals go_wp2_with fail
  all_goals
    have hbF := (((Lib.hid h4.bel).out.setCell (p := ⟨w.heap.size + 1 + 1, 0, none⟩) (by show w.heap.size ≤ w.heap.size + 1 + 1; omega) (.slice A4 n4 c4)).setCell (p := ⟨w.heap.size + 1 + 1, 1, none⟩) (by show w.heap.size ≤ w.heap.size + 1 + 1; omega) (.slice B4 m4' d4))
    exact bodyPost_ret (v := .tuple #[.agg #[.slice A4 n4 c4, .slice B4 m4' d4], .int .i64 nv, .int .i64 0]) (by simp [results, Try.results14, go_sem, *]) rfl ⟨_, _, _, _, _, _, rfl, ((R4.out.own (by omega) (by omega) 0 _).own (by omega) (by omega) 1 _).on, hbF⟩

/-- What a core that may load loads. -/
theorem rldV_in {l : List Int} {q : List (Int × Int)} (h : InMem l.length q) (a : Int) : rldV l q a = ldV l q a := by
  unfold rldV
  by_cases hE : runE l.length a 1 = 0
  · rw [if_pos hE]
  · rw [if_neg hE]
    unfold ldV
    cases hf : fnd q a with
    | none =>
      simp only
      unfold loadV
      rw [if_neg hE]
    | some y =>
      obtain ⟨p, hp, h1, _⟩ := fnd_mem hf
      obtain ⟨⟨h2, _⟩, h3⟩ := h p hp
      rw [h1] at h2 h3
      exact absurd (runE_one h2 h3) hE

theorem rdo6_any (P : Nat → Prop) (N : Nat) (l : List Int) (qs : List (List (Int × Int))) (vr vb : Value) (K c a x : Int) (w : World) (r : RBus w P N l qs vr vb) (hP : ∀ b, w.heap.size ≤ b → P b) (hN : 1 ≤ N) (hl1 : 1 ≤ l.length) (hin : ∀ q ∈ qs, InMem l.length q) :
    Calls Try.prog 14 #[.agg #[vr, vb], opV K c a x] w (RBusP P N (dL N l qs K c a x) (dQ N l qs K c a x) (fun b => .tuple #[b, .int .i64 (dN l qs K c a x), .int .i64 (dE l qs K c a x)]) w) := by
  unfold dL dQ dN dE
  by_cases hc : cIn qs c
  · rw [if_pos hc, if_pos hc, if_pos hc, if_pos hc]
    have hq := qAt_some hc
    have hmem : InMem l.length (qAt qs c) := hin _ (List.mem_of_getElem? hq)
    obtain ⟨i, rfl⟩ := Int.eq_ofNat_of_zero_le hc.1
    rw [Int.toNat_natCast] at hq ⊢
    unfold pL pQ pN pE
    by_cases h0 : K = 0
    · subst h0
      exact rdo6_store P N l qs vr vb i _ a x w r hq hP hN
    rw [if_neg h0, if_neg h0, if_neg h0, if_neg h0]
    by_cases h2 : K = 2
    · subst h2
      exact rdo6_drain P N l qs vr vb i _ a x w r hq hP hl1
    rw [if_neg h2, if_neg h2, if_neg h2, if_neg h2]
    by_cases h3 : K = 3
    · subst h3
      exact rdo6_fence P N l qs vr vb i _ a x w r hq hP hl1
    rw [if_neg h3, if_neg h3, if_neg h3, if_neg h3]
    by_cases h4 : K = 4
    · subst h4
      exact rdo6_swap P N l qs vr vb i _ a x w r hq hP
    rw [if_neg h4, if_neg h4, if_neg h4, if_neg h4]
    by_cases h5 : K = 5
    · subst h5
      exact rdo6_lose P N l qs vr vb i _ a x w r hq hP hl1
    rw [if_neg h5, if_neg h5, if_neg h5, set_same hq, ← rldV_in hmem]
    exact rdo6_load_ok P N l qs vr vb K h0 h2 h3 h4 h5 i _ a x w r hq hP
  · rw [if_neg hc, if_neg hc, if_neg hc, if_neg hc]
    by_cases h0 : K = 0
    · subst h0
      exact rdo6_store_no P N l qs vr vb c a x w r hc hP
    by_cases h2 : K = 2
    · subst h2
      exact rdo6_no2 P N l qs vr vb c a x w r hc hP
    by_cases h3 : K = 3
    · subst h3
      exact rdo6_no3 P N l qs vr vb c a x w r hc hP
    by_cases h4 : K = 4
    · subst h4
      exact rdo6_swap_no P N l qs vr vb c a x w r hc hP
    by_cases h5 : K = 5
    · subst h5
      exact rdo6_no5 P N l qs vr vb c a x w r hc hP
    exact rdo6_load_no P N l qs vr vb K h0 h2 h3 h4 h5 c a x w r hc hP

#print axioms rdo6_lose
#print axioms rdo6_any
end Go.Proofs.Ytgoogclcpnfmkaa
