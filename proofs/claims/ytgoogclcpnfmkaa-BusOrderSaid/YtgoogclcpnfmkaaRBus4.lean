/-
  The reference of layer 6: Fence, Load.
  Conditions: those that each theorem states.
-/
import Derived.Test.YtgoogclcpnfmkaaRBus3
namespace Go.Proofs.Ytgoogclcpnfmkaa
open Go.ChangeShapes Go.WideShapes Go.ChangeAt Go.RowKit

/-- The state of the reference's Fence behind k stores. -/
structure FenceAt (w wr : World) (P : Nat → Prop) (N : Nat) (l : List Int) (qs : List (List (Int × Int))) (A : Option Addr) (n c : Nat) (B : Option Addr) (m d : Nat) : Prop where
  box : Row wr w.heap.size 34 [.slice A n c, .slice B m d]
  res : Row wr (w.heap.size + 1) 34 [.slice none 0 0, .slice none 0 0]
  bus : RBus wr (Off P w.heap.size 2) N l qs (.slice A n c) (.slice B m d)
  bel : Below w.heap.size w wr

set_option maxRecDepth 100000 in
set_option maxHeartbeats 2000000 in
theorem rfence6_any (P : Nat → Prop) (N : Nat) (l : List Int) (qs : List (List (Int × Int))) (vr vb : Value) (i : Nat) (q : List (Int × Int)) (w : World) (r : RBus w P N l qs vr vb) (hq : qs[i]? = some q) (hP : ∀ b, w.heap.size ≤ b → P b) :
    Calls Try.prog 38 #[.agg #[vr, vb], .int .i64 (i : Int)] w (RBusP P N (drs l q) (qs.set i []) (fun b => .tuple #[b, .int .i64 q.length]) w) := by
  have r := r.off 2
  have hi := lt_of_at hq
  have HP' : Hid (∀ b, w.heap.size + 2 ≤ b → Off P w.heap.size 2 b) := Lib.hid (fun b hb => Off.of (hP b (by omega)) (.inr hb))
  have hfit := r.fit _ (List.mem_of_getElem? hq)
  have h16 := r.cap16
  obtain ⟨A, k0, B, d, rfl, rfl⟩ := r.open_
  obtain ⟨n, hn⟩ : ∃ n, q.length = n := ⟨_, rfl⟩
  have hb2 := boxW_below w (.slice A l.length k0) (.slice B qs.length d)
  obtain ⟨r0, r1⟩ := boxW_rows w (.slice A l.length k0) (.slice B qs.length d)
  have ST : Hid (FenceAt w (boxW w (.slice A l.length k0) (.slice B qs.length d)) P N l qs A l.length k0 B qs.length d) := Lib.hid ⟨r0, r1, r.below hb2, hb2⟩
  unfold boxW at ST
  have HQ := Lib.hid hq
  rw [hn] at hfit ⊢
  have HN := Lib.hid hn
  clear r hq hb2 r0 r1 hn hP
  go_enter Try.func38, Try.ntmps38
  go_wp2_with fail
  go_loopw [6] (fun z wr => ∃ k : Nat, k ≤ n ∧ z = .int .i64 k ∧ Hid (∃ A a c B b d, FenceAt w wr P N (drs l (q.take k)) (qs.set i (q.drop k)) A a c B b d)) (fun z _ => n - (intOf z).toNat)
  case atStart => exact ⟨0, Nat.zero_le _, rfl, Lib.hid ⟨_, _, _, _, _, _, by rw [List.take_zero, drs_nil, List.drop_zero, set_same HQ.out]; exact ST.out⟩⟩
  case round =>
    clear ST
    obtain ⟨k, hk, rfl, hs⟩ := hrel
    obtain ⟨A, a, c, B, b, d, m⟩ := hs.out
    have x0 := m.box.cell 0
    have x1 := m.box.cell 1
    simp only [List.getElem?_cons_zero, List.getElem?_cons_succ] at x0 x1
    have hsz := m.res.lt
    have dr := rdrain6_any (Off P w.heap.size 2) N _ _ _ _ i (q.drop k) wr m.bus (set_at _ hi) (fun b hb => HP'.out b (by omega))
    have M := Lib.hid m
    by_cases hlt : k < n
    · have hany : anyB (q.drop k) = true := by
        have : (q.drop k).length ≠ 0 := by rw [List.length_drop, HN.out]; omega
        cases h : q.drop k with
        | nil => rw [h] at this; simp at this
        | cons p t => rfl
      rw [hany] at dr
      have DR := Lib.hid dr
      clear dr hany m hs
      go_wp2_with fail
      refine DR.out.mono ?_
      rintro e w2 ⟨A2, n2, c2, B2, m2, d2, rfl, hr2, hb2⟩
      dsimp only
      have t0 := M.out.box.below hb2
      have t1 := M.out.res.below hb2
      have x0 := t0.cell 0
      have x1 := t0.cell 1
      have g0 := t0.soft 0
      have g1 := t0.soft 1
      simp only [List.getElem?_cons_zero, List.getElem?_cons_succ] at x0 x1
      have T0 := Lib.hid t0
      have T1 := Lib.hid t1
      have R2 := Lib.hid hr2
      have HB2 := Lib.hid (below_on M.out.bel hb2)
      have l2 := t1.lt
      have m0 : w.heap.size ≠ w2.heap.size := by omega
      have l0 : w.heap.size < w2.heap.size := by omega
      clear t0 t1 hr2 hb2
      go_wp2_with fail
      go_roundw
      case rel =>
        refine ⟨k + 1, by omega, by go_num, Lib.hid ⟨A2, n2, c2, B2, m2, d2, ?_⟩⟩
        rw [← drs_more, show qs.set i (q.drop (k + 1)) = (qs.set i (q.drop k)).set i ((q.drop k).drop 1) from by rw [List.set_set, List.drop_drop]]
        exact ⟨((T0.out.put 0 _).put 1 _).below (below_al _ _), ((T1.out.far (p := ⟨w.heap.size, 0, none⟩) (by show w.heap.size + 1 ≠ w.heap.size; omega) _).far (p := ⟨w.heap.size, 1, none⟩) (by show w.heap.size + 1 ≠ w.heap.size; omega) _).below (below_al _ _), ((R2.out.own (Nat.le_refl _) (by omega) 0 _).own (Nat.le_refl _) (by omega) 1 _).below (below_al _ _), below_on ((HB2.out.setCell (p := ⟨w.heap.size, 0, none⟩) (Nat.le_refl _) _).setCell (p := ⟨w.heap.size, 1, none⟩) (Nat.le_refl _) _) (below_al _ _)⟩
      case measure => simp [intOf]; omega
    · obtain rfl : k = n := by omega
      have hd : q.drop k = [] := List.drop_eq_nil_of_le (by rw [HN.out]; exact Nat.le_refl _)
      have hany : anyB (q.drop k) = false := by rw [hd]; rfl
      rw [hany] at dr
      have DR := Lib.hid dr
      have HD := Lib.hid hd
      clear dr hany m hs hd
      go_wp2_with fail
      refine DR.out.mono ?_
      rintro e w2 ⟨A2, n2, c2, B2, m2, d2, rfl, hr2, hb2⟩
      dsimp only
      have t0 := M.out.box.below hb2
      have t1 := M.out.res.below hb2
      have x0 := t0.cell 0
      have x1 := t0.cell 1
      have y0 := t1.cell 0
      have y1 := t1.cell 1
      have f0 := t1.soft 0
      have f1 := t1.soft 1
      simp only [List.getElem?_cons_zero, List.getElem?_cons_succ] at x0 x1 y0 y1
      have r2 := M.out.bus.below hb2
      rw [HD.out, List.take_of_length_le (by rw [HN.out]; exact Nat.le_refl _)] at r2
      have R2 := Lib.hid r2
      have HB2 := Lib.hid (below_on M.out.bel hb2)
      have l2 := t1.lt
      have m0 : w.heap.size ≠ w2.heap.size := by omega
      have l0 : w.heap.size < w2.heap.size := by omega
      have m1 : w.heap.size + 1 ≠ w2.heap.size := by omega
      clear t0 t1 hr2 hb2 r2
      go_wp2_with fail
      have hbF := ((HB2.out.setCell (p := ⟨w.heap.size + 1, 0, none⟩) (by show w.heap.size ≤ w.heap.size + 1; omega) (.slice A a c)).setCell (p := ⟨w.heap.size + 1, 1, none⟩) (by show w.heap.size ≤ w.heap.size + 1; omega) (.slice B b d))
      exact bodyPost_ret (v := .tuple #[.agg #[.slice A a c, .slice B b d], .int .i64 k]) (by simp [results, Try.results38, go_sem, *]) rfl ⟨A, a, c, B, b, d, rfl, (((R2.out.own (by omega) (by omega) 0 _).own (by omega) (by omega) 1 _).below (below_al _ _)).on, below_on hbF (below_al _ _)⟩

/-- What the reference's Load tells. -/
def rldV (l : List Int) (q : List (Int × Int)) (a : Int) : Int := if runE l.length a 1 = 0 then ldV l q a else 0

set_option maxRecDepth 100000 in
set_option maxHeartbeats 2000000 in
theorem rload6_no (P : Nat → Prop) (N : Nat) (l : List Int) (qs : List (List (Int × Int))) (vr vb : Value) (c a : Int) (w : World) (r : RBus w P N l qs vr vb) (hc : ¬ cIn qs c) :
    Calls Try.prog 40 #[.agg #[vr, vb], .int .i64 c, .int .i64 a] w fun e w' => e = .returned (.tuple #[.int .i64 0, .int .i64 3]) ∧ Below w.heap.size w w' := by
  have W1 := Lib.hid (fun W (hb : Below w.heap.size w W) => rwrong_core P N l qs vr vb c a W (r.below hb) hc)
  obtain ⟨A, k, B, d, rfl, rfl⟩ := r.open_
  clear r hc
  go_enter Try.func40, Try.ntmps40
  go_wp2_with fail
  refine (W1.out _ (below_al _ _)).mono ?_
  rintro e w1 ⟨rfl, hb1⟩
  go_wp2
  go_ret2
  exact ⟨rfl, below_on (below_al _ _) hb1⟩

set_option maxRecDepth 100000 in
set_option maxHeartbeats 2000000 in
theorem rload6_ok (P : Nat → Prop) (N : Nat) (l : List Int) (qs : List (List (Int × Int))) (vr vb : Value) (i : Nat) (q : List (Int × Int)) (a : Int) (w : World) (r : RBus w P N l qs vr vb) (hq : qs[i]? = some q) :
    Calls Try.prog 40 #[.agg #[vr, vb], .int .i64 (i : Int), .int .i64 a] w fun e w' => e = .returned (.tuple #[.int .i64 (rldV l q a), .int .i64 (runE l.length a 1)]) ∧ Below w.heap.size w w' := by
  have hi := lt_of_at hq
  have w1 := fun W (hb : Below w.heap.size w W) => rwrong_ok P N l qs vr vb i a W (r.below hb) ⟨by omega, by omega⟩
  have hm := r.most
  have hfit := r.fit _ (List.mem_of_getElem? hq)
  have h16 := r.cap16
  obtain ⟨A, k, B, d, rfl, rfl⟩ := r.open_
  obtain ⟨g, o, v, rfl, hPg, hg, e0, e1, hv, hcv⟩ := r.buf hq
  obtain ⟨Av, nv, cv, rfl, HNV, HV⟩ := hv.open_
  have hlies := r.ram
  have hlm := r.size
  obtain ⟨C, hC⟩ : ∃ C, qs.length = C := ⟨_, rfl⟩
  obtain ⟨n, hn⟩ : ∃ n, l.length = n := ⟨_, rfl⟩
  by_cases hE : runE l.length a 1 = 0
  · have hV : rldV l q a = ldV l q a := by unfold rldV; rw [if_pos hE]
    obtain ⟨_, ha0, ha1⟩ := runE_ok hE
    obtain ⟨α, rfl⟩ := Int.eq_ofNat_of_zero_le ha0
    have hldV : fnd q α = none → ldV l q α = l.getD α 0 := fun h => by
      unfold ldV
      rw [h]
      exact loadV_in hE
    have hldF : ∀ x, fnd q α = some x → ldV l q α = x := fun x h => by unfold ldV; rw [h]
    rw [hV]
    rw [hE] at w1 ⊢
    rw [hC] at hi hm ⊢
    rw [hn] at ha1 hlm ⊢
    rw [hC, hn] at w1
    have hfd := fun W (hb : Below w.heap.size w W) => rbfind_any P N (.slice Av nv cv) q α W (HV.out.below hb) (by omega)
    unfold rbufV at hfd
    obtain ⟨y, hy⟩ : ∃ y, l[α]? = some y := ⟨_, List.getElem?_eq_getElem (by omega)⟩
    have hyD : l.getD α 0 = y := by rw [List.getD_eq_getElem?_getD, hy]; rfl
    obtain ⟨A', c', hv', hA'⟩ := hlies
    rw [ints_len, hn] at hv' hA'
    injection hv' with hv' _ hv2
    subst hv' hv2
    obtain ⟨gr, og, rfl, _, hgr, hcr⟩ := hA' (by omega)
    have hcell : w.cell? ⟨gr, og + α, none⟩ = some (.int .i64 y) := hcr α _ (ints_some hy)
    have W1 := Lib.hid w1
    have HCell := Lib.hid hcell
    have b1 : Hid (∀ o : Obj, Below w.heap.size w (w.alloc o)) := Lib.hid (fun o => below_al _ o)
    have FD := Lib.hid hfd
    clear r hv hq hcv w1 hcr hcell hC hn hE hV hA' hy hfd
    cases hf : fnd q α with
    | none =>
      rw [hf] at FD
      have hval : ldV l q α = y := (hldV hf).trans hyD
      rw [hval]
      clear hldV hldF hf hval hyD
      go_enter Try.func40, Try.ntmps40
      go_wp2_with fail
      refine (W1.out _ (below_al _ _)).mono ?_
      rintro e w1 ⟨rfl, hb1⟩
      have t0 := (Row.new w 34 #[.slice (some ⟨gr, og, none⟩) n k, .slice (some ⟨g, o, none⟩) C d]).below hb1
      have hbw := below_on (b1.out (.cells #[.slice (some ⟨gr, og, none⟩) n k, .slice (some ⟨g, o, none⟩) C d] 34)) hb1
      have x1 := t0.cell 1
      simp only [List.getElem?_cons_zero, List.getElem?_cons_succ] at x1
      have e0' : w1.cell? ⟨g, o + i * 2, none⟩ = some (.int .i64 N) := (hbw.cell (p := ⟨g, o + i * 2, none⟩) hg).trans e0
      have e1' : w1.cell? ⟨g, o + i * 2 + 1, none⟩ = some (.slice Av nv cv) := (hbw.cell (p := ⟨g, o + i * 2 + 1, none⟩) hg).trans e1
      have HBW := Lib.hid hbw
      have T0 := Lib.hid t0
      clear t0 hb1 hbw
      go_wp2_with fail
      refine (FD.out _ HBW.out).mono ?_
      rintro e w2 ⟨rfl, hb2⟩
      have t0 := T0.out.below hb2
      have x0 := t0.cell 0
      simp only [List.getElem?_cons_zero] at x0
      have c0 : w2.cell? ⟨gr, og + α, none⟩ = some (.int .i64 y) := ((below_on HBW.out hb2).cell (p := ⟨gr, og + α, none⟩) hgr).trans HCell.out
      have HB2 := Lib.hid (below_on HBW.out hb2)
      clear t0 hb2
      go_wp2
      go_ret2
      exact ⟨rfl, HB2.out⟩
    | some z =>
      rw [hf] at FD
      have hval : ldV l q α = z := hldF z hf
      rw [hval]
      clear hldV hldF hf hval hyD
      go_enter Try.func40, Try.ntmps40
      go_wp2_with fail
      refine (W1.out _ (below_al _ _)).mono ?_
      rintro e w1 ⟨rfl, hb1⟩
      have t0 := (Row.new w 34 #[.slice (some ⟨gr, og, none⟩) n k, .slice (some ⟨g, o, none⟩) C d]).below hb1
      have hbw := below_on (b1.out (.cells #[.slice (some ⟨gr, og, none⟩) n k, .slice (some ⟨g, o, none⟩) C d] 34)) hb1
      have x1 := t0.cell 1
      simp only [List.getElem?_cons_zero, List.getElem?_cons_succ] at x1
      have e0' : w1.cell? ⟨g, o + i * 2, none⟩ = some (.int .i64 N) := (hbw.cell (p := ⟨g, o + i * 2, none⟩) hg).trans e0
      have e1' : w1.cell? ⟨g, o + i * 2 + 1, none⟩ = some (.slice Av nv cv) := (hbw.cell (p := ⟨g, o + i * 2 + 1, none⟩) hg).trans e1
      have HBW := Lib.hid hbw
      clear t0 hb1 hbw
      go_wp2_with fail
      refine (FD.out _ HBW.out).mono ?_
      rintro e w2 ⟨rfl, hb2⟩
      have HB2 := Lib.hid (below_on HBW.out hb2)
      clear hb2
      go_wp2
      go_ret2
      exact ⟨rfl, HB2.out⟩
  · have hV : rldV l q a = 0 := by unfold rldV; rw [if_neg hE]
    rw [hV]
    obtain ⟨z, hz⟩ : ∃ z, runE l.length a 1 = z := ⟨_, rfl⟩
    rw [hz] at w1 hE ⊢
    have hb : (z != 0) = true := by simpa using hE
    rw [hC, hn] at w1
    rw [hC, hn]
    have W1 := Lib.hid w1
    clear r hv hq hcv w1 hE hV hz hlies hC hn hi hm hlm
    go_enter Try.func40, Try.ntmps40
    go_wp2_with fail
    refine (W1.out _ (below_al _ _)).mono ?_
    rintro e w1 ⟨rfl, hb1⟩
    go_wp2
    go_ret2
    exact ⟨rfl, below_on (below_al _ _) hb1⟩

#print axioms rfence6_any
#print axioms rload6_ok
end Go.Proofs.Ytgoogclcpnfmkaa
