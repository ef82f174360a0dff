/-
  Layer 19 (diary): DiaryTells.
  Conditions: those that each theorem states.
-/
import Derived.Test.YtikjokhpombjjaaDoorDi3
import Derived.Test.YtikjokhpombjjaaDoorDi18
import Derived.Test.YtikjokhpombjjaaDoorDi19
import Derived.Test.YtikjokhpombjjaaDoorDi20
import Derived.LaidLaws
import Derived.LaidMore
import Derived.MakeChecks
namespace Go.Proofs.YtikjokhpombjjaaDoor
open Go.ChangeShapes Go.WideShapes Go.ChangeAt Go.RowKit

set_option maxRecDepth 100000 in
/-- What the row's condition gives: the table. -/
theorem tab19_of_laid {W : World} {l : List (String × DataW Unit)} (hl : l = [("math/bits.deBruijn32tab", Rows.laid_math_bits_deBruijn32tab), ("math/bits.deBruijn64tab", Rows.laid_math_bits_deBruijn64tab), ("internal/strconv.uint64pow10", Rows.laid_internal_strconv_uint64pow10)]) (h : laidMetH Tryd.prog l W) : Tab19 W := by
  subst hl
  rw [MakeChecks.laidMetH_plain _ _ _ (by kernel_rfl)] at h
  obtain ⟨ps, ⟨_, _, _, _, _, _, -, -, -, -, ⟨_, _, _, _, _, _, -, -, -, -, ⟨g0, t0, cs0, f0, p0, q0, hg0, ht0, hv0, hd0, -, -⟩, -⟩, -⟩, -⟩ := h
  have hg : Tryd.prog.globalNamed "internal/strconv.uint64pow10" = some 0 := by kernel_rfl
  have hty : (Tryd.prog.globals[0]?).map (·.type) = some 69 := by kernel_rfl
  obtain rfl := Option.some.inj (hg.symm.trans hg0)
  obtain rfl := Option.some.inj (hty.symm.trans ht0)
  have hrow : (Rows.laid_internal_strconv_uint64pow10 : DataW Unit) = Lib.tabData .u64 Lib.pow10Tab := by kernel_rfl
  rw [hrow] at hd0
  unfold Tab19 Lib.TabIs
  rw [hv0, ← Lib.cells_of_tab Tryd.underlying69 Tryd.underlying62 (by kernel_rfl) (by kernel_rfl) hd0]

set_option maxRecDepth 100000 in
set_option maxHeartbeats 4000000 in
theorem diaryTells_any (κ ε : Int) (va vb : Value) (la lb : List En) (w : World) (hva : Ens w va la) (hvb : Ens w vb lb) (hma : la.length ≤ maxLen) (hmb : lb.length ≤ maxLen) (hg : ∀ x ∈ la, Rng19 x) (ht : Tab19 w) :
    Calls Tryd.prog 4 #[va, vb, .int .i64 κ, .int .i64 ε] w fun e w' => e = .returned (.bool true) ∧ Below w.heap.size w w' := by
  have KF1 := Lib.hid (fun (W : World) (h : Below w.heap.size w W) => few19_any 100 va la W (hva.below h) hma)
  have KF2 := Lib.hid (fun (W : World) (h : Below w.heap.size w W) => few19_any 100 vb lb W (hvb.below h) hmb)
  have B0 := Lib.hid (Below.refl w.heap.size w)
  obtain ⟨A, n, c, rfl, HN, HVA⟩ := hva.open_
  obtain ⟨B, m, d, rfl, HM, HVB⟩ := hvb.open_
  clear hva hvb
  by_cases hf : few19 la 100 = true
  case neg =>
    have hf2 : few19 la 100 = false := by simpa using hf
    clear hf
    go_enter Tryd.func4, Tryd.ntmps4
    go_wp2_with (first
      | (go_at_call 7; (with_reducible refine (KF1.out _ B0.out).mono ?_); rintro e w1 ⟨rfl, bw1⟩; rw [hf2]; have Bw1 := Lib.hid (below_on B0.out bw1); clear bw1)
      | (go_at_call 8; (with_reducible refine (alive19_any w1).mono ?_); rintro e w12 ⟨rfl, b12⟩; have B12 := Lib.hid (below_on Bw1.out b12); clear b12))
    go_ret
    exact ⟨rfl, B12.out⟩
  by_cases hh : few19 lb 100 = true
  case neg =>
    have hh2 : few19 lb 100 = false := by simpa using hh
    clear hh
    go_enter Tryd.func4, Tryd.ntmps4
    go_wp2_with (first
      | (go_at_call 7; (with_reducible refine (KF1.out _ B0.out).mono ?_); rintro e w1 ⟨rfl, bw1⟩; rw [hf]; have Bw1 := Lib.hid (below_on B0.out bw1); clear bw1)
      | (go_at_call 7; (with_reducible refine (KF2.out _ Bw1.out).mono ?_); rintro e w2 ⟨rfl, bw2⟩; rw [hh2]; have Bw2 := Lib.hid (below_on Bw1.out bw2); clear bw2)
      | (go_at_call 8; (with_reducible refine (alive19_any w2).mono ?_); rintro e w12 ⟨rfl, b12⟩; have B12 := Lib.hid (below_on Bw2.out b12); clear b12))
    go_ret
    exact ⟨rfl, B12.out⟩
  obtain ⟨hm1, hl1⟩ := few19_yes hf
  obtain ⟨hm2, hl2⟩ := few19_yes hh
  have hlna : la.length ≤ 100 := by omega
  have hlnb : lb.length ≤ 100 := by omega
  have HLA : Hid (∀ x ∈ la, x.load.length ≤ 65536) := Lib.hid (fun x hx => by have := hl1 x hx; omega)
  have HLB : Hid (∀ x ∈ lb, x.load.length ≤ 65536) := Lib.hid (fun x hx => by have := hl2 x hx; omega)
  have hn100 : n ≤ 100 := by rw [← HN.out]; exact hlna
  have HG := Lib.hid hg
  have HT := Lib.hid ht
  clear hm1 hm2 hl1 hl2 hg ht
  obtain ⟨q, hq⟩ : ∃ q, decide (la = lb) = q := ⟨_, rfl⟩
  go_enter Tryd.func4, Tryd.ntmps4
  go_wp2_with (first
    | (go_at_call 7; (with_reducible refine (KF1.out _ B0.out).mono ?_); rintro e w1 ⟨rfl, bw1⟩; rw [hf]; have Bw1 := Lib.hid (below_on B0.out bw1); clear bw1)
    | (go_at_call 7; (with_reducible refine (KF2.out _ Bw1.out).mono ?_); rintro e w2 ⟨rfl, bw2⟩; rw [hh]; have Bw2 := Lib.hid (below_on Bw1.out bw2); clear bw2))
  go_loopw [22] (fun iv wr => ∃ k : Nat, k ≤ n ∧ iv = .int .i64 k ∧ Hid (Below w.heap.size w wr)) (fun iv _ => n - (intOf iv).toNat)
  case atStart => exact ⟨0, Nat.zero_le _, rfl, Bw2⟩
  case round =>
    obtain ⟨k, hk, rfl, HB⟩ := hrel
    by_cases hlt : k < n
    · obtain ⟨x, hx⟩ : ∃ x, la[k]? = some x := ⟨_, List.getElem?_eq_getElem (by rw [HN.out]; exact hlt)⟩
      obtain ⟨g, o, u, rfl, hg, hl, c0, c1, c2, c3, c4, c5, c6, c7⟩ := (HVA.out.below HB.out).cells hx
      obtain ⟨Au, nu, cu, rfl, _, _⟩ := ld_open hl
      have hkn : (k : Int) < (n : Int) := by omega
      have hx19 := HG.out x (List.mem_of_getElem? hx)
      have R1 : Hid (Row (wr.alloc (.cells #[.int .i64 x.core, .int .i64 x.peer, .int .i64 x.kind, .int .i64 x.beg, .int .i64 x.fin, .int .i64 x.err, .slice Au nu cu, .int .i64 x.hnd] 38)) wr.heap.size 38 (row19 x (.slice Au nu cu))) := Lib.hid (Row.new wr 38 (row19 x (.slice Au nu cu)).toArray)
      have BW : Hid (Below wr.heap.size wr (wr.alloc (.cells #[.int .i64 x.core, .int .i64 x.peer, .int .i64 x.kind, .int .i64 x.beg, .int .i64 x.fin, .int .i64 x.err, .slice Au nu cu, .int .i64 x.hnd] 38))) := Lib.hid (below_al _ _)
      have KT := Lib.hid (fun (W : World) (h : Below (wr.alloc (.cells #[.int .i64 x.core, .int .i64 x.peer, .int .i64 x.kind, .int .i64 x.beg, .int .i64 x.fin, .int .i64 x.err, .slice Au nu cu, .int .i64 x.hnd] 38)).heap.size (wr.alloc (.cells #[.int .i64 x.core, .int .i64 x.peer, .int .i64 x.kind, .int .i64 x.beg, .int .i64 x.fin, .int .i64 x.err, .slice Au nu cu, .int .i64 x.hnd] 38)) W) => (text19_any x (.slice Au nu cu) W ⟨_, _, _, rfl⟩ hx19 (HT.out.below (below_on HB.out (below_on BW.out h)))).mono (fun e w' (h' : e = .returned (.string ⟨(txt19 x).toArray⟩) ∧ Below W.heap.size W w') => (⟨h'.1, below_on h h'.2⟩ : e = .returned (.string ⟨(txt19 x).toArray⟩) ∧ Below (wr.alloc (.cells #[.int .i64 x.core, .int .i64 x.peer, .int .i64 x.kind, .int .i64 x.beg, .int .i64 x.fin, .int .i64 x.err, .slice Au nu cu, .int .i64 x.hnd] 38)).heap.size (wr.alloc (.cells #[.int .i64 x.core, .int .i64 x.peer, .int .i64 x.kind, .int .i64 x.beg, .int .i64 x.fin, .int .i64 x.err, .slice Au nu cu, .int .i64 x.hnd] 38)) w')))
      have KU := Lib.hid (fun (W : World) (h : Below (wr.alloc (.cells #[.int .i64 x.core, .int .i64 x.peer, .int .i64 x.kind, .int .i64 x.beg, .int .i64 x.fin, .int .i64 x.err, .slice Au nu cu, .int .i64 x.hnd] 38)).heap.size (wr.alloc (.cells #[.int .i64 x.core, .int .i64 x.peer, .int .i64 x.kind, .int .i64 x.beg, .int .i64 x.fin, .int .i64 x.err, .slice Au nu cu, .int .i64 x.hnd] 38)) W) => (rtext19_any x (.slice Au nu cu) W ⟨_, _, _, rfl⟩ hx19).mono (fun e w' (h' : e = .returned (.string ⟨(txt19 x).toArray⟩) ∧ Below W.heap.size W w') => (⟨h'.1, below_on h h'.2⟩ : e = .returned (.string ⟨(txt19 x).toArray⟩) ∧ Below (wr.alloc (.cells #[.int .i64 x.core, .int .i64 x.peer, .int .i64 x.kind, .int .i64 x.beg, .int .i64 x.fin, .int .i64 x.err, .slice Au nu cu, .int .i64 x.hnd] 38)).heap.size (wr.alloc (.cells #[.int .i64 x.core, .int .i64 x.peer, .int .i64 x.kind, .int .i64 x.beg, .int .i64 x.fin, .int .i64 x.err, .slice Au nu cu, .int .i64 x.hnd] 38)) w')))
      clear hx19 hl hx
      obtain ⟨s, hs⟩ : ∃ s, txt19 x = s := ⟨_, rfl⟩
      rw [hs] at KT KU
      clear hs
      go_wp2
      refine wp_region_held_drew (S := fun W => Row W wr.heap.size 38 (row19 x (.slice Au nu cu))) (by kernel_rfl) (R1.out.below (Below.refl _ _).drew) (fun hHeld => ?_)
      refine wpAnyH_take (i := 0) (oi := ⟨some 26, .load 38 (.tmp 10), 38, "law.go:55", #[], none⟩) (v := .agg (row19 x (.slice Au nu cu)).toArray) rfl (by kernel_rfl) (by kernel_rfl) (by kernel_rfl) (fun _ _ _ h => h) (yieldsIf_row rfl 38 (.tmp 10) rfl wr.heap.size rfl (row19 x (.slice Au nu cu)) entry_struct (entry_size x _) 38 (fun W h => h)) (by assumption) ?_
      try simp only [Act.put, List.setIfInBounds_toArray, List.set_cons_zero, List.set_cons_succ]
      refine wpAnyH_take (i := 2) (oi := ⟨some 28, .load 38 (.tmp 10), 38, "law.go:55", #[], none⟩) (v := .agg (row19 x (.slice Au nu cu)).toArray) rfl (by kernel_rfl) (by kernel_rfl) (by kernel_rfl) (fun _ _ _ h => h) (yieldsIf_row rfl 38 (.tmp 10) rfl wr.heap.size rfl (row19 x (.slice Au nu cu)) entry_struct (entry_size x _) 38 (fun W h => h)) (by assumption) ?_
      try simp only [Act.put, List.setIfInBounds_toArray, List.set_cons_zero, List.set_cons_succ]
      refine wpAnyH_ready (rs := [1]) (by kernel_rfl) (by simp) ?_
      refine AllReadyH.cons (o := ⟨some 27, .call { callee := .value (.func 15), args := #[.tmp 26], argTypes := #[38] }, 9, "law.go:55", #[⟨0, .data⟩], none⟩) rfl (fun K hK => ?_) AllReadyH.nil
      go_simp
      refine (KT.out _ (Below.refl _ _).drew).mono ?_
      rintro e wa ⟨rfl, hba⟩
      go_wp2_with fail
      refine hK.out _ _ (R1.out.below hba) (fun hSx => ?_)
      clear hK K
      try simp only [Act.put, List.setIfInBounds_toArray, List.set_cons_zero, List.set_cons_succ]
      refine wpAnyH_ready (rs := [3]) (by kernel_rfl) (by simp) ?_
      refine AllReadyH.cons (o := ⟨some 29, .call { callee := .value (.func 16), args := #[.tmp 28], argTypes := #[41] }, 9, "law.go:55", #[⟨2, .data⟩, ⟨1, .chain⟩], none⟩) rfl (fun K hK => ?_) AllReadyH.nil
      go_simp
      refine (KU.out _ hba).mono ?_
      rintro e wb ⟨rfl, hbb⟩
      go_wp2_with fail
      refine hK.out _ _ (R1.out.below hbb) (fun hSx => ?_)
      clear hK K
      try simp only [Act.put, List.setIfInBounds_toArray, List.set_cons_zero, List.set_cons_succ]
      refine' wpAnyH_take (i := 4) (oi := ⟨some 30, .binOp .neq 9 (.tmp 27) (.tmp 29) 9, 4, "law.go:55", #[⟨1, .data⟩, ⟨3, .data⟩], none⟩) (v := .bool false) rfl (by kernel_rfl) (by kernel_rfl) (by kernel_rfl) (fun _ _ _ h => h) (Or.inl ⟨by rfl, ?hy6⟩) (by assumption) ?rest6
      case hy6 => (intro w hSw; (try dsimp only at hSw); go_simp; skip)
      try simp only [Act.put, List.setIfInBounds_toArray, List.set_cons_zero, List.set_cons_succ]
      refine wpAnyH_done (by kernel_rfl) ?_ _
      go_wp2
      go_roundw
      case rel => exact ⟨k + 1, by omega, by go_num, Lib.hid (below_on HB.out (below_on BW.out hbb))⟩
      case measure => simp [intOf]; omega
    · obtain rfl : n = k := by omega
      have EA := Lib.hid (HVA.out.below HB.out)
      have EB := Lib.hid (HVB.out.below HB.out)
      have BZ := Lib.hid HB.out
      obtain ⟨N2, hN2⟩ : ∃ N2, (la.filter (hitB κ ε)).length = N2 := ⟨_, rfl⟩
      cases q <;> (
        go_wp2_with (first
          | (go_at_call 17; (with_reducible refine (psame19_any la lb (.slice A n c) (.slice B m d) wr EA.out EB.out (by omega) (by omega) HLA.out HLB.out).mono ?_); rintro e w20 ⟨rfl, b20⟩; have EA_w20 := Lib.hid (EA.out.below b20); have EB_w20 := Lib.hid (EB.out.below b20); rw [hq]; have B_w20 := Lib.hid (below_on BZ.out b20))
          | (go_at_call 11; (with_reducible refine (plain19_any (.slice A n c) la w20 EA_w20.out (by omega)).mono ?_); rintro e w21 ⟨vp, rfl, ep, b21⟩; have EA_w21 := Lib.hid (EA_w20.out.below b21); have EB_w21 := Lib.hid (EB_w20.out.below b21); have EP_w21 := Lib.hid ep; have B_w21 := Lib.hid (below_on B_w20.out b21))
          | (go_at_call 11; (with_reducible refine (plain19_any (.slice B m d) lb w21 EB_w21.out (by omega)).mono ?_); rintro e w22 ⟨vq, rfl, eq, b22⟩; have EA_w22 := Lib.hid (EA_w21.out.below b22); have EB_w22 := Lib.hid (EB_w21.out.below b22); have EP_w22 := Lib.hid (EP_w21.out.below b22); have EQ_w22 := Lib.hid eq; have B_w22 := Lib.hid (below_on B_w21.out b22))
          | (go_at_call 14; (with_reducible refine (rsame19_any la lb vp vq w22 EP_w22.out EQ_w22.out (by omega) (by omega) HLA.out HLB.out).mono ?_); rintro e w23 ⟨rfl, b23⟩; have EA_w23 := Lib.hid (EA_w22.out.below b23); have EB_w23 := Lib.hid (EB_w22.out.below b23); have EP_w23 := Lib.hid (EP_w22.out.below b23); have EQ_w23 := Lib.hid (EQ_w22.out.below b23); rw [hq]; have B_w23 := Lib.hid (below_on B_w22.out b23))
          | (go_at_call 17; (with_reducible refine (psame19_any la la (.slice A n c) (.slice A n c) w23 EA_w23.out EA_w23.out (by omega) (by omega) HLA.out HLA.out).mono ?_); rintro e w24 ⟨rfl, b24⟩; have EA_w24 := Lib.hid (EA_w23.out.below b24); rw [decide_eq_true (Eq.refl _)]; have B_w24 := Lib.hid (below_on B_w23.out b24))
          | (go_at_call 18; (with_reducible refine (count19_any κ ε (.slice A n c) la w24 EA_w24.out (by omega)).mono ?_); rintro e w25 ⟨rfl, b25⟩; have EA_w25 := Lib.hid (EA_w24.out.below b25); have B_w25 := Lib.hid (below_on B_w24.out b25))
          | (go_at_call 11; (with_reducible refine (plain19_any (.slice A n c) la w25 EA_w25.out (by omega)).mono ?_); rintro e w26 ⟨vr, rfl, er, b26⟩; have EA_w26 := Lib.hid (EA_w25.out.below b26); have ER_w26 := Lib.hid er; have B_w26 := Lib.hid (below_on B_w25.out b26))
          | (go_at_call 19; (with_reducible refine (rcount19_any κ ε vr la w26 ER_w26.out (by omega)).mono ?_); rintro e w27 ⟨rfl, rfl⟩; skip)
          | (go_at_call 8; (with_reducible refine (alive19_any w26).mono ?_); rintro e w30 ⟨rfl, b30⟩; have EA_w30 := Lib.hid (EA_w26.out.below b30); have ER_w30 := Lib.hid (ER_w26.out.below b30); have B_w30 := Lib.hid (below_on B_w26.out b30)))
        go_ret
        exact ⟨rfl, B_w30.out⟩)

#print axioms diaryTells_any
end Go.Proofs.YtikjokhpombjjaaDoor
