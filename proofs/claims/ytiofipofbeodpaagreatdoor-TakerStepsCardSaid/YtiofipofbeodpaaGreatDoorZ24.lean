/-
  Texts merged, with what one theorem needs of them.
  Conditions: those that each theorem states.
-/
import Derived.Test.YtiofipofbeodpaaGreatDoorRows
import Derived.Test.YtiofipofbeodpaaGreatDoorZ1
import Derived.Test.YtiofipofbeodpaaGreatDoorZ2
import Derived.Test.YtiofipofbeodpaaGreatDoorZ3
import Derived.Test.YtiofipofbeodpaaGreatDoorZ4
import Derived.Test.YtiofipofbeodpaaGreatDoorZ5
import Derived.Test.YtiofipofbeodpaaGreatDoorZ6
import Derived.Test.YtiofipofbeodpaaGreatDoorZ7
import Derived.Test.YtiofipofbeodpaaGreatDoorZ8
import Derived.Test.YtiofipofbeodpaaGreatDoorZ9
import Derived.Test.YtiofipofbeodpaaGreatDoorZ10
import Derived.Test.YtiofipofbeodpaaGreatDoorZ11
import Derived.Test.YtiofipofbeodpaaGreatDoorZ12
import Derived.Test.YtiofipofbeodpaaGreatDoorZ13
import Derived.Test.YtiofipofbeodpaaGreatDoorZ14
import Derived.Test.YtiofipofbeodpaaGreatDoorZ15
import Derived.Test.YtiofipofbeodpaaGreatDoorZ16
import Derived.Test.YtiofipofbeodpaaGreatDoorZ17
import Derived.Test.YtiofipofbeodpaaGreatDoorZ18
import Derived.Test.YtiofipofbeodpaaGreatDoorZ19
import Derived.Test.YtiofipofbeodpaaGreatDoorZ20
import Derived.Test.YtiofipofbeodpaaGreatDoorZ21
import Derived.Test.YtiofipofbeodpaaGreatDoorZ22
import Derived.Test.YtiofipofbeodpaaGreatDoorZ23
import Derived.Below
import Derived.BigQuiet
import Derived.Deep.AppendLies
import Derived.Deep.DeepMust
import Derived.Deep.Draws
import Derived.Deep.MidRow
import Derived.Deep.OwnRows
import Derived.Deep.QuietTactic
import Derived.Deep.RegionHeld3
import Derived.Deep.RegionLaw
import Derived.Deep.RegionWith
import Derived.Defers
import Derived.Great.BuildSlice
import Derived.Handy
import Derived.IntWalk
import Derived.KernelRfl
import Derived.LaidLaws
import Derived.LaidMore
import Derived.Laws.BitsLemmas
import Derived.Laws.CopyOwn
import Derived.Laws.OwnMore
import Derived.Laws.Rows
import Derived.Lib.Hide
import Derived.Lib.SliceRun
import Derived.MakeChecks
import Derived.Maps.AppendAt
import Derived.OpenShut
import Derived.OwnWalk
import Derived.ProofKit
import Derived.Recover
import Derived.RegionTactic
import Derived.Scope
import Derived.WalkKit
import Derived.WalkMore
namespace Go.Proofs.YtiofipofbeodpaaGreatDoor

section
open Go.ChangeShapes Go.WideShapes Go.ChangeAt Go.RowKit
section
variable {At Al : Option Addr} {nt ct nl cl : Nat}
set_option maxRecDepth 100000 in
set_option maxHeartbeats 4000000 in
theorem taft_end (P : Nat → Prop) (G : Tv) (x : Int) (w : World) (r : TvL w P G (.slice At nt ct) (.slice Al nl cl)) (h : G.at_ = 14) (hx : x = G.known) (h64 : G.tab.length ≤ 64) :
    Calls Tryz.prog 40 #[tvV G (.slice At nt ct) (.slice Al nl cl), .int .i64 x] w (TVA P (overT { G with at_ := 0 }) G.ans w) := by
  have HSZ := Lib.hid (fun (H : Tv) (a b : Value) => (tv_size.trans (congrArg some (tv_len H a b).symm)))
  have H1 := Lib.hid h
  have g1 : (x != G.known) = false := by simpa using hx
  have KE := Lib.hid (fun W (hb : Below w.heap.size w W) => tend_any (fun x => (P x ∧ x < w.heap.size) ∨ W.heap.size ≤ x) { G with at_ := 0 } W (((TvL.weak (G := { G with at_ := 0 }) ⟨r.tab, r.load, r.cl⟩ (Q := fun x => P x ∧ x < w.heap.size) (fun _ hg p => And.intro p hg)).below hb).weak (fun g _ hg => .inl hg)) h64)
  unfold tvV at KE
  clear h hx r h64
  unfold tvV
  go_enter Tryz.func40, Tryz.ntmps40
  go_wp2_with (first
    | ((with_reducible refine box_walk rfl 37 (.tmp 0) rfl (tvC G (.slice At nt ct) (.slice Al nl cl)) rfl ?_); intro w1 r1 b1 z1; have R1 := Lib.hid r1; have B1 := Lib.hid b1; have hlt1 := r1.lt; clear r1 b1 z1)
    | ((with_reducible refine alloc_walk (o := ⟨some 4, _, _, _, _, _⟩) rfl 37 rfl _ tv_zero ?_); go_must (intro w2 r2 b2 z2; have R2 := Lib.hid (R1.out.below b2); have Q2 := Lib.hid r2; have B2 := Lib.hid (below_on B1.out b2); have hlt2 := r2.lt; have c5 := R2.out.cell 5; have f5 := R2.out.soft 5; have c10 := R2.out.cell 10; have f10 := R2.out.soft 10; have c14 := R2.out.cell 14; have f14 := R2.out.soft 14; simp only [tvC, List.getElem?_cons_zero, List.getElem?_cons_succ] at c5 c10 c14; rw [H1.out] at c10; have OM0 : Hid (Only (fun k => k = w.heap.size) w2 (w2.setCell ⟨w.heap.size, 10, none⟩ (.int .i64 0))) := Lib.hid ((Only.refl (fun k => k = w.heap.size) w2).put17 10 (.int .i64 0)); have RM0 : Hid (Row (w2.setCell ⟨w.heap.size, 10, none⟩ (.int .i64 0)) w.heap.size 37 (tvC { G with at_ := 0 } (.slice At nt ct) (.slice Al nl cl))) := Lib.hid (R2.out.put 10 (.int .i64 0)); have QM0 : Hid (Row (w2.setCell ⟨w.heap.size, 10, none⟩ (.int .i64 0)) w1.heap.size 37 tvZ) := Lib.hid (Q2.out.far (p := ⟨w.heap.size, 10, none⟩) (Nat.ne_of_gt hlt1) (.int .i64 0)); have BM0 : Hid (Below w.heap.size w (w2.setCell ⟨w.heap.size, 10, none⟩ (.int .i64 0))) := Lib.hid (B2.out.setCell (p := ⟨w.heap.size, 10, none⟩) (Nat.le_refl _) (.int .i64 0)); clear r2 b2 z2)))
  have hR0 : Row (w2.setCell ⟨w.heap.size, 10, none⟩ (.int .i64 0)).drew w.heap.size 37 (tvC { G with at_ := 0 } (.slice At nt ct) (.slice Al nl cl)) := RM0.out
  have hQ0 : Row (w2.setCell ⟨w.heap.size, 10, none⟩ (.int .i64 0)).drew w1.heap.size 37 tvZ := QM0.out
  have hB0 : Below w.heap.size w (w2.setCell ⟨w.heap.size, 10, none⟩ (.int .i64 0)).drew := BM0.out.drew
  have hs0 := OM0.out.size
  have hlt4 : w1.heap.size < (w2.setCell ⟨w.heap.size, 10, none⟩ (.int .i64 0)).drew.heap.size := Nat.lt_of_lt_of_le hlt2 hs0
  refine wp_region_held_drew (S := fun W => Row W w.heap.size 37 (tvC { G with at_ := 0 } (.slice At nt ct) (.slice Al nl cl)) ∧ W.cell? ⟨w.heap.size, 14, none⟩ = some (.int .i64 G.ans)) (by kernel_rfl) ⟨hR0, hR0.cell 14⟩ (fun hHeld => ?_)
  refine wpAnyH_take (i := 0) (oi := ⟨some 70, .load 37 (.tmp 2), 37, "ref.go:233", #[], none⟩) (v := .agg (tvC { G with at_ := 0 } (.slice At nt ct) (.slice Al nl cl)).toArray) rfl (by kernel_rfl) (by kernel_rfl) (by kernel_rfl) (fun _ _ _ h => h) (yieldsIf_row rfl 37 (.tmp 2) rfl w.heap.size rfl (tvC { G with at_ := 0 } (.slice At nt ct) (.slice Al nl cl)) tv_struct (HSZ.out _ _ _) 37 (fun W h => h.1)) (by assumption) ?_
  try simp only [Act.put, List.setIfInBounds_toArray, List.set_cons_zero, List.set_cons_succ]
  refine' wpAnyH_take (i := 2) (oi := ⟨some 72, .fieldAddr 37 (.tmp 2) 14, 0, "ref.go:233", #[⟨4, .gcOnly .lateStores⟩], none⟩) (v := _) rfl (by kernel_rfl) (by kernel_rfl) (by kernel_rfl) (fun _ _ _ h => h) (Or.inl ⟨by rfl, ?hy3⟩) (by assumption) ?rest3
  case hy3 => (intro w hSw; (try dsimp only at hSw); go_simp; try with_reducible rfl)
  try simp only [Act.put, List.setIfInBounds_toArray, List.set_cons_zero, List.set_cons_succ]
  refine' wpAnyH_take (i := 3) (oi := ⟨some 73, .load 3 (.tmp 72), 3, "ref.go:233", #[⟨2, .data⟩, ⟨4, .gcOnly .lateStores⟩], none⟩) (v := _) rfl (by kernel_rfl) (by kernel_rfl) (by kernel_rfl) (fun _ _ _ h => h) (Or.inl ⟨by rfl, ?hy5⟩) (by assumption) ?rest5
  case hy5 => (intro w hSw; (try dsimp only at hSw); go_simp; try with_reducible rfl)
  try simp only [Act.put, List.setIfInBounds_toArray, List.set_cons_zero, List.set_cons_succ]
  refine wpAnyH_ready (rs := [1]) (by kernel_rfl) (by simp) ?_
  refine AllReadyH.cons (o := ⟨some 71, .call { callee := .value (.func 67), args := #[.tmp 70], argTypes := #[37] }, 37, "ref.go:233", #[⟨0, .data⟩], none⟩) rfl (fun K hK => ?_) AllReadyH.nil
  go_simp
  go_at_call 67
  refine (KE.out _ hB0).mono ?_
  rintro e w8 ⟨A8, n8, k8, B8, m8, j8, rfl, t8, b8⟩
  have hR8 := hR0.below b8
  have hQ8 := hQ0.below b8
  have hB8 := below_on hB0 b8
  go_wp2_with fail
  refine hK.out _ _ ⟨hR8, hR8.cell 14⟩ (fun hSx => ?_)
  clear hK K
  try simp only [Act.put, List.setIfInBounds_toArray, List.set_cons_zero, List.set_cons_succ]
  refine wpAnyH_ready (rs := [4]) (by kernel_rfl) (by simp) ?_
  refine AllReadyH.cons (o := ⟨none, .store 37 (.tmp 4) (.tmp 71), 0, "ref.go:233", #[⟨1, .data⟩, ⟨1, .chain⟩, ⟨0, .phase⟩, ⟨1, .phase⟩, ⟨2, .textOnly .lateStores⟩, ⟨3, .textOnly .lateStores⟩], none⟩) rfl (fun K hK => ?_) AllReadyH.nil
  refine storeRow_step rfl 37 (.tmp 4) (.tmp 71) rfl w1.heap.size rfl (tvC (overT { G with at_ := 0 }) (.slice A8 n8 k8) (.slice B8 m8 j8)) rfl (HSZ.out _ _ _) 37 tvZ hQ8 rfl (tv_one _) ?_
  intro w9 r9 o9 z9
  have hB9 := Only.below hB8 o9 hB8.size (fun k hk e => by subst e; omega)
  have hR9 := hR8.only o9 (fun e => by omega)
  refine hK.out _ _ ⟨hR9, hR9.cell 14⟩ (fun hSx => ?_)
  clear hK K
  try simp only [Act.put]
  refine' wpAnyH_take (i := 5) (oi := ⟨some 5, .assign (.tmp 73), 3, "ref.go:233", #[⟨3, .data⟩, ⟨4, .chain⟩, ⟨0, .phase⟩, ⟨1, .phase⟩, ⟨2, .phase⟩, ⟨3, .phase⟩, ⟨4, .phase⟩], none⟩) (v := _) rfl (by kernel_rfl) (by kernel_rfl) (by kernel_rfl) (fun _ _ _ h => h) (Or.inl ⟨by rfl, ?hy8⟩) (by assumption) ?rest8
  case hy8 => (intro w hSw; (try dsimp only at hSw); go_simp; try with_reducible rfl)
  try simp only [Act.put, List.setIfInBounds_toArray, List.set_cons_zero, List.set_cons_succ]
  refine wpAnyH_done (by kernel_rfl) ?_ _
  have hb2 := hB0.size
  have ht := (t8.only o9 (fun g hg p => by subst hg; rcases p with (p | p) | p <;> omega)).weak (Q := fun x => P x ∨ w.heap.size ≤ x) (fun g _ p => by rcases p with (p | p) | p <;> first | exact .inl p.1 | exact .inr (by omega))
  go_wp2
  exact bodyPost_ret (tv_results2 Tryz.results40 rfl rfl r9) rfl ⟨_, _, _, _, _, _, rfl, ht, hB9⟩
/-- The taker behind a touch that told x, and the answer (-1: none). -/
def aftTT (G : Tv) (x : Int) : Tv × Int :=
  if G.at_ = 1 then (askT G x, -1)
  else if G.at_ = 4 then ({ tn17v G.B G.R.toNat G.self G.peer G.own with known := G.known, tab := clearL15 G.tab }, 8)
  else if G.at_ = 5 then (if x = addW G.own G.known then ({ G with linked := true, at_ := 6 }, -1) else ({ G with at_ := 0 }, 9))
  else if 6 ≤ G.at_ ∧ G.at_ ≤ 9 then (readT G x, -1)
  else if G.at_ = 13 then ({ G with at_ := 14, ans := 0 }, -1)
  else if G.at_ = 14 then (if x = G.known then (overT { G with at_ := 0 }, G.ans) else ({ G with at_ := 0, load := [] }, 8))
  else ({ G with at_ := G.at_ + 1 }, -1)
theorem askT_keep (G : Tv) (x : Int) : (askT G x).tab = G.tab ∧ (askT G x).load = G.load := by
  unfold askT
  split
  · exact ⟨rfl, rfl⟩
  split
  · exact ⟨rfl, rfl⟩
  split <;> exact ⟨rfl, rfl⟩
theorem taft_any (P : Nat → Prop) (G : Tv) (x : Int) (w : World) (r : TvL w P G (.slice At nt ct) (.slice Al nl cl)) (h : 1 ≤ G.at_ ∧ G.at_ ≤ 14) (hx : 0 ≤ x) (hR : (G.tab.length : Int) = G.R) (h64 : G.tab.length ≤ 64) (hl : G.load.length ≤ 100) (hi : G.at_ = 9 → 0 ≤ G.i ∧ G.i ≤ 100) :
    Calls Tryz.prog 40 #[tvV G (.slice At nt ct) (.slice Al nl cl), .int .i64 x] w (TVA P (aftTT G x).1 (aftTT G x).2 w) := by
  unfold aftTT
  by_cases h1 : G.at_ = 1
  · rw [if_pos h1]; exact (taft_ask G x w h1).mono fun _ _ h => tva_keep r (askT_keep G x).1 (askT_keep G x).2 h
  rw [if_neg h1]
  by_cases h4 : G.at_ = 4
  · rw [if_pos h4]; exact taft_settle P G x G.R.toNat w r h4 (by omega) (by omega) h64
  rw [if_neg h4]
  by_cases h5 : G.at_ = 5
  · rw [if_pos h5]
    by_cases he : x = addW G.own G.known
    · rw [if_pos he]; exact (taft_link G x w h5 he).mono fun _ _ h => tva_keep r rfl rfl h
    · rw [if_neg he]; exact (taft_down G x w h5 he).mono fun _ _ h => tva_keep r rfl rfl h
  rw [if_neg h5]
  by_cases h6 : 6 ≤ G.at_ ∧ G.at_ ≤ 9
  · rw [if_pos h6]
    by_cases e6 : G.at_ = 6
    · exact taft_read6 P G x w r e6 hx hR h64 hl hi
    by_cases e7 : G.at_ = 7
    · exact taft_read7 P G x w r e7 hx hR h64 hl hi
    by_cases e8 : G.at_ = 8
    · exact taft_read8 P G x w r e8 hx hR h64 hl hi
    exact taft_read9 P G x w r (by omega) hx hR h64 hl hi
  rw [if_neg h6]
  by_cases h13 : G.at_ = 13
  · rw [if_pos h13]; exact (taft_flush G x w h13).mono fun _ _ h => tva_keep r rfl rfl h
  rw [if_neg h13]
  by_cases h14 : G.at_ = 14
  · rw [if_pos h14]
    by_cases he : x = G.known
    · rw [if_pos he]; exact taft_end P G x w r h14 he h64
    · rw [if_neg he]; exact (taft_reset G x w h14 he).mono fun _ _ h => tva_drop r rfl rfl h
  rw [if_neg h14]
  have ne : ∀ n : Int, G.at_ ≠ n → (G.at_ == n) = false := fun n hn => by simpa using hn
  exact (taft_next G x w (by omega) (ne 1 (by omega)) (ne 4 (by omega)) (ne 5 (by omega)) (ne 6 (by omega)) (ne 7 (by omega)) (ne 8 (by omega)) (ne 9 (by omega)) (ne 13 (by omega)) (ne 14 (by omega))).mono fun _ _ h => tva_keep r rfl rfl h
end
end

section
open Go.ChangeShapes Go.WideShapes Go.ChangeAt Go.RowKit
def tcT (κ i u : Int) : List Value := [.int .i64 κ, .int .i64 i, .int .i64 u]
theorem rtt_size : (Tryz.prog.info? 53).map (·.size) = some 3 := by kernel_rfl
theorem rtt_zero : (Tryz.prog.info? 53).map (·.zero) = some (some (.agg (tcT 0 0 0).toArray)) := by kernel_rfl
theorem rtt_struct : isStruct Tryz.prog 53 = true := by kernel_rfl
theorem rtt_one (κ i u : Int) : ∀ v ∈ tcT κ i u, v.oneCell' = true := by
  intro v hv
  simp [tcT] at hv
  rcases hv with rfl | rfl | rfl <;> rfl
theorem rtt_results {fn : Func} {s : Tmp} (h : fn.results = #[.cell s 53]) {tmps : Array Value} {w : World} {b : Nat} (hs : tmps.getD s undef = .pointer (some ⟨b, 0, none⟩)) {κ i u : Int} (hg : Row w b 53 (tcT κ i u)) :
    (results fn tmps).run Tryz.prog w = .ok (touchV κ i u) w := by
  have hl := run_loadVar_cells (P := Tryz.prog) w 53 ⟨b, 0, none⟩ (tcT κ i u) rtt_struct (rtt_size.trans (congrArg some rfl)) (fun j v hv => by rw [Addr.add_lit, Nat.zero_add, hg.cell]; exact hv)
  have hs' : tmps[s]?.getD undef = .pointer (some ⟨b, 0, none⟩) := by simpa using hs
  simp [results, h, hs', hl, asAddr, touchV, tcT]
section
variable {At Al : Option Addr} {nt ct nl cl : Nat}
set_option maxRecDepth 100000 in
set_option maxHeartbeats 1000000 in
theorem ttch_ask (G : Tv) (w : World) (h : G.at_ = 1) :
    Calls Tryz.prog 39 #[tvV G (.slice At nt ct) (.slice Al nl cl)] w fun e w' => e = .returned (touchV 4 G.peer 0) ∧ Below w.heap.size w w' := by
  have HSZ := Lib.hid (fun (H : Tv) (a b : Value) => (tv_size.trans (congrArg some (tv_len H a b).symm)))
  have HS3 : Hid ((Tryz.prog.info? 53).map (·.size) = some ([.int .i64 4, .int .i64 G.peer, .int .i64 0] : List Value).length) := Lib.hid rtt_size
  have HO3 : Hid (∀ v ∈ ([.int .i64 4, .int .i64 G.peer, .int .i64 0] : List Value), v.oneCell' = true) := Lib.hid (rtt_one _ _ _)
  have KAD := Lib.hid (fun W => radd_any G.own G.known W)
  have H1 := Lib.hid h
  clear h
  unfold tvV
  go_enter Tryz.func39, Tryz.ntmps39
  go_wp2_with (first
    | ((with_reducible refine box_walk rfl 37 (.tmp 0) rfl (tvC G (.slice At nt ct) (.slice Al nl cl)) rfl ?_); intro w1 r1 b1 z1; have R1 := Lib.hid r1; have B1 := Lib.hid b1; have hlt1 := r1.lt; clear r1 b1 z1)
    | ((with_reducible refine alloc_walk (o := ⟨some 2, _, _, _, _, _⟩) rfl 53 rfl _ rtt_zero ?_); go_must (intro w2 r2 b2 z2; have R2 := Lib.hid (R1.out.below b2); have Q2 := Lib.hid r2; have B2 := Lib.hid (below_on B1.out b2); have c3 := R2.out.cell 3; have c4 := R2.out.cell 4; have c5 := R2.out.cell 5; have c10 := R2.out.cell 10; have c15 := R2.out.cell 15; simp only [tvC, List.getElem?_cons_zero, List.getElem?_cons_succ] at c3 c4 c5 c10 c15; rw [H1.out] at c10; clear r2 b2 z2))
    | (go_at_call 62; refine (KAD.out _).mono ?_; rintro e w7 ⟨rfl, rfl⟩)
    | ((with_reducible refine storeRow_walk rfl 53 (.tmp 2) (.tmp 10) rfl w1.heap.size rfl [.int .i64 4, .int .i64 G.peer, .int .i64 0] rfl HS3.out 53 (tcT 0 0 0) Q2.out rfl HO3.out ?_); intro w4 r4 o4 z4; have R4 : Hid (Row w4 w1.heap.size 53 (tcT 4 G.peer 0)) := Lib.hid r4; have B4 := Lib.hid (Only.below B2.out o4 B2.out.size (fun k hk e => by subst e; omega)); clear r4 o4 z4))
  exact bodyPost_ret (rtt_results Tryz.results39 rfl R4.out) rfl ⟨rfl, B4.out⟩
set_option maxRecDepth 100000 in
set_option maxHeartbeats 1000000 in
theorem ttch_over (G : Tv) (w : World) (h : G.at_ = 14) :
    Calls Tryz.prog 39 #[tvV G (.slice At nt ct) (.slice Al nl cl)] w fun e w' => e = .returned (touchV 4 G.peer 0) ∧ Below w.heap.size w w' := by
  have HSZ := Lib.hid (fun (H : Tv) (a b : Value) => (tv_size.trans (congrArg some (tv_len H a b).symm)))
  have HS3 : Hid ((Tryz.prog.info? 53).map (·.size) = some ([.int .i64 4, .int .i64 G.peer, .int .i64 0] : List Value).length) := Lib.hid rtt_size
  have HO3 : Hid (∀ v ∈ ([.int .i64 4, .int .i64 G.peer, .int .i64 0] : List Value), v.oneCell' = true) := Lib.hid (rtt_one _ _ _)
  have KAD := Lib.hid (fun W => radd_any G.own G.known W)
  have H1 := Lib.hid h
  clear h
  unfold tvV
  go_enter Tryz.func39, Tryz.ntmps39
  go_wp2_with (first
    | ((with_reducible refine box_walk rfl 37 (.tmp 0) rfl (tvC G (.slice At nt ct) (.slice Al nl cl)) rfl ?_); intro w1 r1 b1 z1; have R1 := Lib.hid r1; have B1 := Lib.hid b1; have hlt1 := r1.lt; clear r1 b1 z1)
    | ((with_reducible refine alloc_walk (o := ⟨some 2, _, _, _, _, _⟩) rfl 53 rfl _ rtt_zero ?_); go_must (intro w2 r2 b2 z2; have R2 := Lib.hid (R1.out.below b2); have Q2 := Lib.hid r2; have B2 := Lib.hid (below_on B1.out b2); have c3 := R2.out.cell 3; have c4 := R2.out.cell 4; have c5 := R2.out.cell 5; have c10 := R2.out.cell 10; have c15 := R2.out.cell 15; simp only [tvC, List.getElem?_cons_zero, List.getElem?_cons_succ] at c3 c4 c5 c10 c15; rw [H1.out] at c10; clear r2 b2 z2))
    | (go_at_call 62; refine (KAD.out _).mono ?_; rintro e w7 ⟨rfl, rfl⟩)
    | ((with_reducible refine storeRow_walk rfl 53 (.tmp 2) (.tmp 10) rfl w1.heap.size rfl [.int .i64 4, .int .i64 G.peer, .int .i64 0] rfl HS3.out 53 (tcT 0 0 0) Q2.out rfl HO3.out ?_); intro w4 r4 o4 z4; have R4 : Hid (Row w4 w1.heap.size 53 (tcT 4 G.peer 0)) := Lib.hid r4; have B4 := Lib.hid (Only.below B2.out o4 B2.out.size (fun k hk e => by subst e; omega)); clear r4 o4 z4))
  exact bodyPost_ret (rtt_results Tryz.results39 rfl R4.out) rfl ⟨rfl, B4.out⟩
set_option maxRecDepth 100000 in
set_option maxHeartbeats 1000000 in
theorem ttch_zero (G : Tv) (w : World) (hB : 0 ≤ G.B ∧ G.B ≤ 100000) (hR : 0 ≤ G.R ∧ G.R ≤ 64) (h : G.at_ = 2) :
    Calls Tryz.prog 39 #[tvV G (.slice At nt ct) (.slice Al nl cl)] w fun e w' => e = .returned (touchV 2 (atV13 G.B G.R 4 0 0) 0) ∧ Below w.heap.size w w' := by
  have HSZ := Lib.hid (fun (H : Tv) (a b : Value) => (tv_size.trans (congrArg some (tv_len H a b).symm)))
  have HS3 : Hid ((Tryz.prog.info? 53).map (·.size) = some ([.int .i64 2, .int .i64 (atV13 G.B G.R 4 0 0), .int .i64 0] : List Value).length) := Lib.hid rtt_size
  have HO3 : Hid (∀ v ∈ ([.int .i64 2, .int .i64 (atV13 G.B G.R 4 0 0), .int .i64 0] : List Value), v.oneCell' = true) := Lib.hid (rtt_one _ _ _)
  have KAD := Lib.hid (fun W => radd_any G.own G.known W)
  have KAT := Lib.hid (fun W => rat17_any (At := At) (nt := nt) (ct := ct) (Al := Al) (nl := nl) (cl := cl) G 4 0 0 hB hR W)
  unfold tvV at KAT
  have H1 := Lib.hid h
  clear h
  clear hB hR
  unfold tvV
  go_enter Tryz.func39, Tryz.ntmps39
  go_wp2_with (first
    | ((with_reducible refine box_walk rfl 37 (.tmp 0) rfl (tvC G (.slice At nt ct) (.slice Al nl cl)) rfl ?_); intro w1 r1 b1 z1; have R1 := Lib.hid r1; have B1 := Lib.hid b1; have hlt1 := r1.lt; clear r1 b1 z1)
    | ((with_reducible refine alloc_walk (o := ⟨some 2, _, _, _, _, _⟩) rfl 53 rfl _ rtt_zero ?_); go_must (intro w2 r2 b2 z2; have R2 := Lib.hid (R1.out.below b2); have Q2 := Lib.hid r2; have B2 := Lib.hid (below_on B1.out b2); have c4 := R2.out.cell 4; have c5 := R2.out.cell 5; have c10 := R2.out.cell 10; have c15 := R2.out.cell 15; simp only [tvC, List.getElem?_cons_zero, List.getElem?_cons_succ] at c4 c5 c10 c15; rw [H1.out] at c10; clear r2 b2 z2))
    | (go_at_call 62; refine (KAD.out _).mono ?_; rintro e w7 ⟨rfl, rfl⟩)
    | (with_reducible refine loadRow_walk rfl 37 (.tmp 1) rfl w.heap.size rfl (tvC G (.slice At nt ct) (.slice Al nl cl)) tv_struct (HSZ.out _ _ _) 37 R2.out ?_)
    | (go_at_call 61; refine (KAT.out _).mono ?_; rintro e w8 ⟨rfl, b8⟩; have Q8 := Lib.hid (Q2.out.below b8); have B8 := Lib.hid (below_on B2.out b8); clear b8)
    | ((with_reducible refine storeRow_walk rfl 53 (.tmp 2) (.tmp 15) rfl w1.heap.size rfl [.int .i64 2, .int .i64 (atV13 G.B G.R 4 0 0), .int .i64 0] rfl HS3.out 53 (tcT 0 0 0) Q8.out rfl HO3.out ?_); intro w4 r4 o4 z4; have R4 : Hid (Row w4 w1.heap.size 53 (tcT 2 (atV13 G.B G.R 4 0 0) 0)) := Lib.hid r4; have B4 := Lib.hid (Only.below B8.out o4 B8.out.size (fun k hk e => by subst e; omega)); clear r4 o4 z4))
  exact bodyPost_ret (rtt_results Tryz.results39 rfl R4.out) rfl ⟨rfl, B4.out⟩
set_option maxRecDepth 100000 in
set_option maxHeartbeats 1000000 in
theorem ttch_link (G : Tv) (w : World) (hB : 0 ≤ G.B ∧ G.B ≤ 100000) (hR : 0 ≤ G.R ∧ G.R ≤ 64) (h : G.at_ = 5) :
    Calls Tryz.prog 39 #[tvV G (.slice At nt ct) (.slice Al nl cl)] w fun e w' => e = .returned (touchV 1 (atV13 G.B G.R 1 0 0) 0) ∧ Below w.heap.size w w' := by
  have HSZ := Lib.hid (fun (H : Tv) (a b : Value) => (tv_size.trans (congrArg some (tv_len H a b).symm)))
  have HS3 : Hid ((Tryz.prog.info? 53).map (·.size) = some ([.int .i64 1, .int .i64 (atV13 G.B G.R 1 0 0), .int .i64 0] : List Value).length) := Lib.hid rtt_size
  have HO3 : Hid (∀ v ∈ ([.int .i64 1, .int .i64 (atV13 G.B G.R 1 0 0), .int .i64 0] : List Value), v.oneCell' = true) := Lib.hid (rtt_one _ _ _)
  have KAD := Lib.hid (fun W => radd_any G.own G.known W)
  have KAT := Lib.hid (fun W => rat17_any (At := At) (nt := nt) (ct := ct) (Al := Al) (nl := nl) (cl := cl) G 1 0 0 hB hR W)
  unfold tvV at KAT
  have H1 := Lib.hid h
  clear h
  clear hB hR
  unfold tvV
  go_enter Tryz.func39, Tryz.ntmps39
  go_wp2_with (first
    | ((with_reducible refine box_walk rfl 37 (.tmp 0) rfl (tvC G (.slice At nt ct) (.slice Al nl cl)) rfl ?_); intro w1 r1 b1 z1; have R1 := Lib.hid r1; have B1 := Lib.hid b1; have hlt1 := r1.lt; clear r1 b1 z1)
    | ((with_reducible refine alloc_walk (o := ⟨some 2, _, _, _, _, _⟩) rfl 53 rfl _ rtt_zero ?_); go_must (intro w2 r2 b2 z2; have R2 := Lib.hid (R1.out.below b2); have Q2 := Lib.hid r2; have B2 := Lib.hid (below_on B1.out b2); have c4 := R2.out.cell 4; have c5 := R2.out.cell 5; have c10 := R2.out.cell 10; have c15 := R2.out.cell 15; simp only [tvC, List.getElem?_cons_zero, List.getElem?_cons_succ] at c4 c5 c10 c15; rw [H1.out] at c10; clear r2 b2 z2))
    | (go_at_call 62; refine (KAD.out _).mono ?_; rintro e w7 ⟨rfl, rfl⟩)
    | (with_reducible refine loadRow_walk rfl 37 (.tmp 1) rfl w.heap.size rfl (tvC G (.slice At nt ct) (.slice Al nl cl)) tv_struct (HSZ.out _ _ _) 37 R2.out ?_)
    | (go_at_call 61; refine (KAT.out _).mono ?_; rintro e w8 ⟨rfl, b8⟩; have Q8 := Lib.hid (Q2.out.below b8); have B8 := Lib.hid (below_on B2.out b8); clear b8)
    | ((with_reducible refine storeRow_walk rfl 53 (.tmp 2) (.tmp 30) rfl w1.heap.size rfl [.int .i64 1, .int .i64 (atV13 G.B G.R 1 0 0), .int .i64 0] rfl HS3.out 53 (tcT 0 0 0) Q8.out rfl HO3.out ?_); intro w4 r4 o4 z4; have R4 : Hid (Row w4 w1.heap.size 53 (tcT 1 (atV13 G.B G.R 1 0 0) 0)) := Lib.hid r4; have B4 := Lib.hid (Only.below B8.out o4 B8.out.size (fun k hk e => by subst e; omega)); clear r4 o4 z4))
  exact bodyPost_ret (rtt_results Tryz.results39 rfl R4.out) rfl ⟨rfl, B4.out⟩
set_option maxRecDepth 100000 in
set_option maxHeartbeats 1000000 in
theorem ttch_look (G : Tv) (w : World) (hB : 0 ≤ G.B ∧ G.B ≤ 100000) (hR : 0 ≤ G.R ∧ G.R ≤ 64) (h : G.at_ = 6) :
    Calls Tryz.prog 39 #[tvV G (.slice At nt ct) (.slice Al nl cl)] w fun e w' => e = .returned (touchV 1 (atV13 G.B G.R 3 0 0) 0) ∧ Below w.heap.size w w' := by
  have HSZ := Lib.hid (fun (H : Tv) (a b : Value) => (tv_size.trans (congrArg some (tv_len H a b).symm)))
  have HS3 : Hid ((Tryz.prog.info? 53).map (·.size) = some ([.int .i64 1, .int .i64 (atV13 G.B G.R 3 0 0), .int .i64 0] : List Value).length) := Lib.hid rtt_size
  have HO3 : Hid (∀ v ∈ ([.int .i64 1, .int .i64 (atV13 G.B G.R 3 0 0), .int .i64 0] : List Value), v.oneCell' = true) := Lib.hid (rtt_one _ _ _)
  have KAD := Lib.hid (fun W => radd_any G.own G.known W)
  have KAT := Lib.hid (fun W => rat17_any (At := At) (nt := nt) (ct := ct) (Al := Al) (nl := nl) (cl := cl) G 3 0 0 hB hR W)
  unfold tvV at KAT
  have H1 := Lib.hid h
  clear h
  clear hB hR
  unfold tvV
  go_enter Tryz.func39, Tryz.ntmps39
  go_wp2_with (first
    | ((with_reducible refine box_walk rfl 37 (.tmp 0) rfl (tvC G (.slice At nt ct) (.slice Al nl cl)) rfl ?_); intro w1 r1 b1 z1; have R1 := Lib.hid r1; have B1 := Lib.hid b1; have hlt1 := r1.lt; clear r1 b1 z1)
    | ((with_reducible refine alloc_walk (o := ⟨some 2, _, _, _, _, _⟩) rfl 53 rfl _ rtt_zero ?_); go_must (intro w2 r2 b2 z2; have R2 := Lib.hid (R1.out.below b2); have Q2 := Lib.hid r2; have B2 := Lib.hid (below_on B1.out b2); have c4 := R2.out.cell 4; have c5 := R2.out.cell 5; have c10 := R2.out.cell 10; have c15 := R2.out.cell 15; simp only [tvC, List.getElem?_cons_zero, List.getElem?_cons_succ] at c4 c5 c10 c15; rw [H1.out] at c10; clear r2 b2 z2))
    | (go_at_call 62; refine (KAD.out _).mono ?_; rintro e w7 ⟨rfl, rfl⟩)
    | (with_reducible refine loadRow_walk rfl 37 (.tmp 1) rfl w.heap.size rfl (tvC G (.slice At nt ct) (.slice Al nl cl)) tv_struct (HSZ.out _ _ _) 37 R2.out ?_)
    | (go_at_call 61; refine (KAT.out _).mono ?_; rintro e w8 ⟨rfl, b8⟩; have Q8 := Lib.hid (Q2.out.below b8); have B8 := Lib.hid (below_on B2.out b8); clear b8)
    | ((with_reducible refine storeRow_walk rfl 53 (.tmp 2) (.tmp 35) rfl w1.heap.size rfl [.int .i64 1, .int .i64 (atV13 G.B G.R 3 0 0), .int .i64 0] rfl HS3.out 53 (tcT 0 0 0) Q8.out rfl HO3.out ?_); intro w4 r4 o4 z4; have R4 : Hid (Row w4 w1.heap.size 53 (tcT 1 (atV13 G.B G.R 3 0 0) 0)) := Lib.hid r4; have B4 := Lib.hid (Only.below B8.out o4 B8.out.size (fun k hk e => by subst e; omega)); clear r4 o4 z4))
  exact bodyPost_ret (rtt_results Tryz.results39 rfl R4.out) rfl ⟨rfl, B4.out⟩
set_option maxRecDepth 100000 in
set_option maxHeartbeats 1000000 in
theorem ttch_size (G : Tv) (w : World) (hB : 0 ≤ G.B ∧ G.B ≤ 100000) (hR : 0 ≤ G.R ∧ G.R ≤ 64) (h : G.at_ = 8) :
    Calls Tryz.prog 39 #[tvV G (.slice At nt ct) (.slice Al nl cl)] w fun e w' => e = .returned (touchV 1 (atV13 G.B G.R 7 G.d 0) 0) ∧ Below w.heap.size w w' := by
  have HSZ := Lib.hid (fun (H : Tv) (a b : Value) => (tv_size.trans (congrArg some (tv_len H a b).symm)))
  have HS3 : Hid ((Tryz.prog.info? 53).map (·.size) = some ([.int .i64 1, .int .i64 (atV13 G.B G.R 7 G.d 0), .int .i64 0] : List Value).length) := Lib.hid rtt_size
  have HO3 : Hid (∀ v ∈ ([.int .i64 1, .int .i64 (atV13 G.B G.R 7 G.d 0), .int .i64 0] : List Value), v.oneCell' = true) := Lib.hid (rtt_one _ _ _)
  have KAD := Lib.hid (fun W => radd_any G.own G.known W)
  have KAT := Lib.hid (fun W => rat17_any (At := At) (nt := nt) (ct := ct) (Al := Al) (nl := nl) (cl := cl) G 7 G.d 0 hB hR W)
  unfold tvV at KAT
  have H1 := Lib.hid h
  clear h
  clear hB hR
  unfold tvV
  go_enter Tryz.func39, Tryz.ntmps39
  go_wp2_with (first
    | ((with_reducible refine box_walk rfl 37 (.tmp 0) rfl (tvC G (.slice At nt ct) (.slice Al nl cl)) rfl ?_); intro w1 r1 b1 z1; have R1 := Lib.hid r1; have B1 := Lib.hid b1; have hlt1 := r1.lt; clear r1 b1 z1)
    | ((with_reducible refine alloc_walk (o := ⟨some 2, _, _, _, _, _⟩) rfl 53 rfl _ rtt_zero ?_); go_must (intro w2 r2 b2 z2; have R2 := Lib.hid (R1.out.below b2); have Q2 := Lib.hid r2; have B2 := Lib.hid (below_on B1.out b2); have c4 := R2.out.cell 4; have c5 := R2.out.cell 5; have c10 := R2.out.cell 10; have c12 := R2.out.cell 12; have c15 := R2.out.cell 15; simp only [tvC, List.getElem?_cons_zero, List.getElem?_cons_succ] at c4 c5 c10 c12 c15; rw [H1.out] at c10; clear r2 b2 z2))
    | (go_at_call 62; refine (KAD.out _).mono ?_; rintro e w7 ⟨rfl, rfl⟩)
    | (with_reducible refine loadRow_walk rfl 37 (.tmp 1) rfl w.heap.size rfl (tvC G (.slice At nt ct) (.slice Al nl cl)) tv_struct (HSZ.out _ _ _) 37 R2.out ?_)
    | (go_at_call 61; refine (KAT.out _).mono ?_; rintro e w8 ⟨rfl, b8⟩; have Q8 := Lib.hid (Q2.out.below b8); have B8 := Lib.hid (below_on B2.out b8); clear b8)
    | ((with_reducible refine storeRow_walk rfl 53 (.tmp 2) (.tmp 52) rfl w1.heap.size rfl [.int .i64 1, .int .i64 (atV13 G.B G.R 7 G.d 0), .int .i64 0] rfl HS3.out 53 (tcT 0 0 0) Q8.out rfl HO3.out ?_); intro w4 r4 o4 z4; have R4 : Hid (Row w4 w1.heap.size 53 (tcT 1 (atV13 G.B G.R 7 G.d 0) 0)) := Lib.hid r4; have B4 := Lib.hid (Only.below B8.out o4 B8.out.size (fun k hk e => by subst e; omega)); clear r4 o4 z4))
  exact bodyPost_ret (rtt_results Tryz.results39 rfl R4.out) rfl ⟨rfl, B4.out⟩
set_option maxRecDepth 100000 in
set_option maxHeartbeats 1000000 in
theorem ttch_word (G : Tv) (w : World) (hB : 0 ≤ G.B ∧ G.B ≤ 100000) (hR : 0 ≤ G.R ∧ G.R ≤ 64) (h : G.at_ = 9) :
    Calls Tryz.prog 39 #[tvV G (.slice At nt ct) (.slice Al nl cl)] w fun e w' => e = .returned (touchV 1 (atV13 G.B G.R 8 G.d G.i) 0) ∧ Below w.heap.size w w' := by
  have HSZ := Lib.hid (fun (H : Tv) (a b : Value) => (tv_size.trans (congrArg some (tv_len H a b).symm)))
  have HS3 : Hid ((Tryz.prog.info? 53).map (·.size) = some ([.int .i64 1, .int .i64 (atV13 G.B G.R 8 G.d G.i), .int .i64 0] : List Value).length) := Lib.hid rtt_size
  have HO3 : Hid (∀ v ∈ ([.int .i64 1, .int .i64 (atV13 G.B G.R 8 G.d G.i), .int .i64 0] : List Value), v.oneCell' = true) := Lib.hid (rtt_one _ _ _)
  have KAD := Lib.hid (fun W => radd_any G.own G.known W)
  have KAT := Lib.hid (fun W => rat17_any (At := At) (nt := nt) (ct := ct) (Al := Al) (nl := nl) (cl := cl) G 8 G.d G.i hB hR W)
  unfold tvV at KAT
  have H1 := Lib.hid h
  clear h
  clear hB hR
  unfold tvV
  go_enter Tryz.func39, Tryz.ntmps39
  go_wp2_with (first
    | ((with_reducible refine box_walk rfl 37 (.tmp 0) rfl (tvC G (.slice At nt ct) (.slice Al nl cl)) rfl ?_); intro w1 r1 b1 z1; have R1 := Lib.hid r1; have B1 := Lib.hid b1; have hlt1 := r1.lt; clear r1 b1 z1)
    | ((with_reducible refine alloc_walk (o := ⟨some 2, _, _, _, _, _⟩) rfl 53 rfl _ rtt_zero ?_); go_must (intro w2 r2 b2 z2; have R2 := Lib.hid (R1.out.below b2); have Q2 := Lib.hid r2; have B2 := Lib.hid (below_on B1.out b2); have c4 := R2.out.cell 4; have c5 := R2.out.cell 5; have c10 := R2.out.cell 10; have c11 := R2.out.cell 11; have c12 := R2.out.cell 12; have c15 := R2.out.cell 15; simp only [tvC, List.getElem?_cons_zero, List.getElem?_cons_succ] at c4 c5 c10 c11 c12 c15; rw [H1.out] at c10; clear r2 b2 z2))
    | (go_at_call 62; refine (KAD.out _).mono ?_; rintro e w7 ⟨rfl, rfl⟩)
    | (with_reducible refine loadRow_walk rfl 37 (.tmp 1) rfl w.heap.size rfl (tvC G (.slice At nt ct) (.slice Al nl cl)) tv_struct (HSZ.out _ _ _) 37 R2.out ?_)
    | (go_at_call 61; refine (KAT.out _).mono ?_; rintro e w8 ⟨rfl, b8⟩; have Q8 := Lib.hid (Q2.out.below b8); have B8 := Lib.hid (below_on B2.out b8); clear b8)
    | ((with_reducible refine storeRow_walk rfl 53 (.tmp 2) (.tmp 61) rfl w1.heap.size rfl [.int .i64 1, .int .i64 (atV13 G.B G.R 8 G.d G.i), .int .i64 0] rfl HS3.out 53 (tcT 0 0 0) Q8.out rfl HO3.out ?_); intro w4 r4 o4 z4; have R4 : Hid (Row w4 w1.heap.size 53 (tcT 1 (atV13 G.B G.R 8 G.d G.i) 0)) := Lib.hid r4; have B4 := Lib.hid (Only.below B8.out o4 B8.out.size (fun k hk e => by subst e; omega)); clear r4 o4 z4))
  exact bodyPost_ret (rtt_results Tryz.results39 rfl R4.out) rfl ⟨rfl, B4.out⟩
set_option maxRecDepth 100000 in
set_option maxHeartbeats 1000000 in
theorem ttch_settle (G : Tv) (w : World) (h : G.at_ = 4) :
    Calls Tryz.prog 39 #[tvV G (.slice At nt ct) (.slice Al nl cl)] w fun e w' => e = .returned (touchV 3 0 0) ∧ Below w.heap.size w w' := by
  have HSZ := Lib.hid (fun (H : Tv) (a b : Value) => (tv_size.trans (congrArg some (tv_len H a b).symm)))
  have HS3 : Hid ((Tryz.prog.info? 53).map (·.size) = some ([.int .i64 3, .int .i64 0, .int .i64 0] : List Value).length) := Lib.hid rtt_size
  have HO3 : Hid (∀ v ∈ ([.int .i64 3, .int .i64 0, .int .i64 0] : List Value), v.oneCell' = true) := Lib.hid (rtt_one _ _ _)
  have KAD := Lib.hid (fun W => radd_any G.own G.known W)
  have H1 := Lib.hid h
  clear h
  unfold tvV
  go_enter Tryz.func39, Tryz.ntmps39
  go_wp2_with (first
    | ((with_reducible refine box_walk rfl 37 (.tmp 0) rfl (tvC G (.slice At nt ct) (.slice Al nl cl)) rfl ?_); intro w1 r1 b1 z1; have R1 := Lib.hid r1; have B1 := Lib.hid b1; have hlt1 := r1.lt; clear r1 b1 z1)
    | ((with_reducible refine alloc_walk (o := ⟨some 2, _, _, _, _, _⟩) rfl 53 rfl _ rtt_zero ?_); go_must (intro w2 r2 b2 z2; have R2 := Lib.hid (R1.out.below b2); have Q2 := Lib.hid r2; have B2 := Lib.hid (below_on B1.out b2); have c4 := R2.out.cell 4; have c5 := R2.out.cell 5; have c10 := R2.out.cell 10; have c15 := R2.out.cell 15; simp only [tvC, List.getElem?_cons_zero, List.getElem?_cons_succ] at c4 c5 c10 c15; rw [H1.out] at c10; clear r2 b2 z2))
    | (go_at_call 62; refine (KAD.out _).mono ?_; rintro e w7 ⟨rfl, rfl⟩)
    | ((with_reducible refine storeRow_walk rfl 53 (.tmp 2) (.tmp 82) rfl w1.heap.size rfl [.int .i64 3, .int .i64 0, .int .i64 0] rfl HS3.out 53 (tcT 0 0 0) Q2.out rfl HO3.out ?_); intro w4 r4 o4 z4; have R4 : Hid (Row w4 w1.heap.size 53 (tcT 3 0 0)) := Lib.hid r4; have B4 := Lib.hid (Only.below B2.out o4 B2.out.size (fun k hk e => by subst e; omega)); clear r4 o4 z4))
  exact bodyPost_ret (rtt_results Tryz.results39 rfl R4.out) rfl ⟨rfl, B4.out⟩
set_option maxRecDepth 100000 in
set_option maxHeartbeats 1000000 in
theorem ttch_guard (G : Tv) (w : World) (h : G.at_ = 11) :
    Calls Tryz.prog 39 #[tvV G (.slice At nt ct) (.slice Al nl cl)] w fun e w' => e = .returned (touchV 3 0 0) ∧ Below w.heap.size w w' := by
  have HSZ := Lib.hid (fun (H : Tv) (a b : Value) => (tv_size.trans (congrArg some (tv_len H a b).symm)))
  have HS3 : Hid ((Tryz.prog.info? 53).map (·.size) = some ([.int .i64 3, .int .i64 0, .int .i64 0] : List Value).length) := Lib.hid rtt_size
  have HO3 : Hid (∀ v ∈ ([.int .i64 3, .int .i64 0, .int .i64 0] : List Value), v.oneCell' = true) := Lib.hid (rtt_one _ _ _)
  have KAD := Lib.hid (fun W => radd_any G.own G.known W)
  have H1 := Lib.hid h
  clear h
  unfold tvV
  go_enter Tryz.func39, Tryz.ntmps39
  go_wp2_with (first
    | ((with_reducible refine box_walk rfl 37 (.tmp 0) rfl (tvC G (.slice At nt ct) (.slice Al nl cl)) rfl ?_); intro w1 r1 b1 z1; have R1 := Lib.hid r1; have B1 := Lib.hid b1; have hlt1 := r1.lt; clear r1 b1 z1)
    | ((with_reducible refine alloc_walk (o := ⟨some 2, _, _, _, _, _⟩) rfl 53 rfl _ rtt_zero ?_); go_must (intro w2 r2 b2 z2; have R2 := Lib.hid (R1.out.below b2); have Q2 := Lib.hid r2; have B2 := Lib.hid (below_on B1.out b2); have c4 := R2.out.cell 4; have c5 := R2.out.cell 5; have c10 := R2.out.cell 10; have c15 := R2.out.cell 15; simp only [tvC, List.getElem?_cons_zero, List.getElem?_cons_succ] at c4 c5 c10 c15; rw [H1.out] at c10; clear r2 b2 z2))
    | (go_at_call 62; refine (KAD.out _).mono ?_; rintro e w7 ⟨rfl, rfl⟩)
    | ((with_reducible refine storeRow_walk rfl 53 (.tmp 2) (.tmp 82) rfl w1.heap.size rfl [.int .i64 3, .int .i64 0, .int .i64 0] rfl HS3.out 53 (tcT 0 0 0) Q2.out rfl HO3.out ?_); intro w4 r4 o4 z4; have R4 : Hid (Row w4 w1.heap.size 53 (tcT 3 0 0)) := Lib.hid r4; have B4 := Lib.hid (Only.below B2.out o4 B2.out.size (fun k hk e => by subst e; omega)); clear r4 o4 z4))
  exact bodyPost_ret (rtt_results Tryz.results39 rfl R4.out) rfl ⟨rfl, B4.out⟩
set_option maxRecDepth 100000 in
set_option maxHeartbeats 1000000 in
theorem ttch_flush (G : Tv) (w : World) (h : G.at_ = 13) :
    Calls Tryz.prog 39 #[tvV G (.slice At nt ct) (.slice Al nl cl)] w fun e w' => e = .returned (touchV 3 0 0) ∧ Below w.heap.size w w' := by
  have HSZ := Lib.hid (fun (H : Tv) (a b : Value) => (tv_size.trans (congrArg some (tv_len H a b).symm)))
  have HS3 : Hid ((Tryz.prog.info? 53).map (·.size) = some ([.int .i64 3, .int .i64 0, .int .i64 0] : List Value).length) := Lib.hid rtt_size
  have HO3 : Hid (∀ v ∈ ([.int .i64 3, .int .i64 0, .int .i64 0] : List Value), v.oneCell' = true) := Lib.hid (rtt_one _ _ _)
  have KAD := Lib.hid (fun W => radd_any G.own G.known W)
  have H1 := Lib.hid h
  clear h
  unfold tvV
  go_enter Tryz.func39, Tryz.ntmps39
  go_wp2_with (first
    | ((with_reducible refine box_walk rfl 37 (.tmp 0) rfl (tvC G (.slice At nt ct) (.slice Al nl cl)) rfl ?_); intro w1 r1 b1 z1; have R1 := Lib.hid r1; have B1 := Lib.hid b1; have hlt1 := r1.lt; clear r1 b1 z1)
    | ((with_reducible refine alloc_walk (o := ⟨some 2, _, _, _, _, _⟩) rfl 53 rfl _ rtt_zero ?_); go_must (intro w2 r2 b2 z2; have R2 := Lib.hid (R1.out.below b2); have Q2 := Lib.hid r2; have B2 := Lib.hid (below_on B1.out b2); have c4 := R2.out.cell 4; have c5 := R2.out.cell 5; have c10 := R2.out.cell 10; have c15 := R2.out.cell 15; simp only [tvC, List.getElem?_cons_zero, List.getElem?_cons_succ] at c4 c5 c10 c15; rw [H1.out] at c10; clear r2 b2 z2))
    | (go_at_call 62; refine (KAD.out _).mono ?_; rintro e w7 ⟨rfl, rfl⟩)
    | ((with_reducible refine storeRow_walk rfl 53 (.tmp 2) (.tmp 82) rfl w1.heap.size rfl [.int .i64 3, .int .i64 0, .int .i64 0] rfl HS3.out 53 (tcT 0 0 0) Q2.out rfl HO3.out ?_); intro w4 r4 o4 z4; have R4 : Hid (Row w4 w1.heap.size 53 (tcT 3 0 0)) := Lib.hid r4; have B4 := Lib.hid (Only.below B2.out o4 B2.out.size (fun k hk e => by subst e; omega)); clear r4 o4 z4))
  exact bodyPost_ret (rtt_results Tryz.results39 rfl R4.out) rfl ⟨rfl, B4.out⟩
set_option maxRecDepth 100000 in
set_option maxHeartbeats 2000000 in
theorem ttch_mark (G : Tv) (w : World) (hB : 0 ≤ G.B ∧ G.B ≤ 100000) (hR : 0 ≤ G.R ∧ G.R ≤ 64) (h : G.at_ = 3) :
    Calls Tryz.prog 39 #[tvV G (.slice At nt ct) (.slice Al nl cl)] w fun e w' => e = .returned (touchV (2) (atV13 G.B G.R 2 0 0) (addW G.own G.known)) ∧ Below w.heap.size w w' := by
  have HSZ := Lib.hid (fun (H : Tv) (a b : Value) => (tv_size.trans (congrArg some (tv_len H a b).symm)))
  have HS3 : Hid ((Tryz.prog.info? 53).map (·.size) = some ([.int .i64 (2), .int .i64 (atV13 G.B G.R 2 0 0), .int .i64 (addW G.own G.known)] : List Value).length) := Lib.hid rtt_size
  have HO3 : Hid (∀ v ∈ ([.int .i64 (2), .int .i64 (atV13 G.B G.R 2 0 0), .int .i64 (addW G.own G.known)] : List Value), v.oneCell' = true) := Lib.hid (rtt_one _ _ _)
  have KAD := Lib.hid (fun W => radd_any G.own G.known W)
  have KAT := Lib.hid (fun W => rat17_any (At := At) (nt := nt) (ct := ct) (Al := Al) (nl := nl) (cl := cl) G 2 0 0 hB hR W)
  unfold tvV at KAT
  have H1 := Lib.hid h
  clear h
  clear hB hR
  unfold tvV
  go_enter Tryz.func39, Tryz.ntmps39
  go_wp2_with (first
    | ((with_reducible refine box_walk rfl 37 (.tmp 0) rfl (tvC G (.slice At nt ct) (.slice Al nl cl)) rfl ?_); intro w1 r1 b1 z1; have R1 := Lib.hid r1; have B1 := Lib.hid b1; have hlt1 := r1.lt; clear r1 b1 z1)
    | ((with_reducible refine alloc_walk (o := ⟨some 2, _, _, _, _, _⟩) rfl 53 rfl _ rtt_zero ?_); go_must (intro w2 r2 b2 z2; have R2 := Lib.hid (R1.out.below b2); have Q2 := Lib.hid r2; have B2 := Lib.hid (below_on B1.out b2); have c4 := R2.out.cell 4; have c5 := R2.out.cell 5; have c10 := R2.out.cell 10; have c15 := R2.out.cell 15; simp only [tvC, List.getElem?_cons_zero, List.getElem?_cons_succ] at c4 c5 c10 c15; rw [H1.out] at c10; clear r2 b2 z2))
    | (go_at_call 62; refine (KAD.out _).mono ?_; rintro e w7 ⟨rfl, rfl⟩))
  have hR : Row w2.drew w.heap.size 37 (tvC G (.slice At nt ct) (.slice Al nl cl)) := R2.out
  have hQ : Row w2.drew w1.heap.size 53 (tcT 0 0 0) := Q2.out
  have hB : Below w.heap.size w w2.drew := B2.out.drew
  refine wp_region_held_drew (S := fun W => Row W w.heap.size 37 (tvC G (.slice At nt ct) (.slice Al nl cl)) ∧ W.cell? ⟨w.heap.size, 4, none⟩ = some (.int .i64 G.own) ∧ W.cell? ⟨w.heap.size, 5, none⟩ = some (.int .i64 G.known)) (by kernel_rfl) ⟨hR, hR.cell 4, hR.cell 5⟩ (fun hHeld => ?_)
  refine wpAnyH_take (i := 0) (oi := ⟨some 18, .load 37 (.tmp 1), 37, "ref.go:110", #[], none⟩) (v := .agg (tvC G (.slice At nt ct) (.slice Al nl cl)).toArray) rfl (by kernel_rfl) (by kernel_rfl) (by kernel_rfl) (fun _ _ _ h => h) (yieldsIf_row rfl 37 (.tmp 1) rfl w.heap.size rfl (tvC G (.slice At nt ct) (.slice Al nl cl)) tv_struct (HSZ.out _ _ _) 37 (fun W h => h.1)) (by assumption) ?_
  try simp only [Act.put, List.setIfInBounds_toArray, List.set_cons_zero, List.set_cons_succ]
  refine' wpAnyH_take (i := 2) (oi := ⟨some 20, .fieldAddr 37 (.tmp 1) 4, 0, "ref.go:110", #[], none⟩) (v := _) rfl (by kernel_rfl) (by kernel_rfl) (by kernel_rfl) (fun _ _ _ h => h) (Or.inl ⟨by rfl, ?hy3⟩) (by assumption) ?rest3
  case hy3 => (intro w hSw; (try dsimp only at hSw); go_simp; try with_reducible rfl)
  try simp only [Act.put, List.setIfInBounds_toArray, List.set_cons_zero, List.set_cons_succ]
  refine' wpAnyH_take (i := 3) (oi := ⟨some 21, .load 3 (.tmp 20), 3, "ref.go:110", #[⟨2, .data⟩], none⟩) (v := _) rfl (by kernel_rfl) (by kernel_rfl) (by kernel_rfl) (fun _ _ _ h => h) (Or.inl ⟨by rfl, ?hy5⟩) (by assumption) ?rest5
  case hy5 => (intro w hSw; (try dsimp only at hSw); go_simp; try with_reducible rfl)
  try simp only [Act.put, List.setIfInBounds_toArray, List.set_cons_zero, List.set_cons_succ]
  refine' wpAnyH_take (i := 4) (oi := ⟨some 22, .fieldAddr 37 (.tmp 1) 5, 0, "ref.go:110", #[], none⟩) (v := _) rfl (by kernel_rfl) (by kernel_rfl) (by kernel_rfl) (fun _ _ _ h => h) (Or.inl ⟨by rfl, ?hy7⟩) (by assumption) ?rest7
  case hy7 => (intro w hSw; (try dsimp only at hSw); go_simp; try with_reducible rfl)
  try simp only [Act.put, List.setIfInBounds_toArray, List.set_cons_zero, List.set_cons_succ]
  refine' wpAnyH_take (i := 5) (oi := ⟨some 23, .load 3 (.tmp 22), 3, "ref.go:110", #[⟨4, .data⟩], none⟩) (v := _) rfl (by kernel_rfl) (by kernel_rfl) (by kernel_rfl) (fun _ _ _ h => h) (Or.inl ⟨by rfl, ?hy9⟩) (by assumption) ?rest9
  case hy9 => (intro w hSw; (try dsimp only at hSw); go_simp; try with_reducible rfl)
  try simp only [Act.put, List.setIfInBounds_toArray, List.set_cons_zero, List.set_cons_succ]
  refine wpAnyH_ready (rs := [1]) (by kernel_rfl) (by simp) ?_
  refine AllReadyH.cons (o := ⟨some 19, .call { callee := .value (.func 61), args := #[.tmp 18, .const (.int .i64 2), .const (.int .i64 0), .const (.int .i64 0)], argTypes := #[37, 3, 3, 3] }, 3, "ref.go:110", #[⟨0, .data⟩], none⟩) rfl (fun K hK => ?_) AllReadyH.nil
  go_simp
  go_at_call 61
  refine (KAT.out _).mono ?_
  rintro e w8 ⟨rfl, b8⟩
  have h8 := hR.below b8
  have hQ8 := hQ.below b8
  have hB8 := below_on hB b8
  clear hR hQ hB
  obtain ⟨hR, hQ, hB⟩ : _ ∧ _ ∧ _ := ⟨h8, hQ8, hB8⟩
  go_wp2_with fail
  refine hK.out _ _ ⟨hR, hR.cell 4, hR.cell 5⟩ (fun hSx => ?_)
  clear hK K
  try simp only [Act.put, List.setIfInBounds_toArray, List.set_cons_zero, List.set_cons_succ]
  refine wpAnyH_ready (rs := [6]) (by kernel_rfl) (by simp) ?_
  refine AllReadyH.cons (o := ⟨some 24, .call { callee := .value (.func 62), args := #[.tmp 21, .tmp 23], argTypes := #[3, 3] }, 3, "ref.go:110", #[⟨3, .data⟩, ⟨5, .data⟩, ⟨1, .chain⟩], none⟩) rfl (fun K hK => ?_) AllReadyH.nil
  go_simp
  go_at_call 62
  refine (KAD.out _).mono ?_
  rintro e w7 ⟨rfl, rfl⟩
  go_wp2_with fail
  refine hK.out _ _ ⟨hR, hR.cell 4, hR.cell 5⟩ (fun hSx => ?_)
  clear hK K
  try simp only [Act.put, List.setIfInBounds_toArray, List.set_cons_zero, List.set_cons_succ]
  refine' wpAnyH_take (i := 7) (oi := ⟨some 25, .build 53 #[(0, .const (.int .i64 2)), (1, .tmp 19), (2, .tmp 24)], 53, "ref.go:110", #[⟨1, .data⟩, ⟨6, .data⟩], none⟩) (v := _) rfl (by kernel_rfl) (by kernel_rfl) (by kernel_rfl) (fun _ _ _ h => h) (Or.inl ⟨by rfl, ?hy12⟩) (by assumption) ?rest12
  case hy12 => (intro w hSw; (try dsimp only at hSw); go_simp; try with_reducible rfl)
  try simp only [Act.put, List.setIfInBounds_toArray, List.set_cons_zero, List.set_cons_succ]
  refine wpAnyH_ready (rs := [8]) (by kernel_rfl) (by simp) ?_
  refine AllReadyH.cons (o := ⟨none, .store 53 (.tmp 2) (.tmp 25), 0, "ref.go:110", #[⟨7, .data⟩, ⟨6, .chain⟩, ⟨0, .phase⟩, ⟨1, .phase⟩, ⟨2, .phase⟩, ⟨3, .phase⟩, ⟨4, .phase⟩, ⟨5, .phase⟩, ⟨6, .phase⟩, ⟨7, .phase⟩], none⟩) rfl (fun K hK => ?_) AllReadyH.nil
  refine storeRow_step rfl 53 (.tmp 2) (.tmp 25) rfl w1.heap.size rfl [.int .i64 (2), .int .i64 (atV13 G.B G.R 2 0 0), .int .i64 (addW G.own G.known)] rfl HS3.out 53 (tcT 0 0 0) hQ rfl HO3.out ?_
  intro w4 r4 o4 z4
  have R4 : Hid (Row w4 w1.heap.size 53 (tcT (2) (atV13 G.B G.R 2 0 0) (addW G.own G.known))) := Lib.hid r4
  have B4 := Lib.hid (Only.below hB o4 hB.size (fun k hk e => by subst e; omega))
  have h4 := hR.only o4 (fun e => by omega)
  refine hK.out _ _ ⟨h4, h4.cell 4, h4.cell 5⟩ (fun hSx => ?_)
  clear hK K
  try simp only [Act.put]
  refine wpAnyH_done (by kernel_rfl) ?_ _
  go_wp2
  exact bodyPost_ret (rtt_results Tryz.results39 rfl R4.out) rfl ⟨rfl, B4.out⟩
set_option maxRecDepth 100000 in
set_option maxHeartbeats 2000000 in
theorem ttch_slot (G : Tv) (w : World) (hB : 0 ≤ G.B ∧ G.B ≤ 100000) (hR : 0 ≤ G.R ∧ G.R ≤ 64) (h : G.at_ = 7) (h0 : 0 ≤ G.head) (h1 : 1 ≤ G.R) (m : Int) (hm : G.head % G.R = m) :
    Calls Tryz.prog 39 #[tvV G (.slice At nt ct) (.slice Al nl cl)] w fun e w' => e = .returned (touchV (1) (atV13 G.B G.R 5 m 0) (0)) ∧ Below w.heap.size w w' := by
  have HSZ := Lib.hid (fun (H : Tv) (a b : Value) => (tv_size.trans (congrArg some (tv_len H a b).symm)))
  have HS3 : Hid ((Tryz.prog.info? 53).map (·.size) = some ([.int .i64 (1), .int .i64 (atV13 G.B G.R 5 m 0), .int .i64 (0)] : List Value).length) := Lib.hid rtt_size
  have HO3 : Hid (∀ v ∈ ([.int .i64 (1), .int .i64 (atV13 G.B G.R 5 m 0), .int .i64 (0)] : List Value), v.oneCell' = true) := Lib.hid (rtt_one _ _ _)
  have KAD := Lib.hid (fun W => radd_any G.own G.known W)
  have KAT := Lib.hid (fun W => rat17_any (At := At) (nt := nt) (ct := ct) (Al := Al) (nl := nl) (cl := cl) G 5 m 0 hB hR W)
  unfold tvV at KAT
  have H1 := Lib.hid h
  have hR0 : G.R ≠ 0 := by omega
  have hR1 : (G.R == 0) = false := by simpa using hR0
  have hm0 : 0 ≤ m ∧ m < 64 := by
    have h1 := Int.emod_nonneg G.head hR0
    have h2 := Int.emod_lt_of_pos G.head (show (0 : Int) < G.R by omega)
    omega
  have hmt : (G.head).tmod G.R = m := by rw [Int.tmod_eq_emod_of_nonneg h0]; exact hm
  have hmw : wrap64 m = m := by rw [← IntWalk.i64_left, IntWalk.i64_in _ (by omega)]
  clear hm h0
  clear h
  clear hB hR
  unfold tvV
  go_enter Tryz.func39, Tryz.ntmps39
  go_wp2_with (first
    | ((with_reducible refine box_walk rfl 37 (.tmp 0) rfl (tvC G (.slice At nt ct) (.slice Al nl cl)) rfl ?_); intro w1 r1 b1 z1; have R1 := Lib.hid r1; have B1 := Lib.hid b1; have hlt1 := r1.lt; clear r1 b1 z1)
    | ((with_reducible refine alloc_walk (o := ⟨some 2, _, _, _, _, _⟩) rfl 53 rfl _ rtt_zero ?_); go_must (intro w2 r2 b2 z2; have R2 := Lib.hid (R1.out.below b2); have Q2 := Lib.hid r2; have B2 := Lib.hid (below_on B1.out b2); have c4 := R2.out.cell 4; have c5 := R2.out.cell 5; have c10 := R2.out.cell 10; have c15 := R2.out.cell 15; simp only [tvC, List.getElem?_cons_zero, List.getElem?_cons_succ] at c4 c5 c10 c15; rw [H1.out] at c10; clear r2 b2 z2))
    | (go_at_call 62; refine (KAD.out _).mono ?_; rintro e w7 ⟨rfl, rfl⟩))
  have hR : Row w2.drew w.heap.size 37 (tvC G (.slice At nt ct) (.slice Al nl cl)) := R2.out
  have hQ : Row w2.drew w1.heap.size 53 (tcT 0 0 0) := Q2.out
  have hB : Below w.heap.size w w2.drew := B2.out.drew
  refine wp_region_held_drew (S := fun W => Row W w.heap.size 37 (tvC G (.slice At nt ct) (.slice Al nl cl)) ∧ W.cell? ⟨w.heap.size, 1, none⟩ = some (.int .i64 G.R) ∧ W.cell? ⟨w.heap.size, 7, none⟩ = some (.int .i64 G.head)) (by kernel_rfl) ⟨hR, hR.cell 1, hR.cell 7⟩ (fun hHeld => ?_)
  refine wpAnyH_take (i := 0) (oi := ⟨some 38, .load 37 (.tmp 1), 37, "ref.go:116", #[], none⟩) (v := .agg (tvC G (.slice At nt ct) (.slice Al nl cl)).toArray) rfl (by kernel_rfl) (by kernel_rfl) (by kernel_rfl) (fun _ _ _ h => h) (yieldsIf_row rfl 37 (.tmp 1) rfl w.heap.size rfl (tvC G (.slice At nt ct) (.slice Al nl cl)) tv_struct (HSZ.out _ _ _) 37 (fun W h => h.1)) (by assumption) ?_
  try simp only [Act.put, List.setIfInBounds_toArray, List.set_cons_zero, List.set_cons_succ]
  refine' wpAnyH_take (i := 1) (oi := ⟨some 39, .fieldAddr 37 (.tmp 1) 7, 0, "ref.go:116", #[], none⟩) (v := _) rfl (by kernel_rfl) (by kernel_rfl) (by kernel_rfl) (fun _ _ _ h => h) (Or.inl ⟨by rfl, ?hy15⟩) (by assumption) ?rest15
  case hy15 => (intro w hSw; (try dsimp only at hSw); go_simp; try with_reducible rfl)
  try simp only [Act.put, List.setIfInBounds_toArray, List.set_cons_zero, List.set_cons_succ]
  refine' wpAnyH_take (i := 2) (oi := ⟨some 40, .load 3 (.tmp 39), 3, "ref.go:116", #[⟨1, .data⟩], none⟩) (v := _) rfl (by kernel_rfl) (by kernel_rfl) (by kernel_rfl) (fun _ _ _ h => h) (Or.inl ⟨by rfl, ?hy16⟩) (by assumption) ?rest16
  case hy16 => (intro w hSw; (try dsimp only at hSw); go_simp; try with_reducible rfl)
  try simp only [Act.put, List.setIfInBounds_toArray, List.set_cons_zero, List.set_cons_succ]
  refine' wpAnyH_take (i := 3) (oi := ⟨some 41, .fieldAddr 37 (.tmp 1) 1, 0, "ref.go:116", #[], none⟩) (v := _) rfl (by kernel_rfl) (by kernel_rfl) (by kernel_rfl) (fun _ _ _ h => h) (Or.inl ⟨by rfl, ?hy17⟩) (by assumption) ?rest17
  case hy17 => (intro w hSw; (try dsimp only at hSw); go_simp; try with_reducible rfl)
  try simp only [Act.put, List.setIfInBounds_toArray, List.set_cons_zero, List.set_cons_succ]
  refine' wpAnyH_take (i := 4) (oi := ⟨some 42, .load 3 (.tmp 41), 3, "ref.go:116", #[⟨3, .data⟩], none⟩) (v := _) rfl (by kernel_rfl) (by kernel_rfl) (by kernel_rfl) (fun _ _ _ h => h) (Or.inl ⟨by rfl, ?hy18⟩) (by assumption) ?rest18
  case hy18 => (intro w hSw; (try dsimp only at hSw); go_simp; try with_reducible rfl)
  try simp only [Act.put, List.setIfInBounds_toArray, List.set_cons_zero, List.set_cons_succ]
  refine' wpAnyH_take (i := 5) (oi := ⟨some 43, .binOp .rem 3 (.tmp 40) (.tmp 42) 3, 3, "ref.go:116", #[⟨2, .data⟩, ⟨4, .data⟩], none⟩) (v := _) rfl (by kernel_rfl) (by kernel_rfl) (by kernel_rfl) (fun _ _ _ h => h) (Or.inl ⟨by rfl, ?hy19⟩) (by assumption) ?rest19
  case hy19 => (intro w hSw; (try dsimp only at hSw); go_simp; try with_reducible rfl)
  try simp only [Act.put, List.setIfInBounds_toArray, List.set_cons_zero, List.set_cons_succ]
  refine wpAnyH_ready (rs := [6]) (by kernel_rfl) (by simp) ?_
  refine AllReadyH.cons (o := ⟨some 44, .call { callee := .value (.func 61), args := #[.tmp 38, .const (.int .i64 5), .tmp 43, .const (.int .i64 0)], argTypes := #[37, 3, 3, 3] }, 3, "ref.go:116", #[⟨0, .data⟩, ⟨5, .data⟩], none⟩) rfl (fun K hK => ?_) AllReadyH.nil
  go_simp
  go_at_call 61
  refine (KAT.out _).mono ?_
  rintro e w8 ⟨rfl, b8⟩
  have h8 := hR.below b8
  have hQ8 := hQ.below b8
  have hB8 := below_on hB b8
  clear hR hQ hB
  obtain ⟨hR, hQ, hB⟩ : _ ∧ _ ∧ _ := ⟨h8, hQ8, hB8⟩
  go_wp2_with fail
  refine hK.out _ _ ⟨hR, hR.cell 1, hR.cell 7⟩ (fun hSx => ?_)
  clear hK K
  try simp only [Act.put, List.setIfInBounds_toArray, List.set_cons_zero, List.set_cons_succ]
  refine' wpAnyH_take (i := 7) (oi := ⟨some 45, .build 53 #[(0, .const (.int .i64 1)), (1, .tmp 44)], 53, "ref.go:116", #[⟨6, .data⟩], none⟩) (v := _) rfl (by kernel_rfl) (by kernel_rfl) (by kernel_rfl) (fun _ _ _ h => h) (Or.inl ⟨by rfl, ?hy21⟩) (by assumption) ?rest21
  case hy21 => (intro w hSw; (try dsimp only at hSw); go_simp; try with_reducible rfl)
  try simp only [Act.put, List.setIfInBounds_toArray, List.set_cons_zero, List.set_cons_succ]
  refine wpAnyH_ready (rs := [8]) (by kernel_rfl) (by simp) ?_
  refine AllReadyH.cons (o := ⟨none, .store 53 (.tmp 2) (.tmp 45), 0, "ref.go:116", #[⟨7, .data⟩, ⟨6, .chain⟩, ⟨0, .phase⟩, ⟨1, .phase⟩, ⟨2, .phase⟩, ⟨3, .phase⟩, ⟨4, .phase⟩, ⟨5, .phase⟩, ⟨6, .phase⟩, ⟨7, .phase⟩], none⟩) rfl (fun K hK => ?_) AllReadyH.nil
  refine storeRow_step rfl 53 (.tmp 2) (.tmp 45) rfl w1.heap.size rfl [.int .i64 (1), .int .i64 (atV13 G.B G.R 5 m 0), .int .i64 (0)] rfl HS3.out 53 (tcT 0 0 0) hQ rfl HO3.out ?_
  intro w4 r4 o4 z4
  have R4 : Hid (Row w4 w1.heap.size 53 (tcT (1) (atV13 G.B G.R 5 m 0) (0))) := Lib.hid r4
  have B4 := Lib.hid (Only.below hB o4 hB.size (fun k hk e => by subst e; omega))
  have h4 := hR.only o4 (fun e => by omega)
  refine hK.out _ _ ⟨h4, h4.cell 1, h4.cell 7⟩ (fun hSx => ?_)
  clear hK K
  try simp only [Act.put]
  refine wpAnyH_done (by kernel_rfl) ?_ _
  go_wp2
  exact bodyPost_ret (rtt_results Tryz.results39 rfl R4.out) rfl ⟨rfl, B4.out⟩
set_option maxRecDepth 100000 in
set_option maxHeartbeats 2000000 in
theorem ttch_ret (G : Tv) (w : World) (hB : 0 ≤ G.B ∧ G.B ≤ 100000) (hR : 0 ≤ G.R ∧ G.R ≤ 64) (h : G.at_ = 10) (h0 : 0 ≤ G.used) (h1 : 1 ≤ G.R) (m : Int) (hm : G.used % G.R = m) :
    Calls Tryz.prog 39 #[tvV G (.slice At nt ct) (.slice Al nl cl)] w fun e w' => e = .returned (touchV (2) (atV13 G.B G.R 6 m 0) (G.d)) ∧ Below w.heap.size w w' := by
  have HSZ := Lib.hid (fun (H : Tv) (a b : Value) => (tv_size.trans (congrArg some (tv_len H a b).symm)))
  have HS3 : Hid ((Tryz.prog.info? 53).map (·.size) = some ([.int .i64 (2), .int .i64 (atV13 G.B G.R 6 m 0), .int .i64 (G.d)] : List Value).length) := Lib.hid rtt_size
  have HO3 : Hid (∀ v ∈ ([.int .i64 (2), .int .i64 (atV13 G.B G.R 6 m 0), .int .i64 (G.d)] : List Value), v.oneCell' = true) := Lib.hid (rtt_one _ _ _)
  have KAD := Lib.hid (fun W => radd_any G.own G.known W)
  have KAT := Lib.hid (fun W => rat17_any (At := At) (nt := nt) (ct := ct) (Al := Al) (nl := nl) (cl := cl) G 6 m 0 hB hR W)
  unfold tvV at KAT
  have H1 := Lib.hid h
  have hR0 : G.R ≠ 0 := by omega
  have hR1 : (G.R == 0) = false := by simpa using hR0
  have hm0 : 0 ≤ m ∧ m < 64 := by
    have h1 := Int.emod_nonneg G.used hR0
    have h2 := Int.emod_lt_of_pos G.used (show (0 : Int) < G.R by omega)
    omega
  have hmt : (G.used).tmod G.R = m := by rw [Int.tmod_eq_emod_of_nonneg h0]; exact hm
  have hmw : wrap64 m = m := by rw [← IntWalk.i64_left, IntWalk.i64_in _ (by omega)]
  clear hm h0
  clear h
  clear hB hR
  unfold tvV
  go_enter Tryz.func39, Tryz.ntmps39
  go_wp2_with (first
    | ((with_reducible refine box_walk rfl 37 (.tmp 0) rfl (tvC G (.slice At nt ct) (.slice Al nl cl)) rfl ?_); intro w1 r1 b1 z1; have R1 := Lib.hid r1; have B1 := Lib.hid b1; have hlt1 := r1.lt; clear r1 b1 z1)
    | ((with_reducible refine alloc_walk (o := ⟨some 2, _, _, _, _, _⟩) rfl 53 rfl _ rtt_zero ?_); go_must (intro w2 r2 b2 z2; have R2 := Lib.hid (R1.out.below b2); have Q2 := Lib.hid r2; have B2 := Lib.hid (below_on B1.out b2); have c4 := R2.out.cell 4; have c5 := R2.out.cell 5; have c10 := R2.out.cell 10; have c15 := R2.out.cell 15; simp only [tvC, List.getElem?_cons_zero, List.getElem?_cons_succ] at c4 c5 c10 c15; rw [H1.out] at c10; clear r2 b2 z2))
    | (go_at_call 62; refine (KAD.out _).mono ?_; rintro e w7 ⟨rfl, rfl⟩))
  have hR : Row w2.drew w.heap.size 37 (tvC G (.slice At nt ct) (.slice Al nl cl)) := R2.out
  have hQ : Row w2.drew w1.heap.size 53 (tcT 0 0 0) := Q2.out
  have hB : Below w.heap.size w w2.drew := B2.out.drew
  refine wp_region_held_drew (S := fun W => Row W w.heap.size 37 (tvC G (.slice At nt ct) (.slice Al nl cl)) ∧ W.cell? ⟨w.heap.size, 1, none⟩ = some (.int .i64 G.R) ∧ W.cell? ⟨w.heap.size, 8, none⟩ = some (.int .i64 G.used) ∧ W.cell? ⟨w.heap.size, 12, none⟩ = some (.int .i64 G.d)) (by kernel_rfl) ⟨hR, hR.cell 1, hR.cell 8, hR.cell 12⟩ (fun hHeld => ?_)
  refine wpAnyH_take (i := 0) (oi := ⟨some 64, .load 37 (.tmp 1), 37, "ref.go:122", #[], none⟩) (v := .agg (tvC G (.slice At nt ct) (.slice Al nl cl)).toArray) rfl (by kernel_rfl) (by kernel_rfl) (by kernel_rfl) (fun _ _ _ h => h) (yieldsIf_row rfl 37 (.tmp 1) rfl w.heap.size rfl (tvC G (.slice At nt ct) (.slice Al nl cl)) tv_struct (HSZ.out _ _ _) 37 (fun W h => h.1)) (by assumption) ?_
  try simp only [Act.put, List.setIfInBounds_toArray, List.set_cons_zero, List.set_cons_succ]
  refine' wpAnyH_take (i := 1) (oi := ⟨some 65, .fieldAddr 37 (.tmp 1) 8, 0, "ref.go:122", #[], none⟩) (v := _) rfl (by kernel_rfl) (by kernel_rfl) (by kernel_rfl) (fun _ _ _ h => h) (Or.inl ⟨by rfl, ?hy24⟩) (by assumption) ?rest24
  case hy24 => (intro w hSw; (try dsimp only at hSw); go_simp; try with_reducible rfl)
  try simp only [Act.put, List.setIfInBounds_toArray, List.set_cons_zero, List.set_cons_succ]
  refine' wpAnyH_take (i := 2) (oi := ⟨some 66, .load 3 (.tmp 65), 3, "ref.go:122", #[⟨1, .data⟩], none⟩) (v := _) rfl (by kernel_rfl) (by kernel_rfl) (by kernel_rfl) (fun _ _ _ h => h) (Or.inl ⟨by rfl, ?hy25⟩) (by assumption) ?rest25
  case hy25 => (intro w hSw; (try dsimp only at hSw); go_simp; try with_reducible rfl)
  try simp only [Act.put, List.setIfInBounds_toArray, List.set_cons_zero, List.set_cons_succ]
  refine' wpAnyH_take (i := 3) (oi := ⟨some 67, .fieldAddr 37 (.tmp 1) 1, 0, "ref.go:122", #[], none⟩) (v := _) rfl (by kernel_rfl) (by kernel_rfl) (by kernel_rfl) (fun _ _ _ h => h) (Or.inl ⟨by rfl, ?hy26⟩) (by assumption) ?rest26
  case hy26 => (intro w hSw; (try dsimp only at hSw); go_simp; try with_reducible rfl)
  try simp only [Act.put, List.setIfInBounds_toArray, List.set_cons_zero, List.set_cons_succ]
  refine' wpAnyH_take (i := 4) (oi := ⟨some 68, .load 3 (.tmp 67), 3, "ref.go:122", #[⟨3, .data⟩], none⟩) (v := _) rfl (by kernel_rfl) (by kernel_rfl) (by kernel_rfl) (fun _ _ _ h => h) (Or.inl ⟨by rfl, ?hy27⟩) (by assumption) ?rest27
  case hy27 => (intro w hSw; (try dsimp only at hSw); go_simp; try with_reducible rfl)
  try simp only [Act.put, List.setIfInBounds_toArray, List.set_cons_zero, List.set_cons_succ]
  refine' wpAnyH_take (i := 5) (oi := ⟨some 69, .binOp .rem 3 (.tmp 66) (.tmp 68) 3, 3, "ref.go:122", #[⟨2, .data⟩, ⟨4, .data⟩], none⟩) (v := _) rfl (by kernel_rfl) (by kernel_rfl) (by kernel_rfl) (fun _ _ _ h => h) (Or.inl ⟨by rfl, ?hy28⟩) (by assumption) ?rest28
  case hy28 => (intro w hSw; (try dsimp only at hSw); go_simp; try with_reducible rfl)
  try simp only [Act.put, List.setIfInBounds_toArray, List.set_cons_zero, List.set_cons_succ]
  refine' wpAnyH_take (i := 7) (oi := ⟨some 71, .fieldAddr 37 (.tmp 1) 12, 0, "ref.go:122", #[], none⟩) (v := _) rfl (by kernel_rfl) (by kernel_rfl) (by kernel_rfl) (fun _ _ _ h => h) (Or.inl ⟨by rfl, ?hy30⟩) (by assumption) ?rest30
  case hy30 => (intro w hSw; (try dsimp only at hSw); go_simp; try with_reducible rfl)
  try simp only [Act.put, List.setIfInBounds_toArray, List.set_cons_zero, List.set_cons_succ]
  refine' wpAnyH_take (i := 8) (oi := ⟨some 72, .load 3 (.tmp 71), 3, "ref.go:122", #[⟨7, .data⟩], none⟩) (v := _) rfl (by kernel_rfl) (by kernel_rfl) (by kernel_rfl) (fun _ _ _ h => h) (Or.inl ⟨by rfl, ?hy32⟩) (by assumption) ?rest32
  case hy32 => (intro w hSw; (try dsimp only at hSw); go_simp; try with_reducible rfl)
  try simp only [Act.put, List.setIfInBounds_toArray, List.set_cons_zero, List.set_cons_succ]
  refine wpAnyH_ready (rs := [6]) (by kernel_rfl) (by simp) ?_
  refine AllReadyH.cons (o := ⟨some 70, .call { callee := .value (.func 61), args := #[.tmp 64, .const (.int .i64 6), .tmp 69, .const (.int .i64 0)], argTypes := #[37, 3, 3, 3] }, 3, "ref.go:122", #[⟨0, .data⟩, ⟨5, .data⟩], none⟩) rfl (fun K hK => ?_) AllReadyH.nil
  go_simp
  go_at_call 61
  refine (KAT.out _).mono ?_
  rintro e w8 ⟨rfl, b8⟩
  have h8 := hR.below b8
  have hQ8 := hQ.below b8
  have hB8 := below_on hB b8
  clear hR hQ hB
  obtain ⟨hR, hQ, hB⟩ : _ ∧ _ ∧ _ := ⟨h8, hQ8, hB8⟩
  go_wp2_with fail
  refine hK.out _ _ ⟨hR, hR.cell 1, hR.cell 8, hR.cell 12⟩ (fun hSx => ?_)
  clear hK K
  try simp only [Act.put, List.setIfInBounds_toArray, List.set_cons_zero, List.set_cons_succ]
  refine' wpAnyH_take (i := 9) (oi := ⟨some 73, .build 53 #[(0, .const (.int .i64 2)), (1, .tmp 70), (2, .tmp 72)], 53, "ref.go:122", #[⟨6, .data⟩, ⟨8, .data⟩], none⟩) (v := _) rfl (by kernel_rfl) (by kernel_rfl) (by kernel_rfl) (fun _ _ _ h => h) (Or.inl ⟨by rfl, ?hy34⟩) (by assumption) ?rest34
  case hy34 => (intro w hSw; (try dsimp only at hSw); go_simp; try with_reducible rfl)
  try simp only [Act.put, List.setIfInBounds_toArray, List.set_cons_zero, List.set_cons_succ]
  refine wpAnyH_ready (rs := [10]) (by kernel_rfl) (by simp) ?_
  refine AllReadyH.cons (o := ⟨none, .store 53 (.tmp 2) (.tmp 73), 0, "ref.go:122", #[⟨9, .data⟩, ⟨6, .chain⟩, ⟨0, .phase⟩, ⟨1, .phase⟩, ⟨2, .phase⟩, ⟨3, .phase⟩, ⟨4, .phase⟩, ⟨5, .phase⟩, ⟨6, .phase⟩, ⟨7, .phase⟩, ⟨8, .phase⟩, ⟨9, .phase⟩], none⟩) rfl (fun K hK => ?_) AllReadyH.nil
  refine storeRow_step rfl 53 (.tmp 2) (.tmp 73) rfl w1.heap.size rfl [.int .i64 (2), .int .i64 (atV13 G.B G.R 6 m 0), .int .i64 (G.d)] rfl HS3.out 53 (tcT 0 0 0) hQ rfl HO3.out ?_
  intro w4 r4 o4 z4
  have R4 : Hid (Row w4 w1.heap.size 53 (tcT (2) (atV13 G.B G.R 6 m 0) (G.d))) := Lib.hid r4
  have B4 := Lib.hid (Only.below hB o4 hB.size (fun k hk e => by subst e; omega))
  have h4 := hR.only o4 (fun e => by omega)
  refine hK.out _ _ ⟨h4, h4.cell 1, h4.cell 8, h4.cell 12⟩ (fun hSx => ?_)
  clear hK K
  try simp only [Act.put]
  refine wpAnyH_done (by kernel_rfl) ?_ _
  go_wp2
  exact bodyPost_ret (rtt_results Tryz.results39 rfl R4.out) rfl ⟨rfl, B4.out⟩
set_option maxRecDepth 100000 in
set_option maxHeartbeats 2000000 in
theorem ttch_show (G : Tv) (w : World) (hB : 0 ≤ G.B ∧ G.B ≤ 100000) (hR : 0 ≤ G.R ∧ G.R ≤ 64) (h : G.at_ = 12) :
    Calls Tryz.prog 39 #[tvV G (.slice At nt ct) (.slice Al nl cl)] w fun e w' => e = .returned (touchV (2) (atV13 G.B G.R 4 0 0) (addW G.used 1)) ∧ Below w.heap.size w w' := by
  have HSZ := Lib.hid (fun (H : Tv) (a b : Value) => (tv_size.trans (congrArg some (tv_len H a b).symm)))
  have HS3 : Hid ((Tryz.prog.info? 53).map (·.size) = some ([.int .i64 (2), .int .i64 (atV13 G.B G.R 4 0 0), .int .i64 (addW G.used 1)] : List Value).length) := Lib.hid rtt_size
  have HO3 : Hid (∀ v ∈ ([.int .i64 (2), .int .i64 (atV13 G.B G.R 4 0 0), .int .i64 (addW G.used 1)] : List Value), v.oneCell' = true) := Lib.hid (rtt_one _ _ _)
  have KAD := Lib.hid (fun W => radd_any G.own G.known W)
  have KAT := Lib.hid (fun W => rat17_any (At := At) (nt := nt) (ct := ct) (Al := Al) (nl := nl) (cl := cl) G 4 0 0 hB hR W)
  unfold tvV at KAT
  have H1 := Lib.hid h
  have KA2 := Lib.hid (fun W => radd_any G.used 1 W)
  clear h
  clear hB hR
  unfold tvV
  go_enter Tryz.func39, Tryz.ntmps39
  go_wp2_with (first
    | ((with_reducible refine box_walk rfl 37 (.tmp 0) rfl (tvC G (.slice At nt ct) (.slice Al nl cl)) rfl ?_); intro w1 r1 b1 z1; have R1 := Lib.hid r1; have B1 := Lib.hid b1; have hlt1 := r1.lt; clear r1 b1 z1)
    | ((with_reducible refine alloc_walk (o := ⟨some 2, _, _, _, _, _⟩) rfl 53 rfl _ rtt_zero ?_); go_must (intro w2 r2 b2 z2; have R2 := Lib.hid (R1.out.below b2); have Q2 := Lib.hid r2; have B2 := Lib.hid (below_on B1.out b2); have c4 := R2.out.cell 4; have c5 := R2.out.cell 5; have c10 := R2.out.cell 10; have c15 := R2.out.cell 15; simp only [tvC, List.getElem?_cons_zero, List.getElem?_cons_succ] at c4 c5 c10 c15; rw [H1.out] at c10; clear r2 b2 z2))
    | (go_at_call 62; refine (KAD.out _).mono ?_; rintro e w7 ⟨rfl, rfl⟩))
  have hR : Row w2.drew w.heap.size 37 (tvC G (.slice At nt ct) (.slice Al nl cl)) := R2.out
  have hQ : Row w2.drew w1.heap.size 53 (tcT 0 0 0) := Q2.out
  have hB : Below w.heap.size w w2.drew := B2.out.drew
  refine wp_region_held_drew (S := fun W => Row W w.heap.size 37 (tvC G (.slice At nt ct) (.slice Al nl cl)) ∧ W.cell? ⟨w.heap.size, 8, none⟩ = some (.int .i64 G.used)) (by kernel_rfl) ⟨hR, hR.cell 8⟩ (fun hHeld => ?_)
  refine wpAnyH_take (i := 0) (oi := ⟨some 76, .load 37 (.tmp 1), 37, "ref.go:124", #[], none⟩) (v := .agg (tvC G (.slice At nt ct) (.slice Al nl cl)).toArray) rfl (by kernel_rfl) (by kernel_rfl) (by kernel_rfl) (fun _ _ _ h => h) (yieldsIf_row rfl 37 (.tmp 1) rfl w.heap.size rfl (tvC G (.slice At nt ct) (.slice Al nl cl)) tv_struct (HSZ.out _ _ _) 37 (fun W h => h.1)) (by assumption) ?_
  try simp only [Act.put, List.setIfInBounds_toArray, List.set_cons_zero, List.set_cons_succ]
  refine' wpAnyH_take (i := 2) (oi := ⟨some 78, .fieldAddr 37 (.tmp 1) 8, 0, "ref.go:124", #[], none⟩) (v := _) rfl (by kernel_rfl) (by kernel_rfl) (by kernel_rfl) (fun _ _ _ h => h) (Or.inl ⟨by rfl, ?hy38⟩) (by assumption) ?rest38
  case hy38 => (intro w hSw; (try dsimp only at hSw); go_simp; try with_reducible rfl)
  try simp only [Act.put, List.setIfInBounds_toArray, List.set_cons_zero, List.set_cons_succ]
  refine' wpAnyH_take (i := 3) (oi := ⟨some 79, .load 3 (.tmp 78), 3, "ref.go:124", #[⟨2, .data⟩], none⟩) (v := _) rfl (by kernel_rfl) (by kernel_rfl) (by kernel_rfl) (fun _ _ _ h => h) (Or.inl ⟨by rfl, ?hy40⟩) (by assumption) ?rest40
  case hy40 => (intro w hSw; (try dsimp only at hSw); go_simp; try with_reducible rfl)
  try simp only [Act.put, List.setIfInBounds_toArray, List.set_cons_zero, List.set_cons_succ]
  refine wpAnyH_ready (rs := [1]) (by kernel_rfl) (by simp) ?_
  refine AllReadyH.cons (o := ⟨some 77, .call { callee := .value (.func 61), args := #[.tmp 76, .const (.int .i64 4), .const (.int .i64 0), .const (.int .i64 0)], argTypes := #[37, 3, 3, 3] }, 3, "ref.go:124", #[⟨0, .data⟩], none⟩) rfl (fun K hK => ?_) AllReadyH.nil
  go_simp
  go_at_call 61
  refine (KAT.out _).mono ?_
  rintro e w8 ⟨rfl, b8⟩
  have h8 := hR.below b8
  have hQ8 := hQ.below b8
  have hB8 := below_on hB b8
  clear hR hQ hB
  obtain ⟨hR, hQ, hB⟩ : _ ∧ _ ∧ _ := ⟨h8, hQ8, hB8⟩
  go_wp2_with fail
  refine hK.out _ _ ⟨hR, hR.cell 8⟩ (fun hSx => ?_)
  clear hK K
  try simp only [Act.put, List.setIfInBounds_toArray, List.set_cons_zero, List.set_cons_succ]
  refine wpAnyH_ready (rs := [4]) (by kernel_rfl) (by simp) ?_
  refine AllReadyH.cons (o := ⟨some 80, .call { callee := .value (.func 62), args := #[.tmp 79, .const (.int .i64 1)], argTypes := #[3, 3] }, 3, "ref.go:124", #[⟨3, .data⟩, ⟨1, .chain⟩], none⟩) rfl (fun K hK => ?_) AllReadyH.nil
  go_simp
  go_at_call 62
  refine (KA2.out _).mono ?_
  rintro e w7 ⟨rfl, rfl⟩
  go_wp2_with fail
  refine hK.out _ _ ⟨hR, hR.cell 8⟩ (fun hSx => ?_)
  clear hK K
  try simp only [Act.put, List.setIfInBounds_toArray, List.set_cons_zero, List.set_cons_succ]
  refine' wpAnyH_take (i := 5) (oi := ⟨some 81, .build 53 #[(0, .const (.int .i64 2)), (1, .tmp 77), (2, .tmp 80)], 53, "ref.go:124", #[⟨1, .data⟩, ⟨4, .data⟩], none⟩) (v := _) rfl (by kernel_rfl) (by kernel_rfl) (by kernel_rfl) (fun _ _ _ h => h) (Or.inl ⟨by rfl, ?hy43⟩) (by assumption) ?rest43
  case hy43 => (intro w hSw; (try dsimp only at hSw); go_simp; try with_reducible rfl)
  try simp only [Act.put, List.setIfInBounds_toArray, List.set_cons_zero, List.set_cons_succ]
  refine wpAnyH_ready (rs := [6]) (by kernel_rfl) (by simp) ?_
  refine AllReadyH.cons (o := ⟨none, .store 53 (.tmp 2) (.tmp 81), 0, "ref.go:124", #[⟨5, .data⟩, ⟨4, .chain⟩, ⟨0, .phase⟩, ⟨1, .phase⟩, ⟨2, .phase⟩, ⟨3, .phase⟩, ⟨4, .phase⟩, ⟨5, .phase⟩], none⟩) rfl (fun K hK => ?_) AllReadyH.nil
  refine storeRow_step rfl 53 (.tmp 2) (.tmp 81) rfl w1.heap.size rfl [.int .i64 (2), .int .i64 (atV13 G.B G.R 4 0 0), .int .i64 (addW G.used 1)] rfl HS3.out 53 (tcT 0 0 0) hQ rfl HO3.out ?_
  intro w4 r4 o4 z4
  have R4 : Hid (Row w4 w1.heap.size 53 (tcT (2) (atV13 G.B G.R 4 0 0) (addW G.used 1))) := Lib.hid r4
  have B4 := Lib.hid (Only.below hB o4 hB.size (fun k hk e => by subst e; omega))
  have h4 := hR.only o4 (fun e => by omega)
  refine hK.out _ _ ⟨h4, h4.cell 8⟩ (fun hSx => ?_)
  clear hK K
  try simp only [Act.put]
  refine wpAnyH_done (by kernel_rfl) ?_ _
  go_wp2
  exact bodyPost_ret (rtt_results Tryz.results39 rfl R4.out) rfl ⟨rfl, B4.out⟩
/-- The touch that comes next. -/
def tchTT (G : Tv) : Int × Int × Int :=
  if G.at_ = 1 ∨ G.at_ = 14 then (4, G.peer, 0)
  else if G.at_ = 2 then (2, atV13 G.B G.R 4 0 0, 0)
  else if G.at_ = 3 then (2, atV13 G.B G.R 2 0 0, addW G.own G.known)
  else if G.at_ = 5 then (1, atV13 G.B G.R 1 0 0, 0)
  else if G.at_ = 6 then (1, atV13 G.B G.R 3 0 0, 0)
  else if G.at_ = 7 then (1, atV13 G.B G.R 5 (G.head % G.R) 0, 0)
  else if G.at_ = 8 then (1, atV13 G.B G.R 7 G.d 0, 0)
  else if G.at_ = 9 then (1, atV13 G.B G.R 8 G.d G.i, 0)
  else if G.at_ = 10 then (2, atV13 G.B G.R 6 (G.used % G.R) 0, G.d)
  else if G.at_ = 12 then (2, atV13 G.B G.R 4 0 0, addW G.used 1)
  else (3, 0, 0)
theorem ttch_any (G : Tv) (w : World) (hB : 0 ≤ G.B ∧ G.B ≤ 100000) (hR : 1 ≤ G.R ∧ G.R ≤ 64) (h : 1 ≤ G.at_ ∧ G.at_ ≤ 14) (hh : 0 ≤ G.head) (hu : 0 ≤ G.used) :
    Calls Tryz.prog 39 #[tvV G (.slice At nt ct) (.slice Al nl cl)] w fun e w' => e = .returned (touchV (tchTT G).1 (tchTT G).2.1 (tchTT G).2.2) ∧ Below w.heap.size w w' := by
  have hR' : 0 ≤ G.R ∧ G.R ≤ 64 := by omega
  unfold tchTT
  by_cases h1 : G.at_ = 1 ∨ G.at_ = 14
  · rw [if_pos h1]
    rcases h1 with h1 | h1
    · exact ttch_ask G w h1
    · exact ttch_over G w h1
  rw [if_neg h1]
  by_cases h2 : G.at_ = 2
  · rw [if_pos h2]; exact ttch_zero G w hB hR' h2
  rw [if_neg h2]
  by_cases h3 : G.at_ = 3
  · rw [if_pos h3]; exact ttch_mark G w hB hR' h3
  rw [if_neg h3]
  by_cases h5 : G.at_ = 5
  · rw [if_pos h5]; exact ttch_link G w hB hR' h5
  rw [if_neg h5]
  by_cases h6 : G.at_ = 6
  · rw [if_pos h6]; exact ttch_look G w hB hR' h6
  rw [if_neg h6]
  by_cases h7 : G.at_ = 7
  · rw [if_pos h7]; exact ttch_slot G w hB hR' h7 hh hR.1 _ rfl
  rw [if_neg h7]
  by_cases h8 : G.at_ = 8
  · rw [if_pos h8]; exact ttch_size G w hB hR' h8
  rw [if_neg h8]
  by_cases h9 : G.at_ = 9
  · rw [if_pos h9]; exact ttch_word G w hB hR' h9
  rw [if_neg h9]
  by_cases h10 : G.at_ = 10
  · rw [if_pos h10]; exact ttch_ret G w hB hR' h10 hu hR.1 _ rfl
  rw [if_neg h10]
  by_cases h12 : G.at_ = 12
  · rw [if_pos h12]; exact ttch_show G w hB hR' h12
  rw [if_neg h12]
  by_cases h4 : G.at_ = 4
  · exact ttch_settle G w h4
  by_cases h11 : G.at_ = 11
  · exact ttch_guard G w h11
  exact ttch_flush G w (by omega)
end
end

section
open Go.ChangeShapes Go.WideShapes Go.ChangeAt Go.RowKit
/-- What the walk needs to know of the reference's taker. -/
structure Qk17 (G : Tv) : Prop where
  B : 0 ≤ G.B ∧ G.B ≤ 100000
  R : 1 ≤ G.R ∧ G.R ≤ 64
  at1 : 1 ≤ G.at_ ∧ G.at_ ≤ 14
  head : 0 ≤ G.head
  used : 0 ≤ G.used
  len : (G.tab.length : Int) = G.R
  tab64 : G.tab.length ≤ 64
  load : G.load.length ≤ 100
  i : G.at_ = 9 → 0 ≤ G.i ∧ G.i ≤ 100
def plZ17 : List Value := [.slice none 0 0, .slice none 0 0, .slice none 0 0]
theorem rp17_size : (Tryz.prog.info? 51).map (·.size) = some 3 := by kernel_rfl
theorem rp17_zero : (Tryz.prog.info? 51).map (·.zero) = some (some (.agg plZ17.toArray)) := by kernel_rfl
theorem rp17_struct : isStruct Tryz.prog 51 = true := by kernel_rfl
theorem rp17_one {A1 A2 A3 : Option Addr} {n1 c1 n2 c2 n3 c3 : Nat} : ∀ v ∈ ([.slice A1 n1 c1, .slice A2 n2 c2, .slice A3 n3 c3] : List Value), v.oneCell' = true := by
  intro v hv
  simp at hv
  rcases hv with rfl | rfl | rfl <;> rfl
theorem tstep_results {fn : Func} {s1 s2 s3 q1 q2 : Tmp} (h : fn.results = #[.cell s1 37, .cell s2 51, .cell s3 53, .tmp q1, .tmp q2]) {tmps : Array Value} {w : World} {b1 b2 b3 : Nat} (h1 : tmps.getD s1 undef = .pointer (some ⟨b1, 0, none⟩)) (h2 : tmps.getD s2 undef = .pointer (some ⟨b2, 0, none⟩)) (h3 : tmps.getD s3 undef = .pointer (some ⟨b3, 0, none⟩)) {G : Tv} {vt vl x y z u1 u2 : Value} {κ i u : Int} (hq1 : tmps.getD q1 undef = u1) (hq2 : tmps.getD q2 undef = u2)
    (hg : Row w b1 37 (tvC G vt vl)) (hp : Row w b2 51 [x, y, z]) (ht : Row w b3 53 (tcT κ i u)) :
    (results fn tmps).run Tryz.prog w = .ok (.tuple #[tvV G vt vl, .agg #[x, y, z], touchV κ i u, u1, u2]) w := by
  have l1 := run_loadVar_cells (P := Tryz.prog) w 37 ⟨b1, 0, none⟩ (tvC G vt vl) tv_struct (tv_size.trans (congrArg some (tv_len G vt vl).symm)) (fun j u hu => by rw [Addr.add_lit, Nat.zero_add, hg.cell]; exact hu)
  have l2 := run_loadVar_cells (P := Tryz.prog) w 51 ⟨b2, 0, none⟩ [x, y, z] rp17_struct (rp17_size.trans (congrArg some rfl)) (fun j u hu => by rw [Addr.add_lit, Nat.zero_add, hp.cell]; exact hu)
  have l3 := run_loadVar_cells (P := Tryz.prog) w 53 ⟨b3, 0, none⟩ (tcT κ i u) rtt_struct (rtt_size.trans (congrArg some rfl)) (fun j u hu => by rw [Addr.add_lit, Nat.zero_add, ht.cell]; exact hu)
  have e1 : tmps[s1]?.getD undef = .pointer (some ⟨b1, 0, none⟩) := by simpa using h1
  have e2 : tmps[s2]?.getD undef = .pointer (some ⟨b2, 0, none⟩) := by simpa using h2
  have e3 : tmps[s3]?.getD undef = .pointer (some ⟨b3, 0, none⟩) := by simpa using h3
  have e4 : tmps[q1]?.getD undef = u1 := by simpa using hq1
  have e5 : tmps[q2]?.getD undef = u2 := by simpa using hq2
  simp [results, h, e1, e2, e3, e4, e5, l1, l2, l3, asAddr, tvV, touchV, tcT]
/-- What Step leaves. -/
def TStp (P Pp : Nat → Prop) (G : Tv) (V E K : List Int) (x : Tch) (done : Bool) (ans : Int) (w : World) (e : Ending) (w' : World) : Prop :=
  ∃ At nt ct Al nl cl A1 n1 c1 A2 n2 c2 A3 n3 c3, e = .returned (.tuple #[tvV G (.slice At nt ct) (.slice Al nl cl), .agg #[.slice A1 n1 c1, .slice A2 n2 c2, .slice A3 n3 c3], touchV x.1 x.2.1 x.2.2, .bool done, .int .i64 ans]) ∧ TvL w' (fun y => P y ∨ w.heap.size ≤ y) G (.slice At nt ct) (.slice Al nl cl) ∧ RPl14 w' (fun y => Pp y ∨ w.heap.size ≤ y) V E K (.slice A1 n1 c1) (.slice A2 n2 c2) (.slice A3 n3 c3) ∧ Below w.heap.size w w'
/-- Step's variables, in the midst of it. -/
structure StT (w W : World) (b1 b2 b3 b4 : Nat) (G : Tv) (vt vl : Value) (ps : List Value) : Prop where
  g : Row W w.heap.size 37 (tvC G vt vl)
  p : Row W b1 51 ps
  rg : Row W b2 37 tvZ
  rp : Row W b3 51 plZ17
  rt : Row W b4 53 (tcT 0 0 0)
  lt : w.heap.size < b1 ∧ b1 < b2 ∧ b2 < b3 ∧ b3 < b4 ∧ b4 < W.heap.size
  below : Below w.heap.size w W
theorem StT.quiet {w W W' : World} {b1 b2 b3 b4 : Nat} {G : Tv} {vt vl : Value} {ps : List Value} (h : StT w W b1 b2 b3 b4 G vt vl ps) (hb : Below W.heap.size W W') : StT w W' b1 b2 b3 b4 G vt vl ps :=
  ⟨h.g.below hb, h.p.below hb, h.rg.below hb, h.rp.below hb, h.rt.below hb, by have := h.lt; have := hb.size; omega, below_on h.below hb⟩
theorem StT.other {w W W' : World} {b1 b2 b3 b4 t : Nat} {G : Tv} {vt vl : Value} {ps : List Value} (h : StT w W b1 b2 b3 b4 G vt vl ps) (ho : Only (· = t) W W') (ht : b4 < t) : StT w W' b1 b2 b3 b4 G vt vl ps :=
  ⟨h.g.only ho (fun e => by have := h.lt; omega), h.p.only ho (fun e => by have := h.lt; omega), h.rg.only ho (fun e => by have := h.lt; omega), h.rp.only ho (fun e => by have := h.lt; omega), h.rt.only ho (fun e => by have := h.lt; omega), by have := h.lt; have := ho.size; omega, Only.below h.below ho h.below.size (fun y hy e => by have := h.lt; omega)⟩
theorem StT.plain {w W W' : World} {b1 b2 b3 b4 : Nat} {G : Tv} {vt vl : Value} {ps ps' : List Value} (h : StT w W b1 b2 b3 b4 G vt vl ps) (ho : Only (· = b1) W W') (hr : Row W' b1 51 ps') : StT w W' b1 b2 b3 b4 G vt vl ps' :=
  ⟨h.g.only ho (fun e => by have := h.lt; omega), hr, h.rg.only ho (fun e => by have := h.lt; omega), h.rp.only ho (fun e => by have := h.lt; omega), h.rt.only ho (fun e => by have := h.lt; omega), by have := h.lt; have := ho.size; omega, Only.below h.below ho h.below.size (fun y hy e => by have := h.lt; omega)⟩
theorem StT.giver {w W W' : World} {b1 b2 b3 b4 : Nat} {G G' : Tv} {vt vl vt' vl' : Value} {ps : List Value} (h : StT w W b1 b2 b3 b4 G vt vl ps) (ho : Only (· = w.heap.size) W W') (hr : Row W' w.heap.size 37 (tvC G' vt' vl')) : StT w W' b1 b2 b3 b4 G' vt' vl' ps :=
  ⟨hr, h.p.only ho (fun e => by have := h.lt; omega), h.rg.only ho (fun e => by have := h.lt; omega), h.rp.only ho (fun e => by have := h.lt; omega), h.rt.only ho (fun e => by have := h.lt; omega), by have := h.lt; have := ho.size; omega, Only.below h.below ho h.below.size (fun y hy e => by have := h.lt; omega)⟩
/-- Behind the access: the words' lists lie apart from the variables. -/
structure MidT (w W : World) (b1 b2 b3 b4 tb : Nat) (P Pp : Nat → Prop) (G : Tv) (vt vl : Value) (V E K : List Int) (x : Tch) (u1 u2 u3 : Value) : Prop where
  st : StT w W b1 b2 b3 b4 G vt vl [u1, u2, u3]
  tr : Row W tb 53 (tcT x.1 x.2.1 x.2.2)
  lt : b4 < tb
  pl : RPl14 W (fun y => (Pp y ∨ w.heap.size ≤ y) ∧ (y < w.heap.size ∨ b4 < y) ∧ y ≠ tb) V E K u1 u2 u3
  gl : TvL W (fun y => P y ∧ y < w.heap.size) G vt vl
section
variable {At Al : Option Addr} {nt ct nl cl : Nat} {A1 A2 A3 : Option Addr} {n1 c1 n2 c2 n3 c3 : Nat}
set_option maxRecDepth 100000 in
set_option maxHeartbeats 2000000 in
theorem tstep_idle (P Pp : Nat → Prop) (G : Tv) (VW EW KW : List Int) (w : World) (r : TvL w P G (.slice At nt ct) (.slice Al nl cl)) (rp : RPl14 w Pp VW EW KW (.slice A1 n1 c1) (.slice A2 n2 c2) (.slice A3 n3 c3)) (h : G.at_ = 0) :
    Calls Tryz.prog 17 #[tvV G (.slice At nt ct) (.slice Al nl cl), .agg #[.slice A1 n1 c1, .slice A2 n2 c2, .slice A3 n3 c3]] w (TStp P Pp G VW EW KW (0, 0, 0) true 13 w) := by
  have HSZ := Lib.hid (fun (H : Tv) (a b : Value) => (tv_size.trans (congrArg some (tv_len H a b).symm)))
  have HONE := Lib.hid (tv_one (At := At) (nt := nt) (ct := ct) (Al := Al) (nl := nl) (cl := cl))
  have HR := Lib.hid r
  have HP := Lib.hid rp
  have H1 := Lib.hid h
  clear r rp h
  unfold tvV
  go_enter Tryz.func17, Tryz.ntmps17
  go_wp2_with (first
    | ((with_reducible refine box_walk rfl 37 (.tmp 0) rfl (tvC G (.slice At nt ct) (.slice Al nl cl)) rfl ?_); intro w1 r1 b1 z1; have R1 := Lib.hid r1; have B1 := Lib.hid b1; have Z1 := Lib.hid z1; clear r1 b1 z1)
    | ((with_reducible refine box_walk rfl 51 (.tmp 1) rfl [.slice A1 n1 c1, .slice A2 n2 c2, .slice A3 n3 c3] rfl ?_); intro w2 r2 b2 z2; have R2 := Lib.hid r2; have B2 := Lib.hid b2; have Z2 := Lib.hid z2; clear r2 b2 z2)
    | ((with_reducible refine alloc_walk (o := ⟨some 4, _, _, _, _, _⟩) rfl 37 rfl _ tv_zero ?_); go_must (intro w3 r3 b3 z3; have R3 := Lib.hid r3; have B3 := Lib.hid b3; have Z3 := Lib.hid z3; clear r3 b3 z3))
    | ((with_reducible refine alloc_walk (o := ⟨some 5, _, _, _, _, _⟩) rfl 51 rfl _ rp17_zero ?_); go_must (intro w4 r4 b4 z4; have R4 := Lib.hid r4; have B4 := Lib.hid b4; have Z4 := Lib.hid z4; clear r4 b4 z4))
    | ((with_reducible refine alloc_walk (o := ⟨some 6, _, _, _, _, _⟩) rfl 53 rfl _ rtt_zero ?_); go_must (intro w5 r5 b5 z5; have M5 : Hid (StT w w5 w1.heap.size w2.heap.size w3.heap.size w4.heap.size G (.slice At nt ct) (.slice Al nl cl) [.slice A1 n1 c1, .slice A2 n2 c2, .slice A3 n3 c3]) := Lib.hid (by
        have e1 := Z1.out
        have e2 := Z2.out
        have e3 := Z3.out
        have e4 := Z4.out
        exact ⟨(((R1.out.below B2.out).below B3.out).below B4.out).below b5, ((R2.out.below B3.out).below B4.out).below b5, (R3.out.below B4.out).below b5, R4.out.below b5, r5, by omega, below_on (below_on (below_on (below_on B1.out B2.out) B3.out) B4.out) b5⟩); have c10 := M5.out.g.cell 10; simp only [tvC, List.getElem?_cons_zero, List.getElem?_cons_succ] at c10; rw [H1.out] at c10; clear r5 b5 z5)))
  have hM : StT w w5.drew w1.heap.size w2.heap.size w3.heap.size w4.heap.size G (.slice At nt ct) (.slice Al nl cl) [.slice A1 n1 c1, .slice A2 n2 c2, .slice A3 n3 c3] := M5.out.quiet (below_q w5 1)
  refine wp_region_held_drew (S := fun W => Row W w.heap.size 37 (tvC G (.slice At nt ct) (.slice Al nl cl)) ∧ Row W w1.heap.size 51 [.slice A1 n1 c1, .slice A2 n2 c2, .slice A3 n3 c3]) (by kernel_rfl) ⟨hM.g, hM.p⟩ (fun hHeld => ?_)
  refine wpAnyH_take (i := 0) (oi := ⟨some 15, .load 37 (.tmp 2), 37, "ref.go:242", #[], none⟩) (v := .agg (tvC G (.slice At nt ct) (.slice Al nl cl)).toArray) rfl (by kernel_rfl) (by kernel_rfl) (by kernel_rfl) (fun _ _ _ h => h) (yieldsIf_row rfl 37 (.tmp 2) rfl w.heap.size rfl (tvC G (.slice At nt ct) (.slice Al nl cl)) tv_struct (HSZ.out _ _ _) 37 (fun W h => h.1)) (by assumption) ?_
  try simp only [Act.put, List.setIfInBounds_toArray, List.set_cons_zero, List.set_cons_succ]
  refine wpAnyH_take (i := 1) (oi := ⟨some 16, .load 51 (.tmp 3), 51, "ref.go:242", #[⟨3, .gcOnly .lateStores⟩], none⟩) (v := .agg ([.slice A1 n1 c1, .slice A2 n2 c2, .slice A3 n3 c3]).toArray) rfl (by kernel_rfl) (by kernel_rfl) (by kernel_rfl) (fun _ _ _ h => h) (yieldsIf_row rfl 51 (.tmp 3) rfl w1.heap.size rfl ([.slice A1 n1 c1, .slice A2 n2 c2, .slice A3 n3 c3]) rp17_struct (rp17_size.trans (congrArg some rfl)) 51 (fun W h => h.2)) (by assumption) ?_
  try simp only [Act.put, List.setIfInBounds_toArray, List.set_cons_zero, List.set_cons_succ]
  refine' wpAnyH_take (i := 2) (oi := ⟨some 17, .build 53 #[], 53, "ref.go:242", #[⟨4, .gcOnly .lateStores⟩], none⟩) (v := _) rfl (by kernel_rfl) (by kernel_rfl) (by kernel_rfl) (fun _ _ _ h => h) (Or.inl ⟨by rfl, ?hy3⟩) (by assumption) ?rest3
  case hy3 => (intro w hSw; (try dsimp only at hSw); go_simp; try with_reducible rfl)
  try simp only [Act.put, List.setIfInBounds_toArray, List.set_cons_zero, List.set_cons_succ]
  refine wpAnyH_ready (rs := [3]) (by kernel_rfl) (by simp) ?_
  refine AllReadyH.cons (o := ⟨none, .store 37 (.tmp 4) (.tmp 15), 0, "ref.go:242", #[⟨0, .data⟩, ⟨0, .phase⟩, ⟨1, .textOnly .lateStores⟩, ⟨2, .textOnly .lateStores⟩], none⟩) rfl (fun K hK => ?_) AllReadyH.nil
  refine storeRow_step rfl 37 (.tmp 4) (.tmp 15) rfl w2.heap.size rfl (tvC G (.slice At nt ct) (.slice Al nl cl)) rfl (HSZ.out _ _ _) 37 tvZ hM.rg rfl (HONE.out _) ?_
  intro w6 rw6 ow6 zw6
  have g6 := hM.g.only ow6 (fun e => by have := hM.lt; omega)
  have p6 := hM.p.only ow6 (fun e => by have := hM.lt; omega)
  have x6 := hM.rp.only ow6 (fun e => by have := hM.lt; omega)
  have y6 := hM.rt.only ow6 (fun e => by have := hM.lt; omega)
  refine hK.out _ _ ⟨g6, p6⟩ (fun hSx => ?_)
  clear hK K
  try simp only [Act.put]
  refine wpAnyH_ready (rs := [4]) (by kernel_rfl) (by simp) ?_
  refine AllReadyH.cons (o := ⟨none, .store 51 (.tmp 5) (.tmp 16), 0, "ref.go:242", #[⟨1, .data⟩, ⟨3, .chain⟩, ⟨0, .phase⟩, ⟨1, .phase⟩, ⟨2, .textOnly .lateStores⟩, ⟨3, .phase⟩], none⟩) rfl (fun K hK => ?_) AllReadyH.nil
  refine storeRow_step rfl 51 (.tmp 5) (.tmp 16) rfl w3.heap.size rfl ([.slice A1 n1 c1, .slice A2 n2 c2, .slice A3 n3 c3]) rfl (rp17_size.trans (congrArg some rfl)) 51 plZ17 x6 rfl rp17_one ?_
  intro w7 rw7 ow7 zw7
  have g7 := g6.only ow7 (fun e => by have := hM.lt; omega)
  have p7 := p6.only ow7 (fun e => by have := hM.lt; omega)
  have x7 := rw6.only ow7 (fun e => by have := hM.lt; omega)
  have y7 := y6.only ow7 (fun e => by have := hM.lt; omega)
  refine hK.out _ _ ⟨g7, p7⟩ (fun hSx => ?_)
  clear hK K
  try simp only [Act.put]
  refine wpAnyH_ready (rs := [5]) (by kernel_rfl) (by simp) ?_
  refine AllReadyH.cons (o := ⟨none, .store 53 (.tmp 6) (.tmp 17), 0, "ref.go:242", #[⟨2, .data⟩, ⟨4, .chain⟩, ⟨0, .phase⟩, ⟨1, .phase⟩, ⟨2, .phase⟩, ⟨3, .phase⟩, ⟨4, .phase⟩], none⟩) rfl (fun K hK => ?_) AllReadyH.nil
  refine storeRow_step rfl 53 (.tmp 6) (.tmp 17) rfl w4.heap.size rfl (tcT 0 0 0) rfl (rtt_size.trans (congrArg some rfl)) 53 (tcT 0 0 0) y7 rfl (rtt_one _ _ _) ?_
  intro w8 rw8 ow8 zw8
  have g8 := g7.only ow8 (fun e => by have := hM.lt; omega)
  have p8 := p7.only ow8 (fun e => by have := hM.lt; omega)
  have x8 := x7.only ow8 (fun e => by have := hM.lt; omega)
  have z8 := rw7.only ow8 (fun e => by have := hM.lt; omega)
  refine hK.out _ _ ⟨g8, p8⟩ (fun hSx => ?_)
  clear hK K
  try simp only [Act.put]
  refine' wpAnyH_take (i := 6) (oi := ⟨some 7, .assign (.const (.bool true)), 4, "ref.go:242", #[⟨5, .chain⟩, ⟨0, .phase⟩, ⟨1, .phase⟩, ⟨2, .phase⟩, ⟨3, .phase⟩, ⟨4, .phase⟩, ⟨5, .phase⟩], none⟩) (v := _) rfl (by kernel_rfl) (by kernel_rfl) (by kernel_rfl) (fun _ _ _ h => h) (Or.inl ⟨by rfl, ?hy7⟩) (by assumption) ?rest7
  case hy7 => (intro w hSw; (try dsimp only at hSw); go_simp; try with_reducible rfl)
  try simp only [Act.put, List.setIfInBounds_toArray, List.set_cons_zero, List.set_cons_succ]
  refine' wpAnyH_take (i := 7) (oi := ⟨some 8, .assign (.const (.int .i64 13)), 3, "ref.go:242", #[⟨6, .chain⟩, ⟨0, .phase⟩, ⟨1, .phase⟩, ⟨2, .phase⟩, ⟨3, .phase⟩, ⟨4, .phase⟩, ⟨5, .phase⟩, ⟨6, .phase⟩], none⟩) (v := _) rfl (by kernel_rfl) (by kernel_rfl) (by kernel_rfl) (fun _ _ _ h => h) (Or.inl ⟨by rfl, ?hy8⟩) (by assumption) ?rest8
  case hy8 => (intro w hSw; (try dsimp only at hSw); go_simp; try with_reducible rfl)
  try simp only [Act.put, List.setIfInBounds_toArray, List.set_cons_zero, List.set_cons_succ]
  refine wpAnyH_done (by kernel_rfl) ?_ _
  have OO : Only (fun y => y = w2.heap.size ∨ y = w3.heap.size ∨ y = w4.heap.size) w5.drew w8 := ((ow6.mono (fun y _ e => .inl e)).trans (ow7.mono (fun y _ e => .inr (.inl e)))).trans (ow8.mono (fun y _ e => .inr (.inr e)))
  have BE : Below w.heap.size w w8 := Only.below hM.below OO hM.below.size (fun y hy e => by have := hM.lt; omega)
  go_wp2
  exact bodyPost_ret (tstep_results Tryz.results17 rfl rfl rfl rfl rfl x8 z8 rw8) rfl ⟨_, _, _, _, _, _, _, _, _, _, _, _, _, _, _, rfl, ⟨(HR.out.tab.below BE).weak (fun _ _ h => .inl h), (HR.out.load.below BE).weak (fun _ _ h => .inl h), HR.out.cl⟩, (HP.out.below BE).weak (fun _ _ h => .inl h), BE⟩
set_option maxRecDepth 100000 in
set_option maxHeartbeats 8000000 in
theorem tstep_more (P Pp : Nat → Prop) (G : Tv) (VW EW KW : List Int) (n : Int) (w : World) (r : TvL w P G (.slice At nt ct) (.slice Al nl cl)) (rp : RPl14 w Pp VW EW KW (.slice A1 n1 c1) (.slice A2 n2 c2) (.slice A3 n3 c3)) (q : Qk17 G) (hn0 : 0 ≤ n) (hl : VW.length ≤ 65536) (hk : KW.length ≤ 65536) (hV : ∀ x ∈ VW, 0 ≤ x ∧ x ≤ 65535) (hn : (dN14 VW EW (tchTT G).1 (tchTT G).2.1) = n) (ha : (aftTT G n).2 = -1) :
    Calls Tryz.prog 17 #[tvV G (.slice At nt ct) (.slice Al nl cl), .agg #[.slice A1 n1 c1, .slice A2 n2 c2, .slice A3 n3 c3]] w (TStp P Pp (aftTT G n).1 (dV14 VW (tchTT G).1 (tchTT G).2.1 (tchTT G).2.2) EW (dK14 KW (tchTT G).1 (tchTT G).2.1) (dX14 VW EW (tchTT G).1 (tchTT G).2.1 (tchTT G).2.2) false 0 w) := by
  have HSZ := Lib.hid (fun (H : Tv) (a b : Value) => (tv_size.trans (congrArg some (tv_len H a b).symm)))
  have HONE := Lib.hid (tv_one (At := At) (nt := nt) (ct := ct) (Al := Al) (nl := nl) (cl := cl))
  have g0 : (G.at_ == 0) = false := by have := q.at1; simp; omega
  have KT := Lib.hid (fun W (hb : Below w.heap.size w W) => ttch_any (At := At) (nt := nt) (ct := ct) (Al := Al) (nl := nl) (cl := cl) G W q.B q.R q.at1 q.head q.used)
  have KD := Lib.hid (fun W (hb : Below w.heap.size w W) => rdo14_any (P := fun y => (Pp y ∧ y < w.heap.size) ∨ W.heap.size ≤ y) (tchTT G).1 (tchTT G).2.1 (tchTT G).2.2 W hl hk hV (fun y hy => .inr hy) ((rp.weak (Q := fun y => (Pp y ∧ y < w.heap.size) ∨ W.heap.size ≤ y) (fun y hy p => .inl ⟨p, hy⟩)).below hb))
  have KA := Lib.hid (fun W (hr : TvL W (fun y => P y ∧ y < w.heap.size) G (.slice At nt ct) (.slice Al nl cl)) => taft_any (fun y => P y ∧ y < w.heap.size) G n W hr q.at1 hn0 q.len q.tab64 q.load q.i)
  rw [hn] at KD
  obtain ⟨κ, hκ⟩ : ∃ κ, (tchTT G).1 = κ := ⟨_, rfl⟩
  obtain ⟨i, hi⟩ : ∃ i, (tchTT G).2.1 = i := ⟨_, rfl⟩
  obtain ⟨u, hu⟩ : ∃ u, (tchTT G).2.2 = u := ⟨_, rfl⟩
  rw [hκ, hi, hu] at KT KD ⊢
  obtain ⟨VN, hVN⟩ : ∃ VN, dV14 VW κ i u = VN := ⟨_, rfl⟩
  obtain ⟨KN, hKN⟩ : ∃ KN, dK14 KW κ i = KN := ⟨_, rfl⟩
  rw [hVN, hKN]
  rw [hVN, hKN] at KD
  clear hVN hKN
  have HRO := Lib.hid (r.weak (Q := fun x => P x ∧ x < w.heap.size) (fun _ hg p => And.intro p hg))
  obtain ⟨a0, ha0⟩ : ∃ a0, G.at_ = a0 := ⟨_, rfl⟩
  have H1 := Lib.hid ha0
  rw [ha0] at g0
  have HA := Lib.hid ha
  rw [ha] at KA
  clear ha
  clear r rp q hl hk hV hn hn0 hκ hi hu ha0
  unfold RDo14 touchV at KD
  unfold touchV at KT
  unfold TVA tvV at KA
  unfold tvV at KT ⊢
  go_enter Tryz.func17, Tryz.ntmps17
  go_wp2_with (first
    | ((with_reducible refine box_walk rfl 37 (.tmp 0) rfl (tvC G (.slice At nt ct) (.slice Al nl cl)) rfl ?_); intro w1 r1 b1 z1; have R1 := Lib.hid r1; have B1 := Lib.hid b1; have Z1 := Lib.hid z1; clear r1 b1 z1)
    | ((with_reducible refine box_walk rfl 51 (.tmp 1) rfl [.slice A1 n1 c1, .slice A2 n2 c2, .slice A3 n3 c3] rfl ?_); intro w2 r2 b2 z2; have R2 := Lib.hid r2; have B2 := Lib.hid b2; have Z2 := Lib.hid z2; clear r2 b2 z2)
    | ((with_reducible refine alloc_walk (o := ⟨some 4, _, _, _, _, _⟩) rfl 37 rfl _ tv_zero ?_); go_must (intro w3 r3 b3 z3; have R3 := Lib.hid r3; have B3 := Lib.hid b3; have Z3 := Lib.hid z3; clear r3 b3 z3))
    | ((with_reducible refine alloc_walk (o := ⟨some 5, _, _, _, _, _⟩) rfl 51 rfl _ rp17_zero ?_); go_must (intro w4 r4 b4 z4; have R4 := Lib.hid r4; have B4 := Lib.hid b4; have Z4 := Lib.hid z4; clear r4 b4 z4))
    | ((with_reducible refine alloc_walk (o := ⟨some 6, _, _, _, _, _⟩) rfl 53 rfl _ rtt_zero ?_); go_must (intro w5 r5 b5 z5; have M5 : Hid (StT w w5 w1.heap.size w2.heap.size w3.heap.size w4.heap.size G (.slice At nt ct) (.slice Al nl cl) [.slice A1 n1 c1, .slice A2 n2 c2, .slice A3 n3 c3]) := Lib.hid (by
        have e1 := Z1.out
        have e2 := Z2.out
        have e3 := Z3.out
        have e4 := Z4.out
        exact ⟨(((R1.out.below B2.out).below B3.out).below B4.out).below b5, ((R2.out.below B3.out).below B4.out).below b5, (R3.out.below B4.out).below b5, R4.out.below b5, r5, by omega, below_on (below_on (below_on (below_on B1.out B2.out) B3.out) B4.out) b5⟩); have c10 := M5.out.g.cell 10; simp only [tvC, List.getElem?_cons_zero, List.getElem?_cons_succ] at c10; rw [H1.out] at c10; clear r5 b5 z5)))
  have hM0 : StT w w5.drew w1.heap.size w2.heap.size w3.heap.size w4.heap.size G (.slice At nt ct) (.slice Al nl cl) [.slice A1 n1 c1, .slice A2 n2 c2, .slice A3 n3 c3] := M5.out.quiet (below_q w5 1)
  refine' (fun (key : PLift (_ : Prop)) => ?main) ⟨?loop⟩
  case main =>
    have hM := hM0
    refine wp_region_held_drew (S := fun W => Row W w.heap.size 37 (tvC G (.slice At nt ct) (.slice Al nl cl))) (by kernel_rfl) hM.g (fun hHeld => ?_)
    refine wpAnyH_take (i := 1) (oi := ⟨some 20, .load 37 (.tmp 2), 37, "ref.go:244", #[], none⟩) (v := .agg (tvC G (.slice At nt ct) (.slice Al nl cl)).toArray) rfl (by kernel_rfl) (by kernel_rfl) (by kernel_rfl) (fun _ _ _ h => h) (yieldsIf_row rfl 37 (.tmp 2) rfl w.heap.size rfl (tvC G (.slice At nt ct) (.slice Al nl cl)) tv_struct (HSZ.out _ _ _) 37 (fun W h => h)) (by assumption) ?_
    try simp only [Act.put, List.setIfInBounds_toArray, List.set_cons_zero, List.set_cons_succ]
    refine wpAnyH_ready (rs := [0, 2, 8]) (by kernel_rfl) (by simp) ?_
    refine AllReadyH.cons (o := ⟨some 19, .load 51 (.tmp 3), 51, "ref.go:244", #[], none⟩) rfl (fun K hK => ?_) (AllReadyH.cons (o := ⟨some 21, .call { callee := .value (.func 39), args := #[.tmp 20], argTypes := #[37] }, 53, "ref.go:244", #[⟨1, .data⟩], none⟩) rfl (fun K hK => ?_) (AllReadyH.cons (o := ⟨some 9, .alloc 53, 0, "ref.go:244", #[], none⟩) rfl (fun K hK => ?_) AllReadyH.nil))
    · refine loadRow_step rfl 51 (.tmp 3) rfl w1.heap.size rfl [.slice A1 n1 c1, .slice A2 n2 c2, .slice A3 n3 c3] rp17_struct (rp17_size.trans (congrArg some rfl)) 51 hM.p ?_
      refine hK.out _ _ hM.g (fun hSx => ?_)
      clear hK K
      try simp only [Act.put, List.setIfInBounds_toArray, List.set_cons_zero, List.set_cons_succ]
      refine wpAnyH_ready (rs := [2, 8]) (by kernel_rfl) (by simp) ?_
      refine AllReadyH.cons (o := ⟨some 21, .call { callee := .value (.func 39), args := #[.tmp 20], argTypes := #[37] }, 53, "ref.go:244", #[⟨1, .data⟩], none⟩) rfl (fun K hK => ?_) (AllReadyH.cons (o := ⟨some 9, .alloc 53, 0, "ref.go:244", #[], none⟩) rfl (fun K hK => ?_) AllReadyH.nil)
      · go_simp
        go_at_call 39
        refine (KT.out _ hM.below).mono ?_
        rintro e wA ⟨rfl, bA⟩
        have hMA := hM.quiet bA
        clear hM
        have hM := hMA
        clear hMA
        go_wp2_with fail
        refine hK.out _ _ hM.g (fun hSx => ?_)
        clear hK K
        try simp only [Act.put, List.setIfInBounds_toArray, List.set_cons_zero, List.set_cons_succ]
        refine wpAnyH_ready (rs := [3, 8]) (by kernel_rfl) (by simp) ?_
        refine AllReadyH.cons (o := ⟨some 22, .call { callee := .value (.func 38), args := #[.tmp 19, .tmp 21], argTypes := #[51, 53] }, 90, "ref.go:244", #[⟨0, .data⟩, ⟨2, .data⟩, ⟨2, .chain⟩], none⟩) rfl (fun K hK => ?_) (AllReadyH.cons (o := ⟨some 9, .alloc 53, 0, "ref.go:244", #[], none⟩) rfl (fun K hK => ?_) AllReadyH.nil)
        · go_simp
          go_at_call 38
          refine (KD.out _ hM.below).mono ?_
          rintro e wD ⟨X1, y1, z1, X2, y2, z2, X3, y3, z3, rfl, lD, bD⟩
          have hMD := hM.quiet bD
          have hs3 := hM.lt.2.2.2.2
          have hL := lD.weak (Q := fun y => (Pp y ∨ w.heap.size ≤ y) ∧ (y < w.heap.size ∨ w4.heap.size < y)) (fun y hy p => ⟨by rcases p with p | p; exact .inl p.1; exact .inr (by have := hM.below.size; omega), by rcases p with p | p <;> omega⟩)
          clear hM lD
          have hM := hMD
          clear hMD
          go_wp2_with fail
          refine hK.out _ _ hM.g (fun hSx => ?_)
          clear hK K
          try simp only [Act.put, List.setIfInBounds_toArray, List.set_cons_zero, List.set_cons_succ]
          refine' wpAnyH_take (i := 4) (oi := ⟨some 18, .move (.tmp 22), 90, "ref.go:244", #[⟨3, .data⟩], none⟩) (v := _) rfl (by kernel_rfl) (by kernel_rfl) (by kernel_rfl) (fun _ _ _ h => h) (Or.inl ⟨by rfl, ?hy18⟩) (by assumption) ?rest18
          case hy18 => (intro w hSw; (try dsimp only at hSw); go_simp; try with_reducible rfl)
          try simp only [Act.put, List.setIfInBounds_toArray, List.set_cons_zero, List.set_cons_succ]
          refine' wpAnyH_take (i := 5) (oi := ⟨some 23, .extract (.tmp 18) 0, 51, "ref.go:244", #[⟨4, .data⟩], none⟩) (v := _) rfl (by kernel_rfl) (by kernel_rfl) (by kernel_rfl) (fun _ _ _ h => h) (Or.inl ⟨by rfl, ?hy19⟩) (by assumption) ?rest19
          case hy19 => (intro w hSw; (try dsimp only at hSw); go_simp; try with_reducible rfl)
          try simp only [Act.put, List.setIfInBounds_toArray, List.set_cons_zero, List.set_cons_succ]
          refine' wpAnyH_take (i := 6) (oi := ⟨some 24, .extract (.tmp 18) 1, 53, "ref.go:244", #[⟨4, .data⟩, ⟨9, .gcOnly .lateStores⟩], none⟩) (v := _) rfl (by kernel_rfl) (by kernel_rfl) (by kernel_rfl) (fun _ _ _ h => h) (Or.inl ⟨by rfl, ?hy20⟩) (by assumption) ?rest20
          case hy20 => (intro w hSw; (try dsimp only at hSw); go_simp; try with_reducible rfl)
          try simp only [Act.put, List.setIfInBounds_toArray, List.set_cons_zero, List.set_cons_succ]
          refine' wpAnyH_take (i := 7) (oi := ⟨some 25, .extract (.tmp 18) 2, 3, "ref.go:244", #[⟨4, .data⟩, ⟨10, .gcOnly .lateStores⟩], none⟩) (v := _) rfl (by kernel_rfl) (by kernel_rfl) (by kernel_rfl) (fun _ _ _ h => h) (Or.inl ⟨by rfl, ?hy21⟩) (by assumption) ?rest21
          case hy21 => (intro w hSw; (try dsimp only at hSw); go_simp; try with_reducible rfl)
          try simp only [Act.put, List.setIfInBounds_toArray, List.set_cons_zero, List.set_cons_succ]
          refine wpAnyH_ready (rs := [8]) (by kernel_rfl) (by simp) ?_
          refine AllReadyH.cons (o := ⟨some 9, .alloc 53, 0, "ref.go:244", #[], none⟩) rfl (fun K hK => ?_) AllReadyH.nil
          refine alloc_step rfl 53 rfl _ rtt_zero ?_
          intro wB rB bB zB
          have hMB := hM.quiet bB
          have ht4 : w4.heap.size < wD.heap.size := hM.lt.2.2.2.2
          have hLB := hL.below bB
          have hyT := hL.weak (Q := fun y => (Pp y ∨ w.heap.size ≤ y) ∧ (y < w.heap.size ∨ w4.heap.size < y) ∧ y ≠ wD.heap.size) (fun y hy p => ⟨p.1, p.2, by omega⟩)
          have hLT := hyT.below bB
          clear hL hLB hyT
          have hL := hLT
          clear hLT
          clear hM
          have hM := hMB
          clear hMB
          have hT : Row wB wD.heap.size 53 (tcT 0 0 0) := rB
          clear rB bB
          refine hK.out _ _ hM.g (fun hSx => ?_)
          clear hK K
          try simp only [Act.put, List.setIfInBounds_toArray, List.set_cons_zero, List.set_cons_succ]
          refine wpAnyH_ready (rs := [9]) (by kernel_rfl) (by simp) ?_
          refine AllReadyH.cons (o := ⟨none, .store 51 (.tmp 3) (.tmp 23), 0, "ref.go:244", #[⟨5, .data⟩, ⟨3, .chain⟩, ⟨0, .phase⟩, ⟨1, .phase⟩, ⟨2, .phase⟩, ⟨3, .phase⟩, ⟨4, .phase⟩, ⟨5, .phase⟩, ⟨6, .textOnly .lateStores⟩, ⟨7, .textOnly .lateStores⟩, ⟨8, .phase⟩], none⟩) rfl (fun K hK => ?_) AllReadyH.nil
          refine storeRow_step rfl 51 (.tmp 3) (.tmp 23) rfl w1.heap.size rfl ([.slice X1 y1 z1, .slice X2 y2 z2, .slice X3 y3 z3]) rfl (rp17_size.trans (congrArg some rfl)) 51 [.slice A1 n1 c1, .slice A2 n2 c2, .slice A3 n3 c3] hM.p rfl rp17_one ?_
          intro wE rwE owE zwE
          have hME := hM.plain owE rwE
          have hTE := hT.only owE (fun e => by have := hM.lt; omega)
          have hLE := hL.only owE (fun y e p => by have := hM.lt; omega)
          clear hM hT hL
          have hM := hME
          have hT := hTE
          have hL := hLE
          clear hME hTE hLE
          refine hK.out _ _ hM.g (fun hSx => ?_)
          clear hK K
          try simp only [Act.put]
          refine wpAnyH_ready (rs := [10]) (by kernel_rfl) (by simp) ?_
          refine AllReadyH.cons (o := ⟨none, .store 53 (.tmp 9) (.tmp 24), 0, "ref.go:244", #[⟨8, .data⟩, ⟨6, .data⟩, ⟨9, .chain⟩, ⟨0, .phase⟩, ⟨1, .phase⟩, ⟨2, .phase⟩, ⟨3, .phase⟩, ⟨4, .phase⟩, ⟨5, .phase⟩, ⟨6, .phase⟩, ⟨7, .textOnly .lateStores⟩, ⟨8, .phase⟩, ⟨9, .phase⟩], none⟩) rfl (fun K hK => ?_) AllReadyH.nil
          refine storeRow_step rfl 53 (.tmp 9) (.tmp 24) rfl wD.heap.size rfl (tcT (dX14 VW EW κ i u).1 (dX14 VW EW κ i u).2.1 (dX14 VW EW κ i u).2.2) rfl (rtt_size.trans (congrArg some rfl)) 53 (tcT 0 0 0) hT rfl (rtt_one _ _ _) ?_
          intro wF rwF owF zwF
          have hMF := hM.other owF (by omega)
          have hLF := hL.only owF (fun y e p => by omega)
          clear hM hT hL
          have hM := hMF
          have hL := hLF
          clear hMF hLF
          refine hK.out _ _ hM.g (fun hSx => ?_)
          clear hK K
          try simp only [Act.put]
          refine' wpAnyH_take (i := 11) (oi := ⟨some 10, .assign (.tmp 25), 3, "ref.go:244", #[⟨7, .data⟩, ⟨10, .chain⟩, ⟨0, .phase⟩, ⟨1, .phase⟩, ⟨2, .phase⟩, ⟨3, .phase⟩, ⟨4, .phase⟩, ⟨5, .phase⟩, ⟨6, .phase⟩, ⟨7, .phase⟩, ⟨8, .phase⟩, ⟨9, .phase⟩, ⟨10, .phase⟩], none⟩) (v := _) rfl (by kernel_rfl) (by kernel_rfl) (by kernel_rfl) (fun _ _ _ h => h) (Or.inl ⟨by rfl, ?hy25⟩) (by assumption) ?rest25
          case hy25 => (intro w hSw; (try dsimp only at hSw); go_simp; try with_reducible rfl)
          try simp only [Act.put, List.setIfInBounds_toArray, List.set_cons_zero, List.set_cons_succ]
          refine wpAnyH_done (by kernel_rfl) ?_ _
          have I : MidT w wF w1.heap.size w2.heap.size w3.heap.size w4.heap.size (wD.heap.size) P Pp G (.slice At nt ct) (.slice Al nl cl) VN EW KN (dX14 VW EW κ i u) (.slice X1 y1 z1) (.slice X2 y2 z2) (.slice X3 y3 z3) := ⟨hM, rwF, by omega, hL, HRO.out.below hM.below⟩
          clear hM hL rwE rwF owF zwF hSx
          generalize (wD.heap.size) = gT at I ⊢
          revert I
          revert gT
          revert wF X1 y1 z1 X2 y2 z2 X3 y3 z3
          exact key.down
        · refine alloc_step rfl 53 rfl _ rtt_zero ?_
          intro wB rB bB zB
          have hMB := hM.quiet bB
          have ht4 : w4.heap.size < wA.heap.size := hM.lt.2.2.2.2
          clear hM
          have hM := hMB
          clear hMB
          have hT : Row wB wA.heap.size 53 (tcT 0 0 0) := rB
          clear rB bB
          refine hK.out _ _ hM.g (fun hSx => ?_)
          clear hK K
          try simp only [Act.put, List.setIfInBounds_toArray, List.set_cons_zero, List.set_cons_succ]
          refine wpAnyH_ready (rs := [3]) (by kernel_rfl) (by simp) ?_
          refine AllReadyH.cons (o := ⟨some 22, .call { callee := .value (.func 38), args := #[.tmp 19, .tmp 21], argTypes := #[51, 53] }, 90, "ref.go:244", #[⟨0, .data⟩, ⟨2, .data⟩, ⟨2, .chain⟩], none⟩) rfl (fun K hK => ?_) AllReadyH.nil
          go_simp
          go_at_call 38
          refine (KD.out _ hM.below).mono ?_
          rintro e wD ⟨X1, y1, z1, X2, y2, z2, X3, y3, z3, rfl, lD, bD⟩
          have hMD := hM.quiet bD
          have hs3 := hM.lt.2.2.2.2
          have hTD := hT.below bD
          have hst := hT.lt
          have hL := lD.weak (Q := fun y => (Pp y ∨ w.heap.size ≤ y) ∧ (y < w.heap.size ∨ w4.heap.size < y) ∧ y ≠ wA.heap.size) (fun y hy p => ⟨by rcases p with p | p; exact .inl p.1; exact .inr (by have := hM.below.size; omega), by rcases p with p | p <;> omega, by rcases p with p | p; have := hM.below.size; have := hM.lt; omega; omega⟩)
          clear hM lD
          have hM := hMD
          clear hMD
          clear hT
          have hT := hTD
          clear hTD
          go_wp2_with fail
          refine hK.out _ _ hM.g (fun hSx => ?_)
          clear hK K
          try simp only [Act.put, List.setIfInBounds_toArray, List.set_cons_zero, List.set_cons_succ]
          refine' wpAnyH_take (i := 4) (oi := ⟨some 18, .move (.tmp 22), 90, "ref.go:244", #[⟨3, .data⟩], none⟩) (v := _) rfl (by kernel_rfl) (by kernel_rfl) (by kernel_rfl) (fun _ _ _ h => h) (Or.inl ⟨by rfl, ?hy27⟩) (by assumption) ?rest27
          case hy27 => (intro w hSw; (try dsimp only at hSw); go_simp; try with_reducible rfl)
          try simp only [Act.put, List.setIfInBounds_toArray, List.set_cons_zero, List.set_cons_succ]
          refine' wpAnyH_take (i := 5) (oi := ⟨some 23, .extract (.tmp 18) 0, 51, "ref.go:244", #[⟨4, .data⟩], none⟩) (v := _) rfl (by kernel_rfl) (by kernel_rfl) (by kernel_rfl) (fun _ _ _ h => h) (Or.inl ⟨by rfl, ?hy28⟩) (by assumption) ?rest28
          case hy28 => (intro w hSw; (try dsimp only at hSw); go_simp; try with_reducible rfl)
          try simp only [Act.put, List.setIfInBounds_toArray, List.set_cons_zero, List.set_cons_succ]
          refine' wpAnyH_take (i := 6) (oi := ⟨some 24, .extract (.tmp 18) 1, 53, "ref.go:244", #[⟨4, .data⟩, ⟨9, .gcOnly .lateStores⟩], none⟩) (v := _) rfl (by kernel_rfl) (by kernel_rfl) (by kernel_rfl) (fun _ _ _ h => h) (Or.inl ⟨by rfl, ?hy29⟩) (by assumption) ?rest29
          case hy29 => (intro w hSw; (try dsimp only at hSw); go_simp; try with_reducible rfl)
          try simp only [Act.put, List.setIfInBounds_toArray, List.set_cons_zero, List.set_cons_succ]
          refine' wpAnyH_take (i := 7) (oi := ⟨some 25, .extract (.tmp 18) 2, 3, "ref.go:244", #[⟨4, .data⟩, ⟨10, .gcOnly .lateStores⟩], none⟩) (v := _) rfl (by kernel_rfl) (by kernel_rfl) (by kernel_rfl) (fun _ _ _ h => h) (Or.inl ⟨by rfl, ?hy30⟩) (by assumption) ?rest30
          case hy30 => (intro w hSw; (try dsimp only at hSw); go_simp; try with_reducible rfl)
          try simp only [Act.put, List.setIfInBounds_toArray, List.set_cons_zero, List.set_cons_succ]
          refine wpAnyH_ready (rs := [9]) (by kernel_rfl) (by simp) ?_
          refine AllReadyH.cons (o := ⟨none, .store 51 (.tmp 3) (.tmp 23), 0, "ref.go:244", #[⟨5, .data⟩, ⟨3, .chain⟩, ⟨0, .phase⟩, ⟨1, .phase⟩, ⟨2, .phase⟩, ⟨3, .phase⟩, ⟨4, .phase⟩, ⟨5, .phase⟩, ⟨6, .textOnly .lateStores⟩, ⟨7, .textOnly .lateStores⟩, ⟨8, .phase⟩], none⟩) rfl (fun K hK => ?_) AllReadyH.nil
          refine storeRow_step rfl 51 (.tmp 3) (.tmp 23) rfl w1.heap.size rfl ([.slice X1 y1 z1, .slice X2 y2 z2, .slice X3 y3 z3]) rfl (rp17_size.trans (congrArg some rfl)) 51 [.slice A1 n1 c1, .slice A2 n2 c2, .slice A3 n3 c3] hM.p rfl rp17_one ?_
          intro wE rwE owE zwE
          have hME := hM.plain owE rwE
          have hTE := hT.only owE (fun e => by have := hM.lt; omega)
          have hLE := hL.only owE (fun y e p => by have := hM.lt; omega)
          clear hM hT hL
          have hM := hME
          have hT := hTE
          have hL := hLE
          clear hME hTE hLE
          refine hK.out _ _ hM.g (fun hSx => ?_)
          clear hK K
          try simp only [Act.put]
          refine wpAnyH_ready (rs := [10]) (by kernel_rfl) (by simp) ?_
          refine AllReadyH.cons (o := ⟨none, .store 53 (.tmp 9) (.tmp 24), 0, "ref.go:244", #[⟨8, .data⟩, ⟨6, .data⟩, ⟨9, .chain⟩, ⟨0, .phase⟩, ⟨1, .phase⟩, ⟨2, .phase⟩, ⟨3, .phase⟩, ⟨4, .phase⟩, ⟨5, .phase⟩, ⟨6, .phase⟩, ⟨7, .textOnly .lateStores⟩, ⟨8, .phase⟩, ⟨9, .phase⟩], none⟩) rfl (fun K hK => ?_) AllReadyH.nil
          refine storeRow_step rfl 53 (.tmp 9) (.tmp 24) rfl wA.heap.size rfl (tcT (dX14 VW EW κ i u).1 (dX14 VW EW κ i u).2.1 (dX14 VW EW κ i u).2.2) rfl (rtt_size.trans (congrArg some rfl)) 53 (tcT 0 0 0) hT rfl (rtt_one _ _ _) ?_
          intro wF rwF owF zwF
          have hMF := hM.other owF (by omega)
          have hLF := hL.only owF (fun y e p => by omega)
          clear hM hT hL
          have hM := hMF
          have hL := hLF
          clear hMF hLF
          refine hK.out _ _ hM.g (fun hSx => ?_)
          clear hK K
          try simp only [Act.put]
          refine' wpAnyH_take (i := 11) (oi := ⟨some 10, .assign (.tmp 25), 3, "ref.go:244", #[⟨7, .data⟩, ⟨10, .chain⟩, ⟨0, .phase⟩, ⟨1, .phase⟩, ⟨2, .phase⟩, ⟨3, .phase⟩, ⟨4, .phase⟩, ⟨5, .phase⟩, ⟨6, .phase⟩, ⟨7, .phase⟩, ⟨8, .phase⟩, ⟨9, .phase⟩, ⟨10, .phase⟩], none⟩) (v := _) rfl (by kernel_rfl) (by kernel_rfl) (by kernel_rfl) (fun _ _ _ h => h) (Or.inl ⟨by rfl, ?hy33⟩) (by assumption) ?rest33
          case hy33 => (intro w hSw; (try dsimp only at hSw); go_simp; try with_reducible rfl)
          try simp only [Act.put, List.setIfInBounds_toArray, List.set_cons_zero, List.set_cons_succ]
          refine wpAnyH_done (by kernel_rfl) ?_ _
          have I : MidT w wF w1.heap.size w2.heap.size w3.heap.size w4.heap.size (wA.heap.size) P Pp G (.slice At nt ct) (.slice Al nl cl) VN EW KN (dX14 VW EW κ i u) (.slice X1 y1 z1) (.slice X2 y2 z2) (.slice X3 y3 z3) := ⟨hM, rwF, by omega, hL, HRO.out.below hM.below⟩
          clear hM hL rwE rwF owF zwF hSx
          generalize (wA.heap.size) = gT at I ⊢
          revert I
          revert gT
          revert wF X1 y1 z1 X2 y2 z2 X3 y3 z3
          exact key.down
      · refine alloc_step rfl 53 rfl _ rtt_zero ?_
        intro wB rB bB zB
        have hMB := hM.quiet bB
        have ht4 : w4.heap.size < w5.heap.size := hM.lt.2.2.2.2
        clear hM
        have hM := hMB
        clear hMB
        have hT : Row wB w5.heap.size 53 (tcT 0 0 0) := rB
        clear rB bB
        refine hK.out _ _ hM.g (fun hSx => ?_)
        clear hK K
        try simp only [Act.put, List.setIfInBounds_toArray, List.set_cons_zero, List.set_cons_succ]
        refine wpAnyH_ready (rs := [2]) (by kernel_rfl) (by simp) ?_
        refine AllReadyH.cons (o := ⟨some 21, .call { callee := .value (.func 39), args := #[.tmp 20], argTypes := #[37] }, 53, "ref.go:244", #[⟨1, .data⟩], none⟩) rfl (fun K hK => ?_) AllReadyH.nil
        go_simp
        go_at_call 39
        refine (KT.out _ hM.below).mono ?_
        rintro e wA ⟨rfl, bA⟩
        have hMA := hM.quiet bA
        have hTA := hT.below bA
        clear hM
        have hM := hMA
        clear hMA
        clear hT
        have hT := hTA
        clear hTA
        go_wp2_with fail
        refine hK.out _ _ hM.g (fun hSx => ?_)
        clear hK K
        try simp only [Act.put, List.setIfInBounds_toArray, List.set_cons_zero, List.set_cons_succ]
        refine wpAnyH_ready (rs := [3]) (by kernel_rfl) (by simp) ?_
        refine AllReadyH.cons (o := ⟨some 22, .call { callee := .value (.func 38), args := #[.tmp 19, .tmp 21], argTypes := #[51, 53] }, 90, "ref.go:244", #[⟨0, .data⟩, ⟨2, .data⟩, ⟨2, .chain⟩], none⟩) rfl (fun K hK => ?_) AllReadyH.nil
        go_simp
        go_at_call 38
        refine (KD.out _ hM.below).mono ?_
        rintro e wD ⟨X1, y1, z1, X2, y2, z2, X3, y3, z3, rfl, lD, bD⟩
        have hMD := hM.quiet bD
        have hs3 := hM.lt.2.2.2.2
        have hTD := hT.below bD
        have hst := hT.lt
        have hL := lD.weak (Q := fun y => (Pp y ∨ w.heap.size ≤ y) ∧ (y < w.heap.size ∨ w4.heap.size < y) ∧ y ≠ w5.heap.size) (fun y hy p => ⟨by rcases p with p | p; exact .inl p.1; exact .inr (by have := hM.below.size; omega), by rcases p with p | p <;> omega, by rcases p with p | p; have := hM.below.size; have := hM.lt; omega; omega⟩)
        clear hM lD
        have hM := hMD
        clear hMD
        clear hT
        have hT := hTD
        clear hTD
        go_wp2_with fail
        refine hK.out _ _ hM.g (fun hSx => ?_)
        clear hK K
        try simp only [Act.put, List.setIfInBounds_toArray, List.set_cons_zero, List.set_cons_succ]
        refine' wpAnyH_take (i := 4) (oi := ⟨some 18, .move (.tmp 22), 90, "ref.go:244", #[⟨3, .data⟩], none⟩) (v := _) rfl (by kernel_rfl) (by kernel_rfl) (by kernel_rfl) (fun _ _ _ h => h) (Or.inl ⟨by rfl, ?hy36⟩) (by assumption) ?rest36
        case hy36 => (intro w hSw; (try dsimp only at hSw); go_simp; try with_reducible rfl)
        try simp only [Act.put, List.setIfInBounds_toArray, List.set_cons_zero, List.set_cons_succ]
        refine' wpAnyH_take (i := 5) (oi := ⟨some 23, .extract (.tmp 18) 0, 51, "ref.go:244", #[⟨4, .data⟩], none⟩) (v := _) rfl (by kernel_rfl) (by kernel_rfl) (by kernel_rfl) (fun _ _ _ h => h) (Or.inl ⟨by rfl, ?hy37⟩) (by assumption) ?rest37
        case hy37 => (intro w hSw; (try dsimp only at hSw); go_simp; try with_reducible rfl)
        try simp only [Act.put, List.setIfInBounds_toArray, List.set_cons_zero, List.set_cons_succ]
        refine' wpAnyH_take (i := 6) (oi := ⟨some 24, .extract (.tmp 18) 1, 53, "ref.go:244", #[⟨4, .data⟩, ⟨9, .gcOnly .lateStores⟩], none⟩) (v := _) rfl (by kernel_rfl) (by kernel_rfl) (by kernel_rfl) (fun _ _ _ h => h) (Or.inl ⟨by rfl, ?hy38⟩) (by assumption) ?rest38
        case hy38 => (intro w hSw; (try dsimp only at hSw); go_simp; try with_reducible rfl)
        try simp only [Act.put, List.setIfInBounds_toArray, List.set_cons_zero, List.set_cons_succ]
        refine' wpAnyH_take (i := 7) (oi := ⟨some 25, .extract (.tmp 18) 2, 3, "ref.go:244", #[⟨4, .data⟩, ⟨10, .gcOnly .lateStores⟩], none⟩) (v := _) rfl (by kernel_rfl) (by kernel_rfl) (by kernel_rfl) (fun _ _ _ h => h) (Or.inl ⟨by rfl, ?hy39⟩) (by assumption) ?rest39
        case hy39 => (intro w hSw; (try dsimp only at hSw); go_simp; try with_reducible rfl)
        try simp only [Act.put, List.setIfInBounds_toArray, List.set_cons_zero, List.set_cons_succ]
        refine wpAnyH_ready (rs := [9]) (by kernel_rfl) (by simp) ?_
        refine AllReadyH.cons (o := ⟨none, .store 51 (.tmp 3) (.tmp 23), 0, "ref.go:244", #[⟨5, .data⟩, ⟨3, .chain⟩, ⟨0, .phase⟩, ⟨1, .phase⟩, ⟨2, .phase⟩, ⟨3, .phase⟩, ⟨4, .phase⟩, ⟨5, .phase⟩, ⟨6, .textOnly .lateStores⟩, ⟨7, .textOnly .lateStores⟩, ⟨8, .phase⟩], none⟩) rfl (fun K hK => ?_) AllReadyH.nil
        refine storeRow_step rfl 51 (.tmp 3) (.tmp 23) rfl w1.heap.size rfl ([.slice X1 y1 z1, .slice X2 y2 z2, .slice X3 y3 z3]) rfl (rp17_size.trans (congrArg some rfl)) 51 [.slice A1 n1 c1, .slice A2 n2 c2, .slice A3 n3 c3] hM.p rfl rp17_one ?_
        intro wE rwE owE zwE
        have hME := hM.plain owE rwE
        have hTE := hT.only owE (fun e => by have := hM.lt; omega)
        have hLE := hL.only owE (fun y e p => by have := hM.lt; omega)
        clear hM hT hL
        have hM := hME
        have hT := hTE
        have hL := hLE
        clear hME hTE hLE
        refine hK.out _ _ hM.g (fun hSx => ?_)
        clear hK K
        try simp only [Act.put]
        refine wpAnyH_ready (rs := [10]) (by kernel_rfl) (by simp) ?_
        refine AllReadyH.cons (o := ⟨none, .store 53 (.tmp 9) (.tmp 24), 0, "ref.go:244", #[⟨8, .data⟩, ⟨6, .data⟩, ⟨9, .chain⟩, ⟨0, .phase⟩, ⟨1, .phase⟩, ⟨2, .phase⟩, ⟨3, .phase⟩, ⟨4, .phase⟩, ⟨5, .phase⟩, ⟨6, .phase⟩, ⟨7, .textOnly .lateStores⟩, ⟨8, .phase⟩, ⟨9, .phase⟩], none⟩) rfl (fun K hK => ?_) AllReadyH.nil
        refine storeRow_step rfl 53 (.tmp 9) (.tmp 24) rfl w5.heap.size rfl (tcT (dX14 VW EW κ i u).1 (dX14 VW EW κ i u).2.1 (dX14 VW EW κ i u).2.2) rfl (rtt_size.trans (congrArg some rfl)) 53 (tcT 0 0 0) hT rfl (rtt_one _ _ _) ?_
        intro wF rwF owF zwF
        have hMF := hM.other owF (by omega)
        have hLF := hL.only owF (fun y e p => by omega)
        clear hM hT hL
        have hM := hMF
        have hL := hLF
        clear hMF hLF
        refine hK.out _ _ hM.g (fun hSx => ?_)
        clear hK K
        try simp only [Act.put]
        refine' wpAnyH_take (i := 11) (oi := ⟨some 10, .assign (.tmp 25), 3, "ref.go:244", #[⟨7, .data⟩, ⟨10, .chain⟩, ⟨0, .phase⟩, ⟨1, .phase⟩, ⟨2, .phase⟩, ⟨3, .phase⟩, ⟨4, .phase⟩, ⟨5, .phase⟩, ⟨6, .phase⟩, ⟨7, .phase⟩, ⟨8, .phase⟩, ⟨9, .phase⟩, ⟨10, .phase⟩], none⟩) (v := _) rfl (by kernel_rfl) (by kernel_rfl) (by kernel_rfl) (fun _ _ _ h => h) (Or.inl ⟨by rfl, ?hy42⟩) (by assumption) ?rest42
        case hy42 => (intro w hSw; (try dsimp only at hSw); go_simp; try with_reducible rfl)
        try simp only [Act.put, List.setIfInBounds_toArray, List.set_cons_zero, List.set_cons_succ]
        refine wpAnyH_done (by kernel_rfl) ?_ _
        have I : MidT w wF w1.heap.size w2.heap.size w3.heap.size w4.heap.size (w5.heap.size) P Pp G (.slice At nt ct) (.slice Al nl cl) VN EW KN (dX14 VW EW κ i u) (.slice X1 y1 z1) (.slice X2 y2 z2) (.slice X3 y3 z3) := ⟨hM, rwF, by omega, hL, HRO.out.below hM.below⟩
        clear hM hL rwE rwF owF zwF hSx
        generalize (w5.heap.size) = gT at I ⊢
        revert I
        revert gT
        revert wF X1 y1 z1 X2 y2 z2 X3 y3 z3
        exact key.down
    · go_simp
      go_at_call 39
      refine (KT.out _ hM.below).mono ?_
      rintro e wA ⟨rfl, bA⟩
      have hMA := hM.quiet bA
      clear hM
      have hM := hMA
      clear hMA
      go_wp2_with fail
      refine hK.out _ _ hM.g (fun hSx => ?_)
      clear hK K
      try simp only [Act.put, List.setIfInBounds_toArray, List.set_cons_zero, List.set_cons_succ]
      refine wpAnyH_ready (rs := [0, 8]) (by kernel_rfl) (by simp) ?_
      refine AllReadyH.cons (o := ⟨some 19, .load 51 (.tmp 3), 51, "ref.go:244", #[], none⟩) rfl (fun K hK => ?_) (AllReadyH.cons (o := ⟨some 9, .alloc 53, 0, "ref.go:244", #[], none⟩) rfl (fun K hK => ?_) AllReadyH.nil)
      · refine loadRow_step rfl 51 (.tmp 3) rfl w1.heap.size rfl [.slice A1 n1 c1, .slice A2 n2 c2, .slice A3 n3 c3] rp17_struct (rp17_size.trans (congrArg some rfl)) 51 hM.p ?_
        refine hK.out _ _ hM.g (fun hSx => ?_)
        clear hK K
        try simp only [Act.put, List.setIfInBounds_toArray, List.set_cons_zero, List.set_cons_succ]
        refine wpAnyH_ready (rs := [3, 8]) (by kernel_rfl) (by simp) ?_
        refine AllReadyH.cons (o := ⟨some 22, .call { callee := .value (.func 38), args := #[.tmp 19, .tmp 21], argTypes := #[51, 53] }, 90, "ref.go:244", #[⟨0, .data⟩, ⟨2, .data⟩, ⟨2, .chain⟩], none⟩) rfl (fun K hK => ?_) (AllReadyH.cons (o := ⟨some 9, .alloc 53, 0, "ref.go:244", #[], none⟩) rfl (fun K hK => ?_) AllReadyH.nil)
        · go_simp
          go_at_call 38
          refine (KD.out _ hM.below).mono ?_
          rintro e wD ⟨X1, y1, z1, X2, y2, z2, X3, y3, z3, rfl, lD, bD⟩
          have hMD := hM.quiet bD
          have hs3 := hM.lt.2.2.2.2
          have hL := lD.weak (Q := fun y => (Pp y ∨ w.heap.size ≤ y) ∧ (y < w.heap.size ∨ w4.heap.size < y)) (fun y hy p => ⟨by rcases p with p | p; exact .inl p.1; exact .inr (by have := hM.below.size; omega), by rcases p with p | p <;> omega⟩)
          clear hM lD
          have hM := hMD
          clear hMD
          go_wp2_with fail
          refine hK.out _ _ hM.g (fun hSx => ?_)
          clear hK K
          try simp only [Act.put, List.setIfInBounds_toArray, List.set_cons_zero, List.set_cons_succ]
          refine' wpAnyH_take (i := 4) (oi := ⟨some 18, .move (.tmp 22), 90, "ref.go:244", #[⟨3, .data⟩], none⟩) (v := _) rfl (by kernel_rfl) (by kernel_rfl) (by kernel_rfl) (fun _ _ _ h => h) (Or.inl ⟨by rfl, ?hy47⟩) (by assumption) ?rest47
          case hy47 => (intro w hSw; (try dsimp only at hSw); go_simp; try with_reducible rfl)
          try simp only [Act.put, List.setIfInBounds_toArray, List.set_cons_zero, List.set_cons_succ]
          refine' wpAnyH_take (i := 5) (oi := ⟨some 23, .extract (.tmp 18) 0, 51, "ref.go:244", #[⟨4, .data⟩], none⟩) (v := _) rfl (by kernel_rfl) (by kernel_rfl) (by kernel_rfl) (fun _ _ _ h => h) (Or.inl ⟨by rfl, ?hy48⟩) (by assumption) ?rest48
          case hy48 => (intro w hSw; (try dsimp only at hSw); go_simp; try with_reducible rfl)
          try simp only [Act.put, List.setIfInBounds_toArray, List.set_cons_zero, List.set_cons_succ]
          refine' wpAnyH_take (i := 6) (oi := ⟨some 24, .extract (.tmp 18) 1, 53, "ref.go:244", #[⟨4, .data⟩, ⟨9, .gcOnly .lateStores⟩], none⟩) (v := _) rfl (by kernel_rfl) (by kernel_rfl) (by kernel_rfl) (fun _ _ _ h => h) (Or.inl ⟨by rfl, ?hy49⟩) (by assumption) ?rest49
          case hy49 => (intro w hSw; (try dsimp only at hSw); go_simp; try with_reducible rfl)
          try simp only [Act.put, List.setIfInBounds_toArray, List.set_cons_zero, List.set_cons_succ]
          refine' wpAnyH_take (i := 7) (oi := ⟨some 25, .extract (.tmp 18) 2, 3, "ref.go:244", #[⟨4, .data⟩, ⟨10, .gcOnly .lateStores⟩], none⟩) (v := _) rfl (by kernel_rfl) (by kernel_rfl) (by kernel_rfl) (fun _ _ _ h => h) (Or.inl ⟨by rfl, ?hy50⟩) (by assumption) ?rest50
          case hy50 => (intro w hSw; (try dsimp only at hSw); go_simp; try with_reducible rfl)
          try simp only [Act.put, List.setIfInBounds_toArray, List.set_cons_zero, List.set_cons_succ]
          refine wpAnyH_ready (rs := [8]) (by kernel_rfl) (by simp) ?_
          refine AllReadyH.cons (o := ⟨some 9, .alloc 53, 0, "ref.go:244", #[], none⟩) rfl (fun K hK => ?_) AllReadyH.nil
          refine alloc_step rfl 53 rfl _ rtt_zero ?_
          intro wB rB bB zB
          have hMB := hM.quiet bB
          have ht4 : w4.heap.size < wD.heap.size := hM.lt.2.2.2.2
          have hLB := hL.below bB
          have hyT := hL.weak (Q := fun y => (Pp y ∨ w.heap.size ≤ y) ∧ (y < w.heap.size ∨ w4.heap.size < y) ∧ y ≠ wD.heap.size) (fun y hy p => ⟨p.1, p.2, by omega⟩)
          have hLT := hyT.below bB
          clear hL hLB hyT
          have hL := hLT
          clear hLT
          clear hM
          have hM := hMB
          clear hMB
          have hT : Row wB wD.heap.size 53 (tcT 0 0 0) := rB
          clear rB bB
          refine hK.out _ _ hM.g (fun hSx => ?_)
          clear hK K
          try simp only [Act.put, List.setIfInBounds_toArray, List.set_cons_zero, List.set_cons_succ]
          refine wpAnyH_ready (rs := [9]) (by kernel_rfl) (by simp) ?_
          refine AllReadyH.cons (o := ⟨none, .store 51 (.tmp 3) (.tmp 23), 0, "ref.go:244", #[⟨5, .data⟩, ⟨3, .chain⟩, ⟨0, .phase⟩, ⟨1, .phase⟩, ⟨2, .phase⟩, ⟨3, .phase⟩, ⟨4, .phase⟩, ⟨5, .phase⟩, ⟨6, .textOnly .lateStores⟩, ⟨7, .textOnly .lateStores⟩, ⟨8, .phase⟩], none⟩) rfl (fun K hK => ?_) AllReadyH.nil
          refine storeRow_step rfl 51 (.tmp 3) (.tmp 23) rfl w1.heap.size rfl ([.slice X1 y1 z1, .slice X2 y2 z2, .slice X3 y3 z3]) rfl (rp17_size.trans (congrArg some rfl)) 51 [.slice A1 n1 c1, .slice A2 n2 c2, .slice A3 n3 c3] hM.p rfl rp17_one ?_
          intro wE rwE owE zwE
          have hME := hM.plain owE rwE
          have hTE := hT.only owE (fun e => by have := hM.lt; omega)
          have hLE := hL.only owE (fun y e p => by have := hM.lt; omega)
          clear hM hT hL
          have hM := hME
          have hT := hTE
          have hL := hLE
          clear hME hTE hLE
          refine hK.out _ _ hM.g (fun hSx => ?_)
          clear hK K
          try simp only [Act.put]
          refine wpAnyH_ready (rs := [10]) (by kernel_rfl) (by simp) ?_
          refine AllReadyH.cons (o := ⟨none, .store 53 (.tmp 9) (.tmp 24), 0, "ref.go:244", #[⟨8, .data⟩, ⟨6, .data⟩, ⟨9, .chain⟩, ⟨0, .phase⟩, ⟨1, .phase⟩, ⟨2, .phase⟩, ⟨3, .phase⟩, ⟨4, .phase⟩, ⟨5, .phase⟩, ⟨6, .phase⟩, ⟨7, .textOnly .lateStores⟩, ⟨8, .phase⟩, ⟨9, .phase⟩], none⟩) rfl (fun K hK => ?_) AllReadyH.nil
          refine storeRow_step rfl 53 (.tmp 9) (.tmp 24) rfl wD.heap.size rfl (tcT (dX14 VW EW κ i u).1 (dX14 VW EW κ i u).2.1 (dX14 VW EW κ i u).2.2) rfl (rtt_size.trans (congrArg some rfl)) 53 (tcT 0 0 0) hT rfl (rtt_one _ _ _) ?_
          intro wF rwF owF zwF
          have hMF := hM.other owF (by omega)
          have hLF := hL.only owF (fun y e p => by omega)
          clear hM hT hL
          have hM := hMF
          have hL := hLF
          clear hMF hLF
          refine hK.out _ _ hM.g (fun hSx => ?_)
          clear hK K
          try simp only [Act.put]
          refine' wpAnyH_take (i := 11) (oi := ⟨some 10, .assign (.tmp 25), 3, "ref.go:244", #[⟨7, .data⟩, ⟨10, .chain⟩, ⟨0, .phase⟩, ⟨1, .phase⟩, ⟨2, .phase⟩, ⟨3, .phase⟩, ⟨4, .phase⟩, ⟨5, .phase⟩, ⟨6, .phase⟩, ⟨7, .phase⟩, ⟨8, .phase⟩, ⟨9, .phase⟩, ⟨10, .phase⟩], none⟩) (v := _) rfl (by kernel_rfl) (by kernel_rfl) (by kernel_rfl) (fun _ _ _ h => h) (Or.inl ⟨by rfl, ?hy54⟩) (by assumption) ?rest54
          case hy54 => (intro w hSw; (try dsimp only at hSw); go_simp; try with_reducible rfl)
          try simp only [Act.put, List.setIfInBounds_toArray, List.set_cons_zero, List.set_cons_succ]
          refine wpAnyH_done (by kernel_rfl) ?_ _
          have I : MidT w wF w1.heap.size w2.heap.size w3.heap.size w4.heap.size (wD.heap.size) P Pp G (.slice At nt ct) (.slice Al nl cl) VN EW KN (dX14 VW EW κ i u) (.slice X1 y1 z1) (.slice X2 y2 z2) (.slice X3 y3 z3) := ⟨hM, rwF, by omega, hL, HRO.out.below hM.below⟩
          clear hM hL rwE rwF owF zwF hSx
          generalize (wD.heap.size) = gT at I ⊢
          revert I
          revert gT
          revert wF X1 y1 z1 X2 y2 z2 X3 y3 z3
          exact key.down
        · refine alloc_step rfl 53 rfl _ rtt_zero ?_
          intro wB rB bB zB
          have hMB := hM.quiet bB
          have ht4 : w4.heap.size < wA.heap.size := hM.lt.2.2.2.2
          clear hM
          have hM := hMB
          clear hMB
          have hT : Row wB wA.heap.size 53 (tcT 0 0 0) := rB
          clear rB bB
          refine hK.out _ _ hM.g (fun hSx => ?_)
          clear hK K
          try simp only [Act.put, List.setIfInBounds_toArray, List.set_cons_zero, List.set_cons_succ]
          refine wpAnyH_ready (rs := [3]) (by kernel_rfl) (by simp) ?_
          refine AllReadyH.cons (o := ⟨some 22, .call { callee := .value (.func 38), args := #[.tmp 19, .tmp 21], argTypes := #[51, 53] }, 90, "ref.go:244", #[⟨0, .data⟩, ⟨2, .data⟩, ⟨2, .chain⟩], none⟩) rfl (fun K hK => ?_) AllReadyH.nil
          go_simp
          go_at_call 38
          refine (KD.out _ hM.below).mono ?_
          rintro e wD ⟨X1, y1, z1, X2, y2, z2, X3, y3, z3, rfl, lD, bD⟩
          have hMD := hM.quiet bD
          have hs3 := hM.lt.2.2.2.2
          have hTD := hT.below bD
          have hst := hT.lt
          have hL := lD.weak (Q := fun y => (Pp y ∨ w.heap.size ≤ y) ∧ (y < w.heap.size ∨ w4.heap.size < y) ∧ y ≠ wA.heap.size) (fun y hy p => ⟨by rcases p with p | p; exact .inl p.1; exact .inr (by have := hM.below.size; omega), by rcases p with p | p <;> omega, by rcases p with p | p; have := hM.below.size; have := hM.lt; omega; omega⟩)
          clear hM lD
          have hM := hMD
          clear hMD
          clear hT
          have hT := hTD
          clear hTD
          go_wp2_with fail
          refine hK.out _ _ hM.g (fun hSx => ?_)
          clear hK K
          try simp only [Act.put, List.setIfInBounds_toArray, List.set_cons_zero, List.set_cons_succ]
          refine' wpAnyH_take (i := 4) (oi := ⟨some 18, .move (.tmp 22), 90, "ref.go:244", #[⟨3, .data⟩], none⟩) (v := _) rfl (by kernel_rfl) (by kernel_rfl) (by kernel_rfl) (fun _ _ _ h => h) (Or.inl ⟨by rfl, ?hy56⟩) (by assumption) ?rest56
          case hy56 => (intro w hSw; (try dsimp only at hSw); go_simp; try with_reducible rfl)
          try simp only [Act.put, List.setIfInBounds_toArray, List.set_cons_zero, List.set_cons_succ]
          refine' wpAnyH_take (i := 5) (oi := ⟨some 23, .extract (.tmp 18) 0, 51, "ref.go:244", #[⟨4, .data⟩], none⟩) (v := _) rfl (by kernel_rfl) (by kernel_rfl) (by kernel_rfl) (fun _ _ _ h => h) (Or.inl ⟨by rfl, ?hy57⟩) (by assumption) ?rest57
          case hy57 => (intro w hSw; (try dsimp only at hSw); go_simp; try with_reducible rfl)
          try simp only [Act.put, List.setIfInBounds_toArray, List.set_cons_zero, List.set_cons_succ]
          refine' wpAnyH_take (i := 6) (oi := ⟨some 24, .extract (.tmp 18) 1, 53, "ref.go:244", #[⟨4, .data⟩, ⟨9, .gcOnly .lateStores⟩], none⟩) (v := _) rfl (by kernel_rfl) (by kernel_rfl) (by kernel_rfl) (fun _ _ _ h => h) (Or.inl ⟨by rfl, ?hy58⟩) (by assumption) ?rest58
          case hy58 => (intro w hSw; (try dsimp only at hSw); go_simp; try with_reducible rfl)
          try simp only [Act.put, List.setIfInBounds_toArray, List.set_cons_zero, List.set_cons_succ]
          refine' wpAnyH_take (i := 7) (oi := ⟨some 25, .extract (.tmp 18) 2, 3, "ref.go:244", #[⟨4, .data⟩, ⟨10, .gcOnly .lateStores⟩], none⟩) (v := _) rfl (by kernel_rfl) (by kernel_rfl) (by kernel_rfl) (fun _ _ _ h => h) (Or.inl ⟨by rfl, ?hy59⟩) (by assumption) ?rest59
          case hy59 => (intro w hSw; (try dsimp only at hSw); go_simp; try with_reducible rfl)
          try simp only [Act.put, List.setIfInBounds_toArray, List.set_cons_zero, List.set_cons_succ]
          refine wpAnyH_ready (rs := [9]) (by kernel_rfl) (by simp) ?_
          refine AllReadyH.cons (o := ⟨none, .store 51 (.tmp 3) (.tmp 23), 0, "ref.go:244", #[⟨5, .data⟩, ⟨3, .chain⟩, ⟨0, .phase⟩, ⟨1, .phase⟩, ⟨2, .phase⟩, ⟨3, .phase⟩, ⟨4, .phase⟩, ⟨5, .phase⟩, ⟨6, .textOnly .lateStores⟩, ⟨7, .textOnly .lateStores⟩, ⟨8, .phase⟩], none⟩) rfl (fun K hK => ?_) AllReadyH.nil
          refine storeRow_step rfl 51 (.tmp 3) (.tmp 23) rfl w1.heap.size rfl ([.slice X1 y1 z1, .slice X2 y2 z2, .slice X3 y3 z3]) rfl (rp17_size.trans (congrArg some rfl)) 51 [.slice A1 n1 c1, .slice A2 n2 c2, .slice A3 n3 c3] hM.p rfl rp17_one ?_
          intro wE rwE owE zwE
          have hME := hM.plain owE rwE
          have hTE := hT.only owE (fun e => by have := hM.lt; omega)
          have hLE := hL.only owE (fun y e p => by have := hM.lt; omega)
          clear hM hT hL
          have hM := hME
          have hT := hTE
          have hL := hLE
          clear hME hTE hLE
          refine hK.out _ _ hM.g (fun hSx => ?_)
          clear hK K
          try simp only [Act.put]
          refine wpAnyH_ready (rs := [10]) (by kernel_rfl) (by simp) ?_
          refine AllReadyH.cons (o := ⟨none, .store 53 (.tmp 9) (.tmp 24), 0, "ref.go:244", #[⟨8, .data⟩, ⟨6, .data⟩, ⟨9, .chain⟩, ⟨0, .phase⟩, ⟨1, .phase⟩, ⟨2, .phase⟩, ⟨3, .phase⟩, ⟨4, .phase⟩, ⟨5, .phase⟩, ⟨6, .phase⟩, ⟨7, .textOnly .lateStores⟩, ⟨8, .phase⟩, ⟨9, .phase⟩], none⟩) rfl (fun K hK => ?_) AllReadyH.nil
          refine storeRow_step rfl 53 (.tmp 9) (.tmp 24) rfl wA.heap.size rfl (tcT (dX14 VW EW κ i u).1 (dX14 VW EW κ i u).2.1 (dX14 VW EW κ i u).2.2) rfl (rtt_size.trans (congrArg some rfl)) 53 (tcT 0 0 0) hT rfl (rtt_one _ _ _) ?_
          intro wF rwF owF zwF
          have hMF := hM.other owF (by omega)
          have hLF := hL.only owF (fun y e p => by omega)
          clear hM hT hL
          have hM := hMF
          have hL := hLF
          clear hMF hLF
          refine hK.out _ _ hM.g (fun hSx => ?_)
          clear hK K
          try simp only [Act.put]
          refine' wpAnyH_take (i := 11) (oi := ⟨some 10, .assign (.tmp 25), 3, "ref.go:244", #[⟨7, .data⟩, ⟨10, .chain⟩, ⟨0, .phase⟩, ⟨1, .phase⟩, ⟨2, .phase⟩, ⟨3, .phase⟩, ⟨4, .phase⟩, ⟨5, .phase⟩, ⟨6, .phase⟩, ⟨7, .phase⟩, ⟨8, .phase⟩, ⟨9, .phase⟩, ⟨10, .phase⟩], none⟩) (v := _) rfl (by kernel_rfl) (by kernel_rfl) (by kernel_rfl) (fun _ _ _ h => h) (Or.inl ⟨by rfl, ?hy62⟩) (by assumption) ?rest62
          case hy62 => (intro w hSw; (try dsimp only at hSw); go_simp; try with_reducible rfl)
          try simp only [Act.put, List.setIfInBounds_toArray, List.set_cons_zero, List.set_cons_succ]
          refine wpAnyH_done (by kernel_rfl) ?_ _
          have I : MidT w wF w1.heap.size w2.heap.size w3.heap.size w4.heap.size (wA.heap.size) P Pp G (.slice At nt ct) (.slice Al nl cl) VN EW KN (dX14 VW EW κ i u) (.slice X1 y1 z1) (.slice X2 y2 z2) (.slice X3 y3 z3) := ⟨hM, rwF, by omega, hL, HRO.out.below hM.below⟩
          clear hM hL rwE rwF owF zwF hSx
          generalize (wA.heap.size) = gT at I ⊢
          revert I
          revert gT
          revert wF X1 y1 z1 X2 y2 z2 X3 y3 z3
          exact key.down
      · refine alloc_step rfl 53 rfl _ rtt_zero ?_
        intro wB rB bB zB
        have hMB := hM.quiet bB
        have ht4 : w4.heap.size < wA.heap.size := hM.lt.2.2.2.2
        clear hM
        have hM := hMB
        clear hMB
        have hT : Row wB wA.heap.size 53 (tcT 0 0 0) := rB
        clear rB bB
        refine hK.out _ _ hM.g (fun hSx => ?_)
        clear hK K
        try simp only [Act.put, List.setIfInBounds_toArray, List.set_cons_zero, List.set_cons_succ]
        refine wpAnyH_ready (rs := [0]) (by kernel_rfl) (by simp) ?_
        refine AllReadyH.cons (o := ⟨some 19, .load 51 (.tmp 3), 51, "ref.go:244", #[], none⟩) rfl (fun K hK => ?_) AllReadyH.nil
        refine loadRow_step rfl 51 (.tmp 3) rfl w1.heap.size rfl [.slice A1 n1 c1, .slice A2 n2 c2, .slice A3 n3 c3] rp17_struct (rp17_size.trans (congrArg some rfl)) 51 hM.p ?_
        refine hK.out _ _ hM.g (fun hSx => ?_)
        clear hK K
        try simp only [Act.put, List.setIfInBounds_toArray, List.set_cons_zero, List.set_cons_succ]
        refine wpAnyH_ready (rs := [3]) (by kernel_rfl) (by simp) ?_
        refine AllReadyH.cons (o := ⟨some 22, .call { callee := .value (.func 38), args := #[.tmp 19, .tmp 21], argTypes := #[51, 53] }, 90, "ref.go:244", #[⟨0, .data⟩, ⟨2, .data⟩, ⟨2, .chain⟩], none⟩) rfl (fun K hK => ?_) AllReadyH.nil
        go_simp
        go_at_call 38
        refine (KD.out _ hM.below).mono ?_
        rintro e wD ⟨X1, y1, z1, X2, y2, z2, X3, y3, z3, rfl, lD, bD⟩
        have hMD := hM.quiet bD
        have hs3 := hM.lt.2.2.2.2
        have hTD := hT.below bD
        have hst := hT.lt
        have hL := lD.weak (Q := fun y => (Pp y ∨ w.heap.size ≤ y) ∧ (y < w.heap.size ∨ w4.heap.size < y) ∧ y ≠ wA.heap.size) (fun y hy p => ⟨by rcases p with p | p; exact .inl p.1; exact .inr (by have := hM.below.size; omega), by rcases p with p | p <;> omega, by rcases p with p | p; have := hM.below.size; have := hM.lt; omega; omega⟩)
        clear hM lD
        have hM := hMD
        clear hMD
        clear hT
        have hT := hTD
        clear hTD
        go_wp2_with fail
        refine hK.out _ _ hM.g (fun hSx => ?_)
        clear hK K
        try simp only [Act.put, List.setIfInBounds_toArray, List.set_cons_zero, List.set_cons_succ]
        refine' wpAnyH_take (i := 4) (oi := ⟨some 18, .move (.tmp 22), 90, "ref.go:244", #[⟨3, .data⟩], none⟩) (v := _) rfl (by kernel_rfl) (by kernel_rfl) (by kernel_rfl) (fun _ _ _ h => h) (Or.inl ⟨by rfl, ?hy65⟩) (by assumption) ?rest65
        case hy65 => (intro w hSw; (try dsimp only at hSw); go_simp; try with_reducible rfl)
        try simp only [Act.put, List.setIfInBounds_toArray, List.set_cons_zero, List.set_cons_succ]
        refine' wpAnyH_take (i := 5) (oi := ⟨some 23, .extract (.tmp 18) 0, 51, "ref.go:244", #[⟨4, .data⟩], none⟩) (v := _) rfl (by kernel_rfl) (by kernel_rfl) (by kernel_rfl) (fun _ _ _ h => h) (Or.inl ⟨by rfl, ?hy66⟩) (by assumption) ?rest66
        case hy66 => (intro w hSw; (try dsimp only at hSw); go_simp; try with_reducible rfl)
        try simp only [Act.put, List.setIfInBounds_toArray, List.set_cons_zero, List.set_cons_succ]
        refine' wpAnyH_take (i := 6) (oi := ⟨some 24, .extract (.tmp 18) 1, 53, "ref.go:244", #[⟨4, .data⟩, ⟨9, .gcOnly .lateStores⟩], none⟩) (v := _) rfl (by kernel_rfl) (by kernel_rfl) (by kernel_rfl) (fun _ _ _ h => h) (Or.inl ⟨by rfl, ?hy67⟩) (by assumption) ?rest67
        case hy67 => (intro w hSw; (try dsimp only at hSw); go_simp; try with_reducible rfl)
        try simp only [Act.put, List.setIfInBounds_toArray, List.set_cons_zero, List.set_cons_succ]
        refine' wpAnyH_take (i := 7) (oi := ⟨some 25, .extract (.tmp 18) 2, 3, "ref.go:244", #[⟨4, .data⟩, ⟨10, .gcOnly .lateStores⟩], none⟩) (v := _) rfl (by kernel_rfl) (by kernel_rfl) (by kernel_rfl) (fun _ _ _ h => h) (Or.inl ⟨by rfl, ?hy68⟩) (by assumption) ?rest68
        case hy68 => (intro w hSw; (try dsimp only at hSw); go_simp; try with_reducible rfl)
        try simp only [Act.put, List.setIfInBounds_toArray, List.set_cons_zero, List.set_cons_succ]
        refine wpAnyH_ready (rs := [9]) (by kernel_rfl) (by simp) ?_
        refine AllReadyH.cons (o := ⟨none, .store 51 (.tmp 3) (.tmp 23), 0, "ref.go:244", #[⟨5, .data⟩, ⟨3, .chain⟩, ⟨0, .phase⟩, ⟨1, .phase⟩, ⟨2, .phase⟩, ⟨3, .phase⟩, ⟨4, .phase⟩, ⟨5, .phase⟩, ⟨6, .textOnly .lateStores⟩, ⟨7, .textOnly .lateStores⟩, ⟨8, .phase⟩], none⟩) rfl (fun K hK => ?_) AllReadyH.nil
        refine storeRow_step rfl 51 (.tmp 3) (.tmp 23) rfl w1.heap.size rfl ([.slice X1 y1 z1, .slice X2 y2 z2, .slice X3 y3 z3]) rfl (rp17_size.trans (congrArg some rfl)) 51 [.slice A1 n1 c1, .slice A2 n2 c2, .slice A3 n3 c3] hM.p rfl rp17_one ?_
        intro wE rwE owE zwE
        have hME := hM.plain owE rwE
        have hTE := hT.only owE (fun e => by have := hM.lt; omega)
        have hLE := hL.only owE (fun y e p => by have := hM.lt; omega)
        clear hM hT hL
        have hM := hME
        have hT := hTE
        have hL := hLE
        clear hME hTE hLE
        refine hK.out _ _ hM.g (fun hSx => ?_)
        clear hK K
        try simp only [Act.put]
        refine wpAnyH_ready (rs := [10]) (by kernel_rfl) (by simp) ?_
        refine AllReadyH.cons (o := ⟨none, .store 53 (.tmp 9) (.tmp 24), 0, "ref.go:244", #[⟨8, .data⟩, ⟨6, .data⟩, ⟨9, .chain⟩, ⟨0, .phase⟩, ⟨1, .phase⟩, ⟨2, .phase⟩, ⟨3, .phase⟩, ⟨4, .phase⟩, ⟨5, .phase⟩, ⟨6, .phase⟩, ⟨7, .textOnly .lateStores⟩, ⟨8, .phase⟩, ⟨9, .phase⟩], none⟩) rfl (fun K hK => ?_) AllReadyH.nil
        refine storeRow_step rfl 53 (.tmp 9) (.tmp 24) rfl wA.heap.size rfl (tcT (dX14 VW EW κ i u).1 (dX14 VW EW κ i u).2.1 (dX14 VW EW κ i u).2.2) rfl (rtt_size.trans (congrArg some rfl)) 53 (tcT 0 0 0) hT rfl (rtt_one _ _ _) ?_
        intro wF rwF owF zwF
        have hMF := hM.other owF (by omega)
        have hLF := hL.only owF (fun y e p => by omega)
        clear hM hT hL
        have hM := hMF
        have hL := hLF
        clear hMF hLF
        refine hK.out _ _ hM.g (fun hSx => ?_)
        clear hK K
        try simp only [Act.put]
        refine' wpAnyH_take (i := 11) (oi := ⟨some 10, .assign (.tmp 25), 3, "ref.go:244", #[⟨7, .data⟩, ⟨10, .chain⟩, ⟨0, .phase⟩, ⟨1, .phase⟩, ⟨2, .phase⟩, ⟨3, .phase⟩, ⟨4, .phase⟩, ⟨5, .phase⟩, ⟨6, .phase⟩, ⟨7, .phase⟩, ⟨8, .phase⟩, ⟨9, .phase⟩, ⟨10, .phase⟩], none⟩) (v := _) rfl (by kernel_rfl) (by kernel_rfl) (by kernel_rfl) (fun _ _ _ h => h) (Or.inl ⟨by rfl, ?hy71⟩) (by assumption) ?rest71
        case hy71 => (intro w hSw; (try dsimp only at hSw); go_simp; try with_reducible rfl)
        try simp only [Act.put, List.setIfInBounds_toArray, List.set_cons_zero, List.set_cons_succ]
        refine wpAnyH_done (by kernel_rfl) ?_ _
        have I : MidT w wF w1.heap.size w2.heap.size w3.heap.size w4.heap.size (wA.heap.size) P Pp G (.slice At nt ct) (.slice Al nl cl) VN EW KN (dX14 VW EW κ i u) (.slice X1 y1 z1) (.slice X2 y2 z2) (.slice X3 y3 z3) := ⟨hM, rwF, by omega, hL, HRO.out.below hM.below⟩
        clear hM hL rwE rwF owF zwF hSx
        generalize (wA.heap.size) = gT at I ⊢
        revert I
        revert gT
        revert wF X1 y1 z1 X2 y2 z2 X3 y3 z3
        exact key.down
    · refine alloc_step rfl 53 rfl _ rtt_zero ?_
      intro wB rB bB zB
      have hMB := hM.quiet bB
      have ht4 : w4.heap.size < w5.heap.size := hM.lt.2.2.2.2
      clear hM
      have hM := hMB
      clear hMB
      have hT : Row wB w5.heap.size 53 (tcT 0 0 0) := rB
      clear rB bB
      refine hK.out _ _ hM.g (fun hSx => ?_)
      clear hK K
      try simp only [Act.put, List.setIfInBounds_toArray, List.set_cons_zero, List.set_cons_succ]
      refine wpAnyH_ready (rs := [0, 2]) (by kernel_rfl) (by simp) ?_
      refine AllReadyH.cons (o := ⟨some 19, .load 51 (.tmp 3), 51, "ref.go:244", #[], none⟩) rfl (fun K hK => ?_) (AllReadyH.cons (o := ⟨some 21, .call { callee := .value (.func 39), args := #[.tmp 20], argTypes := #[37] }, 53, "ref.go:244", #[⟨1, .data⟩], none⟩) rfl (fun K hK => ?_) AllReadyH.nil)
      · refine loadRow_step rfl 51 (.tmp 3) rfl w1.heap.size rfl [.slice A1 n1 c1, .slice A2 n2 c2, .slice A3 n3 c3] rp17_struct (rp17_size.trans (congrArg some rfl)) 51 hM.p ?_
        refine hK.out _ _ hM.g (fun hSx => ?_)
        clear hK K
        try simp only [Act.put, List.setIfInBounds_toArray, List.set_cons_zero, List.set_cons_succ]
        refine wpAnyH_ready (rs := [2]) (by kernel_rfl) (by simp) ?_
        refine AllReadyH.cons (o := ⟨some 21, .call { callee := .value (.func 39), args := #[.tmp 20], argTypes := #[37] }, 53, "ref.go:244", #[⟨1, .data⟩], none⟩) rfl (fun K hK => ?_) AllReadyH.nil
        go_simp
        go_at_call 39
        refine (KT.out _ hM.below).mono ?_
        rintro e wA ⟨rfl, bA⟩
        have hMA := hM.quiet bA
        have hTA := hT.below bA
        clear hM
        have hM := hMA
        clear hMA
        clear hT
        have hT := hTA
        clear hTA
        go_wp2_with fail
        refine hK.out _ _ hM.g (fun hSx => ?_)
        clear hK K
        try simp only [Act.put, List.setIfInBounds_toArray, List.set_cons_zero, List.set_cons_succ]
        refine wpAnyH_ready (rs := [3]) (by kernel_rfl) (by simp) ?_
        refine AllReadyH.cons (o := ⟨some 22, .call { callee := .value (.func 38), args := #[.tmp 19, .tmp 21], argTypes := #[51, 53] }, 90, "ref.go:244", #[⟨0, .data⟩, ⟨2, .data⟩, ⟨2, .chain⟩], none⟩) rfl (fun K hK => ?_) AllReadyH.nil
        go_simp
        go_at_call 38
        refine (KD.out _ hM.below).mono ?_
        rintro e wD ⟨X1, y1, z1, X2, y2, z2, X3, y3, z3, rfl, lD, bD⟩
        have hMD := hM.quiet bD
        have hs3 := hM.lt.2.2.2.2
        have hTD := hT.below bD
        have hst := hT.lt
        have hL := lD.weak (Q := fun y => (Pp y ∨ w.heap.size ≤ y) ∧ (y < w.heap.size ∨ w4.heap.size < y) ∧ y ≠ w5.heap.size) (fun y hy p => ⟨by rcases p with p | p; exact .inl p.1; exact .inr (by have := hM.below.size; omega), by rcases p with p | p <;> omega, by rcases p with p | p; have := hM.below.size; have := hM.lt; omega; omega⟩)
        clear hM lD
        have hM := hMD
        clear hMD
        clear hT
        have hT := hTD
        clear hTD
        go_wp2_with fail
        refine hK.out _ _ hM.g (fun hSx => ?_)
        clear hK K
        try simp only [Act.put, List.setIfInBounds_toArray, List.set_cons_zero, List.set_cons_succ]
        refine' wpAnyH_take (i := 4) (oi := ⟨some 18, .move (.tmp 22), 90, "ref.go:244", #[⟨3, .data⟩], none⟩) (v := _) rfl (by kernel_rfl) (by kernel_rfl) (by kernel_rfl) (fun _ _ _ h => h) (Or.inl ⟨by rfl, ?hy76⟩) (by assumption) ?rest76
        case hy76 => (intro w hSw; (try dsimp only at hSw); go_simp; try with_reducible rfl)
        try simp only [Act.put, List.setIfInBounds_toArray, List.set_cons_zero, List.set_cons_succ]
        refine' wpAnyH_take (i := 5) (oi := ⟨some 23, .extract (.tmp 18) 0, 51, "ref.go:244", #[⟨4, .data⟩], none⟩) (v := _) rfl (by kernel_rfl) (by kernel_rfl) (by kernel_rfl) (fun _ _ _ h => h) (Or.inl ⟨by rfl, ?hy77⟩) (by assumption) ?rest77
        case hy77 => (intro w hSw; (try dsimp only at hSw); go_simp; try with_reducible rfl)
        try simp only [Act.put, List.setIfInBounds_toArray, List.set_cons_zero, List.set_cons_succ]
        refine' wpAnyH_take (i := 6) (oi := ⟨some 24, .extract (.tmp 18) 1, 53, "ref.go:244", #[⟨4, .data⟩, ⟨9, .gcOnly .lateStores⟩], none⟩) (v := _) rfl (by kernel_rfl) (by kernel_rfl) (by kernel_rfl) (fun _ _ _ h => h) (Or.inl ⟨by rfl, ?hy78⟩) (by assumption) ?rest78
        case hy78 => (intro w hSw; (try dsimp only at hSw); go_simp; try with_reducible rfl)
        try simp only [Act.put, List.setIfInBounds_toArray, List.set_cons_zero, List.set_cons_succ]
        refine' wpAnyH_take (i := 7) (oi := ⟨some 25, .extract (.tmp 18) 2, 3, "ref.go:244", #[⟨4, .data⟩, ⟨10, .gcOnly .lateStores⟩], none⟩) (v := _) rfl (by kernel_rfl) (by kernel_rfl) (by kernel_rfl) (fun _ _ _ h => h) (Or.inl ⟨by rfl, ?hy79⟩) (by assumption) ?rest79
        case hy79 => (intro w hSw; (try dsimp only at hSw); go_simp; try with_reducible rfl)
        try simp only [Act.put, List.setIfInBounds_toArray, List.set_cons_zero, List.set_cons_succ]
        refine wpAnyH_ready (rs := [9]) (by kernel_rfl) (by simp) ?_
        refine AllReadyH.cons (o := ⟨none, .store 51 (.tmp 3) (.tmp 23), 0, "ref.go:244", #[⟨5, .data⟩, ⟨3, .chain⟩, ⟨0, .phase⟩, ⟨1, .phase⟩, ⟨2, .phase⟩, ⟨3, .phase⟩, ⟨4, .phase⟩, ⟨5, .phase⟩, ⟨6, .textOnly .lateStores⟩, ⟨7, .textOnly .lateStores⟩, ⟨8, .phase⟩], none⟩) rfl (fun K hK => ?_) AllReadyH.nil
        refine storeRow_step rfl 51 (.tmp 3) (.tmp 23) rfl w1.heap.size rfl ([.slice X1 y1 z1, .slice X2 y2 z2, .slice X3 y3 z3]) rfl (rp17_size.trans (congrArg some rfl)) 51 [.slice A1 n1 c1, .slice A2 n2 c2, .slice A3 n3 c3] hM.p rfl rp17_one ?_
        intro wE rwE owE zwE
        have hME := hM.plain owE rwE
        have hTE := hT.only owE (fun e => by have := hM.lt; omega)
        have hLE := hL.only owE (fun y e p => by have := hM.lt; omega)
        clear hM hT hL
        have hM := hME
        have hT := hTE
        have hL := hLE
        clear hME hTE hLE
        refine hK.out _ _ hM.g (fun hSx => ?_)
        clear hK K
        try simp only [Act.put]
        refine wpAnyH_ready (rs := [10]) (by kernel_rfl) (by simp) ?_
        refine AllReadyH.cons (o := ⟨none, .store 53 (.tmp 9) (.tmp 24), 0, "ref.go:244", #[⟨8, .data⟩, ⟨6, .data⟩, ⟨9, .chain⟩, ⟨0, .phase⟩, ⟨1, .phase⟩, ⟨2, .phase⟩, ⟨3, .phase⟩, ⟨4, .phase⟩, ⟨5, .phase⟩, ⟨6, .phase⟩, ⟨7, .textOnly .lateStores⟩, ⟨8, .phase⟩, ⟨9, .phase⟩], none⟩) rfl (fun K hK => ?_) AllReadyH.nil
        refine storeRow_step rfl 53 (.tmp 9) (.tmp 24) rfl w5.heap.size rfl (tcT (dX14 VW EW κ i u).1 (dX14 VW EW κ i u).2.1 (dX14 VW EW κ i u).2.2) rfl (rtt_size.trans (congrArg some rfl)) 53 (tcT 0 0 0) hT rfl (rtt_one _ _ _) ?_
        intro wF rwF owF zwF
        have hMF := hM.other owF (by omega)
        have hLF := hL.only owF (fun y e p => by omega)
        clear hM hT hL
        have hM := hMF
        have hL := hLF
        clear hMF hLF
        refine hK.out _ _ hM.g (fun hSx => ?_)
        clear hK K
        try simp only [Act.put]
        refine' wpAnyH_take (i := 11) (oi := ⟨some 10, .assign (.tmp 25), 3, "ref.go:244", #[⟨7, .data⟩, ⟨10, .chain⟩, ⟨0, .phase⟩, ⟨1, .phase⟩, ⟨2, .phase⟩, ⟨3, .phase⟩, ⟨4, .phase⟩, ⟨5, .phase⟩, ⟨6, .phase⟩, ⟨7, .phase⟩, ⟨8, .phase⟩, ⟨9, .phase⟩, ⟨10, .phase⟩], none⟩) (v := _) rfl (by kernel_rfl) (by kernel_rfl) (by kernel_rfl) (fun _ _ _ h => h) (Or.inl ⟨by rfl, ?hy82⟩) (by assumption) ?rest82
        case hy82 => (intro w hSw; (try dsimp only at hSw); go_simp; try with_reducible rfl)
        try simp only [Act.put, List.setIfInBounds_toArray, List.set_cons_zero, List.set_cons_succ]
        refine wpAnyH_done (by kernel_rfl) ?_ _
        have I : MidT w wF w1.heap.size w2.heap.size w3.heap.size w4.heap.size (w5.heap.size) P Pp G (.slice At nt ct) (.slice Al nl cl) VN EW KN (dX14 VW EW κ i u) (.slice X1 y1 z1) (.slice X2 y2 z2) (.slice X3 y3 z3) := ⟨hM, rwF, by omega, hL, HRO.out.below hM.below⟩
        clear hM hL rwE rwF owF zwF hSx
        generalize (w5.heap.size) = gT at I ⊢
        revert I
        revert gT
        revert wF X1 y1 z1 X2 y2 z2 X3 y3 z3
        exact key.down
      · go_simp
        go_at_call 39
        refine (KT.out _ hM.below).mono ?_
        rintro e wA ⟨rfl, bA⟩
        have hMA := hM.quiet bA
        have hTA := hT.below bA
        clear hM
        have hM := hMA
        clear hMA
        clear hT
        have hT := hTA
        clear hTA
        go_wp2_with fail
        refine hK.out _ _ hM.g (fun hSx => ?_)
        clear hK K
        try simp only [Act.put, List.setIfInBounds_toArray, List.set_cons_zero, List.set_cons_succ]
        refine wpAnyH_ready (rs := [0]) (by kernel_rfl) (by simp) ?_
        refine AllReadyH.cons (o := ⟨some 19, .load 51 (.tmp 3), 51, "ref.go:244", #[], none⟩) rfl (fun K hK => ?_) AllReadyH.nil
        refine loadRow_step rfl 51 (.tmp 3) rfl w1.heap.size rfl [.slice A1 n1 c1, .slice A2 n2 c2, .slice A3 n3 c3] rp17_struct (rp17_size.trans (congrArg some rfl)) 51 hM.p ?_
        refine hK.out _ _ hM.g (fun hSx => ?_)
        clear hK K
        try simp only [Act.put, List.setIfInBounds_toArray, List.set_cons_zero, List.set_cons_succ]
        refine wpAnyH_ready (rs := [3]) (by kernel_rfl) (by simp) ?_
        refine AllReadyH.cons (o := ⟨some 22, .call { callee := .value (.func 38), args := #[.tmp 19, .tmp 21], argTypes := #[51, 53] }, 90, "ref.go:244", #[⟨0, .data⟩, ⟨2, .data⟩, ⟨2, .chain⟩], none⟩) rfl (fun K hK => ?_) AllReadyH.nil
        go_simp
        go_at_call 38
        refine (KD.out _ hM.below).mono ?_
        rintro e wD ⟨X1, y1, z1, X2, y2, z2, X3, y3, z3, rfl, lD, bD⟩
        have hMD := hM.quiet bD
        have hs3 := hM.lt.2.2.2.2
        have hTD := hT.below bD
        have hst := hT.lt
        have hL := lD.weak (Q := fun y => (Pp y ∨ w.heap.size ≤ y) ∧ (y < w.heap.size ∨ w4.heap.size < y) ∧ y ≠ w5.heap.size) (fun y hy p => ⟨by rcases p with p | p; exact .inl p.1; exact .inr (by have := hM.below.size; omega), by rcases p with p | p <;> omega, by rcases p with p | p; have := hM.below.size; have := hM.lt; omega; omega⟩)
        clear hM lD
        have hM := hMD
        clear hMD
        clear hT
        have hT := hTD
        clear hTD
        go_wp2_with fail
        refine hK.out _ _ hM.g (fun hSx => ?_)
        clear hK K
        try simp only [Act.put, List.setIfInBounds_toArray, List.set_cons_zero, List.set_cons_succ]
        refine' wpAnyH_take (i := 4) (oi := ⟨some 18, .move (.tmp 22), 90, "ref.go:244", #[⟨3, .data⟩], none⟩) (v := _) rfl (by kernel_rfl) (by kernel_rfl) (by kernel_rfl) (fun _ _ _ h => h) (Or.inl ⟨by rfl, ?hy85⟩) (by assumption) ?rest85
        case hy85 => (intro w hSw; (try dsimp only at hSw); go_simp; try with_reducible rfl)
        try simp only [Act.put, List.setIfInBounds_toArray, List.set_cons_zero, List.set_cons_succ]
        refine' wpAnyH_take (i := 5) (oi := ⟨some 23, .extract (.tmp 18) 0, 51, "ref.go:244", #[⟨4, .data⟩], none⟩) (v := _) rfl (by kernel_rfl) (by kernel_rfl) (by kernel_rfl) (fun _ _ _ h => h) (Or.inl ⟨by rfl, ?hy86⟩) (by assumption) ?rest86
        case hy86 => (intro w hSw; (try dsimp only at hSw); go_simp; try with_reducible rfl)
        try simp only [Act.put, List.setIfInBounds_toArray, List.set_cons_zero, List.set_cons_succ]
        refine' wpAnyH_take (i := 6) (oi := ⟨some 24, .extract (.tmp 18) 1, 53, "ref.go:244", #[⟨4, .data⟩, ⟨9, .gcOnly .lateStores⟩], none⟩) (v := _) rfl (by kernel_rfl) (by kernel_rfl) (by kernel_rfl) (fun _ _ _ h => h) (Or.inl ⟨by rfl, ?hy87⟩) (by assumption) ?rest87
        case hy87 => (intro w hSw; (try dsimp only at hSw); go_simp; try with_reducible rfl)
        try simp only [Act.put, List.setIfInBounds_toArray, List.set_cons_zero, List.set_cons_succ]
        refine' wpAnyH_take (i := 7) (oi := ⟨some 25, .extract (.tmp 18) 2, 3, "ref.go:244", #[⟨4, .data⟩, ⟨10, .gcOnly .lateStores⟩], none⟩) (v := _) rfl (by kernel_rfl) (by kernel_rfl) (by kernel_rfl) (fun _ _ _ h => h) (Or.inl ⟨by rfl, ?hy88⟩) (by assumption) ?rest88
        case hy88 => (intro w hSw; (try dsimp only at hSw); go_simp; try with_reducible rfl)
        try simp only [Act.put, List.setIfInBounds_toArray, List.set_cons_zero, List.set_cons_succ]
        refine wpAnyH_ready (rs := [9]) (by kernel_rfl) (by simp) ?_
        refine AllReadyH.cons (o := ⟨none, .store 51 (.tmp 3) (.tmp 23), 0, "ref.go:244", #[⟨5, .data⟩, ⟨3, .chain⟩, ⟨0, .phase⟩, ⟨1, .phase⟩, ⟨2, .phase⟩, ⟨3, .phase⟩, ⟨4, .phase⟩, ⟨5, .phase⟩, ⟨6, .textOnly .lateStores⟩, ⟨7, .textOnly .lateStores⟩, ⟨8, .phase⟩], none⟩) rfl (fun K hK => ?_) AllReadyH.nil
        refine storeRow_step rfl 51 (.tmp 3) (.tmp 23) rfl w1.heap.size rfl ([.slice X1 y1 z1, .slice X2 y2 z2, .slice X3 y3 z3]) rfl (rp17_size.trans (congrArg some rfl)) 51 [.slice A1 n1 c1, .slice A2 n2 c2, .slice A3 n3 c3] hM.p rfl rp17_one ?_
        intro wE rwE owE zwE
        have hME := hM.plain owE rwE
        have hTE := hT.only owE (fun e => by have := hM.lt; omega)
        have hLE := hL.only owE (fun y e p => by have := hM.lt; omega)
        clear hM hT hL
        have hM := hME
        have hT := hTE
        have hL := hLE
        clear hME hTE hLE
        refine hK.out _ _ hM.g (fun hSx => ?_)
        clear hK K
        try simp only [Act.put]
        refine wpAnyH_ready (rs := [10]) (by kernel_rfl) (by simp) ?_
        refine AllReadyH.cons (o := ⟨none, .store 53 (.tmp 9) (.tmp 24), 0, "ref.go:244", #[⟨8, .data⟩, ⟨6, .data⟩, ⟨9, .chain⟩, ⟨0, .phase⟩, ⟨1, .phase⟩, ⟨2, .phase⟩, ⟨3, .phase⟩, ⟨4, .phase⟩, ⟨5, .phase⟩, ⟨6, .phase⟩, ⟨7, .textOnly .lateStores⟩, ⟨8, .phase⟩, ⟨9, .phase⟩], none⟩) rfl (fun K hK => ?_) AllReadyH.nil
        refine storeRow_step rfl 53 (.tmp 9) (.tmp 24) rfl w5.heap.size rfl (tcT (dX14 VW EW κ i u).1 (dX14 VW EW κ i u).2.1 (dX14 VW EW κ i u).2.2) rfl (rtt_size.trans (congrArg some rfl)) 53 (tcT 0 0 0) hT rfl (rtt_one _ _ _) ?_
        intro wF rwF owF zwF
        have hMF := hM.other owF (by omega)
        have hLF := hL.only owF (fun y e p => by omega)
        clear hM hT hL
        have hM := hMF
        have hL := hLF
        clear hMF hLF
        refine hK.out _ _ hM.g (fun hSx => ?_)
        clear hK K
        try simp only [Act.put]
        refine' wpAnyH_take (i := 11) (oi := ⟨some 10, .assign (.tmp 25), 3, "ref.go:244", #[⟨7, .data⟩, ⟨10, .chain⟩, ⟨0, .phase⟩, ⟨1, .phase⟩, ⟨2, .phase⟩, ⟨3, .phase⟩, ⟨4, .phase⟩, ⟨5, .phase⟩, ⟨6, .phase⟩, ⟨7, .phase⟩, ⟨8, .phase⟩, ⟨9, .phase⟩, ⟨10, .phase⟩], none⟩) (v := _) rfl (by kernel_rfl) (by kernel_rfl) (by kernel_rfl) (fun _ _ _ h => h) (Or.inl ⟨by rfl, ?hy91⟩) (by assumption) ?rest91
        case hy91 => (intro w hSw; (try dsimp only at hSw); go_simp; try with_reducible rfl)
        try simp only [Act.put, List.setIfInBounds_toArray, List.set_cons_zero, List.set_cons_succ]
        refine wpAnyH_done (by kernel_rfl) ?_ _
        have I : MidT w wF w1.heap.size w2.heap.size w3.heap.size w4.heap.size (w5.heap.size) P Pp G (.slice At nt ct) (.slice Al nl cl) VN EW KN (dX14 VW EW κ i u) (.slice X1 y1 z1) (.slice X2 y2 z2) (.slice X3 y3 z3) := ⟨hM, rwF, by omega, hL, HRO.out.below hM.below⟩
        clear hM hL rwE rwF owF zwF hSx
        generalize (w5.heap.size) = gT at I ⊢
        revert I
        revert gT
        revert wF X1 y1 z1 X2 y2 z2 X3 y3 z3
        exact key.down
  intro X1 y1 z1 X2 y2 z2 X3 y3 z3 w9 gT I0
  clear hM0
  have I := Lib.hid I0
  clear I0
  have KB := Lib.hid (KA.out _ I.out.gl)
  go_wp2_with (first
    | (with_reducible refine loadRow_walk rfl 37 (.tmp 2) rfl w.heap.size rfl (tvC G (.slice At nt ct) (.slice Al nl cl)) tv_struct (HSZ.out _ _ _) 37 I.out.st.g ?_)
    | (go_at_call 40; refine KB.out.mono ?_; rintro e w10 ⟨At2, nt2, ct2, Al2, nl2, cl2, rfl, l10, b10⟩; have L10 := Lib.hid l10; have M10 := Lib.hid (I.out.st.quiet b10); have T10 := Lib.hid (I.out.tr.below b10); have P10 := Lib.hid (I.out.pl.below b10); have S10 := Lib.hid b10.size; clear l10 b10)
    | ((with_reducible refine storeRow_walk rfl 37 (.tmp 2) (.tmp 30) rfl w.heap.size rfl (tvC (aftTT G n).1 (.slice At2 nt2 ct2) (.slice Al2 nl2 cl2)) rfl (HSZ.out _ _ _) 37 _ M10.out.g rfl (tv_one _) ?_); intro w11 r11 o11 z11; have M11 := Lib.hid (M10.out.giver o11 r11); have T11 := Lib.hid (T10.out.only o11 (fun e => by have := M10.out.lt; have := I.out.lt; omega)); have P11 := Lib.hid (P10.out.only o11 (fun y e p => by have := M10.out.lt; omega)); have L11 := Lib.hid (L10.out.only o11 (fun y e p => by have := I.out.st.lt; rcases p with p | p <;> omega)); have HGT := Lib.hid I.out.lt; have HS11 := Lib.hid I.out.st.lt; clear r11 o11 z11))
  have hM : StT w w11.drew w1.heap.size w2.heap.size w3.heap.size w4.heap.size (aftTT G n).1 (.slice At2 nt2 ct2) (.slice Al2 nl2 cl2) [.slice X1 y1 z1, .slice X2 y2 z2, .slice X3 y3 z3] := M11.out.quiet (below_q w11 1)
  have hT : Row w11.drew gT 53 (tcT (dX14 VW EW κ i u).1 (dX14 VW EW κ i u).2.1 (dX14 VW EW κ i u).2.2) := T11.out
  have hgt := HGT.out
  refine wp_region_held_drew (S := fun W => Row W w.heap.size 37 (tvC (aftTT G n).1 (.slice At2 nt2 ct2) (.slice Al2 nl2 cl2)) ∧ Row W w1.heap.size 51 [.slice X1 y1 z1, .slice X2 y2 z2, .slice X3 y3 z3] ∧ Row W gT 53 (tcT (dX14 VW EW κ i u).1 (dX14 VW EW κ i u).2.1 (dX14 VW EW κ i u).2.2)) (by kernel_rfl) ⟨hM.g, hM.p, hT⟩ (fun hHeld => ?_)
  refine wpAnyH_take (i := 0) (oi := ⟨some 34, .load 37 (.tmp 2), 37, "ref.go:247", #[], none⟩) (v := .agg (tvC (aftTT G n).1 (.slice At2 nt2 ct2) (.slice Al2 nl2 cl2)).toArray) rfl (by kernel_rfl) (by kernel_rfl) (by kernel_rfl) (fun _ _ _ h => h) (yieldsIf_row rfl 37 (.tmp 2) rfl w.heap.size rfl (tvC (aftTT G n).1 (.slice At2 nt2 ct2) (.slice Al2 nl2 cl2)) tv_struct (HSZ.out _ _ _) 37 (fun W h => h.1)) (by assumption) ?_
  try simp only [Act.put, List.setIfInBounds_toArray, List.set_cons_zero, List.set_cons_succ]
  refine wpAnyH_take (i := 1) (oi := ⟨some 35, .load 51 (.tmp 3), 51, "ref.go:247", #[⟨3, .gcOnly .lateStores⟩], none⟩) (v := .agg ([.slice X1 y1 z1, .slice X2 y2 z2, .slice X3 y3 z3]).toArray) rfl (by kernel_rfl) (by kernel_rfl) (by kernel_rfl) (fun _ _ _ h => h) (yieldsIf_row rfl 51 (.tmp 3) rfl w1.heap.size rfl ([.slice X1 y1 z1, .slice X2 y2 z2, .slice X3 y3 z3]) rp17_struct (rp17_size.trans (congrArg some rfl)) 51 (fun W h => h.2.1)) (by assumption) ?_
  try simp only [Act.put, List.setIfInBounds_toArray, List.set_cons_zero, List.set_cons_succ]
  refine wpAnyH_take (i := 2) (oi := ⟨some 36, .load 53 (.tmp 9), 53, "ref.go:247", #[⟨4, .gcOnly .lateStores⟩], none⟩) (v := .agg (tcT (dX14 VW EW κ i u).1 (dX14 VW EW κ i u).2.1 (dX14 VW EW κ i u).2.2).toArray) rfl (by kernel_rfl) (by kernel_rfl) (by kernel_rfl) (fun _ _ _ h => h) (yieldsIf_row rfl 53 (.tmp 9) rfl gT rfl (tcT (dX14 VW EW κ i u).1 (dX14 VW EW κ i u).2.1 (dX14 VW EW κ i u).2.2) rtt_struct (rtt_size.trans (congrArg some rfl)) 53 (fun W h => h.2.2)) (by assumption) ?_
  try simp only [Act.put, List.setIfInBounds_toArray, List.set_cons_zero, List.set_cons_succ]
  refine wpAnyH_ready (rs := [3]) (by kernel_rfl) (by simp) ?_
  refine AllReadyH.cons (o := ⟨none, .store 37 (.tmp 4) (.tmp 34), 0, "ref.go:247", #[⟨0, .data⟩, ⟨0, .phase⟩, ⟨1, .textOnly .lateStores⟩, ⟨2, .textOnly .lateStores⟩], none⟩) rfl (fun K hK => ?_) AllReadyH.nil
  refine storeRow_step rfl 37 (.tmp 4) (.tmp 34) rfl w2.heap.size rfl (tvC (aftTT G n).1 (.slice At2 nt2 ct2) (.slice Al2 nl2 cl2)) rfl (HSZ.out _ _ _) 37 tvZ hM.rg rfl (tv_one _) ?_
  intro w6 rw6 ow6 zw6
  have g6 := hM.g.only ow6 (fun e => by have := hM.lt; omega)
  have p6 := hM.p.only ow6 (fun e => by have := hM.lt; omega)
  have t6 := hT.only ow6 (fun e => by have := hM.lt; omega)
  have x6 := hM.rp.only ow6 (fun e => by have := hM.lt; omega)
  have y6 := hM.rt.only ow6 (fun e => by have := hM.lt; omega)
  refine hK.out _ _ ⟨g6, p6, t6⟩ (fun hSx => ?_)
  clear hK K
  try simp only [Act.put]
  refine wpAnyH_ready (rs := [4]) (by kernel_rfl) (by simp) ?_
  refine AllReadyH.cons (o := ⟨none, .store 51 (.tmp 5) (.tmp 35), 0, "ref.go:247", #[⟨1, .data⟩, ⟨3, .chain⟩, ⟨0, .phase⟩, ⟨1, .phase⟩, ⟨2, .textOnly .lateStores⟩, ⟨3, .phase⟩], none⟩) rfl (fun K hK => ?_) AllReadyH.nil
  refine storeRow_step rfl 51 (.tmp 5) (.tmp 35) rfl w3.heap.size rfl ([.slice X1 y1 z1, .slice X2 y2 z2, .slice X3 y3 z3]) rfl (rp17_size.trans (congrArg some rfl)) 51 plZ17 x6 rfl rp17_one ?_
  intro w7 rw7 ow7 zw7
  have g7 := g6.only ow7 (fun e => by have := hM.lt; omega)
  have p7 := p6.only ow7 (fun e => by have := hM.lt; omega)
  have t7 := t6.only ow7 (fun e => by have := hM.lt; omega)
  have x7 := rw6.only ow7 (fun e => by have := hM.lt; omega)
  have y7 := y6.only ow7 (fun e => by have := hM.lt; omega)
  refine hK.out _ _ ⟨g7, p7, t7⟩ (fun hSx => ?_)
  clear hK K
  try simp only [Act.put]
  refine wpAnyH_ready (rs := [5]) (by kernel_rfl) (by simp) ?_
  refine AllReadyH.cons (o := ⟨none, .store 53 (.tmp 6) (.tmp 36), 0, "ref.go:247", #[⟨2, .data⟩, ⟨4, .chain⟩, ⟨0, .phase⟩, ⟨1, .phase⟩, ⟨2, .phase⟩, ⟨3, .phase⟩, ⟨4, .phase⟩], none⟩) rfl (fun K hK => ?_) AllReadyH.nil
  refine storeRow_step rfl 53 (.tmp 6) (.tmp 36) rfl w4.heap.size rfl (tcT (dX14 VW EW κ i u).1 (dX14 VW EW κ i u).2.1 (dX14 VW EW κ i u).2.2) rfl (rtt_size.trans (congrArg some rfl)) 53 (tcT 0 0 0) y7 rfl (rtt_one _ _ _) ?_
  intro w8 rw8 ow8 zw8
  have g8 := g7.only ow8 (fun e => by have := hM.lt; omega)
  have p8 := p7.only ow8 (fun e => by have := hM.lt; omega)
  have t8 := t7.only ow8 (fun e => by have := hM.lt; omega)
  have x8 := x7.only ow8 (fun e => by have := hM.lt; omega)
  have z8 := rw7.only ow8 (fun e => by have := hM.lt; omega)
  refine hK.out _ _ ⟨g8, p8, t8⟩ (fun hSx => ?_)
  clear hK K
  try simp only [Act.put]
  refine' wpAnyH_take (i := 6) (oi := ⟨some 7, .assign (.const (.bool false)), 4, "ref.go:247", #[⟨5, .chain⟩, ⟨0, .phase⟩, ⟨1, .phase⟩, ⟨2, .phase⟩, ⟨3, .phase⟩, ⟨4, .phase⟩, ⟨5, .phase⟩], none⟩) (v := _) rfl (by kernel_rfl) (by kernel_rfl) (by kernel_rfl) (fun _ _ _ h => h) (Or.inl ⟨by rfl, ?hy98⟩) (by assumption) ?rest98
  case hy98 => (intro w hSw; (try dsimp only at hSw); go_simp; try with_reducible rfl)
  try simp only [Act.put, List.setIfInBounds_toArray, List.set_cons_zero, List.set_cons_succ]
  refine' wpAnyH_take (i := 7) (oi := ⟨some 8, .assign (.const (.int .i64 0)), 3, "ref.go:247", #[⟨6, .chain⟩, ⟨0, .phase⟩, ⟨1, .phase⟩, ⟨2, .phase⟩, ⟨3, .phase⟩, ⟨4, .phase⟩, ⟨5, .phase⟩, ⟨6, .phase⟩], none⟩) (v := _) rfl (by kernel_rfl) (by kernel_rfl) (by kernel_rfl) (fun _ _ _ h => h) (Or.inl ⟨by rfl, ?hy99⟩) (by assumption) ?rest99
  case hy99 => (intro w hSw; (try dsimp only at hSw); go_simp; try with_reducible rfl)
  try simp only [Act.put, List.setIfInBounds_toArray, List.set_cons_zero, List.set_cons_succ]
  refine wpAnyH_done (by kernel_rfl) ?_ _
  have OO : Only (fun y => y = w2.heap.size ∨ y = w3.heap.size ∨ y = w4.heap.size) w11.drew w8 := ((ow6.mono (fun y _ e => .inl e)).trans (ow7.mono (fun y _ e => .inr (.inl e)))).trans (ow8.mono (fun y _ e => .inr (.inr e)))
  have BE : Below w.heap.size w w8 := Only.below hM.below OO hM.below.size (fun y hy e => by have := hM.lt; omega)
  have LE := (show TvL w11.drew _ _ _ _ from L11.out.below (below_q w11 1)).only OO (fun y e p => by have := hM.lt; have := HS11.out; rcases p with p | p <;> omega)
  have PE := (show RPl14 w11.drew _ _ _ _ _ _ _ from P11.out.below (below_q w11 1)).only OO (fun y e p => by have := hM.lt; omega)
  go_wp2
  exact bodyPost_ret (tstep_results Tryz.results17 rfl rfl rfl rfl rfl x8 z8 rw8) rfl ⟨_, _, _, _, _, _, _, _, _, _, _, _, _, _, _, rfl, LE.weak (fun y _ p => by rcases p with p | p; exact .inl p.1; exact .inr (by have := HS11.out; omega)), PE.weak (fun y _ p => p.1), BE⟩
set_option maxRecDepth 100000 in
set_option maxHeartbeats 8000000 in
theorem tstep_done (P Pp : Nat → Prop) (G : Tv) (VW EW KW : List Int) (n : Int) (w : World) (r : TvL w P G (.slice At nt ct) (.slice Al nl cl)) (rp : RPl14 w Pp VW EW KW (.slice A1 n1 c1) (.slice A2 n2 c2) (.slice A3 n3 c3)) (q : Qk17 G) (hn0 : 0 ≤ n) (hl : VW.length ≤ 65536) (hk : KW.length ≤ 65536) (hV : ∀ x ∈ VW, 0 ≤ x ∧ x ≤ 65535) (hn : (dN14 VW EW (tchTT G).1 (tchTT G).2.1) = n) (na : Int) (ha : (aftTT G n).2 = na) (hna : 0 ≤ na) :
    Calls Tryz.prog 17 #[tvV G (.slice At nt ct) (.slice Al nl cl), .agg #[.slice A1 n1 c1, .slice A2 n2 c2, .slice A3 n3 c3]] w (TStp P Pp (aftTT G n).1 (dV14 VW (tchTT G).1 (tchTT G).2.1 (tchTT G).2.2) EW (dK14 KW (tchTT G).1 (tchTT G).2.1) (dX14 VW EW (tchTT G).1 (tchTT G).2.1 (tchTT G).2.2) true na w) := by
  have HSZ := Lib.hid (fun (H : Tv) (a b : Value) => (tv_size.trans (congrArg some (tv_len H a b).symm)))
  have HONE := Lib.hid (tv_one (At := At) (nt := nt) (ct := ct) (Al := Al) (nl := nl) (cl := cl))
  have g0 : (G.at_ == 0) = false := by have := q.at1; simp; omega
  have KT := Lib.hid (fun W (hb : Below w.heap.size w W) => ttch_any (At := At) (nt := nt) (ct := ct) (Al := Al) (nl := nl) (cl := cl) G W q.B q.R q.at1 q.head q.used)
  have KD := Lib.hid (fun W (hb : Below w.heap.size w W) => rdo14_any (P := fun y => (Pp y ∧ y < w.heap.size) ∨ W.heap.size ≤ y) (tchTT G).1 (tchTT G).2.1 (tchTT G).2.2 W hl hk hV (fun y hy => .inr hy) ((rp.weak (Q := fun y => (Pp y ∧ y < w.heap.size) ∨ W.heap.size ≤ y) (fun y hy p => .inl ⟨p, hy⟩)).below hb))
  have KA := Lib.hid (fun W (hr : TvL W (fun y => P y ∧ y < w.heap.size) G (.slice At nt ct) (.slice Al nl cl)) => taft_any (fun y => P y ∧ y < w.heap.size) G n W hr q.at1 hn0 q.len q.tab64 q.load q.i)
  rw [hn] at KD
  obtain ⟨κ, hκ⟩ : ∃ κ, (tchTT G).1 = κ := ⟨_, rfl⟩
  obtain ⟨i, hi⟩ : ∃ i, (tchTT G).2.1 = i := ⟨_, rfl⟩
  obtain ⟨u, hu⟩ : ∃ u, (tchTT G).2.2 = u := ⟨_, rfl⟩
  rw [hκ, hi, hu] at KT KD ⊢
  obtain ⟨VN, hVN⟩ : ∃ VN, dV14 VW κ i u = VN := ⟨_, rfl⟩
  obtain ⟨KN, hKN⟩ : ∃ KN, dK14 KW κ i = KN := ⟨_, rfl⟩
  rw [hVN, hKN]
  rw [hVN, hKN] at KD
  clear hVN hKN
  have HRO := Lib.hid (r.weak (Q := fun x => P x ∧ x < w.heap.size) (fun _ hg p => And.intro p hg))
  obtain ⟨a0, ha0⟩ : ∃ a0, G.at_ = a0 := ⟨_, rfl⟩
  have H1 := Lib.hid ha0
  rw [ha0] at g0
  have gna : decide (na < 0) = false := decide_eq_false (by omega)
  rw [ha] at KA
  clear ha hna
  clear r rp q hl hk hV hn hn0 hκ hi hu ha0
  unfold RDo14 touchV at KD
  unfold touchV at KT
  unfold TVA tvV at KA
  unfold tvV at KT ⊢
  go_enter Tryz.func17, Tryz.ntmps17
  go_wp2_with (first
    | ((with_reducible refine box_walk rfl 37 (.tmp 0) rfl (tvC G (.slice At nt ct) (.slice Al nl cl)) rfl ?_); intro w1 r1 b1 z1; have R1 := Lib.hid r1; have B1 := Lib.hid b1; have Z1 := Lib.hid z1; clear r1 b1 z1)
    | ((with_reducible refine box_walk rfl 51 (.tmp 1) rfl [.slice A1 n1 c1, .slice A2 n2 c2, .slice A3 n3 c3] rfl ?_); intro w2 r2 b2 z2; have R2 := Lib.hid r2; have B2 := Lib.hid b2; have Z2 := Lib.hid z2; clear r2 b2 z2)
    | ((with_reducible refine alloc_walk (o := ⟨some 4, _, _, _, _, _⟩) rfl 37 rfl _ tv_zero ?_); go_must (intro w3 r3 b3 z3; have R3 := Lib.hid r3; have B3 := Lib.hid b3; have Z3 := Lib.hid z3; clear r3 b3 z3))
    | ((with_reducible refine alloc_walk (o := ⟨some 5, _, _, _, _, _⟩) rfl 51 rfl _ rp17_zero ?_); go_must (intro w4 r4 b4 z4; have R4 := Lib.hid r4; have B4 := Lib.hid b4; have Z4 := Lib.hid z4; clear r4 b4 z4))
    | ((with_reducible refine alloc_walk (o := ⟨some 6, _, _, _, _, _⟩) rfl 53 rfl _ rtt_zero ?_); go_must (intro w5 r5 b5 z5; have M5 : Hid (StT w w5 w1.heap.size w2.heap.size w3.heap.size w4.heap.size G (.slice At nt ct) (.slice Al nl cl) [.slice A1 n1 c1, .slice A2 n2 c2, .slice A3 n3 c3]) := Lib.hid (by
        have e1 := Z1.out
        have e2 := Z2.out
        have e3 := Z3.out
        have e4 := Z4.out
        exact ⟨(((R1.out.below B2.out).below B3.out).below B4.out).below b5, ((R2.out.below B3.out).below B4.out).below b5, (R3.out.below B4.out).below b5, R4.out.below b5, r5, by omega, below_on (below_on (below_on (below_on B1.out B2.out) B3.out) B4.out) b5⟩); have c10 := M5.out.g.cell 10; simp only [tvC, List.getElem?_cons_zero, List.getElem?_cons_succ] at c10; rw [H1.out] at c10; clear r5 b5 z5)))
  have hM0 : StT w w5.drew w1.heap.size w2.heap.size w3.heap.size w4.heap.size G (.slice At nt ct) (.slice Al nl cl) [.slice A1 n1 c1, .slice A2 n2 c2, .slice A3 n3 c3] := M5.out.quiet (below_q w5 1)
  refine' (fun (key : PLift (_ : Prop)) => ?main) ⟨?loop⟩
  case main =>
    have hM := hM0
    refine wp_region_held_drew (S := fun W => Row W w.heap.size 37 (tvC G (.slice At nt ct) (.slice Al nl cl))) (by kernel_rfl) hM.g (fun hHeld => ?_)
    refine wpAnyH_take (i := 1) (oi := ⟨some 20, .load 37 (.tmp 2), 37, "ref.go:244", #[], none⟩) (v := .agg (tvC G (.slice At nt ct) (.slice Al nl cl)).toArray) rfl (by kernel_rfl) (by kernel_rfl) (by kernel_rfl) (fun _ _ _ h => h) (yieldsIf_row rfl 37 (.tmp 2) rfl w.heap.size rfl (tvC G (.slice At nt ct) (.slice Al nl cl)) tv_struct (HSZ.out _ _ _) 37 (fun W h => h)) (by assumption) ?_
    try simp only [Act.put, List.setIfInBounds_toArray, List.set_cons_zero, List.set_cons_succ]
    refine wpAnyH_ready (rs := [0, 2, 8]) (by kernel_rfl) (by simp) ?_
    refine AllReadyH.cons (o := ⟨some 19, .load 51 (.tmp 3), 51, "ref.go:244", #[], none⟩) rfl (fun K hK => ?_) (AllReadyH.cons (o := ⟨some 21, .call { callee := .value (.func 39), args := #[.tmp 20], argTypes := #[37] }, 53, "ref.go:244", #[⟨1, .data⟩], none⟩) rfl (fun K hK => ?_) (AllReadyH.cons (o := ⟨some 9, .alloc 53, 0, "ref.go:244", #[], none⟩) rfl (fun K hK => ?_) AllReadyH.nil))
    · refine loadRow_step rfl 51 (.tmp 3) rfl w1.heap.size rfl [.slice A1 n1 c1, .slice A2 n2 c2, .slice A3 n3 c3] rp17_struct (rp17_size.trans (congrArg some rfl)) 51 hM.p ?_
      refine hK.out _ _ hM.g (fun hSx => ?_)
      clear hK K
      try simp only [Act.put, List.setIfInBounds_toArray, List.set_cons_zero, List.set_cons_succ]
      refine wpAnyH_ready (rs := [2, 8]) (by kernel_rfl) (by simp) ?_
      refine AllReadyH.cons (o := ⟨some 21, .call { callee := .value (.func 39), args := #[.tmp 20], argTypes := #[37] }, 53, "ref.go:244", #[⟨1, .data⟩], none⟩) rfl (fun K hK => ?_) (AllReadyH.cons (o := ⟨some 9, .alloc 53, 0, "ref.go:244", #[], none⟩) rfl (fun K hK => ?_) AllReadyH.nil)
      · go_simp
        go_at_call 39
        refine (KT.out _ hM.below).mono ?_
        rintro e wA ⟨rfl, bA⟩
        have hMA := hM.quiet bA
        clear hM
        have hM := hMA
        clear hMA
        go_wp2_with fail
        refine hK.out _ _ hM.g (fun hSx => ?_)
        clear hK K
        try simp only [Act.put, List.setIfInBounds_toArray, List.set_cons_zero, List.set_cons_succ]
        refine wpAnyH_ready (rs := [3, 8]) (by kernel_rfl) (by simp) ?_
        refine AllReadyH.cons (o := ⟨some 22, .call { callee := .value (.func 38), args := #[.tmp 19, .tmp 21], argTypes := #[51, 53] }, 90, "ref.go:244", #[⟨0, .data⟩, ⟨2, .data⟩, ⟨2, .chain⟩], none⟩) rfl (fun K hK => ?_) (AllReadyH.cons (o := ⟨some 9, .alloc 53, 0, "ref.go:244", #[], none⟩) rfl (fun K hK => ?_) AllReadyH.nil)
        · go_simp
          go_at_call 38
          refine (KD.out _ hM.below).mono ?_
          rintro e wD ⟨X1, y1, z1, X2, y2, z2, X3, y3, z3, rfl, lD, bD⟩
          have hMD := hM.quiet bD
          have hs3 := hM.lt.2.2.2.2
          have hL := lD.weak (Q := fun y => (Pp y ∨ w.heap.size ≤ y) ∧ (y < w.heap.size ∨ w4.heap.size < y)) (fun y hy p => ⟨by rcases p with p | p; exact .inl p.1; exact .inr (by have := hM.below.size; omega), by rcases p with p | p <;> omega⟩)
          clear hM lD
          have hM := hMD
          clear hMD
          go_wp2_with fail
          refine hK.out _ _ hM.g (fun hSx => ?_)
          clear hK K
          try simp only [Act.put, List.setIfInBounds_toArray, List.set_cons_zero, List.set_cons_succ]
          refine' wpAnyH_take (i := 4) (oi := ⟨some 18, .move (.tmp 22), 90, "ref.go:244", #[⟨3, .data⟩], none⟩) (v := _) rfl (by kernel_rfl) (by kernel_rfl) (by kernel_rfl) (fun _ _ _ h => h) (Or.inl ⟨by rfl, ?hy18⟩) (by assumption) ?rest18
          case hy18 => (intro w hSw; (try dsimp only at hSw); go_simp; try with_reducible rfl)
          try simp only [Act.put, List.setIfInBounds_toArray, List.set_cons_zero, List.set_cons_succ]
          refine' wpAnyH_take (i := 5) (oi := ⟨some 23, .extract (.tmp 18) 0, 51, "ref.go:244", #[⟨4, .data⟩], none⟩) (v := _) rfl (by kernel_rfl) (by kernel_rfl) (by kernel_rfl) (fun _ _ _ h => h) (Or.inl ⟨by rfl, ?hy19⟩) (by assumption) ?rest19
          case hy19 => (intro w hSw; (try dsimp only at hSw); go_simp; try with_reducible rfl)
          try simp only [Act.put, List.setIfInBounds_toArray, List.set_cons_zero, List.set_cons_succ]
          refine' wpAnyH_take (i := 6) (oi := ⟨some 24, .extract (.tmp 18) 1, 53, "ref.go:244", #[⟨4, .data⟩, ⟨9, .gcOnly .lateStores⟩], none⟩) (v := _) rfl (by kernel_rfl) (by kernel_rfl) (by kernel_rfl) (fun _ _ _ h => h) (Or.inl ⟨by rfl, ?hy20⟩) (by assumption) ?rest20
          case hy20 => (intro w hSw; (try dsimp only at hSw); go_simp; try with_reducible rfl)
          try simp only [Act.put, List.setIfInBounds_toArray, List.set_cons_zero, List.set_cons_succ]
          refine' wpAnyH_take (i := 7) (oi := ⟨some 25, .extract (.tmp 18) 2, 3, "ref.go:244", #[⟨4, .data⟩, ⟨10, .gcOnly .lateStores⟩], none⟩) (v := _) rfl (by kernel_rfl) (by kernel_rfl) (by kernel_rfl) (fun _ _ _ h => h) (Or.inl ⟨by rfl, ?hy21⟩) (by assumption) ?rest21
          case hy21 => (intro w hSw; (try dsimp only at hSw); go_simp; try with_reducible rfl)
          try simp only [Act.put, List.setIfInBounds_toArray, List.set_cons_zero, List.set_cons_succ]
          refine wpAnyH_ready (rs := [8]) (by kernel_rfl) (by simp) ?_
          refine AllReadyH.cons (o := ⟨some 9, .alloc 53, 0, "ref.go:244", #[], none⟩) rfl (fun K hK => ?_) AllReadyH.nil
          refine alloc_step rfl 53 rfl _ rtt_zero ?_
          intro wB rB bB zB
          have hMB := hM.quiet bB
          have ht4 : w4.heap.size < wD.heap.size := hM.lt.2.2.2.2
          have hLB := hL.below bB
          have hyT := hL.weak (Q := fun y => (Pp y ∨ w.heap.size ≤ y) ∧ (y < w.heap.size ∨ w4.heap.size < y) ∧ y ≠ wD.heap.size) (fun y hy p => ⟨p.1, p.2, by omega⟩)
          have hLT := hyT.below bB
          clear hL hLB hyT
          have hL := hLT
          clear hLT
          clear hM
          have hM := hMB
          clear hMB
          have hT : Row wB wD.heap.size 53 (tcT 0 0 0) := rB
          clear rB bB
          refine hK.out _ _ hM.g (fun hSx => ?_)
          clear hK K
          try simp only [Act.put, List.setIfInBounds_toArray, List.set_cons_zero, List.set_cons_succ]
          refine wpAnyH_ready (rs := [9]) (by kernel_rfl) (by simp) ?_
          refine AllReadyH.cons (o := ⟨none, .store 51 (.tmp 3) (.tmp 23), 0, "ref.go:244", #[⟨5, .data⟩, ⟨3, .chain⟩, ⟨0, .phase⟩, ⟨1, .phase⟩, ⟨2, .phase⟩, ⟨3, .phase⟩, ⟨4, .phase⟩, ⟨5, .phase⟩, ⟨6, .textOnly .lateStores⟩, ⟨7, .textOnly .lateStores⟩, ⟨8, .phase⟩], none⟩) rfl (fun K hK => ?_) AllReadyH.nil
          refine storeRow_step rfl 51 (.tmp 3) (.tmp 23) rfl w1.heap.size rfl ([.slice X1 y1 z1, .slice X2 y2 z2, .slice X3 y3 z3]) rfl (rp17_size.trans (congrArg some rfl)) 51 [.slice A1 n1 c1, .slice A2 n2 c2, .slice A3 n3 c3] hM.p rfl rp17_one ?_
          intro wE rwE owE zwE
          have hME := hM.plain owE rwE
          have hTE := hT.only owE (fun e => by have := hM.lt; omega)
          have hLE := hL.only owE (fun y e p => by have := hM.lt; omega)
          clear hM hT hL
          have hM := hME
          have hT := hTE
          have hL := hLE
          clear hME hTE hLE
          refine hK.out _ _ hM.g (fun hSx => ?_)
          clear hK K
          try simp only [Act.put]
          refine wpAnyH_ready (rs := [10]) (by kernel_rfl) (by simp) ?_
          refine AllReadyH.cons (o := ⟨none, .store 53 (.tmp 9) (.tmp 24), 0, "ref.go:244", #[⟨8, .data⟩, ⟨6, .data⟩, ⟨9, .chain⟩, ⟨0, .phase⟩, ⟨1, .phase⟩, ⟨2, .phase⟩, ⟨3, .phase⟩, ⟨4, .phase⟩, ⟨5, .phase⟩, ⟨6, .phase⟩, ⟨7, .textOnly .lateStores⟩, ⟨8, .phase⟩, ⟨9, .phase⟩], none⟩) rfl (fun K hK => ?_) AllReadyH.nil
          refine storeRow_step rfl 53 (.tmp 9) (.tmp 24) rfl wD.heap.size rfl (tcT (dX14 VW EW κ i u).1 (dX14 VW EW κ i u).2.1 (dX14 VW EW κ i u).2.2) rfl (rtt_size.trans (congrArg some rfl)) 53 (tcT 0 0 0) hT rfl (rtt_one _ _ _) ?_
          intro wF rwF owF zwF
          have hMF := hM.other owF (by omega)
          have hLF := hL.only owF (fun y e p => by omega)
          clear hM hT hL
          have hM := hMF
          have hL := hLF
          clear hMF hLF
          refine hK.out _ _ hM.g (fun hSx => ?_)
          clear hK K
          try simp only [Act.put]
          refine' wpAnyH_take (i := 11) (oi := ⟨some 10, .assign (.tmp 25), 3, "ref.go:244", #[⟨7, .data⟩, ⟨10, .chain⟩, ⟨0, .phase⟩, ⟨1, .phase⟩, ⟨2, .phase⟩, ⟨3, .phase⟩, ⟨4, .phase⟩, ⟨5, .phase⟩, ⟨6, .phase⟩, ⟨7, .phase⟩, ⟨8, .phase⟩, ⟨9, .phase⟩, ⟨10, .phase⟩], none⟩) (v := _) rfl (by kernel_rfl) (by kernel_rfl) (by kernel_rfl) (fun _ _ _ h => h) (Or.inl ⟨by rfl, ?hy25⟩) (by assumption) ?rest25
          case hy25 => (intro w hSw; (try dsimp only at hSw); go_simp; try with_reducible rfl)
          try simp only [Act.put, List.setIfInBounds_toArray, List.set_cons_zero, List.set_cons_succ]
          refine wpAnyH_done (by kernel_rfl) ?_ _
          have I : MidT w wF w1.heap.size w2.heap.size w3.heap.size w4.heap.size (wD.heap.size) P Pp G (.slice At nt ct) (.slice Al nl cl) VN EW KN (dX14 VW EW κ i u) (.slice X1 y1 z1) (.slice X2 y2 z2) (.slice X3 y3 z3) := ⟨hM, rwF, by omega, hL, HRO.out.below hM.below⟩
          clear hM hL rwE rwF owF zwF hSx
          generalize (wD.heap.size) = gT at I ⊢
          revert I
          revert gT
          revert wF X1 y1 z1 X2 y2 z2 X3 y3 z3
          exact key.down
        · refine alloc_step rfl 53 rfl _ rtt_zero ?_
          intro wB rB bB zB
          have hMB := hM.quiet bB
          have ht4 : w4.heap.size < wA.heap.size := hM.lt.2.2.2.2
          clear hM
          have hM := hMB
          clear hMB
          have hT : Row wB wA.heap.size 53 (tcT 0 0 0) := rB
          clear rB bB
          refine hK.out _ _ hM.g (fun hSx => ?_)
          clear hK K
          try simp only [Act.put, List.setIfInBounds_toArray, List.set_cons_zero, List.set_cons_succ]
          refine wpAnyH_ready (rs := [3]) (by kernel_rfl) (by simp) ?_
          refine AllReadyH.cons (o := ⟨some 22, .call { callee := .value (.func 38), args := #[.tmp 19, .tmp 21], argTypes := #[51, 53] }, 90, "ref.go:244", #[⟨0, .data⟩, ⟨2, .data⟩, ⟨2, .chain⟩], none⟩) rfl (fun K hK => ?_) AllReadyH.nil
          go_simp
          go_at_call 38
          refine (KD.out _ hM.below).mono ?_
          rintro e wD ⟨X1, y1, z1, X2, y2, z2, X3, y3, z3, rfl, lD, bD⟩
          have hMD := hM.quiet bD
          have hs3 := hM.lt.2.2.2.2
          have hTD := hT.below bD
          have hst := hT.lt
          have hL := lD.weak (Q := fun y => (Pp y ∨ w.heap.size ≤ y) ∧ (y < w.heap.size ∨ w4.heap.size < y) ∧ y ≠ wA.heap.size) (fun y hy p => ⟨by rcases p with p | p; exact .inl p.1; exact .inr (by have := hM.below.size; omega), by rcases p with p | p <;> omega, by rcases p with p | p; have := hM.below.size; have := hM.lt; omega; omega⟩)
          clear hM lD
          have hM := hMD
          clear hMD
          clear hT
          have hT := hTD
          clear hTD
          go_wp2_with fail
          refine hK.out _ _ hM.g (fun hSx => ?_)
          clear hK K
          try simp only [Act.put, List.setIfInBounds_toArray, List.set_cons_zero, List.set_cons_succ]
          refine' wpAnyH_take (i := 4) (oi := ⟨some 18, .move (.tmp 22), 90, "ref.go:244", #[⟨3, .data⟩], none⟩) (v := _) rfl (by kernel_rfl) (by kernel_rfl) (by kernel_rfl) (fun _ _ _ h => h) (Or.inl ⟨by rfl, ?hy27⟩) (by assumption) ?rest27
          case hy27 => (intro w hSw; (try dsimp only at hSw); go_simp; try with_reducible rfl)
          try simp only [Act.put, List.setIfInBounds_toArray, List.set_cons_zero, List.set_cons_succ]
          refine' wpAnyH_take (i := 5) (oi := ⟨some 23, .extract (.tmp 18) 0, 51, "ref.go:244", #[⟨4, .data⟩], none⟩) (v := _) rfl (by kernel_rfl) (by kernel_rfl) (by kernel_rfl) (fun _ _ _ h => h) (Or.inl ⟨by rfl, ?hy28⟩) (by assumption) ?rest28
          case hy28 => (intro w hSw; (try dsimp only at hSw); go_simp; try with_reducible rfl)
          try simp only [Act.put, List.setIfInBounds_toArray, List.set_cons_zero, List.set_cons_succ]
          refine' wpAnyH_take (i := 6) (oi := ⟨some 24, .extract (.tmp 18) 1, 53, "ref.go:244", #[⟨4, .data⟩, ⟨9, .gcOnly .lateStores⟩], none⟩) (v := _) rfl (by kernel_rfl) (by kernel_rfl) (by kernel_rfl) (fun _ _ _ h => h) (Or.inl ⟨by rfl, ?hy29⟩) (by assumption) ?rest29
          case hy29 => (intro w hSw; (try dsimp only at hSw); go_simp; try with_reducible rfl)
          try simp only [Act.put, List.setIfInBounds_toArray, List.set_cons_zero, List.set_cons_succ]
          refine' wpAnyH_take (i := 7) (oi := ⟨some 25, .extract (.tmp 18) 2, 3, "ref.go:244", #[⟨4, .data⟩, ⟨10, .gcOnly .lateStores⟩], none⟩) (v := _) rfl (by kernel_rfl) (by kernel_rfl) (by kernel_rfl) (fun _ _ _ h => h) (Or.inl ⟨by rfl, ?hy30⟩) (by assumption) ?rest30
          case hy30 => (intro w hSw; (try dsimp only at hSw); go_simp; try with_reducible rfl)
          try simp only [Act.put, List.setIfInBounds_toArray, List.set_cons_zero, List.set_cons_succ]
          refine wpAnyH_ready (rs := [9]) (by kernel_rfl) (by simp) ?_
          refine AllReadyH.cons (o := ⟨none, .store 51 (.tmp 3) (.tmp 23), 0, "ref.go:244", #[⟨5, .data⟩, ⟨3, .chain⟩, ⟨0, .phase⟩, ⟨1, .phase⟩, ⟨2, .phase⟩, ⟨3, .phase⟩, ⟨4, .phase⟩, ⟨5, .phase⟩, ⟨6, .textOnly .lateStores⟩, ⟨7, .textOnly .lateStores⟩, ⟨8, .phase⟩], none⟩) rfl (fun K hK => ?_) AllReadyH.nil
          refine storeRow_step rfl 51 (.tmp 3) (.tmp 23) rfl w1.heap.size rfl ([.slice X1 y1 z1, .slice X2 y2 z2, .slice X3 y3 z3]) rfl (rp17_size.trans (congrArg some rfl)) 51 [.slice A1 n1 c1, .slice A2 n2 c2, .slice A3 n3 c3] hM.p rfl rp17_one ?_
          intro wE rwE owE zwE
          have hME := hM.plain owE rwE
          have hTE := hT.only owE (fun e => by have := hM.lt; omega)
          have hLE := hL.only owE (fun y e p => by have := hM.lt; omega)
          clear hM hT hL
          have hM := hME
          have hT := hTE
          have hL := hLE
          clear hME hTE hLE
          refine hK.out _ _ hM.g (fun hSx => ?_)
          clear hK K
          try simp only [Act.put]
          refine wpAnyH_ready (rs := [10]) (by kernel_rfl) (by simp) ?_
          refine AllReadyH.cons (o := ⟨none, .store 53 (.tmp 9) (.tmp 24), 0, "ref.go:244", #[⟨8, .data⟩, ⟨6, .data⟩, ⟨9, .chain⟩, ⟨0, .phase⟩, ⟨1, .phase⟩, ⟨2, .phase⟩, ⟨3, .phase⟩, ⟨4, .phase⟩, ⟨5, .phase⟩, ⟨6, .phase⟩, ⟨7, .textOnly .lateStores⟩, ⟨8, .phase⟩, ⟨9, .phase⟩], none⟩) rfl (fun K hK => ?_) AllReadyH.nil
          refine storeRow_step rfl 53 (.tmp 9) (.tmp 24) rfl wA.heap.size rfl (tcT (dX14 VW EW κ i u).1 (dX14 VW EW κ i u).2.1 (dX14 VW EW κ i u).2.2) rfl (rtt_size.trans (congrArg some rfl)) 53 (tcT 0 0 0) hT rfl (rtt_one _ _ _) ?_
          intro wF rwF owF zwF
          have hMF := hM.other owF (by omega)
          have hLF := hL.only owF (fun y e p => by omega)
          clear hM hT hL
          have hM := hMF
          have hL := hLF
          clear hMF hLF
          refine hK.out _ _ hM.g (fun hSx => ?_)
          clear hK K
          try simp only [Act.put]
          refine' wpAnyH_take (i := 11) (oi := ⟨some 10, .assign (.tmp 25), 3, "ref.go:244", #[⟨7, .data⟩, ⟨10, .chain⟩, ⟨0, .phase⟩, ⟨1, .phase⟩, ⟨2, .phase⟩, ⟨3, .phase⟩, ⟨4, .phase⟩, ⟨5, .phase⟩, ⟨6, .phase⟩, ⟨7, .phase⟩, ⟨8, .phase⟩, ⟨9, .phase⟩, ⟨10, .phase⟩], none⟩) (v := _) rfl (by kernel_rfl) (by kernel_rfl) (by kernel_rfl) (fun _ _ _ h => h) (Or.inl ⟨by rfl, ?hy33⟩) (by assumption) ?rest33
          case hy33 => (intro w hSw; (try dsimp only at hSw); go_simp; try with_reducible rfl)
          try simp only [Act.put, List.setIfInBounds_toArray, List.set_cons_zero, List.set_cons_succ]
          refine wpAnyH_done (by kernel_rfl) ?_ _
          have I : MidT w wF w1.heap.size w2.heap.size w3.heap.size w4.heap.size (wA.heap.size) P Pp G (.slice At nt ct) (.slice Al nl cl) VN EW KN (dX14 VW EW κ i u) (.slice X1 y1 z1) (.slice X2 y2 z2) (.slice X3 y3 z3) := ⟨hM, rwF, by omega, hL, HRO.out.below hM.below⟩
          clear hM hL rwE rwF owF zwF hSx
          generalize (wA.heap.size) = gT at I ⊢
          revert I
          revert gT
          revert wF X1 y1 z1 X2 y2 z2 X3 y3 z3
          exact key.down
      · refine alloc_step rfl 53 rfl _ rtt_zero ?_
        intro wB rB bB zB
        have hMB := hM.quiet bB
        have ht4 : w4.heap.size < w5.heap.size := hM.lt.2.2.2.2
        clear hM
        have hM := hMB
        clear hMB
        have hT : Row wB w5.heap.size 53 (tcT 0 0 0) := rB
        clear rB bB
        refine hK.out _ _ hM.g (fun hSx => ?_)
        clear hK K
        try simp only [Act.put, List.setIfInBounds_toArray, List.set_cons_zero, List.set_cons_succ]
        refine wpAnyH_ready (rs := [2]) (by kernel_rfl) (by simp) ?_
        refine AllReadyH.cons (o := ⟨some 21, .call { callee := .value (.func 39), args := #[.tmp 20], argTypes := #[37] }, 53, "ref.go:244", #[⟨1, .data⟩], none⟩) rfl (fun K hK => ?_) AllReadyH.nil
        go_simp
        go_at_call 39
        refine (KT.out _ hM.below).mono ?_
        rintro e wA ⟨rfl, bA⟩
        have hMA := hM.quiet bA
        have hTA := hT.below bA
        clear hM
        have hM := hMA
        clear hMA
        clear hT
        have hT := hTA
        clear hTA
        go_wp2_with fail
        refine hK.out _ _ hM.g (fun hSx => ?_)
        clear hK K
        try simp only [Act.put, List.setIfInBounds_toArray, List.set_cons_zero, List.set_cons_succ]
        refine wpAnyH_ready (rs := [3]) (by kernel_rfl) (by simp) ?_
        refine AllReadyH.cons (o := ⟨some 22, .call { callee := .value (.func 38), args := #[.tmp 19, .tmp 21], argTypes := #[51, 53] }, 90, "ref.go:244", #[⟨0, .data⟩, ⟨2, .data⟩, ⟨2, .chain⟩], none⟩) rfl (fun K hK => ?_) AllReadyH.nil
        go_simp
        go_at_call 38
        refine (KD.out _ hM.below).mono ?_
        rintro e wD ⟨X1, y1, z1, X2, y2, z2, X3, y3, z3, rfl, lD, bD⟩
        have hMD := hM.quiet bD
        have hs3 := hM.lt.2.2.2.2
        have hTD := hT.below bD
        have hst := hT.lt
        have hL := lD.weak (Q := fun y => (Pp y ∨ w.heap.size ≤ y) ∧ (y < w.heap.size ∨ w4.heap.size < y) ∧ y ≠ w5.heap.size) (fun y hy p => ⟨by rcases p with p | p; exact .inl p.1; exact .inr (by have := hM.below.size; omega), by rcases p with p | p <;> omega, by rcases p with p | p; have := hM.below.size; have := hM.lt; omega; omega⟩)
        clear hM lD
        have hM := hMD
        clear hMD
        clear hT
        have hT := hTD
        clear hTD
        go_wp2_with fail
        refine hK.out _ _ hM.g (fun hSx => ?_)
        clear hK K
        try simp only [Act.put, List.setIfInBounds_toArray, List.set_cons_zero, List.set_cons_succ]
        refine' wpAnyH_take (i := 4) (oi := ⟨some 18, .move (.tmp 22), 90, "ref.go:244", #[⟨3, .data⟩], none⟩) (v := _) rfl (by kernel_rfl) (by kernel_rfl) (by kernel_rfl) (fun _ _ _ h => h) (Or.inl ⟨by rfl, ?hy36⟩) (by assumption) ?rest36
        case hy36 => (intro w hSw; (try dsimp only at hSw); go_simp; try with_reducible rfl)
        try simp only [Act.put, List.setIfInBounds_toArray, List.set_cons_zero, List.set_cons_succ]
        refine' wpAnyH_take (i := 5) (oi := ⟨some 23, .extract (.tmp 18) 0, 51, "ref.go:244", #[⟨4, .data⟩], none⟩) (v := _) rfl (by kernel_rfl) (by kernel_rfl) (by kernel_rfl) (fun _ _ _ h => h) (Or.inl ⟨by rfl, ?hy37⟩) (by assumption) ?rest37
        case hy37 => (intro w hSw; (try dsimp only at hSw); go_simp; try with_reducible rfl)
        try simp only [Act.put, List.setIfInBounds_toArray, List.set_cons_zero, List.set_cons_succ]
        refine' wpAnyH_take (i := 6) (oi := ⟨some 24, .extract (.tmp 18) 1, 53, "ref.go:244", #[⟨4, .data⟩, ⟨9, .gcOnly .lateStores⟩], none⟩) (v := _) rfl (by kernel_rfl) (by kernel_rfl) (by kernel_rfl) (fun _ _ _ h => h) (Or.inl ⟨by rfl, ?hy38⟩) (by assumption) ?rest38
        case hy38 => (intro w hSw; (try dsimp only at hSw); go_simp; try with_reducible rfl)
        try simp only [Act.put, List.setIfInBounds_toArray, List.set_cons_zero, List.set_cons_succ]
        refine' wpAnyH_take (i := 7) (oi := ⟨some 25, .extract (.tmp 18) 2, 3, "ref.go:244", #[⟨4, .data⟩, ⟨10, .gcOnly .lateStores⟩], none⟩) (v := _) rfl (by kernel_rfl) (by kernel_rfl) (by kernel_rfl) (fun _ _ _ h => h) (Or.inl ⟨by rfl, ?hy39⟩) (by assumption) ?rest39
        case hy39 => (intro w hSw; (try dsimp only at hSw); go_simp; try with_reducible rfl)
        try simp only [Act.put, List.setIfInBounds_toArray, List.set_cons_zero, List.set_cons_succ]
        refine wpAnyH_ready (rs := [9]) (by kernel_rfl) (by simp) ?_
        refine AllReadyH.cons (o := ⟨none, .store 51 (.tmp 3) (.tmp 23), 0, "ref.go:244", #[⟨5, .data⟩, ⟨3, .chain⟩, ⟨0, .phase⟩, ⟨1, .phase⟩, ⟨2, .phase⟩, ⟨3, .phase⟩, ⟨4, .phase⟩, ⟨5, .phase⟩, ⟨6, .textOnly .lateStores⟩, ⟨7, .textOnly .lateStores⟩, ⟨8, .phase⟩], none⟩) rfl (fun K hK => ?_) AllReadyH.nil
        refine storeRow_step rfl 51 (.tmp 3) (.tmp 23) rfl w1.heap.size rfl ([.slice X1 y1 z1, .slice X2 y2 z2, .slice X3 y3 z3]) rfl (rp17_size.trans (congrArg some rfl)) 51 [.slice A1 n1 c1, .slice A2 n2 c2, .slice A3 n3 c3] hM.p rfl rp17_one ?_
        intro wE rwE owE zwE
        have hME := hM.plain owE rwE
        have hTE := hT.only owE (fun e => by have := hM.lt; omega)
        have hLE := hL.only owE (fun y e p => by have := hM.lt; omega)
        clear hM hT hL
        have hM := hME
        have hT := hTE
        have hL := hLE
        clear hME hTE hLE
        refine hK.out _ _ hM.g (fun hSx => ?_)
        clear hK K
        try simp only [Act.put]
        refine wpAnyH_ready (rs := [10]) (by kernel_rfl) (by simp) ?_
        refine AllReadyH.cons (o := ⟨none, .store 53 (.tmp 9) (.tmp 24), 0, "ref.go:244", #[⟨8, .data⟩, ⟨6, .data⟩, ⟨9, .chain⟩, ⟨0, .phase⟩, ⟨1, .phase⟩, ⟨2, .phase⟩, ⟨3, .phase⟩, ⟨4, .phase⟩, ⟨5, .phase⟩, ⟨6, .phase⟩, ⟨7, .textOnly .lateStores⟩, ⟨8, .phase⟩, ⟨9, .phase⟩], none⟩) rfl (fun K hK => ?_) AllReadyH.nil
        refine storeRow_step rfl 53 (.tmp 9) (.tmp 24) rfl w5.heap.size rfl (tcT (dX14 VW EW κ i u).1 (dX14 VW EW κ i u).2.1 (dX14 VW EW κ i u).2.2) rfl (rtt_size.trans (congrArg some rfl)) 53 (tcT 0 0 0) hT rfl (rtt_one _ _ _) ?_
        intro wF rwF owF zwF
        have hMF := hM.other owF (by omega)
        have hLF := hL.only owF (fun y e p => by omega)
        clear hM hT hL
        have hM := hMF
        have hL := hLF
        clear hMF hLF
        refine hK.out _ _ hM.g (fun hSx => ?_)
        clear hK K
        try simp only [Act.put]
        refine' wpAnyH_take (i := 11) (oi := ⟨some 10, .assign (.tmp 25), 3, "ref.go:244", #[⟨7, .data⟩, ⟨10, .chain⟩, ⟨0, .phase⟩, ⟨1, .phase⟩, ⟨2, .phase⟩, ⟨3, .phase⟩, ⟨4, .phase⟩, ⟨5, .phase⟩, ⟨6, .phase⟩, ⟨7, .phase⟩, ⟨8, .phase⟩, ⟨9, .phase⟩, ⟨10, .phase⟩], none⟩) (v := _) rfl (by kernel_rfl) (by kernel_rfl) (by kernel_rfl) (fun _ _ _ h => h) (Or.inl ⟨by rfl, ?hy42⟩) (by assumption) ?rest42
        case hy42 => (intro w hSw; (try dsimp only at hSw); go_simp; try with_reducible rfl)
        try simp only [Act.put, List.setIfInBounds_toArray, List.set_cons_zero, List.set_cons_succ]
        refine wpAnyH_done (by kernel_rfl) ?_ _
        have I : MidT w wF w1.heap.size w2.heap.size w3.heap.size w4.heap.size (w5.heap.size) P Pp G (.slice At nt ct) (.slice Al nl cl) VN EW KN (dX14 VW EW κ i u) (.slice X1 y1 z1) (.slice X2 y2 z2) (.slice X3 y3 z3) := ⟨hM, rwF, by omega, hL, HRO.out.below hM.below⟩
        clear hM hL rwE rwF owF zwF hSx
        generalize (w5.heap.size) = gT at I ⊢
        revert I
        revert gT
        revert wF X1 y1 z1 X2 y2 z2 X3 y3 z3
        exact key.down
    · go_simp
      go_at_call 39
      refine (KT.out _ hM.below).mono ?_
      rintro e wA ⟨rfl, bA⟩
      have hMA := hM.quiet bA
      clear hM
      have hM := hMA
      clear hMA
      go_wp2_with fail
      refine hK.out _ _ hM.g (fun hSx => ?_)
      clear hK K
      try simp only [Act.put, List.setIfInBounds_toArray, List.set_cons_zero, List.set_cons_succ]
      refine wpAnyH_ready (rs := [0, 8]) (by kernel_rfl) (by simp) ?_
      refine AllReadyH.cons (o := ⟨some 19, .load 51 (.tmp 3), 51, "ref.go:244", #[], none⟩) rfl (fun K hK => ?_) (AllReadyH.cons (o := ⟨some 9, .alloc 53, 0, "ref.go:244", #[], none⟩) rfl (fun K hK => ?_) AllReadyH.nil)
      · refine loadRow_step rfl 51 (.tmp 3) rfl w1.heap.size rfl [.slice A1 n1 c1, .slice A2 n2 c2, .slice A3 n3 c3] rp17_struct (rp17_size.trans (congrArg some rfl)) 51 hM.p ?_
        refine hK.out _ _ hM.g (fun hSx => ?_)
        clear hK K
        try simp only [Act.put, List.setIfInBounds_toArray, List.set_cons_zero, List.set_cons_succ]
        refine wpAnyH_ready (rs := [3, 8]) (by kernel_rfl) (by simp) ?_
        refine AllReadyH.cons (o := ⟨some 22, .call { callee := .value (.func 38), args := #[.tmp 19, .tmp 21], argTypes := #[51, 53] }, 90, "ref.go:244", #[⟨0, .data⟩, ⟨2, .data⟩, ⟨2, .chain⟩], none⟩) rfl (fun K hK => ?_) (AllReadyH.cons (o := ⟨some 9, .alloc 53, 0, "ref.go:244", #[], none⟩) rfl (fun K hK => ?_) AllReadyH.nil)
        · go_simp
          go_at_call 38
          refine (KD.out _ hM.below).mono ?_
          rintro e wD ⟨X1, y1, z1, X2, y2, z2, X3, y3, z3, rfl, lD, bD⟩
          have hMD := hM.quiet bD
          have hs3 := hM.lt.2.2.2.2
          have hL := lD.weak (Q := fun y => (Pp y ∨ w.heap.size ≤ y) ∧ (y < w.heap.size ∨ w4.heap.size < y)) (fun y hy p => ⟨by rcases p with p | p; exact .inl p.1; exact .inr (by have := hM.below.size; omega), by rcases p with p | p <;> omega⟩)
          clear hM lD
          have hM := hMD
          clear hMD
          go_wp2_with fail
          refine hK.out _ _ hM.g (fun hSx => ?_)
          clear hK K
          try simp only [Act.put, List.setIfInBounds_toArray, List.set_cons_zero, List.set_cons_succ]
          refine' wpAnyH_take (i := 4) (oi := ⟨some 18, .move (.tmp 22), 90, "ref.go:244", #[⟨3, .data⟩], none⟩) (v := _) rfl (by kernel_rfl) (by kernel_rfl) (by kernel_rfl) (fun _ _ _ h => h) (Or.inl ⟨by rfl, ?hy47⟩) (by assumption) ?rest47
          case hy47 => (intro w hSw; (try dsimp only at hSw); go_simp; try with_reducible rfl)
          try simp only [Act.put, List.setIfInBounds_toArray, List.set_cons_zero, List.set_cons_succ]
          refine' wpAnyH_take (i := 5) (oi := ⟨some 23, .extract (.tmp 18) 0, 51, "ref.go:244", #[⟨4, .data⟩], none⟩) (v := _) rfl (by kernel_rfl) (by kernel_rfl) (by kernel_rfl) (fun _ _ _ h => h) (Or.inl ⟨by rfl, ?hy48⟩) (by assumption) ?rest48
          case hy48 => (intro w hSw; (try dsimp only at hSw); go_simp; try with_reducible rfl)
          try simp only [Act.put, List.setIfInBounds_toArray, List.set_cons_zero, List.set_cons_succ]
          refine' wpAnyH_take (i := 6) (oi := ⟨some 24, .extract (.tmp 18) 1, 53, "ref.go:244", #[⟨4, .data⟩, ⟨9, .gcOnly .lateStores⟩], none⟩) (v := _) rfl (by kernel_rfl) (by kernel_rfl) (by kernel_rfl) (fun _ _ _ h => h) (Or.inl ⟨by rfl, ?hy49⟩) (by assumption) ?rest49
          case hy49 => (intro w hSw; (try dsimp only at hSw); go_simp; try with_reducible rfl)
          try simp only [Act.put, List.setIfInBounds_toArray, List.set_cons_zero, List.set_cons_succ]
          refine' wpAnyH_take (i := 7) (oi := ⟨some 25, .extract (.tmp 18) 2, 3, "ref.go:244", #[⟨4, .data⟩, ⟨10, .gcOnly .lateStores⟩], none⟩) (v := _) rfl (by kernel_rfl) (by kernel_rfl) (by kernel_rfl) (fun _ _ _ h => h) (Or.inl ⟨by rfl, ?hy50⟩) (by assumption) ?rest50
          case hy50 => (intro w hSw; (try dsimp only at hSw); go_simp; try with_reducible rfl)
          try simp only [Act.put, List.setIfInBounds_toArray, List.set_cons_zero, List.set_cons_succ]
          refine wpAnyH_ready (rs := [8]) (by kernel_rfl) (by simp) ?_
          refine AllReadyH.cons (o := ⟨some 9, .alloc 53, 0, "ref.go:244", #[], none⟩) rfl (fun K hK => ?_) AllReadyH.nil
          refine alloc_step rfl 53 rfl _ rtt_zero ?_
          intro wB rB bB zB
          have hMB := hM.quiet bB
          have ht4 : w4.heap.size < wD.heap.size := hM.lt.2.2.2.2
          have hLB := hL.below bB
          have hyT := hL.weak (Q := fun y => (Pp y ∨ w.heap.size ≤ y) ∧ (y < w.heap.size ∨ w4.heap.size < y) ∧ y ≠ wD.heap.size) (fun y hy p => ⟨p.1, p.2, by omega⟩)
          have hLT := hyT.below bB
          clear hL hLB hyT
          have hL := hLT
          clear hLT
          clear hM
          have hM := hMB
          clear hMB
          have hT : Row wB wD.heap.size 53 (tcT 0 0 0) := rB
          clear rB bB
          refine hK.out _ _ hM.g (fun hSx => ?_)
          clear hK K
          try simp only [Act.put, List.setIfInBounds_toArray, List.set_cons_zero, List.set_cons_succ]
          refine wpAnyH_ready (rs := [9]) (by kernel_rfl) (by simp) ?_
          refine AllReadyH.cons (o := ⟨none, .store 51 (.tmp 3) (.tmp 23), 0, "ref.go:244", #[⟨5, .data⟩, ⟨3, .chain⟩, ⟨0, .phase⟩, ⟨1, .phase⟩, ⟨2, .phase⟩, ⟨3, .phase⟩, ⟨4, .phase⟩, ⟨5, .phase⟩, ⟨6, .textOnly .lateStores⟩, ⟨7, .textOnly .lateStores⟩, ⟨8, .phase⟩], none⟩) rfl (fun K hK => ?_) AllReadyH.nil
          refine storeRow_step rfl 51 (.tmp 3) (.tmp 23) rfl w1.heap.size rfl ([.slice X1 y1 z1, .slice X2 y2 z2, .slice X3 y3 z3]) rfl (rp17_size.trans (congrArg some rfl)) 51 [.slice A1 n1 c1, .slice A2 n2 c2, .slice A3 n3 c3] hM.p rfl rp17_one ?_
          intro wE rwE owE zwE
          have hME := hM.plain owE rwE
          have hTE := hT.only owE (fun e => by have := hM.lt; omega)
          have hLE := hL.only owE (fun y e p => by have := hM.lt; omega)
          clear hM hT hL
          have hM := hME
          have hT := hTE
          have hL := hLE
          clear hME hTE hLE
          refine hK.out _ _ hM.g (fun hSx => ?_)
          clear hK K
          try simp only [Act.put]
          refine wpAnyH_ready (rs := [10]) (by kernel_rfl) (by simp) ?_
          refine AllReadyH.cons (o := ⟨none, .store 53 (.tmp 9) (.tmp 24), 0, "ref.go:244", #[⟨8, .data⟩, ⟨6, .data⟩, ⟨9, .chain⟩, ⟨0, .phase⟩, ⟨1, .phase⟩, ⟨2, .phase⟩, ⟨3, .phase⟩, ⟨4, .phase⟩, ⟨5, .phase⟩, ⟨6, .phase⟩, ⟨7, .textOnly .lateStores⟩, ⟨8, .phase⟩, ⟨9, .phase⟩], none⟩) rfl (fun K hK => ?_) AllReadyH.nil
          refine storeRow_step rfl 53 (.tmp 9) (.tmp 24) rfl wD.heap.size rfl (tcT (dX14 VW EW κ i u).1 (dX14 VW EW κ i u).2.1 (dX14 VW EW κ i u).2.2) rfl (rtt_size.trans (congrArg some rfl)) 53 (tcT 0 0 0) hT rfl (rtt_one _ _ _) ?_
          intro wF rwF owF zwF
          have hMF := hM.other owF (by omega)
          have hLF := hL.only owF (fun y e p => by omega)
          clear hM hT hL
          have hM := hMF
          have hL := hLF
          clear hMF hLF
          refine hK.out _ _ hM.g (fun hSx => ?_)
          clear hK K
          try simp only [Act.put]
          refine' wpAnyH_take (i := 11) (oi := ⟨some 10, .assign (.tmp 25), 3, "ref.go:244", #[⟨7, .data⟩, ⟨10, .chain⟩, ⟨0, .phase⟩, ⟨1, .phase⟩, ⟨2, .phase⟩, ⟨3, .phase⟩, ⟨4, .phase⟩, ⟨5, .phase⟩, ⟨6, .phase⟩, ⟨7, .phase⟩, ⟨8, .phase⟩, ⟨9, .phase⟩, ⟨10, .phase⟩], none⟩) (v := _) rfl (by kernel_rfl) (by kernel_rfl) (by kernel_rfl) (fun _ _ _ h => h) (Or.inl ⟨by rfl, ?hy54⟩) (by assumption) ?rest54
          case hy54 => (intro w hSw; (try dsimp only at hSw); go_simp; try with_reducible rfl)
          try simp only [Act.put, List.setIfInBounds_toArray, List.set_cons_zero, List.set_cons_succ]
          refine wpAnyH_done (by kernel_rfl) ?_ _
          have I : MidT w wF w1.heap.size w2.heap.size w3.heap.size w4.heap.size (wD.heap.size) P Pp G (.slice At nt ct) (.slice Al nl cl) VN EW KN (dX14 VW EW κ i u) (.slice X1 y1 z1) (.slice X2 y2 z2) (.slice X3 y3 z3) := ⟨hM, rwF, by omega, hL, HRO.out.below hM.below⟩
          clear hM hL rwE rwF owF zwF hSx
          generalize (wD.heap.size) = gT at I ⊢
          revert I
          revert gT
          revert wF X1 y1 z1 X2 y2 z2 X3 y3 z3
          exact key.down
        · refine alloc_step rfl 53 rfl _ rtt_zero ?_
          intro wB rB bB zB
          have hMB := hM.quiet bB
          have ht4 : w4.heap.size < wA.heap.size := hM.lt.2.2.2.2
          clear hM
          have hM := hMB
          clear hMB
          have hT : Row wB wA.heap.size 53 (tcT 0 0 0) := rB
          clear rB bB
          refine hK.out _ _ hM.g (fun hSx => ?_)
          clear hK K
          try simp only [Act.put, List.setIfInBounds_toArray, List.set_cons_zero, List.set_cons_succ]
          refine wpAnyH_ready (rs := [3]) (by kernel_rfl) (by simp) ?_
          refine AllReadyH.cons (o := ⟨some 22, .call { callee := .value (.func 38), args := #[.tmp 19, .tmp 21], argTypes := #[51, 53] }, 90, "ref.go:244", #[⟨0, .data⟩, ⟨2, .data⟩, ⟨2, .chain⟩], none⟩) rfl (fun K hK => ?_) AllReadyH.nil
          go_simp
          go_at_call 38
          refine (KD.out _ hM.below).mono ?_
          rintro e wD ⟨X1, y1, z1, X2, y2, z2, X3, y3, z3, rfl, lD, bD⟩
          have hMD := hM.quiet bD
          have hs3 := hM.lt.2.2.2.2
          have hTD := hT.below bD
          have hst := hT.lt
          have hL := lD.weak (Q := fun y => (Pp y ∨ w.heap.size ≤ y) ∧ (y < w.heap.size ∨ w4.heap.size < y) ∧ y ≠ wA.heap.size) (fun y hy p => ⟨by rcases p with p | p; exact .inl p.1; exact .inr (by have := hM.below.size; omega), by rcases p with p | p <;> omega, by rcases p with p | p; have := hM.below.size; have := hM.lt; omega; omega⟩)
          clear hM lD
          have hM := hMD
          clear hMD
          clear hT
          have hT := hTD
          clear hTD
          go_wp2_with fail
          refine hK.out _ _ hM.g (fun hSx => ?_)
          clear hK K
          try simp only [Act.put, List.setIfInBounds_toArray, List.set_cons_zero, List.set_cons_succ]
          refine' wpAnyH_take (i := 4) (oi := ⟨some 18, .move (.tmp 22), 90, "ref.go:244", #[⟨3, .data⟩], none⟩) (v := _) rfl (by kernel_rfl) (by kernel_rfl) (by kernel_rfl) (fun _ _ _ h => h) (Or.inl ⟨by rfl, ?hy56⟩) (by assumption) ?rest56
          case hy56 => (intro w hSw; (try dsimp only at hSw); go_simp; try with_reducible rfl)
          try simp only [Act.put, List.setIfInBounds_toArray, List.set_cons_zero, List.set_cons_succ]
          refine' wpAnyH_take (i := 5) (oi := ⟨some 23, .extract (.tmp 18) 0, 51, "ref.go:244", #[⟨4, .data⟩], none⟩) (v := _) rfl (by kernel_rfl) (by kernel_rfl) (by kernel_rfl) (fun _ _ _ h => h) (Or.inl ⟨by rfl, ?hy57⟩) (by assumption) ?rest57
          case hy57 => (intro w hSw; (try dsimp only at hSw); go_simp; try with_reducible rfl)
          try simp only [Act.put, List.setIfInBounds_toArray, List.set_cons_zero, List.set_cons_succ]
          refine' wpAnyH_take (i := 6) (oi := ⟨some 24, .extract (.tmp 18) 1, 53, "ref.go:244", #[⟨4, .data⟩, ⟨9, .gcOnly .lateStores⟩], none⟩) (v := _) rfl (by kernel_rfl) (by kernel_rfl) (by kernel_rfl) (fun _ _ _ h => h) (Or.inl ⟨by rfl, ?hy58⟩) (by assumption) ?rest58
          case hy58 => (intro w hSw; (try dsimp only at hSw); go_simp; try with_reducible rfl)
          try simp only [Act.put, List.setIfInBounds_toArray, List.set_cons_zero, List.set_cons_succ]
          refine' wpAnyH_take (i := 7) (oi := ⟨some 25, .extract (.tmp 18) 2, 3, "ref.go:244", #[⟨4, .data⟩, ⟨10, .gcOnly .lateStores⟩], none⟩) (v := _) rfl (by kernel_rfl) (by kernel_rfl) (by kernel_rfl) (fun _ _ _ h => h) (Or.inl ⟨by rfl, ?hy59⟩) (by assumption) ?rest59
          case hy59 => (intro w hSw; (try dsimp only at hSw); go_simp; try with_reducible rfl)
          try simp only [Act.put, List.setIfInBounds_toArray, List.set_cons_zero, List.set_cons_succ]
          refine wpAnyH_ready (rs := [9]) (by kernel_rfl) (by simp) ?_
          refine AllReadyH.cons (o := ⟨none, .store 51 (.tmp 3) (.tmp 23), 0, "ref.go:244", #[⟨5, .data⟩, ⟨3, .chain⟩, ⟨0, .phase⟩, ⟨1, .phase⟩, ⟨2, .phase⟩, ⟨3, .phase⟩, ⟨4, .phase⟩, ⟨5, .phase⟩, ⟨6, .textOnly .lateStores⟩, ⟨7, .textOnly .lateStores⟩, ⟨8, .phase⟩], none⟩) rfl (fun K hK => ?_) AllReadyH.nil
          refine storeRow_step rfl 51 (.tmp 3) (.tmp 23) rfl w1.heap.size rfl ([.slice X1 y1 z1, .slice X2 y2 z2, .slice X3 y3 z3]) rfl (rp17_size.trans (congrArg some rfl)) 51 [.slice A1 n1 c1, .slice A2 n2 c2, .slice A3 n3 c3] hM.p rfl rp17_one ?_
          intro wE rwE owE zwE
          have hME := hM.plain owE rwE
          have hTE := hT.only owE (fun e => by have := hM.lt; omega)
          have hLE := hL.only owE (fun y e p => by have := hM.lt; omega)
          clear hM hT hL
          have hM := hME
          have hT := hTE
          have hL := hLE
          clear hME hTE hLE
          refine hK.out _ _ hM.g (fun hSx => ?_)
          clear hK K
          try simp only [Act.put]
          refine wpAnyH_ready (rs := [10]) (by kernel_rfl) (by simp) ?_
          refine AllReadyH.cons (o := ⟨none, .store 53 (.tmp 9) (.tmp 24), 0, "ref.go:244", #[⟨8, .data⟩, ⟨6, .data⟩, ⟨9, .chain⟩, ⟨0, .phase⟩, ⟨1, .phase⟩, ⟨2, .phase⟩, ⟨3, .phase⟩, ⟨4, .phase⟩, ⟨5, .phase⟩, ⟨6, .phase⟩, ⟨7, .textOnly .lateStores⟩, ⟨8, .phase⟩, ⟨9, .phase⟩], none⟩) rfl (fun K hK => ?_) AllReadyH.nil
          refine storeRow_step rfl 53 (.tmp 9) (.tmp 24) rfl wA.heap.size rfl (tcT (dX14 VW EW κ i u).1 (dX14 VW EW κ i u).2.1 (dX14 VW EW κ i u).2.2) rfl (rtt_size.trans (congrArg some rfl)) 53 (tcT 0 0 0) hT rfl (rtt_one _ _ _) ?_
          intro wF rwF owF zwF
          have hMF := hM.other owF (by omega)
          have hLF := hL.only owF (fun y e p => by omega)
          clear hM hT hL
          have hM := hMF
          have hL := hLF
          clear hMF hLF
          refine hK.out _ _ hM.g (fun hSx => ?_)
          clear hK K
          try simp only [Act.put]
          refine' wpAnyH_take (i := 11) (oi := ⟨some 10, .assign (.tmp 25), 3, "ref.go:244", #[⟨7, .data⟩, ⟨10, .chain⟩, ⟨0, .phase⟩, ⟨1, .phase⟩, ⟨2, .phase⟩, ⟨3, .phase⟩, ⟨4, .phase⟩, ⟨5, .phase⟩, ⟨6, .phase⟩, ⟨7, .phase⟩, ⟨8, .phase⟩, ⟨9, .phase⟩, ⟨10, .phase⟩], none⟩) (v := _) rfl (by kernel_rfl) (by kernel_rfl) (by kernel_rfl) (fun _ _ _ h => h) (Or.inl ⟨by rfl, ?hy62⟩) (by assumption) ?rest62
          case hy62 => (intro w hSw; (try dsimp only at hSw); go_simp; try with_reducible rfl)
          try simp only [Act.put, List.setIfInBounds_toArray, List.set_cons_zero, List.set_cons_succ]
          refine wpAnyH_done (by kernel_rfl) ?_ _
          have I : MidT w wF w1.heap.size w2.heap.size w3.heap.size w4.heap.size (wA.heap.size) P Pp G (.slice At nt ct) (.slice Al nl cl) VN EW KN (dX14 VW EW κ i u) (.slice X1 y1 z1) (.slice X2 y2 z2) (.slice X3 y3 z3) := ⟨hM, rwF, by omega, hL, HRO.out.below hM.below⟩
          clear hM hL rwE rwF owF zwF hSx
          generalize (wA.heap.size) = gT at I ⊢
          revert I
          revert gT
          revert wF X1 y1 z1 X2 y2 z2 X3 y3 z3
          exact key.down
      · refine alloc_step rfl 53 rfl _ rtt_zero ?_
        intro wB rB bB zB
        have hMB := hM.quiet bB
        have ht4 : w4.heap.size < wA.heap.size := hM.lt.2.2.2.2
        clear hM
        have hM := hMB
        clear hMB
        have hT : Row wB wA.heap.size 53 (tcT 0 0 0) := rB
        clear rB bB
        refine hK.out _ _ hM.g (fun hSx => ?_)
        clear hK K
        try simp only [Act.put, List.setIfInBounds_toArray, List.set_cons_zero, List.set_cons_succ]
        refine wpAnyH_ready (rs := [0]) (by kernel_rfl) (by simp) ?_
        refine AllReadyH.cons (o := ⟨some 19, .load 51 (.tmp 3), 51, "ref.go:244", #[], none⟩) rfl (fun K hK => ?_) AllReadyH.nil
        refine loadRow_step rfl 51 (.tmp 3) rfl w1.heap.size rfl [.slice A1 n1 c1, .slice A2 n2 c2, .slice A3 n3 c3] rp17_struct (rp17_size.trans (congrArg some rfl)) 51 hM.p ?_
        refine hK.out _ _ hM.g (fun hSx => ?_)
        clear hK K
        try simp only [Act.put, List.setIfInBounds_toArray, List.set_cons_zero, List.set_cons_succ]
        refine wpAnyH_ready (rs := [3]) (by kernel_rfl) (by simp) ?_
        refine AllReadyH.cons (o := ⟨some 22, .call { callee := .value (.func 38), args := #[.tmp 19, .tmp 21], argTypes := #[51, 53] }, 90, "ref.go:244", #[⟨0, .data⟩, ⟨2, .data⟩, ⟨2, .chain⟩], none⟩) rfl (fun K hK => ?_) AllReadyH.nil
        go_simp
        go_at_call 38
        refine (KD.out _ hM.below).mono ?_
        rintro e wD ⟨X1, y1, z1, X2, y2, z2, X3, y3, z3, rfl, lD, bD⟩
        have hMD := hM.quiet bD
        have hs3 := hM.lt.2.2.2.2
        have hTD := hT.below bD
        have hst := hT.lt
        have hL := lD.weak (Q := fun y => (Pp y ∨ w.heap.size ≤ y) ∧ (y < w.heap.size ∨ w4.heap.size < y) ∧ y ≠ wA.heap.size) (fun y hy p => ⟨by rcases p with p | p; exact .inl p.1; exact .inr (by have := hM.below.size; omega), by rcases p with p | p <;> omega, by rcases p with p | p; have := hM.below.size; have := hM.lt; omega; omega⟩)
        clear hM lD
        have hM := hMD
        clear hMD
        clear hT
        have hT := hTD
        clear hTD
        go_wp2_with fail
        refine hK.out _ _ hM.g (fun hSx => ?_)
        clear hK K
        try simp only [Act.put, List.setIfInBounds_toArray, List.set_cons_zero, List.set_cons_succ]
        refine' wpAnyH_take (i := 4) (oi := ⟨some 18, .move (.tmp 22), 90, "ref.go:244", #[⟨3, .data⟩], none⟩) (v := _) rfl (by kernel_rfl) (by kernel_rfl) (by kernel_rfl) (fun _ _ _ h => h) (Or.inl ⟨by rfl, ?hy65⟩) (by assumption) ?rest65
        case hy65 => (intro w hSw; (try dsimp only at hSw); go_simp; try with_reducible rfl)
        try simp only [Act.put, List.setIfInBounds_toArray, List.set_cons_zero, List.set_cons_succ]
        refine' wpAnyH_take (i := 5) (oi := ⟨some 23, .extract (.tmp 18) 0, 51, "ref.go:244", #[⟨4, .data⟩], none⟩) (v := _) rfl (by kernel_rfl) (by kernel_rfl) (by kernel_rfl) (fun _ _ _ h => h) (Or.inl ⟨by rfl, ?hy66⟩) (by assumption) ?rest66
        case hy66 => (intro w hSw; (try dsimp only at hSw); go_simp; try with_reducible rfl)
        try simp only [Act.put, List.setIfInBounds_toArray, List.set_cons_zero, List.set_cons_succ]
        refine' wpAnyH_take (i := 6) (oi := ⟨some 24, .extract (.tmp 18) 1, 53, "ref.go:244", #[⟨4, .data⟩, ⟨9, .gcOnly .lateStores⟩], none⟩) (v := _) rfl (by kernel_rfl) (by kernel_rfl) (by kernel_rfl) (fun _ _ _ h => h) (Or.inl ⟨by rfl, ?hy67⟩) (by assumption) ?rest67
        case hy67 => (intro w hSw; (try dsimp only at hSw); go_simp; try with_reducible rfl)
        try simp only [Act.put, List.setIfInBounds_toArray, List.set_cons_zero, List.set_cons_succ]
        refine' wpAnyH_take (i := 7) (oi := ⟨some 25, .extract (.tmp 18) 2, 3, "ref.go:244", #[⟨4, .data⟩, ⟨10, .gcOnly .lateStores⟩], none⟩) (v := _) rfl (by kernel_rfl) (by kernel_rfl) (by kernel_rfl) (fun _ _ _ h => h) (Or.inl ⟨by rfl, ?hy68⟩) (by assumption) ?rest68
        case hy68 => (intro w hSw; (try dsimp only at hSw); go_simp; try with_reducible rfl)
        try simp only [Act.put, List.setIfInBounds_toArray, List.set_cons_zero, List.set_cons_succ]
        refine wpAnyH_ready (rs := [9]) (by kernel_rfl) (by simp) ?_
        refine AllReadyH.cons (o := ⟨none, .store 51 (.tmp 3) (.tmp 23), 0, "ref.go:244", #[⟨5, .data⟩, ⟨3, .chain⟩, ⟨0, .phase⟩, ⟨1, .phase⟩, ⟨2, .phase⟩, ⟨3, .phase⟩, ⟨4, .phase⟩, ⟨5, .phase⟩, ⟨6, .textOnly .lateStores⟩, ⟨7, .textOnly .lateStores⟩, ⟨8, .phase⟩], none⟩) rfl (fun K hK => ?_) AllReadyH.nil
        refine storeRow_step rfl 51 (.tmp 3) (.tmp 23) rfl w1.heap.size rfl ([.slice X1 y1 z1, .slice X2 y2 z2, .slice X3 y3 z3]) rfl (rp17_size.trans (congrArg some rfl)) 51 [.slice A1 n1 c1, .slice A2 n2 c2, .slice A3 n3 c3] hM.p rfl rp17_one ?_
        intro wE rwE owE zwE
        have hME := hM.plain owE rwE
        have hTE := hT.only owE (fun e => by have := hM.lt; omega)
        have hLE := hL.only owE (fun y e p => by have := hM.lt; omega)
        clear hM hT hL
        have hM := hME
        have hT := hTE
        have hL := hLE
        clear hME hTE hLE
        refine hK.out _ _ hM.g (fun hSx => ?_)
        clear hK K
        try simp only [Act.put]
        refine wpAnyH_ready (rs := [10]) (by kernel_rfl) (by simp) ?_
        refine AllReadyH.cons (o := ⟨none, .store 53 (.tmp 9) (.tmp 24), 0, "ref.go:244", #[⟨8, .data⟩, ⟨6, .data⟩, ⟨9, .chain⟩, ⟨0, .phase⟩, ⟨1, .phase⟩, ⟨2, .phase⟩, ⟨3, .phase⟩, ⟨4, .phase⟩, ⟨5, .phase⟩, ⟨6, .phase⟩, ⟨7, .textOnly .lateStores⟩, ⟨8, .phase⟩, ⟨9, .phase⟩], none⟩) rfl (fun K hK => ?_) AllReadyH.nil
        refine storeRow_step rfl 53 (.tmp 9) (.tmp 24) rfl wA.heap.size rfl (tcT (dX14 VW EW κ i u).1 (dX14 VW EW κ i u).2.1 (dX14 VW EW κ i u).2.2) rfl (rtt_size.trans (congrArg some rfl)) 53 (tcT 0 0 0) hT rfl (rtt_one _ _ _) ?_
        intro wF rwF owF zwF
        have hMF := hM.other owF (by omega)
        have hLF := hL.only owF (fun y e p => by omega)
        clear hM hT hL
        have hM := hMF
        have hL := hLF
        clear hMF hLF
        refine hK.out _ _ hM.g (fun hSx => ?_)
        clear hK K
        try simp only [Act.put]
        refine' wpAnyH_take (i := 11) (oi := ⟨some 10, .assign (.tmp 25), 3, "ref.go:244", #[⟨7, .data⟩, ⟨10, .chain⟩, ⟨0, .phase⟩, ⟨1, .phase⟩, ⟨2, .phase⟩, ⟨3, .phase⟩, ⟨4, .phase⟩, ⟨5, .phase⟩, ⟨6, .phase⟩, ⟨7, .phase⟩, ⟨8, .phase⟩, ⟨9, .phase⟩, ⟨10, .phase⟩], none⟩) (v := _) rfl (by kernel_rfl) (by kernel_rfl) (by kernel_rfl) (fun _ _ _ h => h) (Or.inl ⟨by rfl, ?hy71⟩) (by assumption) ?rest71
        case hy71 => (intro w hSw; (try dsimp only at hSw); go_simp; try with_reducible rfl)
        try simp only [Act.put, List.setIfInBounds_toArray, List.set_cons_zero, List.set_cons_succ]
        refine wpAnyH_done (by kernel_rfl) ?_ _
        have I : MidT w wF w1.heap.size w2.heap.size w3.heap.size w4.heap.size (wA.heap.size) P Pp G (.slice At nt ct) (.slice Al nl cl) VN EW KN (dX14 VW EW κ i u) (.slice X1 y1 z1) (.slice X2 y2 z2) (.slice X3 y3 z3) := ⟨hM, rwF, by omega, hL, HRO.out.below hM.below⟩
        clear hM hL rwE rwF owF zwF hSx
        generalize (wA.heap.size) = gT at I ⊢
        revert I
        revert gT
        revert wF X1 y1 z1 X2 y2 z2 X3 y3 z3
        exact key.down
    · refine alloc_step rfl 53 rfl _ rtt_zero ?_
      intro wB rB bB zB
      have hMB := hM.quiet bB
      have ht4 : w4.heap.size < w5.heap.size := hM.lt.2.2.2.2
      clear hM
      have hM := hMB
      clear hMB
      have hT : Row wB w5.heap.size 53 (tcT 0 0 0) := rB
      clear rB bB
      refine hK.out _ _ hM.g (fun hSx => ?_)
      clear hK K
      try simp only [Act.put, List.setIfInBounds_toArray, List.set_cons_zero, List.set_cons_succ]
      refine wpAnyH_ready (rs := [0, 2]) (by kernel_rfl) (by simp) ?_
      refine AllReadyH.cons (o := ⟨some 19, .load 51 (.tmp 3), 51, "ref.go:244", #[], none⟩) rfl (fun K hK => ?_) (AllReadyH.cons (o := ⟨some 21, .call { callee := .value (.func 39), args := #[.tmp 20], argTypes := #[37] }, 53, "ref.go:244", #[⟨1, .data⟩], none⟩) rfl (fun K hK => ?_) AllReadyH.nil)
      · refine loadRow_step rfl 51 (.tmp 3) rfl w1.heap.size rfl [.slice A1 n1 c1, .slice A2 n2 c2, .slice A3 n3 c3] rp17_struct (rp17_size.trans (congrArg some rfl)) 51 hM.p ?_
        refine hK.out _ _ hM.g (fun hSx => ?_)
        clear hK K
        try simp only [Act.put, List.setIfInBounds_toArray, List.set_cons_zero, List.set_cons_succ]
        refine wpAnyH_ready (rs := [2]) (by kernel_rfl) (by simp) ?_
        refine AllReadyH.cons (o := ⟨some 21, .call { callee := .value (.func 39), args := #[.tmp 20], argTypes := #[37] }, 53, "ref.go:244", #[⟨1, .data⟩], none⟩) rfl (fun K hK => ?_) AllReadyH.nil
        go_simp
        go_at_call 39
        refine (KT.out _ hM.below).mono ?_
        rintro e wA ⟨rfl, bA⟩
        have hMA := hM.quiet bA
        have hTA := hT.below bA
        clear hM
        have hM := hMA
        clear hMA
        clear hT
        have hT := hTA
        clear hTA
        go_wp2_with fail
        refine hK.out _ _ hM.g (fun hSx => ?_)
        clear hK K
        try simp only [Act.put, List.setIfInBounds_toArray, List.set_cons_zero, List.set_cons_succ]
        refine wpAnyH_ready (rs := [3]) (by kernel_rfl) (by simp) ?_
        refine AllReadyH.cons (o := ⟨some 22, .call { callee := .value (.func 38), args := #[.tmp 19, .tmp 21], argTypes := #[51, 53] }, 90, "ref.go:244", #[⟨0, .data⟩, ⟨2, .data⟩, ⟨2, .chain⟩], none⟩) rfl (fun K hK => ?_) AllReadyH.nil
        go_simp
        go_at_call 38
        refine (KD.out _ hM.below).mono ?_
        rintro e wD ⟨X1, y1, z1, X2, y2, z2, X3, y3, z3, rfl, lD, bD⟩
        have hMD := hM.quiet bD
        have hs3 := hM.lt.2.2.2.2
        have hTD := hT.below bD
        have hst := hT.lt
        have hL := lD.weak (Q := fun y => (Pp y ∨ w.heap.size ≤ y) ∧ (y < w.heap.size ∨ w4.heap.size < y) ∧ y ≠ w5.heap.size) (fun y hy p => ⟨by rcases p with p | p; exact .inl p.1; exact .inr (by have := hM.below.size; omega), by rcases p with p | p <;> omega, by rcases p with p | p; have := hM.below.size; have := hM.lt; omega; omega⟩)
        clear hM lD
        have hM := hMD
        clear hMD
        clear hT
        have hT := hTD
        clear hTD
        go_wp2_with fail
        refine hK.out _ _ hM.g (fun hSx => ?_)
        clear hK K
        try simp only [Act.put, List.setIfInBounds_toArray, List.set_cons_zero, List.set_cons_succ]
        refine' wpAnyH_take (i := 4) (oi := ⟨some 18, .move (.tmp 22), 90, "ref.go:244", #[⟨3, .data⟩], none⟩) (v := _) rfl (by kernel_rfl) (by kernel_rfl) (by kernel_rfl) (fun _ _ _ h => h) (Or.inl ⟨by rfl, ?hy76⟩) (by assumption) ?rest76
        case hy76 => (intro w hSw; (try dsimp only at hSw); go_simp; try with_reducible rfl)
        try simp only [Act.put, List.setIfInBounds_toArray, List.set_cons_zero, List.set_cons_succ]
        refine' wpAnyH_take (i := 5) (oi := ⟨some 23, .extract (.tmp 18) 0, 51, "ref.go:244", #[⟨4, .data⟩], none⟩) (v := _) rfl (by kernel_rfl) (by kernel_rfl) (by kernel_rfl) (fun _ _ _ h => h) (Or.inl ⟨by rfl, ?hy77⟩) (by assumption) ?rest77
        case hy77 => (intro w hSw; (try dsimp only at hSw); go_simp; try with_reducible rfl)
        try simp only [Act.put, List.setIfInBounds_toArray, List.set_cons_zero, List.set_cons_succ]
        refine' wpAnyH_take (i := 6) (oi := ⟨some 24, .extract (.tmp 18) 1, 53, "ref.go:244", #[⟨4, .data⟩, ⟨9, .gcOnly .lateStores⟩], none⟩) (v := _) rfl (by kernel_rfl) (by kernel_rfl) (by kernel_rfl) (fun _ _ _ h => h) (Or.inl ⟨by rfl, ?hy78⟩) (by assumption) ?rest78
        case hy78 => (intro w hSw; (try dsimp only at hSw); go_simp; try with_reducible rfl)
        try simp only [Act.put, List.setIfInBounds_toArray, List.set_cons_zero, List.set_cons_succ]
        refine' wpAnyH_take (i := 7) (oi := ⟨some 25, .extract (.tmp 18) 2, 3, "ref.go:244", #[⟨4, .data⟩, ⟨10, .gcOnly .lateStores⟩], none⟩) (v := _) rfl (by kernel_rfl) (by kernel_rfl) (by kernel_rfl) (fun _ _ _ h => h) (Or.inl ⟨by rfl, ?hy79⟩) (by assumption) ?rest79
        case hy79 => (intro w hSw; (try dsimp only at hSw); go_simp; try with_reducible rfl)
        try simp only [Act.put, List.setIfInBounds_toArray, List.set_cons_zero, List.set_cons_succ]
        refine wpAnyH_ready (rs := [9]) (by kernel_rfl) (by simp) ?_
        refine AllReadyH.cons (o := ⟨none, .store 51 (.tmp 3) (.tmp 23), 0, "ref.go:244", #[⟨5, .data⟩, ⟨3, .chain⟩, ⟨0, .phase⟩, ⟨1, .phase⟩, ⟨2, .phase⟩, ⟨3, .phase⟩, ⟨4, .phase⟩, ⟨5, .phase⟩, ⟨6, .textOnly .lateStores⟩, ⟨7, .textOnly .lateStores⟩, ⟨8, .phase⟩], none⟩) rfl (fun K hK => ?_) AllReadyH.nil
        refine storeRow_step rfl 51 (.tmp 3) (.tmp 23) rfl w1.heap.size rfl ([.slice X1 y1 z1, .slice X2 y2 z2, .slice X3 y3 z3]) rfl (rp17_size.trans (congrArg some rfl)) 51 [.slice A1 n1 c1, .slice A2 n2 c2, .slice A3 n3 c3] hM.p rfl rp17_one ?_
        intro wE rwE owE zwE
        have hME := hM.plain owE rwE
        have hTE := hT.only owE (fun e => by have := hM.lt; omega)
        have hLE := hL.only owE (fun y e p => by have := hM.lt; omega)
        clear hM hT hL
        have hM := hME
        have hT := hTE
        have hL := hLE
        clear hME hTE hLE
        refine hK.out _ _ hM.g (fun hSx => ?_)
        clear hK K
        try simp only [Act.put]
        refine wpAnyH_ready (rs := [10]) (by kernel_rfl) (by simp) ?_
        refine AllReadyH.cons (o := ⟨none, .store 53 (.tmp 9) (.tmp 24), 0, "ref.go:244", #[⟨8, .data⟩, ⟨6, .data⟩, ⟨9, .chain⟩, ⟨0, .phase⟩, ⟨1, .phase⟩, ⟨2, .phase⟩, ⟨3, .phase⟩, ⟨4, .phase⟩, ⟨5, .phase⟩, ⟨6, .phase⟩, ⟨7, .textOnly .lateStores⟩, ⟨8, .phase⟩, ⟨9, .phase⟩], none⟩) rfl (fun K hK => ?_) AllReadyH.nil
        refine storeRow_step rfl 53 (.tmp 9) (.tmp 24) rfl w5.heap.size rfl (tcT (dX14 VW EW κ i u).1 (dX14 VW EW κ i u).2.1 (dX14 VW EW κ i u).2.2) rfl (rtt_size.trans (congrArg some rfl)) 53 (tcT 0 0 0) hT rfl (rtt_one _ _ _) ?_
        intro wF rwF owF zwF
        have hMF := hM.other owF (by omega)
        have hLF := hL.only owF (fun y e p => by omega)
        clear hM hT hL
        have hM := hMF
        have hL := hLF
        clear hMF hLF
        refine hK.out _ _ hM.g (fun hSx => ?_)
        clear hK K
        try simp only [Act.put]
        refine' wpAnyH_take (i := 11) (oi := ⟨some 10, .assign (.tmp 25), 3, "ref.go:244", #[⟨7, .data⟩, ⟨10, .chain⟩, ⟨0, .phase⟩, ⟨1, .phase⟩, ⟨2, .phase⟩, ⟨3, .phase⟩, ⟨4, .phase⟩, ⟨5, .phase⟩, ⟨6, .phase⟩, ⟨7, .phase⟩, ⟨8, .phase⟩, ⟨9, .phase⟩, ⟨10, .phase⟩], none⟩) (v := _) rfl (by kernel_rfl) (by kernel_rfl) (by kernel_rfl) (fun _ _ _ h => h) (Or.inl ⟨by rfl, ?hy82⟩) (by assumption) ?rest82
        case hy82 => (intro w hSw; (try dsimp only at hSw); go_simp; try with_reducible rfl)
        try simp only [Act.put, List.setIfInBounds_toArray, List.set_cons_zero, List.set_cons_succ]
        refine wpAnyH_done (by kernel_rfl) ?_ _
        have I : MidT w wF w1.heap.size w2.heap.size w3.heap.size w4.heap.size (w5.heap.size) P Pp G (.slice At nt ct) (.slice Al nl cl) VN EW KN (dX14 VW EW κ i u) (.slice X1 y1 z1) (.slice X2 y2 z2) (.slice X3 y3 z3) := ⟨hM, rwF, by omega, hL, HRO.out.below hM.below⟩
        clear hM hL rwE rwF owF zwF hSx
        generalize (w5.heap.size) = gT at I ⊢
        revert I
        revert gT
        revert wF X1 y1 z1 X2 y2 z2 X3 y3 z3
        exact key.down
      · go_simp
        go_at_call 39
        refine (KT.out _ hM.below).mono ?_
        rintro e wA ⟨rfl, bA⟩
        have hMA := hM.quiet bA
        have hTA := hT.below bA
        clear hM
        have hM := hMA
        clear hMA
        clear hT
        have hT := hTA
        clear hTA
        go_wp2_with fail
        refine hK.out _ _ hM.g (fun hSx => ?_)
        clear hK K
        try simp only [Act.put, List.setIfInBounds_toArray, List.set_cons_zero, List.set_cons_succ]
        refine wpAnyH_ready (rs := [0]) (by kernel_rfl) (by simp) ?_
        refine AllReadyH.cons (o := ⟨some 19, .load 51 (.tmp 3), 51, "ref.go:244", #[], none⟩) rfl (fun K hK => ?_) AllReadyH.nil
        refine loadRow_step rfl 51 (.tmp 3) rfl w1.heap.size rfl [.slice A1 n1 c1, .slice A2 n2 c2, .slice A3 n3 c3] rp17_struct (rp17_size.trans (congrArg some rfl)) 51 hM.p ?_
        refine hK.out _ _ hM.g (fun hSx => ?_)
        clear hK K
        try simp only [Act.put, List.setIfInBounds_toArray, List.set_cons_zero, List.set_cons_succ]
        refine wpAnyH_ready (rs := [3]) (by kernel_rfl) (by simp) ?_
        refine AllReadyH.cons (o := ⟨some 22, .call { callee := .value (.func 38), args := #[.tmp 19, .tmp 21], argTypes := #[51, 53] }, 90, "ref.go:244", #[⟨0, .data⟩, ⟨2, .data⟩, ⟨2, .chain⟩], none⟩) rfl (fun K hK => ?_) AllReadyH.nil
        go_simp
        go_at_call 38
        refine (KD.out _ hM.below).mono ?_
        rintro e wD ⟨X1, y1, z1, X2, y2, z2, X3, y3, z3, rfl, lD, bD⟩
        have hMD := hM.quiet bD
        have hs3 := hM.lt.2.2.2.2
        have hTD := hT.below bD
        have hst := hT.lt
        have hL := lD.weak (Q := fun y => (Pp y ∨ w.heap.size ≤ y) ∧ (y < w.heap.size ∨ w4.heap.size < y) ∧ y ≠ w5.heap.size) (fun y hy p => ⟨by rcases p with p | p; exact .inl p.1; exact .inr (by have := hM.below.size; omega), by rcases p with p | p <;> omega, by rcases p with p | p; have := hM.below.size; have := hM.lt; omega; omega⟩)
        clear hM lD
        have hM := hMD
        clear hMD
        clear hT
        have hT := hTD
        clear hTD
        go_wp2_with fail
        refine hK.out _ _ hM.g (fun hSx => ?_)
        clear hK K
        try simp only [Act.put, List.setIfInBounds_toArray, List.set_cons_zero, List.set_cons_succ]
        refine' wpAnyH_take (i := 4) (oi := ⟨some 18, .move (.tmp 22), 90, "ref.go:244", #[⟨3, .data⟩], none⟩) (v := _) rfl (by kernel_rfl) (by kernel_rfl) (by kernel_rfl) (fun _ _ _ h => h) (Or.inl ⟨by rfl, ?hy85⟩) (by assumption) ?rest85
        case hy85 => (intro w hSw; (try dsimp only at hSw); go_simp; try with_reducible rfl)
        try simp only [Act.put, List.setIfInBounds_toArray, List.set_cons_zero, List.set_cons_succ]
        refine' wpAnyH_take (i := 5) (oi := ⟨some 23, .extract (.tmp 18) 0, 51, "ref.go:244", #[⟨4, .data⟩], none⟩) (v := _) rfl (by kernel_rfl) (by kernel_rfl) (by kernel_rfl) (fun _ _ _ h => h) (Or.inl ⟨by rfl, ?hy86⟩) (by assumption) ?rest86
        case hy86 => (intro w hSw; (try dsimp only at hSw); go_simp; try with_reducible rfl)
        try simp only [Act.put, List.setIfInBounds_toArray, List.set_cons_zero, List.set_cons_succ]
        refine' wpAnyH_take (i := 6) (oi := ⟨some 24, .extract (.tmp 18) 1, 53, "ref.go:244", #[⟨4, .data⟩, ⟨9, .gcOnly .lateStores⟩], none⟩) (v := _) rfl (by kernel_rfl) (by kernel_rfl) (by kernel_rfl) (fun _ _ _ h => h) (Or.inl ⟨by rfl, ?hy87⟩) (by assumption) ?rest87
        case hy87 => (intro w hSw; (try dsimp only at hSw); go_simp; try with_reducible rfl)
        try simp only [Act.put, List.setIfInBounds_toArray, List.set_cons_zero, List.set_cons_succ]
        refine' wpAnyH_take (i := 7) (oi := ⟨some 25, .extract (.tmp 18) 2, 3, "ref.go:244", #[⟨4, .data⟩, ⟨10, .gcOnly .lateStores⟩], none⟩) (v := _) rfl (by kernel_rfl) (by kernel_rfl) (by kernel_rfl) (fun _ _ _ h => h) (Or.inl ⟨by rfl, ?hy88⟩) (by assumption) ?rest88
        case hy88 => (intro w hSw; (try dsimp only at hSw); go_simp; try with_reducible rfl)
        try simp only [Act.put, List.setIfInBounds_toArray, List.set_cons_zero, List.set_cons_succ]
        refine wpAnyH_ready (rs := [9]) (by kernel_rfl) (by simp) ?_
        refine AllReadyH.cons (o := ⟨none, .store 51 (.tmp 3) (.tmp 23), 0, "ref.go:244", #[⟨5, .data⟩, ⟨3, .chain⟩, ⟨0, .phase⟩, ⟨1, .phase⟩, ⟨2, .phase⟩, ⟨3, .phase⟩, ⟨4, .phase⟩, ⟨5, .phase⟩, ⟨6, .textOnly .lateStores⟩, ⟨7, .textOnly .lateStores⟩, ⟨8, .phase⟩], none⟩) rfl (fun K hK => ?_) AllReadyH.nil
        refine storeRow_step rfl 51 (.tmp 3) (.tmp 23) rfl w1.heap.size rfl ([.slice X1 y1 z1, .slice X2 y2 z2, .slice X3 y3 z3]) rfl (rp17_size.trans (congrArg some rfl)) 51 [.slice A1 n1 c1, .slice A2 n2 c2, .slice A3 n3 c3] hM.p rfl rp17_one ?_
        intro wE rwE owE zwE
        have hME := hM.plain owE rwE
        have hTE := hT.only owE (fun e => by have := hM.lt; omega)
        have hLE := hL.only owE (fun y e p => by have := hM.lt; omega)
        clear hM hT hL
        have hM := hME
        have hT := hTE
        have hL := hLE
        clear hME hTE hLE
        refine hK.out _ _ hM.g (fun hSx => ?_)
        clear hK K
        try simp only [Act.put]
        refine wpAnyH_ready (rs := [10]) (by kernel_rfl) (by simp) ?_
        refine AllReadyH.cons (o := ⟨none, .store 53 (.tmp 9) (.tmp 24), 0, "ref.go:244", #[⟨8, .data⟩, ⟨6, .data⟩, ⟨9, .chain⟩, ⟨0, .phase⟩, ⟨1, .phase⟩, ⟨2, .phase⟩, ⟨3, .phase⟩, ⟨4, .phase⟩, ⟨5, .phase⟩, ⟨6, .phase⟩, ⟨7, .textOnly .lateStores⟩, ⟨8, .phase⟩, ⟨9, .phase⟩], none⟩) rfl (fun K hK => ?_) AllReadyH.nil
        refine storeRow_step rfl 53 (.tmp 9) (.tmp 24) rfl w5.heap.size rfl (tcT (dX14 VW EW κ i u).1 (dX14 VW EW κ i u).2.1 (dX14 VW EW κ i u).2.2) rfl (rtt_size.trans (congrArg some rfl)) 53 (tcT 0 0 0) hT rfl (rtt_one _ _ _) ?_
        intro wF rwF owF zwF
        have hMF := hM.other owF (by omega)
        have hLF := hL.only owF (fun y e p => by omega)
        clear hM hT hL
        have hM := hMF
        have hL := hLF
        clear hMF hLF
        refine hK.out _ _ hM.g (fun hSx => ?_)
        clear hK K
        try simp only [Act.put]
        refine' wpAnyH_take (i := 11) (oi := ⟨some 10, .assign (.tmp 25), 3, "ref.go:244", #[⟨7, .data⟩, ⟨10, .chain⟩, ⟨0, .phase⟩, ⟨1, .phase⟩, ⟨2, .phase⟩, ⟨3, .phase⟩, ⟨4, .phase⟩, ⟨5, .phase⟩, ⟨6, .phase⟩, ⟨7, .phase⟩, ⟨8, .phase⟩, ⟨9, .phase⟩, ⟨10, .phase⟩], none⟩) (v := _) rfl (by kernel_rfl) (by kernel_rfl) (by kernel_rfl) (fun _ _ _ h => h) (Or.inl ⟨by rfl, ?hy91⟩) (by assumption) ?rest91
        case hy91 => (intro w hSw; (try dsimp only at hSw); go_simp; try with_reducible rfl)
        try simp only [Act.put, List.setIfInBounds_toArray, List.set_cons_zero, List.set_cons_succ]
        refine wpAnyH_done (by kernel_rfl) ?_ _
        have I : MidT w wF w1.heap.size w2.heap.size w3.heap.size w4.heap.size (w5.heap.size) P Pp G (.slice At nt ct) (.slice Al nl cl) VN EW KN (dX14 VW EW κ i u) (.slice X1 y1 z1) (.slice X2 y2 z2) (.slice X3 y3 z3) := ⟨hM, rwF, by omega, hL, HRO.out.below hM.below⟩
        clear hM hL rwE rwF owF zwF hSx
        generalize (w5.heap.size) = gT at I ⊢
        revert I
        revert gT
        revert wF X1 y1 z1 X2 y2 z2 X3 y3 z3
        exact key.down
  intro X1 y1 z1 X2 y2 z2 X3 y3 z3 w9 gT I0
  clear hM0
  have I := Lib.hid I0
  clear I0
  have KB := Lib.hid (KA.out _ I.out.gl)
  go_wp2_with (first
    | (with_reducible refine loadRow_walk rfl 37 (.tmp 2) rfl w.heap.size rfl (tvC G (.slice At nt ct) (.slice Al nl cl)) tv_struct (HSZ.out _ _ _) 37 I.out.st.g ?_)
    | (go_at_call 40; refine KB.out.mono ?_; rintro e w10 ⟨At2, nt2, ct2, Al2, nl2, cl2, rfl, l10, b10⟩; have L10 := Lib.hid l10; have M10 := Lib.hid (I.out.st.quiet b10); have T10 := Lib.hid (I.out.tr.below b10); have P10 := Lib.hid (I.out.pl.below b10); have S10 := Lib.hid b10.size; clear l10 b10)
    | ((with_reducible refine storeRow_walk rfl 37 (.tmp 2) (.tmp 30) rfl w.heap.size rfl (tvC (aftTT G n).1 (.slice At2 nt2 ct2) (.slice Al2 nl2 cl2)) rfl (HSZ.out _ _ _) 37 _ M10.out.g rfl (tv_one _) ?_); intro w11 r11 o11 z11; have M11 := Lib.hid (M10.out.giver o11 r11); have T11 := Lib.hid (T10.out.only o11 (fun e => by have := M10.out.lt; have := I.out.lt; omega)); have P11 := Lib.hid (P10.out.only o11 (fun y e p => by have := M10.out.lt; omega)); have L11 := Lib.hid (L10.out.only o11 (fun y e p => by have := I.out.st.lt; rcases p with p | p <;> omega)); have HGT := Lib.hid I.out.lt; have HS11 := Lib.hid I.out.st.lt; clear r11 o11 z11))
  have hM : StT w w11.drew w1.heap.size w2.heap.size w3.heap.size w4.heap.size (aftTT G n).1 (.slice At2 nt2 ct2) (.slice Al2 nl2 cl2) [.slice X1 y1 z1, .slice X2 y2 z2, .slice X3 y3 z3] := M11.out.quiet (below_q w11 1)
  have hT : Row w11.drew gT 53 (tcT (dX14 VW EW κ i u).1 (dX14 VW EW κ i u).2.1 (dX14 VW EW κ i u).2.2) := T11.out
  have hgt := HGT.out
  refine wp_region_held_drew (S := fun W => Row W w.heap.size 37 (tvC (aftTT G n).1 (.slice At2 nt2 ct2) (.slice Al2 nl2 cl2)) ∧ Row W w1.heap.size 51 [.slice X1 y1 z1, .slice X2 y2 z2, .slice X3 y3 z3] ∧ Row W gT 53 (tcT (dX14 VW EW κ i u).1 (dX14 VW EW κ i u).2.1 (dX14 VW EW κ i u).2.2)) (by kernel_rfl) ⟨hM.g, hM.p, hT⟩ (fun hHeld => ?_)
  refine wpAnyH_take (i := 0) (oi := ⟨some 37, .load 37 (.tmp 2), 37, "ref.go:249", #[], none⟩) (v := .agg (tvC (aftTT G n).1 (.slice At2 nt2 ct2) (.slice Al2 nl2 cl2)).toArray) rfl (by kernel_rfl) (by kernel_rfl) (by kernel_rfl) (fun _ _ _ h => h) (yieldsIf_row rfl 37 (.tmp 2) rfl w.heap.size rfl (tvC (aftTT G n).1 (.slice At2 nt2 ct2) (.slice Al2 nl2 cl2)) tv_struct (HSZ.out _ _ _) 37 (fun W h => h.1)) (by assumption) ?_
  try simp only [Act.put, List.setIfInBounds_toArray, List.set_cons_zero, List.set_cons_succ]
  refine wpAnyH_take (i := 1) (oi := ⟨some 38, .load 51 (.tmp 3), 51, "ref.go:249", #[⟨4, .gcOnly .lateStores⟩], none⟩) (v := .agg ([.slice X1 y1 z1, .slice X2 y2 z2, .slice X3 y3 z3]).toArray) rfl (by kernel_rfl) (by kernel_rfl) (by kernel_rfl) (fun _ _ _ h => h) (yieldsIf_row rfl 51 (.tmp 3) rfl w1.heap.size rfl ([.slice X1 y1 z1, .slice X2 y2 z2, .slice X3 y3 z3]) rp17_struct (rp17_size.trans (congrArg some rfl)) 51 (fun W h => h.2.1)) (by assumption) ?_
  try simp only [Act.put, List.setIfInBounds_toArray, List.set_cons_zero, List.set_cons_succ]
  refine wpAnyH_take (i := 2) (oi := ⟨some 39, .load 53 (.tmp 9), 53, "ref.go:249", #[⟨5, .gcOnly .lateStores⟩], none⟩) (v := .agg (tcT (dX14 VW EW κ i u).1 (dX14 VW EW κ i u).2.1 (dX14 VW EW κ i u).2.2).toArray) rfl (by kernel_rfl) (by kernel_rfl) (by kernel_rfl) (fun _ _ _ h => h) (yieldsIf_row rfl 53 (.tmp 9) rfl gT rfl (tcT (dX14 VW EW κ i u).1 (dX14 VW EW κ i u).2.1 (dX14 VW EW κ i u).2.2) rtt_struct (rtt_size.trans (congrArg some rfl)) 53 (fun W h => h.2.2)) (by assumption) ?_
  try simp only [Act.put, List.setIfInBounds_toArray, List.set_cons_zero, List.set_cons_succ]
  refine' wpAnyH_take (i := 3) (oi := ⟨some 40, .move (.tmp 11), 3, "ref.go:249", #[⟨7, .gcOnly .lateStores⟩], none⟩) (v := _) rfl (by kernel_rfl) (by kernel_rfl) (by kernel_rfl) (fun _ _ _ h => h) (Or.inl ⟨by rfl, ?hy103⟩) (by assumption) ?rest103
  case hy103 => (intro w hSw; (try dsimp only at hSw); go_simp; try with_reducible rfl)
  try simp only [Act.put, List.setIfInBounds_toArray, List.set_cons_zero, List.set_cons_succ]
  refine wpAnyH_ready (rs := [4]) (by kernel_rfl) (by simp) ?_
  refine AllReadyH.cons (o := ⟨none, .store 37 (.tmp 4) (.tmp 37), 0, "ref.go:249", #[⟨0, .data⟩, ⟨0, .phase⟩, ⟨1, .textOnly .lateStores⟩, ⟨2, .textOnly .lateStores⟩, ⟨3, .textOnly .lateStores⟩], none⟩) rfl (fun K hK => ?_) AllReadyH.nil
  refine storeRow_step rfl 37 (.tmp 4) (.tmp 37) rfl w2.heap.size rfl (tvC (aftTT G n).1 (.slice At2 nt2 ct2) (.slice Al2 nl2 cl2)) rfl (HSZ.out _ _ _) 37 tvZ hM.rg rfl (tv_one _) ?_
  intro w6 rw6 ow6 zw6
  have g6 := hM.g.only ow6 (fun e => by have := hM.lt; omega)
  have p6 := hM.p.only ow6 (fun e => by have := hM.lt; omega)
  have t6 := hT.only ow6 (fun e => by have := hM.lt; omega)
  have x6 := hM.rp.only ow6 (fun e => by have := hM.lt; omega)
  have y6 := hM.rt.only ow6 (fun e => by have := hM.lt; omega)
  refine hK.out _ _ ⟨g6, p6, t6⟩ (fun hSx => ?_)
  clear hK K
  try simp only [Act.put]
  refine wpAnyH_ready (rs := [5]) (by kernel_rfl) (by simp) ?_
  refine AllReadyH.cons (o := ⟨none, .store 51 (.tmp 5) (.tmp 38), 0, "ref.go:249", #[⟨1, .data⟩, ⟨4, .chain⟩, ⟨0, .phase⟩, ⟨1, .phase⟩, ⟨2, .textOnly .lateStores⟩, ⟨3, .textOnly .lateStores⟩, ⟨4, .phase⟩], none⟩) rfl (fun K hK => ?_) AllReadyH.nil
  refine storeRow_step rfl 51 (.tmp 5) (.tmp 38) rfl w3.heap.size rfl ([.slice X1 y1 z1, .slice X2 y2 z2, .slice X3 y3 z3]) rfl (rp17_size.trans (congrArg some rfl)) 51 plZ17 x6 rfl rp17_one ?_
  intro w7 rw7 ow7 zw7
  have g7 := g6.only ow7 (fun e => by have := hM.lt; omega)
  have p7 := p6.only ow7 (fun e => by have := hM.lt; omega)
  have t7 := t6.only ow7 (fun e => by have := hM.lt; omega)
  have x7 := rw6.only ow7 (fun e => by have := hM.lt; omega)
  have y7 := y6.only ow7 (fun e => by have := hM.lt; omega)
  refine hK.out _ _ ⟨g7, p7, t7⟩ (fun hSx => ?_)
  clear hK K
  try simp only [Act.put]
  refine wpAnyH_ready (rs := [6]) (by kernel_rfl) (by simp) ?_
  refine AllReadyH.cons (o := ⟨none, .store 53 (.tmp 6) (.tmp 39), 0, "ref.go:249", #[⟨2, .data⟩, ⟨5, .chain⟩, ⟨0, .phase⟩, ⟨1, .phase⟩, ⟨2, .phase⟩, ⟨3, .textOnly .lateStores⟩, ⟨4, .phase⟩, ⟨5, .phase⟩], none⟩) rfl (fun K hK => ?_) AllReadyH.nil
  refine storeRow_step rfl 53 (.tmp 6) (.tmp 39) rfl w4.heap.size rfl (tcT (dX14 VW EW κ i u).1 (dX14 VW EW κ i u).2.1 (dX14 VW EW κ i u).2.2) rfl (rtt_size.trans (congrArg some rfl)) 53 (tcT 0 0 0) y7 rfl (rtt_one _ _ _) ?_
  intro w8 rw8 ow8 zw8
  have g8 := g7.only ow8 (fun e => by have := hM.lt; omega)
  have p8 := p7.only ow8 (fun e => by have := hM.lt; omega)
  have t8 := t7.only ow8 (fun e => by have := hM.lt; omega)
  have x8 := x7.only ow8 (fun e => by have := hM.lt; omega)
  have z8 := rw7.only ow8 (fun e => by have := hM.lt; omega)
  refine hK.out _ _ ⟨g8, p8, t8⟩ (fun hSx => ?_)
  clear hK K
  try simp only [Act.put]
  refine' wpAnyH_take (i := 7) (oi := ⟨some 7, .assign (.const (.bool true)), 4, "ref.go:249", #[⟨6, .chain⟩, ⟨0, .phase⟩, ⟨1, .phase⟩, ⟨2, .phase⟩, ⟨3, .textOnly .lateStores⟩, ⟨4, .phase⟩, ⟨5, .phase⟩, ⟨6, .phase⟩], none⟩) (v := _) rfl (by kernel_rfl) (by kernel_rfl) (by kernel_rfl) (fun _ _ _ h => h) (Or.inl ⟨by rfl, ?hy107⟩) (by assumption) ?rest107
  case hy107 => (intro w hSw; (try dsimp only at hSw); go_simp; try with_reducible rfl)
  try simp only [Act.put, List.setIfInBounds_toArray, List.set_cons_zero, List.set_cons_succ]
  refine' wpAnyH_take (i := 8) (oi := ⟨some 8, .assign (.tmp 40), 3, "ref.go:249", #[⟨3, .data⟩, ⟨7, .chain⟩, ⟨0, .phase⟩, ⟨1, .phase⟩, ⟨2, .phase⟩, ⟨3, .phase⟩, ⟨4, .phase⟩, ⟨5, .phase⟩, ⟨6, .phase⟩, ⟨7, .phase⟩], none⟩) (v := _) rfl (by kernel_rfl) (by kernel_rfl) (by kernel_rfl) (fun _ _ _ h => h) (Or.inl ⟨by rfl, ?hy108⟩) (by assumption) ?rest108
  case hy108 => (intro w hSw; (try dsimp only at hSw); go_simp; try with_reducible rfl)
  try simp only [Act.put, List.setIfInBounds_toArray, List.set_cons_zero, List.set_cons_succ]
  refine wpAnyH_done (by kernel_rfl) ?_ _
  have OO : Only (fun y => y = w2.heap.size ∨ y = w3.heap.size ∨ y = w4.heap.size) w11.drew w8 := ((ow6.mono (fun y _ e => .inl e)).trans (ow7.mono (fun y _ e => .inr (.inl e)))).trans (ow8.mono (fun y _ e => .inr (.inr e)))
  have BE : Below w.heap.size w w8 := Only.below hM.below OO hM.below.size (fun y hy e => by have := hM.lt; omega)
  have LE := (show TvL w11.drew _ _ _ _ from L11.out.below (below_q w11 1)).only OO (fun y e p => by have := hM.lt; have := HS11.out; rcases p with p | p <;> omega)
  have PE := (show RPl14 w11.drew _ _ _ _ _ _ _ from P11.out.below (below_q w11 1)).only OO (fun y e p => by have := hM.lt; omega)
  go_wp2
  exact bodyPost_ret (tstep_results Tryz.results17 rfl rfl rfl rfl rfl x8 z8 rw8) rfl ⟨_, _, _, _, _, _, _, _, _, _, _, _, _, _, _, rfl, LE.weak (fun y _ p => by rcases p with p | p; exact .inl p.1; exact .inr (by have := HS11.out; omega)), PE.weak (fun y _ p => p.1), BE⟩
end
end

section
open Go.ChangeShapes Go.WideShapes Go.ChangeAt Go.RowKit
/-- The reference's taker V says the same as the program's taker H. -/
structure Rel17 (H : Tk) (V : Tv) : Prop where
  B : V.B = H.B
  R : V.R = (H.R : Int)
  peer : V.peer = H.peer
  own : V.own = H.own
  known : V.known = if H.knows then H.known else -1
  knows : 2 ≤ H.st → H.knows = true
  linked : V.linked = H.linked
  head : V.head = H.head
  used : V.used = H.used
  tab : V.tab = H.tab
  at_ : V.at_ = (H.st : Int)
  handle : H.st ≠ 0 → (0 ≤ V.handle ↔ H.rel = true)
  load : H.st ≠ 0 → V.load = H.load
  got : V.got = H.gh
  gl : V.got ≠ 0 → V.load = H.gl
  none : H.st ≠ 0 → H.gh = 0
  i : H.st = 9 → V.i = (H.load.length : Int)
  many : H.st = 9 → V.many = H.cnt
  d : H.st ≠ 0 → H.rel = true ∨ H.st = 8 ∨ H.st = 9 ∨ (H.st = 14 ∧ H.res = 0) → V.d = H.slot
  ans : H.st = 14 → V.ans = H.res
  res : H.st ≤ 13 → H.res = 0
  pos : 0 ≤ H.res
  emp : H.st ≠ 0 → H.st ≤ 8 → H.load = []
  re : 10 ≤ H.st → H.st ≤ 13 → H.rel = true
theorem rel17_tch {H : Tk} {V : Tv} (h : Rel17 H V) : tchTT V = tch17 H := by
  have hat := h.at_
  have hk : H.st = 3 → addW V.own V.known = ep17 H := fun e => by unfold ep17; rw [h.own, h.known, if_pos (h.knows (by omega))]
  have hd : H.st = 8 ∨ H.st = 9 → V.d = H.slot := fun e => h.d (by omega) (by rcases e with e | e; exact .inr (.inl e); exact .inr (.inr (.inl e)))
  have hd10 : H.st = 10 → V.d = H.slot := fun e => h.d (by omega) (.inl (h.re (by omega) (by omega)))
  have ha : ∀ f s i, atV13 V.B V.R f s i = ad17 H f s i := fun f s i => by unfold ad17; rw [h.B, h.R]
  unfold tchTT tch17
  rw [ha, ha, ha, ha, ha, ha, ha, ha, h.peer, h.head, h.used, h.R]
  by_cases e1 : H.st = 1 ∨ H.st = 14
  · rw [if_pos e1, if_pos (by omega)]
  rw [if_neg e1, if_neg (by omega)]
  by_cases e2 : H.st = 2
  · rw [if_pos e2, if_pos (by omega)]
  rw [if_neg e2, if_neg (by omega)]
  by_cases e3 : H.st = 3
  · rw [if_pos e3, if_pos (by omega), hk e3]
  rw [if_neg e3, if_neg (by omega)]
  by_cases e5 : H.st = 5
  · rw [if_pos e5, if_pos (by omega)]
  rw [if_neg e5, if_neg (by omega)]
  by_cases e6 : H.st = 6
  · rw [if_pos e6, if_pos (by omega)]
  rw [if_neg e6, if_neg (by omega)]
  by_cases e7 : H.st = 7
  · rw [if_pos e7, if_pos (by omega)]
  rw [if_neg e7, if_neg (by omega)]
  by_cases e8 : H.st = 8
  · rw [if_pos e8, if_pos (by omega), hd (.inl e8)]
  rw [if_neg e8, if_neg (by omega)]
  by_cases e9 : H.st = 9
  · rw [if_pos e9, if_pos (by omega), hd (.inr e9), h.i e9]
  rw [if_neg e9, if_neg (by omega)]
  by_cases e10 : H.st = 10
  · rw [if_pos e10, if_pos (by omega), hd10 e10]
  rw [if_neg e10, if_neg (by omega)]
  by_cases e12 : H.st = 12
  · rw [if_pos e12, if_pos (by omega)]
  rw [if_neg e12, if_neg (by omega)]
/-- Just the state has changed. -/
theorem rel17_st {H : Tk} {V : Tv} (h : Rel17 H V) (n : Nat) (h0 : H.st ≠ 0) (h13 : H.st ≤ 13) (hn : n ≠ 0 ∧ n ≠ 8 ∧ n ≠ 9 ∧ n ≤ 13) (hk : 2 ≤ n → H.knows = true) (he : n ≤ 8 → H.st ≤ 8) (hr : 10 ≤ n → H.rel = true) : Rel17 { H with st := n } { V with at_ := (n : Int) } :=
  { B := h.B, R := h.R, peer := h.peer, own := h.own, known := h.known, knows := hk, linked := h.linked, head := h.head, used := h.used, tab := h.tab, at_ := rfl
    handle := fun _ => h.handle h0, load := fun _ => h.load h0, got := h.got, gl := h.gl, none := fun _ => h.none h0
    i := fun e => absurd e hn.2.2.1, many := fun e => absurd e hn.2.2.1
    d := fun _ e => by
      rcases e with e | e | e | e
      · exact h.d h0 (.inl e)
      · exact absurd e hn.2.1
      · exact absurd e hn.2.2.1
      · have e1 : n = 14 := e.1
        omega
    ans := fun e => by have e1 : n = 14 := e; omega
    res := fun _ => h.res h13, pos := h.pos, emp := fun _ e => h.emp h0 (he e), re := fun e _ => hr e }
/-- A call comes to its last access with an error. -/
theorem rel17_fin {H : Tk} {V : Tv} (h : Rel17 H V) (a : Int) (ha : 0 < a) (h0 : H.st ≠ 0) (hk : H.knows = true) : Rel17 (fin17 H a) { V with at_ := 14, ans := a } :=
  { B := h.B, R := h.R, peer := h.peer, own := h.own, known := h.known, knows := fun _ => hk, linked := h.linked, head := h.head, used := h.used, tab := h.tab, at_ := rfl
    handle := fun _ => h.handle h0, load := fun _ => h.load h0, got := h.got, gl := h.gl, none := fun _ => h.none h0
    i := fun e => absurd e (by show ¬ (14 = 9); omega), many := fun e => absurd e (by show ¬ (14 = 9); omega)
    d := fun _ e => by
      rcases e with e | e | e | e
      · exact h.d h0 (.inl e)
      · exact absurd e (by show ¬ (14 = 8); omega)
      · exact absurd e (by show ¬ (14 = 9); omega)
      · have e1 : a = 0 := e.2
        omega
    ans := fun _ => rfl
    res := fun e => absurd e (by show ¬ (14 ≤ 13); omega), pos := (show 0 ≤ a by omega), emp := fun _ e => absurd e (by show ¬ (14 ≤ 8); omega), re := fun _ e => absurd e (by show ¬ (14 ≤ 13); omega) }
/-- A call has ended. -/
theorem rel17_idle {H : Tk} {V V' : Tv} (h : Rel17 H V) (h0 : H.st ≠ 0) (hV : V' = { V with at_ := 0, load := V'.load }) : Rel17 (idle17 H) V' := by
  rw [hV]
  exact { B := h.B, R := h.R, peer := h.peer, own := h.own, known := h.known, knows := fun e => absurd e (by show ¬ (2 ≤ 0); omega), linked := h.linked, head := h.head, used := h.used, tab := h.tab, at_ := rfl
          handle := fun e => absurd rfl e, load := fun e => absurd rfl e, got := h.got, gl := fun e => absurd (h.got.trans (h.none h0)) e, none := fun e => absurd rfl e
          i := fun e => absurd e (by show ¬ (0 = 9); omega), many := fun e => absurd e (by show ¬ (0 = 9); omega)
          d := fun e => absurd rfl e, ans := fun e => absurd e (by show ¬ (0 = 14); omega)
          res := fun _ => rfl, pos := (show (0 : Int) ≤ 0 by omega), emp := fun e => absurd rfl e, re := fun e => absurd e (by show ¬ (10 ≤ 0); omega) }
/-- A new taker. -/
theorem rel17_new (B : Int) (R : Nat) (self peer own : Int) (ho : 0 ≤ own) : Rel17 (new17 B R peer own) (tn17v B R self peer own) :=
  { B := rfl, R := rfl, peer := rfl, own := rfl
    known := by
      show (if 0 < own then (-1 : Int) else 0) = if (own == 0) = true then 0 else -1
      by_cases h : own = 0
      · rw [if_neg (by omega), if_pos (by simpa using h)]
      · rw [if_pos (by omega), if_neg (by simpa using h)]
    knows := fun e => absurd e (by show ¬ (2 ≤ 0); omega), linked := rfl, head := rfl, used := rfl, tab := rfl, at_ := rfl
    handle := fun e => absurd rfl e, load := fun e => absurd rfl e, got := rfl, gl := fun e => absurd rfl e, none := fun e => absurd rfl e
    i := fun e => absurd e (by show ¬ (0 = 9); omega), many := fun e => absurd e (by show ¬ (0 = 9); omega)
    d := fun e => absurd rfl e, ans := fun e => absurd e (by show ¬ (0 = 14); omega)
    res := fun _ => rfl, pos := (show (0 : Int) ≤ 0 by omega), emp := fun e => absurd rfl e, re := fun e => absurd e (by show ¬ (10 ≤ 0); omega) }
/-- A call begins. -/
theorem rel17_begin {H : Tk} {V : Tv} (h : Rel17 H V) (rel : Bool) (slot x : Int) (hx : 0 ≤ x ↔ rel = true) (hd : rel = true → V.d = slot) : Rel17 (begin17 H rel slot) { V with at_ := 1, handle := x, load := [], got := 0 } :=
  { B := h.B, R := h.R, peer := h.peer, own := h.own, known := h.known, knows := fun e => absurd e (by show ¬ (2 ≤ 1); omega), linked := h.linked, head := h.head, used := h.used, tab := h.tab, at_ := rfl
    handle := fun _ => hx, load := fun _ => rfl, got := rfl, gl := fun e => absurd rfl e, none := fun _ => rfl
    i := fun e => absurd e (by show ¬ (1 = 9); omega), many := fun e => absurd e (by show ¬ (1 = 9); omega)
    d := fun _ e => by
      rcases e with e | e | e | e
      · exact hd e
      · exact absurd e (by show ¬ (1 = 8); omega)
      · exact absurd e (by show ¬ (1 = 9); omega)
      · exact absurd e.1 (by show ¬ (1 = 14); omega)
    ans := fun e => absurd e (by show ¬ (1 = 14); omega)
    res := fun _ => rfl, pos := (show (0 : Int) ≤ 0 by omega), emp := fun _ _ => rfl, re := fun e => absurd e (by show ¬ (10 ≤ 1); omega) }
theorem rel17_recv {H : Tk} {V : Tv} (h : Rel17 H V) (h0 : H.st = 0) : Rel17 (recT17 H) { V with at_ := 1, handle := -1, load := [], got := 0 } := by
  unfold recT17
  rw [if_pos h0]
  exact rel17_begin h false 0 (-1) (by simp) (fun e => by cases e)
end

section
open Go.ChangeShapes Go.WideShapes Go.ChangeAt Go.RowKit
theorem mem_onN15 (l : List (Int × Bool)) (k : Nat) : ∀ n, k ∈ onN15 l n ↔ k < n ∧ (l[k]?.map (·.2)) = some true
  | 0 => by simp [onN15]
  | n + 1 => by
    have ih := mem_onN15 l k n
    simp only [onN15, List.mem_append, ih]
    by_cases hn : (l[n]?.map (·.2)) = some true
    · rw [if_pos hn]
      constructor
      · rintro (⟨h1, h2⟩ | h)
        · exact ⟨by omega, h2⟩
        · have : k = n := by simpa using h
          subst this
          exact ⟨by omega, hn⟩
      · rintro ⟨h1, h2⟩
        by_cases hk : k = n
        · right; simp [hk]
        · left; exact ⟨by omega, h2⟩
    · rw [if_neg hn]
      constructor
      · rintro (⟨h1, h2⟩ | h)
        · exact ⟨by omega, h2⟩
        · simp at h
      · rintro ⟨h1, h2⟩
        by_cases hk : k = n
        · subst hk; exact absurd h2 hn
        · left; exact ⟨by omega, h2⟩
theorem mem_on15 (l : List (Int × Bool)) (x : Int) (hx : 0 ≤ x ∧ x < (l.length : Int)) : x ∈ onL15 l l.length ↔ (l[x.toNat]?.map (·.2)) = some true := by
  obtain ⟨k, rfl⟩ : ∃ k : Nat, x = k := ⟨x.toNat, by omega⟩
  have hk : k < l.length := by omega
  rw [show ((k : Int)).toNat = k from rfl]
  unfold onL15
  have hm := mem_onN15 l k l.length
  constructor
  · intro h
    obtain ⟨j, hj, e⟩ := List.mem_map.1 h
    have e' : j = k := by omega
    subst e'
    exact (hm.1 hj).2
  · intro h
    exact List.mem_map.2 ⟨k, hm.2 ⟨hk, h⟩, rfl⟩
theorem rel17_aft {H : Tk} {V : Tv} (h : Rel17 H V) (ok : Ok17 H) (x : Int) (hx : 0 ≤ x) (h0 : H.st ≠ 0) : Rel17 (aft17 H x).1 (aftTT V x).1 ∧ (aftTT V x).2 = (aft17 H x).2.getD (-1) := by
  have h14 := ok.st
  have hat := h.at_
  have hcase : H.st = 1 ∨ H.st = 4 ∨ H.st = 5 ∨ H.st = 6 ∨ H.st = 7 ∨ H.st = 8 ∨ H.st = 9 ∨ H.st = 13 ∨ H.st = 14 ∨ ((2 ≤ H.st ∧ H.st ≤ 3) ∨ (10 ≤ H.st ∧ H.st ≤ 12)) := by omega
  unfold aft17 aftTT
  rcases hcase with e | e | e | e | e | e | e | e | e | e
  · rw [if_pos e, if_pos (show V.at_ = 1 by omega)]
    refine ⟨?_, rfl⟩
    show Rel17 { askT17 H x with st := askS17 H x } (askT V x)
    by_cases hn : askN17 H x = true
    · have hq : x ≠ V.known := by
        unfold askN17 at hn
        rw [h.known]
        cases hk : H.knows
        · rw [if_neg (by simp)]; omega
        · rw [if_pos rfl]; rw [hk] at hn; simpa using hn
      rw [show askT17 H x = { H with known := x, knows := true } by unfold askT17; rw [if_pos hn], show askS17 H x = 2 by unfold askS17; rw [if_pos hn], show askT V x = { V with known := x, at_ := 2 } by unfold askT; rw [if_pos hq]]
      have r := rel17_st (H := { H with known := x, knows := true }) (V := { V with known := x }) ⟨h.B, h.R, h.peer, h.own, by show x = if true = true then x else -1; rw [if_pos rfl], fun _ => rfl, h.linked, h.head, h.used, h.tab, h.at_, h.handle, h.load, h.got, h.gl, h.none, h.i, h.many, h.d, h.ans, h.res, h.pos, h.emp, h.re⟩ 2 h0 (by show H.st ≤ 13; omega) (by omega) (fun _ => rfl) (fun _ => by show H.st ≤ 8; omega) (fun e => by omega)
      exact r
    · have hn' : askN17 H x = false := by simpa using hn
      have hkx : H.knows = true ∧ x = H.known := by
        unfold askN17 at hn'
        simpa using hn'
      have hq : ¬ (x ≠ V.known) := by rw [h.known, if_pos hkx.1]; exact fun f => f hkx.2
      rw [show askT17 H x = H by unfold askT17; rw [if_neg hn]]
      unfold askT
      rw [if_neg hq]
      by_cases hl : V.linked = false
      · have hl' : H.linked = false := by rw [← h.linked]; exact hl
        rw [if_pos hl, show askS17 H x = 5 by unfold askS17; rw [if_neg hn, hl']; rfl]
        exact rel17_st h 5 h0 (by omega) (by omega) (fun _ => hkx.1) (fun _ => by omega) (fun e => by omega)
      · have hl' : H.linked = true := by rw [← h.linked]; simpa using hl
        rw [if_neg hl]
        by_cases hh : 0 ≤ V.handle
        · have hr := (h.handle h0).1 hh
          rw [if_pos hh, show askS17 H x = 10 by unfold askS17; rw [if_neg hn, hl', hr]; rfl]
          exact rel17_st h 10 h0 (by omega) (by omega) (fun _ => hkx.1) (fun _ => by omega) (fun _ => hr)
        · have hr : H.rel = false := by
            cases hr : H.rel
            · rfl
            · exact absurd ((h.handle h0).2 hr) hh
          rw [if_neg hh, show askS17 H x = 6 by unfold askS17; rw [if_neg hn, hl', hr]; rfl]
          exact rel17_st h 6 h0 (by omega) (by omega) (fun _ => hkx.1) (fun _ => by omega) (fun e => by omega)
  · rw [if_neg (show ¬ H.st = 1 by omega), if_pos (show H.st = 4 by omega), if_neg (show ¬ V.at_ = 1 by omega), if_pos (show V.at_ = 4 by omega)]
    refine ⟨?_, rfl⟩
    have hk := h.knows (by omega)
    exact { B := h.B, R := (by show ((V.R.toNat : Nat) : Int) = (H.R : Int); have := h.R; omega), peer := h.peer, own := h.own, known := h.known, knows := fun e => absurd e (by show ¬ (2 ≤ 0); omega), linked := rfl, head := rfl, used := rfl, tab := (by show clearL15 V.tab = clearL15 H.tab; rw [h.tab]), at_ := rfl
            handle := fun e => absurd rfl e, load := fun e => absurd rfl e, got := (h.none h0).symm, gl := fun e => absurd rfl e, none := fun e => absurd rfl e
            i := fun e => absurd e (by show ¬ (0 = 9); omega), many := fun e => absurd e (by show ¬ (0 = 9); omega)
            d := fun e => absurd rfl e, ans := fun e => absurd e (by show ¬ (0 = 14); omega)
            res := fun _ => rfl, pos := (show (0 : Int) ≤ 0 by omega), emp := fun e => absurd rfl e, re := fun e => absurd e (by show ¬ (10 ≤ 0); omega) }
  · have hk := h.knows (by omega)
    have hep : addW V.own V.known = ep17 H := by unfold ep17; rw [h.own, h.known, if_pos hk]
    rw [if_neg (show ¬ H.st = 1 by omega), if_neg (show ¬ H.st = 4 by omega), if_pos (show H.st = 5 by omega), if_neg (show ¬ V.at_ = 1 by omega), if_neg (show ¬ V.at_ = 4 by omega), if_pos (show V.at_ = 5 by omega), hep]
    by_cases hq : x = ep17 H
    · rw [if_pos hq, if_pos hq]
      have r := rel17_st h 6 h0 (by omega) (by omega) (fun _ => hk) (fun _ => by omega) (fun e => by omega)
      exact ⟨{ r with linked := rfl }, rfl⟩
    · rw [if_neg hq, if_neg hq]
      exact ⟨rel17_idle h h0 rfl, rfl⟩
  · have hk := h.knows (by omega)
    rw [if_neg (show ¬ H.st = 1 by omega), if_neg (show ¬ H.st = 4 by omega), if_neg (show ¬ H.st = 5 by omega), if_pos (show H.st = 6 by omega), if_neg (show ¬ V.at_ = 1 by omega), if_neg (show ¬ V.at_ = 4 by omega), if_neg (show ¬ V.at_ = 5 by omega), if_pos (show 6 ≤ V.at_ ∧ V.at_ ≤ 9 by omega)]
    refine ⟨?_, rfl⟩
    show Rel17 (if looE17 H (subW x H.head) = 0 then { H with res := 0, st := 7 } else fin17 H (looE17 H (subW x H.head))) (readT V x)
    unfold readT looE17 hs17
    rw [if_pos (show V.at_ = 6 by omega)]
    by_cases n0 : subW x H.head = 0
    · rw [if_pos (show subW x V.head = 0 by rw [h.head]; exact n0), if_pos n0, if_neg (show ¬ ((6 : Int) = 0) by omega)]
      exact rel17_fin h 6 (by omega) h0 hk
    · rw [if_neg (show ¬ subW x V.head = 0 by rw [h.head]; exact n0), if_neg n0]
      by_cases n1 : (H.R : Int) - ((onL15 H.tab H.tab.length).length : Int) < subW x H.head
      · rw [if_pos (show V.R - ((onL15 V.tab V.tab.length).length : Int) < subW x V.head by rw [h.R, h.tab, h.head]; exact n1), if_pos n1, if_neg (show ¬ ((10 : Int) = 0) by omega)]
        exact rel17_fin h 10 (by omega) h0 hk
      · rw [if_neg (show ¬ (V.R - ((onL15 V.tab V.tab.length).length : Int) < subW x V.head) by rw [h.R, h.tab, h.head]; exact n1), if_neg n1, if_pos rfl]
        have r := rel17_st h 7 h0 (by omega) (by omega) (fun _ => hk) (fun _ => by omega) (fun e => by omega)
        have hr := h.res (by omega)
        rw [show ({ H with res := 0, st := 7 } : Tk) = { H with st := 7 } by rw [← hr]]
        exact r
  · have hk := h.knows (by omega)
    rw [if_neg (show ¬ H.st = 1 by omega), if_neg (show ¬ H.st = 4 by omega), if_neg (show ¬ H.st = 5 by omega), if_neg (show ¬ H.st = 6 by omega), if_pos (show H.st = 7 by omega), if_neg (show ¬ V.at_ = 1 by omega), if_neg (show ¬ V.at_ = 4 by omega), if_neg (show ¬ V.at_ = 5 by omega), if_pos (show 6 ≤ V.at_ ∧ V.at_ ≤ 9 by omega)]
    refine ⟨?_, rfl⟩
    show Rel17 (if (0 ≤ x ∧ x < (H.R : Int)) ∧ x ∉ hs17 H then { H with slot := x, st := 8 } else fin17 H 10) (readT V x)
    unfold readT hs17
    rw [if_neg (show ¬ V.at_ = 6 by omega), if_pos (show V.at_ = 7 by omega)]
    have hlen := ok.tab
    have hVR := h.R
    by_cases n0 : (H.R : Int) ≤ x
    · rw [if_pos (show V.R ≤ x by omega), if_neg (show ¬ ((0 ≤ x ∧ x < (H.R : Int)) ∧ x ∉ onL15 H.tab H.tab.length) from fun f => by have := f.1.2; omega)]
      exact rel17_fin h 10 (by omega) h0 hk
    · have hm := mem_on15 H.tab x (by omega)
      rw [if_neg (show ¬ V.R ≤ x by omega)]
      by_cases n1 : (H.tab[x.toNat]?.map (·.2)) = some true
      · rw [if_pos (show (V.tab[x.toNat]?.map (·.2)) = some true by rw [h.tab]; exact n1), if_neg (show ¬ ((0 ≤ x ∧ x < (H.R : Int)) ∧ x ∉ onL15 H.tab H.tab.length) from fun f => f.2 (hm.2 n1))]
        exact rel17_fin h 10 (by omega) h0 hk
      · rw [if_neg (show ¬ (V.tab[x.toNat]?.map (·.2)) = some true by rw [h.tab]; exact n1), if_pos (show (0 ≤ x ∧ x < (H.R : Int)) ∧ x ∉ onL15 H.tab H.tab.length from ⟨⟨hx, by omega⟩, fun f => n1 (hm.1 f)⟩)]
        exact { B := h.B, R := h.R, peer := h.peer, own := h.own, known := h.known, knows := fun _ => hk, linked := h.linked, head := h.head, used := h.used, tab := h.tab, at_ := rfl
                handle := fun _ => h.handle h0, load := fun _ => h.load h0, got := h.got, gl := h.gl, none := fun _ => h.none h0
                i := fun e => absurd e (by show ¬ (8 = 9); omega), many := fun e => absurd e (by show ¬ (8 = 9); omega)
                d := fun _ _ => rfl, ans := fun e => absurd e (by show ¬ (8 = 14); omega)
                res := fun _ => h.res (by omega), pos := h.pos, emp := fun _ _ => h.emp h0 (by omega), re := fun e => absurd e (by show ¬ (10 ≤ 8); omega) }
  · have hk := h.knows (by omega)
    have hl := h.emp h0 (by omega)
    have hd := h.d h0 (.inr (.inl e))
    have hr := h.res (by omega)
    rw [if_neg (show ¬ H.st = 1 by omega), if_neg (show ¬ H.st = 4 by omega), if_neg (show ¬ H.st = 5 by omega), if_neg (show ¬ H.st = 6 by omega), if_neg (show ¬ H.st = 7 by omega), if_pos (show H.st = 8 by omega), if_neg (show ¬ V.at_ = 1 by omega), if_neg (show ¬ V.at_ = 4 by omega), if_neg (show ¬ V.at_ = 5 by omega), if_pos (show 6 ≤ V.at_ ∧ V.at_ ≤ 9 by omega)]
    refine ⟨?_, rfl⟩
    show Rel17 (if 8 < x then fin17 H 10 else wor17 { H with cnt := x }) (readT V x)
    unfold readT
    rw [if_neg (show ¬ V.at_ = 6 by omega), if_neg (show ¬ V.at_ = 7 by omega), if_pos (show V.at_ = 8 by omega)]
    by_cases n0 : 8 < x
    · rw [if_pos n0, if_pos n0]
      exact rel17_fin h 10 (by omega) h0 hk
    · rw [if_neg n0, if_neg n0]
      by_cases n1 : x = 0
      · rw [if_pos n1, show wor17 { H with cnt := x } = { H with cnt := x, st := 14 } by unfold wor17; exact if_neg (by show ¬ ((H.load.length : Int) < x); omega)]
        exact { B := h.B, R := h.R, peer := h.peer, own := h.own, known := h.known, knows := fun _ => hk, linked := h.linked, head := h.head, used := h.used, tab := h.tab, at_ := rfl
                handle := fun _ => h.handle h0, load := fun _ => hl.symm, got := h.got, gl := fun e => absurd (h.got.trans (h.none h0)) e, none := fun _ => h.none h0
                i := fun e => absurd e (by show ¬ (14 = 9); omega), many := fun e => absurd e (by show ¬ (14 = 9); omega)
                d := fun _ _ => hd, ans := fun _ => hr.symm
                res := fun e => absurd e (by show ¬ (14 ≤ 13); omega), pos := h.pos, emp := fun _ e => absurd e (by show ¬ (14 ≤ 8); omega), re := fun _ e => absurd e (by show ¬ (14 ≤ 13); omega) }
      · rw [if_neg n1, show wor17 { H with cnt := x } = { H with cnt := x, st := 9 } by unfold wor17; exact if_pos (by show (H.load.length : Int) < x; rw [hl]; simp; omega)]
        exact { B := h.B, R := h.R, peer := h.peer, own := h.own, known := h.known, knows := fun _ => hk, linked := h.linked, head := h.head, used := h.used, tab := h.tab, at_ := rfl
                handle := fun _ => h.handle h0, load := fun _ => hl.symm, got := h.got, gl := fun e => absurd (h.got.trans (h.none h0)) e, none := fun _ => h.none h0
                i := fun _ => (by show (0 : Int) = (H.load.length : Int); rw [hl]; rfl), many := fun _ => rfl
                d := fun _ _ => hd, ans := fun e => absurd e (by show ¬ (9 = 14); omega)
                res := fun _ => hr, pos := h.pos, emp := fun _ e => absurd e (by show ¬ (9 ≤ 8); omega), re := fun e => absurd e (by show ¬ (10 ≤ 9); omega) }
  · have hk := h.knows (by omega)
    have hl := h.load h0
    have hd := h.d h0 (.inr (.inr (.inl e)))
    have hr := h.res (by omega)
    have hi := h.i e
    have hmn := h.many e
    have hw := ok.word e
    rw [if_neg (show ¬ H.st = 1 by omega), if_neg (show ¬ H.st = 4 by omega), if_neg (show ¬ H.st = 5 by omega), if_neg (show ¬ H.st = 6 by omega), if_neg (show ¬ H.st = 7 by omega), if_neg (show ¬ H.st = 8 by omega), if_pos (show H.st = 9 by omega), if_neg (show ¬ V.at_ = 1 by omega), if_neg (show ¬ V.at_ = 4 by omega), if_neg (show ¬ V.at_ = 5 by omega), if_pos (show 6 ≤ V.at_ ∧ V.at_ ≤ 9 by omega)]
    refine ⟨?_, rfl⟩
    show Rel17 (wor17 { H with load := H.load ++ [x] }) (readT V x)
    unfold readT
    rw [if_neg (show ¬ V.at_ = 6 by omega), if_neg (show ¬ V.at_ = 7 by omega), if_neg (show ¬ V.at_ = 8 by omega)]
    have hlen : (((H.load ++ [x]).length : Nat) : Int) = (H.load.length : Int) + 1 := by simp
    by_cases n1 : (H.load.length : Int) + 1 = H.cnt
    · rw [if_pos (show V.i + 1 = V.many by omega), show wor17 { H with load := H.load ++ [x] } = { H with load := H.load ++ [x], st := 14 } by unfold wor17; exact if_neg (by show ¬ (((H.load ++ [x]).length : Int) < H.cnt); omega)]
      exact { B := h.B, R := h.R, peer := h.peer, own := h.own, known := h.known, knows := fun _ => hk, linked := h.linked, head := h.head, used := h.used, tab := h.tab, at_ := rfl
              handle := fun _ => h.handle h0, load := fun _ => (by show V.load ++ [x] = H.load ++ [x]; rw [hl]), got := h.got, gl := fun e => absurd (h.got.trans (h.none h0)) e, none := fun _ => h.none h0
              i := fun e => absurd e (by show ¬ (14 = 9); omega), many := fun e => absurd e (by show ¬ (14 = 9); omega)
              d := fun _ _ => hd, ans := fun _ => hr.symm
              res := fun e => absurd e (by show ¬ (14 ≤ 13); omega), pos := h.pos, emp := fun _ e => absurd e (by show ¬ (14 ≤ 8); omega), re := fun _ e => absurd e (by show ¬ (14 ≤ 13); omega) }
    · rw [if_neg (show ¬ V.i + 1 = V.many by omega), show wor17 { H with load := H.load ++ [x] } = { H with load := H.load ++ [x], st := 9 } by unfold wor17; exact if_pos (by show ((H.load ++ [x]).length : Int) < H.cnt; omega)]
      exact { B := h.B, R := h.R, peer := h.peer, own := h.own, known := h.known, knows := fun _ => hk, linked := h.linked, head := h.head, used := h.used, tab := h.tab, at_ := (by show V.at_ = ((9 : Nat) : Int); omega)
              handle := fun _ => h.handle h0, load := fun _ => (by show V.load ++ [x] = H.load ++ [x]; rw [hl]), got := h.got, gl := fun e => absurd (h.got.trans (h.none h0)) e, none := fun _ => h.none h0
              i := fun _ => (by show V.i + 1 = (((H.load ++ [x]).length : Nat) : Int); omega), many := fun _ => hmn
              d := fun _ _ => hd, ans := fun e => absurd e (by show ¬ (9 = 14); omega)
              res := fun _ => hr, pos := h.pos, emp := fun _ e => absurd e (by show ¬ (9 ≤ 8); omega), re := fun e => absurd e (by show ¬ (10 ≤ 9); omega) }
  · have hk := h.knows (by omega)
    have hr := h.res (by omega)
    have hre := h.re (by omega) (by omega)
    rw [if_neg (show ¬ H.st = 1 by omega), if_neg (show ¬ H.st = 4 by omega), if_neg (show ¬ H.st = 5 by omega), if_neg (show ¬ H.st = 6 by omega), if_neg (show ¬ H.st = 7 by omega), if_neg (show ¬ H.st = 8 by omega), if_neg (show ¬ H.st = 9 by omega), if_neg (show ¬ H.st = 14 by omega), if_neg (show ¬ V.at_ = 1 by omega), if_neg (show ¬ V.at_ = 4 by omega), if_neg (show ¬ V.at_ = 5 by omega), if_neg (show ¬ (6 ≤ V.at_ ∧ V.at_ ≤ 9) by omega), if_pos (show V.at_ = 13 by omega)]
    refine ⟨?_, rfl⟩
    exact { B := h.B, R := h.R, peer := h.peer, own := h.own, known := h.known, knows := fun _ => hk, linked := h.linked, head := h.head, used := h.used, tab := h.tab, at_ := (by show (14 : Int) = ((H.st + 1 : Nat) : Int); omega)
            handle := fun _ => h.handle h0, load := fun _ => h.load h0, got := h.got, gl := h.gl, none := fun _ => h.none h0
            i := fun e' => absurd e' (by show ¬ (H.st + 1 = 9); omega), many := fun e' => absurd e' (by show ¬ (H.st + 1 = 9); omega)
            d := fun _ _ => h.d h0 (.inl hre), ans := fun _ => hr.symm
            res := fun _ => hr, pos := h.pos, emp := fun _ e' => absurd e' (by show ¬ (H.st + 1 ≤ 8); omega), re := fun _ _ => hre }
  · have hk := h.knows (by omega)
    have hkn : V.known = H.known := by rw [h.known, if_pos hk]
    have han := h.ans e
    rw [if_neg (show ¬ H.st = 1 by omega), if_neg (show ¬ H.st = 4 by omega), if_neg (show ¬ H.st = 5 by omega), if_neg (show ¬ H.st = 6 by omega), if_neg (show ¬ H.st = 7 by omega), if_neg (show ¬ H.st = 8 by omega), if_neg (show ¬ H.st = 9 by omega), if_pos (show H.st = 14 by omega), if_neg (show ¬ V.at_ = 1 by omega), if_neg (show ¬ V.at_ = 4 by omega), if_neg (show ¬ V.at_ = 5 by omega), if_neg (show ¬ (6 ≤ V.at_ ∧ V.at_ ≤ 9) by omega), if_neg (show ¬ V.at_ = 13 by omega), if_pos (show V.at_ = 14 by omega)]
    by_cases hq : x = H.known
    · rw [if_pos (show x = V.known by omega), show judE17 H x = H.res by unfold judE17; exact if_pos hq]
      by_cases hz : H.res = 0
      · have hz' : ¬ (V.ans ≠ 0) := by rw [han]; exact fun f => f hz
        by_cases hh : 0 ≤ V.handle
        · have hre := (h.handle h0).1 hh
          rw [show overT { V with at_ := 0 } = { V with at_ := 0, used := addW V.used 1 } by unfold overT; exact (if_neg hz').trans (if_pos hh), show judT17 H x = { H with used := addW H.used 1 } by unfold judT17; exact (if_pos ⟨hq, hz⟩).trans (if_pos hre)]
          refine ⟨?_, by show V.ans = H.res; exact han⟩
          have r := rel17_idle (V' := { V with at_ := 0 }) h h0 rfl
          exact { r with used := by show addW V.used 1 = addW H.used 1; rw [h.used] }
        · have hre : ¬ (H.rel = true) := fun hr => hh ((h.handle h0).2 hr)
          have hd := h.d h0 (.inr (.inr (.inr ⟨e, hz⟩)))
          rw [show overT { V with at_ := 0 } = { V with at_ := 0, head := addW V.head 1, tab := giveL15 V.tab V.d, got := giveV15 V.tab V.d } by unfold overT; exact (if_neg hz').trans (if_neg hh), show judT17 H x = { H with head := addW H.head 1, tab := giveL15 H.tab H.slot, gl := H.load, gh := giveV15 H.tab H.slot } by unfold judT17; exact (if_pos ⟨hq, hz⟩).trans (if_neg hre)]
          refine ⟨?_, by show V.ans = H.res; exact han⟩
          have r := rel17_idle (V' := { V with at_ := 0 }) h h0 rfl
          exact { r with
            head := by show addW V.head 1 = addW H.head 1; rw [h.head]
            tab := by show giveL15 V.tab V.d = giveL15 H.tab H.slot; rw [h.tab, hd]
            got := by show giveV15 V.tab V.d = giveV15 H.tab H.slot; rw [h.tab, hd]
            gl := fun _ => h.load h0
            none := fun e => absurd rfl e }
      · have hz' : V.ans ≠ 0 := by rw [han]; exact hz
        rw [show overT { V with at_ := 0 } = { V with at_ := 0, load := [] } by unfold overT; exact if_pos hz', show judT17 H x = H by unfold judT17; exact if_neg (fun f => hz f.2)]
        exact ⟨rel17_idle h h0 rfl, by show V.ans = H.res; exact han⟩
    · rw [if_neg (show ¬ x = V.known by omega), show judE17 H x = 8 by unfold judE17; exact if_neg hq, show judT17 H x = H by unfold judT17; exact if_neg (fun f => hq f.1)]
      exact ⟨rel17_idle h h0 rfl, rfl⟩
  · have hk := h.knows (by omega)
    rw [if_neg (show ¬ H.st = 1 by omega), if_neg (show ¬ H.st = 4 by omega), if_neg (show ¬ H.st = 5 by omega), if_neg (show ¬ H.st = 6 by omega), if_neg (show ¬ H.st = 7 by omega), if_neg (show ¬ H.st = 8 by omega), if_neg (show ¬ H.st = 9 by omega), if_neg (show ¬ H.st = 14 by omega), if_neg (show ¬ V.at_ = 1 by omega), if_neg (show ¬ V.at_ = 4 by omega), if_neg (show ¬ V.at_ = 5 by omega), if_neg (show ¬ (6 ≤ V.at_ ∧ V.at_ ≤ 9) by omega), if_neg (show ¬ V.at_ = 13 by omega), if_neg (show ¬ V.at_ = 14 by omega)]
    have r := rel17_st h (H.st + 1) h0 (by omega) (by omega) (fun _ => hk) (fun _ => by omega) (fun _ => by
      exact h.re (by omega) (by omega))
    exact ⟨{ r with at_ := by show V.at_ + 1 = ((H.st + 1 : Nat) : Int); omega }, rfl⟩
theorem rel17_rel {H : Tk} {V : Tv} (h : Rel17 H V) (ok : Wd15 H.tab) (x : Int) (h0 : H.st = 0) (hs : slotB15 H.tab x = true) : Rel17 (relT17 H x) { V with tab := dropL15 V.tab x, d := slotV15 V.tab x, at_ := 1, handle := x, load := [], got := 0 } := by
  unfold slotB15 at hs
  obtain ⟨k, hk⟩ := Option.isSome_iff_exists.1 hs
  have hE : dropE15 H.tab x = 0 := by unfold dropE15; rw [hk]
  obtain ⟨e, he, hx⟩ := slotO15_is hk
  have he0 := (ok k e true he).1
  unfold relT17
  rw [if_pos ⟨h0, hE⟩]
  have r := rel17_begin (H := { H with tab := dropL15 H.tab x }) (V := { V with tab := dropL15 V.tab x, d := slotV15 V.tab x }) { h with tab := by show dropL15 V.tab x = dropL15 H.tab x; rw [h.tab], d := fun e => absurd h0 e } true (slotV15 H.tab x) x (by constructor; intro _; rfl; intro _; omega) (fun _ => by show slotV15 V.tab x = slotV15 H.tab x; rw [h.tab])
  exact r
end

end Go.Proofs.YtiofipofbeodpaaGreatDoor
