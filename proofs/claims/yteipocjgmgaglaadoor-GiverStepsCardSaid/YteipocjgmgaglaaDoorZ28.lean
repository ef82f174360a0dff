/-
  Texts merged, with what one theorem needs of them.
  Conditions: those that each theorem states.
-/
import Derived.Test.YteipocjgmgaglaaDoorRows
import Derived.Test.YteipocjgmgaglaaDoorZ1
import Derived.Test.YteipocjgmgaglaaDoorZ2
import Derived.Test.YteipocjgmgaglaaDoorZ3
import Derived.Test.YteipocjgmgaglaaDoorZ4
import Derived.Test.YteipocjgmgaglaaDoorZ5
import Derived.Test.YteipocjgmgaglaaDoorZ6
import Derived.Test.YteipocjgmgaglaaDoorZ7
import Derived.Test.YteipocjgmgaglaaDoorZ8
import Derived.Test.YteipocjgmgaglaaDoorZ9
import Derived.Test.YteipocjgmgaglaaDoorZ10
import Derived.Test.YteipocjgmgaglaaDoorZ11
import Derived.Test.YteipocjgmgaglaaDoorZ12
import Derived.Test.YteipocjgmgaglaaDoorZ13
import Derived.Test.YteipocjgmgaglaaDoorZ14
import Derived.Test.YteipocjgmgaglaaDoorZ15
import Derived.Test.YteipocjgmgaglaaDoorZ16
import Derived.Test.YteipocjgmgaglaaDoorZ17
import Derived.Test.YteipocjgmgaglaaDoorZ18
import Derived.Test.YteipocjgmgaglaaDoorZ19
import Derived.Test.YteipocjgmgaglaaDoorZ20
import Derived.Test.YteipocjgmgaglaaDoorZ21
import Derived.Test.YteipocjgmgaglaaDoorZ22
import Derived.Test.YteipocjgmgaglaaDoorZ23
import Derived.Test.YteipocjgmgaglaaDoorZ24
import Derived.Test.YteipocjgmgaglaaDoorZ25
import Derived.Test.YteipocjgmgaglaaDoorZ26
import Derived.Test.YteipocjgmgaglaaDoorZ27
import Derived.Below
import Derived.BigQuiet
import Derived.Carry
import Derived.ChangeSlices
import Derived.Deep.AppendLies
import Derived.Deep.CutBlock
import Derived.Deep.DeepMust
import Derived.Deep.Draws
import Derived.Deep.Fields
import Derived.Deep.MidRow
import Derived.Deep.OwnRows
import Derived.Deep.QuietTactic
import Derived.Deep.RegionHeld3
import Derived.Deep.RegionLaw
import Derived.Deep.RegionWith
import Derived.Deep.Slices
import Derived.Defers
import Derived.Great.BuildSlice
import Derived.Handy
import Derived.IntWalk
import Derived.KernelRfl
import Derived.LaidLaws
import Derived.LaidMore
import Derived.Laws.BitsLemmas
import Derived.Laws.CopyOwn
import Derived.Laws.OwnMore
import Derived.Laws.Rows
import Derived.Lib.Hide
import Derived.Lib.SliceRun
import Derived.Lib.SmallJoins
import Derived.MakeChecks
import Derived.Maps.AppendAt
import Derived.OpenShut
import Derived.ProofKit
import Derived.Recover
import Derived.RegionTactic
import Derived.Scope
import Derived.WalkKit
import Derived.WalkMore
namespace Go.Proofs.YteipocjgmgaglaaDoor

section
open Go.ChangeShapes Go.WideShapes Go.ChangeAt Go.RowKit
theorem rw_size : (Tryd.prog.info? 38).map (·.size) = some 3 := by kernel_rfl
theorem rw_zero : (Tryd.prog.info? 38).map (·.zero) = some (some (.agg #[.slice none 0 0, .slice none 0 0, .int .i64 0])) := by kernel_rfl
theorem rw_one {A1 A2 : Option Addr} {n1 c1 n2 c2 : Nat} {B : Int} : ∀ v ∈ ([.slice A1 n1 c1, .slice A2 n2 c2, .int .i64 B] : List Value), v.oneCell' = true := by
  intro v hv
  simp at hv
  rcases hv with rfl | rfl | rfl <;> rfl
set_option maxRecDepth 100000 in
set_option maxHeartbeats 16000000 in
theorem steps16_loop (B self peer own : Int) (r : Nat) (v : Value) (l : List Ev16) (w : World) (hok : ok16 B (r : Int) self peer own) (hT : TabAt w) (hv : Evs w v l) (hm : l.length ≤ maxLen) (hfew : few16B B l = true) :
    Calls Tryd.prog 3 #[baseV B (r : Int) self peer own, v] w fun e w' => e = .returned (.bool true) ∧ Below w.heap.size w w' := by
  obtain ⟨h150, h500, h50⟩ := few16_yes hfew
  obtain ⟨A, n, c, rfl, hn, HV⟩ := hv.open_
  have HEV := Lib.hid (fun W (hb : Below w.heap.size w W) (k : Nat) (x : Ev16) (hk : l[k]? = some x) => (HV.at_ hk).imp fun g => Exists.imp fun o h => (⟨h.1, h.2.2.below hb⟩ : A = some ⟨g, o, none⟩ ∧ EvAt W g (o + k * 4) x))
  have HT := Lib.hid (fun W (hb : Below w.heap.size w W) => hT.below hb)
  have HSZ := Lib.hid (fun (H : Rv) (a b c : Value) => (rv_size.trans (congrArg some (rv_len H a b c).symm)))
  obtain ⟨bs, hbs⟩ : ∃ bs : List Value, bs = [.int .i64 B, .int .i64 (r : Int), .int .i64 self, .int .i64 peer, .int .i64 own] := ⟨_, rfl⟩
  obtain ⟨G0, hG0⟩ : ∃ G0, G0 = new16 B r peer own := ⟨_, rfl⟩
  obtain ⟨R0, hR0⟩ : ∃ R0, R0 = rn16v B r self peer own := ⟨_, rfl⟩
  have HR0V := Lib.hid hR0
  have HOK0 : Hid (Ok16 G0) := Lib.hid (by rw [hG0]; exact ok16_new hok)
  have HREL0 : Hid (Rel16 G0 R0) := Lib.hid (by rw [hG0, hR0]; exact rel16_new B r self peer own hok.2.2.2.2.2.1)
  have hGR : G0.R = r := by rw [hG0]; rfl
  have hr64 := hok.1.bd
  have r0 := Row.new w 25 #[.int .i64 B, .int .i64 (r : Int), .int .i64 self, .int .i64 peer, .int .i64 own]
  have R00 : Hid (Row (w.alloc (.cells #[.int .i64 B, .int .i64 (r : Int), .int .i64 self, .int .i64 peer, .int .i64 own] 25)) w.heap.size 25 bs) := Lib.hid (by rw [hbs]; exact r0)
  have B0 := Lib.hid (below_al w (.cells #[.int .i64 B, .int .i64 (r : Int), .int .i64 self, .int .i64 peer, .int .i64 own] 25))
  have KM := Lib.hid (fun W => made16_yes hok W)
  rw [← hG0] at KM
  have KF := Lib.hid (fun W (hb : Below w.heap.size w W) => few16_any B (r : Int) self peer own (.slice A n c) l W (by
    obtain ⟨A', c', e, hx⟩ := HV
    exact ⟨A', c', e, fun hp => by obtain ⟨g, o, h1, h2, h3⟩ := hx hp; exact ⟨g, o, h1, Nat.lt_of_lt_of_le h2 hb.size, fun k x hk => (h3 k x hk).below hb⟩⟩) hm)
  rw [hfew] at KF
  have KI := Lib.hid (fun W => ris16_any B (r : Int) self peer own W)
  have hokd : decide (ok16 B (r : Int) self peer own) = true := decide_eq_true hok
  rw [hokd] at KI
  have hBB : 0 ≤ B ∧ B ≤ 65535 := by have := hok.2.1; omega
  have KB0 := Lib.hid (fun W => born16_any B r hok.1 ⟨hBB.1, h500⟩ W)
  have KNW := Lib.hid (fun W => rnew16_any B r self peer own (by omega) W)
  rw [← hR0] at KNW
  have HN := Lib.hid hn
  rw [hn] at h150
  obtain ⟨N, hN⟩ : ∃ N, B.toNat + (4 + 11 * r) = N := ⟨_, rfl⟩
  have hN2 : N ≤ 2000 := by omega
  rw [hN] at KB0
  have HC : Hid (∀ W, Row W w.heap.size 25 bs → W.cell? ⟨w.heap.size, 0, none⟩ = some (.int .i64 B) ∧ W.cell? ⟨w.heap.size, 1, none⟩ = some (.int .i64 (r : Int)) ∧ W.cell? ⟨w.heap.size, 2, none⟩ = some (.int .i64 self) ∧ W.cell? ⟨w.heap.size, 3, none⟩ = some (.int .i64 peer) ∧ W.cell? ⟨w.heap.size, 4, none⟩ = some (.int .i64 own)) := Lib.hid (fun W h => by rw [hbs] at h; exact ⟨h.cell 0, h.cell 1, h.cell 2, h.cell 3, h.cell 4⟩)
  have d18 : IntKind.i64.wrap ((r : Int) + 18) = (r : Int) + 18 := IntWalk.i64_in _ (by omega)
  have HR64 := Lib.hid (And.intro hGR (show r ≤ 64 by omega))
  unfold baseV plV at *
  clear hv HV hT hm hfew hok hn hbs hG0 hR0 r0 h50 hN hokd hGR
  go_enter Tryd.func3, Tryd.ntmps3
  go_wp2_with fail
  refine (KF.out _ B0.out).mono ?_
  rintro e w2 ⟨rfl, b2⟩
  have R2 := Lib.hid (R00.out.below b2)
  have B2 := Lib.hid (below_on B0.out b2)
  obtain ⟨p0, p1, p2, p3, p4⟩ := HC.out _ R2.out
  clear b2 KF
  go_wp2_with fail
  refine (KM.out _).mono ?_
  rintro e w3 ⟨g, rfl, s3, b3⟩
  have R3 := Lib.hid (R2.out.below b3)
  have B3 := Lib.hid (below_on B2.out b3)
  have S3 : Hid (GIs w3 (fun x => w.heap.size < x ∧ x < w3.heap.size) g G0) := Lib.hid (s3.weak (fun x hx h => ⟨by have := R2.out.lt; omega, hx⟩))
  obtain ⟨q0, q1, q2, q3, q4⟩ := HC.out _ R3.out
  clear b3 s3 KM p0 p1 p2 p3 p4 R2 B2 R00 B0
  unfold ptr
  go_wp2_with fail
  refine (KI.out _).mono ?_
  rintro e w' ⟨rfl, rfl⟩
  have KBO : Hid (∀ W, Below w3.heap.size w3 W → Calls Tryd.prog 8 #[.pointer (some ⟨g, 0, none⟩)] W fun e w' => e = .returned (.int .i64 ((r : Int) + 18)) ∧ W = w') := Lib.hid (fun W hb => by
    obtain ⟨vf, vo, vl, rg, -⟩ := S3.out
    have := bound16_any W (rg.below hb) (by rw [HR64.out.1]; exact HR64.out.2)
    rw [HR64.out.1] at this
    exact this)
  have HBS : Hid (∀ W, Below w.heap.size w W → Row W w.heap.size 25 bs → W.cell? ⟨w.heap.size, 0, none⟩ = some (.int .i64 B) ∧ W.cell? ⟨w.heap.size, 1, none⟩ = some (.int .i64 (r : Int)) ∧ W.cell? ⟨w.heap.size, 2, none⟩ = some (.int .i64 self) ∧ W.cell? ⟨w.heap.size, 3, none⟩ = some (.int .i64 peer) ∧ W.cell? ⟨w.heap.size, 4, none⟩ = some (.int .i64 own)) := Lib.hid (fun W _ h => HC.out W h)
  have HBS8 : Hid (∀ W, Below w3.heap.size w3 W → W.cell? ⟨w.heap.size, 0, none⟩ = some (.int .i64 B) ∧ W.cell? ⟨w.heap.size, 1, none⟩ = some (.int .i64 (r : Int)) ∧ W.cell? ⟨w.heap.size, 2, none⟩ = some (.int .i64 self) ∧ W.cell? ⟨w.heap.size, 3, none⟩ = some (.int .i64 peer) ∧ W.cell? ⟨w.heap.size, 4, none⟩ = some (.int .i64 own)) := Lib.hid (fun W hb => HC.out W (R3.out.below hb))
  go_wp2
  have hB6 : Below w.heap.size w w3.drew := B3.out.drew
  have hS6 := HBS8.out _ (show Below w3.heap.size w3 w3.drew from (Below.refl _ _).drew)
  refine wp_region_held_drew (S := fun W => W.cell? ⟨w.heap.size, 0, none⟩ = some (.int .i64 B) ∧ W.cell? ⟨w.heap.size, 1, none⟩ = some (.int .i64 (r : Int)) ∧ W.cell? ⟨w.heap.size, 2, none⟩ = some (.int .i64 self) ∧ W.cell? ⟨w.heap.size, 3, none⟩ = some (.int .i64 peer) ∧ W.cell? ⟨w.heap.size, 4, none⟩ = some (.int .i64 own)) (by kernel_rfl) hS6 (fun hHeld => ?_)
  refine' wpAnyH_take (i := 0) (oi := ⟨some 48, .move (.tmp 5), 29, "law.go:101", #[], none⟩) (v := _) rfl (by kernel_rfl) (by kernel_rfl) (by kernel_rfl) (fun _ _ _ h => h) (Or.inl ⟨by rfl, ?hy1⟩) (by assumption) ?rest1
  case hy1 => (intro w hSw; (try dsimp only at hSw); go_simp; try with_reducible rfl)
  try simp only [Act.put, List.setIfInBounds_toArray, List.set_cons_zero, List.set_cons_succ]
  refine' wpAnyH_take (i := 1) (oi := ⟨some 49, .binOp .eql 29 (.tmp 48) (.const (.pointer none)) 29, 4, "law.go:101", #[⟨0, .data⟩], none⟩) (v := _) rfl (by kernel_rfl) (by kernel_rfl) (by kernel_rfl) (fun _ _ _ h => h) (Or.inl ⟨by rfl, ?hy2⟩) (by assumption) ?rest2
  case hy2 => (intro w hSw; (try dsimp only at hSw); go_simp; try with_reducible rfl)
  try simp only [Act.put, List.setIfInBounds_toArray, List.set_cons_zero, List.set_cons_succ]
  refine' wpAnyH_take (i := 2) (oi := ⟨some 50, .move (.tmp 49), 4, "law.go:101", #[⟨1, .data⟩], none⟩) (v := _) rfl (by kernel_rfl) (by kernel_rfl) (by kernel_rfl) (fun _ _ _ h => h) (Or.inl ⟨by rfl, ?hy3⟩) (by assumption) ?rest3
  case hy3 => (intro w hSw; (try dsimp only at hSw); go_simp; try with_reducible rfl)
  try simp only [Act.put, List.setIfInBounds_toArray, List.set_cons_zero, List.set_cons_succ]
  refine' wpAnyH_take (i := 3) (oi := ⟨some 51, .move (.tmp 5), 29, "law.go:101", #[⟨2, .guard⟩], some (2, false)⟩) (v := _) rfl (by kernel_rfl) (by kernel_rfl) (by kernel_rfl) (fun _ _ _ h => h) (Or.inl ⟨by rfl, ?hy4⟩) (by assumption) ?rest4
  case hy4 => (intro w hSw; (try dsimp only at hSw); go_simp; try with_reducible rfl)
  try simp only [Act.put, List.setIfInBounds_toArray, List.set_cons_zero, List.set_cons_succ]
  refine' wpAnyH_take (i := 5) (oi := ⟨some 53, .fieldAddr 25 (.tmp 2) 0, 0, "law.go:101", #[⟨2, .guard⟩], some (2, false)⟩) (v := _) rfl (by kernel_rfl) (by kernel_rfl) (by kernel_rfl) (fun _ _ _ h => h) (Or.inl ⟨by rfl, ?hy6⟩) (by assumption) ?rest6
  case hy6 => (intro w hSw; (try dsimp only at hSw); go_simp; try with_reducible rfl)
  try simp only [Act.put, List.setIfInBounds_toArray, List.set_cons_zero, List.set_cons_succ]
  refine' wpAnyH_take (i := 6) (oi := ⟨some 54, .fieldAddr 23 (.tmp 53) 1, 0, "law.go:101", #[⟨5, .data⟩, ⟨2, .guard⟩], some (2, false)⟩) (v := _) rfl (by kernel_rfl) (by kernel_rfl) (by kernel_rfl) (fun _ _ _ h => h) (Or.inl ⟨by rfl, ?hy8⟩) (by assumption) ?rest8
  case hy8 => (intro w hSw; (try dsimp only at hSw); go_simp; try with_reducible rfl)
  try simp only [Act.put, List.setIfInBounds_toArray, List.set_cons_zero, List.set_cons_succ]
  refine' wpAnyH_take (i := 7) (oi := ⟨some 55, .load 3 (.tmp 54), 3, "law.go:101", #[⟨6, .data⟩, ⟨2, .guard⟩], some (2, false)⟩) (v := _) rfl (by kernel_rfl) (by kernel_rfl) (by kernel_rfl) (fun _ _ _ h => h) (Or.inl ⟨by rfl, ?hy10⟩) (by assumption) ?rest10
  case hy10 => (intro w hSw; (try dsimp only at hSw); go_simp; try with_reducible rfl)
  try simp only [Act.put, List.setIfInBounds_toArray, List.set_cons_zero, List.set_cons_succ]
  refine' wpAnyH_take (i := 8) (oi := ⟨some 56, .binOp .add 3 (.tmp 55) (.const (.int .i64 18)) 3, 3, "law.go:101", #[⟨7, .data⟩, ⟨2, .guard⟩], some (2, false)⟩) (v := _) rfl (by kernel_rfl) (by kernel_rfl) (by kernel_rfl) (fun _ _ _ h => h) (Or.inl ⟨by rfl, ?hy12⟩) (by assumption) ?rest12
  case hy12 => (intro w hSw; (try dsimp only at hSw); go_simp; try with_reducible rfl)
  try simp only [Act.put, List.setIfInBounds_toArray, List.set_cons_zero, List.set_cons_succ]
  refine wpAnyH_ready (rs := [4]) (by kernel_rfl) (by simp) ?_
  refine AllReadyH.cons (o := ⟨some 52, .call { callee := .value (.func 8), args := #[.tmp 51], argTypes := #[29] }, 3, "law.go:101", #[⟨3, .data⟩, ⟨2, .chain⟩, ⟨2, .guard⟩], some (2, false)⟩) rfl (fun K hK => ?_) AllReadyH.nil
  go_simp
  refine (KBO.out _ (show Below w3.heap.size w3 w3.drew from (Below.refl _ _).drew)).mono ?_
  rintro e w' ⟨rfl, rfl⟩
  go_wp2_with fail
  refine hK.out _ _ hS6 (fun hSx => ?_)
  clear hK K
  try simp only [Act.put, List.setIfInBounds_toArray, List.set_cons_zero, List.set_cons_succ]
  refine' wpAnyH_take (i := 9) (oi := ⟨some 57, .binOp .neq 3 (.tmp 52) (.tmp 56) 3, 4, "law.go:101", #[⟨4, .data⟩, ⟨8, .data⟩, ⟨2, .guard⟩], some (2, false)⟩) (v := _) rfl (by kernel_rfl) (by kernel_rfl) (by kernel_rfl) (fun _ _ _ h => h) (Or.inl ⟨by rfl, ?hy14⟩) (by assumption) ?rest14
  case hy14 => (intro w hSw; (try dsimp only at hSw); go_simp; try with_reducible rfl)
  try simp only [Act.put, List.setIfInBounds_toArray, List.set_cons_zero, List.set_cons_succ]
  refine' wpAnyH_take (i := 10) (oi := ⟨some 58, .pick (.tmp 50) (.const (.bool true)) (.tmp 57), 4, "law.go:101", #[⟨2, .data⟩, ⟨9, .data⟩], none⟩) (v := _) rfl (by kernel_rfl) (by kernel_rfl) (by kernel_rfl) (fun _ _ _ h => h) (Or.inl ⟨by rfl, ?hy15⟩) (by assumption) ?rest15
  case hy15 => (intro w hSw; (try dsimp only at hSw); go_simp; try with_reducible rfl)
  try simp only [Act.put, List.setIfInBounds_toArray, List.set_cons_zero, List.set_cons_succ]
  refine wpAnyH_done (by kernel_rfl) ?_ _

  go_wp2
  have hB0 : Below w3.heap.size w3 w3.drew.drew := (Below.refl _ _).drew.drew
  have hS0 := HBS8.out _ hB0
  refine wp_region_held_drew (S := fun W => W.cell? ⟨w.heap.size, 0, none⟩ = some (.int .i64 B) ∧ W.cell? ⟨w.heap.size, 1, none⟩ = some (.int .i64 (r : Int)) ∧ W.cell? ⟨w.heap.size, 2, none⟩ = some (.int .i64 self) ∧ W.cell? ⟨w.heap.size, 3, none⟩ = some (.int .i64 peer) ∧ W.cell? ⟨w.heap.size, 4, none⟩ = some (.int .i64 own)) (by kernel_rfl) hS0 (fun hHeld => ?_)
  clear hHeld
  generalize w3.drew.drew = W at hB0 hS0 ⊢
  refine' (fun (k12_15_16_17 : PLift (_ : Prop)) => ?mk12_15_16_17) ⟨?lk12_15_16_17⟩
  refine' (fun (k12_16_17 : PLift (_ : Prop)) => ?mk12_16_17) ⟨?lk12_16_17⟩
  refine' (fun (k12_15_17 : PLift (_ : Prop)) => ?mk12_15_17) ⟨?lk12_15_17⟩
  refine' (fun (k12_15_16 : PLift (_ : Prop)) => ?mk12_15_16) ⟨?lk12_15_16⟩
  refine' (fun (k16_17 : PLift (_ : Prop)) => ?mk16_17) ⟨?lk16_17⟩
  refine' (fun (k12_17 : PLift (_ : Prop)) => ?mk12_17) ⟨?lk12_17⟩
  refine' (fun (k12_16 : PLift (_ : Prop)) => ?mk12_16) ⟨?lk12_16⟩
  refine' (fun (k12_15 : PLift (_ : Prop)) => ?mk12_15) ⟨?lk12_15⟩
  refine' (fun (k17 : PLift (_ : Prop)) => ?mk17) ⟨?lk17⟩
  refine' (fun (k16 : PLift (_ : Prop)) => ?mk16) ⟨?lk16⟩
  refine' (fun (k12 : PLift (_ : Prop)) => ?mk12) ⟨?lk12⟩
  case mk12 =>
   as_aux_lemma =>
    have hB := hB0
    have hS := hS0
    refine' wpAnyH_take (i := 0) (oi := ⟨some 59, .fieldAddr 25 (.tmp 2) 0, 0, "law.go:104", #[], none⟩) (v := _) rfl (by kernel_rfl) (by kernel_rfl) (by kernel_rfl) (fun _ _ _ h => h) (Or.inl ⟨by rfl, ?hy244⟩) (by assumption) ?rest244
    case hy244 => (intro w hSw; (try dsimp only at hSw); go_simp; try with_reducible rfl)
    try simp only [Act.put, List.setIfInBounds_toArray, List.set_cons_zero, List.set_cons_succ]
    refine' wpAnyH_take (i := 1) (oi := ⟨some 60, .fieldAddr 23 (.tmp 59) 0, 0, "law.go:104", #[⟨0, .data⟩], none⟩) (v := _) rfl (by kernel_rfl) (by kernel_rfl) (by kernel_rfl) (fun _ _ _ h => h) (Or.inl ⟨by rfl, ?hy245⟩) (by assumption) ?rest245
    case hy245 => (intro w hSw; (try dsimp only at hSw); go_simp; try with_reducible rfl)
    try simp only [Act.put, List.setIfInBounds_toArray, List.set_cons_zero, List.set_cons_succ]
    refine' wpAnyH_take (i := 2) (oi := ⟨some 61, .load 3 (.tmp 60), 3, "law.go:104", #[⟨1, .data⟩], none⟩) (v := _) rfl (by kernel_rfl) (by kernel_rfl) (by kernel_rfl) (fun _ _ _ h => h) (Or.inl ⟨by rfl, ?hy246⟩) (by assumption) ?rest246
    case hy246 => (intro w hSw; (try dsimp only at hSw); go_simp; try with_reducible rfl)
    try simp only [Act.put, List.setIfInBounds_toArray, List.set_cons_zero, List.set_cons_succ]
    refine' wpAnyH_take (i := 3) (oi := ⟨some 62, .fieldAddr 25 (.tmp 2) 0, 0, "law.go:104", #[], none⟩) (v := _) rfl (by kernel_rfl) (by kernel_rfl) (by kernel_rfl) (fun _ _ _ h => h) (Or.inl ⟨by rfl, ?hy247⟩) (by assumption) ?rest247
    case hy247 => (intro w hSw; (try dsimp only at hSw); go_simp; try with_reducible rfl)
    try simp only [Act.put, List.setIfInBounds_toArray, List.set_cons_zero, List.set_cons_succ]
    refine' wpAnyH_take (i := 4) (oi := ⟨some 63, .fieldAddr 23 (.tmp 62) 1, 0, "law.go:104", #[⟨3, .data⟩], none⟩) (v := _) rfl (by kernel_rfl) (by kernel_rfl) (by kernel_rfl) (fun _ _ _ h => h) (Or.inl ⟨by rfl, ?hy248⟩) (by assumption) ?rest248
    case hy248 => (intro w hSw; (try dsimp only at hSw); go_simp; try with_reducible rfl)
    try simp only [Act.put, List.setIfInBounds_toArray, List.set_cons_zero, List.set_cons_succ]
    refine' wpAnyH_take (i := 5) (oi := ⟨some 64, .load 3 (.tmp 63), 3, "law.go:104", #[⟨4, .data⟩], none⟩) (v := _) rfl (by kernel_rfl) (by kernel_rfl) (by kernel_rfl) (fun _ _ _ h => h) (Or.inl ⟨by rfl, ?hy249⟩) (by assumption) ?rest249
    case hy249 => (intro w hSw; (try dsimp only at hSw); go_simp; try with_reducible rfl)
    try simp only [Act.put, List.setIfInBounds_toArray, List.set_cons_zero, List.set_cons_succ]
    refine' wpAnyH_take (i := 6) (oi := ⟨some 65, .fieldAddr 25 (.tmp 2) 1, 0, "law.go:104", #[], none⟩) (v := _) rfl (by kernel_rfl) (by kernel_rfl) (by kernel_rfl) (fun _ _ _ h => h) (Or.inl ⟨by rfl, ?hy250⟩) (by assumption) ?rest250
    case hy250 => (intro w hSw; (try dsimp only at hSw); go_simp; try with_reducible rfl)
    try simp only [Act.put, List.setIfInBounds_toArray, List.set_cons_zero, List.set_cons_succ]
    refine' wpAnyH_take (i := 7) (oi := ⟨some 66, .load 3 (.tmp 65), 3, "law.go:104", #[⟨6, .data⟩], none⟩) (v := _) rfl (by kernel_rfl) (by kernel_rfl) (by kernel_rfl) (fun _ _ _ h => h) (Or.inl ⟨by rfl, ?hy251⟩) (by assumption) ?rest251
    case hy251 => (intro w hSw; (try dsimp only at hSw); go_simp; try with_reducible rfl)
    try simp only [Act.put, List.setIfInBounds_toArray, List.set_cons_zero, List.set_cons_succ]
    refine' wpAnyH_take (i := 8) (oi := ⟨some 67, .fieldAddr 25 (.tmp 2) 2, 0, "law.go:104", #[], none⟩) (v := _) rfl (by kernel_rfl) (by kernel_rfl) (by kernel_rfl) (fun _ _ _ h => h) (Or.inl ⟨by rfl, ?hy252⟩) (by assumption) ?rest252
    case hy252 => (intro w hSw; (try dsimp only at hSw); go_simp; try with_reducible rfl)
    try simp only [Act.put, List.setIfInBounds_toArray, List.set_cons_zero, List.set_cons_succ]
    refine' wpAnyH_take (i := 9) (oi := ⟨some 68, .load 3 (.tmp 67), 3, "law.go:104", #[⟨8, .data⟩], none⟩) (v := _) rfl (by kernel_rfl) (by kernel_rfl) (by kernel_rfl) (fun _ _ _ h => h) (Or.inl ⟨by rfl, ?hy253⟩) (by assumption) ?rest253
    case hy253 => (intro w hSw; (try dsimp only at hSw); go_simp; try with_reducible rfl)
    try simp only [Act.put, List.setIfInBounds_toArray, List.set_cons_zero, List.set_cons_succ]
    refine' wpAnyH_take (i := 10) (oi := ⟨some 69, .fieldAddr 25 (.tmp 2) 3, 0, "law.go:104", #[], none⟩) (v := _) rfl (by kernel_rfl) (by kernel_rfl) (by kernel_rfl) (fun _ _ _ h => h) (Or.inl ⟨by rfl, ?hy254⟩) (by assumption) ?rest254
    case hy254 => (intro w hSw; (try dsimp only at hSw); go_simp; try with_reducible rfl)
    try simp only [Act.put, List.setIfInBounds_toArray, List.set_cons_zero, List.set_cons_succ]
    refine' wpAnyH_take (i := 11) (oi := ⟨some 70, .load 3 (.tmp 69), 3, "law.go:104", #[⟨10, .data⟩], none⟩) (v := _) rfl (by kernel_rfl) (by kernel_rfl) (by kernel_rfl) (fun _ _ _ h => h) (Or.inl ⟨by rfl, ?hy255⟩) (by assumption) ?rest255
    case hy255 => (intro w hSw; (try dsimp only at hSw); go_simp; try with_reducible rfl)
    try simp only [Act.put, List.setIfInBounds_toArray, List.set_cons_zero, List.set_cons_succ]
    refine' wpAnyH_take (i := 13) (oi := ⟨some 72, .fieldAddr 25 (.tmp 2) 0, 0, "law.go:104", #[], none⟩) (v := _) rfl (by kernel_rfl) (by kernel_rfl) (by kernel_rfl) (fun _ _ _ h => h) (Or.inl ⟨by rfl, ?hy256⟩) (by assumption) ?rest256
    case hy256 => (intro w hSw; (try dsimp only at hSw); go_simp; try with_reducible rfl)
    try simp only [Act.put, List.setIfInBounds_toArray, List.set_cons_zero, List.set_cons_succ]
    refine' wpAnyH_take (i := 14) (oi := ⟨some 73, .load 23 (.tmp 72), 23, "law.go:104", #[⟨13, .data⟩], none⟩) (v := _) rfl (by kernel_rfl) (by kernel_rfl) (by kernel_rfl) (fun _ _ _ h => h) (Or.inl ⟨by rfl, ?hy257⟩) (by assumption) ?rest257
    case hy257 => (intro w hSw; (try dsimp only at hSw); go_simp; try with_reducible rfl)
    try simp only [Act.put, List.setIfInBounds_toArray, List.set_cons_zero, List.set_cons_succ]
    refine wpAnyH_ready (rs := [12, 16, 17]) (by kernel_rfl) (by simp) ?_
    refine AllReadyH.cons (o := ⟨some 71, .call { callee := .value (.func 9), args := #[.tmp 61, .tmp 64, .tmp 66, .tmp 68, .tmp 70], argTypes := #[3, 3, 3, 3, 3] }, 35, "law.go:104", #[⟨2, .data⟩, ⟨5, .data⟩, ⟨7, .data⟩, ⟨9, .data⟩, ⟨11, .data⟩], none⟩) rfl (fun K hK => ?_) (AllReadyH.cons (o := ⟨some 6, .alloc 35, 0, "law.go:104", #[], none⟩) rfl (fun K hK => ?_) (AllReadyH.cons (o := ⟨some 7, .alloc 38, 0, "law.go:104", #[], none⟩) rfl (fun K hK => ?_) AllReadyH.nil))
    · go_simp
      go_at_call 9
      refine (KNW.out _).mono ?_
      rintro e W2 ⟨AR, cR, rfl, oN, bN⟩
      have hsz := hB.size
      have hON := (Lies.of_own oN).weak (Q := (fun y => w3.heap.size ≤ y)) (fun y hy p => by omega)
      have hCN := CapOk.of_own oN
      have hB2 := below_on hB bN
      have hS2 := HBS8.out _ hB2
      clear hB hS
      have hB := hB2
      have hS := hS2
      clear hB2 hS2
      have hO := And.intro hON hCN
      clear hON hCN oN bN hsz
      go_wp2_with fail
      refine hK.out _ _ hS (fun hSx => ?_)
      clear hK K
      try simp only [Act.put, List.setIfInBounds_toArray, List.set_cons_zero, List.set_cons_succ]
      clear hSx
      revert hO
      revert hS
      revert hB
      revert cR
      revert AR
      revert W2
      exact k12.down
    · refine alloc_step rfl 35 rfl _ rv_zero ?_
      intro W2 rW bW zW
      have hsz := hB.size
      generalize hq : W.heap.size = rb at rW bW zW ⊢
      have hr0 : w3.heap.size ≤ rb := by omega
      have hB2 := below_on hB (show Below W.heap.size W W2 from by rw [hq]; exact bW)
      have hS2 := HBS8.out _ hB2
      clear hB hS
      have hB := hB2
      have hS := hS2
      clear hB2 hS2
      have hr := rW
      clear rW bW zW hsz hq
      refine hK.out _ _ hS (fun hSx => ?_)
      clear hK K
      try simp only [Act.put, List.setIfInBounds_toArray, List.set_cons_zero, List.set_cons_succ]
      clear hSx
      revert hr0
      revert hr
      revert hS
      revert hB
      revert rb
      revert W2
      exact k16.down
    · refine alloc_step rfl 38 rfl _ rw_zero ?_
      intro W2 rW bW zW
      have hsz := hB.size
      generalize hq : W.heap.size = ob at rW bW zW ⊢
      have ho0 : w3.heap.size ≤ ob := by omega
      have hB2 := below_on hB (show Below W.heap.size W W2 from by rw [hq]; exact bW)
      have hS2 := HBS8.out _ hB2
      clear hB hS
      have hB := hB2
      have hS := hS2
      clear hB2 hS2
      have ho := rW
      clear rW bW zW hsz hq
      refine hK.out _ _ hS (fun hSx => ?_)
      clear hK K
      try simp only [Act.put, List.setIfInBounds_toArray, List.set_cons_zero, List.set_cons_succ]
      clear hSx
      revert ho0
      revert ho
      revert hS
      revert hB
      revert ob
      revert W2
      exact k17.down
  case lk12 =>
   as_aux_lemma =>
    intro W AR cR hB hS hO
    refine wpAnyH_ready (rs := [15, 16, 17]) (by kernel_rfl) (by simp) ?_
    refine AllReadyH.cons (o := ⟨some 74, .call { callee := .value (.func 10), args := #[.tmp 73], argTypes := #[23] }, 38, "law.go:104", #[⟨14, .data⟩, ⟨12, .chain⟩], none⟩) rfl (fun K hK => ?_) (AllReadyH.cons (o := ⟨some 6, .alloc 35, 0, "law.go:104", #[], none⟩) rfl (fun K hK => ?_) (AllReadyH.cons (o := ⟨some 7, .alloc 38, 0, "law.go:104", #[], none⟩) rfl (fun K hK => ?_) AllReadyH.nil))
    · go_simp
      go_at_call 10
      refine (KB0.out _).mono ?_
      rintro e W2 ⟨X1, y1, d1, X2, y2, d2, rfl, hwN, bN⟩
      have hsz := hB.size
      have hwW := hwN.weak (Q := (fun y => w3.heap.size ≤ y)) (fun y hy p => by have p := p.resolve_left (fun f => f); omega)
      have hB2 := below_on hB bN
      have hS2 := HBS8.out _ hB2
      have hO2 := And.intro (hO.1.below bN) hO.2
      clear hB hS hO
      have hB := hB2
      have hS := hS2
      have hO := hO2
      clear hB2 hS2 hO2
      have hw := hwW
      clear hwW hwN bN hsz
      unfold wldV
      go_wp2_with fail
      refine hK.out _ _ hS (fun hSx => ?_)
      clear hK K
      try simp only [Act.put, List.setIfInBounds_toArray, List.set_cons_zero, List.set_cons_succ]
      clear hSx
      revert hw
      revert hO
      revert hS
      revert hB
      revert d2
      revert y2
      revert X2
      revert d1
      revert y1
      revert X1
      revert cR
      revert AR
      revert W2
      exact k12_15.down
    · refine alloc_step rfl 35 rfl _ rv_zero ?_
      intro W2 rW bW zW
      have hsz := hB.size
      generalize hq : W.heap.size = rb at rW bW zW ⊢
      have hOs := And.intro (hO.1.weak (Q := (fun y => w3.heap.size ≤ y ∧ y ≠ rb)) (fun y hy p => by have := hq; omega)) hO.2
      clear hO
      have hO := hOs
      clear hOs
      have hr0 : w3.heap.size ≤ rb := by omega
      have hB2 := below_on hB (show Below W.heap.size W W2 from by rw [hq]; exact bW)
      have hS2 := HBS8.out _ hB2
      have hO2 := And.intro (hO.1.below (show Below W.heap.size W W2 from by rw [hq]; exact bW)) hO.2
      clear hB hS hO
      have hB := hB2
      have hS := hS2
      have hO := hO2
      clear hB2 hS2 hO2
      have hr := rW
      clear rW bW zW hsz hq
      refine hK.out _ _ hS (fun hSx => ?_)
      clear hK K
      try simp only [Act.put, List.setIfInBounds_toArray, List.set_cons_zero, List.set_cons_succ]
      clear hSx
      revert hO
      revert hr0
      revert hr
      revert hS
      revert hB
      revert cR
      revert AR
      revert rb
      revert W2
      exact k12_16.down
    · refine alloc_step rfl 38 rfl _ rw_zero ?_
      intro W2 rW bW zW
      have hsz := hB.size
      generalize hq : W.heap.size = ob at rW bW zW ⊢
      have hOs := And.intro (hO.1.weak (Q := (fun y => w3.heap.size ≤ y ∧ y ≠ ob)) (fun y hy p => by have := hq; omega)) hO.2
      clear hO
      have hO := hOs
      clear hOs
      have ho0 : w3.heap.size ≤ ob := by omega
      have hB2 := below_on hB (show Below W.heap.size W W2 from by rw [hq]; exact bW)
      have hS2 := HBS8.out _ hB2
      have hO2 := And.intro (hO.1.below (show Below W.heap.size W W2 from by rw [hq]; exact bW)) hO.2
      clear hB hS hO
      have hB := hB2
      have hS := hS2
      have hO := hO2
      clear hB2 hS2 hO2
      have ho := rW
      clear rW bW zW hsz hq
      refine hK.out _ _ hS (fun hSx => ?_)
      clear hK K
      try simp only [Act.put, List.setIfInBounds_toArray, List.set_cons_zero, List.set_cons_succ]
      clear hSx
      revert hO
      revert ho0
      revert ho
      revert hS
      revert hB
      revert cR
      revert AR
      revert ob
      revert W2
      exact k12_17.down
  case lk16 =>
   as_aux_lemma =>
    intro W rb hB hS hr hr0
    refine wpAnyH_ready (rs := [12, 17]) (by kernel_rfl) (by simp) ?_
    refine AllReadyH.cons (o := ⟨some 71, .call { callee := .value (.func 9), args := #[.tmp 61, .tmp 64, .tmp 66, .tmp 68, .tmp 70], argTypes := #[3, 3, 3, 3, 3] }, 35, "law.go:104", #[⟨2, .data⟩, ⟨5, .data⟩, ⟨7, .data⟩, ⟨9, .data⟩, ⟨11, .data⟩], none⟩) rfl (fun K hK => ?_) (AllReadyH.cons (o := ⟨some 7, .alloc 38, 0, "law.go:104", #[], none⟩) rfl (fun K hK => ?_) AllReadyH.nil)
    · go_simp
      go_at_call 9
      refine (KNW.out _).mono ?_
      rintro e W2 ⟨AR, cR, rfl, oN, bN⟩
      have hsz := hB.size
      have hrlt := hr.lt
      have hON := (Lies.of_own oN).weak (Q := (fun y => w3.heap.size ≤ y ∧ y ≠ rb)) (fun y hy p => by omega)
      have hCN := CapOk.of_own oN
      have hB2 := below_on hB bN
      have hS2 := HBS8.out _ hB2
      have hr2 := hr.below bN
      clear hB hS hr
      have hB := hB2
      have hS := hS2
      have hr := hr2
      clear hB2 hS2 hr2
      have hO := And.intro hON hCN
      clear hON hCN oN bN hsz hrlt
      go_wp2_with fail
      refine hK.out _ _ hS (fun hSx => ?_)
      clear hK K
      try simp only [Act.put, List.setIfInBounds_toArray, List.set_cons_zero, List.set_cons_succ]
      clear hSx
      revert hO
      revert hr0
      revert hr
      revert hS
      revert hB
      revert cR
      revert AR
      revert rb
      revert W2
      exact k12_16.down
    · refine alloc_step rfl 38 rfl _ rw_zero ?_
      intro W2 rW bW zW
      have hsz := hB.size
      generalize hq : W.heap.size = ob at rW bW zW ⊢
      have ho0 : w3.heap.size ≤ ob := by omega
      have hB2 := below_on hB (show Below W.heap.size W W2 from by rw [hq]; exact bW)
      have hS2 := HBS8.out _ hB2
      have hr2 := hr.below (show Below W.heap.size W W2 from by rw [hq]; exact bW)
      clear hB hS hr
      have hB := hB2
      have hS := hS2
      have hr := hr2
      clear hB2 hS2 hr2
      have ho := rW
      clear rW bW zW hsz hq
      refine hK.out _ _ hS (fun hSx => ?_)
      clear hK K
      try simp only [Act.put, List.setIfInBounds_toArray, List.set_cons_zero, List.set_cons_succ]
      clear hSx
      revert ho0
      revert ho
      revert hr0
      revert hr
      revert hS
      revert hB
      revert ob
      revert rb
      revert W2
      exact k16_17.down
  case lk17 =>
   as_aux_lemma =>
    intro W ob hB hS ho ho0
    refine wpAnyH_ready (rs := [12, 16]) (by kernel_rfl) (by simp) ?_
    refine AllReadyH.cons (o := ⟨some 71, .call { callee := .value (.func 9), args := #[.tmp 61, .tmp 64, .tmp 66, .tmp 68, .tmp 70], argTypes := #[3, 3, 3, 3, 3] }, 35, "law.go:104", #[⟨2, .data⟩, ⟨5, .data⟩, ⟨7, .data⟩, ⟨9, .data⟩, ⟨11, .data⟩], none⟩) rfl (fun K hK => ?_) (AllReadyH.cons (o := ⟨some 6, .alloc 35, 0, "law.go:104", #[], none⟩) rfl (fun K hK => ?_) AllReadyH.nil)
    · go_simp
      go_at_call 9
      refine (KNW.out _).mono ?_
      rintro e W2 ⟨AR, cR, rfl, oN, bN⟩
      have hsz := hB.size
      have holt := ho.lt
      have hON := (Lies.of_own oN).weak (Q := (fun y => w3.heap.size ≤ y ∧ y ≠ ob)) (fun y hy p => by omega)
      have hCN := CapOk.of_own oN
      have hB2 := below_on hB bN
      have hS2 := HBS8.out _ hB2
      have ho2 := ho.below bN
      clear hB hS ho
      have hB := hB2
      have hS := hS2
      have ho := ho2
      clear hB2 hS2 ho2
      have hO := And.intro hON hCN
      clear hON hCN oN bN hsz holt
      go_wp2_with fail
      refine hK.out _ _ hS (fun hSx => ?_)
      clear hK K
      try simp only [Act.put, List.setIfInBounds_toArray, List.set_cons_zero, List.set_cons_succ]
      clear hSx
      revert hO
      revert ho0
      revert ho
      revert hS
      revert hB
      revert cR
      revert AR
      revert ob
      revert W2
      exact k12_17.down
    · refine alloc_step rfl 35 rfl _ rv_zero ?_
      intro W2 rW bW zW
      have hsz := hB.size
      generalize hq : W.heap.size = rb at rW bW zW ⊢
      have hr0 : w3.heap.size ≤ rb := by omega
      have hB2 := below_on hB (show Below W.heap.size W W2 from by rw [hq]; exact bW)
      have hS2 := HBS8.out _ hB2
      have ho2 := ho.below (show Below W.heap.size W W2 from by rw [hq]; exact bW)
      clear hB hS ho
      have hB := hB2
      have hS := hS2
      have ho := ho2
      clear hB2 hS2 ho2
      have hr := rW
      clear rW bW zW hsz hq
      refine hK.out _ _ hS (fun hSx => ?_)
      clear hK K
      try simp only [Act.put, List.setIfInBounds_toArray, List.set_cons_zero, List.set_cons_succ]
      clear hSx
      revert ho0
      revert ho
      revert hr0
      revert hr
      revert hS
      revert hB
      revert ob
      revert rb
      revert W2
      exact k16_17.down
  case lk12_15 =>
   as_aux_lemma =>
    intro W AR cR X1 y1 d1 X2 y2 d2 hB hS hO hw
    refine wpAnyH_ready (rs := [16, 17]) (by kernel_rfl) (by simp) ?_
    refine AllReadyH.cons (o := ⟨some 6, .alloc 35, 0, "law.go:104", #[], none⟩) rfl (fun K hK => ?_) (AllReadyH.cons (o := ⟨some 7, .alloc 38, 0, "law.go:104", #[], none⟩) rfl (fun K hK => ?_) AllReadyH.nil)
    · refine alloc_step rfl 35 rfl _ rv_zero ?_
      intro W2 rW bW zW
      have hsz := hB.size
      generalize hq : W.heap.size = rb at rW bW zW ⊢
      have hOs := And.intro (hO.1.weak (Q := (fun y => w3.heap.size ≤ y ∧ y ≠ rb)) (fun y hy p => by have := hq; omega)) hO.2
      clear hO
      have hO := hOs
      clear hOs
      have hws := hw.weak (Q := (fun y => w3.heap.size ≤ y ∧ y ≠ rb)) (fun y hy p => by have := hq; omega)
      clear hw
      have hw := hws
      clear hws
      have hr0 : w3.heap.size ≤ rb := by omega
      have hB2 := below_on hB (show Below W.heap.size W W2 from by rw [hq]; exact bW)
      have hS2 := HBS8.out _ hB2
      have hO2 := And.intro (hO.1.below (show Below W.heap.size W W2 from by rw [hq]; exact bW)) hO.2
      have hw2 := hw.below (show Below W.heap.size W W2 from by rw [hq]; exact bW)
      clear hB hS hO hw
      have hB := hB2
      have hS := hS2
      have hO := hO2
      have hw := hw2
      clear hB2 hS2 hO2 hw2
      have hr := rW
      clear rW bW zW hsz hq
      refine hK.out _ _ hS (fun hSx => ?_)
      clear hK K
      try simp only [Act.put, List.setIfInBounds_toArray, List.set_cons_zero, List.set_cons_succ]
      clear hSx
      revert hw
      revert hO
      revert hr0
      revert hr
      revert hS
      revert hB
      revert d2
      revert y2
      revert X2
      revert d1
      revert y1
      revert X1
      revert cR
      revert AR
      revert rb
      revert W2
      exact k12_15_16.down
    · refine alloc_step rfl 38 rfl _ rw_zero ?_
      intro W2 rW bW zW
      have hsz := hB.size
      generalize hq : W.heap.size = ob at rW bW zW ⊢
      have hOs := And.intro (hO.1.weak (Q := (fun y => w3.heap.size ≤ y ∧ y ≠ ob)) (fun y hy p => by have := hq; omega)) hO.2
      clear hO
      have hO := hOs
      clear hOs
      have hws := hw.weak (Q := (fun y => w3.heap.size ≤ y ∧ y ≠ ob)) (fun y hy p => by have := hq; omega)
      clear hw
      have hw := hws
      clear hws
      have ho0 : w3.heap.size ≤ ob := by omega
      have hB2 := below_on hB (show Below W.heap.size W W2 from by rw [hq]; exact bW)
      have hS2 := HBS8.out _ hB2
      have hO2 := And.intro (hO.1.below (show Below W.heap.size W W2 from by rw [hq]; exact bW)) hO.2
      have hw2 := hw.below (show Below W.heap.size W W2 from by rw [hq]; exact bW)
      clear hB hS hO hw
      have hB := hB2
      have hS := hS2
      have hO := hO2
      have hw := hw2
      clear hB2 hS2 hO2 hw2
      have ho := rW
      clear rW bW zW hsz hq
      refine hK.out _ _ hS (fun hSx => ?_)
      clear hK K
      try simp only [Act.put, List.setIfInBounds_toArray, List.set_cons_zero, List.set_cons_succ]
      clear hSx
      revert hw
      revert hO
      revert ho0
      revert ho
      revert hS
      revert hB
      revert d2
      revert y2
      revert X2
      revert d1
      revert y1
      revert X1
      revert cR
      revert AR
      revert ob
      revert W2
      exact k12_15_17.down
  case lk12_16 =>
   as_aux_lemma =>
    intro W rb AR cR hB hS hr hr0 hO
    refine wpAnyH_ready (rs := [15, 17]) (by kernel_rfl) (by simp) ?_
    refine AllReadyH.cons (o := ⟨some 74, .call { callee := .value (.func 10), args := #[.tmp 73], argTypes := #[23] }, 38, "law.go:104", #[⟨14, .data⟩, ⟨12, .chain⟩], none⟩) rfl (fun K hK => ?_) (AllReadyH.cons (o := ⟨some 7, .alloc 38, 0, "law.go:104", #[], none⟩) rfl (fun K hK => ?_) AllReadyH.nil)
    · go_simp
      go_at_call 10
      refine (KB0.out _).mono ?_
      rintro e W2 ⟨X1, y1, d1, X2, y2, d2, rfl, hwN, bN⟩
      have hsz := hB.size
      have hrlt := hr.lt
      have hwW := hwN.weak (Q := (fun y => w3.heap.size ≤ y ∧ y ≠ rb)) (fun y hy p => by have p := p.resolve_left (fun f => f); omega)
      have hB2 := below_on hB bN
      have hS2 := HBS8.out _ hB2
      have hr2 := hr.below bN
      have hO2 := And.intro (hO.1.below bN) hO.2
      clear hB hS hr hO
      have hB := hB2
      have hS := hS2
      have hr := hr2
      have hO := hO2
      clear hB2 hS2 hr2 hO2
      have hw := hwW
      clear hwW hwN bN hsz hrlt
      unfold wldV
      go_wp2_with fail
      refine hK.out _ _ hS (fun hSx => ?_)
      clear hK K
      try simp only [Act.put, List.setIfInBounds_toArray, List.set_cons_zero, List.set_cons_succ]
      clear hSx
      revert hw
      revert hO
      revert hr0
      revert hr
      revert hS
      revert hB
      revert d2
      revert y2
      revert X2
      revert d1
      revert y1
      revert X1
      revert cR
      revert AR
      revert rb
      revert W2
      exact k12_15_16.down
    · refine alloc_step rfl 38 rfl _ rw_zero ?_
      intro W2 rW bW zW
      have hsz := hB.size
      generalize hq : W.heap.size = ob at rW bW zW ⊢
      have hOs := And.intro (hO.1.weak (Q := (fun y => w3.heap.size ≤ y ∧ y ≠ rb ∧ y ≠ ob)) (fun y hy p => by have := hq; omega)) hO.2
      clear hO
      have hO := hOs
      clear hOs
      have ho0 : w3.heap.size ≤ ob := by omega
      have hB2 := below_on hB (show Below W.heap.size W W2 from by rw [hq]; exact bW)
      have hS2 := HBS8.out _ hB2
      have hr2 := hr.below (show Below W.heap.size W W2 from by rw [hq]; exact bW)
      have hO2 := And.intro (hO.1.below (show Below W.heap.size W W2 from by rw [hq]; exact bW)) hO.2
      clear hB hS hr hO
      have hB := hB2
      have hS := hS2
      have hr := hr2
      have hO := hO2
      clear hB2 hS2 hr2 hO2
      have ho := rW
      clear rW bW zW hsz hq
      refine hK.out _ _ hS (fun hSx => ?_)
      clear hK K
      try simp only [Act.put, List.setIfInBounds_toArray, List.set_cons_zero, List.set_cons_succ]
      clear hSx
      revert hO
      revert ho0
      revert ho
      revert hr0
      revert hr
      revert hS
      revert hB
      revert cR
      revert AR
      revert ob
      revert rb
      revert W2
      exact k12_16_17.down
  case lk12_17 =>
   as_aux_lemma =>
    intro W ob AR cR hB hS ho ho0 hO
    refine wpAnyH_ready (rs := [15, 16]) (by kernel_rfl) (by simp) ?_
    refine AllReadyH.cons (o := ⟨some 74, .call { callee := .value (.func 10), args := #[.tmp 73], argTypes := #[23] }, 38, "law.go:104", #[⟨14, .data⟩, ⟨12, .chain⟩], none⟩) rfl (fun K hK => ?_) (AllReadyH.cons (o := ⟨some 6, .alloc 35, 0, "law.go:104", #[], none⟩) rfl (fun K hK => ?_) AllReadyH.nil)
    · go_simp
      go_at_call 10
      refine (KB0.out _).mono ?_
      rintro e W2 ⟨X1, y1, d1, X2, y2, d2, rfl, hwN, bN⟩
      have hsz := hB.size
      have holt := ho.lt
      have hwW := hwN.weak (Q := (fun y => w3.heap.size ≤ y ∧ y ≠ ob)) (fun y hy p => by have p := p.resolve_left (fun f => f); omega)
      have hB2 := below_on hB bN
      have hS2 := HBS8.out _ hB2
      have ho2 := ho.below bN
      have hO2 := And.intro (hO.1.below bN) hO.2
      clear hB hS ho hO
      have hB := hB2
      have hS := hS2
      have ho := ho2
      have hO := hO2
      clear hB2 hS2 ho2 hO2
      have hw := hwW
      clear hwW hwN bN hsz holt
      unfold wldV
      go_wp2_with fail
      refine hK.out _ _ hS (fun hSx => ?_)
      clear hK K
      try simp only [Act.put, List.setIfInBounds_toArray, List.set_cons_zero, List.set_cons_succ]
      clear hSx
      revert hw
      revert hO
      revert ho0
      revert ho
      revert hS
      revert hB
      revert d2
      revert y2
      revert X2
      revert d1
      revert y1
      revert X1
      revert cR
      revert AR
      revert ob
      revert W2
      exact k12_15_17.down
    · refine alloc_step rfl 35 rfl _ rv_zero ?_
      intro W2 rW bW zW
      have hsz := hB.size
      generalize hq : W.heap.size = rb at rW bW zW ⊢
      have hOs := And.intro (hO.1.weak (Q := (fun y => w3.heap.size ≤ y ∧ y ≠ rb ∧ y ≠ ob)) (fun y hy p => by have := hq; omega)) hO.2
      clear hO
      have hO := hOs
      clear hOs
      have hr0 : w3.heap.size ≤ rb := by omega
      have hB2 := below_on hB (show Below W.heap.size W W2 from by rw [hq]; exact bW)
      have hS2 := HBS8.out _ hB2
      have ho2 := ho.below (show Below W.heap.size W W2 from by rw [hq]; exact bW)
      have hO2 := And.intro (hO.1.below (show Below W.heap.size W W2 from by rw [hq]; exact bW)) hO.2
      clear hB hS ho hO
      have hB := hB2
      have hS := hS2
      have ho := ho2
      have hO := hO2
      clear hB2 hS2 ho2 hO2
      have hr := rW
      clear rW bW zW hsz hq
      refine hK.out _ _ hS (fun hSx => ?_)
      clear hK K
      try simp only [Act.put, List.setIfInBounds_toArray, List.set_cons_zero, List.set_cons_succ]
      clear hSx
      revert hO
      revert ho0
      revert ho
      revert hr0
      revert hr
      revert hS
      revert hB
      revert cR
      revert AR
      revert ob
      revert rb
      revert W2
      exact k12_16_17.down
  case lk16_17 =>
   as_aux_lemma =>
    intro W rb ob hB hS hr hr0 ho ho0
    refine wpAnyH_ready (rs := [12]) (by kernel_rfl) (by simp) ?_
    refine AllReadyH.cons (o := ⟨some 71, .call { callee := .value (.func 9), args := #[.tmp 61, .tmp 64, .tmp 66, .tmp 68, .tmp 70], argTypes := #[3, 3, 3, 3, 3] }, 35, "law.go:104", #[⟨2, .data⟩, ⟨5, .data⟩, ⟨7, .data⟩, ⟨9, .data⟩, ⟨11, .data⟩], none⟩) rfl (fun K hK => ?_) AllReadyH.nil
    go_simp
    go_at_call 9
    refine (KNW.out _).mono ?_
    rintro e W2 ⟨AR, cR, rfl, oN, bN⟩
    have hsz := hB.size
    have hrlt := hr.lt
    have holt := ho.lt
    have hON := (Lies.of_own oN).weak (Q := (fun y => w3.heap.size ≤ y ∧ y ≠ rb ∧ y ≠ ob)) (fun y hy p => by omega)
    have hCN := CapOk.of_own oN
    have hB2 := below_on hB bN
    have hS2 := HBS8.out _ hB2
    have hr2 := hr.below bN
    have ho2 := ho.below bN
    clear hB hS hr ho
    have hB := hB2
    have hS := hS2
    have hr := hr2
    have ho := ho2
    clear hB2 hS2 hr2 ho2
    have hO := And.intro hON hCN
    clear hON hCN oN bN hsz hrlt holt
    go_wp2_with fail
    refine hK.out _ _ hS (fun hSx => ?_)
    clear hK K
    try simp only [Act.put, List.setIfInBounds_toArray, List.set_cons_zero, List.set_cons_succ]
    clear hSx
    revert hO
    revert ho0
    revert ho
    revert hr0
    revert hr
    revert hS
    revert hB
    revert cR
    revert AR
    revert ob
    revert rb
    revert W2
    exact k12_16_17.down
  case lk12_15_16 =>
   as_aux_lemma =>
    intro W rb AR cR X1 y1 d1 X2 y2 d2 hB hS hr hr0 hO hw
    refine wpAnyH_ready (rs := [17]) (by kernel_rfl) (by simp) ?_
    refine AllReadyH.cons (o := ⟨some 7, .alloc 38, 0, "law.go:104", #[], none⟩) rfl (fun K hK => ?_) AllReadyH.nil
    refine alloc_step rfl 38 rfl _ rw_zero ?_
    intro W2 rW bW zW
    have hsz := hB.size
    generalize hq : W.heap.size = ob at rW bW zW ⊢
    have hOs := And.intro (hO.1.weak (Q := (fun y => w3.heap.size ≤ y ∧ y ≠ rb ∧ y ≠ ob)) (fun y hy p => by have := hq; omega)) hO.2
    clear hO
    have hO := hOs
    clear hOs
    have hws := hw.weak (Q := (fun y => w3.heap.size ≤ y ∧ y ≠ rb ∧ y ≠ ob)) (fun y hy p => by have := hq; omega)
    clear hw
    have hw := hws
    clear hws
    have ho0 : w3.heap.size ≤ ob := by omega
    have hB2 := below_on hB (show Below W.heap.size W W2 from by rw [hq]; exact bW)
    have hS2 := HBS8.out _ hB2
    have hr2 := hr.below (show Below W.heap.size W W2 from by rw [hq]; exact bW)
    have hO2 := And.intro (hO.1.below (show Below W.heap.size W W2 from by rw [hq]; exact bW)) hO.2
    have hw2 := hw.below (show Below W.heap.size W W2 from by rw [hq]; exact bW)
    clear hB hS hr hO hw
    have hB := hB2
    have hS := hS2
    have hr := hr2
    have hO := hO2
    have hw := hw2
    clear hB2 hS2 hr2 hO2 hw2
    have ho := rW
    clear rW bW zW hsz hq
    refine hK.out _ _ hS (fun hSx => ?_)
    clear hK K
    try simp only [Act.put, List.setIfInBounds_toArray, List.set_cons_zero, List.set_cons_succ]
    clear hSx
    revert hw
    revert hO
    revert ho0
    revert ho
    revert hr0
    revert hr
    revert hS
    revert hB
    revert d2
    revert y2
    revert X2
    revert d1
    revert y1
    revert X1
    revert cR
    revert AR
    revert ob
    revert rb
    revert W2
    exact k12_15_16_17.down
  case lk12_15_17 =>
   as_aux_lemma =>
    intro W ob AR cR X1 y1 d1 X2 y2 d2 hB hS ho ho0 hO hw
    refine wpAnyH_ready (rs := [16]) (by kernel_rfl) (by simp) ?_
    refine AllReadyH.cons (o := ⟨some 6, .alloc 35, 0, "law.go:104", #[], none⟩) rfl (fun K hK => ?_) AllReadyH.nil
    refine alloc_step rfl 35 rfl _ rv_zero ?_
    intro W2 rW bW zW
    have hsz := hB.size
    generalize hq : W.heap.size = rb at rW bW zW ⊢
    have hOs := And.intro (hO.1.weak (Q := (fun y => w3.heap.size ≤ y ∧ y ≠ rb ∧ y ≠ ob)) (fun y hy p => by have := hq; omega)) hO.2
    clear hO
    have hO := hOs
    clear hOs
    have hws := hw.weak (Q := (fun y => w3.heap.size ≤ y ∧ y ≠ rb ∧ y ≠ ob)) (fun y hy p => by have := hq; omega)
    clear hw
    have hw := hws
    clear hws
    have hr0 : w3.heap.size ≤ rb := by omega
    have hB2 := below_on hB (show Below W.heap.size W W2 from by rw [hq]; exact bW)
    have hS2 := HBS8.out _ hB2
    have ho2 := ho.below (show Below W.heap.size W W2 from by rw [hq]; exact bW)
    have hO2 := And.intro (hO.1.below (show Below W.heap.size W W2 from by rw [hq]; exact bW)) hO.2
    have hw2 := hw.below (show Below W.heap.size W W2 from by rw [hq]; exact bW)
    clear hB hS ho hO hw
    have hB := hB2
    have hS := hS2
    have ho := ho2
    have hO := hO2
    have hw := hw2
    clear hB2 hS2 ho2 hO2 hw2
    have hr := rW
    clear rW bW zW hsz hq
    refine hK.out _ _ hS (fun hSx => ?_)
    clear hK K
    try simp only [Act.put, List.setIfInBounds_toArray, List.set_cons_zero, List.set_cons_succ]
    clear hSx
    revert hw
    revert hO
    revert ho0
    revert ho
    revert hr0
    revert hr
    revert hS
    revert hB
    revert d2
    revert y2
    revert X2
    revert d1
    revert y1
    revert X1
    revert cR
    revert AR
    revert ob
    revert rb
    revert W2
    exact k12_15_16_17.down
  case lk12_16_17 =>
   as_aux_lemma =>
    intro W rb ob AR cR hB hS hr hr0 ho ho0 hO
    refine wpAnyH_ready (rs := [15]) (by kernel_rfl) (by simp) ?_
    refine AllReadyH.cons (o := ⟨some 74, .call { callee := .value (.func 10), args := #[.tmp 73], argTypes := #[23] }, 38, "law.go:104", #[⟨14, .data⟩, ⟨12, .chain⟩], none⟩) rfl (fun K hK => ?_) AllReadyH.nil
    go_simp
    go_at_call 10
    refine (KB0.out _).mono ?_
    rintro e W2 ⟨X1, y1, d1, X2, y2, d2, rfl, hwN, bN⟩
    have hsz := hB.size
    have hrlt := hr.lt
    have holt := ho.lt
    have hwW := hwN.weak (Q := (fun y => w3.heap.size ≤ y ∧ y ≠ rb ∧ y ≠ ob)) (fun y hy p => by have p := p.resolve_left (fun f => f); omega)
    have hB2 := below_on hB bN
    have hS2 := HBS8.out _ hB2
    have hr2 := hr.below bN
    have ho2 := ho.below bN
    have hO2 := And.intro (hO.1.below bN) hO.2
    clear hB hS hr ho hO
    have hB := hB2
    have hS := hS2
    have hr := hr2
    have ho := ho2
    have hO := hO2
    clear hB2 hS2 hr2 ho2 hO2
    have hw := hwW
    clear hwW hwN bN hsz hrlt holt
    unfold wldV
    go_wp2_with fail
    refine hK.out _ _ hS (fun hSx => ?_)
    clear hK K
    try simp only [Act.put, List.setIfInBounds_toArray, List.set_cons_zero, List.set_cons_succ]
    clear hSx
    revert hw
    revert hO
    revert ho0
    revert ho
    revert hr0
    revert hr
    revert hS
    revert hB
    revert d2
    revert y2
    revert X2
    revert d1
    revert y1
    revert X1
    revert cR
    revert AR
    revert ob
    revert rb
    revert W2
    exact k12_15_16_17.down
  intro W rb ob AR cR X1 y1 d1 X2 y2 d2 hB hS hr hr0 ho ho0 hO hw
  refine wpAnyH_ready (rs := [18]) (by kernel_rfl) (by simp) ?_
  refine AllReadyH.cons (o := ⟨none, .store 35 (.tmp 6) (.tmp 71), 0, "law.go:104", #[⟨16, .data⟩, ⟨12, .data⟩, ⟨15, .chain⟩, ⟨0, .phase⟩, ⟨1, .phase⟩, ⟨2, .phase⟩, ⟨3, .phase⟩, ⟨4, .phase⟩, ⟨5, .phase⟩, ⟨6, .phase⟩, ⟨7, .phase⟩, ⟨8, .phase⟩, ⟨9, .phase⟩, ⟨10, .phase⟩, ⟨11, .phase⟩, ⟨12, .phase⟩, ⟨13, .textOnly .lateStores⟩, ⟨14, .textOnly .lateStores⟩, ⟨15, .textOnly .lateStoresUnsure⟩, ⟨16, .phase⟩, ⟨17, .phase⟩], none⟩) rfl (fun K hK => ?_) AllReadyH.nil
  refine storeRow_step rfl 35 (.tmp 6) (.tmp 71) rfl rb rfl (rvC R0 (.slice AR r cR) (.slice none 0 0) (.slice none 0 0)) rfl (HSZ.out _ _ _ _) 35 rvZ hr rfl (rv_one _) ?_
  intro wS rwS owS zwS
  have hrlt := hr.lt
  have hro := Row.ne hr ho (by decide)
  have hBS := Only.below hB owS hB.size (fun y hy e => by omega)
  have hoS := ho.only owS (fun e => hro e.symm)
  have hOS := And.intro (hO.1.only owS (fun y e p => by omega)) hO.2
  have hwS := hw.only owS (fun y e p => by omega)
  have hSS := HBS8.out _ hBS
  refine hK.out _ _ hSS (fun hSx => ?_)
  clear hK K
  try simp only [Act.put]
  refine wpAnyH_ready (rs := [19]) (by kernel_rfl) (by simp) ?_
  refine AllReadyH.cons (o := ⟨none, .store 38 (.tmp 7) (.tmp 74), 0, "law.go:104", #[⟨17, .data⟩, ⟨15, .data⟩, ⟨18, .chain⟩, ⟨0, .phase⟩, ⟨1, .phase⟩, ⟨2, .phase⟩, ⟨3, .phase⟩, ⟨4, .phase⟩, ⟨5, .phase⟩, ⟨6, .phase⟩, ⟨7, .phase⟩, ⟨8, .phase⟩, ⟨9, .phase⟩, ⟨10, .phase⟩, ⟨11, .phase⟩, ⟨12, .phase⟩, ⟨13, .phase⟩, ⟨14, .phase⟩, ⟨15, .phase⟩, ⟨16, .phase⟩, ⟨17, .phase⟩, ⟨18, .phase⟩], none⟩) rfl (fun K hK => ?_) AllReadyH.nil
  refine storeRow_step rfl 38 (.tmp 7) (.tmp 74) rfl ob rfl ([.slice X1 y1 d1, .slice X2 y2 d2, .int .i64 B]) rfl (rw_size.trans (congrArg some rfl)) 38 [.slice none 0 0, .slice none 0 0, .int .i64 0] hoS rfl rw_one ?_
  intro wT rwT owT zwT
  have hBT := Only.below hBS owT hBS.size (fun y hy e => by omega)
  have hrT := rwS.only owT hro
  have hOT := And.intro (hOS.1.only owT (fun y e p => by omega)) hO.2
  have hwT := hwS.only owT (fun y e p => by omega)
  have hST := HBS8.out _ hBT
  refine hK.out _ _ hST (fun hSx => ?_)
  clear hK K
  try simp only [Act.put]
  refine wpAnyH_done (by kernel_rfl) ?_ _
  have HI0 : Hid (Inv16s w wT g ob rb bs B G0 N) := Lib.hid (by
    have hbl := R3.out.lt
    have hwl := B3.out.size
    have lwT := hrT.lt
    refine ⟨G0, _, _, X1, y1, d1, X2, y2, d2, R0, AR, r, cR, none, 0, 0, none, 0, 0, (fun x => w.heap.size < x ∧ x < w3.heap.size), (fun y => w3.heap.size ≤ y ∧ y ≠ rb ∧ y ≠ ob), HOK0.out, ⟨rfl, rfl, rfl, rfl⟩, List.length_replicate, List.length_replicate, HREL0.out, ⟨⟨R3.out.below hBT, rwT, S3.out.below hBT, hwT, fun x h1 h2 => by omega, fun x hx => ⟨hx.1, by omega⟩, fun x hx => ⟨by omega, hx.2.2⟩, by omega, below_on B3.out hBT⟩, hrT, ?_, hro, by omega, fun h => by omega, fun h => h.2.1 rfl⟩⟩
    have e1 : R0.free = upto16 r := by rw [HR0V.out]; rfl
    have e2 : R0.out = [] := by rw [HR0V.out]; rfl
    have e3 : R0.load = [] := by rw [HR0V.out]; rfl
    exact ⟨by rw [e1]; exact hOT.1, by rw [e2]; exact Lies.nil_ _ _, by rw [e3]; exact Lies.nil_ _ _, hOT.2, rfl, rfl⟩)
  clear hB hS hB0 hS0 hrT hOT hwT hBT hST hoS hOS hwS hBS hSS hr hr0 ho ho0 hO hw hrlt rwS owS zwS rwT owT zwT hSx
  go_wp2
  go_loopw [77] (fun iv wr => ∃ k : Nat, k ≤ n ∧ iv = .int .i64 k ∧ Hid (Inv16s w wr g ob rb bs B G0 N)) (fun iv _ => n - (intOf iv).toNat)
  case atStart => exact ⟨0, Nat.zero_le _, rfl, HI0⟩
  case round =>
    clear HI0 hro
    obtain ⟨k, hk, rfl, HI⟩ := hrel
    obtain ⟨Gg, Vw, Ew, A1, n1, c1, A2, n2, c2, Rr, Af, nf, cf, Ao, no, co, Al, nl, cl, U, P, hOK, hSM, hVN, hE8, hRL, L⟩ := HI.out
    have hbw := L.lp.below
    by_cases hlt : k < n
    · obtain ⟨x, hx⟩ : ∃ x, l[k]? = some x := ⟨_, List.getElem?_eq_getElem (by rw [HN.out]; exact hlt)⟩
      obtain ⟨ge, oe, rfl, u, y0, y1, y2, y3, hxl, hcap⟩ := HEV.out w (Below.refl _ _) k x hx
      have hgl := World.block_lt_of_cell? w _ y0
      have x0 : wr.cell? ⟨ge, oe + k * 4, none⟩ = some (.int .i64 x.kind) := (hbw.cell (p := ⟨ge, oe + k * 4, none⟩) hgl).trans y0
      have x1 : wr.cell? ⟨ge, oe + k * 4 + 1, none⟩ = some (.int .i64 x.at_) := (hbw.cell (p := ⟨ge, oe + k * 4 + 1, none⟩) hgl).trans y1
      have x2 : wr.cell? ⟨ge, oe + k * 4 + 2, none⟩ = some (.int .i64 x.word) := (hbw.cell (p := ⟨ge, oe + k * 4 + 2, none⟩) hgl).trans y2
      have x3 : wr.cell? ⟨ge, oe + k * 4 + 3, none⟩ = some u := (hbw.cell (p := ⟨ge, oe + k * 4 + 3, none⟩) hgl).trans y3
      obtain ⟨Au, nu, cu, rfl, HNU, HU⟩ := lies_open hxl
      have hkn : (k : Int) < (n : Int) := by omega
      have bx := below_al wr (.cells #[.int .i64 x.kind, .int .i64 x.at_, .int .i64 x.word, .slice Au nu cu] 41)
      have lx := L.quiet bx
      have rx := Row.new wr 41 #[.int .i64 x.kind, .int .i64 x.at_, .int .i64 x.word, .slice Au nu cu]
      have hobl := L.lp.obj.lt
      obtain ⟨wx, hwx⟩ : ∃ wx, wx = wr.alloc (.cells #[.int .i64 x.kind, .int .i64 x.at_, .int .i64 x.word, .slice Au nu cu] 41) := ⟨_, rfl⟩
      rw [← hwx] at lx bx rx
      have LX := Lib.hid lx
      have BX := Lib.hid bx
      have RX := Lib.hid rx
      have HOK := Lib.hid hOK
      have HSM := Lib.hid hSM
      have HLN := Lib.hid (And.intro hVN hE8)
      have HRL := Lib.hid hRL
      have HEB := Lib.hid L.ref.lt
      have HAG := Lib.hid (And.intro hxl hcap)
      clear hx hxl bx lx rx hOK hSM hVN hE8 hRL hbw HI HEV HN y0 y1 y2 y3 hgl L HU HNU hcap
      go_upto_block 2 with fail
      rw [← hwx]
      have e0 := RX.out.cell 0
      have e1 := RX.out.cell 1
      have e2 := RX.out.cell 2
      have e3 := RX.out.cell 3
      have o0 := LX.out.lp.obj.cell 0
      have o1 := LX.out.lp.obj.cell 1
      have o2 := LX.out.lp.obj.cell 2
      simp only [List.getElem?_cons_zero, List.getElem?_cons_succ] at o0 o1 o2 e0 e1 e2 e3
      clear hwx x0 x1 x2 x3
      go_cut [77] from 78 to 209 (fun iv wc => iv = .int .i64 (k : Int) ∧ Hid (Inv16s w wc g ob rb bs B G0 N))
      case rest =>
        obtain ⟨rfl, HIE⟩ := hcut
        clear LX BX RX HOK HSM HLN HRL HAG e0 e1 e2 e3 o0 o1 o2
        as_aux_lemma =>
         obtain ⟨GE, VE, EE, B1, m1, e1, B2, m2, e2, RE, AfE, nfE, cfE, AoE, noE, coE, AlE, nlE, clE, UE, PE, OKE, SME, VNE, EEE, RLE, LE⟩ := HIE.out
         have HIQ := Lib.hid (fun W (hb : Below wc.heap.size wc W) => (⟨GE, VE, EE, B1, m1, e1, B2, m2, e2, RE, AfE, nfE, cfE, AoE, noE, coE, AlE, nlE, clE, UE, PE, OKE, SME, VNE, EEE, RLE, LE.quiet hb⟩ : Inv16s w W g ob rb bs B G0 N))
         have hq64 := OKE.R64
         have hqlen := OKE.len
         obtain ⟨vfQ, voQ, vlQ, rgQ, -⟩ := LE.lp.gis
         obtain ⟨bz, hbz⟩ : ∃ bz, ((GE.st : Int) != 0) = bz := ⟨_, rfl⟩
         have KBU := Lib.hid (fun W (hb : Below wc.heap.size wc W) => (busy16_any W (rgQ.below hb)).mono (R' := fun e w' => e = .returned (.bool bz) ∧ Below W.heap.size W w') (fun e w' ⟨he, hw⟩ => ⟨by rw [he, hbz], by rw [← hw]; exact Below.refl _ _⟩))
         have KLI := Lib.hid (fun W (hb : Below wc.heap.size wc W) => (linked16_any W (rgQ.below hb)).mono (R' := fun e w' => e = .returned (.bool GE.linked) ∧ Below W.heap.size W w') (fun e w' ⟨he, hw⟩ => ⟨he, by rw [← hw]; exact Below.refl _ _⟩))
         have KFR := Lib.hid (fun W (hb : Below wc.heap.size wc W) => free16_any W (rgQ.below hb) (by omega))
         have KOU := Lib.hid (fun W (hb : Below wc.heap.size wc W) => out16_any W (rgQ.below hb) (by omega))
         have KSF := Lib.hid (fun W (v : Value) (hb : Below wc.heap.size wc W) {Q : Nat → Prop} (hv : Lies W Q v (ints GE.free)) => rsame_yes Q PE v (.slice AfE nfE cfE) GE.free W hv (by rw [← RLE.free]; exact LE.lists.free.below hb) (by omega))
         have KSO := Lib.hid (fun W (v : Value) (hb : Below wc.heap.size wc W) {Q : Nat → Prop} (hv : Lies W Q v (ints GE.out)) => rsame_yes Q PE v (.slice AoE noE coE) GE.out W hv (by rw [← RLE.out]; exact LE.lists.out.below hb) (by omega))
         have HBS30 : Hid (∀ W, Below wc.heap.size wc W → W.cell? ⟨rb, 11, none⟩ = some (.int .i64 (GE.st : Int)) ∧ W.cell? ⟨rb, 6, none⟩ = some (.bool GE.linked) ∧ W.cell? ⟨rb, 7, none⟩ = some (.slice AfE nfE cfE) ∧ W.cell? ⟨rb, 8, none⟩ = some (.slice AoE noE coE)) := Lib.hid (fun W hb => by
           have r := LE.ref.below hb
           have a11 := r.cell 11
           have a6 := r.cell 6
           have a7 := r.cell 7
           have a8 := r.cell 8
           simp only [rvC, List.getElem?_cons_zero, List.getElem?_cons_succ] at a11 a6 a7 a8
           rw [RLE.at_] at a11
           rw [RLE.linked] at a6
           exact ⟨a11, a6, a7, a8⟩)
         clear OKE SME VNE EEE RLE LE rgQ hq64 hqlen HIE
         go_wp2
         have hbQ : Below wc.heap.size wc wc.drew := (Below.refl _ _).drew
         have hSQ := HBS30.out _ hbQ
         refine wp_region_held_drew (S := fun W => W.cell? ⟨rb, 11, none⟩ = some (.int .i64 (GE.st : Int)) ∧ W.cell? ⟨rb, 6, none⟩ = some (.bool GE.linked) ∧ W.cell? ⟨rb, 7, none⟩ = some (.slice AfE nfE cfE) ∧ W.cell? ⟨rb, 8, none⟩ = some (.slice AoE noE coE)) (by kernel_rfl) hSQ (fun hHeld => ?_)
         refine' wpAnyH_take (i := 0) (oi := ⟨some 181, .move (.tmp 5), 29, "law.go:127", #[], none⟩) (v := _) rfl (by kernel_rfl) (by kernel_rfl) (by kernel_rfl) (fun _ _ _ h => h) (Or.inl ⟨by rfl, ?hy16⟩) (by assumption) ?rest16
         case hy16 => (intro w hSw; (try dsimp only at hSw); go_simp; try with_reducible rfl)
         try simp only [Act.put, List.setIfInBounds_toArray, List.set_cons_zero, List.set_cons_succ]
         refine' wpAnyH_take (i := 2) (oi := ⟨some 183, .fieldAddr 35 (.tmp 6) 11, 0, "law.go:127", #[], none⟩) (v := _) rfl (by kernel_rfl) (by kernel_rfl) (by kernel_rfl) (fun _ _ _ h => h) (Or.inl ⟨by rfl, ?hy18⟩) (by assumption) ?rest18
         case hy18 => (intro w hSw; (try dsimp only at hSw); go_simp; try with_reducible rfl)
         try simp only [Act.put, List.setIfInBounds_toArray, List.set_cons_zero, List.set_cons_succ]
         refine' wpAnyH_take (i := 3) (oi := ⟨some 184, .load 3 (.tmp 183), 3, "law.go:127", #[⟨2, .data⟩], none⟩) (v := _) rfl (by kernel_rfl) (by kernel_rfl) (by kernel_rfl) (fun _ _ _ h => h) (Or.inl ⟨by rfl, ?hy20⟩) (by assumption) ?rest20
         case hy20 => (intro w hSw; (try dsimp only at hSw); go_simp; try with_reducible rfl)
         try simp only [Act.put, List.setIfInBounds_toArray, List.set_cons_zero, List.set_cons_succ]
         refine' wpAnyH_take (i := 4) (oi := ⟨some 185, .binOp .neq 3 (.tmp 184) (.const (.int .i64 0)) 3, 4, "law.go:127", #[⟨3, .data⟩], none⟩) (v := _) rfl (by kernel_rfl) (by kernel_rfl) (by kernel_rfl) (fun _ _ _ h => h) (Or.inl ⟨by rfl, ?hy22⟩) (by assumption) ?rest22
         case hy22 => (intro w hSw; (try dsimp only at hSw); go_simp; try with_reducible rfl)
         try simp only [Act.put, List.setIfInBounds_toArray, List.set_cons_zero, List.set_cons_succ]
         refine wpAnyH_ready (rs := [1]) (by kernel_rfl) (by simp) ?_
         refine AllReadyH.cons (o := ⟨some 182, .call { callee := .value (.func 22), args := #[.tmp 181], argTypes := #[29] }, 4, "law.go:127", #[⟨0, .data⟩], none⟩) rfl (fun K hK => ?_) AllReadyH.nil
         go_simp
         go_at_call 22
         refine (KBU.out _ hbQ).mono ?_
         rintro e wA ⟨rfl, bA⟩
         have hbN := below_on hbQ bA
         clear hbQ
         have hbQ := hbN
         clear hbN
         have hSQ := HBS30.out _ hbQ
         go_wp2_with fail
         refine hK.out _ _ hSQ (fun hSx => ?_)
         clear hK K
         try simp only [Act.put, List.setIfInBounds_toArray, List.set_cons_zero, List.set_cons_succ]
         refine' wpAnyH_take (i := 5) (oi := ⟨some 186, .binOp .neq 4 (.tmp 182) (.tmp 185) 4, 4, "law.go:127", #[⟨1, .data⟩, ⟨4, .data⟩], none⟩) (v := _) rfl (by kernel_rfl) (by kernel_rfl) (by kernel_rfl) (fun _ _ _ h => h) (Or.inl ⟨by rfl, ?hy24⟩) (by assumption) ?rest24
         case hy24 => (intro w hSw; (try dsimp only at hSw); go_simp; try with_reducible rfl)
         try simp only [Act.put, List.setIfInBounds_toArray, List.set_cons_zero, List.set_cons_succ]
         refine' wpAnyH_take (i := 6) (oi := ⟨some 187, .move (.tmp 186), 4, "law.go:127", #[⟨5, .data⟩, ⟨1, .chain⟩], none⟩) (v := _) rfl (by kernel_rfl) (by kernel_rfl) (by kernel_rfl) (fun _ _ _ h => h) (Or.inl ⟨by rfl, ?hy25⟩) (by assumption) ?rest25
         case hy25 => (intro w hSw; (try dsimp only at hSw); go_simp; try with_reducible rfl)
         try simp only [Act.put, List.setIfInBounds_toArray, List.set_cons_zero, List.set_cons_succ]
         refine' wpAnyH_take (i := 7) (oi := ⟨some 188, .move (.tmp 5), 29, "law.go:127", #[⟨6, .guard⟩], some (6, false)⟩) (v := _) rfl (by kernel_rfl) (by kernel_rfl) (by kernel_rfl) (fun _ _ _ h => h) (Or.inl ⟨by rfl, ?hy26⟩) (by assumption) ?rest26
         case hy26 => (intro w hSw; (try dsimp only at hSw); go_simp; try with_reducible rfl)
         try simp only [Act.put, List.setIfInBounds_toArray, List.set_cons_zero, List.set_cons_succ]
         refine' wpAnyH_take (i := 9) (oi := ⟨some 190, .fieldAddr 35 (.tmp 6) 6, 0, "law.go:127", #[⟨6, .guard⟩], some (6, false)⟩) (v := _) rfl (by kernel_rfl) (by kernel_rfl) (by kernel_rfl) (fun _ _ _ h => h) (Or.inl ⟨by rfl, ?hy28⟩) (by assumption) ?rest28
         case hy28 => (intro w hSw; (try dsimp only at hSw); go_simp; try with_reducible rfl)
         try simp only [Act.put, List.setIfInBounds_toArray, List.set_cons_zero, List.set_cons_succ]
         refine' wpAnyH_take (i := 10) (oi := ⟨some 191, .load 4 (.tmp 190), 4, "law.go:127", #[⟨9, .data⟩, ⟨6, .guard⟩], some (6, false)⟩) (v := _) rfl (by kernel_rfl) (by kernel_rfl) (by kernel_rfl) (fun _ _ _ h => h) (Or.inl ⟨by rfl, ?hy30⟩) (by assumption) ?rest30
         case hy30 => (intro w hSw; (try dsimp only at hSw); go_simp; try with_reducible rfl)
         try simp only [Act.put, List.setIfInBounds_toArray, List.set_cons_zero, List.set_cons_succ]
         refine wpAnyH_ready (rs := [8]) (by kernel_rfl) (by simp) ?_
         refine AllReadyH.cons (o := ⟨some 189, .call { callee := .value (.func 23), args := #[.tmp 188], argTypes := #[29] }, 4, "law.go:127", #[⟨7, .data⟩, ⟨6, .chain⟩, ⟨6, .guard⟩], some (6, false)⟩) rfl (fun K hK => ?_) AllReadyH.nil
         go_simp
         go_at_call 23
         refine (KLI.out _ hbQ).mono ?_
         rintro e wB ⟨rfl, bB⟩
         have hbN := below_on hbQ bB
         clear hbQ
         have hbQ := hbN
         clear hbN
         have hSQ := HBS30.out _ hbQ
         go_wp2_with fail
         refine hK.out _ _ hSQ (fun hSx => ?_)
         clear hK K
         try simp only [Act.put, List.setIfInBounds_toArray, List.set_cons_zero, List.set_cons_succ]
         refine' wpAnyH_take (i := 11) (oi := ⟨some 192, .binOp .neq 4 (.tmp 189) (.tmp 191) 4, 4, "law.go:127", #[⟨8, .data⟩, ⟨10, .data⟩, ⟨6, .guard⟩], some (6, false)⟩) (v := _) rfl (by kernel_rfl) (by kernel_rfl) (by kernel_rfl) (fun _ _ _ h => h) (Or.inl ⟨by rfl, ?hy32⟩) (by assumption) ?rest32
         case hy32 => (intro w hSw; (try dsimp only at hSw); go_simp; try with_reducible rfl)
         try simp only [Act.put, List.setIfInBounds_toArray, List.set_cons_zero, List.set_cons_succ]
         refine' wpAnyH_take (i := 12) (oi := ⟨some 193, .pick (.tmp 187) (.const (.bool true)) (.tmp 192), 4, "law.go:127", #[⟨6, .data⟩, ⟨11, .data⟩], none⟩) (v := _) rfl (by kernel_rfl) (by kernel_rfl) (by kernel_rfl) (fun _ _ _ h => h) (Or.inl ⟨by rfl, ?hy33⟩) (by assumption) ?rest33
         case hy33 => (intro w hSw; (try dsimp only at hSw); go_simp; try with_reducible rfl)
         try simp only [Act.put, List.setIfInBounds_toArray, List.set_cons_zero, List.set_cons_succ]
         refine' wpAnyH_take (i := 13) (oi := ⟨some 194, .move (.tmp 193), 4, "law.go:127", #[⟨12, .data⟩, ⟨8, .chain⟩], none⟩) (v := _) rfl (by kernel_rfl) (by kernel_rfl) (by kernel_rfl) (fun _ _ _ h => h) (Or.inl ⟨by rfl, ?hy34⟩) (by assumption) ?rest34
         case hy34 => (intro w hSw; (try dsimp only at hSw); go_simp; try with_reducible rfl)
         try simp only [Act.put, List.setIfInBounds_toArray, List.set_cons_zero, List.set_cons_succ]
         refine' wpAnyH_take (i := 14) (oi := ⟨some 195, .move (.tmp 5), 29, "law.go:127", #[⟨13, .guard⟩], some (13, false)⟩) (v := _) rfl (by kernel_rfl) (by kernel_rfl) (by kernel_rfl) (fun _ _ _ h => h) (Or.inl ⟨by rfl, ?hy35⟩) (by assumption) ?rest35
         case hy35 => (intro w hSw; (try dsimp only at hSw); go_simp; try with_reducible rfl)
         try simp only [Act.put, List.setIfInBounds_toArray, List.set_cons_zero, List.set_cons_succ]
         refine' wpAnyH_take (i := 16) (oi := ⟨some 197, .fieldAddr 35 (.tmp 6) 7, 0, "law.go:127", #[⟨13, .guard⟩], some (13, false)⟩) (v := _) rfl (by kernel_rfl) (by kernel_rfl) (by kernel_rfl) (fun _ _ _ h => h) (Or.inl ⟨by rfl, ?hy37⟩) (by assumption) ?rest37
         case hy37 => (intro w hSw; (try dsimp only at hSw); go_simp; try with_reducible rfl)
         try simp only [Act.put, List.setIfInBounds_toArray, List.set_cons_zero, List.set_cons_succ]
         refine' wpAnyH_take (i := 17) (oi := ⟨some 198, .load 33 (.tmp 197), 33, "law.go:127", #[⟨16, .data⟩, ⟨13, .guard⟩], some (13, false)⟩) (v := _) rfl (by kernel_rfl) (by kernel_rfl) (by kernel_rfl) (fun _ _ _ h => h) (Or.inl ⟨by rfl, ?hy39⟩) (by assumption) ?rest39
         case hy39 => (intro w hSw; (try dsimp only at hSw); go_simp; try with_reducible rfl)
         try simp only [Act.put, List.setIfInBounds_toArray, List.set_cons_zero, List.set_cons_succ]
         refine wpAnyH_ready (rs := [15]) (by kernel_rfl) (by simp) ?_
         refine AllReadyH.cons (o := ⟨some 196, .call { callee := .value (.func 24), args := #[.tmp 195], argTypes := #[29] }, 33, "law.go:127", #[⟨14, .data⟩, ⟨13, .chain⟩, ⟨13, .guard⟩], some (13, false)⟩) rfl (fun K hK => ?_) AllReadyH.nil
         go_simp
         go_at_call 24
         refine (KFR.out _ hbQ).mono ?_
         rintro e wC ⟨vC, rfl, oC, bC⟩
         obtain ⟨AC, cC, rfl⟩ := own_open14 oC
         have hbN := below_on hbQ bC
         clear hbQ
         have hbQ := hbN
         clear hbN
         have hSQ := HBS30.out _ hbQ
         go_wp2_with fail
         refine hK.out _ _ hSQ (fun hSx => ?_)
         clear hK K
         try simp only [Act.put, List.setIfInBounds_toArray, List.set_cons_zero, List.set_cons_succ]
         refine wpAnyH_ready (rs := [18]) (by kernel_rfl) (by simp) ?_
         refine AllReadyH.cons (o := ⟨some 199, .call { callee := .value (.func 20), args := #[.tmp 196, .tmp 198], argTypes := #[33, 33] }, 4, "law.go:127", #[⟨15, .data⟩, ⟨17, .data⟩, ⟨15, .chain⟩, ⟨13, .guard⟩], some (13, false)⟩) rfl (fun K hK => ?_) AllReadyH.nil
         go_simp
         go_at_call 20
         refine (KSF.out _ _ hbQ (Lies.of_own oC)).mono ?_
         rintro e wD ⟨rfl, bD⟩
         have hbN := below_on hbQ bD
         clear hbQ
         have hbQ := hbN
         clear hbN
         have hSQ := HBS30.out _ hbQ
         go_wp2_with fail
         refine hK.out _ _ hSQ (fun hSx => ?_)
         clear hK K
         try simp only [Act.put, List.setIfInBounds_toArray, List.set_cons_zero, List.set_cons_succ]
         refine' wpAnyH_take (i := 19) (oi := ⟨some 200, .unOp .not 4 (.tmp 199), 4, "law.go:127", #[⟨18, .data⟩, ⟨13, .guard⟩], some (13, false)⟩) (v := _) rfl (by kernel_rfl) (by kernel_rfl) (by kernel_rfl) (fun _ _ _ h => h) (Or.inl ⟨by rfl, ?hy42⟩) (by assumption) ?rest42
         case hy42 => (intro w hSw; (try dsimp only at hSw); go_simp; try with_reducible rfl)
         try simp only [Act.put, List.setIfInBounds_toArray, List.set_cons_zero, List.set_cons_succ]
         refine' wpAnyH_take (i := 20) (oi := ⟨some 201, .pick (.tmp 194) (.const (.bool true)) (.tmp 200), 4, "law.go:127", #[⟨13, .data⟩, ⟨19, .data⟩], none⟩) (v := _) rfl (by kernel_rfl) (by kernel_rfl) (by kernel_rfl) (fun _ _ _ h => h) (Or.inl ⟨by rfl, ?hy43⟩) (by assumption) ?rest43
         case hy43 => (intro w hSw; (try dsimp only at hSw); go_simp; try with_reducible rfl)
         try simp only [Act.put, List.setIfInBounds_toArray, List.set_cons_zero, List.set_cons_succ]
         refine' wpAnyH_take (i := 21) (oi := ⟨some 202, .move (.tmp 201), 4, "law.go:127", #[⟨20, .data⟩, ⟨18, .chain⟩], none⟩) (v := _) rfl (by kernel_rfl) (by kernel_rfl) (by kernel_rfl) (fun _ _ _ h => h) (Or.inl ⟨by rfl, ?hy44⟩) (by assumption) ?rest44
         case hy44 => (intro w hSw; (try dsimp only at hSw); go_simp; try with_reducible rfl)
         try simp only [Act.put, List.setIfInBounds_toArray, List.set_cons_zero, List.set_cons_succ]
         refine' wpAnyH_take (i := 22) (oi := ⟨some 203, .move (.tmp 5), 29, "law.go:127", #[⟨21, .guard⟩], some (21, false)⟩) (v := _) rfl (by kernel_rfl) (by kernel_rfl) (by kernel_rfl) (fun _ _ _ h => h) (Or.inl ⟨by rfl, ?hy45⟩) (by assumption) ?rest45
         case hy45 => (intro w hSw; (try dsimp only at hSw); go_simp; try with_reducible rfl)
         try simp only [Act.put, List.setIfInBounds_toArray, List.set_cons_zero, List.set_cons_succ]
         refine' wpAnyH_take (i := 24) (oi := ⟨some 205, .fieldAddr 35 (.tmp 6) 8, 0, "law.go:127", #[⟨21, .guard⟩], some (21, false)⟩) (v := _) rfl (by kernel_rfl) (by kernel_rfl) (by kernel_rfl) (fun _ _ _ h => h) (Or.inl ⟨by rfl, ?hy47⟩) (by assumption) ?rest47
         case hy47 => (intro w hSw; (try dsimp only at hSw); go_simp; try with_reducible rfl)
         try simp only [Act.put, List.setIfInBounds_toArray, List.set_cons_zero, List.set_cons_succ]
         refine' wpAnyH_take (i := 25) (oi := ⟨some 206, .load 33 (.tmp 205), 33, "law.go:127", #[⟨24, .data⟩, ⟨21, .guard⟩], some (21, false)⟩) (v := _) rfl (by kernel_rfl) (by kernel_rfl) (by kernel_rfl) (fun _ _ _ h => h) (Or.inl ⟨by rfl, ?hy49⟩) (by assumption) ?rest49
         case hy49 => (intro w hSw; (try dsimp only at hSw); go_simp; try with_reducible rfl)
         try simp only [Act.put, List.setIfInBounds_toArray, List.set_cons_zero, List.set_cons_succ]
         refine wpAnyH_ready (rs := [23]) (by kernel_rfl) (by simp) ?_
         refine AllReadyH.cons (o := ⟨some 204, .call { callee := .value (.func 25), args := #[.tmp 203], argTypes := #[29] }, 33, "law.go:127", #[⟨22, .data⟩, ⟨21, .chain⟩, ⟨21, .guard⟩], some (21, false)⟩) rfl (fun K hK => ?_) AllReadyH.nil
         go_simp
         go_at_call 25
         refine (KOU.out _ hbQ).mono ?_
         rintro e wF ⟨vF, rfl, oF, bF⟩
         obtain ⟨AF, cF, rfl⟩ := own_open14 oF
         have hbN := below_on hbQ bF
         clear hbQ
         have hbQ := hbN
         clear hbN
         have hSQ := HBS30.out _ hbQ
         go_wp2_with fail
         refine hK.out _ _ hSQ (fun hSx => ?_)
         clear hK K
         try simp only [Act.put, List.setIfInBounds_toArray, List.set_cons_zero, List.set_cons_succ]
         refine wpAnyH_ready (rs := [26]) (by kernel_rfl) (by simp) ?_
         refine AllReadyH.cons (o := ⟨some 207, .call { callee := .value (.func 20), args := #[.tmp 204, .tmp 206], argTypes := #[33, 33] }, 4, "law.go:127", #[⟨23, .data⟩, ⟨25, .data⟩, ⟨23, .chain⟩, ⟨21, .guard⟩], some (21, false)⟩) rfl (fun K hK => ?_) AllReadyH.nil
         go_simp
         go_at_call 20
         refine (KSO.out _ _ hbQ (Lies.of_own oF)).mono ?_
         rintro e wH ⟨rfl, bH⟩
         have hbN := below_on hbQ bH
         clear hbQ
         have hbQ := hbN
         clear hbN
         have hSQ := HBS30.out _ hbQ
         go_wp2_with fail
         refine hK.out _ _ hSQ (fun hSx => ?_)
         clear hK K
         try simp only [Act.put, List.setIfInBounds_toArray, List.set_cons_zero, List.set_cons_succ]
         refine' wpAnyH_take (i := 27) (oi := ⟨some 208, .unOp .not 4 (.tmp 207), 4, "law.go:127", #[⟨26, .data⟩, ⟨21, .guard⟩], some (21, false)⟩) (v := _) rfl (by kernel_rfl) (by kernel_rfl) (by kernel_rfl) (fun _ _ _ h => h) (Or.inl ⟨by rfl, ?hy52⟩) (by assumption) ?rest52
         case hy52 => (intro w hSw; (try dsimp only at hSw); go_simp; try with_reducible rfl)
         try simp only [Act.put, List.setIfInBounds_toArray, List.set_cons_zero, List.set_cons_succ]
         refine' wpAnyH_take (i := 28) (oi := ⟨some 209, .pick (.tmp 202) (.const (.bool true)) (.tmp 208), 4, "law.go:127", #[⟨21, .data⟩, ⟨27, .data⟩], none⟩) (v := _) rfl (by kernel_rfl) (by kernel_rfl) (by kernel_rfl) (fun _ _ _ h => h) (Or.inl ⟨by rfl, ?hy53⟩) (by assumption) ?rest53
         case hy53 => (intro w hSw; (try dsimp only at hSw); go_simp; try with_reducible rfl)
         try simp only [Act.put, List.setIfInBounds_toArray, List.set_cons_zero, List.set_cons_succ]
         refine wpAnyH_done (by kernel_rfl) ?_ _
         have IZ := Lib.hid (HIQ.out _ hbQ)
         clear hbQ hSQ
         go_wp2
         go_roundw
         case rel => exact ⟨k + 1, by omega, by go_num, IZ⟩
         case measure => simp [intOf]; omega
      case first =>
        by_cases hk1 : x.kind = 1
        · have g1 : (x.kind == 1) = true := by simpa using hk1
          clear hk1
          as_aux_lemma =>
           have KSR := Lib.hid (rsend_rel P (fun _ => True) Gg Rr (.slice Au nu cu) x.load wx LX.out.lists HRL.out (HAG.out.1.below LX.out.lp.below) HAG.out.2)
           unfold RVA rvV at KSR
           obtain ⟨ee, hee⟩ : ∃ ee, sendE16 Gg x.load = ee := ⟨_, rfl⟩
           obtain ⟨R2, hR2⟩ : ∃ R2, rsnG Gg Rr x.load = R2 := ⟨_, rfl⟩
           rw [hee, hR2] at KSR
           have HRL2 : Hid (Rel16 (sendG16 Gg x.load) R2) := Lib.hid (by rw [← hR2]; exact rel16_snd HRL.out x.load)
           have HPS := Lib.hid (fun W (s : GIs W (fun y => U y ∧ y < wx.heap.size) g Gg) (hb : Below w.heap.size w W) => by
             have := sendS16 (fun _ => True) x.load (.slice Au nu cu) W s (HAG.out.1.below hb) HAG.out.2
             rw [hee] at this
             exact this)
           have HS4 := Lib.hid (fun (H : Rv) (a b c : Value) => (rv_size.trans (congrArg some (rv_len H a b c).symm)))
           clear hee hR2
           go_wp2_with (first
             | (with_reducible refine loadRow_walk rfl 35 (.tmp 6) rfl rb rfl (rvC Rr (.slice Af nf cf) (.slice Ao no co) (.slice Al nl cl)) rv_struct (HS4.out _ _ _ _) 35 LX.out.ref ?_))
           refine KSR.out.mono ?_
           rintro e w4 ⟨Af2, nf2, cf2, Ao2, no2, co2, Al2, nl2, cl2, rfl, l4, b4⟩
           have L4 := Lib.hid (l4.weak (Q := fun y => (P y ∨ wx.heap.size ≤ y) ∧ y < w4.heap.size) (fun y hy p => ⟨p, hy⟩))
           have B4 := Lib.hid b4
           have S4 := Lib.hid b4.size
           clear l4 b4 KSR
           go_wp2_with (first
             | ((with_reducible refine alloc_walk (o := ⟨some 10, _, _, _, _, _⟩) rfl 35 rfl _ rv_zero ?_); go_must (intro w5 r5 b5 z5; have R5 := Lib.hid r5; have B5 := Lib.hid b5; clear r5 b5 z5))
             | ((with_reducible refine storeRow_walk rfl 35 (.tmp 10) (.tmp 166) rfl w4.heap.size rfl (rvC R2 (.slice Af2 nf2 cf2) (.slice Ao2 no2 co2) (.slice Al2 nl2 cl2)) rfl (HS4.out _ _ _ _) 35 rvZ R5.out rfl (rv_one _) ?_); intro w6 r6 o6 z6; have R6 := Lib.hid r6; have O6 := Lib.hid o6; have S6 := Lib.hid o6.size; have L6 := Lib.hid ((L4.out.below B5.out).only o6 (fun y e p => by omega)); have B6 := Lib.hid (Only.below (below_on B4.out B5.out) o6 (by have := S4.out; have := B5.out.size; omega) (fun y hy e => by have := S4.out; omega)); have RB6 := Lib.hid ((LX.out.ref.below (below_on B4.out B5.out)).only o6 (fun e => by have := LX.out.ref.lt; have := S4.out; omega)); have RE6 := Lib.hid ((RX.out.below (below_on B4.out B5.out)).only o6 (fun e => by have := RX.out.lt; have := S4.out; omega)); clear r6 o6 z6)
             | (with_reducible refine loadRow_walk rfl 35 (.tmp 10) rfl w4.heap.size rfl (rvC R2 (.slice Af2 nf2 cf2) (.slice Ao2 no2 co2) (.slice Al2 nl2 cl2)) rv_struct (HS4.out _ _ _ _) 35 R6.out ?_)
             | ((with_reducible refine storeRow_walk rfl 35 (.tmp 6) (.tmp 168) rfl rb rfl (rvC R2 (.slice Af2 nf2 cf2) (.slice Ao2 no2 co2) (.slice Al2 nl2 cl2)) rfl (HS4.out _ _ _ _) 35 _ RB6.out rfl (rv_one _) ?_); intro w7 r7 o7 z7; have L7 := Lib.hid (LX.out.refer B6.out (L6.out.weak (fun y hy p => p.1)) r7 o7); have RE7 := Lib.hid (RE6.out.only o7 (fun e => by have := HEB.out; omega)); clear r7 o7 z7; have e3 := RE7.out.cell 3; simp only [List.getElem?_cons_zero, List.getElem?_cons_succ] at e3)
             | (refine (HPS.out _ L7.out.lp.gis L7.out.lp.below).mono ?_; rintro e w8 ⟨rfl, s8, o8⟩; have HIE : Hid (Inv16s w w8 g ob rb bs B G0 N) := Lib.hid ⟨_, _, _, _, _, _, _, _, _, _, _, _, _, _, _, _, _, _, _, _, _, ok16_send HOK.out _, HSM.out.trans (same16_send _ _), HLN.out.1, HLN.out.2, HRL2.out, L7.out.giver s8 o8⟩; clear s8 o8))
           go_wp2
           go_meet
           case rel => exact ⟨rfl, HIE⟩
        · have g1 : (x.kind == 1) = false := by simpa using hk1
          by_cases hk2 : x.kind = 2
          · have g2 : (x.kind == 2) = true := by simpa using hk2
            clear hk1 hk2
            as_aux_lemma =>
             have KH := Lib.hid (happens16_any P Vw Ew (.slice A1 n1 c1) (.slice A2 n2 c2) (.slice Au nu cu) B x _ LX.out.lp.wld (by have := HLN.out; omega) (by have := HLN.out; omega) hBB ⟨_, _, _, rfl⟩)
             unfold wldV at KH
             have HI : Hid (∀ w6 w7 u1 u2, Below wx.heap.size wx w6 → Wld w6 (fun y => P y ∨ wx.heap.size ≤ y) (hapV16 B Vw x) (hapE16 Ew x) u1 u2 → Row w7 ob 38 [u1, u2, .int .i64 B] → Only (· = ob) w6 w7 → ∀ a b c d e f, u1 = .slice a b c → u2 = .slice d e f → Inv16s w w7 g ob rb bs B G0 N) := Lib.hid (fun w6 w7 u1 u2 b6 h6 r7 o7 a b c d e f e1 e2 => by
               subst e1 e2
               exact ⟨_, _, _, _, _, _, _, _, _, _, _, _, _, _, _, _, _, _, _, _, _, HOK.out, HSM.out, by rw [hapV16_len]; exact HLN.out.1, by rw [hapE16_len]; exact HLN.out.2, HRL.out, LX.out.world b6 h6 r7 o7⟩)
             have HOB := Lib.hid LX.out.lp.obj
             go_wp2_with fail
             refine KH.out.mono ?_
             rintro e w6 ⟨X1, z1, d1, X2, z2, d2, rfl, h6, b6⟩
             have R6 := Lib.hid (HOB.out.below b6)
             have q0 := R6.out.cell 0
             have q1 := R6.out.cell 1
             have q2 := R6.out.cell 2
             have f0 := R6.out.soft 0
             have f1 := R6.out.soft 1
             have f2 := R6.out.soft 2
             simp only [List.getElem?_cons_zero, List.getElem?_cons_succ] at q0 q1 q2
             have H6 := Lib.hid h6
             have B6 := Lib.hid b6
             clear h6 b6 KH
             unfold wldV
             obtain ⟨w7, hw7⟩ : ∃ w7, w7 = ((w6.setCell ⟨ob, 0, none⟩ (.slice X1 z1 d1)).setCell ⟨ob, 1, none⟩ (.slice X2 z2 d2)).setCell ⟨ob, 2, none⟩ (.int .i64 B) := ⟨_, rfl⟩
             have HIE : Hid (Inv16s w w7 g ob rb bs B G0 N) := Lib.hid (HI.out w6 _ _ _ B6.out H6.out (by rw [hw7]; exact ((R6.out.put 0 (.slice X1 z1 d1)).put 1 (.slice X2 z2 d2)).put 2 (.int .i64 B)) (by rw [hw7]; exact (((Only.refl (· = ob) w6).setCell (p := ⟨ob, 0, none⟩) (.inl rfl) _).setCell (p := ⟨ob, 1, none⟩) (.inl rfl) _).setCell (p := ⟨ob, 2, none⟩) (.inl rfl) _) _ _ _ _ _ _ rfl rfl)
             have HW7 := Lib.hid hw7
             clear hw7 HI HOB R6 H6 B6
             go_wp2
             rw [← HW7.out]
             go_meet
             case rel => exact ⟨rfl, HIE⟩
          · have g2 : (x.kind == 2) = false := by simpa using hk2
            by_cases hk3 : x.kind = 3
            · have g3 : (x.kind == 3) = true := by simpa using hk3
              clear hk1 hk2 hk3
              as_aux_lemma =>
               have KH := Lib.hid (happens16_any P Vw Ew (.slice A1 n1 c1) (.slice A2 n2 c2) (.slice Au nu cu) B x _ LX.out.lp.wld (by have := HLN.out; omega) (by have := HLN.out; omega) hBB ⟨_, _, _, rfl⟩)
               unfold wldV at KH
               have HI : Hid (∀ w6 w7 u1 u2, Below wx.heap.size wx w6 → Wld w6 (fun y => P y ∨ wx.heap.size ≤ y) (hapV16 B Vw x) (hapE16 Ew x) u1 u2 → Row w7 ob 38 [u1, u2, .int .i64 B] → Only (· = ob) w6 w7 → ∀ a b c d e f, u1 = .slice a b c → u2 = .slice d e f → Inv16s w w7 g ob rb bs B G0 N) := Lib.hid (fun w6 w7 u1 u2 b6 h6 r7 o7 a b c d e f e1 e2 => by
                 subst e1 e2
                 exact ⟨_, _, _, _, _, _, _, _, _, _, _, _, _, _, _, _, _, _, _, _, _, HOK.out, HSM.out, by rw [hapV16_len]; exact HLN.out.1, by rw [hapE16_len]; exact HLN.out.2, HRL.out, LX.out.world b6 h6 r7 o7⟩)
               have HOB := Lib.hid LX.out.lp.obj
               go_wp2_with fail
               refine KH.out.mono ?_
               rintro e w6 ⟨X1, z1, d1, X2, z2, d2, rfl, h6, b6⟩
               have R6 := Lib.hid (HOB.out.below b6)
               have q0 := R6.out.cell 0
               have q1 := R6.out.cell 1
               have q2 := R6.out.cell 2
               have f0 := R6.out.soft 0
               have f1 := R6.out.soft 1
               have f2 := R6.out.soft 2
               simp only [List.getElem?_cons_zero, List.getElem?_cons_succ] at q0 q1 q2
               have H6 := Lib.hid h6
               have B6 := Lib.hid b6
               clear h6 b6 KH
               unfold wldV
               obtain ⟨w7, hw7⟩ : ∃ w7, w7 = ((w6.setCell ⟨ob, 0, none⟩ (.slice X1 z1 d1)).setCell ⟨ob, 1, none⟩ (.slice X2 z2 d2)).setCell ⟨ob, 2, none⟩ (.int .i64 B) := ⟨_, rfl⟩
               have HIE : Hid (Inv16s w w7 g ob rb bs B G0 N) := Lib.hid (HI.out w6 _ _ _ B6.out H6.out (by rw [hw7]; exact ((R6.out.put 0 (.slice X1 z1 d1)).put 1 (.slice X2 z2 d2)).put 2 (.int .i64 B)) (by rw [hw7]; exact (((Only.refl (· = ob) w6).setCell (p := ⟨ob, 0, none⟩) (.inl rfl) _).setCell (p := ⟨ob, 1, none⟩) (.inl rfl) _).setCell (p := ⟨ob, 2, none⟩) (.inl rfl) _) _ _ _ _ _ _ rfl rfl)
               have HW7 := Lib.hid hw7
               clear hw7 HI HOB R6 H6 B6
               go_wp2
               rw [← HW7.out]
               go_meet
               case rel => exact ⟨rfl, HIE⟩
            · have g3 : (x.kind == 3) = false := by simpa using hk3
              have HS4 := Lib.hid (fun (H : Rv) (a b c : Value) => (rv_size.trans (congrArg some (rv_len H a b c).symm)))
              have hVm := mod14_bd Vw
              have hEm := mod14_bd Ew
              have hVl : (mod14 Vw).length ≤ 65536 := by rw [mod14_len]; have := HLN.out; omega
              have KOF := Lib.hid (fun W (hb : Below wx.heap.size wx W) => rof14_any P P Vw Ew (.slice A1 n1 c1) (.slice A2 n2 c2) W (LX.out.lp.wld.words.below hb) (LX.out.lp.wld.epochs.below hb) (by have := HLN.out; omega) (by have := HLN.out; omega))
              have KST := Lib.hid (fun W Q C1 m1 e1 C2 m2 e2 (hb : Below wx.heap.size wx W) (ho : RPl14 W Q (mod14 Vw) (mod14 Ew) [] (.slice C1 m1 e1) (.slice C2 m2 e2) (.slice none 0 0)) => rstep_all (fun y => P y ∧ y < wx.heap.size) Q Gg Rr (mod14 Vw) (mod14 Ew) W (LX.out.lists.old.below hb) ho HRL.out HOK.out hVl hVm hEm)
              have HRL2 := Lib.hid (sR16_rel HRL.out HOK.out hVm hEm)
              have HONE := Lib.hid (sT16_one HOK.out (mod14 Vw) (mod14 Ew))
              obtain ⟨sA, hsA⟩ : ∃ sA, sA16 Gg (mod14 Vw) (mod14 Ew) = sA := ⟨_, rfl⟩
              obtain ⟨sG, hsG⟩ : ∃ sG, sG16 Gg (mod14 Vw) (mod14 Ew) = sG := ⟨_, rfl⟩
              obtain ⟨R2, hsR⟩ : ∃ R2, sR16 Gg Rr (mod14 Vw) (mod14 Ew) = R2 := ⟨_, rfl⟩
              obtain ⟨sV, hsV⟩ : ∃ sV, sV16 Gg (mod14 Vw) = sV := ⟨_, rfl⟩
              obtain ⟨sK, hsK⟩ : ∃ sK, sK16 Gg = sK := ⟨_, rfl⟩
              obtain ⟨sT, hsT⟩ : ∃ sT, sT16 Gg (mod14 Vw) (mod14 Ew) = sT := ⟨_, rfl⟩
              obtain ⟨xX, hsX⟩ : ∃ xX, sX16 Gg (mod14 Vw) (mod14 Ew) = xX := ⟨_, rfl⟩
              have HOKG : Hid (Ok16 sG) := Lib.hid (by rw [← hsG]; exact sG16_ok HOK.out _ _)
              have HSMG : Hid (Same16 G0 sG) := Lib.hid (by rw [← hsG]; exact HSM.out.trans (sG16_same _ _ _))
              have HVL : Hid (sV.length = N) := Lib.hid (by rw [← hsV, sV16_len, mod14_len]; exact HLN.out.1)
              have KPS := Lib.hid (fun W (t : Nat × Nat) (p : Nat) (s : Sys16 W (fun y => (U y ∧ y < wx.heap.size) ∨ t.1 ≤ y) g t.2 p Gg (mod14 Vw) (mod14 Ew) [] []) (hb : Below w.heap.size w W) => pstep_all (U := fun y => (U y ∧ y < wx.heap.size) ∨ t.1 ≤ y) Gg (mod14 Vw) (mod14 Ew) W s HOK.out (HT.out W hb))
              rw [hsG, hsR] at HRL2
              rw [hsT, hsX] at HONE
              rw [hsA, hsR, hsV, hsK, hsX] at KST
              rw [hsA, hsG, hsV, hsK, hsT] at KPS
              unfold ansV16 at KPS
              obtain ⟨bA, hbA⟩ : ∃ bA, sA.isSome = bA := ⟨_, rfl⟩
              obtain ⟨nA, hnA⟩ : ∃ nA, sA.getD 0 = nA := ⟨_, rfl⟩
              rw [hbA, hnA] at KST KPS
              unfold RStp rvV touchV at KST
              unfold tface14 at KPS
              have HBS13 : Hid (∀ W, Below wx.heap.size wx W → Row W rb 35 (rvC Rr (.slice Af nf cf) (.slice Ao no co) (.slice Al nl cl)) ∧ W.cell? ⟨ob, 0, none⟩ = some (.slice A1 n1 c1) ∧ W.cell? ⟨ob, 1, none⟩ = some (.slice A2 n2 c2)) := Lib.hid (fun W hb => by
                have a0 := (LX.out.lp.obj.below hb).cell 0
                have a1 := (LX.out.lp.obj.below hb).cell 1
                exact ⟨LX.out.ref.below hb, a0, a1⟩)
              have hxb := BX.out.size
              clear hsA hsG hsR hsV hsK hsT hsX hbA hnA hVm hEm hVl
              go_wp2
              have hB0 : Below wx.heap.size wx wx.drew := (Below.refl _ _).drew
              have hS0 := HBS13.out _ hB0
              refine wp_region_held_drew (S := fun W => Row W rb 35 (rvC Rr (.slice Af nf cf) (.slice Ao no co) (.slice Al nl cl)) ∧ W.cell? ⟨ob, 0, none⟩ = some (.slice A1 n1 c1) ∧ W.cell? ⟨ob, 1, none⟩ = some (.slice A2 n2 c2)) (by kernel_rfl) hS0 (fun hHeld => ?_)
              clear hHeld
              generalize wx.drew = W at hB0 hS0 ⊢
              refine' (fun (k5_6_13_14_15 : PLift (_ : Prop)) => ?mk5_6_13_14_15) ⟨?lk5_6_13_14_15⟩
              refine' (fun (k5_6_14_15 : PLift (_ : Prop)) => ?mk5_6_14_15) ⟨?lk5_6_14_15⟩
              refine' (fun (k5_6_13_15 : PLift (_ : Prop)) => ?mk5_6_13_15) ⟨?lk5_6_13_15⟩
              refine' (fun (k5_6_13_14 : PLift (_ : Prop)) => ?mk5_6_13_14) ⟨?lk5_6_13_14⟩
              refine' (fun (k5_6_15 : PLift (_ : Prop)) => ?mk5_6_15) ⟨?lk5_6_15⟩
              refine' (fun (k5_6_14 : PLift (_ : Prop)) => ?mk5_6_14) ⟨?lk5_6_14⟩
              refine' (fun (k5_6_13 : PLift (_ : Prop)) => ?mk5_6_13) ⟨?lk5_6_13⟩
              refine' (fun (k5_6 : PLift (_ : Prop)) => ?mk5_6) ⟨?lk5_6⟩
              refine' (fun (k5_13_14_15 : PLift (_ : Prop)) => ?mk5_13_14_15) ⟨?lk5_13_14_15⟩
              refine' (fun (k13_14_15 : PLift (_ : Prop)) => ?mk13_14_15) ⟨?lk13_14_15⟩
              refine' (fun (k5_14_15 : PLift (_ : Prop)) => ?mk5_14_15) ⟨?lk5_14_15⟩
              refine' (fun (k5_13_15 : PLift (_ : Prop)) => ?mk5_13_15) ⟨?lk5_13_15⟩
              refine' (fun (k5_13_14 : PLift (_ : Prop)) => ?mk5_13_14) ⟨?lk5_13_14⟩
              refine' (fun (k14_15 : PLift (_ : Prop)) => ?mk14_15) ⟨?lk14_15⟩
              refine' (fun (k13_15 : PLift (_ : Prop)) => ?mk13_15) ⟨?lk13_15⟩
              refine' (fun (k13_14 : PLift (_ : Prop)) => ?mk13_14) ⟨?lk13_14⟩
              refine' (fun (k5_15 : PLift (_ : Prop)) => ?mk5_15) ⟨?lk5_15⟩
              refine' (fun (k5_14 : PLift (_ : Prop)) => ?mk5_14) ⟨?lk5_14⟩
              refine' (fun (k5_13 : PLift (_ : Prop)) => ?mk5_13) ⟨?lk5_13⟩
              refine' (fun (k15 : PLift (_ : Prop)) => ?mk15) ⟨?lk15⟩
              refine' (fun (k14 : PLift (_ : Prop)) => ?mk14) ⟨?lk14⟩
              refine' (fun (k13 : PLift (_ : Prop)) => ?mk13) ⟨?lk13⟩
              refine' (fun (k5 : PLift (_ : Prop)) => ?mk5) ⟨?lk5⟩
              case mk5 =>
               as_aux_lemma =>
                have hB := hB0
                have hS := hS0
                refine wpAnyH_take (i := 0) (oi := ⟨some 84, .load 35 (.tmp 6), 35, "law.go:116", #[], none⟩) (v := .agg (rvC Rr (.slice Af nf cf) (.slice Ao no co) (.slice Al nl cl)).toArray) rfl (by kernel_rfl) (by kernel_rfl) (by kernel_rfl) (fun _ _ _ h => h) (yieldsIf_row rfl 35 (.tmp 6) rfl rb rfl (rvC Rr (.slice Af nf cf) (.slice Ao no co) (.slice Al nl cl)) rv_struct (HS4.out _ _ _ _) 35 (fun W h => h.1)) (by assumption) ?_
                try simp only [Act.put, List.setIfInBounds_toArray, List.set_cons_zero, List.set_cons_succ]
                refine' wpAnyH_take (i := 1) (oi := ⟨some 85, .fieldAddr 38 (.tmp 7) 0, 0, "law.go:116", #[], none⟩) (v := _) rfl (by kernel_rfl) (by kernel_rfl) (by kernel_rfl) (fun _ _ _ h => h) (Or.inl ⟨by rfl, ?hy142⟩) (by assumption) ?rest142
                case hy142 => (intro w hSw; (try dsimp only at hSw); go_simp; try with_reducible rfl)
                try simp only [Act.put, List.setIfInBounds_toArray, List.set_cons_zero, List.set_cons_succ]
                refine' wpAnyH_take (i := 2) (oi := ⟨some 86, .load 33 (.tmp 85), 33, "law.go:116", #[⟨1, .data⟩], none⟩) (v := _) rfl (by kernel_rfl) (by kernel_rfl) (by kernel_rfl) (fun _ _ _ h => h) (Or.inl ⟨by rfl, ?hy143⟩) (by assumption) ?rest143
                case hy143 => (intro w hSw; (try dsimp only at hSw); go_simp; try with_reducible rfl)
                try simp only [Act.put, List.setIfInBounds_toArray, List.set_cons_zero, List.set_cons_succ]
                refine' wpAnyH_take (i := 3) (oi := ⟨some 87, .fieldAddr 38 (.tmp 7) 1, 0, "law.go:116", #[], none⟩) (v := _) rfl (by kernel_rfl) (by kernel_rfl) (by kernel_rfl) (fun _ _ _ h => h) (Or.inl ⟨by rfl, ?hy144⟩) (by assumption) ?rest144
                case hy144 => (intro w hSw; (try dsimp only at hSw); go_simp; try with_reducible rfl)
                try simp only [Act.put, List.setIfInBounds_toArray, List.set_cons_zero, List.set_cons_succ]
                refine' wpAnyH_take (i := 4) (oi := ⟨some 88, .load 33 (.tmp 87), 33, "law.go:116", #[⟨3, .data⟩], none⟩) (v := _) rfl (by kernel_rfl) (by kernel_rfl) (by kernel_rfl) (fun _ _ _ h => h) (Or.inl ⟨by rfl, ?hy145⟩) (by assumption) ?rest145
                case hy145 => (intro w hSw; (try dsimp only at hSw); go_simp; try with_reducible rfl)
                try simp only [Act.put, List.setIfInBounds_toArray, List.set_cons_zero, List.set_cons_succ]
                refine wpAnyH_ready (rs := [5, 13, 14, 15]) (by kernel_rfl) (by simp) ?_
                refine AllReadyH.cons (o := ⟨some 89, .call { callee := .value (.func 15), args := #[.tmp 86, .tmp 88], argTypes := #[33, 33] }, 48, "law.go:116", #[⟨2, .data⟩, ⟨4, .data⟩], none⟩) rfl (fun K hK => ?_) (AllReadyH.cons (o := ⟨some 12, .alloc 35, 0, "law.go:116", #[], none⟩) rfl (fun K hK => ?_) (AllReadyH.cons (o := ⟨some 13, .alloc 48, 0, "law.go:116", #[], none⟩) rfl (fun K hK => ?_) (AllReadyH.cons (o := ⟨some 14, .alloc 50, 0, "law.go:116", #[], none⟩) rfl (fun K hK => ?_) AllReadyH.nil)))
                · go_simp
                  go_at_call 15
                  refine (KOF.out _ hB).mono ?_
                  rintro e W2 ⟨C1, m1, e1, C2, m2, e2, rfl, oN, bN⟩
                  have hsz := hB.size
                  have hON := oN.weak (Q := (fun y => wx.heap.size ≤ y)) (fun y hy p => by omega)
                  have hB2 := below_on hB bN
                  have hS2 := HBS13.out _ hB2
                  clear hB hS
                  have hB := hB2
                  have hS := hS2
                  clear hB2 hS2
                  have hO := hON
                  clear hON oN bN hsz
                  go_wp2_with fail
                  refine hK.out _ _ hS (fun hSx => ?_)
                  clear hK K
                  try simp only [Act.put, List.setIfInBounds_toArray, List.set_cons_zero, List.set_cons_succ]
                  clear hSx
                  revert hO
                  revert hS
                  revert hB
                  revert e2
                  revert m2
                  revert C2
                  revert e1
                  revert m1
                  revert C1
                  revert W2
                  exact k5.down
                · refine alloc_step rfl 35 rfl _ rv_zero ?_
                  intro W2 rW bW zW
                  have hsz := hB.size
                  generalize hq : W.heap.size = nb at rW bW zW ⊢
                  have hn0 : wx.heap.size ≤ nb := by omega
                  have hB2 := below_on hB (show Below W.heap.size W W2 from by rw [hq]; exact bW)
                  have hS2 := HBS13.out _ hB2
                  clear hB hS
                  have hB := hB2
                  have hS := hS2
                  clear hB2 hS2
                  have hn := rW
                  clear rW bW zW hsz hq
                  refine hK.out _ _ hS (fun hSx => ?_)
                  clear hK K
                  try simp only [Act.put, List.setIfInBounds_toArray, List.set_cons_zero, List.set_cons_succ]
                  clear hSx
                  revert hn0
                  revert hn
                  revert hS
                  revert hB
                  revert nb
                  revert W2
                  exact k13.down
                · refine alloc_step rfl 48 rfl _ rp_zero ?_
                  intro W2 rW bW zW
                  have hsz := hB.size
                  generalize hq : W.heap.size = pb at rW bW zW ⊢
                  have hp0 : wx.heap.size ≤ pb := by omega
                  have hB2 := below_on hB (show Below W.heap.size W W2 from by rw [hq]; exact bW)
                  have hS2 := HBS13.out _ hB2
                  clear hB hS
                  have hB := hB2
                  have hS := hS2
                  clear hB2 hS2
                  have hp := rW
                  clear rW bW zW hsz hq
                  refine hK.out _ _ hS (fun hSx => ?_)
                  clear hK K
                  try simp only [Act.put, List.setIfInBounds_toArray, List.set_cons_zero, List.set_cons_succ]
                  clear hSx
                  revert hp0
                  revert hp
                  revert hS
                  revert hB
                  revert pb
                  revert W2
                  exact k14.down
                · refine alloc_step rfl 50 rfl _ rt_zero ?_
                  intro W2 rW bW zW
                  have hsz := hB.size
                  generalize hq : W.heap.size = tb at rW bW zW ⊢
                  have ht0 : wx.heap.size ≤ tb := by omega
                  have hB2 := below_on hB (show Below W.heap.size W W2 from by rw [hq]; exact bW)
                  have hS2 := HBS13.out _ hB2
                  clear hB hS
                  have hB := hB2
                  have hS := hS2
                  clear hB2 hS2
                  have ht := rW
                  clear rW bW zW hsz hq
                  refine hK.out _ _ hS (fun hSx => ?_)
                  clear hK K
                  try simp only [Act.put, List.setIfInBounds_toArray, List.set_cons_zero, List.set_cons_succ]
                  clear hSx
                  revert ht0
                  revert ht
                  revert hS
                  revert hB
                  revert tb
                  revert W2
                  exact k15.down
              case lk5 =>
               as_aux_lemma =>
                intro W C1 m1 e1 C2 m2 e2 hB hS hO
                refine wpAnyH_ready (rs := [6, 13, 14, 15]) (by kernel_rfl) (by simp) ?_
                refine AllReadyH.cons (o := ⟨some 90, .call { callee := .value (.func 14), args := #[.tmp 84, .tmp 89], argTypes := #[35, 48] }, 51, "law.go:116", #[⟨0, .data⟩, ⟨5, .data⟩, ⟨5, .chain⟩], none⟩) rfl (fun K hK => ?_) (AllReadyH.cons (o := ⟨some 12, .alloc 35, 0, "law.go:116", #[], none⟩) rfl (fun K hK => ?_) (AllReadyH.cons (o := ⟨some 13, .alloc 48, 0, "law.go:116", #[], none⟩) rfl (fun K hK => ?_) (AllReadyH.cons (o := ⟨some 14, .alloc 50, 0, "law.go:116", #[], none⟩) rfl (fun K hK => ?_) AllReadyH.nil)))
                · go_simp
                  go_at_call 14
                  refine (KST.out _ _ _ _ _ _ _ _ hB hO).mono ?_
                  rintro e W2 ⟨Af2, nf2, cf2, Ao2, no2, co2, Al2, nl2, cl2, Xa, za, da, Xb, zb, db, Xc, zc, dc, rfl, lN, oN, bN⟩
                  have hsz := hB.size
                  have hRN := lN.weak (Q := (fun y => ((P y ∧ y < wx.heap.size) ∨ wx.heap.size ≤ y))) (fun y hy p => by rcases p with p | p; exact .inl p; exact .inr (by omega))
                  have hQN := oN.weak (Q := (fun y => wx.heap.size ≤ y)) (fun y hy p => by (try dsimp only at p); omega)
                  clear hO
                  have hB2 := below_on hB bN
                  have hS2 := HBS13.out _ hB2
                  clear hB hS
                  have hB := hB2
                  have hS := hS2
                  clear hB2 hS2
                  have hR := hRN
                  have hQ := hQN
                  clear hRN hQN lN oN bN hsz
                  go_wp2_with fail
                  refine hK.out _ _ hS (fun hSx => ?_)
                  clear hK K
                  try simp only [Act.put, List.setIfInBounds_toArray, List.set_cons_zero, List.set_cons_succ]
                  refine' wpAnyH_take (i := 7) (oi := ⟨some 83, .move (.tmp 90), 51, "law.go:116", #[⟨6, .data⟩], none⟩) (v := _) rfl (by kernel_rfl) (by kernel_rfl) (by kernel_rfl) (fun _ _ _ h => h) (Or.inl ⟨by rfl, ?hy194⟩) (by assumption) ?rest194
                  case hy194 => (intro w hSw; (try dsimp only at hSw); go_simp; try with_reducible rfl)
                  try simp only [Act.put, List.setIfInBounds_toArray, List.set_cons_zero, List.set_cons_succ]
                  refine' wpAnyH_take (i := 8) (oi := ⟨some 91, .extract (.tmp 83) 0, 35, "law.go:116", #[⟨7, .data⟩], none⟩) (v := _) rfl (by kernel_rfl) (by kernel_rfl) (by kernel_rfl) (fun _ _ _ h => h) (Or.inl ⟨by rfl, ?hy195⟩) (by assumption) ?rest195
                  case hy195 => (intro w hSw; (try dsimp only at hSw); go_simp; try with_reducible rfl)
                  try simp only [Act.put, List.setIfInBounds_toArray, List.set_cons_zero, List.set_cons_succ]
                  refine' wpAnyH_take (i := 9) (oi := ⟨some 92, .extract (.tmp 83) 1, 48, "law.go:116", #[⟨7, .data⟩, ⟨16, .gcOnly .lateStores⟩], none⟩) (v := _) rfl (by kernel_rfl) (by kernel_rfl) (by kernel_rfl) (fun _ _ _ h => h) (Or.inl ⟨by rfl, ?hy196⟩) (by assumption) ?rest196
                  case hy196 => (intro w hSw; (try dsimp only at hSw); go_simp; try with_reducible rfl)
                  try simp only [Act.put, List.setIfInBounds_toArray, List.set_cons_zero, List.set_cons_succ]
                  refine' wpAnyH_take (i := 10) (oi := ⟨some 93, .extract (.tmp 83) 2, 50, "law.go:116", #[⟨7, .data⟩, ⟨17, .gcOnly .lateStores⟩], none⟩) (v := _) rfl (by kernel_rfl) (by kernel_rfl) (by kernel_rfl) (fun _ _ _ h => h) (Or.inl ⟨by rfl, ?hy197⟩) (by assumption) ?rest197
                  case hy197 => (intro w hSw; (try dsimp only at hSw); go_simp; try with_reducible rfl)
                  try simp only [Act.put, List.setIfInBounds_toArray, List.set_cons_zero, List.set_cons_succ]
                  refine' wpAnyH_take (i := 11) (oi := ⟨some 94, .extract (.tmp 83) 3, 4, "law.go:116", #[⟨7, .data⟩, ⟨18, .gcOnly .lateStores⟩], none⟩) (v := _) rfl (by kernel_rfl) (by kernel_rfl) (by kernel_rfl) (fun _ _ _ h => h) (Or.inl ⟨by rfl, ?hy198⟩) (by assumption) ?rest198
                  case hy198 => (intro w hSw; (try dsimp only at hSw); go_simp; try with_reducible rfl)
                  try simp only [Act.put, List.setIfInBounds_toArray, List.set_cons_zero, List.set_cons_succ]
                  refine' wpAnyH_take (i := 12) (oi := ⟨some 95, .extract (.tmp 83) 4, 3, "law.go:116", #[⟨7, .data⟩, ⟨19, .gcOnly .lateStores⟩], none⟩) (v := _) rfl (by kernel_rfl) (by kernel_rfl) (by kernel_rfl) (fun _ _ _ h => h) (Or.inl ⟨by rfl, ?hy199⟩) (by assumption) ?rest199
                  case hy199 => (intro w hSw; (try dsimp only at hSw); go_simp; try with_reducible rfl)
                  try simp only [Act.put, List.setIfInBounds_toArray, List.set_cons_zero, List.set_cons_succ]
                  clear hSx
                  revert hQ
                  revert hR
                  revert hS
                  revert hB
                  revert dc
                  revert zc
                  revert Xc
                  revert db
                  revert zb
                  revert Xb
                  revert da
                  revert za
                  revert Xa
                  revert cl2
                  revert nl2
                  revert Al2
                  revert co2
                  revert no2
                  revert Ao2
                  revert cf2
                  revert nf2
                  revert Af2
                  revert e2
                  revert m2
                  revert C2
                  revert e1
                  revert m1
                  revert C1
                  revert W2
                  exact k5_6.down
                · refine alloc_step rfl 35 rfl _ rv_zero ?_
                  intro W2 rW bW zW
                  have hsz := hB.size
                  generalize hq : W.heap.size = nb at rW bW zW ⊢
                  have hOs := hO.weak (Q := (fun y => wx.heap.size ≤ y ∧ y ≠ nb)) (fun y hy p => by have := hq; omega)
                  clear hO
                  have hO := hOs
                  clear hOs
                  have hn0 : wx.heap.size ≤ nb := by omega
                  have hB2 := below_on hB (show Below W.heap.size W W2 from by rw [hq]; exact bW)
                  have hS2 := HBS13.out _ hB2
                  have hO2 := hO.below (show Below W.heap.size W W2 from by rw [hq]; exact bW)
                  clear hB hS hO
                  have hB := hB2
                  have hS := hS2
                  have hO := hO2
                  clear hB2 hS2 hO2
                  have hn := rW
                  clear rW bW zW hsz hq
                  refine hK.out _ _ hS (fun hSx => ?_)
                  clear hK K
                  try simp only [Act.put, List.setIfInBounds_toArray, List.set_cons_zero, List.set_cons_succ]
                  clear hSx
                  revert hO
                  revert hn0
                  revert hn
                  revert hS
                  revert hB
                  revert e2
                  revert m2
                  revert C2
                  revert e1
                  revert m1
                  revert C1
                  revert nb
                  revert W2
                  exact k5_13.down
                · refine alloc_step rfl 48 rfl _ rp_zero ?_
                  intro W2 rW bW zW
                  have hsz := hB.size
                  generalize hq : W.heap.size = pb at rW bW zW ⊢
                  have hOs := hO.weak (Q := (fun y => wx.heap.size ≤ y ∧ y ≠ pb)) (fun y hy p => by have := hq; omega)
                  clear hO
                  have hO := hOs
                  clear hOs
                  have hp0 : wx.heap.size ≤ pb := by omega
                  have hB2 := below_on hB (show Below W.heap.size W W2 from by rw [hq]; exact bW)
                  have hS2 := HBS13.out _ hB2
                  have hO2 := hO.below (show Below W.heap.size W W2 from by rw [hq]; exact bW)
                  clear hB hS hO
                  have hB := hB2
                  have hS := hS2
                  have hO := hO2
                  clear hB2 hS2 hO2
                  have hp := rW
                  clear rW bW zW hsz hq
                  refine hK.out _ _ hS (fun hSx => ?_)
                  clear hK K
                  try simp only [Act.put, List.setIfInBounds_toArray, List.set_cons_zero, List.set_cons_succ]
                  clear hSx
                  revert hO
                  revert hp0
                  revert hp
                  revert hS
                  revert hB
                  revert e2
                  revert m2
                  revert C2
                  revert e1
                  revert m1
                  revert C1
                  revert pb
                  revert W2
                  exact k5_14.down
                · refine alloc_step rfl 50 rfl _ rt_zero ?_
                  intro W2 rW bW zW
                  have hsz := hB.size
                  generalize hq : W.heap.size = tb at rW bW zW ⊢
                  have hOs := hO.weak (Q := (fun y => wx.heap.size ≤ y ∧ y ≠ tb)) (fun y hy p => by have := hq; omega)
                  clear hO
                  have hO := hOs
                  clear hOs
                  have ht0 : wx.heap.size ≤ tb := by omega
                  have hB2 := below_on hB (show Below W.heap.size W W2 from by rw [hq]; exact bW)
                  have hS2 := HBS13.out _ hB2
                  have hO2 := hO.below (show Below W.heap.size W W2 from by rw [hq]; exact bW)
                  clear hB hS hO
                  have hB := hB2
                  have hS := hS2
                  have hO := hO2
                  clear hB2 hS2 hO2
                  have ht := rW
                  clear rW bW zW hsz hq
                  refine hK.out _ _ hS (fun hSx => ?_)
                  clear hK K
                  try simp only [Act.put, List.setIfInBounds_toArray, List.set_cons_zero, List.set_cons_succ]
                  clear hSx
                  revert hO
                  revert ht0
                  revert ht
                  revert hS
                  revert hB
                  revert e2
                  revert m2
                  revert C2
                  revert e1
                  revert m1
                  revert C1
                  revert tb
                  revert W2
                  exact k5_15.down
              case lk13 =>
               as_aux_lemma =>
                intro W nb hB hS hn hn0
                refine wpAnyH_ready (rs := [5, 14, 15]) (by kernel_rfl) (by simp) ?_
                refine AllReadyH.cons (o := ⟨some 89, .call { callee := .value (.func 15), args := #[.tmp 86, .tmp 88], argTypes := #[33, 33] }, 48, "law.go:116", #[⟨2, .data⟩, ⟨4, .data⟩], none⟩) rfl (fun K hK => ?_) (AllReadyH.cons (o := ⟨some 13, .alloc 48, 0, "law.go:116", #[], none⟩) rfl (fun K hK => ?_) (AllReadyH.cons (o := ⟨some 14, .alloc 50, 0, "law.go:116", #[], none⟩) rfl (fun K hK => ?_) AllReadyH.nil))
                · go_simp
                  go_at_call 15
                  refine (KOF.out _ hB).mono ?_
                  rintro e W2 ⟨C1, m1, e1, C2, m2, e2, rfl, oN, bN⟩
                  have hsz := hB.size
                  have hnlt := hn.lt
                  have hON := oN.weak (Q := (fun y => wx.heap.size ≤ y ∧ y ≠ nb)) (fun y hy p => by omega)
                  have hB2 := below_on hB bN
                  have hS2 := HBS13.out _ hB2
                  have hn2 := hn.below bN
                  clear hB hS hn
                  have hB := hB2
                  have hS := hS2
                  have hn := hn2
                  clear hB2 hS2 hn2
                  have hO := hON
                  clear hON oN bN hsz hnlt
                  go_wp2_with fail
                  refine hK.out _ _ hS (fun hSx => ?_)
                  clear hK K
                  try simp only [Act.put, List.setIfInBounds_toArray, List.set_cons_zero, List.set_cons_succ]
                  clear hSx
                  revert hO
                  revert hn0
                  revert hn
                  revert hS
                  revert hB
                  revert e2
                  revert m2
                  revert C2
                  revert e1
                  revert m1
                  revert C1
                  revert nb
                  revert W2
                  exact k5_13.down
                · refine alloc_step rfl 48 rfl _ rp_zero ?_
                  intro W2 rW bW zW
                  have hsz := hB.size
                  generalize hq : W.heap.size = pb at rW bW zW ⊢
                  have hp0 : wx.heap.size ≤ pb := by omega
                  have hB2 := below_on hB (show Below W.heap.size W W2 from by rw [hq]; exact bW)
                  have hS2 := HBS13.out _ hB2
                  have hn2 := hn.below (show Below W.heap.size W W2 from by rw [hq]; exact bW)
                  clear hB hS hn
                  have hB := hB2
                  have hS := hS2
                  have hn := hn2
                  clear hB2 hS2 hn2
                  have hp := rW
                  clear rW bW zW hsz hq
                  refine hK.out _ _ hS (fun hSx => ?_)
                  clear hK K
                  try simp only [Act.put, List.setIfInBounds_toArray, List.set_cons_zero, List.set_cons_succ]
                  clear hSx
                  revert hp0
                  revert hp
                  revert hn0
                  revert hn
                  revert hS
                  revert hB
                  revert pb
                  revert nb
                  revert W2
                  exact k13_14.down
                · refine alloc_step rfl 50 rfl _ rt_zero ?_
                  intro W2 rW bW zW
                  have hsz := hB.size
                  generalize hq : W.heap.size = tb at rW bW zW ⊢
                  have ht0 : wx.heap.size ≤ tb := by omega
                  have hB2 := below_on hB (show Below W.heap.size W W2 from by rw [hq]; exact bW)
                  have hS2 := HBS13.out _ hB2
                  have hn2 := hn.below (show Below W.heap.size W W2 from by rw [hq]; exact bW)
                  clear hB hS hn
                  have hB := hB2
                  have hS := hS2
                  have hn := hn2
                  clear hB2 hS2 hn2
                  have ht := rW
                  clear rW bW zW hsz hq
                  refine hK.out _ _ hS (fun hSx => ?_)
                  clear hK K
                  try simp only [Act.put, List.setIfInBounds_toArray, List.set_cons_zero, List.set_cons_succ]
                  clear hSx
                  revert ht0
                  revert ht
                  revert hn0
                  revert hn
                  revert hS
                  revert hB
                  revert tb
                  revert nb
                  revert W2
                  exact k13_15.down
              case lk14 =>
               as_aux_lemma =>
                intro W pb hB hS hp hp0
                refine wpAnyH_ready (rs := [5, 13, 15]) (by kernel_rfl) (by simp) ?_
                refine AllReadyH.cons (o := ⟨some 89, .call { callee := .value (.func 15), args := #[.tmp 86, .tmp 88], argTypes := #[33, 33] }, 48, "law.go:116", #[⟨2, .data⟩, ⟨4, .data⟩], none⟩) rfl (fun K hK => ?_) (AllReadyH.cons (o := ⟨some 12, .alloc 35, 0, "law.go:116", #[], none⟩) rfl (fun K hK => ?_) (AllReadyH.cons (o := ⟨some 14, .alloc 50, 0, "law.go:116", #[], none⟩) rfl (fun K hK => ?_) AllReadyH.nil))
                · go_simp
                  go_at_call 15
                  refine (KOF.out _ hB).mono ?_
                  rintro e W2 ⟨C1, m1, e1, C2, m2, e2, rfl, oN, bN⟩
                  have hsz := hB.size
                  have hplt := hp.lt
                  have hON := oN.weak (Q := (fun y => wx.heap.size ≤ y ∧ y ≠ pb)) (fun y hy p => by omega)
                  have hB2 := below_on hB bN
                  have hS2 := HBS13.out _ hB2
                  have hp2 := hp.below bN
                  clear hB hS hp
                  have hB := hB2
                  have hS := hS2
                  have hp := hp2
                  clear hB2 hS2 hp2
                  have hO := hON
                  clear hON oN bN hsz hplt
                  go_wp2_with fail
                  refine hK.out _ _ hS (fun hSx => ?_)
                  clear hK K
                  try simp only [Act.put, List.setIfInBounds_toArray, List.set_cons_zero, List.set_cons_succ]
                  clear hSx
                  revert hO
                  revert hp0
                  revert hp
                  revert hS
                  revert hB
                  revert e2
                  revert m2
                  revert C2
                  revert e1
                  revert m1
                  revert C1
                  revert pb
                  revert W2
                  exact k5_14.down
                · refine alloc_step rfl 35 rfl _ rv_zero ?_
                  intro W2 rW bW zW
                  have hsz := hB.size
                  generalize hq : W.heap.size = nb at rW bW zW ⊢
                  have hn0 : wx.heap.size ≤ nb := by omega
                  have hB2 := below_on hB (show Below W.heap.size W W2 from by rw [hq]; exact bW)
                  have hS2 := HBS13.out _ hB2
                  have hp2 := hp.below (show Below W.heap.size W W2 from by rw [hq]; exact bW)
                  clear hB hS hp
                  have hB := hB2
                  have hS := hS2
                  have hp := hp2
                  clear hB2 hS2 hp2
                  have hn := rW
                  clear rW bW zW hsz hq
                  refine hK.out _ _ hS (fun hSx => ?_)
                  clear hK K
                  try simp only [Act.put, List.setIfInBounds_toArray, List.set_cons_zero, List.set_cons_succ]
                  clear hSx
                  revert hp0
                  revert hp
                  revert hn0
                  revert hn
                  revert hS
                  revert hB
                  revert pb
                  revert nb
                  revert W2
                  exact k13_14.down
                · refine alloc_step rfl 50 rfl _ rt_zero ?_
                  intro W2 rW bW zW
                  have hsz := hB.size
                  generalize hq : W.heap.size = tb at rW bW zW ⊢
                  have ht0 : wx.heap.size ≤ tb := by omega
                  have hB2 := below_on hB (show Below W.heap.size W W2 from by rw [hq]; exact bW)
                  have hS2 := HBS13.out _ hB2
                  have hp2 := hp.below (show Below W.heap.size W W2 from by rw [hq]; exact bW)
                  clear hB hS hp
                  have hB := hB2
                  have hS := hS2
                  have hp := hp2
                  clear hB2 hS2 hp2
                  have ht := rW
                  clear rW bW zW hsz hq
                  refine hK.out _ _ hS (fun hSx => ?_)
                  clear hK K
                  try simp only [Act.put, List.setIfInBounds_toArray, List.set_cons_zero, List.set_cons_succ]
                  clear hSx
                  revert ht0
                  revert ht
                  revert hp0
                  revert hp
                  revert hS
                  revert hB
                  revert tb
                  revert pb
                  revert W2
                  exact k14_15.down
              case lk15 =>
               as_aux_lemma =>
                intro W tb hB hS ht ht0
                refine wpAnyH_ready (rs := [5, 13, 14]) (by kernel_rfl) (by simp) ?_
                refine AllReadyH.cons (o := ⟨some 89, .call { callee := .value (.func 15), args := #[.tmp 86, .tmp 88], argTypes := #[33, 33] }, 48, "law.go:116", #[⟨2, .data⟩, ⟨4, .data⟩], none⟩) rfl (fun K hK => ?_) (AllReadyH.cons (o := ⟨some 12, .alloc 35, 0, "law.go:116", #[], none⟩) rfl (fun K hK => ?_) (AllReadyH.cons (o := ⟨some 13, .alloc 48, 0, "law.go:116", #[], none⟩) rfl (fun K hK => ?_) AllReadyH.nil))
                · go_simp
                  go_at_call 15
                  refine (KOF.out _ hB).mono ?_
                  rintro e W2 ⟨C1, m1, e1, C2, m2, e2, rfl, oN, bN⟩
                  have hsz := hB.size
                  have htlt := ht.lt
                  have hON := oN.weak (Q := (fun y => wx.heap.size ≤ y ∧ y ≠ tb)) (fun y hy p => by omega)
                  have hB2 := below_on hB bN
                  have hS2 := HBS13.out _ hB2
                  have ht2 := ht.below bN
                  clear hB hS ht
                  have hB := hB2
                  have hS := hS2
                  have ht := ht2
                  clear hB2 hS2 ht2
                  have hO := hON
                  clear hON oN bN hsz htlt
                  go_wp2_with fail
                  refine hK.out _ _ hS (fun hSx => ?_)
                  clear hK K
                  try simp only [Act.put, List.setIfInBounds_toArray, List.set_cons_zero, List.set_cons_succ]
                  clear hSx
                  revert hO
                  revert ht0
                  revert ht
                  revert hS
                  revert hB
                  revert e2
                  revert m2
                  revert C2
                  revert e1
                  revert m1
                  revert C1
                  revert tb
                  revert W2
                  exact k5_15.down
                · refine alloc_step rfl 35 rfl _ rv_zero ?_
                  intro W2 rW bW zW
                  have hsz := hB.size
                  generalize hq : W.heap.size = nb at rW bW zW ⊢
                  have hn0 : wx.heap.size ≤ nb := by omega
                  have hB2 := below_on hB (show Below W.heap.size W W2 from by rw [hq]; exact bW)
                  have hS2 := HBS13.out _ hB2
                  have ht2 := ht.below (show Below W.heap.size W W2 from by rw [hq]; exact bW)
                  clear hB hS ht
                  have hB := hB2
                  have hS := hS2
                  have ht := ht2
                  clear hB2 hS2 ht2
                  have hn := rW
                  clear rW bW zW hsz hq
                  refine hK.out _ _ hS (fun hSx => ?_)
                  clear hK K
                  try simp only [Act.put, List.setIfInBounds_toArray, List.set_cons_zero, List.set_cons_succ]
                  clear hSx
                  revert ht0
                  revert ht
                  revert hn0
                  revert hn
                  revert hS
                  revert hB
                  revert tb
                  revert nb
                  revert W2
                  exact k13_15.down
                · refine alloc_step rfl 48 rfl _ rp_zero ?_
                  intro W2 rW bW zW
                  have hsz := hB.size
                  generalize hq : W.heap.size = pb at rW bW zW ⊢
                  have hp0 : wx.heap.size ≤ pb := by omega
                  have hB2 := below_on hB (show Below W.heap.size W W2 from by rw [hq]; exact bW)
                  have hS2 := HBS13.out _ hB2
                  have ht2 := ht.below (show Below W.heap.size W W2 from by rw [hq]; exact bW)
                  clear hB hS ht
                  have hB := hB2
                  have hS := hS2
                  have ht := ht2
                  clear hB2 hS2 ht2
                  have hp := rW
                  clear rW bW zW hsz hq
                  refine hK.out _ _ hS (fun hSx => ?_)
                  clear hK K
                  try simp only [Act.put, List.setIfInBounds_toArray, List.set_cons_zero, List.set_cons_succ]
                  clear hSx
                  revert ht0
                  revert ht
                  revert hp0
                  revert hp
                  revert hS
                  revert hB
                  revert tb
                  revert pb
                  revert W2
                  exact k14_15.down
              case lk5_13 =>
               as_aux_lemma =>
                intro W nb C1 m1 e1 C2 m2 e2 hB hS hn hn0 hO
                refine wpAnyH_ready (rs := [6, 14, 15]) (by kernel_rfl) (by simp) ?_
                refine AllReadyH.cons (o := ⟨some 90, .call { callee := .value (.func 14), args := #[.tmp 84, .tmp 89], argTypes := #[35, 48] }, 51, "law.go:116", #[⟨0, .data⟩, ⟨5, .data⟩, ⟨5, .chain⟩], none⟩) rfl (fun K hK => ?_) (AllReadyH.cons (o := ⟨some 13, .alloc 48, 0, "law.go:116", #[], none⟩) rfl (fun K hK => ?_) (AllReadyH.cons (o := ⟨some 14, .alloc 50, 0, "law.go:116", #[], none⟩) rfl (fun K hK => ?_) AllReadyH.nil))
                · go_simp
                  go_at_call 14
                  refine (KST.out _ _ _ _ _ _ _ _ hB hO).mono ?_
                  rintro e W2 ⟨Af2, nf2, cf2, Ao2, no2, co2, Al2, nl2, cl2, Xa, za, da, Xb, zb, db, Xc, zc, dc, rfl, lN, oN, bN⟩
                  have hsz := hB.size
                  have hnlt := hn.lt
                  have hRN := lN.weak (Q := (fun y => ((P y ∧ y < wx.heap.size) ∨ wx.heap.size ≤ y) ∧ y ≠ nb)) (fun y hy p => ⟨by rcases p with p | p; exact .inl p; exact .inr (by omega), by rcases p with p | p <;> omega⟩)
                  have hQN := oN.weak (Q := (fun y => wx.heap.size ≤ y ∧ y ≠ nb)) (fun y hy p => by (try dsimp only at p); omega)
                  clear hO
                  have hB2 := below_on hB bN
                  have hS2 := HBS13.out _ hB2
                  have hn2 := hn.below bN
                  clear hB hS hn
                  have hB := hB2
                  have hS := hS2
                  have hn := hn2
                  clear hB2 hS2 hn2
                  have hR := hRN
                  have hQ := hQN
                  clear hRN hQN lN oN bN hsz hnlt
                  go_wp2_with fail
                  refine hK.out _ _ hS (fun hSx => ?_)
                  clear hK K
                  try simp only [Act.put, List.setIfInBounds_toArray, List.set_cons_zero, List.set_cons_succ]
                  refine' wpAnyH_take (i := 7) (oi := ⟨some 83, .move (.tmp 90), 51, "law.go:116", #[⟨6, .data⟩], none⟩) (v := _) rfl (by kernel_rfl) (by kernel_rfl) (by kernel_rfl) (fun _ _ _ h => h) (Or.inl ⟨by rfl, ?hy200⟩) (by assumption) ?rest200
                  case hy200 => (intro w hSw; (try dsimp only at hSw); go_simp; try with_reducible rfl)
                  try simp only [Act.put, List.setIfInBounds_toArray, List.set_cons_zero, List.set_cons_succ]
                  refine' wpAnyH_take (i := 8) (oi := ⟨some 91, .extract (.tmp 83) 0, 35, "law.go:116", #[⟨7, .data⟩], none⟩) (v := _) rfl (by kernel_rfl) (by kernel_rfl) (by kernel_rfl) (fun _ _ _ h => h) (Or.inl ⟨by rfl, ?hy201⟩) (by assumption) ?rest201
                  case hy201 => (intro w hSw; (try dsimp only at hSw); go_simp; try with_reducible rfl)
                  try simp only [Act.put, List.setIfInBounds_toArray, List.set_cons_zero, List.set_cons_succ]
                  refine' wpAnyH_take (i := 9) (oi := ⟨some 92, .extract (.tmp 83) 1, 48, "law.go:116", #[⟨7, .data⟩, ⟨16, .gcOnly .lateStores⟩], none⟩) (v := _) rfl (by kernel_rfl) (by kernel_rfl) (by kernel_rfl) (fun _ _ _ h => h) (Or.inl ⟨by rfl, ?hy202⟩) (by assumption) ?rest202
                  case hy202 => (intro w hSw; (try dsimp only at hSw); go_simp; try with_reducible rfl)
                  try simp only [Act.put, List.setIfInBounds_toArray, List.set_cons_zero, List.set_cons_succ]
                  refine' wpAnyH_take (i := 10) (oi := ⟨some 93, .extract (.tmp 83) 2, 50, "law.go:116", #[⟨7, .data⟩, ⟨17, .gcOnly .lateStores⟩], none⟩) (v := _) rfl (by kernel_rfl) (by kernel_rfl) (by kernel_rfl) (fun _ _ _ h => h) (Or.inl ⟨by rfl, ?hy203⟩) (by assumption) ?rest203
                  case hy203 => (intro w hSw; (try dsimp only at hSw); go_simp; try with_reducible rfl)
                  try simp only [Act.put, List.setIfInBounds_toArray, List.set_cons_zero, List.set_cons_succ]
                  refine' wpAnyH_take (i := 11) (oi := ⟨some 94, .extract (.tmp 83) 3, 4, "law.go:116", #[⟨7, .data⟩, ⟨18, .gcOnly .lateStores⟩], none⟩) (v := _) rfl (by kernel_rfl) (by kernel_rfl) (by kernel_rfl) (fun _ _ _ h => h) (Or.inl ⟨by rfl, ?hy204⟩) (by assumption) ?rest204
                  case hy204 => (intro w hSw; (try dsimp only at hSw); go_simp; try with_reducible rfl)
                  try simp only [Act.put, List.setIfInBounds_toArray, List.set_cons_zero, List.set_cons_succ]
                  refine' wpAnyH_take (i := 12) (oi := ⟨some 95, .extract (.tmp 83) 4, 3, "law.go:116", #[⟨7, .data⟩, ⟨19, .gcOnly .lateStores⟩], none⟩) (v := _) rfl (by kernel_rfl) (by kernel_rfl) (by kernel_rfl) (fun _ _ _ h => h) (Or.inl ⟨by rfl, ?hy205⟩) (by assumption) ?rest205
                  case hy205 => (intro w hSw; (try dsimp only at hSw); go_simp; try with_reducible rfl)
                  try simp only [Act.put, List.setIfInBounds_toArray, List.set_cons_zero, List.set_cons_succ]
                  clear hSx
                  revert hQ
                  revert hR
                  revert hn0
                  revert hn
                  revert hS
                  revert hB
                  revert dc
                  revert zc
                  revert Xc
                  revert db
                  revert zb
                  revert Xb
                  revert da
                  revert za
                  revert Xa
                  revert cl2
                  revert nl2
                  revert Al2
                  revert co2
                  revert no2
                  revert Ao2
                  revert cf2
                  revert nf2
                  revert Af2
                  revert e2
                  revert m2
                  revert C2
                  revert e1
                  revert m1
                  revert C1
                  revert nb
                  revert W2
                  exact k5_6_13.down
                · refine alloc_step rfl 48 rfl _ rp_zero ?_
                  intro W2 rW bW zW
                  have hsz := hB.size
                  generalize hq : W.heap.size = pb at rW bW zW ⊢
                  have hOs := hO.weak (Q := (fun y => wx.heap.size ≤ y ∧ y ≠ nb ∧ y ≠ pb)) (fun y hy p => by have := hq; omega)
                  clear hO
                  have hO := hOs
                  clear hOs
                  have hp0 : wx.heap.size ≤ pb := by omega
                  have hB2 := below_on hB (show Below W.heap.size W W2 from by rw [hq]; exact bW)
                  have hS2 := HBS13.out _ hB2
                  have hn2 := hn.below (show Below W.heap.size W W2 from by rw [hq]; exact bW)
                  have hO2 := hO.below (show Below W.heap.size W W2 from by rw [hq]; exact bW)
                  clear hB hS hn hO
                  have hB := hB2
                  have hS := hS2
                  have hn := hn2
                  have hO := hO2
                  clear hB2 hS2 hn2 hO2
                  have hp := rW
                  clear rW bW zW hsz hq
                  refine hK.out _ _ hS (fun hSx => ?_)
                  clear hK K
                  try simp only [Act.put, List.setIfInBounds_toArray, List.set_cons_zero, List.set_cons_succ]
                  clear hSx
                  revert hO
                  revert hp0
                  revert hp
                  revert hn0
                  revert hn
                  revert hS
                  revert hB
                  revert e2
                  revert m2
                  revert C2
                  revert e1
                  revert m1
                  revert C1
                  revert pb
                  revert nb
                  revert W2
                  exact k5_13_14.down
                · refine alloc_step rfl 50 rfl _ rt_zero ?_
                  intro W2 rW bW zW
                  have hsz := hB.size
                  generalize hq : W.heap.size = tb at rW bW zW ⊢
                  have hOs := hO.weak (Q := (fun y => wx.heap.size ≤ y ∧ y ≠ nb ∧ y ≠ tb)) (fun y hy p => by have := hq; omega)
                  clear hO
                  have hO := hOs
                  clear hOs
                  have ht0 : wx.heap.size ≤ tb := by omega
                  have hB2 := below_on hB (show Below W.heap.size W W2 from by rw [hq]; exact bW)
                  have hS2 := HBS13.out _ hB2
                  have hn2 := hn.below (show Below W.heap.size W W2 from by rw [hq]; exact bW)
                  have hO2 := hO.below (show Below W.heap.size W W2 from by rw [hq]; exact bW)
                  clear hB hS hn hO
                  have hB := hB2
                  have hS := hS2
                  have hn := hn2
                  have hO := hO2
                  clear hB2 hS2 hn2 hO2
                  have ht := rW
                  clear rW bW zW hsz hq
                  refine hK.out _ _ hS (fun hSx => ?_)
                  clear hK K
                  try simp only [Act.put, List.setIfInBounds_toArray, List.set_cons_zero, List.set_cons_succ]
                  clear hSx
                  revert hO
                  revert ht0
                  revert ht
                  revert hn0
                  revert hn
                  revert hS
                  revert hB
                  revert e2
                  revert m2
                  revert C2
                  revert e1
                  revert m1
                  revert C1
                  revert tb
                  revert nb
                  revert W2
                  exact k5_13_15.down
              case lk5_14 =>
               as_aux_lemma =>
                intro W pb C1 m1 e1 C2 m2 e2 hB hS hp hp0 hO
                refine wpAnyH_ready (rs := [6, 13, 15]) (by kernel_rfl) (by simp) ?_
                refine AllReadyH.cons (o := ⟨some 90, .call { callee := .value (.func 14), args := #[.tmp 84, .tmp 89], argTypes := #[35, 48] }, 51, "law.go:116", #[⟨0, .data⟩, ⟨5, .data⟩, ⟨5, .chain⟩], none⟩) rfl (fun K hK => ?_) (AllReadyH.cons (o := ⟨some 12, .alloc 35, 0, "law.go:116", #[], none⟩) rfl (fun K hK => ?_) (AllReadyH.cons (o := ⟨some 14, .alloc 50, 0, "law.go:116", #[], none⟩) rfl (fun K hK => ?_) AllReadyH.nil))
                · go_simp
                  go_at_call 14
                  refine (KST.out _ _ _ _ _ _ _ _ hB hO).mono ?_
                  rintro e W2 ⟨Af2, nf2, cf2, Ao2, no2, co2, Al2, nl2, cl2, Xa, za, da, Xb, zb, db, Xc, zc, dc, rfl, lN, oN, bN⟩
                  have hsz := hB.size
                  have hplt := hp.lt
                  have hRN := lN.weak (Q := (fun y => ((P y ∧ y < wx.heap.size) ∨ wx.heap.size ≤ y) ∧ y ≠ pb)) (fun y hy p => ⟨by rcases p with p | p; exact .inl p; exact .inr (by omega), by rcases p with p | p <;> omega⟩)
                  have hQN := oN.weak (Q := (fun y => wx.heap.size ≤ y ∧ y ≠ pb)) (fun y hy p => by (try dsimp only at p); omega)
                  clear hO
                  have hB2 := below_on hB bN
                  have hS2 := HBS13.out _ hB2
                  have hp2 := hp.below bN
                  clear hB hS hp
                  have hB := hB2
                  have hS := hS2
                  have hp := hp2
                  clear hB2 hS2 hp2
                  have hR := hRN
                  have hQ := hQN
                  clear hRN hQN lN oN bN hsz hplt
                  go_wp2_with fail
                  refine hK.out _ _ hS (fun hSx => ?_)
                  clear hK K
                  try simp only [Act.put, List.setIfInBounds_toArray, List.set_cons_zero, List.set_cons_succ]
                  refine' wpAnyH_take (i := 7) (oi := ⟨some 83, .move (.tmp 90), 51, "law.go:116", #[⟨6, .data⟩], none⟩) (v := _) rfl (by kernel_rfl) (by kernel_rfl) (by kernel_rfl) (fun _ _ _ h => h) (Or.inl ⟨by rfl, ?hy206⟩) (by assumption) ?rest206
                  case hy206 => (intro w hSw; (try dsimp only at hSw); go_simp; try with_reducible rfl)
                  try simp only [Act.put, List.setIfInBounds_toArray, List.set_cons_zero, List.set_cons_succ]
                  refine' wpAnyH_take (i := 8) (oi := ⟨some 91, .extract (.tmp 83) 0, 35, "law.go:116", #[⟨7, .data⟩], none⟩) (v := _) rfl (by kernel_rfl) (by kernel_rfl) (by kernel_rfl) (fun _ _ _ h => h) (Or.inl ⟨by rfl, ?hy207⟩) (by assumption) ?rest207
                  case hy207 => (intro w hSw; (try dsimp only at hSw); go_simp; try with_reducible rfl)
                  try simp only [Act.put, List.setIfInBounds_toArray, List.set_cons_zero, List.set_cons_succ]
                  refine' wpAnyH_take (i := 9) (oi := ⟨some 92, .extract (.tmp 83) 1, 48, "law.go:116", #[⟨7, .data⟩, ⟨16, .gcOnly .lateStores⟩], none⟩) (v := _) rfl (by kernel_rfl) (by kernel_rfl) (by kernel_rfl) (fun _ _ _ h => h) (Or.inl ⟨by rfl, ?hy208⟩) (by assumption) ?rest208
                  case hy208 => (intro w hSw; (try dsimp only at hSw); go_simp; try with_reducible rfl)
                  try simp only [Act.put, List.setIfInBounds_toArray, List.set_cons_zero, List.set_cons_succ]
                  refine' wpAnyH_take (i := 10) (oi := ⟨some 93, .extract (.tmp 83) 2, 50, "law.go:116", #[⟨7, .data⟩, ⟨17, .gcOnly .lateStores⟩], none⟩) (v := _) rfl (by kernel_rfl) (by kernel_rfl) (by kernel_rfl) (fun _ _ _ h => h) (Or.inl ⟨by rfl, ?hy209⟩) (by assumption) ?rest209
                  case hy209 => (intro w hSw; (try dsimp only at hSw); go_simp; try with_reducible rfl)
                  try simp only [Act.put, List.setIfInBounds_toArray, List.set_cons_zero, List.set_cons_succ]
                  refine' wpAnyH_take (i := 11) (oi := ⟨some 94, .extract (.tmp 83) 3, 4, "law.go:116", #[⟨7, .data⟩, ⟨18, .gcOnly .lateStores⟩], none⟩) (v := _) rfl (by kernel_rfl) (by kernel_rfl) (by kernel_rfl) (fun _ _ _ h => h) (Or.inl ⟨by rfl, ?hy210⟩) (by assumption) ?rest210
                  case hy210 => (intro w hSw; (try dsimp only at hSw); go_simp; try with_reducible rfl)
                  try simp only [Act.put, List.setIfInBounds_toArray, List.set_cons_zero, List.set_cons_succ]
                  refine' wpAnyH_take (i := 12) (oi := ⟨some 95, .extract (.tmp 83) 4, 3, "law.go:116", #[⟨7, .data⟩, ⟨19, .gcOnly .lateStores⟩], none⟩) (v := _) rfl (by kernel_rfl) (by kernel_rfl) (by kernel_rfl) (fun _ _ _ h => h) (Or.inl ⟨by rfl, ?hy211⟩) (by assumption) ?rest211
                  case hy211 => (intro w hSw; (try dsimp only at hSw); go_simp; try with_reducible rfl)
                  try simp only [Act.put, List.setIfInBounds_toArray, List.set_cons_zero, List.set_cons_succ]
                  clear hSx
                  revert hQ
                  revert hR
                  revert hp0
                  revert hp
                  revert hS
                  revert hB
                  revert dc
                  revert zc
                  revert Xc
                  revert db
                  revert zb
                  revert Xb
                  revert da
                  revert za
                  revert Xa
                  revert cl2
                  revert nl2
                  revert Al2
                  revert co2
                  revert no2
                  revert Ao2
                  revert cf2
                  revert nf2
                  revert Af2
                  revert e2
                  revert m2
                  revert C2
                  revert e1
                  revert m1
                  revert C1
                  revert pb
                  revert W2
                  exact k5_6_14.down
                · refine alloc_step rfl 35 rfl _ rv_zero ?_
                  intro W2 rW bW zW
                  have hsz := hB.size
                  generalize hq : W.heap.size = nb at rW bW zW ⊢
                  have hOs := hO.weak (Q := (fun y => wx.heap.size ≤ y ∧ y ≠ nb ∧ y ≠ pb)) (fun y hy p => by have := hq; omega)
                  clear hO
                  have hO := hOs
                  clear hOs
                  have hn0 : wx.heap.size ≤ nb := by omega
                  have hB2 := below_on hB (show Below W.heap.size W W2 from by rw [hq]; exact bW)
                  have hS2 := HBS13.out _ hB2
                  have hp2 := hp.below (show Below W.heap.size W W2 from by rw [hq]; exact bW)
                  have hO2 := hO.below (show Below W.heap.size W W2 from by rw [hq]; exact bW)
                  clear hB hS hp hO
                  have hB := hB2
                  have hS := hS2
                  have hp := hp2
                  have hO := hO2
                  clear hB2 hS2 hp2 hO2
                  have hn := rW
                  clear rW bW zW hsz hq
                  refine hK.out _ _ hS (fun hSx => ?_)
                  clear hK K
                  try simp only [Act.put, List.setIfInBounds_toArray, List.set_cons_zero, List.set_cons_succ]
                  clear hSx
                  revert hO
                  revert hp0
                  revert hp
                  revert hn0
                  revert hn
                  revert hS
                  revert hB
                  revert e2
                  revert m2
                  revert C2
                  revert e1
                  revert m1
                  revert C1
                  revert pb
                  revert nb
                  revert W2
                  exact k5_13_14.down
                · refine alloc_step rfl 50 rfl _ rt_zero ?_
                  intro W2 rW bW zW
                  have hsz := hB.size
                  generalize hq : W.heap.size = tb at rW bW zW ⊢
                  have hOs := hO.weak (Q := (fun y => wx.heap.size ≤ y ∧ y ≠ pb ∧ y ≠ tb)) (fun y hy p => by have := hq; omega)
                  clear hO
                  have hO := hOs
                  clear hOs
                  have ht0 : wx.heap.size ≤ tb := by omega
                  have hB2 := below_on hB (show Below W.heap.size W W2 from by rw [hq]; exact bW)
                  have hS2 := HBS13.out _ hB2
                  have hp2 := hp.below (show Below W.heap.size W W2 from by rw [hq]; exact bW)
                  have hO2 := hO.below (show Below W.heap.size W W2 from by rw [hq]; exact bW)
                  clear hB hS hp hO
                  have hB := hB2
                  have hS := hS2
                  have hp := hp2
                  have hO := hO2
                  clear hB2 hS2 hp2 hO2
                  have ht := rW
                  clear rW bW zW hsz hq
                  refine hK.out _ _ hS (fun hSx => ?_)
                  clear hK K
                  try simp only [Act.put, List.setIfInBounds_toArray, List.set_cons_zero, List.set_cons_succ]
                  clear hSx
                  revert hO
                  revert ht0
                  revert ht
                  revert hp0
                  revert hp
                  revert hS
                  revert hB
                  revert e2
                  revert m2
                  revert C2
                  revert e1
                  revert m1
                  revert C1
                  revert tb
                  revert pb
                  revert W2
                  exact k5_14_15.down
              case lk5_15 =>
               as_aux_lemma =>
                intro W tb C1 m1 e1 C2 m2 e2 hB hS ht ht0 hO
                refine wpAnyH_ready (rs := [6, 13, 14]) (by kernel_rfl) (by simp) ?_
                refine AllReadyH.cons (o := ⟨some 90, .call { callee := .value (.func 14), args := #[.tmp 84, .tmp 89], argTypes := #[35, 48] }, 51, "law.go:116", #[⟨0, .data⟩, ⟨5, .data⟩, ⟨5, .chain⟩], none⟩) rfl (fun K hK => ?_) (AllReadyH.cons (o := ⟨some 12, .alloc 35, 0, "law.go:116", #[], none⟩) rfl (fun K hK => ?_) (AllReadyH.cons (o := ⟨some 13, .alloc 48, 0, "law.go:116", #[], none⟩) rfl (fun K hK => ?_) AllReadyH.nil))
                · go_simp
                  go_at_call 14
                  refine (KST.out _ _ _ _ _ _ _ _ hB hO).mono ?_
                  rintro e W2 ⟨Af2, nf2, cf2, Ao2, no2, co2, Al2, nl2, cl2, Xa, za, da, Xb, zb, db, Xc, zc, dc, rfl, lN, oN, bN⟩
                  have hsz := hB.size
                  have htlt := ht.lt
                  have hRN := lN.weak (Q := (fun y => ((P y ∧ y < wx.heap.size) ∨ wx.heap.size ≤ y) ∧ y ≠ tb)) (fun y hy p => ⟨by rcases p with p | p; exact .inl p; exact .inr (by omega), by rcases p with p | p <;> omega⟩)
                  have hQN := oN.weak (Q := (fun y => wx.heap.size ≤ y ∧ y ≠ tb)) (fun y hy p => by (try dsimp only at p); omega)
                  clear hO
                  have hB2 := below_on hB bN
                  have hS2 := HBS13.out _ hB2
                  have ht2 := ht.below bN
                  clear hB hS ht
                  have hB := hB2
                  have hS := hS2
                  have ht := ht2
                  clear hB2 hS2 ht2
                  have hR := hRN
                  have hQ := hQN
                  clear hRN hQN lN oN bN hsz htlt
                  go_wp2_with fail
                  refine hK.out _ _ hS (fun hSx => ?_)
                  clear hK K
                  try simp only [Act.put, List.setIfInBounds_toArray, List.set_cons_zero, List.set_cons_succ]
                  refine' wpAnyH_take (i := 7) (oi := ⟨some 83, .move (.tmp 90), 51, "law.go:116", #[⟨6, .data⟩], none⟩) (v := _) rfl (by kernel_rfl) (by kernel_rfl) (by kernel_rfl) (fun _ _ _ h => h) (Or.inl ⟨by rfl, ?hy212⟩) (by assumption) ?rest212
                  case hy212 => (intro w hSw; (try dsimp only at hSw); go_simp; try with_reducible rfl)
                  try simp only [Act.put, List.setIfInBounds_toArray, List.set_cons_zero, List.set_cons_succ]
                  refine' wpAnyH_take (i := 8) (oi := ⟨some 91, .extract (.tmp 83) 0, 35, "law.go:116", #[⟨7, .data⟩], none⟩) (v := _) rfl (by kernel_rfl) (by kernel_rfl) (by kernel_rfl) (fun _ _ _ h => h) (Or.inl ⟨by rfl, ?hy213⟩) (by assumption) ?rest213
                  case hy213 => (intro w hSw; (try dsimp only at hSw); go_simp; try with_reducible rfl)
                  try simp only [Act.put, List.setIfInBounds_toArray, List.set_cons_zero, List.set_cons_succ]
                  refine' wpAnyH_take (i := 9) (oi := ⟨some 92, .extract (.tmp 83) 1, 48, "law.go:116", #[⟨7, .data⟩, ⟨16, .gcOnly .lateStores⟩], none⟩) (v := _) rfl (by kernel_rfl) (by kernel_rfl) (by kernel_rfl) (fun _ _ _ h => h) (Or.inl ⟨by rfl, ?hy214⟩) (by assumption) ?rest214
                  case hy214 => (intro w hSw; (try dsimp only at hSw); go_simp; try with_reducible rfl)
                  try simp only [Act.put, List.setIfInBounds_toArray, List.set_cons_zero, List.set_cons_succ]
                  refine' wpAnyH_take (i := 10) (oi := ⟨some 93, .extract (.tmp 83) 2, 50, "law.go:116", #[⟨7, .data⟩, ⟨17, .gcOnly .lateStores⟩], none⟩) (v := _) rfl (by kernel_rfl) (by kernel_rfl) (by kernel_rfl) (fun _ _ _ h => h) (Or.inl ⟨by rfl, ?hy215⟩) (by assumption) ?rest215
                  case hy215 => (intro w hSw; (try dsimp only at hSw); go_simp; try with_reducible rfl)
                  try simp only [Act.put, List.setIfInBounds_toArray, List.set_cons_zero, List.set_cons_succ]
                  refine' wpAnyH_take (i := 11) (oi := ⟨some 94, .extract (.tmp 83) 3, 4, "law.go:116", #[⟨7, .data⟩, ⟨18, .gcOnly .lateStores⟩], none⟩) (v := _) rfl (by kernel_rfl) (by kernel_rfl) (by kernel_rfl) (fun _ _ _ h => h) (Or.inl ⟨by rfl, ?hy216⟩) (by assumption) ?rest216
                  case hy216 => (intro w hSw; (try dsimp only at hSw); go_simp; try with_reducible rfl)
                  try simp only [Act.put, List.setIfInBounds_toArray, List.set_cons_zero, List.set_cons_succ]
                  refine' wpAnyH_take (i := 12) (oi := ⟨some 95, .extract (.tmp 83) 4, 3, "law.go:116", #[⟨7, .data⟩, ⟨19, .gcOnly .lateStores⟩], none⟩) (v := _) rfl (by kernel_rfl) (by kernel_rfl) (by kernel_rfl) (fun _ _ _ h => h) (Or.inl ⟨by rfl, ?hy217⟩) (by assumption) ?rest217
                  case hy217 => (intro w hSw; (try dsimp only at hSw); go_simp; try with_reducible rfl)
                  try simp only [Act.put, List.setIfInBounds_toArray, List.set_cons_zero, List.set_cons_succ]
                  clear hSx
                  revert hQ
                  revert hR
                  revert ht0
                  revert ht
                  revert hS
                  revert hB
                  revert dc
                  revert zc
                  revert Xc
                  revert db
                  revert zb
                  revert Xb
                  revert da
                  revert za
                  revert Xa
                  revert cl2
                  revert nl2
                  revert Al2
                  revert co2
                  revert no2
                  revert Ao2
                  revert cf2
                  revert nf2
                  revert Af2
                  revert e2
                  revert m2
                  revert C2
                  revert e1
                  revert m1
                  revert C1
                  revert tb
                  revert W2
                  exact k5_6_15.down
                · refine alloc_step rfl 35 rfl _ rv_zero ?_
                  intro W2 rW bW zW
                  have hsz := hB.size
                  generalize hq : W.heap.size = nb at rW bW zW ⊢
                  have hOs := hO.weak (Q := (fun y => wx.heap.size ≤ y ∧ y ≠ nb ∧ y ≠ tb)) (fun y hy p => by have := hq; omega)
                  clear hO
                  have hO := hOs
                  clear hOs
                  have hn0 : wx.heap.size ≤ nb := by omega
                  have hB2 := below_on hB (show Below W.heap.size W W2 from by rw [hq]; exact bW)
                  have hS2 := HBS13.out _ hB2
                  have ht2 := ht.below (show Below W.heap.size W W2 from by rw [hq]; exact bW)
                  have hO2 := hO.below (show Below W.heap.size W W2 from by rw [hq]; exact bW)
                  clear hB hS ht hO
                  have hB := hB2
                  have hS := hS2
                  have ht := ht2
                  have hO := hO2
                  clear hB2 hS2 ht2 hO2
                  have hn := rW
                  clear rW bW zW hsz hq
                  refine hK.out _ _ hS (fun hSx => ?_)
                  clear hK K
                  try simp only [Act.put, List.setIfInBounds_toArray, List.set_cons_zero, List.set_cons_succ]
                  clear hSx
                  revert hO
                  revert ht0
                  revert ht
                  revert hn0
                  revert hn
                  revert hS
                  revert hB
                  revert e2
                  revert m2
                  revert C2
                  revert e1
                  revert m1
                  revert C1
                  revert tb
                  revert nb
                  revert W2
                  exact k5_13_15.down
                · refine alloc_step rfl 48 rfl _ rp_zero ?_
                  intro W2 rW bW zW
                  have hsz := hB.size
                  generalize hq : W.heap.size = pb at rW bW zW ⊢
                  have hOs := hO.weak (Q := (fun y => wx.heap.size ≤ y ∧ y ≠ pb ∧ y ≠ tb)) (fun y hy p => by have := hq; omega)
                  clear hO
                  have hO := hOs
                  clear hOs
                  have hp0 : wx.heap.size ≤ pb := by omega
                  have hB2 := below_on hB (show Below W.heap.size W W2 from by rw [hq]; exact bW)
                  have hS2 := HBS13.out _ hB2
                  have ht2 := ht.below (show Below W.heap.size W W2 from by rw [hq]; exact bW)
                  have hO2 := hO.below (show Below W.heap.size W W2 from by rw [hq]; exact bW)
                  clear hB hS ht hO
                  have hB := hB2
                  have hS := hS2
                  have ht := ht2
                  have hO := hO2
                  clear hB2 hS2 ht2 hO2
                  have hp := rW
                  clear rW bW zW hsz hq
                  refine hK.out _ _ hS (fun hSx => ?_)
                  clear hK K
                  try simp only [Act.put, List.setIfInBounds_toArray, List.set_cons_zero, List.set_cons_succ]
                  clear hSx
                  revert hO
                  revert ht0
                  revert ht
                  revert hp0
                  revert hp
                  revert hS
                  revert hB
                  revert e2
                  revert m2
                  revert C2
                  revert e1
                  revert m1
                  revert C1
                  revert tb
                  revert pb
                  revert W2
                  exact k5_14_15.down
              case lk13_14 =>
               as_aux_lemma =>
                intro W nb pb hB hS hn hn0 hp hp0
                refine wpAnyH_ready (rs := [5, 15]) (by kernel_rfl) (by simp) ?_
                refine AllReadyH.cons (o := ⟨some 89, .call { callee := .value (.func 15), args := #[.tmp 86, .tmp 88], argTypes := #[33, 33] }, 48, "law.go:116", #[⟨2, .data⟩, ⟨4, .data⟩], none⟩) rfl (fun K hK => ?_) (AllReadyH.cons (o := ⟨some 14, .alloc 50, 0, "law.go:116", #[], none⟩) rfl (fun K hK => ?_) AllReadyH.nil)
                · go_simp
                  go_at_call 15
                  refine (KOF.out _ hB).mono ?_
                  rintro e W2 ⟨C1, m1, e1, C2, m2, e2, rfl, oN, bN⟩
                  have hsz := hB.size
                  have hnlt := hn.lt
                  have hplt := hp.lt
                  have hON := oN.weak (Q := (fun y => wx.heap.size ≤ y ∧ y ≠ nb ∧ y ≠ pb)) (fun y hy p => by omega)
                  have hB2 := below_on hB bN
                  have hS2 := HBS13.out _ hB2
                  have hn2 := hn.below bN
                  have hp2 := hp.below bN
                  clear hB hS hn hp
                  have hB := hB2
                  have hS := hS2
                  have hn := hn2
                  have hp := hp2
                  clear hB2 hS2 hn2 hp2
                  have hO := hON
                  clear hON oN bN hsz hnlt hplt
                  go_wp2_with fail
                  refine hK.out _ _ hS (fun hSx => ?_)
                  clear hK K
                  try simp only [Act.put, List.setIfInBounds_toArray, List.set_cons_zero, List.set_cons_succ]
                  clear hSx
                  revert hO
                  revert hp0
                  revert hp
                  revert hn0
                  revert hn
                  revert hS
                  revert hB
                  revert e2
                  revert m2
                  revert C2
                  revert e1
                  revert m1
                  revert C1
                  revert pb
                  revert nb
                  revert W2
                  exact k5_13_14.down
                · refine alloc_step rfl 50 rfl _ rt_zero ?_
                  intro W2 rW bW zW
                  have hsz := hB.size
                  generalize hq : W.heap.size = tb at rW bW zW ⊢
                  have ht0 : wx.heap.size ≤ tb := by omega
                  have hB2 := below_on hB (show Below W.heap.size W W2 from by rw [hq]; exact bW)
                  have hS2 := HBS13.out _ hB2
                  have hn2 := hn.below (show Below W.heap.size W W2 from by rw [hq]; exact bW)
                  have hp2 := hp.below (show Below W.heap.size W W2 from by rw [hq]; exact bW)
                  clear hB hS hn hp
                  have hB := hB2
                  have hS := hS2
                  have hn := hn2
                  have hp := hp2
                  clear hB2 hS2 hn2 hp2
                  have ht := rW
                  clear rW bW zW hsz hq
                  refine hK.out _ _ hS (fun hSx => ?_)
                  clear hK K
                  try simp only [Act.put, List.setIfInBounds_toArray, List.set_cons_zero, List.set_cons_succ]
                  clear hSx
                  revert ht0
                  revert ht
                  revert hp0
                  revert hp
                  revert hn0
                  revert hn
                  revert hS
                  revert hB
                  revert tb
                  revert pb
                  revert nb
                  revert W2
                  exact k13_14_15.down
              case lk13_15 =>
               as_aux_lemma =>
                intro W nb tb hB hS hn hn0 ht ht0
                refine wpAnyH_ready (rs := [5, 14]) (by kernel_rfl) (by simp) ?_
                refine AllReadyH.cons (o := ⟨some 89, .call { callee := .value (.func 15), args := #[.tmp 86, .tmp 88], argTypes := #[33, 33] }, 48, "law.go:116", #[⟨2, .data⟩, ⟨4, .data⟩], none⟩) rfl (fun K hK => ?_) (AllReadyH.cons (o := ⟨some 13, .alloc 48, 0, "law.go:116", #[], none⟩) rfl (fun K hK => ?_) AllReadyH.nil)
                · go_simp
                  go_at_call 15
                  refine (KOF.out _ hB).mono ?_
                  rintro e W2 ⟨C1, m1, e1, C2, m2, e2, rfl, oN, bN⟩
                  have hsz := hB.size
                  have hnlt := hn.lt
                  have htlt := ht.lt
                  have hON := oN.weak (Q := (fun y => wx.heap.size ≤ y ∧ y ≠ nb ∧ y ≠ tb)) (fun y hy p => by omega)
                  have hB2 := below_on hB bN
                  have hS2 := HBS13.out _ hB2
                  have hn2 := hn.below bN
                  have ht2 := ht.below bN
                  clear hB hS hn ht
                  have hB := hB2
                  have hS := hS2
                  have hn := hn2
                  have ht := ht2
                  clear hB2 hS2 hn2 ht2
                  have hO := hON
                  clear hON oN bN hsz hnlt htlt
                  go_wp2_with fail
                  refine hK.out _ _ hS (fun hSx => ?_)
                  clear hK K
                  try simp only [Act.put, List.setIfInBounds_toArray, List.set_cons_zero, List.set_cons_succ]
                  clear hSx
                  revert hO
                  revert ht0
                  revert ht
                  revert hn0
                  revert hn
                  revert hS
                  revert hB
                  revert e2
                  revert m2
                  revert C2
                  revert e1
                  revert m1
                  revert C1
                  revert tb
                  revert nb
                  revert W2
                  exact k5_13_15.down
                · refine alloc_step rfl 48 rfl _ rp_zero ?_
                  intro W2 rW bW zW
                  have hsz := hB.size
                  generalize hq : W.heap.size = pb at rW bW zW ⊢
                  have hp0 : wx.heap.size ≤ pb := by omega
                  have hB2 := below_on hB (show Below W.heap.size W W2 from by rw [hq]; exact bW)
                  have hS2 := HBS13.out _ hB2
                  have hn2 := hn.below (show Below W.heap.size W W2 from by rw [hq]; exact bW)
                  have ht2 := ht.below (show Below W.heap.size W W2 from by rw [hq]; exact bW)
                  clear hB hS hn ht
                  have hB := hB2
                  have hS := hS2
                  have hn := hn2
                  have ht := ht2
                  clear hB2 hS2 hn2 ht2
                  have hp := rW
                  clear rW bW zW hsz hq
                  refine hK.out _ _ hS (fun hSx => ?_)
                  clear hK K
                  try simp only [Act.put, List.setIfInBounds_toArray, List.set_cons_zero, List.set_cons_succ]
                  clear hSx
                  revert ht0
                  revert ht
                  revert hp0
                  revert hp
                  revert hn0
                  revert hn
                  revert hS
                  revert hB
                  revert tb
                  revert pb
                  revert nb
                  revert W2
                  exact k13_14_15.down
              case lk14_15 =>
               as_aux_lemma =>
                intro W pb tb hB hS hp hp0 ht ht0
                refine wpAnyH_ready (rs := [5, 13]) (by kernel_rfl) (by simp) ?_
                refine AllReadyH.cons (o := ⟨some 89, .call { callee := .value (.func 15), args := #[.tmp 86, .tmp 88], argTypes := #[33, 33] }, 48, "law.go:116", #[⟨2, .data⟩, ⟨4, .data⟩], none⟩) rfl (fun K hK => ?_) (AllReadyH.cons (o := ⟨some 12, .alloc 35, 0, "law.go:116", #[], none⟩) rfl (fun K hK => ?_) AllReadyH.nil)
                · go_simp
                  go_at_call 15
                  refine (KOF.out _ hB).mono ?_
                  rintro e W2 ⟨C1, m1, e1, C2, m2, e2, rfl, oN, bN⟩
                  have hsz := hB.size
                  have hplt := hp.lt
                  have htlt := ht.lt
                  have hON := oN.weak (Q := (fun y => wx.heap.size ≤ y ∧ y ≠ pb ∧ y ≠ tb)) (fun y hy p => by omega)
                  have hB2 := below_on hB bN
                  have hS2 := HBS13.out _ hB2
                  have hp2 := hp.below bN
                  have ht2 := ht.below bN
                  clear hB hS hp ht
                  have hB := hB2
                  have hS := hS2
                  have hp := hp2
                  have ht := ht2
                  clear hB2 hS2 hp2 ht2
                  have hO := hON
                  clear hON oN bN hsz hplt htlt
                  go_wp2_with fail
                  refine hK.out _ _ hS (fun hSx => ?_)
                  clear hK K
                  try simp only [Act.put, List.setIfInBounds_toArray, List.set_cons_zero, List.set_cons_succ]
                  clear hSx
                  revert hO
                  revert ht0
                  revert ht
                  revert hp0
                  revert hp
                  revert hS
                  revert hB
                  revert e2
                  revert m2
                  revert C2
                  revert e1
                  revert m1
                  revert C1
                  revert tb
                  revert pb
                  revert W2
                  exact k5_14_15.down
                · refine alloc_step rfl 35 rfl _ rv_zero ?_
                  intro W2 rW bW zW
                  have hsz := hB.size
                  generalize hq : W.heap.size = nb at rW bW zW ⊢
                  have hn0 : wx.heap.size ≤ nb := by omega
                  have hB2 := below_on hB (show Below W.heap.size W W2 from by rw [hq]; exact bW)
                  have hS2 := HBS13.out _ hB2
                  have hp2 := hp.below (show Below W.heap.size W W2 from by rw [hq]; exact bW)
                  have ht2 := ht.below (show Below W.heap.size W W2 from by rw [hq]; exact bW)
                  clear hB hS hp ht
                  have hB := hB2
                  have hS := hS2
                  have hp := hp2
                  have ht := ht2
                  clear hB2 hS2 hp2 ht2
                  have hn := rW
                  clear rW bW zW hsz hq
                  refine hK.out _ _ hS (fun hSx => ?_)
                  clear hK K
                  try simp only [Act.put, List.setIfInBounds_toArray, List.set_cons_zero, List.set_cons_succ]
                  clear hSx
                  revert ht0
                  revert ht
                  revert hp0
                  revert hp
                  revert hn0
                  revert hn
                  revert hS
                  revert hB
                  revert tb
                  revert pb
                  revert nb
                  revert W2
                  exact k13_14_15.down
              case lk5_13_14 =>
               as_aux_lemma =>
                intro W nb pb C1 m1 e1 C2 m2 e2 hB hS hn hn0 hp hp0 hO
                refine wpAnyH_ready (rs := [6, 15]) (by kernel_rfl) (by simp) ?_
                refine AllReadyH.cons (o := ⟨some 90, .call { callee := .value (.func 14), args := #[.tmp 84, .tmp 89], argTypes := #[35, 48] }, 51, "law.go:116", #[⟨0, .data⟩, ⟨5, .data⟩, ⟨5, .chain⟩], none⟩) rfl (fun K hK => ?_) (AllReadyH.cons (o := ⟨some 14, .alloc 50, 0, "law.go:116", #[], none⟩) rfl (fun K hK => ?_) AllReadyH.nil)
                · go_simp
                  go_at_call 14
                  refine (KST.out _ _ _ _ _ _ _ _ hB hO).mono ?_
                  rintro e W2 ⟨Af2, nf2, cf2, Ao2, no2, co2, Al2, nl2, cl2, Xa, za, da, Xb, zb, db, Xc, zc, dc, rfl, lN, oN, bN⟩
                  have hsz := hB.size
                  have hnlt := hn.lt
                  have hplt := hp.lt
                  have hRN := lN.weak (Q := (fun y => ((P y ∧ y < wx.heap.size) ∨ wx.heap.size ≤ y) ∧ y ≠ nb ∧ y ≠ pb)) (fun y hy p => ⟨by rcases p with p | p; exact .inl p; exact .inr (by omega), by rcases p with p | p <;> omega⟩)
                  have hQN := oN.weak (Q := (fun y => wx.heap.size ≤ y ∧ y ≠ nb ∧ y ≠ pb)) (fun y hy p => by (try dsimp only at p); omega)
                  clear hO
                  have hB2 := below_on hB bN
                  have hS2 := HBS13.out _ hB2
                  have hn2 := hn.below bN
                  have hp2 := hp.below bN
                  clear hB hS hn hp
                  have hB := hB2
                  have hS := hS2
                  have hn := hn2
                  have hp := hp2
                  clear hB2 hS2 hn2 hp2
                  have hR := hRN
                  have hQ := hQN
                  clear hRN hQN lN oN bN hsz hnlt hplt
                  go_wp2_with fail
                  refine hK.out _ _ hS (fun hSx => ?_)
                  clear hK K
                  try simp only [Act.put, List.setIfInBounds_toArray, List.set_cons_zero, List.set_cons_succ]
                  refine' wpAnyH_take (i := 7) (oi := ⟨some 83, .move (.tmp 90), 51, "law.go:116", #[⟨6, .data⟩], none⟩) (v := _) rfl (by kernel_rfl) (by kernel_rfl) (by kernel_rfl) (fun _ _ _ h => h) (Or.inl ⟨by rfl, ?hy218⟩) (by assumption) ?rest218
                  case hy218 => (intro w hSw; (try dsimp only at hSw); go_simp; try with_reducible rfl)
                  try simp only [Act.put, List.setIfInBounds_toArray, List.set_cons_zero, List.set_cons_succ]
                  refine' wpAnyH_take (i := 8) (oi := ⟨some 91, .extract (.tmp 83) 0, 35, "law.go:116", #[⟨7, .data⟩], none⟩) (v := _) rfl (by kernel_rfl) (by kernel_rfl) (by kernel_rfl) (fun _ _ _ h => h) (Or.inl ⟨by rfl, ?hy219⟩) (by assumption) ?rest219
                  case hy219 => (intro w hSw; (try dsimp only at hSw); go_simp; try with_reducible rfl)
                  try simp only [Act.put, List.setIfInBounds_toArray, List.set_cons_zero, List.set_cons_succ]
                  refine' wpAnyH_take (i := 9) (oi := ⟨some 92, .extract (.tmp 83) 1, 48, "law.go:116", #[⟨7, .data⟩, ⟨16, .gcOnly .lateStores⟩], none⟩) (v := _) rfl (by kernel_rfl) (by kernel_rfl) (by kernel_rfl) (fun _ _ _ h => h) (Or.inl ⟨by rfl, ?hy220⟩) (by assumption) ?rest220
                  case hy220 => (intro w hSw; (try dsimp only at hSw); go_simp; try with_reducible rfl)
                  try simp only [Act.put, List.setIfInBounds_toArray, List.set_cons_zero, List.set_cons_succ]
                  refine' wpAnyH_take (i := 10) (oi := ⟨some 93, .extract (.tmp 83) 2, 50, "law.go:116", #[⟨7, .data⟩, ⟨17, .gcOnly .lateStores⟩], none⟩) (v := _) rfl (by kernel_rfl) (by kernel_rfl) (by kernel_rfl) (fun _ _ _ h => h) (Or.inl ⟨by rfl, ?hy221⟩) (by assumption) ?rest221
                  case hy221 => (intro w hSw; (try dsimp only at hSw); go_simp; try with_reducible rfl)
                  try simp only [Act.put, List.setIfInBounds_toArray, List.set_cons_zero, List.set_cons_succ]
                  refine' wpAnyH_take (i := 11) (oi := ⟨some 94, .extract (.tmp 83) 3, 4, "law.go:116", #[⟨7, .data⟩, ⟨18, .gcOnly .lateStores⟩], none⟩) (v := _) rfl (by kernel_rfl) (by kernel_rfl) (by kernel_rfl) (fun _ _ _ h => h) (Or.inl ⟨by rfl, ?hy222⟩) (by assumption) ?rest222
                  case hy222 => (intro w hSw; (try dsimp only at hSw); go_simp; try with_reducible rfl)
                  try simp only [Act.put, List.setIfInBounds_toArray, List.set_cons_zero, List.set_cons_succ]
                  refine' wpAnyH_take (i := 12) (oi := ⟨some 95, .extract (.tmp 83) 4, 3, "law.go:116", #[⟨7, .data⟩, ⟨19, .gcOnly .lateStores⟩], none⟩) (v := _) rfl (by kernel_rfl) (by kernel_rfl) (by kernel_rfl) (fun _ _ _ h => h) (Or.inl ⟨by rfl, ?hy223⟩) (by assumption) ?rest223
                  case hy223 => (intro w hSw; (try dsimp only at hSw); go_simp; try with_reducible rfl)
                  try simp only [Act.put, List.setIfInBounds_toArray, List.set_cons_zero, List.set_cons_succ]
                  clear hSx
                  revert hQ
                  revert hR
                  revert hp0
                  revert hp
                  revert hn0
                  revert hn
                  revert hS
                  revert hB
                  revert dc
                  revert zc
                  revert Xc
                  revert db
                  revert zb
                  revert Xb
                  revert da
                  revert za
                  revert Xa
                  revert cl2
                  revert nl2
                  revert Al2
                  revert co2
                  revert no2
                  revert Ao2
                  revert cf2
                  revert nf2
                  revert Af2
                  revert e2
                  revert m2
                  revert C2
                  revert e1
                  revert m1
                  revert C1
                  revert pb
                  revert nb
                  revert W2
                  exact k5_6_13_14.down
                · refine alloc_step rfl 50 rfl _ rt_zero ?_
                  intro W2 rW bW zW
                  have hsz := hB.size
                  generalize hq : W.heap.size = tb at rW bW zW ⊢
                  have hOs := hO.weak (Q := (fun y => wx.heap.size ≤ y ∧ y ≠ nb ∧ y ≠ pb ∧ y ≠ tb)) (fun y hy p => by have := hq; omega)
                  clear hO
                  have hO := hOs
                  clear hOs
                  have ht0 : wx.heap.size ≤ tb := by omega
                  have hB2 := below_on hB (show Below W.heap.size W W2 from by rw [hq]; exact bW)
                  have hS2 := HBS13.out _ hB2
                  have hn2 := hn.below (show Below W.heap.size W W2 from by rw [hq]; exact bW)
                  have hp2 := hp.below (show Below W.heap.size W W2 from by rw [hq]; exact bW)
                  have hO2 := hO.below (show Below W.heap.size W W2 from by rw [hq]; exact bW)
                  clear hB hS hn hp hO
                  have hB := hB2
                  have hS := hS2
                  have hn := hn2
                  have hp := hp2
                  have hO := hO2
                  clear hB2 hS2 hn2 hp2 hO2
                  have ht := rW
                  clear rW bW zW hsz hq
                  refine hK.out _ _ hS (fun hSx => ?_)
                  clear hK K
                  try simp only [Act.put, List.setIfInBounds_toArray, List.set_cons_zero, List.set_cons_succ]
                  clear hSx
                  revert hO
                  revert ht0
                  revert ht
                  revert hp0
                  revert hp
                  revert hn0
                  revert hn
                  revert hS
                  revert hB
                  revert e2
                  revert m2
                  revert C2
                  revert e1
                  revert m1
                  revert C1
                  revert tb
                  revert pb
                  revert nb
                  revert W2
                  exact k5_13_14_15.down
              case lk5_13_15 =>
               as_aux_lemma =>
                intro W nb tb C1 m1 e1 C2 m2 e2 hB hS hn hn0 ht ht0 hO
                refine wpAnyH_ready (rs := [6, 14]) (by kernel_rfl) (by simp) ?_
                refine AllReadyH.cons (o := ⟨some 90, .call { callee := .value (.func 14), args := #[.tmp 84, .tmp 89], argTypes := #[35, 48] }, 51, "law.go:116", #[⟨0, .data⟩, ⟨5, .data⟩, ⟨5, .chain⟩], none⟩) rfl (fun K hK => ?_) (AllReadyH.cons (o := ⟨some 13, .alloc 48, 0, "law.go:116", #[], none⟩) rfl (fun K hK => ?_) AllReadyH.nil)
                · go_simp
                  go_at_call 14
                  refine (KST.out _ _ _ _ _ _ _ _ hB hO).mono ?_
                  rintro e W2 ⟨Af2, nf2, cf2, Ao2, no2, co2, Al2, nl2, cl2, Xa, za, da, Xb, zb, db, Xc, zc, dc, rfl, lN, oN, bN⟩
                  have hsz := hB.size
                  have hnlt := hn.lt
                  have htlt := ht.lt
                  have hRN := lN.weak (Q := (fun y => ((P y ∧ y < wx.heap.size) ∨ wx.heap.size ≤ y) ∧ y ≠ nb ∧ y ≠ tb)) (fun y hy p => ⟨by rcases p with p | p; exact .inl p; exact .inr (by omega), by rcases p with p | p <;> omega⟩)
                  have hQN := oN.weak (Q := (fun y => wx.heap.size ≤ y ∧ y ≠ nb ∧ y ≠ tb)) (fun y hy p => by (try dsimp only at p); omega)
                  clear hO
                  have hB2 := below_on hB bN
                  have hS2 := HBS13.out _ hB2
                  have hn2 := hn.below bN
                  have ht2 := ht.below bN
                  clear hB hS hn ht
                  have hB := hB2
                  have hS := hS2
                  have hn := hn2
                  have ht := ht2
                  clear hB2 hS2 hn2 ht2
                  have hR := hRN
                  have hQ := hQN
                  clear hRN hQN lN oN bN hsz hnlt htlt
                  go_wp2_with fail
                  refine hK.out _ _ hS (fun hSx => ?_)
                  clear hK K
                  try simp only [Act.put, List.setIfInBounds_toArray, List.set_cons_zero, List.set_cons_succ]
                  refine' wpAnyH_take (i := 7) (oi := ⟨some 83, .move (.tmp 90), 51, "law.go:116", #[⟨6, .data⟩], none⟩) (v := _) rfl (by kernel_rfl) (by kernel_rfl) (by kernel_rfl) (fun _ _ _ h => h) (Or.inl ⟨by rfl, ?hy224⟩) (by assumption) ?rest224
                  case hy224 => (intro w hSw; (try dsimp only at hSw); go_simp; try with_reducible rfl)
                  try simp only [Act.put, List.setIfInBounds_toArray, List.set_cons_zero, List.set_cons_succ]
                  refine' wpAnyH_take (i := 8) (oi := ⟨some 91, .extract (.tmp 83) 0, 35, "law.go:116", #[⟨7, .data⟩], none⟩) (v := _) rfl (by kernel_rfl) (by kernel_rfl) (by kernel_rfl) (fun _ _ _ h => h) (Or.inl ⟨by rfl, ?hy225⟩) (by assumption) ?rest225
                  case hy225 => (intro w hSw; (try dsimp only at hSw); go_simp; try with_reducible rfl)
                  try simp only [Act.put, List.setIfInBounds_toArray, List.set_cons_zero, List.set_cons_succ]
                  refine' wpAnyH_take (i := 9) (oi := ⟨some 92, .extract (.tmp 83) 1, 48, "law.go:116", #[⟨7, .data⟩, ⟨16, .gcOnly .lateStores⟩], none⟩) (v := _) rfl (by kernel_rfl) (by kernel_rfl) (by kernel_rfl) (fun _ _ _ h => h) (Or.inl ⟨by rfl, ?hy226⟩) (by assumption) ?rest226
                  case hy226 => (intro w hSw; (try dsimp only at hSw); go_simp; try with_reducible rfl)
                  try simp only [Act.put, List.setIfInBounds_toArray, List.set_cons_zero, List.set_cons_succ]
                  refine' wpAnyH_take (i := 10) (oi := ⟨some 93, .extract (.tmp 83) 2, 50, "law.go:116", #[⟨7, .data⟩, ⟨17, .gcOnly .lateStores⟩], none⟩) (v := _) rfl (by kernel_rfl) (by kernel_rfl) (by kernel_rfl) (fun _ _ _ h => h) (Or.inl ⟨by rfl, ?hy227⟩) (by assumption) ?rest227
                  case hy227 => (intro w hSw; (try dsimp only at hSw); go_simp; try with_reducible rfl)
                  try simp only [Act.put, List.setIfInBounds_toArray, List.set_cons_zero, List.set_cons_succ]
                  refine' wpAnyH_take (i := 11) (oi := ⟨some 94, .extract (.tmp 83) 3, 4, "law.go:116", #[⟨7, .data⟩, ⟨18, .gcOnly .lateStores⟩], none⟩) (v := _) rfl (by kernel_rfl) (by kernel_rfl) (by kernel_rfl) (fun _ _ _ h => h) (Or.inl ⟨by rfl, ?hy228⟩) (by assumption) ?rest228
                  case hy228 => (intro w hSw; (try dsimp only at hSw); go_simp; try with_reducible rfl)
                  try simp only [Act.put, List.setIfInBounds_toArray, List.set_cons_zero, List.set_cons_succ]
                  refine' wpAnyH_take (i := 12) (oi := ⟨some 95, .extract (.tmp 83) 4, 3, "law.go:116", #[⟨7, .data⟩, ⟨19, .gcOnly .lateStores⟩], none⟩) (v := _) rfl (by kernel_rfl) (by kernel_rfl) (by kernel_rfl) (fun _ _ _ h => h) (Or.inl ⟨by rfl, ?hy229⟩) (by assumption) ?rest229
                  case hy229 => (intro w hSw; (try dsimp only at hSw); go_simp; try with_reducible rfl)
                  try simp only [Act.put, List.setIfInBounds_toArray, List.set_cons_zero, List.set_cons_succ]
                  clear hSx
                  revert hQ
                  revert hR
                  revert ht0
                  revert ht
                  revert hn0
                  revert hn
                  revert hS
                  revert hB
                  revert dc
                  revert zc
                  revert Xc
                  revert db
                  revert zb
                  revert Xb
                  revert da
                  revert za
                  revert Xa
                  revert cl2
                  revert nl2
                  revert Al2
                  revert co2
                  revert no2
                  revert Ao2
                  revert cf2
                  revert nf2
                  revert Af2
                  revert e2
                  revert m2
                  revert C2
                  revert e1
                  revert m1
                  revert C1
                  revert tb
                  revert nb
                  revert W2
                  exact k5_6_13_15.down
                · refine alloc_step rfl 48 rfl _ rp_zero ?_
                  intro W2 rW bW zW
                  have hsz := hB.size
                  generalize hq : W.heap.size = pb at rW bW zW ⊢
                  have hOs := hO.weak (Q := (fun y => wx.heap.size ≤ y ∧ y ≠ nb ∧ y ≠ pb ∧ y ≠ tb)) (fun y hy p => by have := hq; omega)
                  clear hO
                  have hO := hOs
                  clear hOs
                  have hp0 : wx.heap.size ≤ pb := by omega
                  have hB2 := below_on hB (show Below W.heap.size W W2 from by rw [hq]; exact bW)
                  have hS2 := HBS13.out _ hB2
                  have hn2 := hn.below (show Below W.heap.size W W2 from by rw [hq]; exact bW)
                  have ht2 := ht.below (show Below W.heap.size W W2 from by rw [hq]; exact bW)
                  have hO2 := hO.below (show Below W.heap.size W W2 from by rw [hq]; exact bW)
                  clear hB hS hn ht hO
                  have hB := hB2
                  have hS := hS2
                  have hn := hn2
                  have ht := ht2
                  have hO := hO2
                  clear hB2 hS2 hn2 ht2 hO2
                  have hp := rW
                  clear rW bW zW hsz hq
                  refine hK.out _ _ hS (fun hSx => ?_)
                  clear hK K
                  try simp only [Act.put, List.setIfInBounds_toArray, List.set_cons_zero, List.set_cons_succ]
                  clear hSx
                  revert hO
                  revert ht0
                  revert ht
                  revert hp0
                  revert hp
                  revert hn0
                  revert hn
                  revert hS
                  revert hB
                  revert e2
                  revert m2
                  revert C2
                  revert e1
                  revert m1
                  revert C1
                  revert tb
                  revert pb
                  revert nb
                  revert W2
                  exact k5_13_14_15.down
              case lk5_14_15 =>
               as_aux_lemma =>
                intro W pb tb C1 m1 e1 C2 m2 e2 hB hS hp hp0 ht ht0 hO
                refine wpAnyH_ready (rs := [6, 13]) (by kernel_rfl) (by simp) ?_
                refine AllReadyH.cons (o := ⟨some 90, .call { callee := .value (.func 14), args := #[.tmp 84, .tmp 89], argTypes := #[35, 48] }, 51, "law.go:116", #[⟨0, .data⟩, ⟨5, .data⟩, ⟨5, .chain⟩], none⟩) rfl (fun K hK => ?_) (AllReadyH.cons (o := ⟨some 12, .alloc 35, 0, "law.go:116", #[], none⟩) rfl (fun K hK => ?_) AllReadyH.nil)
                · go_simp
                  go_at_call 14
                  refine (KST.out _ _ _ _ _ _ _ _ hB hO).mono ?_
                  rintro e W2 ⟨Af2, nf2, cf2, Ao2, no2, co2, Al2, nl2, cl2, Xa, za, da, Xb, zb, db, Xc, zc, dc, rfl, lN, oN, bN⟩
                  have hsz := hB.size
                  have hplt := hp.lt
                  have htlt := ht.lt
                  have hRN := lN.weak (Q := (fun y => ((P y ∧ y < wx.heap.size) ∨ wx.heap.size ≤ y) ∧ y ≠ pb ∧ y ≠ tb)) (fun y hy p => ⟨by rcases p with p | p; exact .inl p; exact .inr (by omega), by rcases p with p | p <;> omega⟩)
                  have hQN := oN.weak (Q := (fun y => wx.heap.size ≤ y ∧ y ≠ pb ∧ y ≠ tb)) (fun y hy p => by (try dsimp only at p); omega)
                  clear hO
                  have hB2 := below_on hB bN
                  have hS2 := HBS13.out _ hB2
                  have hp2 := hp.below bN
                  have ht2 := ht.below bN
                  clear hB hS hp ht
                  have hB := hB2
                  have hS := hS2
                  have hp := hp2
                  have ht := ht2
                  clear hB2 hS2 hp2 ht2
                  have hR := hRN
                  have hQ := hQN
                  clear hRN hQN lN oN bN hsz hplt htlt
                  go_wp2_with fail
                  refine hK.out _ _ hS (fun hSx => ?_)
                  clear hK K
                  try simp only [Act.put, List.setIfInBounds_toArray, List.set_cons_zero, List.set_cons_succ]
                  refine' wpAnyH_take (i := 7) (oi := ⟨some 83, .move (.tmp 90), 51, "law.go:116", #[⟨6, .data⟩], none⟩) (v := _) rfl (by kernel_rfl) (by kernel_rfl) (by kernel_rfl) (fun _ _ _ h => h) (Or.inl ⟨by rfl, ?hy230⟩) (by assumption) ?rest230
                  case hy230 => (intro w hSw; (try dsimp only at hSw); go_simp; try with_reducible rfl)
                  try simp only [Act.put, List.setIfInBounds_toArray, List.set_cons_zero, List.set_cons_succ]
                  refine' wpAnyH_take (i := 8) (oi := ⟨some 91, .extract (.tmp 83) 0, 35, "law.go:116", #[⟨7, .data⟩], none⟩) (v := _) rfl (by kernel_rfl) (by kernel_rfl) (by kernel_rfl) (fun _ _ _ h => h) (Or.inl ⟨by rfl, ?hy231⟩) (by assumption) ?rest231
                  case hy231 => (intro w hSw; (try dsimp only at hSw); go_simp; try with_reducible rfl)
                  try simp only [Act.put, List.setIfInBounds_toArray, List.set_cons_zero, List.set_cons_succ]
                  refine' wpAnyH_take (i := 9) (oi := ⟨some 92, .extract (.tmp 83) 1, 48, "law.go:116", #[⟨7, .data⟩, ⟨16, .gcOnly .lateStores⟩], none⟩) (v := _) rfl (by kernel_rfl) (by kernel_rfl) (by kernel_rfl) (fun _ _ _ h => h) (Or.inl ⟨by rfl, ?hy232⟩) (by assumption) ?rest232
                  case hy232 => (intro w hSw; (try dsimp only at hSw); go_simp; try with_reducible rfl)
                  try simp only [Act.put, List.setIfInBounds_toArray, List.set_cons_zero, List.set_cons_succ]
                  refine' wpAnyH_take (i := 10) (oi := ⟨some 93, .extract (.tmp 83) 2, 50, "law.go:116", #[⟨7, .data⟩, ⟨17, .gcOnly .lateStores⟩], none⟩) (v := _) rfl (by kernel_rfl) (by kernel_rfl) (by kernel_rfl) (fun _ _ _ h => h) (Or.inl ⟨by rfl, ?hy233⟩) (by assumption) ?rest233
                  case hy233 => (intro w hSw; (try dsimp only at hSw); go_simp; try with_reducible rfl)
                  try simp only [Act.put, List.setIfInBounds_toArray, List.set_cons_zero, List.set_cons_succ]
                  refine' wpAnyH_take (i := 11) (oi := ⟨some 94, .extract (.tmp 83) 3, 4, "law.go:116", #[⟨7, .data⟩, ⟨18, .gcOnly .lateStores⟩], none⟩) (v := _) rfl (by kernel_rfl) (by kernel_rfl) (by kernel_rfl) (fun _ _ _ h => h) (Or.inl ⟨by rfl, ?hy234⟩) (by assumption) ?rest234
                  case hy234 => (intro w hSw; (try dsimp only at hSw); go_simp; try with_reducible rfl)
                  try simp only [Act.put, List.setIfInBounds_toArray, List.set_cons_zero, List.set_cons_succ]
                  refine' wpAnyH_take (i := 12) (oi := ⟨some 95, .extract (.tmp 83) 4, 3, "law.go:116", #[⟨7, .data⟩, ⟨19, .gcOnly .lateStores⟩], none⟩) (v := _) rfl (by kernel_rfl) (by kernel_rfl) (by kernel_rfl) (fun _ _ _ h => h) (Or.inl ⟨by rfl, ?hy235⟩) (by assumption) ?rest235
                  case hy235 => (intro w hSw; (try dsimp only at hSw); go_simp; try with_reducible rfl)
                  try simp only [Act.put, List.setIfInBounds_toArray, List.set_cons_zero, List.set_cons_succ]
                  clear hSx
                  revert hQ
                  revert hR
                  revert ht0
                  revert ht
                  revert hp0
                  revert hp
                  revert hS
                  revert hB
                  revert dc
                  revert zc
                  revert Xc
                  revert db
                  revert zb
                  revert Xb
                  revert da
                  revert za
                  revert Xa
                  revert cl2
                  revert nl2
                  revert Al2
                  revert co2
                  revert no2
                  revert Ao2
                  revert cf2
                  revert nf2
                  revert Af2
                  revert e2
                  revert m2
                  revert C2
                  revert e1
                  revert m1
                  revert C1
                  revert tb
                  revert pb
                  revert W2
                  exact k5_6_14_15.down
                · refine alloc_step rfl 35 rfl _ rv_zero ?_
                  intro W2 rW bW zW
                  have hsz := hB.size
                  generalize hq : W.heap.size = nb at rW bW zW ⊢
                  have hOs := hO.weak (Q := (fun y => wx.heap.size ≤ y ∧ y ≠ nb ∧ y ≠ pb ∧ y ≠ tb)) (fun y hy p => by have := hq; omega)
                  clear hO
                  have hO := hOs
                  clear hOs
                  have hn0 : wx.heap.size ≤ nb := by omega
                  have hB2 := below_on hB (show Below W.heap.size W W2 from by rw [hq]; exact bW)
                  have hS2 := HBS13.out _ hB2
                  have hp2 := hp.below (show Below W.heap.size W W2 from by rw [hq]; exact bW)
                  have ht2 := ht.below (show Below W.heap.size W W2 from by rw [hq]; exact bW)
                  have hO2 := hO.below (show Below W.heap.size W W2 from by rw [hq]; exact bW)
                  clear hB hS hp ht hO
                  have hB := hB2
                  have hS := hS2
                  have hp := hp2
                  have ht := ht2
                  have hO := hO2
                  clear hB2 hS2 hp2 ht2 hO2
                  have hn := rW
                  clear rW bW zW hsz hq
                  refine hK.out _ _ hS (fun hSx => ?_)
                  clear hK K
                  try simp only [Act.put, List.setIfInBounds_toArray, List.set_cons_zero, List.set_cons_succ]
                  clear hSx
                  revert hO
                  revert ht0
                  revert ht
                  revert hp0
                  revert hp
                  revert hn0
                  revert hn
                  revert hS
                  revert hB
                  revert e2
                  revert m2
                  revert C2
                  revert e1
                  revert m1
                  revert C1
                  revert tb
                  revert pb
                  revert nb
                  revert W2
                  exact k5_13_14_15.down
              case lk13_14_15 =>
               as_aux_lemma =>
                intro W nb pb tb hB hS hn hn0 hp hp0 ht ht0
                refine wpAnyH_ready (rs := [5]) (by kernel_rfl) (by simp) ?_
                refine AllReadyH.cons (o := ⟨some 89, .call { callee := .value (.func 15), args := #[.tmp 86, .tmp 88], argTypes := #[33, 33] }, 48, "law.go:116", #[⟨2, .data⟩, ⟨4, .data⟩], none⟩) rfl (fun K hK => ?_) AllReadyH.nil
                go_simp
                go_at_call 15
                refine (KOF.out _ hB).mono ?_
                rintro e W2 ⟨C1, m1, e1, C2, m2, e2, rfl, oN, bN⟩
                have hsz := hB.size
                have hnlt := hn.lt
                have hplt := hp.lt
                have htlt := ht.lt
                have hON := oN.weak (Q := (fun y => wx.heap.size ≤ y ∧ y ≠ nb ∧ y ≠ pb ∧ y ≠ tb)) (fun y hy p => by omega)
                have hB2 := below_on hB bN
                have hS2 := HBS13.out _ hB2
                have hn2 := hn.below bN
                have hp2 := hp.below bN
                have ht2 := ht.below bN
                clear hB hS hn hp ht
                have hB := hB2
                have hS := hS2
                have hn := hn2
                have hp := hp2
                have ht := ht2
                clear hB2 hS2 hn2 hp2 ht2
                have hO := hON
                clear hON oN bN hsz hnlt hplt htlt
                go_wp2_with fail
                refine hK.out _ _ hS (fun hSx => ?_)
                clear hK K
                try simp only [Act.put, List.setIfInBounds_toArray, List.set_cons_zero, List.set_cons_succ]
                clear hSx
                revert hO
                revert ht0
                revert ht
                revert hp0
                revert hp
                revert hn0
                revert hn
                revert hS
                revert hB
                revert e2
                revert m2
                revert C2
                revert e1
                revert m1
                revert C1
                revert tb
                revert pb
                revert nb
                revert W2
                exact k5_13_14_15.down
              case lk5_13_14_15 =>
               as_aux_lemma =>
                intro W nb pb tb C1 m1 e1 C2 m2 e2 hB hS hn hn0 hp hp0 ht ht0 hO
                refine wpAnyH_ready (rs := [6]) (by kernel_rfl) (by simp) ?_
                refine AllReadyH.cons (o := ⟨some 90, .call { callee := .value (.func 14), args := #[.tmp 84, .tmp 89], argTypes := #[35, 48] }, 51, "law.go:116", #[⟨0, .data⟩, ⟨5, .data⟩, ⟨5, .chain⟩], none⟩) rfl (fun K hK => ?_) AllReadyH.nil
                go_simp
                go_at_call 14
                refine (KST.out _ _ _ _ _ _ _ _ hB hO).mono ?_
                rintro e W2 ⟨Af2, nf2, cf2, Ao2, no2, co2, Al2, nl2, cl2, Xa, za, da, Xb, zb, db, Xc, zc, dc, rfl, lN, oN, bN⟩
                have hsz := hB.size
                have hnlt := hn.lt
                have hplt := hp.lt
                have htlt := ht.lt
                have hRN := lN.weak (Q := (fun y => ((P y ∧ y < wx.heap.size) ∨ wx.heap.size ≤ y) ∧ y ≠ nb ∧ y ≠ pb ∧ y ≠ tb)) (fun y hy p => ⟨by rcases p with p | p; exact .inl p; exact .inr (by omega), by rcases p with p | p <;> omega⟩)
                have hQN := oN.weak (Q := (fun y => wx.heap.size ≤ y ∧ y ≠ nb ∧ y ≠ pb ∧ y ≠ tb)) (fun y hy p => by (try dsimp only at p); omega)
                clear hO
                have hB2 := below_on hB bN
                have hS2 := HBS13.out _ hB2
                have hn2 := hn.below bN
                have hp2 := hp.below bN
                have ht2 := ht.below bN
                clear hB hS hn hp ht
                have hB := hB2
                have hS := hS2
                have hn := hn2
                have hp := hp2
                have ht := ht2
                clear hB2 hS2 hn2 hp2 ht2
                have hR := hRN
                have hQ := hQN
                clear hRN hQN lN oN bN hsz hnlt hplt htlt
                go_wp2_with fail
                refine hK.out _ _ hS (fun hSx => ?_)
                clear hK K
                try simp only [Act.put, List.setIfInBounds_toArray, List.set_cons_zero, List.set_cons_succ]
                refine' wpAnyH_take (i := 7) (oi := ⟨some 83, .move (.tmp 90), 51, "law.go:116", #[⟨6, .data⟩], none⟩) (v := _) rfl (by kernel_rfl) (by kernel_rfl) (by kernel_rfl) (fun _ _ _ h => h) (Or.inl ⟨by rfl, ?hy236⟩) (by assumption) ?rest236
                case hy236 => (intro w hSw; (try dsimp only at hSw); go_simp; try with_reducible rfl)
                try simp only [Act.put, List.setIfInBounds_toArray, List.set_cons_zero, List.set_cons_succ]
                refine' wpAnyH_take (i := 8) (oi := ⟨some 91, .extract (.tmp 83) 0, 35, "law.go:116", #[⟨7, .data⟩], none⟩) (v := _) rfl (by kernel_rfl) (by kernel_rfl) (by kernel_rfl) (fun _ _ _ h => h) (Or.inl ⟨by rfl, ?hy237⟩) (by assumption) ?rest237
                case hy237 => (intro w hSw; (try dsimp only at hSw); go_simp; try with_reducible rfl)
                try simp only [Act.put, List.setIfInBounds_toArray, List.set_cons_zero, List.set_cons_succ]
                refine' wpAnyH_take (i := 9) (oi := ⟨some 92, .extract (.tmp 83) 1, 48, "law.go:116", #[⟨7, .data⟩, ⟨16, .gcOnly .lateStores⟩], none⟩) (v := _) rfl (by kernel_rfl) (by kernel_rfl) (by kernel_rfl) (fun _ _ _ h => h) (Or.inl ⟨by rfl, ?hy238⟩) (by assumption) ?rest238
                case hy238 => (intro w hSw; (try dsimp only at hSw); go_simp; try with_reducible rfl)
                try simp only [Act.put, List.setIfInBounds_toArray, List.set_cons_zero, List.set_cons_succ]
                refine' wpAnyH_take (i := 10) (oi := ⟨some 93, .extract (.tmp 83) 2, 50, "law.go:116", #[⟨7, .data⟩, ⟨17, .gcOnly .lateStores⟩], none⟩) (v := _) rfl (by kernel_rfl) (by kernel_rfl) (by kernel_rfl) (fun _ _ _ h => h) (Or.inl ⟨by rfl, ?hy239⟩) (by assumption) ?rest239
                case hy239 => (intro w hSw; (try dsimp only at hSw); go_simp; try with_reducible rfl)
                try simp only [Act.put, List.setIfInBounds_toArray, List.set_cons_zero, List.set_cons_succ]
                refine' wpAnyH_take (i := 11) (oi := ⟨some 94, .extract (.tmp 83) 3, 4, "law.go:116", #[⟨7, .data⟩, ⟨18, .gcOnly .lateStores⟩], none⟩) (v := _) rfl (by kernel_rfl) (by kernel_rfl) (by kernel_rfl) (fun _ _ _ h => h) (Or.inl ⟨by rfl, ?hy240⟩) (by assumption) ?rest240
                case hy240 => (intro w hSw; (try dsimp only at hSw); go_simp; try with_reducible rfl)
                try simp only [Act.put, List.setIfInBounds_toArray, List.set_cons_zero, List.set_cons_succ]
                refine' wpAnyH_take (i := 12) (oi := ⟨some 95, .extract (.tmp 83) 4, 3, "law.go:116", #[⟨7, .data⟩, ⟨19, .gcOnly .lateStores⟩], none⟩) (v := _) rfl (by kernel_rfl) (by kernel_rfl) (by kernel_rfl) (fun _ _ _ h => h) (Or.inl ⟨by rfl, ?hy241⟩) (by assumption) ?rest241
                case hy241 => (intro w hSw; (try dsimp only at hSw); go_simp; try with_reducible rfl)
                try simp only [Act.put, List.setIfInBounds_toArray, List.set_cons_zero, List.set_cons_succ]
                clear hSx
                revert hQ
                revert hR
                revert ht0
                revert ht
                revert hp0
                revert hp
                revert hn0
                revert hn
                revert hS
                revert hB
                revert dc
                revert zc
                revert Xc
                revert db
                revert zb
                revert Xb
                revert da
                revert za
                revert Xa
                revert cl2
                revert nl2
                revert Al2
                revert co2
                revert no2
                revert Ao2
                revert cf2
                revert nf2
                revert Af2
                revert e2
                revert m2
                revert C2
                revert e1
                revert m1
                revert C1
                revert tb
                revert pb
                revert nb
                revert W2
                exact k5_6_13_14_15.down
              case lk5_6 =>
               as_aux_lemma =>
                intro W C1 m1 e1 C2 m2 e2 Af2 nf2 cf2 Ao2 no2 co2 Al2 nl2 cl2 Xa za da Xb zb db Xc zc dc hB hS hR hQ
                refine wpAnyH_ready (rs := [13, 14, 15]) (by kernel_rfl) (by simp) ?_
                refine AllReadyH.cons (o := ⟨some 12, .alloc 35, 0, "law.go:116", #[], none⟩) rfl (fun K hK => ?_) (AllReadyH.cons (o := ⟨some 13, .alloc 48, 0, "law.go:116", #[], none⟩) rfl (fun K hK => ?_) (AllReadyH.cons (o := ⟨some 14, .alloc 50, 0, "law.go:116", #[], none⟩) rfl (fun K hK => ?_) AllReadyH.nil))
                · refine alloc_step rfl 35 rfl _ rv_zero ?_
                  intro W2 rW bW zW
                  have hsz := hB.size
                  generalize hq : W.heap.size = nb at rW bW zW ⊢
                  have hRs := hR.weak (Q := (fun y => ((P y ∧ y < wx.heap.size) ∨ wx.heap.size ≤ y) ∧ y ≠ nb)) (fun y hy p => ⟨p, by have := hq; omega⟩)
                  clear hR
                  have hR := hRs
                  clear hRs
                  have hQs := hQ.weak (Q := (fun y => wx.heap.size ≤ y ∧ y ≠ nb)) (fun y hy p => by have := hq; omega)
                  clear hQ
                  have hQ := hQs
                  clear hQs
                  have hn0 : wx.heap.size ≤ nb := by omega
                  have hB2 := below_on hB (show Below W.heap.size W W2 from by rw [hq]; exact bW)
                  have hS2 := HBS13.out _ hB2
                  have hR2 := hR.below (show Below W.heap.size W W2 from by rw [hq]; exact bW)
                  have hQ2 := hQ.below (show Below W.heap.size W W2 from by rw [hq]; exact bW)
                  clear hB hS hR hQ
                  have hB := hB2
                  have hS := hS2
                  have hR := hR2
                  have hQ := hQ2
                  clear hB2 hS2 hR2 hQ2
                  have hn := rW
                  clear rW bW zW hsz hq
                  refine hK.out _ _ hS (fun hSx => ?_)
                  clear hK K
                  try simp only [Act.put, List.setIfInBounds_toArray, List.set_cons_zero, List.set_cons_succ]
                  clear hSx
                  revert hQ
                  revert hR
                  revert hn0
                  revert hn
                  revert hS
                  revert hB
                  revert dc
                  revert zc
                  revert Xc
                  revert db
                  revert zb
                  revert Xb
                  revert da
                  revert za
                  revert Xa
                  revert cl2
                  revert nl2
                  revert Al2
                  revert co2
                  revert no2
                  revert Ao2
                  revert cf2
                  revert nf2
                  revert Af2
                  revert e2
                  revert m2
                  revert C2
                  revert e1
                  revert m1
                  revert C1
                  revert nb
                  revert W2
                  exact k5_6_13.down
                · refine alloc_step rfl 48 rfl _ rp_zero ?_
                  intro W2 rW bW zW
                  have hsz := hB.size
                  generalize hq : W.heap.size = pb at rW bW zW ⊢
                  have hRs := hR.weak (Q := (fun y => ((P y ∧ y < wx.heap.size) ∨ wx.heap.size ≤ y) ∧ y ≠ pb)) (fun y hy p => ⟨p, by have := hq; omega⟩)
                  clear hR
                  have hR := hRs
                  clear hRs
                  have hQs := hQ.weak (Q := (fun y => wx.heap.size ≤ y ∧ y ≠ pb)) (fun y hy p => by have := hq; omega)
                  clear hQ
                  have hQ := hQs
                  clear hQs
                  have hp0 : wx.heap.size ≤ pb := by omega
                  have hB2 := below_on hB (show Below W.heap.size W W2 from by rw [hq]; exact bW)
                  have hS2 := HBS13.out _ hB2
                  have hR2 := hR.below (show Below W.heap.size W W2 from by rw [hq]; exact bW)
                  have hQ2 := hQ.below (show Below W.heap.size W W2 from by rw [hq]; exact bW)
                  clear hB hS hR hQ
                  have hB := hB2
                  have hS := hS2
                  have hR := hR2
                  have hQ := hQ2
                  clear hB2 hS2 hR2 hQ2
                  have hp := rW
                  clear rW bW zW hsz hq
                  refine hK.out _ _ hS (fun hSx => ?_)
                  clear hK K
                  try simp only [Act.put, List.setIfInBounds_toArray, List.set_cons_zero, List.set_cons_succ]
                  clear hSx
                  revert hQ
                  revert hR
                  revert hp0
                  revert hp
                  revert hS
                  revert hB
                  revert dc
                  revert zc
                  revert Xc
                  revert db
                  revert zb
                  revert Xb
                  revert da
                  revert za
                  revert Xa
                  revert cl2
                  revert nl2
                  revert Al2
                  revert co2
                  revert no2
                  revert Ao2
                  revert cf2
                  revert nf2
                  revert Af2
                  revert e2
                  revert m2
                  revert C2
                  revert e1
                  revert m1
                  revert C1
                  revert pb
                  revert W2
                  exact k5_6_14.down
                · refine alloc_step rfl 50 rfl _ rt_zero ?_
                  intro W2 rW bW zW
                  have hsz := hB.size
                  generalize hq : W.heap.size = tb at rW bW zW ⊢
                  have hRs := hR.weak (Q := (fun y => ((P y ∧ y < wx.heap.size) ∨ wx.heap.size ≤ y) ∧ y ≠ tb)) (fun y hy p => ⟨p, by have := hq; omega⟩)
                  clear hR
                  have hR := hRs
                  clear hRs
                  have hQs := hQ.weak (Q := (fun y => wx.heap.size ≤ y ∧ y ≠ tb)) (fun y hy p => by have := hq; omega)
                  clear hQ
                  have hQ := hQs
                  clear hQs
                  have ht0 : wx.heap.size ≤ tb := by omega
                  have hB2 := below_on hB (show Below W.heap.size W W2 from by rw [hq]; exact bW)
                  have hS2 := HBS13.out _ hB2
                  have hR2 := hR.below (show Below W.heap.size W W2 from by rw [hq]; exact bW)
                  have hQ2 := hQ.below (show Below W.heap.size W W2 from by rw [hq]; exact bW)
                  clear hB hS hR hQ
                  have hB := hB2
                  have hS := hS2
                  have hR := hR2
                  have hQ := hQ2
                  clear hB2 hS2 hR2 hQ2
                  have ht := rW
                  clear rW bW zW hsz hq
                  refine hK.out _ _ hS (fun hSx => ?_)
                  clear hK K
                  try simp only [Act.put, List.setIfInBounds_toArray, List.set_cons_zero, List.set_cons_succ]
                  clear hSx
                  revert hQ
                  revert hR
                  revert ht0
                  revert ht
                  revert hS
                  revert hB
                  revert dc
                  revert zc
                  revert Xc
                  revert db
                  revert zb
                  revert Xb
                  revert da
                  revert za
                  revert Xa
                  revert cl2
                  revert nl2
                  revert Al2
                  revert co2
                  revert no2
                  revert Ao2
                  revert cf2
                  revert nf2
                  revert Af2
                  revert e2
                  revert m2
                  revert C2
                  revert e1
                  revert m1
                  revert C1
                  revert tb
                  revert W2
                  exact k5_6_15.down
              case lk5_6_13 =>
               as_aux_lemma =>
                intro W nb C1 m1 e1 C2 m2 e2 Af2 nf2 cf2 Ao2 no2 co2 Al2 nl2 cl2 Xa za da Xb zb db Xc zc dc hB hS hn hn0 hR hQ
                refine wpAnyH_ready (rs := [14, 15]) (by kernel_rfl) (by simp) ?_
                refine AllReadyH.cons (o := ⟨some 13, .alloc 48, 0, "law.go:116", #[], none⟩) rfl (fun K hK => ?_) (AllReadyH.cons (o := ⟨some 14, .alloc 50, 0, "law.go:116", #[], none⟩) rfl (fun K hK => ?_) AllReadyH.nil)
                · refine alloc_step rfl 48 rfl _ rp_zero ?_
                  intro W2 rW bW zW
                  have hsz := hB.size
                  generalize hq : W.heap.size = pb at rW bW zW ⊢
                  have hRs := hR.weak (Q := (fun y => ((P y ∧ y < wx.heap.size) ∨ wx.heap.size ≤ y) ∧ y ≠ nb ∧ y ≠ pb)) (fun y hy p => ⟨p.1, by have := hq; omega⟩)
                  clear hR
                  have hR := hRs
                  clear hRs
                  have hQs := hQ.weak (Q := (fun y => wx.heap.size ≤ y ∧ y ≠ nb ∧ y ≠ pb)) (fun y hy p => by have := hq; omega)
                  clear hQ
                  have hQ := hQs
                  clear hQs
                  have hp0 : wx.heap.size ≤ pb := by omega
                  have hB2 := below_on hB (show Below W.heap.size W W2 from by rw [hq]; exact bW)
                  have hS2 := HBS13.out _ hB2
                  have hn2 := hn.below (show Below W.heap.size W W2 from by rw [hq]; exact bW)
                  have hR2 := hR.below (show Below W.heap.size W W2 from by rw [hq]; exact bW)
                  have hQ2 := hQ.below (show Below W.heap.size W W2 from by rw [hq]; exact bW)
                  clear hB hS hn hR hQ
                  have hB := hB2
                  have hS := hS2
                  have hn := hn2
                  have hR := hR2
                  have hQ := hQ2
                  clear hB2 hS2 hn2 hR2 hQ2
                  have hp := rW
                  clear rW bW zW hsz hq
                  refine hK.out _ _ hS (fun hSx => ?_)
                  clear hK K
                  try simp only [Act.put, List.setIfInBounds_toArray, List.set_cons_zero, List.set_cons_succ]
                  clear hSx
                  revert hQ
                  revert hR
                  revert hp0
                  revert hp
                  revert hn0
                  revert hn
                  revert hS
                  revert hB
                  revert dc
                  revert zc
                  revert Xc
                  revert db
                  revert zb
                  revert Xb
                  revert da
                  revert za
                  revert Xa
                  revert cl2
                  revert nl2
                  revert Al2
                  revert co2
                  revert no2
                  revert Ao2
                  revert cf2
                  revert nf2
                  revert Af2
                  revert e2
                  revert m2
                  revert C2
                  revert e1
                  revert m1
                  revert C1
                  revert pb
                  revert nb
                  revert W2
                  exact k5_6_13_14.down
                · refine alloc_step rfl 50 rfl _ rt_zero ?_
                  intro W2 rW bW zW
                  have hsz := hB.size
                  generalize hq : W.heap.size = tb at rW bW zW ⊢
                  have hRs := hR.weak (Q := (fun y => ((P y ∧ y < wx.heap.size) ∨ wx.heap.size ≤ y) ∧ y ≠ nb ∧ y ≠ tb)) (fun y hy p => ⟨p.1, by have := hq; omega⟩)
                  clear hR
                  have hR := hRs
                  clear hRs
                  have hQs := hQ.weak (Q := (fun y => wx.heap.size ≤ y ∧ y ≠ nb ∧ y ≠ tb)) (fun y hy p => by have := hq; omega)
                  clear hQ
                  have hQ := hQs
                  clear hQs
                  have ht0 : wx.heap.size ≤ tb := by omega
                  have hB2 := below_on hB (show Below W.heap.size W W2 from by rw [hq]; exact bW)
                  have hS2 := HBS13.out _ hB2
                  have hn2 := hn.below (show Below W.heap.size W W2 from by rw [hq]; exact bW)
                  have hR2 := hR.below (show Below W.heap.size W W2 from by rw [hq]; exact bW)
                  have hQ2 := hQ.below (show Below W.heap.size W W2 from by rw [hq]; exact bW)
                  clear hB hS hn hR hQ
                  have hB := hB2
                  have hS := hS2
                  have hn := hn2
                  have hR := hR2
                  have hQ := hQ2
                  clear hB2 hS2 hn2 hR2 hQ2
                  have ht := rW
                  clear rW bW zW hsz hq
                  refine hK.out _ _ hS (fun hSx => ?_)
                  clear hK K
                  try simp only [Act.put, List.setIfInBounds_toArray, List.set_cons_zero, List.set_cons_succ]
                  clear hSx
                  revert hQ
                  revert hR
                  revert ht0
                  revert ht
                  revert hn0
                  revert hn
                  revert hS
                  revert hB
                  revert dc
                  revert zc
                  revert Xc
                  revert db
                  revert zb
                  revert Xb
                  revert da
                  revert za
                  revert Xa
                  revert cl2
                  revert nl2
                  revert Al2
                  revert co2
                  revert no2
                  revert Ao2
                  revert cf2
                  revert nf2
                  revert Af2
                  revert e2
                  revert m2
                  revert C2
                  revert e1
                  revert m1
                  revert C1
                  revert tb
                  revert nb
                  revert W2
                  exact k5_6_13_15.down
              case lk5_6_14 =>
               as_aux_lemma =>
                intro W pb C1 m1 e1 C2 m2 e2 Af2 nf2 cf2 Ao2 no2 co2 Al2 nl2 cl2 Xa za da Xb zb db Xc zc dc hB hS hp hp0 hR hQ
                refine wpAnyH_ready (rs := [13, 15]) (by kernel_rfl) (by simp) ?_
                refine AllReadyH.cons (o := ⟨some 12, .alloc 35, 0, "law.go:116", #[], none⟩) rfl (fun K hK => ?_) (AllReadyH.cons (o := ⟨some 14, .alloc 50, 0, "law.go:116", #[], none⟩) rfl (fun K hK => ?_) AllReadyH.nil)
                · refine alloc_step rfl 35 rfl _ rv_zero ?_
                  intro W2 rW bW zW
                  have hsz := hB.size
                  generalize hq : W.heap.size = nb at rW bW zW ⊢
                  have hRs := hR.weak (Q := (fun y => ((P y ∧ y < wx.heap.size) ∨ wx.heap.size ≤ y) ∧ y ≠ nb ∧ y ≠ pb)) (fun y hy p => ⟨p.1, by have := hq; omega⟩)
                  clear hR
                  have hR := hRs
                  clear hRs
                  have hQs := hQ.weak (Q := (fun y => wx.heap.size ≤ y ∧ y ≠ nb ∧ y ≠ pb)) (fun y hy p => by have := hq; omega)
                  clear hQ
                  have hQ := hQs
                  clear hQs
                  have hn0 : wx.heap.size ≤ nb := by omega
                  have hB2 := below_on hB (show Below W.heap.size W W2 from by rw [hq]; exact bW)
                  have hS2 := HBS13.out _ hB2
                  have hp2 := hp.below (show Below W.heap.size W W2 from by rw [hq]; exact bW)
                  have hR2 := hR.below (show Below W.heap.size W W2 from by rw [hq]; exact bW)
                  have hQ2 := hQ.below (show Below W.heap.size W W2 from by rw [hq]; exact bW)
                  clear hB hS hp hR hQ
                  have hB := hB2
                  have hS := hS2
                  have hp := hp2
                  have hR := hR2
                  have hQ := hQ2
                  clear hB2 hS2 hp2 hR2 hQ2
                  have hn := rW
                  clear rW bW zW hsz hq
                  refine hK.out _ _ hS (fun hSx => ?_)
                  clear hK K
                  try simp only [Act.put, List.setIfInBounds_toArray, List.set_cons_zero, List.set_cons_succ]
                  clear hSx
                  revert hQ
                  revert hR
                  revert hp0
                  revert hp
                  revert hn0
                  revert hn
                  revert hS
                  revert hB
                  revert dc
                  revert zc
                  revert Xc
                  revert db
                  revert zb
                  revert Xb
                  revert da
                  revert za
                  revert Xa
                  revert cl2
                  revert nl2
                  revert Al2
                  revert co2
                  revert no2
                  revert Ao2
                  revert cf2
                  revert nf2
                  revert Af2
                  revert e2
                  revert m2
                  revert C2
                  revert e1
                  revert m1
                  revert C1
                  revert pb
                  revert nb
                  revert W2
                  exact k5_6_13_14.down
                · refine alloc_step rfl 50 rfl _ rt_zero ?_
                  intro W2 rW bW zW
                  have hsz := hB.size
                  generalize hq : W.heap.size = tb at rW bW zW ⊢
                  have hRs := hR.weak (Q := (fun y => ((P y ∧ y < wx.heap.size) ∨ wx.heap.size ≤ y) ∧ y ≠ pb ∧ y ≠ tb)) (fun y hy p => ⟨p.1, by have := hq; omega⟩)
                  clear hR
                  have hR := hRs
                  clear hRs
                  have hQs := hQ.weak (Q := (fun y => wx.heap.size ≤ y ∧ y ≠ pb ∧ y ≠ tb)) (fun y hy p => by have := hq; omega)
                  clear hQ
                  have hQ := hQs
                  clear hQs
                  have ht0 : wx.heap.size ≤ tb := by omega
                  have hB2 := below_on hB (show Below W.heap.size W W2 from by rw [hq]; exact bW)
                  have hS2 := HBS13.out _ hB2
                  have hp2 := hp.below (show Below W.heap.size W W2 from by rw [hq]; exact bW)
                  have hR2 := hR.below (show Below W.heap.size W W2 from by rw [hq]; exact bW)
                  have hQ2 := hQ.below (show Below W.heap.size W W2 from by rw [hq]; exact bW)
                  clear hB hS hp hR hQ
                  have hB := hB2
                  have hS := hS2
                  have hp := hp2
                  have hR := hR2
                  have hQ := hQ2
                  clear hB2 hS2 hp2 hR2 hQ2
                  have ht := rW
                  clear rW bW zW hsz hq
                  refine hK.out _ _ hS (fun hSx => ?_)
                  clear hK K
                  try simp only [Act.put, List.setIfInBounds_toArray, List.set_cons_zero, List.set_cons_succ]
                  clear hSx
                  revert hQ
                  revert hR
                  revert ht0
                  revert ht
                  revert hp0
                  revert hp
                  revert hS
                  revert hB
                  revert dc
                  revert zc
                  revert Xc
                  revert db
                  revert zb
                  revert Xb
                  revert da
                  revert za
                  revert Xa
                  revert cl2
                  revert nl2
                  revert Al2
                  revert co2
                  revert no2
                  revert Ao2
                  revert cf2
                  revert nf2
                  revert Af2
                  revert e2
                  revert m2
                  revert C2
                  revert e1
                  revert m1
                  revert C1
                  revert tb
                  revert pb
                  revert W2
                  exact k5_6_14_15.down
              case lk5_6_15 =>
               as_aux_lemma =>
                intro W tb C1 m1 e1 C2 m2 e2 Af2 nf2 cf2 Ao2 no2 co2 Al2 nl2 cl2 Xa za da Xb zb db Xc zc dc hB hS ht ht0 hR hQ
                refine wpAnyH_ready (rs := [13, 14]) (by kernel_rfl) (by simp) ?_
                refine AllReadyH.cons (o := ⟨some 12, .alloc 35, 0, "law.go:116", #[], none⟩) rfl (fun K hK => ?_) (AllReadyH.cons (o := ⟨some 13, .alloc 48, 0, "law.go:116", #[], none⟩) rfl (fun K hK => ?_) AllReadyH.nil)
                · refine alloc_step rfl 35 rfl _ rv_zero ?_
                  intro W2 rW bW zW
                  have hsz := hB.size
                  generalize hq : W.heap.size = nb at rW bW zW ⊢
                  have hRs := hR.weak (Q := (fun y => ((P y ∧ y < wx.heap.size) ∨ wx.heap.size ≤ y) ∧ y ≠ nb ∧ y ≠ tb)) (fun y hy p => ⟨p.1, by have := hq; omega⟩)
                  clear hR
                  have hR := hRs
                  clear hRs
                  have hQs := hQ.weak (Q := (fun y => wx.heap.size ≤ y ∧ y ≠ nb ∧ y ≠ tb)) (fun y hy p => by have := hq; omega)
                  clear hQ
                  have hQ := hQs
                  clear hQs
                  have hn0 : wx.heap.size ≤ nb := by omega
                  have hB2 := below_on hB (show Below W.heap.size W W2 from by rw [hq]; exact bW)
                  have hS2 := HBS13.out _ hB2
                  have ht2 := ht.below (show Below W.heap.size W W2 from by rw [hq]; exact bW)
                  have hR2 := hR.below (show Below W.heap.size W W2 from by rw [hq]; exact bW)
                  have hQ2 := hQ.below (show Below W.heap.size W W2 from by rw [hq]; exact bW)
                  clear hB hS ht hR hQ
                  have hB := hB2
                  have hS := hS2
                  have ht := ht2
                  have hR := hR2
                  have hQ := hQ2
                  clear hB2 hS2 ht2 hR2 hQ2
                  have hn := rW
                  clear rW bW zW hsz hq
                  refine hK.out _ _ hS (fun hSx => ?_)
                  clear hK K
                  try simp only [Act.put, List.setIfInBounds_toArray, List.set_cons_zero, List.set_cons_succ]
                  clear hSx
                  revert hQ
                  revert hR
                  revert ht0
                  revert ht
                  revert hn0
                  revert hn
                  revert hS
                  revert hB
                  revert dc
                  revert zc
                  revert Xc
                  revert db
                  revert zb
                  revert Xb
                  revert da
                  revert za
                  revert Xa
                  revert cl2
                  revert nl2
                  revert Al2
                  revert co2
                  revert no2
                  revert Ao2
                  revert cf2
                  revert nf2
                  revert Af2
                  revert e2
                  revert m2
                  revert C2
                  revert e1
                  revert m1
                  revert C1
                  revert tb
                  revert nb
                  revert W2
                  exact k5_6_13_15.down
                · refine alloc_step rfl 48 rfl _ rp_zero ?_
                  intro W2 rW bW zW
                  have hsz := hB.size
                  generalize hq : W.heap.size = pb at rW bW zW ⊢
                  have hRs := hR.weak (Q := (fun y => ((P y ∧ y < wx.heap.size) ∨ wx.heap.size ≤ y) ∧ y ≠ pb ∧ y ≠ tb)) (fun y hy p => ⟨p.1, by have := hq; omega⟩)
                  clear hR
                  have hR := hRs
                  clear hRs
                  have hQs := hQ.weak (Q := (fun y => wx.heap.size ≤ y ∧ y ≠ pb ∧ y ≠ tb)) (fun y hy p => by have := hq; omega)
                  clear hQ
                  have hQ := hQs
                  clear hQs
                  have hp0 : wx.heap.size ≤ pb := by omega
                  have hB2 := below_on hB (show Below W.heap.size W W2 from by rw [hq]; exact bW)
                  have hS2 := HBS13.out _ hB2
                  have ht2 := ht.below (show Below W.heap.size W W2 from by rw [hq]; exact bW)
                  have hR2 := hR.below (show Below W.heap.size W W2 from by rw [hq]; exact bW)
                  have hQ2 := hQ.below (show Below W.heap.size W W2 from by rw [hq]; exact bW)
                  clear hB hS ht hR hQ
                  have hB := hB2
                  have hS := hS2
                  have ht := ht2
                  have hR := hR2
                  have hQ := hQ2
                  clear hB2 hS2 ht2 hR2 hQ2
                  have hp := rW
                  clear rW bW zW hsz hq
                  refine hK.out _ _ hS (fun hSx => ?_)
                  clear hK K
                  try simp only [Act.put, List.setIfInBounds_toArray, List.set_cons_zero, List.set_cons_succ]
                  clear hSx
                  revert hQ
                  revert hR
                  revert ht0
                  revert ht
                  revert hp0
                  revert hp
                  revert hS
                  revert hB
                  revert dc
                  revert zc
                  revert Xc
                  revert db
                  revert zb
                  revert Xb
                  revert da
                  revert za
                  revert Xa
                  revert cl2
                  revert nl2
                  revert Al2
                  revert co2
                  revert no2
                  revert Ao2
                  revert cf2
                  revert nf2
                  revert Af2
                  revert e2
                  revert m2
                  revert C2
                  revert e1
                  revert m1
                  revert C1
                  revert tb
                  revert pb
                  revert W2
                  exact k5_6_14_15.down
              case lk5_6_13_14 =>
               as_aux_lemma =>
                intro W nb pb C1 m1 e1 C2 m2 e2 Af2 nf2 cf2 Ao2 no2 co2 Al2 nl2 cl2 Xa za da Xb zb db Xc zc dc hB hS hn hn0 hp hp0 hR hQ
                refine wpAnyH_ready (rs := [15]) (by kernel_rfl) (by simp) ?_
                refine AllReadyH.cons (o := ⟨some 14, .alloc 50, 0, "law.go:116", #[], none⟩) rfl (fun K hK => ?_) AllReadyH.nil
                refine alloc_step rfl 50 rfl _ rt_zero ?_
                intro W2 rW bW zW
                have hsz := hB.size
                generalize hq : W.heap.size = tb at rW bW zW ⊢
                have hRs := hR.weak (Q := (fun y => ((P y ∧ y < wx.heap.size) ∨ wx.heap.size ≤ y) ∧ y ≠ nb ∧ y ≠ pb ∧ y ≠ tb)) (fun y hy p => ⟨p.1, by have := hq; omega⟩)
                clear hR
                have hR := hRs
                clear hRs
                have hQs := hQ.weak (Q := (fun y => wx.heap.size ≤ y ∧ y ≠ nb ∧ y ≠ pb ∧ y ≠ tb)) (fun y hy p => by have := hq; omega)
                clear hQ
                have hQ := hQs
                clear hQs
                have ht0 : wx.heap.size ≤ tb := by omega
                have hB2 := below_on hB (show Below W.heap.size W W2 from by rw [hq]; exact bW)
                have hS2 := HBS13.out _ hB2
                have hn2 := hn.below (show Below W.heap.size W W2 from by rw [hq]; exact bW)
                have hp2 := hp.below (show Below W.heap.size W W2 from by rw [hq]; exact bW)
                have hR2 := hR.below (show Below W.heap.size W W2 from by rw [hq]; exact bW)
                have hQ2 := hQ.below (show Below W.heap.size W W2 from by rw [hq]; exact bW)
                clear hB hS hn hp hR hQ
                have hB := hB2
                have hS := hS2
                have hn := hn2
                have hp := hp2
                have hR := hR2
                have hQ := hQ2
                clear hB2 hS2 hn2 hp2 hR2 hQ2
                have ht := rW
                clear rW bW zW hsz hq
                refine hK.out _ _ hS (fun hSx => ?_)
                clear hK K
                try simp only [Act.put, List.setIfInBounds_toArray, List.set_cons_zero, List.set_cons_succ]
                clear hSx
                revert hQ
                revert hR
                revert ht0
                revert ht
                revert hp0
                revert hp
                revert hn0
                revert hn
                revert hS
                revert hB
                revert dc
                revert zc
                revert Xc
                revert db
                revert zb
                revert Xb
                revert da
                revert za
                revert Xa
                revert cl2
                revert nl2
                revert Al2
                revert co2
                revert no2
                revert Ao2
                revert cf2
                revert nf2
                revert Af2
                revert e2
                revert m2
                revert C2
                revert e1
                revert m1
                revert C1
                revert tb
                revert pb
                revert nb
                revert W2
                exact k5_6_13_14_15.down
              case lk5_6_13_15 =>
               as_aux_lemma =>
                intro W nb tb C1 m1 e1 C2 m2 e2 Af2 nf2 cf2 Ao2 no2 co2 Al2 nl2 cl2 Xa za da Xb zb db Xc zc dc hB hS hn hn0 ht ht0 hR hQ
                refine wpAnyH_ready (rs := [14]) (by kernel_rfl) (by simp) ?_
                refine AllReadyH.cons (o := ⟨some 13, .alloc 48, 0, "law.go:116", #[], none⟩) rfl (fun K hK => ?_) AllReadyH.nil
                refine alloc_step rfl 48 rfl _ rp_zero ?_
                intro W2 rW bW zW
                have hsz := hB.size
                generalize hq : W.heap.size = pb at rW bW zW ⊢
                have hRs := hR.weak (Q := (fun y => ((P y ∧ y < wx.heap.size) ∨ wx.heap.size ≤ y) ∧ y ≠ nb ∧ y ≠ pb ∧ y ≠ tb)) (fun y hy p => ⟨p.1, by have := hq; omega⟩)
                clear hR
                have hR := hRs
                clear hRs
                have hQs := hQ.weak (Q := (fun y => wx.heap.size ≤ y ∧ y ≠ nb ∧ y ≠ pb ∧ y ≠ tb)) (fun y hy p => by have := hq; omega)
                clear hQ
                have hQ := hQs
                clear hQs
                have hp0 : wx.heap.size ≤ pb := by omega
                have hB2 := below_on hB (show Below W.heap.size W W2 from by rw [hq]; exact bW)
                have hS2 := HBS13.out _ hB2
                have hn2 := hn.below (show Below W.heap.size W W2 from by rw [hq]; exact bW)
                have ht2 := ht.below (show Below W.heap.size W W2 from by rw [hq]; exact bW)
                have hR2 := hR.below (show Below W.heap.size W W2 from by rw [hq]; exact bW)
                have hQ2 := hQ.below (show Below W.heap.size W W2 from by rw [hq]; exact bW)
                clear hB hS hn ht hR hQ
                have hB := hB2
                have hS := hS2
                have hn := hn2
                have ht := ht2
                have hR := hR2
                have hQ := hQ2
                clear hB2 hS2 hn2 ht2 hR2 hQ2
                have hp := rW
                clear rW bW zW hsz hq
                refine hK.out _ _ hS (fun hSx => ?_)
                clear hK K
                try simp only [Act.put, List.setIfInBounds_toArray, List.set_cons_zero, List.set_cons_succ]
                clear hSx
                revert hQ
                revert hR
                revert ht0
                revert ht
                revert hp0
                revert hp
                revert hn0
                revert hn
                revert hS
                revert hB
                revert dc
                revert zc
                revert Xc
                revert db
                revert zb
                revert Xb
                revert da
                revert za
                revert Xa
                revert cl2
                revert nl2
                revert Al2
                revert co2
                revert no2
                revert Ao2
                revert cf2
                revert nf2
                revert Af2
                revert e2
                revert m2
                revert C2
                revert e1
                revert m1
                revert C1
                revert tb
                revert pb
                revert nb
                revert W2
                exact k5_6_13_14_15.down
              case lk5_6_14_15 =>
               as_aux_lemma =>
                intro W pb tb C1 m1 e1 C2 m2 e2 Af2 nf2 cf2 Ao2 no2 co2 Al2 nl2 cl2 Xa za da Xb zb db Xc zc dc hB hS hp hp0 ht ht0 hR hQ
                refine wpAnyH_ready (rs := [13]) (by kernel_rfl) (by simp) ?_
                refine AllReadyH.cons (o := ⟨some 12, .alloc 35, 0, "law.go:116", #[], none⟩) rfl (fun K hK => ?_) AllReadyH.nil
                refine alloc_step rfl 35 rfl _ rv_zero ?_
                intro W2 rW bW zW
                have hsz := hB.size
                generalize hq : W.heap.size = nb at rW bW zW ⊢
                have hRs := hR.weak (Q := (fun y => ((P y ∧ y < wx.heap.size) ∨ wx.heap.size ≤ y) ∧ y ≠ nb ∧ y ≠ pb ∧ y ≠ tb)) (fun y hy p => ⟨p.1, by have := hq; omega⟩)
                clear hR
                have hR := hRs
                clear hRs
                have hQs := hQ.weak (Q := (fun y => wx.heap.size ≤ y ∧ y ≠ nb ∧ y ≠ pb ∧ y ≠ tb)) (fun y hy p => by have := hq; omega)
                clear hQ
                have hQ := hQs
                clear hQs
                have hn0 : wx.heap.size ≤ nb := by omega
                have hB2 := below_on hB (show Below W.heap.size W W2 from by rw [hq]; exact bW)
                have hS2 := HBS13.out _ hB2
                have hp2 := hp.below (show Below W.heap.size W W2 from by rw [hq]; exact bW)
                have ht2 := ht.below (show Below W.heap.size W W2 from by rw [hq]; exact bW)
                have hR2 := hR.below (show Below W.heap.size W W2 from by rw [hq]; exact bW)
                have hQ2 := hQ.below (show Below W.heap.size W W2 from by rw [hq]; exact bW)
                clear hB hS hp ht hR hQ
                have hB := hB2
                have hS := hS2
                have hp := hp2
                have ht := ht2
                have hR := hR2
                have hQ := hQ2
                clear hB2 hS2 hp2 ht2 hR2 hQ2
                have hn := rW
                clear rW bW zW hsz hq
                refine hK.out _ _ hS (fun hSx => ?_)
                clear hK K
                try simp only [Act.put, List.setIfInBounds_toArray, List.set_cons_zero, List.set_cons_succ]
                clear hSx
                revert hQ
                revert hR
                revert ht0
                revert ht
                revert hp0
                revert hp
                revert hn0
                revert hn
                revert hS
                revert hB
                revert dc
                revert zc
                revert Xc
                revert db
                revert zb
                revert Xb
                revert da
                revert za
                revert Xa
                revert cl2
                revert nl2
                revert Al2
                revert co2
                revert no2
                revert Ao2
                revert cf2
                revert nf2
                revert Af2
                revert e2
                revert m2
                revert C2
                revert e1
                revert m1
                revert C1
                revert tb
                revert pb
                revert nb
                revert W2
                exact k5_6_13_14_15.down
              as_aux_lemma =>
               intro W nb pb tb C1 m1 e1 C2 m2 e2 Af2 nf2 cf2 Ao2 no2 co2 Al2 nl2 cl2 Xa za da Xb zb db Xc zc dc hB hS hn hn0 hp hp0 ht ht0 hR hQ
               refine wpAnyH_ready (rs := [16]) (by kernel_rfl) (by simp) ?_
               refine AllReadyH.cons (o := ⟨none, .store 35 (.tmp 12) (.tmp 91), 0, "law.go:116", #[⟨13, .data⟩, ⟨8, .data⟩, ⟨6, .chain⟩, ⟨0, .phase⟩, ⟨1, .phase⟩, ⟨2, .phase⟩, ⟨3, .phase⟩, ⟨4, .phase⟩, ⟨5, .phase⟩, ⟨6, .phase⟩, ⟨7, .phase⟩, ⟨8, .phase⟩, ⟨9, .textOnly .lateStores⟩, ⟨10, .textOnly .lateStores⟩, ⟨11, .textOnly .lateStores⟩, ⟨12, .textOnly .lateStores⟩, ⟨13, .phase⟩, ⟨14, .phase⟩, ⟨15, .phase⟩], none⟩) rfl (fun K hK => ?_) AllReadyH.nil
               have hne1 := Row.ne hn hp (by decide)
               have hne2 := Row.ne hn ht (by decide)
               have hne3 := Row.ne hp ht (by decide)
               refine storeRow_step rfl 35 (.tmp 12) (.tmp 91) rfl nb rfl (rvC R2 (.slice Af2 nf2 cf2) (.slice Ao2 no2 co2) (.slice Al2 nl2 cl2)) rfl (HS4.out _ _ _ _) 35 rvZ hn rfl (rv_one _) ?_
               intro wS rwS owS zwS
               have hBwS := Only.below hB owS hB.size (fun y hy e => by omega)
               have hSwS := HBS13.out _ hBwS
               have hRwS := hR.only owS (fun y e p => by omega)
               have hQwS := hQ.only owS (fun y e p => by omega)
               have hpwS := hp.only owS (fun e => hne1 e.symm)
               have htwS := ht.only owS (fun e => hne2 e.symm)
               clear hB hS hR hQ hp ht hn
               have hB := hBwS
               have hS := hSwS
               have hR := hRwS
               have hQ := hQwS
               have hp := hpwS
               have ht := htwS
               have hn := rwS
               clear hBwS hSwS hRwS hQwS hpwS htwS rwS owS zwS
               refine hK.out _ _ hS (fun hSx => ?_)
               clear hK K
               try simp only [Act.put]
               refine wpAnyH_ready (rs := [17]) (by kernel_rfl) (by simp) ?_
               refine AllReadyH.cons (o := ⟨none, .store 48 (.tmp 13) (.tmp 92), 0, "law.go:116", #[⟨14, .data⟩, ⟨9, .data⟩, ⟨16, .chain⟩, ⟨0, .phase⟩, ⟨1, .phase⟩, ⟨2, .phase⟩, ⟨3, .phase⟩, ⟨4, .phase⟩, ⟨5, .phase⟩, ⟨6, .phase⟩, ⟨7, .phase⟩, ⟨8, .phase⟩, ⟨9, .phase⟩, ⟨10, .textOnly .lateStores⟩, ⟨11, .textOnly .lateStores⟩, ⟨12, .textOnly .lateStores⟩, ⟨13, .phase⟩, ⟨14, .phase⟩, ⟨15, .phase⟩, ⟨16, .phase⟩], none⟩) rfl (fun K hK => ?_) AllReadyH.nil
               refine storeRow_step rfl 48 (.tmp 13) (.tmp 92) rfl pb rfl ([.slice Xa za da, .slice Xb zb db, .slice Xc zc dc]) rfl (rp_size.trans (congrArg some rfl)) 48 plZ hp rfl rp_one ?_
               intro wT rwT owT zwT
               have hBwT := Only.below hB owT hB.size (fun y hy e => by omega)
               have hSwT := HBS13.out _ hBwT
               have hRwT := hR.only owT (fun y e p => by omega)
               have hQwT := hQ.only owT (fun y e p => by omega)
               have hnwT := hn.only owT (fun e => hne1 e)
               have htwT := ht.only owT (fun e => hne3 e.symm)
               clear hB hS hR hQ hn ht hp
               have hB := hBwT
               have hS := hSwT
               have hR := hRwT
               have hQ := hQwT
               have hn := hnwT
               have ht := htwT
               have hp := rwT
               clear hBwT hSwT hRwT hQwT hnwT htwT rwT owT zwT
               refine hK.out _ _ hS (fun hSx => ?_)
               clear hK K
               try simp only [Act.put]
               refine wpAnyH_ready (rs := [18]) (by kernel_rfl) (by simp) ?_
               refine AllReadyH.cons (o := ⟨none, .store 50 (.tmp 14) (.tmp 93), 0, "law.go:116", #[⟨15, .data⟩, ⟨10, .data⟩, ⟨17, .chain⟩, ⟨0, .phase⟩, ⟨1, .phase⟩, ⟨2, .phase⟩, ⟨3, .phase⟩, ⟨4, .phase⟩, ⟨5, .phase⟩, ⟨6, .phase⟩, ⟨7, .phase⟩, ⟨8, .phase⟩, ⟨9, .phase⟩, ⟨10, .phase⟩, ⟨11, .textOnly .lateStores⟩, ⟨12, .textOnly .lateStores⟩, ⟨13, .phase⟩, ⟨14, .phase⟩, ⟨15, .phase⟩, ⟨16, .phase⟩, ⟨17, .phase⟩], none⟩) rfl (fun K hK => ?_) AllReadyH.nil
               refine storeRow_step rfl 50 (.tmp 14) (.tmp 93) rfl tb rfl (tcC xX.1 xX.2.1 xX.2.2) rfl (rt_size.trans (congrArg some rfl)) 50 (tcC 0 0 0) ht rfl (rt_one _ _ _) ?_
               intro wU rwU owU zwU
               have hBwU := Only.below hB owU hB.size (fun y hy e => by omega)
               have hSwU := HBS13.out _ hBwU
               have hRwU := hR.only owU (fun y e p => by omega)
               have hQwU := hQ.only owU (fun y e p => by omega)
               have hnwU := hn.only owU (fun e => hne2 e)
               have hpwU := hp.only owU (fun e => hne3 e)
               clear hB hS hR hQ hn hp ht
               have hB := hBwU
               have hS := hSwU
               have hR := hRwU
               have hQ := hQwU
               have hn := hnwU
               have hp := hpwU
               have ht := rwU
               clear hBwU hSwU hRwU hQwU hnwU hpwU rwU owU zwU
               refine hK.out _ _ hS (fun hSx => ?_)
               clear hK K
               try simp only [Act.put]
               refine' wpAnyH_take (i := 19) (oi := ⟨some 15, .assign (.tmp 94), 4, "law.go:116", #[⟨11, .data⟩, ⟨18, .chain⟩, ⟨0, .phase⟩, ⟨1, .phase⟩, ⟨2, .phase⟩, ⟨3, .phase⟩, ⟨4, .phase⟩, ⟨5, .phase⟩, ⟨6, .phase⟩, ⟨7, .phase⟩, ⟨8, .phase⟩, ⟨9, .phase⟩, ⟨10, .phase⟩, ⟨11, .phase⟩, ⟨12, .textOnly .lateStores⟩, ⟨13, .phase⟩, ⟨14, .phase⟩, ⟨15, .phase⟩, ⟨16, .phase⟩, ⟨17, .phase⟩, ⟨18, .phase⟩], none⟩) (v := _) rfl (by kernel_rfl) (by kernel_rfl) (by kernel_rfl) (fun _ _ _ h => h) (Or.inl ⟨by rfl, ?hy242⟩) (by assumption) ?rest242
               case hy242 => (intro w hSw; (try dsimp only at hSw); go_simp; try with_reducible rfl)
               try simp only [Act.put, List.setIfInBounds_toArray, List.set_cons_zero, List.set_cons_succ]
               refine' wpAnyH_take (i := 20) (oi := ⟨some 16, .assign (.tmp 95), 3, "law.go:116", #[⟨12, .data⟩, ⟨19, .chain⟩, ⟨0, .phase⟩, ⟨1, .phase⟩, ⟨2, .phase⟩, ⟨3, .phase⟩, ⟨4, .phase⟩, ⟨5, .phase⟩, ⟨6, .phase⟩, ⟨7, .phase⟩, ⟨8, .phase⟩, ⟨9, .phase⟩, ⟨10, .phase⟩, ⟨11, .phase⟩, ⟨12, .phase⟩, ⟨13, .phase⟩, ⟨14, .phase⟩, ⟨15, .phase⟩, ⟨16, .phase⟩, ⟨17, .phase⟩, ⟨18, .phase⟩, ⟨19, .phase⟩], none⟩) (v := _) rfl (by kernel_rfl) (by kernel_rfl) (by kernel_rfl) (fun _ _ _ h => h) (Or.inl ⟨by rfl, ?hy243⟩) (by assumption) ?rest243
               case hy243 => (intro w hSw; (try dsimp only at hSw); go_simp; try with_reducible rfl)
               try simp only [Act.put, List.setIfInBounds_toArray, List.set_cons_zero, List.set_cons_succ]
               refine wpAnyH_done (by kernel_rfl) ?_ _
               clear hSx
               go_wp2_with (first
                 | (with_reducible refine loadRow_walk rfl 35 (.tmp 12) rfl nb rfl (rvC R2 (.slice Af2 nf2 cf2) (.slice Ao2 no2 co2) (.slice Al2 nl2 cl2)) rv_struct (HS4.out _ _ _ _) 35 hn ?_)
                 | ((with_reducible refine storeRow_walk rfl 35 (.tmp 6) (.tmp 96) rfl rb rfl (rvC R2 (.slice Af2 nf2 cf2) (.slice Ao2 no2 co2) (.slice Al2 nl2 cl2)) rfl (HS4.out _ _ _ _) 35 _ hS.1 rfl (rv_one _) ?_); intro wM rM oM zM; have LM := Lib.hid (LX.out.refer hB (hR.weak (fun y hy p => by rcases p.1 with q | q; exact .inl q.1; exact .inr q)) rM oM); have HPM := Lib.hid (hp.only oM (fun e => by have := LX.out.ref.lt; omega)); have HTM := Lib.hid (ht.only oM (fun e => by have := LX.out.ref.lt; omega)); have HQM := Lib.hid (hQ.only oM (fun y e p => by have := LX.out.ref.lt; omega)); have SM := Lib.hid (Nat.le_trans hB.size oM.size); have m0 := LM.out.lp.obj.cell 0; have m1' := LM.out.lp.obj.cell 1; simp only [List.getElem?_cons_zero, List.getElem?_cons_succ] at m0 m1'; clear rM oM zM hB hS hR hQ hn hp ht))
               refine (ofWords14_any _ _ Vw Ew (.slice A1 n1 c1) (.slice A2 n2 c2) wM LM.out.lp.wld.words LM.out.lp.wld.epochs (by have := HLN.out; omega) (by have := HLN.out; omega)).mono ?_
               rintro e w4 ⟨p, a, b, rfl, rp, ha, hpp, b4⟩
               have hab := rp.ne
               have RP := Lib.hid rp
               have B4 := Lib.hid b4
               have HAB := Lib.hid (And.intro ha (And.intro hpp hab))
               clear rp b4 ha hpp hab
               unfold ptr
               go_wp2_with fail
               refine (traced14_any p w4).mono ?_
               rintro e w5 ⟨t, rfl, rt, ht5, b5⟩
               have B5 := Lib.hid (below_on B4.out b5)
               have hpt := PtAt.mk (RP.out.below b5) rt
               have hnew : ∀ y, own14 t p a (.slice none 0 0) (.slice none 0 0) y ∨ y = b → wM.heap.size ≤ y := fun y hy => by
                 have := B4.out.size
                 have := HAB.out
                 rcases hy with hy | rfl
                 · rcases hy with rfl | rfl | rfl | hy | hy
                   · omega
                   · omega
                   · omega
                   · cases hy
                   · cases hy
                 · omega
               have S5 := Lib.hid (sys16_of LM.out.lp.gis B5.out hpt hnew)
               have KQ := Lib.hid (KPS.out w5 (wM.heap.size, t) p S5.out (LM.out.lp.below.trans (B5.out.mono LM.out.lp.below.size)))
               clear rt ht5 b5 hpt hnew RP B4 HAB KPS
               unfold ptr
               go_wp2_with fail
               refine KQ.out.mono ?_
               rintro e w6 ⟨rfl, s6, o6⟩
               obtain ⟨vf6, vo6, vl6, a6, b6, k6, v6, rg6, rpt6, hd6, hu6, hw6⟩ := id s6
               have KTC := Lib.hid (touches14_any w6 rpt6.trace (by rcases HONE.out with h | h <;> rw [h.1] <;> simp))
               have PL6 := Lib.hid rpt6.plain
               have S6 := Lib.hid s6
               have O6 := Lib.hid o6
               have M6 := Lib.hid (And.intro B5.out.size o6.size)
               have HP6 := Lib.hid ((HPM.out.below B5.out).only o6 (fun h => by have := HPM.out.lt; omega))
               have HT6 := Lib.hid ((HTM.out.below B5.out).only o6 (fun h => by have := HTM.out.lt; omega))
               have HQ6 := Lib.hid (((HQM.out.weak (Q := fun y => wx.heap.size ≤ y ∧ y < wM.heap.size) (fun y hy p => ⟨p.1, hy⟩)).below B5.out).only o6 (fun y e q => by omega))
               have HOB6 := Lib.hid ((LM.out.lp.obj.below B5.out).only o6 (fun h => by
                 rcases h with h | h
                 · exact (LM.out.lp.hU _ h).2 rfl
                 · have := LM.out.lp.obj.lt; omega))
               clear s6 o6 rg6 rpt6 hd6 hu6 hw6 KQ HPM HTM HQM
               go_wp2_with fail
               refine KTC.out.mono ?_
               rintro e w7 ⟨v7, rfl, own7, b7⟩
               have HIF := Lib.hid (fun w9 wE A9 c9 (b9 : Below w7.heap.size w7 w9) (o9 : w9.ownsRow w7.heap.size 3 1 (.slice A9 N c9) N (ints sV)) (oE : Only (· = ob) w9 wE) (rE : Row wE ob 38 [.slice A9 N c9, .slice A2 n2 c2, .int .i64 B]) => (⟨_, _, _, _, _, _, _, _, _, _, _, _, _, _, _, _, _, _, _, _, _, HOKG.out, HSMG.out, HVL.out, HLN.out.2, HRL2.out, LM.out.port B5.out S6.out O6.out (below_on b7 b9) (own_rebase16 o9 b7.size) oE rE⟩ : Inv16s w wE g ob rb bs B G0 N))
               have KWD := Lib.hid (fun W (hb : Below w7.heap.size w7 W) => words14_any W (PL6.out.below (below_on b7 hb)))
               rw [HVL.out] at KWD
               have hQ7 := HQ6.out.below b7
               have KSM := Lib.hid (fun W (v : Value) (hb : Below w7.heap.size w7 W) {Q : Nat → Prop} (hv : Lies W Q v (ints sV)) => rsame_yes Q _ v (.slice Xa za da) sV W hv (hQ7.words.below hb) (by rw [HVL.out]; omega))
               have HP7 := Lib.hid (HP6.out.below b7)
               have HT7 := Lib.hid (HT6.out.below b7)
               have HOB := Lib.hid (HOB6.out.below b7)
               clear hQ7
               rcases HONE.out with ⟨hT0, hX0⟩ | ⟨hT1, hX1⟩
               · rw [hT0] at own7
                 obtain ⟨A7, c7, rfl⟩ := own_open14 own7
                 subst hX0
                 have HBS19 : Hid (∀ W, Below w7.heap.size w7 W → W.cell? ⟨pb, 0, none⟩ = some (.slice Xa za da) ∧ W.cell? ⟨tb, 0, none⟩ = some (.int .i64 0) ∧ W.cell? ⟨tb, 1, none⟩ = some (.int .i64 0) ∧ W.cell? ⟨tb, 2, none⟩ = some (.int .i64 0)) := Lib.hid (fun W hb => ⟨(HP7.out.below hb).cell 0, (HT7.out.below hb).cell 0, (HT7.out.below hb).cell 1, (HT7.out.below hb).cell 2⟩)
                 clear own7 b7 hT0 LX BX RX HOK HSM HLN HRL HAG LM HOKG HSMG HVL S6 O6 M6 HP6 HT6 HQ6 HOB6 KTC PL6 HP7 HT7 HBS13 KOF KST HRL2 SM S5
                 as_aux_lemma =>
                  go_wp2
                  have hbQ : Below w7.heap.size w7 w7.drew := (Below.refl _ _).drew
                  have hSQ := HBS19.out _ hbQ
                  refine wp_region_held_drew (S := fun W => W.cell? ⟨pb, 0, none⟩ = some (.slice Xa za da) ∧ W.cell? ⟨tb, 0, none⟩ = some (.int .i64 0) ∧ W.cell? ⟨tb, 1, none⟩ = some (.int .i64 0) ∧ W.cell? ⟨tb, 2, none⟩ = some (.int .i64 0)) (by kernel_rfl) hSQ (fun hHeld => ?_)
                  refine' wpAnyH_take (i := 0) (oi := ⟨some 114, .move (.tmp 19), 4, "law.go:122", #[], none⟩) (v := _) rfl (by kernel_rfl) (by kernel_rfl) (by kernel_rfl) (fun _ _ _ h => h) (Or.inl ⟨by rfl, ?hy54⟩) (by assumption) ?rest54
                  case hy54 => (intro w hSw; (try dsimp only at hSw); go_simp; try with_reducible rfl)
                  try simp only [Act.put, List.setIfInBounds_toArray, List.set_cons_zero, List.set_cons_succ]
                  refine' wpAnyH_take (i := 1) (oi := ⟨some 115, .move (.tmp 15), 4, "law.go:122", #[], none⟩) (v := _) rfl (by kernel_rfl) (by kernel_rfl) (by kernel_rfl) (fun _ _ _ h => h) (Or.inl ⟨by rfl, ?hy55⟩) (by assumption) ?rest55
                  case hy55 => (intro w hSw; (try dsimp only at hSw); go_simp; try with_reducible rfl)
                  try simp only [Act.put, List.setIfInBounds_toArray, List.set_cons_zero, List.set_cons_succ]
                  refine' wpAnyH_take (i := 2) (oi := ⟨some 116, .binOp .neq 4 (.tmp 114) (.tmp 115) 4, 4, "law.go:122", #[⟨0, .data⟩, ⟨1, .data⟩], none⟩) (v := _) rfl (by kernel_rfl) (by kernel_rfl) (by kernel_rfl) (fun _ _ _ h => h) (Or.inl ⟨by rfl, ?hy56⟩) (by assumption) ?rest56
                  case hy56 => (intro w hSw; (try dsimp only at hSw); go_simp; try with_reducible rfl)
                  try simp only [Act.put, List.setIfInBounds_toArray, List.set_cons_zero, List.set_cons_succ]
                  refine' wpAnyH_take (i := 3) (oi := ⟨some 117, .move (.tmp 116), 4, "law.go:122", #[⟨2, .data⟩], none⟩) (v := _) rfl (by kernel_rfl) (by kernel_rfl) (by kernel_rfl) (fun _ _ _ h => h) (Or.inl ⟨by rfl, ?hy57⟩) (by assumption) ?rest57
                  case hy57 => (intro w hSw; (try dsimp only at hSw); go_simp; try with_reducible rfl)
                  try simp only [Act.put, List.setIfInBounds_toArray, List.set_cons_zero, List.set_cons_succ]
                  refine' wpAnyH_take (i := 4) (oi := ⟨some 118, .move (.tmp 20), 44, "law.go:122", #[⟨3, .guard⟩], some (3, false)⟩) (v := _) rfl (by kernel_rfl) (by kernel_rfl) (by kernel_rfl) (fun _ _ _ h => h) (Or.inl ⟨by rfl, ?hy58⟩) (by assumption) ?rest58
                  case hy58 => (intro w hSw; (try dsimp only at hSw); go_simp; try with_reducible rfl)
                  try simp only [Act.put, List.setIfInBounds_toArray, List.set_cons_zero, List.set_cons_succ]
                  refine' wpAnyH_take (i := 5) (oi := ⟨some 119, .move (.tmp 16), 3, "law.go:122", #[⟨3, .guard⟩], some (3, false)⟩) (v := _) rfl (by kernel_rfl) (by kernel_rfl) (by kernel_rfl) (fun _ _ _ h => h) (Or.inl ⟨by rfl, ?hy59⟩) (by assumption) ?rest59
                  case hy59 => (intro w hSw; (try dsimp only at hSw); go_simp; try with_reducible rfl)
                  try simp only [Act.put, List.setIfInBounds_toArray, List.set_cons_zero, List.set_cons_succ]
                  refine' wpAnyH_take (i := 6) (oi := ⟨some 120, .binOp .neq 3 (.tmp 118) (.tmp 119) 3, 4, "law.go:122", #[⟨4, .data⟩, ⟨5, .data⟩, ⟨3, .guard⟩], some (3, false)⟩) (v := _) rfl (by kernel_rfl) (by kernel_rfl) (by kernel_rfl) (fun _ _ _ h => h) (Or.inl ⟨by rfl, ?hy60⟩) (by assumption) ?rest60
                  case hy60 => (intro w hSw; (try dsimp only at hSw); go_simp; try with_reducible rfl)
                  try simp only [Act.put, List.setIfInBounds_toArray, List.set_cons_zero, List.set_cons_succ]
                  refine' wpAnyH_take (i := 7) (oi := ⟨some 121, .pick (.tmp 117) (.const (.bool true)) (.tmp 120), 4, "law.go:122", #[⟨3, .data⟩, ⟨6, .data⟩], none⟩) (v := _) rfl (by kernel_rfl) (by kernel_rfl) (by kernel_rfl) (fun _ _ _ h => h) (Or.inl ⟨by rfl, ?hy61⟩) (by assumption) ?rest61
                  case hy61 => (intro w hSw; (try dsimp only at hSw); go_simp; try with_reducible rfl)
                  try simp only [Act.put, List.setIfInBounds_toArray, List.set_cons_zero, List.set_cons_succ]
                  refine' wpAnyH_take (i := 8) (oi := ⟨some 122, .move (.tmp 121), 4, "law.go:122", #[⟨7, .data⟩, ⟨3, .chain⟩], none⟩) (v := _) rfl (by kernel_rfl) (by kernel_rfl) (by kernel_rfl) (fun _ _ _ h => h) (Or.inl ⟨by rfl, ?hy62⟩) (by assumption) ?rest62
                  case hy62 => (intro w hSw; (try dsimp only at hSw); go_simp; try with_reducible rfl)
                  try simp only [Act.put, List.setIfInBounds_toArray, List.set_cons_zero, List.set_cons_succ]
                  refine' wpAnyH_take (i := 9) (oi := ⟨some 123, .move (.tmp 17), 54, "law.go:122", #[⟨8, .guard⟩], some (8, false)⟩) (v := _) rfl (by kernel_rfl) (by kernel_rfl) (by kernel_rfl) (fun _ _ _ h => h) (Or.inl ⟨by rfl, ?hy63⟩) (by assumption) ?rest63
                  case hy63 => (intro w hSw; (try dsimp only at hSw); go_simp; try with_reducible rfl)
                  try simp only [Act.put, List.setIfInBounds_toArray, List.set_cons_zero, List.set_cons_succ]
                  refine' wpAnyH_take (i := 11) (oi := ⟨some 125, .fieldAddr 48 (.tmp 13) 0, 0, "law.go:122", #[⟨8, .guard⟩], some (8, false)⟩) (v := _) rfl (by kernel_rfl) (by kernel_rfl) (by kernel_rfl) (fun _ _ _ h => h) (Or.inl ⟨by rfl, ?hy65⟩) (by assumption) ?rest65
                  case hy65 => (intro w hSw; (try dsimp only at hSw); go_simp; try with_reducible rfl)
                  try simp only [Act.put, List.setIfInBounds_toArray, List.set_cons_zero, List.set_cons_succ]
                  refine' wpAnyH_take (i := 12) (oi := ⟨some 126, .load 33 (.tmp 125), 33, "law.go:122", #[⟨11, .data⟩, ⟨8, .guard⟩], some (8, false)⟩) (v := _) rfl (by kernel_rfl) (by kernel_rfl) (by kernel_rfl) (fun _ _ _ h => h) (Or.inl ⟨by rfl, ?hy67⟩) (by assumption) ?rest67
                  case hy67 => (intro w hSw; (try dsimp only at hSw); go_simp; try with_reducible rfl)
                  try simp only [Act.put, List.setIfInBounds_toArray, List.set_cons_zero, List.set_cons_succ]
                  refine wpAnyH_ready (rs := [10]) (by kernel_rfl) (by simp) ?_
                  refine AllReadyH.cons (o := ⟨some 124, .call { callee := .value (.func 21), args := #[.tmp 123], argTypes := #[54] }, 33, "law.go:122", #[⟨9, .data⟩, ⟨8, .chain⟩, ⟨8, .guard⟩], some (8, false)⟩) rfl (fun K hK => ?_) AllReadyH.nil
                  go_simp
                  go_at_call 21
                  refine (KWD.out _ hbQ).mono ?_
                  rintro e wA ⟨vA, rfl, oA, bA⟩
                  obtain ⟨AA, cA, rfl⟩ := own_open14 oA
                  have hbN := below_on hbQ bA
                  clear hbQ
                  have hbQ := hbN
                  clear hbN
                  have hSQ := HBS19.out _ hbQ
                  go_wp2_with fail
                  refine hK.out _ _ hSQ (fun hSx => ?_)
                  clear hK K
                  try simp only [Act.put, List.setIfInBounds_toArray, List.set_cons_zero, List.set_cons_succ]
                  refine wpAnyH_ready (rs := [13]) (by kernel_rfl) (by simp) ?_
                  refine AllReadyH.cons (o := ⟨some 127, .call { callee := .value (.func 20), args := #[.tmp 124, .tmp 126], argTypes := #[33, 33] }, 4, "law.go:122", #[⟨10, .data⟩, ⟨12, .data⟩, ⟨10, .chain⟩, ⟨8, .guard⟩], some (8, false)⟩) rfl (fun K hK => ?_) AllReadyH.nil
                  go_simp
                  go_at_call 20
                  refine (KSM.out _ _ hbQ (Lies.of_own oA)).mono ?_
                  rintro e wC ⟨rfl, bC⟩
                  have hbN := below_on hbQ bC
                  clear hbQ
                  have hbQ := hbN
                  clear hbN
                  have hSQ := HBS19.out _ hbQ
                  go_wp2_with fail
                  refine hK.out _ _ hSQ (fun hSx => ?_)
                  clear hK K
                  try simp only [Act.put, List.setIfInBounds_toArray, List.set_cons_zero, List.set_cons_succ]
                  refine' wpAnyH_take (i := 14) (oi := ⟨some 128, .unOp .not 4 (.tmp 127), 4, "law.go:122", #[⟨13, .data⟩, ⟨8, .guard⟩], some (8, false)⟩) (v := _) rfl (by kernel_rfl) (by kernel_rfl) (by kernel_rfl) (fun _ _ _ h => h) (Or.inl ⟨by rfl, ?hy70⟩) (by assumption) ?rest70
                  case hy70 => (intro w hSw; (try dsimp only at hSw); go_simp; try with_reducible rfl)
                  try simp only [Act.put, List.setIfInBounds_toArray, List.set_cons_zero, List.set_cons_succ]
                  refine' wpAnyH_take (i := 15) (oi := ⟨some 129, .pick (.tmp 122) (.const (.bool true)) (.tmp 128), 4, "law.go:122", #[⟨8, .data⟩, ⟨14, .data⟩], none⟩) (v := _) rfl (by kernel_rfl) (by kernel_rfl) (by kernel_rfl) (fun _ _ _ h => h) (Or.inl ⟨by rfl, ?hy71⟩) (by assumption) ?rest71
                  case hy71 => (intro w hSw; (try dsimp only at hSw); go_simp; try with_reducible rfl)
                  try simp only [Act.put, List.setIfInBounds_toArray, List.set_cons_zero, List.set_cons_succ]
                  refine' wpAnyH_take (i := 16) (oi := ⟨some 130, .move (.tmp 129), 4, "law.go:122", #[⟨15, .data⟩, ⟨13, .chain⟩], none⟩) (v := _) rfl (by kernel_rfl) (by kernel_rfl) (by kernel_rfl) (fun _ _ _ h => h) (Or.inl ⟨by rfl, ?hy72⟩) (by assumption) ?rest72
                  case hy72 => (intro w hSw; (try dsimp only at hSw); go_simp; try with_reducible rfl)
                  try simp only [Act.put, List.setIfInBounds_toArray, List.set_cons_zero, List.set_cons_succ]
                  refine' wpAnyH_take (i := 17) (oi := ⟨some 131, .move (.tmp 21), 60, "law.go:122", #[⟨16, .guard⟩], some (16, false)⟩) (v := _) rfl (by kernel_rfl) (by kernel_rfl) (by kernel_rfl) (fun _ _ _ h => h) (Or.inl ⟨by rfl, ?hy73⟩) (by assumption) ?rest73
                  case hy73 => (intro w hSw; (try dsimp only at hSw); go_simp; try with_reducible rfl)
                  try simp only [Act.put, List.setIfInBounds_toArray, List.set_cons_zero, List.set_cons_succ]
                  refine' wpAnyH_take (i := 18) (oi := ⟨some 132, .call { callee := .builtin .len, args := #[.tmp 131], argTypes := #[60] }, 3, "law.go:122", #[⟨17, .data⟩, ⟨16, .guard⟩], some (16, false)⟩) (v := _) rfl (by kernel_rfl) (by kernel_rfl) (by kernel_rfl) (fun _ _ _ h => h) (Or.inl ⟨by rfl, ?hy74⟩) (by assumption) ?rest74
                  case hy74 => (intro w hSw; (try dsimp only at hSw); go_simp; try with_reducible rfl)
                  try simp only [Act.put, List.setIfInBounds_toArray, List.set_cons_zero, List.set_cons_succ]
                  refine' wpAnyH_take (i := 19) (oi := ⟨some 133, .binOp .gtr 3 (.tmp 132) (.const (.int .i64 1)) 3, 4, "law.go:122", #[⟨18, .data⟩, ⟨16, .guard⟩], some (16, false)⟩) (v := _) rfl (by kernel_rfl) (by kernel_rfl) (by kernel_rfl) (fun _ _ _ h => h) (Or.inl ⟨by rfl, ?hy75⟩) (by assumption) ?rest75
                  case hy75 => (intro w hSw; (try dsimp only at hSw); go_simp; try with_reducible rfl)
                  try simp only [Act.put, List.setIfInBounds_toArray, List.set_cons_zero, List.set_cons_succ]
                  refine' wpAnyH_take (i := 20) (oi := ⟨some 134, .pick (.tmp 130) (.const (.bool true)) (.tmp 133), 4, "law.go:122", #[⟨16, .data⟩, ⟨19, .data⟩], none⟩) (v := _) rfl (by kernel_rfl) (by kernel_rfl) (by kernel_rfl) (fun _ _ _ h => h) (Or.inl ⟨by rfl, ?hy76⟩) (by assumption) ?rest76
                  case hy76 => (intro w hSw; (try dsimp only at hSw); go_simp; try with_reducible rfl)
                  try simp only [Act.put, List.setIfInBounds_toArray, List.set_cons_zero, List.set_cons_succ]
                  refine' wpAnyH_take (i := 21) (oi := ⟨some 135, .move (.tmp 134), 4, "law.go:122", #[⟨20, .data⟩, ⟨16, .chain⟩], none⟩) (v := _) rfl (by kernel_rfl) (by kernel_rfl) (by kernel_rfl) (fun _ _ _ h => h) (Or.inl ⟨by rfl, ?hy77⟩) (by assumption) ?rest77
                  case hy77 => (intro w hSw; (try dsimp only at hSw); go_simp; try with_reducible rfl)
                  try simp only [Act.put, List.setIfInBounds_toArray, List.set_cons_zero, List.set_cons_succ]
                  refine' wpAnyH_take (i := 22) (oi := ⟨some 136, .fieldAddr 50 (.tmp 14) 0, 0, "law.go:122", #[⟨21, .guard⟩], some (21, false)⟩) (v := _) rfl (by kernel_rfl) (by kernel_rfl) (by kernel_rfl) (fun _ _ _ h => h) (Or.inl ⟨by rfl, ?hy78⟩) (by assumption) ?rest78
                  case hy78 => (intro w hSw; (try dsimp only at hSw); go_simp; try with_reducible rfl)
                  try simp only [Act.put, List.setIfInBounds_toArray, List.set_cons_zero, List.set_cons_succ]
                  refine' wpAnyH_take (i := 23) (oi := ⟨some 137, .load 3 (.tmp 136), 3, "law.go:122", #[⟨22, .data⟩, ⟨21, .guard⟩], some (21, false)⟩) (v := _) rfl (by kernel_rfl) (by kernel_rfl) (by kernel_rfl) (fun _ _ _ h => h) (Or.inl ⟨by rfl, ?hy79⟩) (by assumption) ?rest79
                  case hy79 => (intro w hSw; (try dsimp only at hSw); go_simp; try with_reducible rfl)
                  try simp only [Act.put, List.setIfInBounds_toArray, List.set_cons_zero, List.set_cons_succ]
                  refine' wpAnyH_take (i := 24) (oi := ⟨some 138, .binOp .neq 3 (.tmp 137) (.const (.int .i64 0)) 3, 4, "law.go:122", #[⟨23, .data⟩, ⟨21, .guard⟩], some (21, false)⟩) (v := _) rfl (by kernel_rfl) (by kernel_rfl) (by kernel_rfl) (fun _ _ _ h => h) (Or.inl ⟨by rfl, ?hy80⟩) (by assumption) ?rest80
                  case hy80 => (intro w hSw; (try dsimp only at hSw); go_simp; try with_reducible rfl)
                  try simp only [Act.put, List.setIfInBounds_toArray, List.set_cons_zero, List.set_cons_succ]
                  refine' wpAnyH_take (i := 25) (oi := ⟨some 139, .move (.tmp 21), 60, "law.go:122", #[⟨21, .guard⟩], some (21, false)⟩) (v := _) rfl (by kernel_rfl) (by kernel_rfl) (by kernel_rfl) (fun _ _ _ h => h) (Or.inl ⟨by rfl, ?hy81⟩) (by assumption) ?rest81
                  case hy81 => (intro w hSw; (try dsimp only at hSw); go_simp; try with_reducible rfl)
                  try simp only [Act.put, List.setIfInBounds_toArray, List.set_cons_zero, List.set_cons_succ]
                  refine' wpAnyH_take (i := 26) (oi := ⟨some 140, .call { callee := .builtin .len, args := #[.tmp 139], argTypes := #[60] }, 3, "law.go:122", #[⟨25, .data⟩, ⟨21, .guard⟩], some (21, false)⟩) (v := _) rfl (by kernel_rfl) (by kernel_rfl) (by kernel_rfl) (fun _ _ _ h => h) (Or.inl ⟨by rfl, ?hy82⟩) (by assumption) ?rest82
                  case hy82 => (intro w hSw; (try dsimp only at hSw); go_simp; try with_reducible rfl)
                  try simp only [Act.put, List.setIfInBounds_toArray, List.set_cons_zero, List.set_cons_succ]
                  refine' wpAnyH_take (i := 27) (oi := ⟨some 141, .binOp .eql 3 (.tmp 140) (.const (.int .i64 1)) 3, 4, "law.go:122", #[⟨26, .data⟩, ⟨21, .guard⟩], some (21, false)⟩) (v := _) rfl (by kernel_rfl) (by kernel_rfl) (by kernel_rfl) (fun _ _ _ h => h) (Or.inl ⟨by rfl, ?hy83⟩) (by assumption) ?rest83
                  case hy83 => (intro w hSw; (try dsimp only at hSw); go_simp; try with_reducible rfl)
                  try simp only [Act.put, List.setIfInBounds_toArray, List.set_cons_zero, List.set_cons_succ]
                  refine' wpAnyH_take (i := 28) (oi := ⟨some 142, .binOp .neq 4 (.tmp 138) (.tmp 141) 4, 4, "law.go:122", #[⟨24, .data⟩, ⟨27, .data⟩, ⟨21, .guard⟩], some (21, false)⟩) (v := _) rfl (by kernel_rfl) (by kernel_rfl) (by kernel_rfl) (fun _ _ _ h => h) (Or.inl ⟨by rfl, ?hy84⟩) (by assumption) ?rest84
                  case hy84 => (intro w hSw; (try dsimp only at hSw); go_simp; try with_reducible rfl)
                  try simp only [Act.put, List.setIfInBounds_toArray, List.set_cons_zero, List.set_cons_succ]
                  refine' wpAnyH_take (i := 29) (oi := ⟨some 143, .pick (.tmp 135) (.const (.bool true)) (.tmp 142), 4, "law.go:122", #[⟨21, .data⟩, ⟨28, .data⟩], none⟩) (v := _) rfl (by kernel_rfl) (by kernel_rfl) (by kernel_rfl) (fun _ _ _ h => h) (Or.inl ⟨by rfl, ?hy85⟩) (by assumption) ?rest85
                  case hy85 => (intro w hSw; (try dsimp only at hSw); go_simp; try with_reducible rfl)
                  try simp only [Act.put, List.setIfInBounds_toArray, List.set_cons_zero, List.set_cons_succ]
                  refine' wpAnyH_take (i := 30) (oi := ⟨some 144, .move (.tmp 143), 4, "law.go:122", #[⟨29, .data⟩, ⟨21, .chain⟩], none⟩) (v := _) rfl (by kernel_rfl) (by kernel_rfl) (by kernel_rfl) (fun _ _ _ h => h) (Or.inl ⟨by rfl, ?hy86⟩) (by assumption) ?rest86
                  case hy86 => (intro w hSw; (try dsimp only at hSw); go_simp; try with_reducible rfl)
                  try simp only [Act.put, List.setIfInBounds_toArray, List.set_cons_zero, List.set_cons_succ]
                  refine' wpAnyH_take (i := 31) (oi := ⟨some 145, .move (.tmp 21), 60, "law.go:122", #[⟨30, .guard⟩], some (30, false)⟩) (v := _) rfl (by kernel_rfl) (by kernel_rfl) (by kernel_rfl) (fun _ _ _ h => h) (Or.inl ⟨by rfl, ?hy87⟩) (by assumption) ?rest87
                  case hy87 => (intro w hSw; (try dsimp only at hSw); go_simp; try with_reducible rfl)
                  try simp only [Act.put, List.setIfInBounds_toArray, List.set_cons_zero, List.set_cons_succ]
                  refine' wpAnyH_take (i := 32) (oi := ⟨some 146, .call { callee := .builtin .len, args := #[.tmp 145], argTypes := #[60] }, 3, "law.go:122", #[⟨31, .data⟩, ⟨30, .guard⟩], some (30, false)⟩) (v := _) rfl (by kernel_rfl) (by kernel_rfl) (by kernel_rfl) (fun _ _ _ h => h) (Or.inl ⟨by rfl, ?hy88⟩) (by assumption) ?rest88
                  case hy88 => (intro w hSw; (try dsimp only at hSw); go_simp; try with_reducible rfl)
                  try simp only [Act.put, List.setIfInBounds_toArray, List.set_cons_zero, List.set_cons_succ]
                  refine' wpAnyH_take (i := 33) (oi := ⟨some 147, .binOp .eql 3 (.tmp 146) (.const (.int .i64 1)) 3, 4, "law.go:122", #[⟨32, .data⟩, ⟨30, .guard⟩], some (30, false)⟩) (v := _) rfl (by kernel_rfl) (by kernel_rfl) (by kernel_rfl) (fun _ _ _ h => h) (Or.inl ⟨by rfl, ?hy89⟩) (by assumption) ?rest89
                  case hy89 => (intro w hSw; (try dsimp only at hSw); go_simp; try with_reducible rfl)
                  try simp only [Act.put, List.setIfInBounds_toArray, List.set_cons_zero, List.set_cons_succ]
                  refine' wpAnyH_take (i := 34) (oi := ⟨some 148, .move (.tmp 147), 4, "law.go:122", #[⟨33, .data⟩, ⟨30, .chain⟩, ⟨30, .guard⟩], some (30, false)⟩) (v := _) rfl (by kernel_rfl) (by kernel_rfl) (by kernel_rfl) (fun _ _ _ h => h) (Or.inl ⟨by rfl, ?hy90⟩) (by assumption) ?rest90
                  case hy90 => (intro w hSw; (try dsimp only at hSw); go_simp; try with_reducible rfl)
                  try simp only [Act.put, List.setIfInBounds_toArray, List.set_cons_zero, List.set_cons_succ]
                  refine' wpAnyH_take (i := 35) (oi := ⟨some 149, .move (.tmp 21), 60, "law.go:122", #[⟨34, .guard⟩], some (34, true)⟩) (v := undef) rfl (by kernel_rfl) (by kernel_rfl) (by kernel_rfl) (fun _ _ _ h => h) (Or.inr ⟨by rfl, rfl⟩) (by assumption) ?rest91
                  try simp only [Act.put, List.setIfInBounds_toArray, List.set_cons_zero, List.set_cons_succ]
                  refine' wpAnyH_take (i := 36) (oi := ⟨some 150, .indexAddr 60 (.tmp 149) (.const (.int .i64 0)), 0, "law.go:122", #[⟨35, .data⟩, ⟨34, .guard⟩], some (34, true)⟩) (v := undef) rfl (by kernel_rfl) (by kernel_rfl) (by kernel_rfl) (fun _ _ _ h => h) (Or.inr ⟨by rfl, rfl⟩) (by assumption) ?rest92
                  try simp only [Act.put, List.setIfInBounds_toArray, List.set_cons_zero, List.set_cons_succ]
                  refine' wpAnyH_take (i := 37) (oi := ⟨some 151, .load 64 (.tmp 150), 64, "law.go:122", #[⟨36, .data⟩, ⟨34, .guard⟩], some (34, true)⟩) (v := undef) rfl (by kernel_rfl) (by kernel_rfl) (by kernel_rfl) (fun _ _ _ h => h) (Or.inr ⟨by rfl, rfl⟩) (by assumption) ?rest93
                  try simp only [Act.put, List.setIfInBounds_toArray, List.set_cons_zero, List.set_cons_succ]
                  refine' wpAnyH_take (i := 38) (oi := ⟨some 152, .load 50 (.tmp 14), 50, "law.go:122", #[⟨34, .guard⟩], some (34, true)⟩) (v := undef) rfl (by kernel_rfl) (by kernel_rfl) (by kernel_rfl) (fun _ _ _ h => h) (Or.inr ⟨by rfl, rfl⟩) (by assumption) ?rest94
                  try simp only [Act.put, List.setIfInBounds_toArray, List.set_cons_zero, List.set_cons_succ]
                  refine' wpAnyH_take (i := 39) (oi := ⟨some 153, .binOp .neq 50 (.tmp 151) (.tmp 152) 50, 4, "law.go:122", #[⟨37, .data⟩, ⟨38, .data⟩, ⟨34, .guard⟩], some (34, true)⟩) (v := undef) rfl (by kernel_rfl) (by kernel_rfl) (by kernel_rfl) (fun _ _ _ h => h) (Or.inr ⟨by rfl, rfl⟩) (by assumption) ?rest95
                  try simp only [Act.put, List.setIfInBounds_toArray, List.set_cons_zero, List.set_cons_succ]
                  refine' wpAnyH_take (i := 40) (oi := ⟨some 154, .pick (.tmp 148) (.tmp 153) (.const (.bool false)), 4, "law.go:122", #[⟨34, .data⟩, ⟨39, .data⟩, ⟨30, .guard⟩], some (30, false)⟩) (v := _) rfl (by kernel_rfl) (by kernel_rfl) (by kernel_rfl) (fun _ _ _ h => h) (Or.inl ⟨by rfl, ?hy96⟩) (by assumption) ?rest96
                  case hy96 => (intro w hSw; (try dsimp only at hSw); go_simp; try with_reducible rfl)
                  try simp only [Act.put, List.setIfInBounds_toArray, List.set_cons_zero, List.set_cons_succ]
                  refine' wpAnyH_take (i := 41) (oi := ⟨some 155, .pick (.tmp 144) (.const (.bool true)) (.tmp 154), 4, "law.go:122", #[⟨30, .data⟩, ⟨40, .data⟩], none⟩) (v := _) rfl (by kernel_rfl) (by kernel_rfl) (by kernel_rfl) (fun _ _ _ h => h) (Or.inl ⟨by rfl, ?hy97⟩) (by assumption) ?rest97
                  case hy97 => (intro w hSw; (try dsimp only at hSw); go_simp; try with_reducible rfl)
                  try simp only [Act.put, List.setIfInBounds_toArray, List.set_cons_zero, List.set_cons_succ]
                  refine wpAnyH_done (by kernel_rfl) ?_ _
                  have BQ := Lib.hid hbQ
                  have RO := Lib.hid (HOB.out.below hbQ)
                  have ro0 := RO.out.cell 0
                  have rof0 := RO.out.soft 0
                  simp only [List.getElem?_cons_zero] at ro0
                  clear hbQ hSQ
                  go_wp2_with fail
                  refine (KWD.out _ BQ.out).mono ?_
                  rintro e w9 ⟨v9, rfl, own9, b9⟩
                  obtain ⟨A9, c9, rfl⟩ := own_open14 own9
                  have R9 := Lib.hid (RO.out.below b9)
                  have q0 := R9.out.cell 0
                  have fq0 := R9.out.soft 0
                  simp only [List.getElem?_cons_zero] at q0
                  obtain ⟨wE, hwE⟩ : ∃ wE, wE = w9.setCell ⟨ob, 0, none⟩ (.slice A9 N c9) := ⟨_, rfl⟩
                  have HIE : Hid (Inv16s w wE g ob rb bs B G0 N) := Lib.hid (HIF.out _ wE A9 c9 (below_on BQ.out b9) (own_rebase16 own9 BQ.out.size) (by rw [hwE]; exact (Only.refl (· = ob) w9).setCell (p := ⟨ob, 0, none⟩) (.inl rfl) _) (by rw [hwE]; exact R9.out.put 0 _))
                  have HWE := Lib.hid hwE
                  clear hwE own9 b9
                  go_wp2
                  rw [← HWE.out]
                  go_meet
                  case rel => exact ⟨rfl, HIE⟩
               · rw [hT1] at own7
                 obtain ⟨gT, cT, rfl, hgT, hgl7⟩ := own7.form (by simp)
                 have t0 := (own7.cellAt 0 (by exact (by decide : 0 < 3))).trans rfl
                 have t1 := (own7.cellAt 1 (by exact (by decide : 1 < 3))).trans rfl
                 have t2 := (own7.cellAt 2 (by exact (by decide : 2 < 3))).trans rfl
                 obtain ⟨κ, ii, uu⟩ := xX
                 have hκ : (κ != 0) = true := by simpa using hX1
                 have hneq := neq_t14 κ ii uu
                 have HBS19 : Hid (∀ W, Below w7.heap.size w7 W → W.cell? ⟨pb, 0, none⟩ = some (.slice Xa za da) ∧ W.cell? ⟨tb, 0, none⟩ = some (.int .i64 κ) ∧ W.cell? ⟨tb, 1, none⟩ = some (.int .i64 ii) ∧ W.cell? ⟨tb, 2, none⟩ = some (.int .i64 uu) ∧ W.cell? ⟨gT, 0, none⟩ = some (.int .i64 κ) ∧ W.cell? ⟨gT, 1, none⟩ = some (.int .i64 ii) ∧ W.cell? ⟨gT, 2, none⟩ = some (.int .i64 uu)) := Lib.hid (fun W hb => ⟨(HP7.out.below hb).cell 0, (HT7.out.below hb).cell 0, (HT7.out.below hb).cell 1, (HT7.out.below hb).cell 2, (hb.cell (p := ⟨gT, 0, none⟩) hgl7).trans t0, (hb.cell (p := ⟨gT, 1, none⟩) hgl7).trans t1, (hb.cell (p := ⟨gT, 2, none⟩) hgl7).trans t2⟩)
                 clear own7 b7 hT1 hX1 t0 t1 t2 LX BX RX HOK HSM HLN HRL HAG LM HOKG HSMG HVL S6 O6 M6 HP6 HT6 HQ6 HOB6 KTC PL6 HP7 HT7 HBS13 KOF KST HRL2 SM S5
                 as_aux_lemma =>
                  go_wp2
                  have hbQ : Below w7.heap.size w7 w7.drew := (Below.refl _ _).drew
                  have hSQ := HBS19.out _ hbQ
                  refine wp_region_held_drew (S := fun W => W.cell? ⟨pb, 0, none⟩ = some (.slice Xa za da) ∧ W.cell? ⟨tb, 0, none⟩ = some (.int .i64 κ) ∧ W.cell? ⟨tb, 1, none⟩ = some (.int .i64 ii) ∧ W.cell? ⟨tb, 2, none⟩ = some (.int .i64 uu) ∧ W.cell? ⟨gT, 0, none⟩ = some (.int .i64 κ) ∧ W.cell? ⟨gT, 1, none⟩ = some (.int .i64 ii) ∧ W.cell? ⟨gT, 2, none⟩ = some (.int .i64 uu)) (by kernel_rfl) hSQ (fun hHeld => ?_)
                  refine' wpAnyH_take (i := 0) (oi := ⟨some 114, .move (.tmp 19), 4, "law.go:122", #[], none⟩) (v := _) rfl (by kernel_rfl) (by kernel_rfl) (by kernel_rfl) (fun _ _ _ h => h) (Or.inl ⟨by rfl, ?hy98⟩) (by assumption) ?rest98
                  case hy98 => (intro w hSw; (try dsimp only at hSw); go_simp; try with_reducible rfl)
                  try simp only [Act.put, List.setIfInBounds_toArray, List.set_cons_zero, List.set_cons_succ]
                  refine' wpAnyH_take (i := 1) (oi := ⟨some 115, .move (.tmp 15), 4, "law.go:122", #[], none⟩) (v := _) rfl (by kernel_rfl) (by kernel_rfl) (by kernel_rfl) (fun _ _ _ h => h) (Or.inl ⟨by rfl, ?hy99⟩) (by assumption) ?rest99
                  case hy99 => (intro w hSw; (try dsimp only at hSw); go_simp; try with_reducible rfl)
                  try simp only [Act.put, List.setIfInBounds_toArray, List.set_cons_zero, List.set_cons_succ]
                  refine' wpAnyH_take (i := 2) (oi := ⟨some 116, .binOp .neq 4 (.tmp 114) (.tmp 115) 4, 4, "law.go:122", #[⟨0, .data⟩, ⟨1, .data⟩], none⟩) (v := _) rfl (by kernel_rfl) (by kernel_rfl) (by kernel_rfl) (fun _ _ _ h => h) (Or.inl ⟨by rfl, ?hy100⟩) (by assumption) ?rest100
                  case hy100 => (intro w hSw; (try dsimp only at hSw); go_simp; try with_reducible rfl)
                  try simp only [Act.put, List.setIfInBounds_toArray, List.set_cons_zero, List.set_cons_succ]
                  refine' wpAnyH_take (i := 3) (oi := ⟨some 117, .move (.tmp 116), 4, "law.go:122", #[⟨2, .data⟩], none⟩) (v := _) rfl (by kernel_rfl) (by kernel_rfl) (by kernel_rfl) (fun _ _ _ h => h) (Or.inl ⟨by rfl, ?hy101⟩) (by assumption) ?rest101
                  case hy101 => (intro w hSw; (try dsimp only at hSw); go_simp; try with_reducible rfl)
                  try simp only [Act.put, List.setIfInBounds_toArray, List.set_cons_zero, List.set_cons_succ]
                  refine' wpAnyH_take (i := 4) (oi := ⟨some 118, .move (.tmp 20), 44, "law.go:122", #[⟨3, .guard⟩], some (3, false)⟩) (v := _) rfl (by kernel_rfl) (by kernel_rfl) (by kernel_rfl) (fun _ _ _ h => h) (Or.inl ⟨by rfl, ?hy102⟩) (by assumption) ?rest102
                  case hy102 => (intro w hSw; (try dsimp only at hSw); go_simp; try with_reducible rfl)
                  try simp only [Act.put, List.setIfInBounds_toArray, List.set_cons_zero, List.set_cons_succ]
                  refine' wpAnyH_take (i := 5) (oi := ⟨some 119, .move (.tmp 16), 3, "law.go:122", #[⟨3, .guard⟩], some (3, false)⟩) (v := _) rfl (by kernel_rfl) (by kernel_rfl) (by kernel_rfl) (fun _ _ _ h => h) (Or.inl ⟨by rfl, ?hy103⟩) (by assumption) ?rest103
                  case hy103 => (intro w hSw; (try dsimp only at hSw); go_simp; try with_reducible rfl)
                  try simp only [Act.put, List.setIfInBounds_toArray, List.set_cons_zero, List.set_cons_succ]
                  refine' wpAnyH_take (i := 6) (oi := ⟨some 120, .binOp .neq 3 (.tmp 118) (.tmp 119) 3, 4, "law.go:122", #[⟨4, .data⟩, ⟨5, .data⟩, ⟨3, .guard⟩], some (3, false)⟩) (v := _) rfl (by kernel_rfl) (by kernel_rfl) (by kernel_rfl) (fun _ _ _ h => h) (Or.inl ⟨by rfl, ?hy104⟩) (by assumption) ?rest104
                  case hy104 => (intro w hSw; (try dsimp only at hSw); go_simp; try with_reducible rfl)
                  try simp only [Act.put, List.setIfInBounds_toArray, List.set_cons_zero, List.set_cons_succ]
                  refine' wpAnyH_take (i := 7) (oi := ⟨some 121, .pick (.tmp 117) (.const (.bool true)) (.tmp 120), 4, "law.go:122", #[⟨3, .data⟩, ⟨6, .data⟩], none⟩) (v := _) rfl (by kernel_rfl) (by kernel_rfl) (by kernel_rfl) (fun _ _ _ h => h) (Or.inl ⟨by rfl, ?hy105⟩) (by assumption) ?rest105
                  case hy105 => (intro w hSw; (try dsimp only at hSw); go_simp; try with_reducible rfl)
                  try simp only [Act.put, List.setIfInBounds_toArray, List.set_cons_zero, List.set_cons_succ]
                  refine' wpAnyH_take (i := 8) (oi := ⟨some 122, .move (.tmp 121), 4, "law.go:122", #[⟨7, .data⟩, ⟨3, .chain⟩], none⟩) (v := _) rfl (by kernel_rfl) (by kernel_rfl) (by kernel_rfl) (fun _ _ _ h => h) (Or.inl ⟨by rfl, ?hy106⟩) (by assumption) ?rest106
                  case hy106 => (intro w hSw; (try dsimp only at hSw); go_simp; try with_reducible rfl)
                  try simp only [Act.put, List.setIfInBounds_toArray, List.set_cons_zero, List.set_cons_succ]
                  refine' wpAnyH_take (i := 9) (oi := ⟨some 123, .move (.tmp 17), 54, "law.go:122", #[⟨8, .guard⟩], some (8, false)⟩) (v := _) rfl (by kernel_rfl) (by kernel_rfl) (by kernel_rfl) (fun _ _ _ h => h) (Or.inl ⟨by rfl, ?hy107⟩) (by assumption) ?rest107
                  case hy107 => (intro w hSw; (try dsimp only at hSw); go_simp; try with_reducible rfl)
                  try simp only [Act.put, List.setIfInBounds_toArray, List.set_cons_zero, List.set_cons_succ]
                  refine' wpAnyH_take (i := 11) (oi := ⟨some 125, .fieldAddr 48 (.tmp 13) 0, 0, "law.go:122", #[⟨8, .guard⟩], some (8, false)⟩) (v := _) rfl (by kernel_rfl) (by kernel_rfl) (by kernel_rfl) (fun _ _ _ h => h) (Or.inl ⟨by rfl, ?hy109⟩) (by assumption) ?rest109
                  case hy109 => (intro w hSw; (try dsimp only at hSw); go_simp; try with_reducible rfl)
                  try simp only [Act.put, List.setIfInBounds_toArray, List.set_cons_zero, List.set_cons_succ]
                  refine' wpAnyH_take (i := 12) (oi := ⟨some 126, .load 33 (.tmp 125), 33, "law.go:122", #[⟨11, .data⟩, ⟨8, .guard⟩], some (8, false)⟩) (v := _) rfl (by kernel_rfl) (by kernel_rfl) (by kernel_rfl) (fun _ _ _ h => h) (Or.inl ⟨by rfl, ?hy111⟩) (by assumption) ?rest111
                  case hy111 => (intro w hSw; (try dsimp only at hSw); go_simp; try with_reducible rfl)
                  try simp only [Act.put, List.setIfInBounds_toArray, List.set_cons_zero, List.set_cons_succ]
                  refine wpAnyH_ready (rs := [10]) (by kernel_rfl) (by simp) ?_
                  refine AllReadyH.cons (o := ⟨some 124, .call { callee := .value (.func 21), args := #[.tmp 123], argTypes := #[54] }, 33, "law.go:122", #[⟨9, .data⟩, ⟨8, .chain⟩, ⟨8, .guard⟩], some (8, false)⟩) rfl (fun K hK => ?_) AllReadyH.nil
                  go_simp
                  go_at_call 21
                  refine (KWD.out _ hbQ).mono ?_
                  rintro e wA ⟨vA, rfl, oA, bA⟩
                  obtain ⟨AA, cA, rfl⟩ := own_open14 oA
                  have hbN := below_on hbQ bA
                  clear hbQ
                  have hbQ := hbN
                  clear hbN
                  have hSQ := HBS19.out _ hbQ
                  go_wp2_with fail
                  refine hK.out _ _ hSQ (fun hSx => ?_)
                  clear hK K
                  try simp only [Act.put, List.setIfInBounds_toArray, List.set_cons_zero, List.set_cons_succ]
                  refine wpAnyH_ready (rs := [13]) (by kernel_rfl) (by simp) ?_
                  refine AllReadyH.cons (o := ⟨some 127, .call { callee := .value (.func 20), args := #[.tmp 124, .tmp 126], argTypes := #[33, 33] }, 4, "law.go:122", #[⟨10, .data⟩, ⟨12, .data⟩, ⟨10, .chain⟩, ⟨8, .guard⟩], some (8, false)⟩) rfl (fun K hK => ?_) AllReadyH.nil
                  go_simp
                  go_at_call 20
                  refine (KSM.out _ _ hbQ (Lies.of_own oA)).mono ?_
                  rintro e wC ⟨rfl, bC⟩
                  have hbN := below_on hbQ bC
                  clear hbQ
                  have hbQ := hbN
                  clear hbN
                  have hSQ := HBS19.out _ hbQ
                  go_wp2_with fail
                  refine hK.out _ _ hSQ (fun hSx => ?_)
                  clear hK K
                  try simp only [Act.put, List.setIfInBounds_toArray, List.set_cons_zero, List.set_cons_succ]
                  refine' wpAnyH_take (i := 14) (oi := ⟨some 128, .unOp .not 4 (.tmp 127), 4, "law.go:122", #[⟨13, .data⟩, ⟨8, .guard⟩], some (8, false)⟩) (v := _) rfl (by kernel_rfl) (by kernel_rfl) (by kernel_rfl) (fun _ _ _ h => h) (Or.inl ⟨by rfl, ?hy114⟩) (by assumption) ?rest114
                  case hy114 => (intro w hSw; (try dsimp only at hSw); go_simp; try with_reducible rfl)
                  try simp only [Act.put, List.setIfInBounds_toArray, List.set_cons_zero, List.set_cons_succ]
                  refine' wpAnyH_take (i := 15) (oi := ⟨some 129, .pick (.tmp 122) (.const (.bool true)) (.tmp 128), 4, "law.go:122", #[⟨8, .data⟩, ⟨14, .data⟩], none⟩) (v := _) rfl (by kernel_rfl) (by kernel_rfl) (by kernel_rfl) (fun _ _ _ h => h) (Or.inl ⟨by rfl, ?hy115⟩) (by assumption) ?rest115
                  case hy115 => (intro w hSw; (try dsimp only at hSw); go_simp; try with_reducible rfl)
                  try simp only [Act.put, List.setIfInBounds_toArray, List.set_cons_zero, List.set_cons_succ]
                  refine' wpAnyH_take (i := 16) (oi := ⟨some 130, .move (.tmp 129), 4, "law.go:122", #[⟨15, .data⟩, ⟨13, .chain⟩], none⟩) (v := _) rfl (by kernel_rfl) (by kernel_rfl) (by kernel_rfl) (fun _ _ _ h => h) (Or.inl ⟨by rfl, ?hy116⟩) (by assumption) ?rest116
                  case hy116 => (intro w hSw; (try dsimp only at hSw); go_simp; try with_reducible rfl)
                  try simp only [Act.put, List.setIfInBounds_toArray, List.set_cons_zero, List.set_cons_succ]
                  refine' wpAnyH_take (i := 17) (oi := ⟨some 131, .move (.tmp 21), 60, "law.go:122", #[⟨16, .guard⟩], some (16, false)⟩) (v := _) rfl (by kernel_rfl) (by kernel_rfl) (by kernel_rfl) (fun _ _ _ h => h) (Or.inl ⟨by rfl, ?hy117⟩) (by assumption) ?rest117
                  case hy117 => (intro w hSw; (try dsimp only at hSw); go_simp; try with_reducible rfl)
                  try simp only [Act.put, List.setIfInBounds_toArray, List.set_cons_zero, List.set_cons_succ]
                  refine' wpAnyH_take (i := 18) (oi := ⟨some 132, .call { callee := .builtin .len, args := #[.tmp 131], argTypes := #[60] }, 3, "law.go:122", #[⟨17, .data⟩, ⟨16, .guard⟩], some (16, false)⟩) (v := _) rfl (by kernel_rfl) (by kernel_rfl) (by kernel_rfl) (fun _ _ _ h => h) (Or.inl ⟨by rfl, ?hy118⟩) (by assumption) ?rest118
                  case hy118 => (intro w hSw; (try dsimp only at hSw); go_simp; try with_reducible rfl)
                  try simp only [Act.put, List.setIfInBounds_toArray, List.set_cons_zero, List.set_cons_succ]
                  refine' wpAnyH_take (i := 19) (oi := ⟨some 133, .binOp .gtr 3 (.tmp 132) (.const (.int .i64 1)) 3, 4, "law.go:122", #[⟨18, .data⟩, ⟨16, .guard⟩], some (16, false)⟩) (v := _) rfl (by kernel_rfl) (by kernel_rfl) (by kernel_rfl) (fun _ _ _ h => h) (Or.inl ⟨by rfl, ?hy119⟩) (by assumption) ?rest119
                  case hy119 => (intro w hSw; (try dsimp only at hSw); go_simp; try with_reducible rfl)
                  try simp only [Act.put, List.setIfInBounds_toArray, List.set_cons_zero, List.set_cons_succ]
                  refine' wpAnyH_take (i := 20) (oi := ⟨some 134, .pick (.tmp 130) (.const (.bool true)) (.tmp 133), 4, "law.go:122", #[⟨16, .data⟩, ⟨19, .data⟩], none⟩) (v := _) rfl (by kernel_rfl) (by kernel_rfl) (by kernel_rfl) (fun _ _ _ h => h) (Or.inl ⟨by rfl, ?hy120⟩) (by assumption) ?rest120
                  case hy120 => (intro w hSw; (try dsimp only at hSw); go_simp; try with_reducible rfl)
                  try simp only [Act.put, List.setIfInBounds_toArray, List.set_cons_zero, List.set_cons_succ]
                  refine' wpAnyH_take (i := 21) (oi := ⟨some 135, .move (.tmp 134), 4, "law.go:122", #[⟨20, .data⟩, ⟨16, .chain⟩], none⟩) (v := _) rfl (by kernel_rfl) (by kernel_rfl) (by kernel_rfl) (fun _ _ _ h => h) (Or.inl ⟨by rfl, ?hy121⟩) (by assumption) ?rest121
                  case hy121 => (intro w hSw; (try dsimp only at hSw); go_simp; try with_reducible rfl)
                  try simp only [Act.put, List.setIfInBounds_toArray, List.set_cons_zero, List.set_cons_succ]
                  refine' wpAnyH_take (i := 22) (oi := ⟨some 136, .fieldAddr 50 (.tmp 14) 0, 0, "law.go:122", #[⟨21, .guard⟩], some (21, false)⟩) (v := _) rfl (by kernel_rfl) (by kernel_rfl) (by kernel_rfl) (fun _ _ _ h => h) (Or.inl ⟨by rfl, ?hy122⟩) (by assumption) ?rest122
                  case hy122 => (intro w hSw; (try dsimp only at hSw); go_simp; try with_reducible rfl)
                  try simp only [Act.put, List.setIfInBounds_toArray, List.set_cons_zero, List.set_cons_succ]
                  refine' wpAnyH_take (i := 23) (oi := ⟨some 137, .load 3 (.tmp 136), 3, "law.go:122", #[⟨22, .data⟩, ⟨21, .guard⟩], some (21, false)⟩) (v := _) rfl (by kernel_rfl) (by kernel_rfl) (by kernel_rfl) (fun _ _ _ h => h) (Or.inl ⟨by rfl, ?hy123⟩) (by assumption) ?rest123
                  case hy123 => (intro w hSw; (try dsimp only at hSw); go_simp; try with_reducible rfl)
                  try simp only [Act.put, List.setIfInBounds_toArray, List.set_cons_zero, List.set_cons_succ]
                  refine' wpAnyH_take (i := 24) (oi := ⟨some 138, .binOp .neq 3 (.tmp 137) (.const (.int .i64 0)) 3, 4, "law.go:122", #[⟨23, .data⟩, ⟨21, .guard⟩], some (21, false)⟩) (v := _) rfl (by kernel_rfl) (by kernel_rfl) (by kernel_rfl) (fun _ _ _ h => h) (Or.inl ⟨by rfl, ?hy124⟩) (by assumption) ?rest124
                  case hy124 => (intro w hSw; (try dsimp only at hSw); go_simp; try with_reducible rfl)
                  try simp only [Act.put, List.setIfInBounds_toArray, List.set_cons_zero, List.set_cons_succ]
                  refine' wpAnyH_take (i := 25) (oi := ⟨some 139, .move (.tmp 21), 60, "law.go:122", #[⟨21, .guard⟩], some (21, false)⟩) (v := _) rfl (by kernel_rfl) (by kernel_rfl) (by kernel_rfl) (fun _ _ _ h => h) (Or.inl ⟨by rfl, ?hy125⟩) (by assumption) ?rest125
                  case hy125 => (intro w hSw; (try dsimp only at hSw); go_simp; try with_reducible rfl)
                  try simp only [Act.put, List.setIfInBounds_toArray, List.set_cons_zero, List.set_cons_succ]
                  refine' wpAnyH_take (i := 26) (oi := ⟨some 140, .call { callee := .builtin .len, args := #[.tmp 139], argTypes := #[60] }, 3, "law.go:122", #[⟨25, .data⟩, ⟨21, .guard⟩], some (21, false)⟩) (v := _) rfl (by kernel_rfl) (by kernel_rfl) (by kernel_rfl) (fun _ _ _ h => h) (Or.inl ⟨by rfl, ?hy126⟩) (by assumption) ?rest126
                  case hy126 => (intro w hSw; (try dsimp only at hSw); go_simp; try with_reducible rfl)
                  try simp only [Act.put, List.setIfInBounds_toArray, List.set_cons_zero, List.set_cons_succ]
                  refine' wpAnyH_take (i := 27) (oi := ⟨some 141, .binOp .eql 3 (.tmp 140) (.const (.int .i64 1)) 3, 4, "law.go:122", #[⟨26, .data⟩, ⟨21, .guard⟩], some (21, false)⟩) (v := _) rfl (by kernel_rfl) (by kernel_rfl) (by kernel_rfl) (fun _ _ _ h => h) (Or.inl ⟨by rfl, ?hy127⟩) (by assumption) ?rest127
                  case hy127 => (intro w hSw; (try dsimp only at hSw); go_simp; try with_reducible rfl)
                  try simp only [Act.put, List.setIfInBounds_toArray, List.set_cons_zero, List.set_cons_succ]
                  refine' wpAnyH_take (i := 28) (oi := ⟨some 142, .binOp .neq 4 (.tmp 138) (.tmp 141) 4, 4, "law.go:122", #[⟨24, .data⟩, ⟨27, .data⟩, ⟨21, .guard⟩], some (21, false)⟩) (v := _) rfl (by kernel_rfl) (by kernel_rfl) (by kernel_rfl) (fun _ _ _ h => h) (Or.inl ⟨by rfl, ?hy128⟩) (by assumption) ?rest128
                  case hy128 => (intro w hSw; (try dsimp only at hSw); go_simp; try with_reducible rfl)
                  try simp only [Act.put, List.setIfInBounds_toArray, List.set_cons_zero, List.set_cons_succ]
                  refine' wpAnyH_take (i := 29) (oi := ⟨some 143, .pick (.tmp 135) (.const (.bool true)) (.tmp 142), 4, "law.go:122", #[⟨21, .data⟩, ⟨28, .data⟩], none⟩) (v := _) rfl (by kernel_rfl) (by kernel_rfl) (by kernel_rfl) (fun _ _ _ h => h) (Or.inl ⟨by rfl, ?hy129⟩) (by assumption) ?rest129
                  case hy129 => (intro w hSw; (try dsimp only at hSw); go_simp; try with_reducible rfl)
                  try simp only [Act.put, List.setIfInBounds_toArray, List.set_cons_zero, List.set_cons_succ]
                  refine' wpAnyH_take (i := 30) (oi := ⟨some 144, .move (.tmp 143), 4, "law.go:122", #[⟨29, .data⟩, ⟨21, .chain⟩], none⟩) (v := _) rfl (by kernel_rfl) (by kernel_rfl) (by kernel_rfl) (fun _ _ _ h => h) (Or.inl ⟨by rfl, ?hy130⟩) (by assumption) ?rest130
                  case hy130 => (intro w hSw; (try dsimp only at hSw); go_simp; try with_reducible rfl)
                  try simp only [Act.put, List.setIfInBounds_toArray, List.set_cons_zero, List.set_cons_succ]
                  refine' wpAnyH_take (i := 31) (oi := ⟨some 145, .move (.tmp 21), 60, "law.go:122", #[⟨30, .guard⟩], some (30, false)⟩) (v := _) rfl (by kernel_rfl) (by kernel_rfl) (by kernel_rfl) (fun _ _ _ h => h) (Or.inl ⟨by rfl, ?hy131⟩) (by assumption) ?rest131
                  case hy131 => (intro w hSw; (try dsimp only at hSw); go_simp; try with_reducible rfl)
                  try simp only [Act.put, List.setIfInBounds_toArray, List.set_cons_zero, List.set_cons_succ]
                  refine' wpAnyH_take (i := 32) (oi := ⟨some 146, .call { callee := .builtin .len, args := #[.tmp 145], argTypes := #[60] }, 3, "law.go:122", #[⟨31, .data⟩, ⟨30, .guard⟩], some (30, false)⟩) (v := _) rfl (by kernel_rfl) (by kernel_rfl) (by kernel_rfl) (fun _ _ _ h => h) (Or.inl ⟨by rfl, ?hy132⟩) (by assumption) ?rest132
                  case hy132 => (intro w hSw; (try dsimp only at hSw); go_simp; try with_reducible rfl)
                  try simp only [Act.put, List.setIfInBounds_toArray, List.set_cons_zero, List.set_cons_succ]
                  refine' wpAnyH_take (i := 33) (oi := ⟨some 147, .binOp .eql 3 (.tmp 146) (.const (.int .i64 1)) 3, 4, "law.go:122", #[⟨32, .data⟩, ⟨30, .guard⟩], some (30, false)⟩) (v := _) rfl (by kernel_rfl) (by kernel_rfl) (by kernel_rfl) (fun _ _ _ h => h) (Or.inl ⟨by rfl, ?hy133⟩) (by assumption) ?rest133
                  case hy133 => (intro w hSw; (try dsimp only at hSw); go_simp; try with_reducible rfl)
                  try simp only [Act.put, List.setIfInBounds_toArray, List.set_cons_zero, List.set_cons_succ]
                  refine' wpAnyH_take (i := 34) (oi := ⟨some 148, .move (.tmp 147), 4, "law.go:122", #[⟨33, .data⟩, ⟨30, .chain⟩, ⟨30, .guard⟩], some (30, false)⟩) (v := _) rfl (by kernel_rfl) (by kernel_rfl) (by kernel_rfl) (fun _ _ _ h => h) (Or.inl ⟨by rfl, ?hy134⟩) (by assumption) ?rest134
                  case hy134 => (intro w hSw; (try dsimp only at hSw); go_simp; try with_reducible rfl)
                  try simp only [Act.put, List.setIfInBounds_toArray, List.set_cons_zero, List.set_cons_succ]
                  refine' wpAnyH_take (i := 35) (oi := ⟨some 149, .move (.tmp 21), 60, "law.go:122", #[⟨34, .guard⟩], some (34, true)⟩) (v := _) rfl (by kernel_rfl) (by kernel_rfl) (by kernel_rfl) (fun _ _ _ h => h) (Or.inl ⟨by rfl, ?hy135⟩) (by assumption) ?rest135
                  case hy135 => (intro w hSw; (try dsimp only at hSw); go_simp; try with_reducible rfl)
                  try simp only [Act.put, List.setIfInBounds_toArray, List.set_cons_zero, List.set_cons_succ]
                  refine' wpAnyH_take (i := 36) (oi := ⟨some 150, .indexAddr 60 (.tmp 149) (.const (.int .i64 0)), 0, "law.go:122", #[⟨35, .data⟩, ⟨34, .guard⟩], some (34, true)⟩) (v := _) rfl (by kernel_rfl) (by kernel_rfl) (by kernel_rfl) (fun _ _ _ h => h) (Or.inl ⟨by rfl, ?hy136⟩) (by assumption) ?rest136
                  case hy136 => (intro w hSw; (try dsimp only at hSw); go_simp; try with_reducible rfl)
                  try simp only [Act.put, List.setIfInBounds_toArray, List.set_cons_zero, List.set_cons_succ]
                  refine' wpAnyH_take (i := 37) (oi := ⟨some 151, .load 64 (.tmp 150), 64, "law.go:122", #[⟨36, .data⟩, ⟨34, .guard⟩], some (34, true)⟩) (v := _) rfl (by kernel_rfl) (by kernel_rfl) (by kernel_rfl) (fun _ _ _ h => h) (Or.inl ⟨by rfl, ?hy137⟩) (by assumption) ?rest137
                  case hy137 => (intro w hSw; (try dsimp only at hSw); go_simp; try with_reducible rfl)
                  try simp only [Act.put, List.setIfInBounds_toArray, List.set_cons_zero, List.set_cons_succ]
                  refine' wpAnyH_take (i := 38) (oi := ⟨some 152, .load 50 (.tmp 14), 50, "law.go:122", #[⟨34, .guard⟩], some (34, true)⟩) (v := _) rfl (by kernel_rfl) (by kernel_rfl) (by kernel_rfl) (fun _ _ _ h => h) (Or.inl ⟨by rfl, ?hy138⟩) (by assumption) ?rest138
                  case hy138 => (intro w hSw; (try dsimp only at hSw); go_simp; try with_reducible rfl)
                  try simp only [Act.put, List.setIfInBounds_toArray, List.set_cons_zero, List.set_cons_succ]
                  refine' wpAnyH_take (i := 39) (oi := ⟨some 153, .binOp .neq 50 (.tmp 151) (.tmp 152) 50, 4, "law.go:122", #[⟨37, .data⟩, ⟨38, .data⟩, ⟨34, .guard⟩], some (34, true)⟩) (v := _) rfl (by kernel_rfl) (by kernel_rfl) (by kernel_rfl) (fun _ _ _ h => h) (Or.inl ⟨by rfl, ?hy139⟩) (by assumption) ?rest139
                  case hy139 => (intro w hSw; (try dsimp only at hSw); go_simp; try with_reducible rfl)
                  try simp only [Act.put, List.setIfInBounds_toArray, List.set_cons_zero, List.set_cons_succ]
                  refine' wpAnyH_take (i := 40) (oi := ⟨some 154, .pick (.tmp 148) (.tmp 153) (.const (.bool false)), 4, "law.go:122", #[⟨34, .data⟩, ⟨39, .data⟩, ⟨30, .guard⟩], some (30, false)⟩) (v := _) rfl (by kernel_rfl) (by kernel_rfl) (by kernel_rfl) (fun _ _ _ h => h) (Or.inl ⟨by rfl, ?hy140⟩) (by assumption) ?rest140
                  case hy140 => (intro w hSw; (try dsimp only at hSw); go_simp; try with_reducible rfl)
                  try simp only [Act.put, List.setIfInBounds_toArray, List.set_cons_zero, List.set_cons_succ]
                  refine' wpAnyH_take (i := 41) (oi := ⟨some 155, .pick (.tmp 144) (.const (.bool true)) (.tmp 154), 4, "law.go:122", #[⟨30, .data⟩, ⟨40, .data⟩], none⟩) (v := _) rfl (by kernel_rfl) (by kernel_rfl) (by kernel_rfl) (fun _ _ _ h => h) (Or.inl ⟨by rfl, ?hy141⟩) (by assumption) ?rest141
                  case hy141 => (intro w hSw; (try dsimp only at hSw); go_simp; try with_reducible rfl)
                  try simp only [Act.put, List.setIfInBounds_toArray, List.set_cons_zero, List.set_cons_succ]
                  refine wpAnyH_done (by kernel_rfl) ?_ _
                  have BQ := Lib.hid hbQ
                  have RO := Lib.hid (HOB.out.below hbQ)
                  have ro0 := RO.out.cell 0
                  have rof0 := RO.out.soft 0
                  simp only [List.getElem?_cons_zero] at ro0
                  clear hbQ hSQ
                  go_wp2_with fail
                  refine (KWD.out _ BQ.out).mono ?_
                  rintro e w9 ⟨v9, rfl, own9, b9⟩
                  obtain ⟨A9, c9, rfl⟩ := own_open14 own9
                  have R9 := Lib.hid (RO.out.below b9)
                  have q0 := R9.out.cell 0
                  have fq0 := R9.out.soft 0
                  simp only [List.getElem?_cons_zero] at q0
                  obtain ⟨wE, hwE⟩ : ∃ wE, wE = w9.setCell ⟨ob, 0, none⟩ (.slice A9 N c9) := ⟨_, rfl⟩
                  have HIE : Hid (Inv16s w wE g ob rb bs B G0 N) := Lib.hid (HIF.out _ wE A9 c9 (below_on BQ.out b9) (own_rebase16 own9 BQ.out.size) (by rw [hwE]; exact (Only.refl (· = ob) w9).setCell (p := ⟨ob, 0, none⟩) (.inl rfl) _) (by rw [hwE]; exact R9.out.put 0 _))
                  have HWE := Lib.hid hwE
                  clear hwE own9 b9
                  go_wp2
                  rw [← HWE.out]
                  go_meet
                  case rel => exact ⟨rfl, HIE⟩
    · obtain rfl : n = k := by omega
      have KA := Lib.hid (alive16 wr (HT.out wr hbw))
      have BW := Lib.hid hbw
      clear L hOK hSM hVN hE8 hRL hbw HI HEV
      go_wp2_with fail
      refine KA.out.mono ?_
      rintro e w9 ⟨rfl, b9⟩
      have B9 := Lib.hid (below_on BW.out b9)
      clear b9
      go_wp2
      go_ret
      exact ⟨rfl, B9.out⟩
end

end Go.Proofs.YteipocjgmgaglaaDoor
