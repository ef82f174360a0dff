/-
  Texts merged, with what one theorem needs of them.
  Conditions: those that each theorem states.
-/
import Derived.Test.YteipocjgmgaglaaDoorRows
import Derived.Test.YteipocjgmgaglaaDoorZ1
import Derived.Test.YteipocjgmgaglaaDoorZ2
import Derived.Test.YteipocjgmgaglaaDoorZ3
import Derived.Test.YteipocjgmgaglaaDoorZ4
import Derived.Test.YteipocjgmgaglaaDoorZ5
import Derived.Test.YteipocjgmgaglaaDoorZ6
import Derived.Test.YteipocjgmgaglaaDoorZ7
import Derived.Test.YteipocjgmgaglaaDoorZ8
import Derived.Test.YteipocjgmgaglaaDoorZ9
import Derived.Test.YteipocjgmgaglaaDoorZ10
import Derived.Test.YteipocjgmgaglaaDoorZ11
import Derived.Test.YteipocjgmgaglaaDoorZ12
import Derived.Test.YteipocjgmgaglaaDoorZ13
import Derived.Test.YteipocjgmgaglaaDoorZ14
import Derived.Test.YteipocjgmgaglaaDoorZ15
import Derived.Test.YteipocjgmgaglaaDoorZ16
import Derived.Below
import Derived.BigQuiet
import Derived.Deep.AppendLies
import Derived.Deep.DeepMust
import Derived.Deep.Draws
import Derived.Deep.MidRow
import Derived.Deep.OwnRows
import Derived.Deep.QuietTactic
import Derived.Deep.RegionHeld3
import Derived.Deep.RegionLaw
import Derived.Deep.RegionWith
import Derived.Defers
import Derived.Great.BuildSlice
import Derived.Handy
import Derived.IntWalk
import Derived.LaidLaws
import Derived.LaidMore
import Derived.Laws.BitsLemmas
import Derived.Laws.CopyOwn
import Derived.Laws.OwnMore
import Derived.Laws.Rows
import Derived.Lib.Hide
import Derived.Lib.SliceRun
import Derived.MakeChecks
import Derived.Maps.AppendAt
import Derived.OpenShut
import Derived.ProofKit
import Derived.Recover
import Derived.RegionTactic
import Derived.WalkKit
namespace Go.Proofs.YteipocjgmgaglaaDoor

section
open Go.ChangeShapes Go.WideShapes Go.ChangeAt Go.RowKit
set_option maxRecDepth 100000 in
set_option maxHeartbeats 1000000 in
theorem containsF16_any (P : Nat → Prop) (l : List Int) (v : Value) (w : World) (hv : Lies w P v (ints l)) (hl : l.length ≤ 65536) :
    Calls Tryd.prog 30 #[v, .func (.func 31) #[] #[]] w fun e w' => e = .returned (.bool (!(l.all okW))) ∧ w = w' := by
  have HK := Lib.hid (contains16_any P l v w hv hl)
  obtain ⟨A, n, c, rfl, HN, HV⟩ := lies_open hv
  clear hv hl
  obtain ⟨o, ho⟩ : ∃ o, (!(l.all okW)) = o := ⟨_, rfl⟩
  rw [ho] at HK ⊢
  clear ho
  go_enter Tryd.func30, Tryd.ntmps30
  go_wp2_with fail
  refine HK.out.mono ?_
  rintro e w' ⟨⟨n, rfl, h0⟩, rfl⟩
  go_wp2
  go_ret
  exact ⟨rfl, rfl⟩
/-- What Send answers, and what it leaves. -/
def sendE16 (G : Gv) (l : List Int) : Int := if G.st ≠ 0 then 11 else if 8 < l.length then 18 else if l.all okW then 0 else 2
def sendG16 (G : Gv) (l : List Int) : Gv := if sendE16 G l = 0 then { G with st := 1, load := l, sto := 0, ret := 0, res := 0 } else G
theorem own_base16 {w : World} {B B' : Nat} {e : TypeId} {size n : Nat} {v : Value} {xs : List Value} (h : w.ownsRow B' e size v n xs) (hB : B ≤ B') : w.ownsRow B e size v n xs :=
  ⟨h.1, h.2.imp id (fun ⟨g, cap, cur, h1, h2, h3⟩ => ⟨g, cap, cur, h1, Nat.le_trans hB h2, h3⟩)⟩
/-- The words of a new call are laid. -/
theorem send16_end {g : Nat} {G : Gv} {vf vo vl v1 : Value} {l : List Int} {w w1 : World} (r : GAt w g G vf vo vl) (o1 : w1.ownsRow w.heap.size 3 1 v1 l.length (ints l)) (hb : Below w.heap.size w w1) :
    GP16 g { G with st := 1, load := l, sto := 0, ret := 0, res := 0 } vf vo vl (.int .i64 0) w (.returned (.int .i64 0)) (((((w1.setCell ⟨g, 6, none⟩ (.int .i64 1)).setCell ⟨g, 13, none⟩ v1).setCell ⟨g, 14, none⟩ (.int .i64 0)).setCell ⟨g, 15, none⟩ (.int .i64 0)).setCell ⟨g, 16, none⟩ (.int .i64 0)) := by
  have R := r.below hb
  have ho : Only (· = g) w1 (((((w1.setCell ⟨g, 6, none⟩ (.int .i64 1)).setCell ⟨g, 13, none⟩ v1).setCell ⟨g, 14, none⟩ (.int .i64 0)).setCell ⟨g, 15, none⟩ (.int .i64 0)).setCell ⟨g, 16, none⟩ (.int .i64 0)) :=
    ((((only_put16 w1 g 6 _).put16 13 _).put16 14 _).put16 15 _).put16 16 _
  have hr := ((((R.row.put 6 (.int .i64 1)).put 13 v1).put 14 (.int .i64 0)).put 15 (.int .i64 0)).put 16 (.int .i64 0)
  have new : ∀ x, v1.ownBlock = some x → w.heap.size ≤ x := fun x hx => (o1.lt x hx).1
  refine ⟨vf, vo, v1, rfl, ⟨hr, ?_, ?_, ?_, r.fo, fun x hx e => ?_, fun x hx e => ?_⟩, (Only.of_below hb _).trans (ho.mono (fun _ _ h => .inl h)), fun x h => ?_⟩
  · exact own_quiet R.free (fun x hx => ho.block x (R.free.lt x hx).2 (fun e => R.fg (by rw [hx, e])))
  · exact own_quiet R.out (fun x hx => ho.block x (R.out.lt x hx).2 (fun e => R.og (by rw [hx, e])))
  · exact own_quiet (own_base16 o1 (Nat.zero_le _)) (fun x hx => ho.block x (o1.lt x hx).2 (fun e => by have := new x hx; have := r.row.lt; omega))
  · have := new x e; have := (r.free.lt x hx).2; omega
  · have := new x e; have := (r.out.lt x hx).2; omega
  · rcases h with h | h | h | h
    · exact .inl (.inl h)
    · exact .inl (.inr (.inl h))
    · exact .inl (.inr (.inr (.inl h)))
    · exact .inr (new x h)
set_option maxRecDepth 100000 in
set_option maxHeartbeats 2000000 in
theorem send16_any {g : Nat} {G : Gv} {vf vo vl : Value} (P : Nat → Prop) (l : List Int) (v : Value) (w : World) (r : GAt w g G vf vo vl) (hv : Lies w P v (ints l)) (hcap : CapOk v) :
    Calls Tryd.prog 12 #[.pointer (some ⟨g, 0, none⟩), v] w (GP16 g (sendG16 G l) vf vo vl (.int .i64 (sendE16 G l)) w) := by
  have R := Lib.hid r
  have KB := Lib.hid (busy16_any w r)
  obtain ⟨A, n, c, rfl, HN, HV⟩ := lies_open hv
  have HC := Lib.hid hcap
  by_cases h0 : G.st = 0
  · have e0 : ((G.st : Int) != 0) = false := by rw [h0]; rfl
    rw [e0] at KB
    clear hcap hv r e0
    by_cases h8 : 8 < n
    · have hE : Hid (sendE16 G l = 18 ∧ sendG16 G l = G) := Lib.hid (by
        have : sendE16 G l = 18 := by unfold sendE16; rw [if_neg (by omega), if_pos (by rw [HN.out]; exact h8)]
        exact ⟨this, by unfold sendG16; rw [if_neg (by rw [this]; decide)]⟩)
      have h8' : (8 : Int) < (n : Int) := by omega
      clear h0
      go_enter Tryd.func12, Tryd.ntmps12
      go_wp2_with fail
      refine KB.out.mono ?_
      rintro e w' ⟨rfl, rfl⟩
      go_wp2
      go_ret
      rw [hE.out.1, hE.out.2]
      exact ⟨vf, vo, vl, rfl, R.out, Only.refl _ _, fun _ h => .inl h⟩
    · have hl8 : l.length ≤ 8 := by rw [HN.out]; omega
      have KC := Lib.hid (containsF16_any _ l _ w HV.out (by omega))
      have h8' : ¬ (8 : Int) < (n : Int) := by omega
      cases ha : l.all okW with
      | false =>
        rw [ha] at KC
        have hE : Hid (sendE16 G l = 2 ∧ sendG16 G l = G) := Lib.hid (by
          have : sendE16 G l = 2 := by unfold sendE16; rw [if_neg (by omega), if_neg (by omega), ha]; rfl
          exact ⟨this, by unfold sendG16; rw [if_neg (by rw [this]; decide)]⟩)
        clear h0 ha hl8
        go_enter Tryd.func12, Tryd.ntmps12
        go_wp2_with fail
        refine KB.out.mono ?_
        rintro e w' ⟨rfl, rfl⟩
        go_wp2_with fail
        refine KC.out.mono ?_
        rintro e w' ⟨rfl, rfl⟩
        go_wp2
        go_ret
        rw [hE.out.1, hE.out.2]
        exact ⟨vf, vo, vl, rfl, R.out, Only.refl _ _, fun _ h => .inl h⟩
      | true =>
        rw [ha] at KC
        have hE : Hid (sendE16 G l = 0 ∧ sendG16 G l = { G with st := 1, load := l, sto := 0, ret := 0, res := 0 }) := Lib.hid (by
          have : sendE16 G l = 0 := by unfold sendE16; rw [if_neg (by omega), if_neg (by omega), ha]; rfl
          exact ⟨this, by unfold sendG16; rw [if_pos this]⟩)
        have KL := Lib.hid (clone14_any _ l _ w HV.out HC.out (by omega))
        clear h0 ha hl8
        go_enter Tryd.func12, Tryd.ntmps12
        go_wp2_with fail
        refine KB.out.mono ?_
        rintro e w' ⟨rfl, rfl⟩
        go_wp2_with fail
        refine KC.out.mono ?_
        rintro e w' ⟨rfl, rfl⟩
        go_wp2_with fail
        refine KL.out.mono ?_
        rintro e w1 ⟨v1, rfl, o1, b1⟩
        obtain ⟨A1, c1, rfl⟩ := own_open14 o1
        have R1 := Lib.hid (R.out.below b1)
        have c6 := R1.out.row.cell 6
        have c13 := R1.out.row.cell 13
        have c14 := R1.out.row.cell 14
        have c15 := R1.out.row.cell 15
        have c16 := R1.out.row.cell 16
        have f6 := R1.out.row.soft 6
        have f13 := R1.out.row.soft 13
        have f14 := R1.out.row.soft 14
        have f15 := R1.out.row.soft 15
        have f16 := R1.out.row.soft 16
        simp only [gvC, List.getElem?_cons_zero, List.getElem?_cons_succ] at c6 c13 c14 c15 c16
        have O1 := Lib.hid o1
        have B1 := Lib.hid b1
        clear o1 b1
        go_wp2
        go_ret
        rw [hE.out.1, hE.out.2]
        exact send16_end R.out O1.out B1.out
  · have e0 : ((G.st : Int) != 0) = true := by simpa using h0
    rw [e0] at KB
    have hE : Hid (sendE16 G l = 11 ∧ sendG16 G l = G) := Lib.hid (by
      have : sendE16 G l = 11 := by unfold sendE16; rw [if_pos (by omega)]
      exact ⟨this, by unfold sendG16; rw [if_neg (by rw [this]; decide)]⟩)
    clear h0 e0 r hcap hv
    go_enter Tryd.func12, Tryd.ntmps12
    go_wp2_with fail
    refine KB.out.mono ?_
    rintro e w' ⟨rfl, rfl⟩
    go_wp2
    go_ret
    rw [hE.out.1, hE.out.2]
    exact ⟨vf, vo, vl, rfl, R.out, Only.refl _ _, fun _ h => .inl h⟩
/-- The numbers from 0 on. -/
def upto16 (n : Nat) : List Int := (List.range n).map (fun (i : Nat) => (i : Int))
theorem upto16_len (n : Nat) : (upto16 n).length = n := by simp [upto16]
def fill16 (n k : Nat) : List Int := upto16 k ++ List.replicate (n - k) 0
theorem fill16_len {n k : Nat} (h : k ≤ n) : (fill16 n k).length = n := by simp [fill16, upto16_len]; omega
theorem fill16_set {n k : Nat} (h : k < n) : (fill16 n k).set k (k : Int) = fill16 n (k + 1) := by
  unfold fill16
  rw [List.set_append, upto16_len, if_neg (by omega), Nat.sub_self, show n - k = (n - (k + 1)) + 1 from by omega, List.replicate_succ, List.set_cons_zero]
  simp [upto16, List.range_succ]
/-- What unlinked leaves. -/
def UnlP16 (n : Nat) (w : World) (e : Ending) (w' : World) : Prop :=
  ∃ f, e = .returned (.agg #[.bool false, .slice (some ⟨f, 0, none⟩) n n, .slice none 0 0, .int .i64 0, .int .i64 0]) ∧ Row w' f 3 (ints (upto16 n)) ∧ w.heap.size ≤ f ∧ Below w.heap.size w w'
set_option maxRecDepth 100000 in
set_option maxHeartbeats 2000000 in
theorem unlinked16_any (n : Nat) (hn : n ≤ 64) (w : World) :
    Calls Tryd.prog 43 #[.int .i64 (n : Int)] w (UnlP16 n w) := by
  have hmk := fun W => run_make_row' (P := Tryd.prog) 33 3 (.int .i64 0) 8 Tryd.underlying33 int_info rfl .i64 .i64 n (by omega) (by omega) W
  have r0 := Row.new w 68 #[.bool false, .slice none 0 0, .slice none 0 0, .int .i64 0, .int .i64 0]
  obtain ⟨w1, hw1⟩ : ∃ w1, w1 = w.alloc (.cells #[.bool false, .slice none 0 0, .slice none 0 0, .int .i64 0, .int .i64 0] 68) := ⟨_, rfl⟩
  have b1 : Below w.heap.size w w1 := by rw [hw1]; exact below_al _ _
  have s1 : w1.heap.size = w.heap.size + 1 := by rw [hw1]; simp
  have hr := Row.new w1 3 (madeCells #[Value.int .i64 0] n)
  rw [ints_zeros, s1] at hr
  have H0 : Hid (Row (w1.alloc (.cells (madeCells #[Value.int .i64 0] n) 3)) (w.heap.size + 1) 3 (ints (fill16 n 0))) := Lib.hid (by simpa [fill16, upto16] using hr)
  have L0 : Hid (Row (w1.alloc (.cells (madeCells #[Value.int .i64 0] n) 3)) w.heap.size 68 [.bool false, .slice none 0 0, .slice none 0 0, .int .i64 0, .int .i64 0]) := Lib.hid (by rw [← hw1] at r0; exact r0.below (below_al _ _))
  have B0 := Lib.hid (below_on b1 (below_al w1 (.cells (madeCells #[Value.int .i64 0] n) 3)))
  subst hw1
  clear hr b1 s1 r0
  go_enter Tryd.func43, Tryd.ntmps43
  go_wp2
  clear hmk
  go_loopw [9] (fun i wr => ∃ k : Nat, k ≤ n ∧ i = .int .i64 k ∧ Hid (Row wr (w.heap.size + 1) 3 (ints (fill16 n k))) ∧ Hid (Row wr w.heap.size 68 [.bool false, .slice none 0 0, .slice none 0 0, .int .i64 0, .int .i64 0]) ∧ Hid (Below w.heap.size w wr)) (fun i _ => n - (intOf i).toNat)
  case atStart => exact ⟨0, Nat.zero_le _, rfl, H0, L0, B0⟩
  case round =>
    clear H0 B0 L0
    obtain ⟨k, hk, rfl, HR, HL, HB⟩ := hrel
    by_cases hlt : k < n
    · obtain ⟨u, hu⟩ : ∃ u, wr.cell? ⟨w.heap.size + 1, k, none⟩ = some u := ⟨_, (HR.out.cell k).trans (List.getElem?_eq_getElem (by rw [ints_len, fill16_len hk]; exact hlt))⟩
      have f1 := HR.out.soft k
      have hkn : (k : Int) < (n : Int) := by omega
      go_wp2
      go_roundw
      case rel =>
        refine ⟨k + 1, by omega, by go_num, Lib.hid ?_, Lib.hid (HL.out.far (p := ⟨w.heap.size + 1, k, none⟩) (by simp) _), Lib.hid (HB.out.setCell (p := ⟨w.heap.size + 1, k, none⟩) (by simp) _)⟩
        rw [← fill16_set hlt, ints_set]
        exact HR.out.put k _
      case measure => simp [intOf]; omega
    · obtain rfl : n = k := by omega
      have c0 := HL.out.cell 0
      have c1 := HL.out.cell 1
      have c2 := HL.out.cell 2
      have c3 := HL.out.cell 3
      have c4 := HL.out.cell 4
      have f0 := HL.out.soft 0
      have f1 := HL.out.soft 1
      have f2 := HL.out.soft 2
      have f3 := HL.out.soft 3
      have f4 := HL.out.soft 4
      simp only [List.getElem?_cons_zero, List.getElem?_cons_succ] at c0 c1 c2 c3 c4
      go_wp2
      refine bodyPost_ret (v := .agg #[.bool false, .slice (some ⟨w.heap.size + 1, 0, none⟩) n n, .slice none 0 0, .int .i64 0, .int .i64 0]) (by simp [results, Tryd.results43, go_sem, *]) rfl ⟨w.heap.size + 1, rfl, ?_, by omega, ?_⟩
      · have := HR.out
        rw [show fill16 n n = upto16 n from by simp [fill16]] at this
        exact ((((this.far (p := ⟨w.heap.size, 0, none⟩) (by simp) _).far (p := ⟨w.heap.size, 1, none⟩) (by simp) _).far (p := ⟨w.heap.size, 2, none⟩) (by simp) _).far (p := ⟨w.heap.size, 3, none⟩) (by simp) _).far (p := ⟨w.heap.size, 4, none⟩) (by simp) _
      · exact ((((HB.out.setCell (p := ⟨w.heap.size, 0, none⟩) (Nat.le_refl _) _).setCell (p := ⟨w.heap.size, 1, none⟩) (Nat.le_refl _) _).setCell (p := ⟨w.heap.size, 2, none⟩) (Nat.le_refl _) _).setCell (p := ⟨w.heap.size, 3, none⟩) (Nat.le_refl _) _).setCell (p := ⟨w.heap.size, 4, none⟩) (Nat.le_refl _) _
end

section
open Go.ChangeShapes Go.WideShapes Go.ChangeAt Go.RowKit
/-- There is such a giver. -/
def ok16 (B R self peer own : Int) : Prop := okRing R ∧ (0 ≤ B ∧ B < 65536) ∧ (0 ≤ self ∧ self < 8) ∧ (0 ≤ peer ∧ peer < 8) ∧ self ≠ peer ∧ (0 ≤ own ∧ own < 65536)
instance (B R self peer own : Int) : Decidable (ok16 B R self peer own) := by unfold ok16; infer_instance
/-- A new giver. -/
def new16 (B : Int) (R : Nat) (peer own : Int) : Gv := { B := B, R := R, peer := peer, own := own, known := 0, knows := own == 0, st := 0, ins := false, linked := false, free := upto16 R, out := [], next := 0, tail := 0, load := [], sto := 0, ret := 0, res := 0 }
/-- What New leaves. -/
def Made16 (G : Gv) (w : World) (e : Ending) (w' : World) : Prop := ∃ g vf vo vl, e = .returned (ptr g) ∧ GAt w' g G vf vo vl ∧ (∀ x, own16 g vf vo vl x → w.heap.size ≤ x) ∧ Below w.heap.size w w'
section
variable {B R self peer own : Int}
set_option maxRecDepth 100000 in
set_option maxHeartbeats 1000000 in
theorem new16_no0 (h0 : ¬ okRing R) (w : World) :
    Calls Tryd.prog 26 #[plV B R, .int .i64 self, .int .i64 peer, .int .i64 own] w fun e w' => e = .returned (.pointer none) ∧ Below w.heap.size w w' := by
  have SZ := Lib.hid (show (sizeP R) = 0 from if_neg h0)
  clear h0
  unfold plV
  go_enter Tryd.func26, Tryd.ntmps26
  go_wp2_with fail
  refine (size13_any _ _).mono ?_
  rintro e w' ⟨rfl, rfl⟩
  rw [SZ.out]
  go_wp2
  go_ret
  exact ⟨rfl, below_al _ _⟩
set_option maxRecDepth 100000 in
set_option maxHeartbeats 1000000 in
theorem new16_no1 (h0 : okRing R) (h1 : ¬ (0 ≤ B ∧ B < 65536)) (w : World) :
    Calls Tryd.prog 26 #[plV B R, .int .i64 self, .int .i64 peer, .int .i64 own] w fun e w' => e = .returned (.pointer none) ∧ Below w.heap.size w w' := by
  have hR2 : (4 + 11 * R == 0) = false := by have := h0.bd; simp; omega
  have SZ := Lib.hid (show (sizeP R) = 4 + 11 * R from if_pos h0)
  clear h0
  have D1 := Lib.hid (decide_eq_false h1)
  clear h1
  unfold plV
  go_enter Tryd.func26, Tryd.ntmps26
  go_wp2_with fail
  refine (size13_any _ _).mono ?_
  rintro e w' ⟨rfl, rfl⟩
  rw [SZ.out]
  go_wp2_with fail
  refine (below16_any _ _ _).mono ?_
  rintro e w' ⟨rfl, rfl⟩
  rw [D1.out]
  go_wp2
  go_ret
  exact ⟨rfl, below_al _ _⟩
set_option maxRecDepth 100000 in
set_option maxHeartbeats 1000000 in
theorem new16_no2 (h0 : okRing R) (h1 : 0 ≤ B ∧ B < 65536) (h2 : ¬ (0 ≤ self ∧ self < 8)) (w : World) :
    Calls Tryd.prog 26 #[plV B R, .int .i64 self, .int .i64 peer, .int .i64 own] w fun e w' => e = .returned (.pointer none) ∧ Below w.heap.size w w' := by
  have hR2 : (4 + 11 * R == 0) = false := by have := h0.bd; simp; omega
  have SZ := Lib.hid (show (sizeP R) = 4 + 11 * R from if_pos h0)
  clear h0
  have D1 := Lib.hid (decide_eq_true h1)
  clear h1
  have D2 := Lib.hid (decide_eq_false h2)
  clear h2
  unfold plV
  go_enter Tryd.func26, Tryd.ntmps26
  go_wp2_with fail
  refine (size13_any _ _).mono ?_
  rintro e w' ⟨rfl, rfl⟩
  rw [SZ.out]
  go_wp2_with fail
  refine (below16_any _ _ _).mono ?_
  rintro e w' ⟨rfl, rfl⟩
  rw [D1.out]
  go_wp2_with fail
  refine (below16_any _ _ _).mono ?_
  rintro e w' ⟨rfl, rfl⟩
  rw [D2.out]
  go_wp2
  go_ret
  exact ⟨rfl, below_al _ _⟩
set_option maxRecDepth 100000 in
set_option maxHeartbeats 1000000 in
theorem new16_no3 (h0 : okRing R) (h1 : 0 ≤ B ∧ B < 65536) (h2 : 0 ≤ self ∧ self < 8) (h3 : ¬ (0 ≤ peer ∧ peer < 8)) (w : World) :
    Calls Tryd.prog 26 #[plV B R, .int .i64 self, .int .i64 peer, .int .i64 own] w fun e w' => e = .returned (.pointer none) ∧ Below w.heap.size w w' := by
  have hR2 : (4 + 11 * R == 0) = false := by have := h0.bd; simp; omega
  have SZ := Lib.hid (show (sizeP R) = 4 + 11 * R from if_pos h0)
  clear h0
  have D1 := Lib.hid (decide_eq_true h1)
  clear h1
  have D2 := Lib.hid (decide_eq_true h2)
  clear h2
  have D3 := Lib.hid (decide_eq_false h3)
  clear h3
  unfold plV
  go_enter Tryd.func26, Tryd.ntmps26
  go_wp2_with fail
  refine (size13_any _ _).mono ?_
  rintro e w' ⟨rfl, rfl⟩
  rw [SZ.out]
  go_wp2_with fail
  refine (below16_any _ _ _).mono ?_
  rintro e w' ⟨rfl, rfl⟩
  rw [D1.out]
  go_wp2_with fail
  refine (below16_any _ _ _).mono ?_
  rintro e w' ⟨rfl, rfl⟩
  rw [D2.out]
  go_wp2_with fail
  refine (below16_any _ _ _).mono ?_
  rintro e w' ⟨rfl, rfl⟩
  rw [D3.out]
  go_wp2
  go_ret
  exact ⟨rfl, below_al _ _⟩
set_option maxRecDepth 100000 in
set_option maxHeartbeats 1000000 in
theorem new16_no4 (h0 : okRing R) (h1 : 0 ≤ B ∧ B < 65536) (h2 : 0 ≤ self ∧ self < 8) (h3 : 0 ≤ peer ∧ peer < 8) (h4 : self = peer) (w : World) :
    Calls Tryd.prog 26 #[plV B R, .int .i64 self, .int .i64 peer, .int .i64 own] w fun e w' => e = .returned (.pointer none) ∧ Below w.heap.size w w' := by
  have hR2 : (4 + 11 * R == 0) = false := by have := h0.bd; simp; omega
  have SZ := Lib.hid (show (sizeP R) = 4 + 11 * R from if_pos h0)
  clear h0
  have D1 := Lib.hid (decide_eq_true h1)
  clear h1
  have D2 := Lib.hid (decide_eq_true h2)
  clear h2
  have D3 := Lib.hid (decide_eq_true h3)
  clear h3
  have hsp : (self == peer) = true := by rw [h4]; simp
  clear h4
  unfold plV
  go_enter Tryd.func26, Tryd.ntmps26
  go_wp2_with fail
  refine (size13_any _ _).mono ?_
  rintro e w' ⟨rfl, rfl⟩
  rw [SZ.out]
  go_wp2_with fail
  refine (below16_any _ _ _).mono ?_
  rintro e w' ⟨rfl, rfl⟩
  rw [D1.out]
  go_wp2_with fail
  refine (below16_any _ _ _).mono ?_
  rintro e w' ⟨rfl, rfl⟩
  rw [D2.out]
  go_wp2_with fail
  refine (below16_any _ _ _).mono ?_
  rintro e w' ⟨rfl, rfl⟩
  rw [D3.out]
  go_wp2
  go_ret
  exact ⟨rfl, below_al _ _⟩
set_option maxRecDepth 100000 in
set_option maxHeartbeats 1000000 in
theorem new16_no5 (h0 : okRing R) (h1 : 0 ≤ B ∧ B < 65536) (h2 : 0 ≤ self ∧ self < 8) (h3 : 0 ≤ peer ∧ peer < 8) (h4 : self ≠ peer) (h5 : ¬ (0 ≤ own ∧ own < 65536)) (w : World) :
    Calls Tryd.prog 26 #[plV B R, .int .i64 self, .int .i64 peer, .int .i64 own] w fun e w' => e = .returned (.pointer none) ∧ Below w.heap.size w w' := by
  have hR2 : (4 + 11 * R == 0) = false := by have := h0.bd; simp; omega
  have SZ := Lib.hid (show (sizeP R) = 4 + 11 * R from if_pos h0)
  clear h0
  have D1 := Lib.hid (decide_eq_true h1)
  clear h1
  have D2 := Lib.hid (decide_eq_true h2)
  clear h2
  have D3 := Lib.hid (decide_eq_true h3)
  clear h3
  have hsp : (self == peer) = false := by simpa using h4
  clear h4
  have D5 := Lib.hid (decide_eq_false h5)
  clear h5
  unfold plV
  go_enter Tryd.func26, Tryd.ntmps26
  go_wp2_with fail
  refine (size13_any _ _).mono ?_
  rintro e w' ⟨rfl, rfl⟩
  rw [SZ.out]
  go_wp2_with fail
  refine (below16_any _ _ _).mono ?_
  rintro e w' ⟨rfl, rfl⟩
  rw [D1.out]
  go_wp2_with fail
  refine (below16_any _ _ _).mono ?_
  rintro e w' ⟨rfl, rfl⟩
  rw [D2.out]
  go_wp2_with fail
  refine (below16_any _ _ _).mono ?_
  rintro e w' ⟨rfl, rfl⟩
  rw [D3.out]
  go_wp2_with fail
  refine (below16_any _ _ _).mono ?_
  rintro e w' ⟨rfl, rfl⟩
  rw [D5.out]
  go_wp2
  go_ret
  exact ⟨rfl, below_al _ _⟩
theorem new16_no (h : ¬ ok16 B R self peer own) (w : World) :
    Calls Tryd.prog 26 #[plV B R, .int .i64 self, .int .i64 peer, .int .i64 own] w fun e w' => e = .returned (.pointer none) ∧ Below w.heap.size w w' := by
  by_cases h0 : okRing R
  · by_cases h1 : 0 ≤ B ∧ B < 65536
    · by_cases h2 : 0 ≤ self ∧ self < 8
      · by_cases h3 : 0 ≤ peer ∧ peer < 8
        · by_cases h4 : self = peer
          · exact new16_no4 h0 h1 h2 h3 h4 w
          · exact new16_no5 h0 h1 h2 h3 h4 (fun h5 => h ⟨h0, h1, h2, h3, h4, h5⟩) w
        · exact new16_no3 h0 h1 h2 h3 w
      · exact new16_no2 h0 h1 h2 w
    · exact new16_no1 h0 h1 w
  · exact new16_no0 h0 w
set_option maxRecDepth 100000 in
set_option maxHeartbeats 2000000 in
theorem new16_yes (r : Nat) (h : ok16 B (r : Int) self peer own) (w : World) :
    Calls Tryd.prog 26 #[plV B (r : Int), .int .i64 self, .int .i64 peer, .int .i64 own] w (Made16 (new16 B r peer own) w) := by
  obtain ⟨h0, h1, h2, h3, h4, h5⟩ := h
  have hr64 : r ≤ 64 := by have := h0.bd; omega
  have hR2 : (4 + 11 * (r : Int) == 0) = false := by simp; omega
  have SZ := Lib.hid (show (sizeP (r : Int)) = 4 + 11 * (r : Int) from if_pos h0)
  have hsp : (self == peer) = false := by simpa using h4
  have D1 := Lib.hid (decide_eq_true h1)
  have D2 := Lib.hid (decide_eq_true h2)
  have D3 := Lib.hid (decide_eq_true h3)
  have D5 := Lib.hid (decide_eq_true h5)
  have UN := Lib.hid (fun W => unlinked16_any r hr64 W)
  clear h0 h1 h2 h3 h4 h5
  unfold plV
  obtain ⟨w1, hw1⟩ : ∃ w1, w1 = w.alloc (.cells #[.int .i64 B, .int .i64 (r : Int)] 23) := ⟨_, rfl⟩
  have R0 : Hid (Row w1 w.heap.size 23 [.int .i64 B, .int .i64 (r : Int)]) := Lib.hid (by rw [hw1]; exact Row.new w _ #[.int .i64 B, .int .i64 (r : Int)])
  have B1 : Hid (Below w.heap.size w w1) := Lib.hid (by rw [hw1]; exact below_al _ _)
  go_enter Tryd.func26, Tryd.ntmps26
  go_wp2_with fail
  refine (size13_any _ _).mono ?_
  rintro e w' ⟨rfl, rfl⟩
  rw [SZ.out]
  go_wp2_with fail
  refine (below16_any _ _ _).mono ?_
  rintro e w' ⟨rfl, rfl⟩
  rw [D1.out]
  go_wp2_with fail
  refine (below16_any _ _ _).mono ?_
  rintro e w' ⟨rfl, rfl⟩
  rw [D2.out]
  go_wp2_with fail
  refine (below16_any _ _ _).mono ?_
  rintro e w' ⟨rfl, rfl⟩
  rw [D3.out]
  go_wp2_with fail
  refine (below16_any _ _ _).mono ?_
  rintro e w' ⟨rfl, rfl⟩
  rw [D5.out]
  go_wp2
  rw [← hw1]
  clear hw1
  have HT : Hid (∀ W, Below w1.heap.size w1 W → W.cell? ⟨w.heap.size, 0, none⟩ = some (.int .i64 B) ∧ W.cell? ⟨w.heap.size, 1, none⟩ = some (.int .i64 (r : Int)) ∧ Below w1.heap.size w1 W) := Lib.hid (fun W hb => ⟨(R0.out.below hb).cell 0, (R0.out.below hb).cell 1, hb⟩)
  generalize hP : w.heap.size = P at *
  go_region_held3 (fun W => W.cell? ⟨P, 0, none⟩ = some (.int .i64 B) ∧ W.cell? ⟨P, 1, none⟩ = some (.int .i64 (r : Int)) ∧ Below w1.heap.size w1 W)
    (first | exact HT.out _ (Below.refl _ _).drew | exact HT.out _ hb6 | exact HT.out _ (hb7 _) | go_keep)
    (first
      | (go_at_call 43; refine (UN.out _).mono ?_; rintro e w5 ⟨f, rfl, rf, hf, hb5⟩; have hb6 : Below w1.heap.size w1 w5 := below_on (Below.refl _ _).drew hb5; have hb7 := fun o => hb6.alloc hb6.size o))
  go_wp2
  go_ret
  subst hP
  have hs1 := B1.out.size
  have hs2 := hb6.size
  have hfl := rf.lt
  have hf' : w1.heap.size ≤ f := hf
  refine ⟨w5.heap.size, .slice (some ⟨f, 0, none⟩) r r, .slice none 0 0, .slice none 0 0, rfl, ⟨Row.new w5 72 _, ?_, World.ownsRow_nil _ _ _ _, World.ownsRow_nil _ _ _ _, (fun _ _ h => by cases h), (fun _ _ h => by cases h), (fun _ h => by cases h)⟩, fun x hx => ?_, (below_on B1.out hb6).trans ((below_al w5 _).mono (Nat.le_trans hs1 hs2))⟩
  · have hl := upto16_len r
    refine ⟨by show (ints (upto16 r)).length = (upto16 r).length * 1; rw [ints_len, Nat.mul_one], .inr ⟨f, r, (ints (upto16 r)).toArray, by show _ = Value.slice _ (upto16 r).length _; rw [hl], Nat.zero_le _, rf.below (below_al _ _), by show (upto16 r).length ≤ r; omega, by unfold maxLen; omega, by simp [ints_len, hl], ?_⟩⟩
    show List.take ((upto16 r).length * 1) (ints (upto16 r)) = ints (upto16 r)
    rw [List.take_of_length_le (by rw [ints_len]; omega)]
  · rcases hx with rfl | h | h | h
    · omega
    · simp only [Value.ownBlock, Option.some.injEq] at h
      omega
    · cases h
    · cases h
end
end

section
open Go.ChangeShapes Go.WideShapes Go.ChangeAt Go.RowKit
section
variable {g : Nat} {G : Gv} {vf vo vl : Value} {w w1 : World}
/-- Another list lies in the place of the free slots. -/
theorem GAt.setFree (r : GAt w g G vf vo vl) {v' : Value} {xs : List Int} (ho : Only (fun x => vf.ownBlock = some x) w w1) (o1 : w1.ownsRow 0 3 1 v' xs.length (ints xs)) (hat : v'.ownBlock = vf.ownBlock ∨ ∃ x, v'.ownBlock = some x ∧ w.heap.size ≤ x) :
    GAt (w1.setCell ⟨g, 9, none⟩ v') g { G with free := xs } v' vo vl ∧ Only (own16 g vf vo vl) w (w1.setCell ⟨g, 9, none⟩ v') ∧ ∀ x, own16 g v' vo vl x → own16 g vf vo vl x ∨ w.heap.size ≤ x := by
  have r1 := r.row.only ho (fun e => r.fg e)
  have h2 := only_put16 w1 g 9 v'
  have hne : ∀ x, v'.ownBlock = some x → ¬ x = g := fun x hx e => by
    rcases hat with h | ⟨y, h, hy⟩
    · exact r.fg (by rw [← h, hx, e])
    · rw [hx] at h; injection h with h; have := r.row.lt; omega
  have hnx : ∀ (u : Value) (n : Nat) (xs : List Value), w.ownsRow 0 3 1 u n xs → (∀ x, vf.ownBlock = some x → u.ownBlock ≠ some x) → ∀ x, v'.ownBlock = some x → u.ownBlock ≠ some x := fun u n xs hu hd x hx e => by
    rcases hat with h | ⟨y, h, hy⟩
    · exact hd x (by rw [← h, hx]) e
    · rw [hx] at h; injection h with h; have := (hu.lt x e).2; omega
  have hO := (ho.mono (T := own16 g vf vo vl) (fun _ _ h => .inr (.inl h))).trans (h2.mono (fun _ _ h => .inl h))
  refine ⟨⟨?_, own_quiet o1 (fun x hx => h2.block x (o1.lt x hx).2 (hne x hx)), ?_, ?_, ?_, ?_, r.ol⟩, hO, fun x h => ?_⟩
  · exact r1.put 9 v'
  · exact own_quiet (own_quiet r.out (fun x hx => ho.block x (r.out.lt x hx).2 (fun e => r.fo x e hx))) (fun x hx => h2.block x (Nat.lt_of_lt_of_le (r.out.lt x hx).2 ho.size) (fun e => r.og (by rw [hx, e])))
  · exact own_quiet (own_quiet r.load (fun x hx => ho.block x (r.load.lt x hx).2 (fun e => r.fl x e hx))) (fun x hx => h2.block x (Nat.lt_of_lt_of_le (r.load.lt x hx).2 ho.size) (fun e => r.lg (by rw [hx, e])))
  · exact hnx _ _ _ r.out r.fo
  · exact hnx _ _ _ r.load r.fl
  · rcases h with h | h | h | h
    · exact .inl (.inl h)
    · rcases hat with e | ⟨y, e, hy⟩
      · exact .inl (.inr (.inl (by rw [← e, h])))
      · rw [h] at e; injection e with e; exact .inr (by omega)
    · exact .inl (.inr (.inr (.inl h)))
    · exact .inl (.inr (.inr (.inr h)))
/-- Another list lies in the place of the slots that are out. -/
theorem GAt.setOut (r : GAt w g G vf vo vl) {v' : Value} {xs : List Int} (ho : Only (fun x => vo.ownBlock = some x) w w1) (o1 : w1.ownsRow 0 3 1 v' xs.length (ints xs)) (hat : v'.ownBlock = vo.ownBlock ∨ ∃ x, v'.ownBlock = some x ∧ w.heap.size ≤ x) :
    GAt (w1.setCell ⟨g, 10, none⟩ v') g { G with out := xs } vf v' vl ∧ Only (own16 g vf vo vl) w (w1.setCell ⟨g, 10, none⟩ v') ∧ ∀ x, own16 g vf v' vl x → own16 g vf vo vl x ∨ w.heap.size ≤ x := by
  have r1 := r.row.only ho (fun e => r.og e)
  have h2 := only_put16 w1 g 10 v'
  have hne : ∀ x, v'.ownBlock = some x → ¬ x = g := fun x hx e => by
    rcases hat with h | ⟨y, h, hy⟩
    · exact r.og (by rw [← h, hx, e])
    · rw [hx] at h; injection h with h; have := r.row.lt; omega
  have hO := (ho.mono (T := own16 g vf vo vl) (fun _ _ h => .inr (.inr (.inl h)))).trans (h2.mono (fun _ _ h => .inl h))
  refine ⟨⟨?_, ?_, own_quiet o1 (fun x hx => h2.block x (o1.lt x hx).2 (hne x hx)), ?_, fun x hx e => ?_, r.fl, fun x hx e => ?_⟩, hO, fun x h => ?_⟩
  · exact r1.put 10 v'
  · exact own_quiet (own_quiet r.free (fun x hx => ho.block x (r.free.lt x hx).2 (fun e => r.fo x hx e))) (fun x hx => h2.block x (Nat.lt_of_lt_of_le (r.free.lt x hx).2 ho.size) (fun e => r.fg (by rw [hx, e])))
  · exact own_quiet (own_quiet r.load (fun x hx => ho.block x (r.load.lt x hx).2 (fun e => r.ol x e hx))) (fun x hx => h2.block x (Nat.lt_of_lt_of_le (r.load.lt x hx).2 ho.size) (fun e => r.lg (by rw [hx, e])))
  · rcases hat with h | ⟨y, h, hy⟩
    · exact r.fo x hx (by rw [← h, e])
    · rw [e] at h; injection h with h; have := (r.free.lt x hx).2; omega
  · rcases hat with h | ⟨y, h, hy⟩
    · exact r.ol x (by rw [← h, hx]) e
    · rw [hx] at h; injection h with h; have := (r.load.lt x e).2; omega
  · rcases h with h | h | h | h
    · exact .inl (.inl h)
    · exact .inl (.inr (.inl h))
    · rcases hat with e | ⟨y, e, hy⟩
      · exact .inl (.inr (.inr (.inl (by rw [← e, h]))))
      · rw [h] at e; injection e with e; exact .inr (by omega)
    · exact .inl (.inr (.inr (.inr h)))
/-- One call behind another. -/
theorem GP16.trans {w2 : World} {G2 : Gv} {vf1 vo1 vl1 ans : Value} {e : Ending} (h1 : Only (own16 g vf vo vl) w w1) (n1 : ∀ x, own16 g vf1 vo1 vl1 x → own16 g vf vo vl x ∨ w.heap.size ≤ x) (h2 : GP16 g G2 vf1 vo1 vl1 ans w1 e w2) : GP16 g G2 vf vo vl ans w e w2 := by
  obtain ⟨vf', vo', vl', he, r, o2, n2⟩ := h2
  have hs := h1.size
  refine ⟨vf', vo', vl', he, r, h1.then14 o2 (fun x hx h => (n1 x h).resolve_right (by omega)), fun x h => ?_⟩
  rcases n2 x h with h | h
  · exact n1 x h
  · exact .inr (by omega)
/-- What asked answers, and what it leaves. -/
def askN16 (G : Gv) (x : Int) : Bool := !G.knows || x != G.known
def askS16 (G : Gv) (x : Int) : Nat := if askN16 G x then 2 else if G.linked then 6 else 5
def askG16 (G : Gv) (x : Int) : Gv := if askN16 G x then { G with known := x, knows := true } else G
set_option maxRecDepth 100000 in
set_option maxHeartbeats 1000000 in
theorem asked16_any (x : Int) (w : World) (r : GAt w g G vf vo vl) :
    Calls Tryd.prog 55 #[.pointer (some ⟨g, 0, none⟩), .int .i64 x] w (GP16 g (askG16 G x) vf vo vl (.int .i64 (askS16 G x : Int)) w) := by
  have R := Lib.hid r
  have c4 := r.row.cell 4
  have c5 := r.row.cell 5
  have c8 := r.row.cell 8
  have f4 := r.row.soft 4
  have f5 := r.row.soft 5
  simp only [gvC, List.getElem?_cons_zero, List.getElem?_cons_succ] at c4 c5 c8
  have fin1 : askN16 G x = true → ∀ w', Only (· = g) w w' → Row w' g 72 (gvC { G with known := x, knows := true } vf vo vl) → GP16 g (askG16 G x) vf vo vl (.int .i64 (askS16 G x : Int)) w (.returned (.int .i64 2)) w' := fun h w' ho hr => by
    have e1 : askS16 G x = 2 := by unfold askS16; rw [h]; rfl
    have e2 : askG16 G x = { G with known := x, knows := true } := by unfold askG16; rw [if_pos h]
    rw [e1, e2]
    exact GP16.one R.out ho hr rfl rfl rfl
  have fin2 : askN16 G x = false → ∀ n : Nat, (if G.linked then 6 else 5) = n → GP16 g (askG16 G x) vf vo vl (.int .i64 (askS16 G x : Int)) w (.returned (.int .i64 (n : Int))) w := fun h n hn => by
    have e1 : askS16 G x = n := by unfold askS16; rw [h, ← hn]; rfl
    have e2 : askG16 G x = G := by unfold askG16; rw [h]; rfl
    rw [e1, e2]
    exact GP16.one R.out (Only.refl _ _) R.out.row rfl rfl rfl
  have F1 := Lib.hid fin1
  have F2 := Lib.hid fin2
  have hr1 : Row ((w.setCell ⟨g, 4, none⟩ (.int .i64 x)).setCell ⟨g, 5, none⟩ (.bool true)) g 72 (gvC { G with known := x, knows := true } vf vo vl) := (r.row.put 4 (.int .i64 x)).put 5 (.bool true)
  have HR1 := Lib.hid hr1
  clear r fin1 fin2 hr1
  cases hk : G.knows with
  | false =>
    rw [hk] at c5
    have HN : Hid (askN16 G x = true) := Lib.hid (by unfold askN16; rw [hk]; rfl)
    clear hk
    go_enter Tryd.func55, Tryd.ntmps55
    go_wp2
    go_ret
    exact F1.out HN.out _ ((only_put16 w g 4 _).put16 5 _) HR1.out
  | true =>
    rw [hk] at c5
    by_cases hx : x = G.known
    · have HN : Hid (askN16 G x = false) := Lib.hid (by unfold askN16; rw [hk]; simp [hx])
      have e0 : (x != G.known) = false := by simp [hx]
      clear hk hx
      cases hl : G.linked with
      | false =>
        rw [hl] at c8
        have HL := Lib.hid hl; clear hl
        go_enter Tryd.func55, Tryd.ntmps55
        go_wp2
        go_ret
        exact F2.out HN.out 5 (by rw [HL.out]; rfl)
      | true =>
        rw [hl] at c8
        have HL := Lib.hid hl; clear hl
        go_enter Tryd.func55, Tryd.ntmps55
        go_wp2
        go_ret
        exact F2.out HN.out 6 (by rw [HL.out]; rfl)
    · have HN : Hid (askN16 G x = true) := Lib.hid (by unfold askN16; rw [hk]; simpa using hx)
      have e0 : (x != G.known) = true := by simpa using hx
      clear hk hx
      go_enter Tryd.func55, Tryd.ntmps55
      go_wp2
      go_ret
      exact F1.out HN.out _ ((only_put16 w g 4 _).put16 5 _) HR1.out
/-- What judge answers, and what it leaves. -/
def judE16 (G : Gv) (x : Int) : Int := if x = G.known then G.res else 8
def judG16 (G : Gv) (x : Int) : Gv := if x = G.known ∧ G.res = 0 then { G with next := addW G.next 1 } else G
set_option maxRecDepth 100000 in
set_option maxHeartbeats 1000000 in
theorem judge16_any (x : Int) (w : World) (r : GAt w g G vf vo vl) :
    Calls Tryd.prog 60 #[.pointer (some ⟨g, 0, none⟩), .int .i64 x] w (GP16 g (judG16 G x) vf vo vl (.int .i64 (judE16 G x)) w) := by
  have R := Lib.hid r
  have c4 := r.row.cell 4
  have c11 := r.row.cell 11
  have c16 := r.row.cell 16
  have f11 := r.row.soft 11
  simp only [gvC, List.getElem?_cons_zero, List.getElem?_cons_succ] at c4 c11 c16
  have HR1 : Hid (Row (w.setCell ⟨g, 11, none⟩ (.int .i64 (addW G.next 1))) g 72 (gvC { G with next := addW G.next 1 } vf vo vl)) := Lib.hid (r.row.put 11 (.int .i64 (addW G.next 1)))
  have AD := Lib.hid (fun W => add_any G.next 1 W)
  clear r
  by_cases hx : x = G.known
  · have e0 : (x != G.known) = false := by simp [hx]
    by_cases h0 : G.res = 0
    · have HE : Hid (judE16 G x = 0 ∧ judG16 G x = { G with next := addW G.next 1 }) := Lib.hid ⟨by unfold judE16; rw [if_pos hx, h0], by unfold judG16; rw [if_pos ⟨hx, h0⟩]⟩
      have hcell : (w.setCell ⟨g, 11, none⟩ (.int .i64 (addW G.next 1))).cell? ⟨g, 16, none⟩ = some (.int .i64 0) := by rw [HR1.out.cell 16]; simp [gvC, h0]
      rw [h0] at c16
      clear hx h0
      go_enter Tryd.func60, Tryd.ntmps60
      go_wp2_with (go_at_call 65; refine (AD.out _).mono ?_; rintro e w' ⟨rfl, rfl⟩)
      go_ret
      rw [HE.out.1, HE.out.2]
      exact GP16.one R.out (only_put16 _ _ _ _) HR1.out rfl rfl rfl
    · have HE : Hid (judE16 G x = G.res ∧ judG16 G x = G) := Lib.hid ⟨by unfold judE16; rw [if_pos hx], by unfold judG16; rw [if_neg (fun h => h0 h.2)]⟩
      have e1 : (G.res == 0) = false := by simpa using h0
      clear hx h0
      go_enter Tryd.func60, Tryd.ntmps60
      go_wp2
      go_ret
      rw [HE.out.1, HE.out.2]
      exact GP16.one R.out (Only.refl _ _) R.out.row rfl rfl rfl
  · have e0 : (x != G.known) = true := by simpa using hx
    have HE : Hid (judE16 G x = 8 ∧ judG16 G x = G) := Lib.hid ⟨by unfold judE16; rw [if_neg hx], by unfold judG16; rw [if_neg (fun h => hx h.1)]⟩
    clear hx
    go_enter Tryd.func60, Tryd.ntmps60
    go_wp2
    go_ret
    rw [HE.out.1, HE.out.2]
    exact GP16.one R.out (Only.refl _ _) R.out.row rfl rfl rfl
/-- What take answers, and what it leaves. -/
def takB16 (G : Gv) : Bool := !G.free.isEmpty
def takG16 (G : Gv) : Gv := match G.free with | [] => G | d :: fs => { G with free := fs, out := G.out ++ [d] }
set_option maxRecDepth 100000 in
set_option maxHeartbeats 4000000 in
theorem take16_any (w : World) (r : GAt w g G vf vo vl) (hl : G.out.length ≤ 100) (hf : G.free.length ≤ 100) :
    Calls Tryd.prog 61 #[.pointer (some ⟨g, 0, none⟩)] w (GP16 g (takG16 G) vf vo vl (.bool (takB16 G)) w) := by
  obtain ⟨i0, hi0, hz0, hz1, hz2⟩ := info_parts int_info
  have R := Lib.hid r
  have c9 := r.row.cell 9
  have c10 := r.row.cell 10
  simp only [gvC, List.getElem?_cons_zero, List.getElem?_cons_succ] at c9 c10
  cases hfr : G.free with
  | nil =>
    have HE : Hid (takB16 G = false ∧ takG16 G = G) := Lib.hid ⟨by unfold takB16; rw [hfr]; rfl, by unfold takG16; rw [hfr]⟩
    obtain ⟨A, c, rfl⟩ := own_open14 r.free
    rw [hfr] at c9
    have hfl : G.free.length = 0 := by rw [hfr]; rfl
    clear r
    go_enter Tryd.func61, Tryd.ntmps61
    go_wp2
    go_ret
    rw [HE.out.1, HE.out.2]
    exact GP16.one R.out (Only.refl _ _) R.out.row rfl rfl rfl
  | cons d fs =>
    have HE : Hid (takB16 G = true ∧ takG16 G = { G with free := fs, out := G.out ++ [d] }) := Lib.hid ⟨by unfold takB16; rw [hfr]; rfl, by unfold takG16; rw [hfr]⟩
    obtain ⟨k, hk⟩ : ∃ k, fs.length = k := ⟨_, rfl⟩
    have hfk : G.free.length = k + 1 := by rw [hfr, List.length_cons, hk]
    have OF := r.free
    rw [hfk] at OF hf
    obtain ⟨b, cf, rfl, _, hblt⟩ := OF.form (by omega)
    have OF0 : w.cell? ⟨b, 0, none⟩ = some (.int .i64 d) := (OF.cellAt 0 (by omega)).trans (by rw [hfr]; rfl)
    obtain ⟨A, c, rfl⟩ := own_open14 r.out
    obtain ⟨n, hn⟩ : ∃ n, G.out.length = n := ⟨_, rfl⟩
    have OO := r.out
    rw [hn] at c10 R hl OO ⊢
    have HO := Lib.hid OO
    have HN := Lib.hid hn
    have HFR := Lib.hid hfr
    have hgl := r.row.lt
    have e1 : (((k + 1 : Nat) : Int) == 0) = false := by simp; omega
    have e2 : ((k : Int) + 1 == 0) = false := by simp; omega
    have e3 : (0 : Int) < (k : Int) + 1 := by omega
    have e4 : (0 : Int) < ((k + 1 : Nat) : Int) := by omega
    clear r hn hfr OF OO
    go_enter Tryd.func61, Tryd.ntmps61
    go_wp2
    go_region_law (refine app14_step _ rfl (.tmp 15) (.tmp 23) 33 rfl 0 3 i0 _ 1 8 Tryd.underlying33 hi0 hz0 hz1 hz2 rfl (by omega) _ _ _ rfl (own_quiet HO.out (fun x hx => (show Below w.heap.size w _ from by go_grown).block x (HO.out.lt x hx).2)) _ 1 1 [.int .i64 d] rfl rfl (cells_new14 _ _ _ _ (by simp)) (by intro q hq; simp at hq; subst hq; rfl) (by unfold maxLen; omega) (by omega) (by simp) ?_; intro v1 w1 hown1 hg1 hat1; obtain ⟨g', cap', rfl, hbg, hlt'⟩ := hown1.form (by omega); have HR1 := Lib.hid ((R.out.row.below (show Below w.heap.size w _ from by go_grown)).of_grown hg1 (fun e => R.out.og e.symm)); have hc1 := HR1.out.cell 10; simp only [gvC, List.getElem?_cons_zero, List.getElem?_cons_succ] at hc1; have hf1 := HR1.out.soft 10; have OG1 := Lib.hid ((Only.of_below (show Below w.heap.size w _ from by go_grown) (fun x => (Value.slice A n c).ownBlock = some x)).trans (Only.of_own hg1)); have HA1 : Hid (Value.ownBlock (.slice (some ⟨g', 0, none⟩) (n + 1) cap') = (Value.slice A n c).ownBlock ∨ ∃ x, Value.ownBlock (.slice (some ⟨g', 0, none⟩) (n + 1) cap') = some x ∧ w.heap.size ≤ x) := Lib.hid (hat1.imp id (fun e => ⟨_, e, by simp⟩)); have HO1 := Lib.hid hown1; clear hown1 hg1 hat1 HR1)
    all_goals
      have S2 := Lib.hid (R.out.setOut (xs := G.out ++ [d]) OG1.out (by rw [List.length_append, HN.out, ints_append]; exact HO1.out) HA1.out)
      obtain ⟨w2, hw2⟩ : ∃ w2, w2 = w1.setCell ⟨g, 10, none⟩ (.slice (some ⟨g', 0, none⟩) (n + 1) cap') := ⟨_, rfl⟩
      rw [← hw2] at S2 ⊢
      clear hc1 hf1 hw2
      have d9 := S2.out.1.row.cell 9
      have hf2 := S2.out.1.free
      have KD := Lib.hid (del16_any _ _ 0 0 1 rfl rfl w2 hf2 (by show 0 < G.free.length; omega) (by show G.free.length ≤ 65536; omega))
      simp only [gvC, List.getElem?_cons_zero, List.getElem?_cons_succ] at d9
      clear hf2
      go_wp2_with fail
      refine KD.out.mono ?_
      rintro e w3 ⟨v3, rfl, o3, hb3, ho3⟩
      have HR3 := Lib.hid (S2.out.1.row.only ho3 (fun e => S2.out.1.fg e))
      have hc3 := HR3.out.cell 9
      have hf3 := HR3.out.soft 9
      simp only [gvC, List.getElem?_cons_zero, List.getElem?_cons_succ] at hc3
      have e9 : (({ G with out := G.out ++ [d] } : Gv).free.eraseIdx 0) = fs := by show G.free.eraseIdx 0 = fs; rw [HFR.out]; rfl
      rw [e9] at o3
      have S3 := Lib.hid (S2.out.1.setFree ho3 o3 (.inl hb3))
      have o4 : w3.ownsRow 0 3 1 v3 k (ints fs) := by rw [← hk]; exact o3
      obtain ⟨A3, c3, rfl⟩ := own_open14 o4
      clear o4 e9
      clear o3 hb3 ho3
      go_wp2
      go_ret
      rw [HE.out.1, HE.out.2]
      obtain ⟨r3, oo3, n3⟩ := S3.out
      exact GP16.trans S2.out.2.1 S2.out.2.2 ⟨_, _, _, rfl, r3, oo3, n3⟩
/-- What regain leaves where the slot is out. -/
def regG16 (G : Gv) (x : Int) : Gv := { G with out := G.out.erase x, free := G.free ++ [x], tail := addW G.tail 1 }
theorem idx_erase {l : List Int} {x : Int} {k : Nat} (h : l[k]? = some x) (hn : NoneTo l x k) : l.eraseIdx k = l.erase x := by
  induction l generalizing k with
  | nil => simp at h
  | cons a l ih =>
    cases k with
    | zero =>
      simp only [List.getElem?_cons_zero, Option.some.injEq] at h
      subst h
      simp
    | succ k =>
      have ha : a ≠ x := fun e => hn 0 (by omega) (by rw [e]; rfl)
      rw [List.erase_cons_tail (by simpa using ha), List.eraseIdx_cons_succ, ih (by simpa using h) (fun j hj e => hn (j + 1) (by omega) (by simpa using e))]
set_option maxRecDepth 100000 in
set_option maxHeartbeats 1000000 in
theorem regain16_no (x : Int) (w : World) (r : GAt w g G vf vo vl) (hl : G.out.length ≤ 100) (hx : x ∉ G.out) :
    Calls Tryd.prog 59 #[.pointer (some ⟨g, 0, none⟩), .int .i64 x] w fun e w' => e = .returned (.bool false) ∧ w = w' := by
  have c10 := r.row.cell 10
  simp only [gvC, List.getElem?_cons_zero, List.getElem?_cons_succ] at c10
  have KI := Lib.hid (index16_any _ G.out _ x w (Lies.of_own r.out) (by omega))
  obtain ⟨A, c, rfl⟩ := own_open14 r.out
  have HX := Lib.hid hx
  clear r hx
  go_enter Tryd.func59, Tryd.ntmps59
  go_wp2_with fail
  refine KI.out.mono ?_
  rintro e w' ⟨⟨n, rfl, hn⟩, rfl⟩
  rcases hn with ⟨rfl, _⟩ | ⟨k, rfl, hk, _⟩
  · go_wp2
    go_ret
    exact ⟨rfl, rfl⟩
  · exact absurd (List.mem_of_getElem? hk) HX.out
set_option maxRecDepth 100000 in
set_option maxHeartbeats 4000000 in
theorem regain16_yes (x : Int) (w : World) (r : GAt w g G vf vo vl) (hl : G.out.length ≤ 100) (hf : G.free.length ≤ 100) (hx : x ∈ G.out) :
    Calls Tryd.prog 59 #[.pointer (some ⟨g, 0, none⟩), .int .i64 x] w (GP16 g (regG16 G x) vf vo vl (.bool true) w) := by
  obtain ⟨i0, hi0, hz0, hz1, hz2⟩ := info_parts int_info
  have c10 := r.row.cell 10
  simp only [gvC, List.getElem?_cons_zero, List.getElem?_cons_succ] at c10
  have KI := Lib.hid (index16_any _ G.out _ x w (Lies.of_own r.out) (by omega))
  have HDL := Lib.hid (fun (k : Nat) (hk : k < G.out.length) => del16_any vo G.out k (k : Int) ((k : Int) + 1) rfl rfl w r.out hk (by omega))
  obtain ⟨A, c, rfl⟩ := own_open14 r.out
  obtain ⟨Af, cf, rfl⟩ := own_open14 r.free
  obtain ⟨nf, hnf⟩ : ∃ n, G.free.length = n := ⟨_, rfl⟩
  have OFl := r.free
  have R := Lib.hid r
  rw [hnf] at hf OFl R ⊢
  have HNF := Lib.hid hnf
  have HX := Lib.hid hx
  have AD := Lib.hid (fun W => add_any G.tail 1 W)
  clear r hx hnf
  go_enter Tryd.func59, Tryd.ntmps59
  go_wp2_with fail
  refine KI.out.mono ?_
  rintro e w' ⟨⟨n, rfl, hn⟩, rfl⟩
  rcases hn with ⟨_, hn⟩ | ⟨k, rfl, hk, hno⟩
  · exact absurd HX.out hn
  have hkl := lt_of_at hk
  have hk0 : ¬ (k : Int) < 0 := by omega
  have KD := Lib.hid (HDL.out k hkl)
  have HE := Lib.hid (idx_erase hk hno)
  have hkw : IntKind.i64.wrap ((k : Int) + 1) = (k : Int) + 1 := IntWalk.i64_in _ (by omega)
  clear hk hno HDL OFl
  go_wp2_with fail
  refine KD.out.mono ?_
  rintro e w1 ⟨v1, rfl, o1, hb1, ho1⟩
  rw [HE.out] at o1
  have HR1 := Lib.hid (R.out.row.only ho1 (fun e => R.out.og e))
  have hc9 := HR1.out.cell 9
  have hc1 := HR1.out.cell 10
  have hf1 := HR1.out.soft 10
  simp only [gvC, List.getElem?_cons_zero, List.getElem?_cons_succ] at hc1 hc9
  have S1 := Lib.hid (R.out.setOut ho1 o1 (.inl hb1))
  obtain ⟨n1, hn1⟩ : ∃ n, (G.out.erase x).length = n := ⟨_, rfl⟩
  rw [hn1] at o1
  obtain ⟨A1, c1, rfl⟩ := own_open14 o1
  have hF2 := S1.out.1.free
  have hF3 : (w1.setCell ⟨g, 10, none⟩ (.slice A1 n1 c1)).ownsRow 0 3 1 (.slice Af nf cf) nf (ints G.free) := by rw [← HNF.out]; rw [← HNF.out] at hF2; exact hF2
  have HF := Lib.hid hF3
  clear o1 hb1 ho1 hF2 hF3
  go_wp2_with (first
    | (go_at_call 65; refine (AD.out _).mono ?_; rintro e w' ⟨rfl, rfl⟩)
    | (at_builtin; go_must ((refine app14_walk rfl (.tmp 33) (.tmp 35) 33 rfl 0 3 i0 _ 1 8 Tryd.underlying33 hi0 hz0 hz1 hz2 rfl (by omega) _ _ _ rfl (HF.out.alloc _) ⟨_, 0, none⟩ 1 1 [.int .i64 x] rfl rfl (cells_new14 _ _ _ _ (by simp [World.setCell])) (by intro u hu; simp at hu; subst hu; rfl) (by unfold maxLen; omega) (by omega) (by simp) ?_); intro v3 w3 hown3 hg3 hat3; obtain ⟨g', cap', rfl, hbg, hlt'⟩ := hown3.form (by omega); have HR3 := Lib.hid ((S1.out.1.row.below (below_al _ (.cells #[.int .i64 x] 3))).of_grown hg3 (fun e => S1.out.1.fg e.symm)); have hd9 := HR3.out.cell 9; have hd12 := HR3.out.cell 12; have hg9 := HR3.out.soft 9; have hg12 := HR3.out.soft 12; simp only [gvC, List.getElem?_cons_zero, List.getElem?_cons_succ] at hd9 hd12; have OG3 := Lib.hid ((Only.of_below (below_al (w1.setCell ⟨g, 10, none⟩ (.slice A1 n1 c1)) (.cells #[.int .i64 x] 3)) (fun y => (Value.slice Af nf cf).ownBlock = some y)).trans (Only.of_own hg3)); have HA3 : Hid (Value.ownBlock (.slice (some ⟨g', 0, none⟩) (nf + 1) cap') = (Value.slice Af nf cf).ownBlock ∨ ∃ y, Value.ownBlock (.slice (some ⟨g', 0, none⟩) (nf + 1) cap') = some y ∧ (w1.setCell ⟨g, 10, none⟩ (.slice A1 n1 c1)).heap.size ≤ y) := Lib.hid (hat3.imp id (fun e => ⟨_, e, by simp⟩)); have HO3 := Lib.hid hown3; clear hown3 hg3 hat3 hc9 hc1 hf1)))
  go_ret
  have S3 := S1.out.1.setFree (xs := G.free ++ [x]) OG3.out (by rw [List.length_append, HNF.out, ints_append]; exact HO3.out) HA3.out
  refine GP16.trans S1.out.2.1 S1.out.2.2 ⟨.slice (some ⟨g', 0, none⟩) (nf + 1) cap', .slice A1 n1 c1, vl, rfl, ?_, S3.2.1.trans ((only_put16 _ g 12 _).mono (fun _ _ h => .inl h)), S3.2.2⟩
  exact S3.1.turn (only_put16 _ g 12 _) (S3.1.row.put 12 _) rfl rfl rfl
end
end

end Go.Proofs.YteipocjgmgaglaaDoor
