/-
  Layer 16 (giver): New and Send.
  Conditions: those that each theorem states.
-/
import Derived.Test.YtgdbaaoifnedbaaDoorGv2
import Derived.Deep.RegionWith
namespace Go.Proofs.YtgdbaaoifnedbaaDoor
open Go.ChangeShapes Go.WideShapes Go.ChangeAt Go.RowKit

set_option maxRecDepth 100000 in
set_option maxHeartbeats 1000000 in
theorem containsF16_any (P : Nat → Prop) (l : List Int) (v : Value) (w : World) (hv : Lies w P v (ints l)) (hl : l.length ≤ 65536) :
    Calls Tryd.prog 58 #[v, .func (.func 59) #[] #[]] w fun e w' => e = .returned (.bool (!(l.all okW))) ∧ w = w' := by
  have HK := Lib.hid (contains16_any P l v w hv hl)
  obtain ⟨A, n, c, rfl, HN, HV⟩ := lies_open hv
  clear hv hl
  obtain ⟨o, ho⟩ : ∃ o, (!(l.all okW)) = o := ⟨_, rfl⟩
  rw [ho] at HK ⊢
  clear ho
  go_enter Tryd.func58, Tryd.ntmps58
  go_wp2_with fail
  refine HK.out.mono ?_
  rintro e w' ⟨⟨n, rfl, h0⟩, rfl⟩
  go_wp2
  go_ret
  exact ⟨rfl, rfl⟩

/-- What Send answers, and what it leaves. -/
def sendE16 (G : Gv) (l : List Int) : Int := if G.st ≠ 0 then 11 else if 8 < l.length then 18 else if l.all okW then 0 else 2
def sendG16 (G : Gv) (l : List Int) : Gv := if sendE16 G l = 0 then { G with st := 1, load := l, sto := 0, ret := 0, res := 0 } else G

set_option maxRecDepth 100000 in
set_option maxHeartbeats 400000 in
theorem send16_nil (v : Value) (w : World) : Calls Tryd.prog 17 #[.pointer none, v] w fun e w' => e = .returned (.int .i64 1) ∧ w = w' := by
  go_enter Tryd.func17, Tryd.ntmps17
  go_wp2
  go_ret
  exact ⟨rfl, rfl⟩

theorem own_base16 {w : World} {B B' : Nat} {e : TypeId} {size n : Nat} {v : Value} {xs : List Value} (h : w.ownsRow B' e size v n xs) (hB : B ≤ B') : w.ownsRow B e size v n xs :=
  ⟨h.1, h.2.imp id (fun ⟨g, cap, cur, h1, h2, h3⟩ => ⟨g, cap, cur, h1, Nat.le_trans hB h2, h3⟩)⟩

/-- The words of a new call are laid. -/
theorem send16_end {g : Nat} {G : Gv} {vf vo vl v1 : Value} {l : List Int} {w w1 : World} (r : GAt w g G vf vo vl) (o1 : w1.ownsRow w.heap.size 3 1 v1 l.length (ints l)) (hb : Below w.heap.size w w1) :
    GP16 g { G with st := 1, load := l, sto := 0, ret := 0, res := 0 } vf vo vl (.int .i64 0) w (.returned (.int .i64 0)) (((((w1.setCell ⟨g, 6, none⟩ (.int .i64 1)).setCell ⟨g, 13, none⟩ v1).setCell ⟨g, 14, none⟩ (.int .i64 0)).setCell ⟨g, 15, none⟩ (.int .i64 0)).setCell ⟨g, 16, none⟩ (.int .i64 0)) := by
  have R := r.below hb
  have ho : Only (· = g) w1 (((((w1.setCell ⟨g, 6, none⟩ (.int .i64 1)).setCell ⟨g, 13, none⟩ v1).setCell ⟨g, 14, none⟩ (.int .i64 0)).setCell ⟨g, 15, none⟩ (.int .i64 0)).setCell ⟨g, 16, none⟩ (.int .i64 0)) :=
    ((((only_put16 w1 g 6 _).put16 13 _).put16 14 _).put16 15 _).put16 16 _
  have hr := ((((R.row.put 6 (.int .i64 1)).put 13 v1).put 14 (.int .i64 0)).put 15 (.int .i64 0)).put 16 (.int .i64 0)
  have new : ∀ x, v1.ownBlock = some x → w.heap.size ≤ x := fun x hx => (o1.lt x hx).1
  refine ⟨vf, vo, v1, rfl, ⟨hr, ?_, ?_, ?_, r.fo, fun x hx e => ?_, fun x hx e => ?_⟩, (Only.of_below hb _).trans (ho.mono (fun _ _ h => .inl h)), fun x h => ?_⟩
  · exact own_quiet R.free (fun x hx => ho.block x (R.free.lt x hx).2 (fun e => R.fg (by rw [hx, e])))
  · exact own_quiet R.out (fun x hx => ho.block x (R.out.lt x hx).2 (fun e => R.og (by rw [hx, e])))
  · exact own_quiet (own_base16 o1 (Nat.zero_le _)) (fun x hx => ho.block x (o1.lt x hx).2 (fun e => by have := new x hx; have := r.row.lt; omega))
  · have := new x e; have := (r.free.lt x hx).2; omega
  · have := new x e; have := (r.out.lt x hx).2; omega
  · rcases h with h | h | h | h
    · exact .inl (.inl h)
    · exact .inl (.inr (.inl h))
    · exact .inl (.inr (.inr (.inl h)))
    · exact .inr (new x h)

set_option maxRecDepth 100000 in
set_option maxHeartbeats 2000000 in
theorem send16_any {g : Nat} {G : Gv} {vf vo vl : Value} (P : Nat → Prop) (l : List Int) (v : Value) (w : World) (r : GAt w g G vf vo vl) (hv : Lies w P v (ints l)) (hcap : CapOk v) :
    Calls Tryd.prog 17 #[.pointer (some ⟨g, 0, none⟩), v] w (GP16 g (sendG16 G l) vf vo vl (.int .i64 (sendE16 G l)) w) := by
  have R := Lib.hid r
  have KB := Lib.hid (busy16_any w r)
  obtain ⟨A, n, c, rfl, HN, HV⟩ := lies_open hv
  have HC := Lib.hid hcap
  by_cases h0 : G.st = 0
  · have e0 : ((G.st : Int) != 0) = false := by rw [h0]; rfl
    rw [e0] at KB
    clear hcap hv r e0
    by_cases h8 : 8 < n
    · have hE : Hid (sendE16 G l = 18 ∧ sendG16 G l = G) := Lib.hid (by
        have : sendE16 G l = 18 := by unfold sendE16; rw [if_neg (by omega), if_pos (by rw [HN.out]; exact h8)]
        exact ⟨this, by unfold sendG16; rw [if_neg (by rw [this]; decide)]⟩)
      have h8' : (8 : Int) < (n : Int) := by omega
      clear h0
      go_enter Tryd.func17, Tryd.ntmps17
      go_wp2_with fail
      refine KB.out.mono ?_
      rintro e w' ⟨rfl, rfl⟩
      go_wp2
      go_ret
      rw [hE.out.1, hE.out.2]
      exact ⟨vf, vo, vl, rfl, R.out, Only.refl _ _, fun _ h => .inl h⟩
    · have hl8 : l.length ≤ 8 := by rw [HN.out]; omega
      have KC := Lib.hid (containsF16_any _ l _ w HV.out (by omega))
      have h8' : ¬ (8 : Int) < (n : Int) := by omega
      cases ha : l.all okW with
      | false =>
        rw [ha] at KC
        have hE : Hid (sendE16 G l = 2 ∧ sendG16 G l = G) := Lib.hid (by
          have : sendE16 G l = 2 := by unfold sendE16; rw [if_neg (by omega), if_neg (by omega), ha]; rfl
          exact ⟨this, by unfold sendG16; rw [if_neg (by rw [this]; decide)]⟩)
        clear h0 ha hl8
        go_enter Tryd.func17, Tryd.ntmps17
        go_wp2_with fail
        refine KB.out.mono ?_
        rintro e w' ⟨rfl, rfl⟩
        go_wp2_with fail
        refine KC.out.mono ?_
        rintro e w' ⟨rfl, rfl⟩
        go_wp2
        go_ret
        rw [hE.out.1, hE.out.2]
        exact ⟨vf, vo, vl, rfl, R.out, Only.refl _ _, fun _ h => .inl h⟩
      | true =>
        rw [ha] at KC
        have hE : Hid (sendE16 G l = 0 ∧ sendG16 G l = { G with st := 1, load := l, sto := 0, ret := 0, res := 0 }) := Lib.hid (by
          have : sendE16 G l = 0 := by unfold sendE16; rw [if_neg (by omega), if_neg (by omega), ha]; rfl
          exact ⟨this, by unfold sendG16; rw [if_pos this]⟩)
        have KL := Lib.hid (clone14_any _ l _ w HV.out HC.out (by omega))
        clear h0 ha hl8
        go_enter Tryd.func17, Tryd.ntmps17
        go_wp2_with fail
        refine KB.out.mono ?_
        rintro e w' ⟨rfl, rfl⟩
        go_wp2_with fail
        refine KC.out.mono ?_
        rintro e w' ⟨rfl, rfl⟩
        go_wp2_with fail
        refine KL.out.mono ?_
        rintro e w1 ⟨v1, rfl, o1, b1⟩
        obtain ⟨A1, c1, rfl⟩ := own_open14 o1
        have R1 := Lib.hid (R.out.below b1)
        have c6 := R1.out.row.cell 6
        have c13 := R1.out.row.cell 13
        have c14 := R1.out.row.cell 14
        have c15 := R1.out.row.cell 15
        have c16 := R1.out.row.cell 16
        have f6 := R1.out.row.soft 6
        have f13 := R1.out.row.soft 13
        have f14 := R1.out.row.soft 14
        have f15 := R1.out.row.soft 15
        have f16 := R1.out.row.soft 16
        simp only [gvC, List.getElem?_cons_zero, List.getElem?_cons_succ] at c6 c13 c14 c15 c16
        have O1 := Lib.hid o1
        have B1 := Lib.hid b1
        clear o1 b1
        go_wp2
        go_ret
        rw [hE.out.1, hE.out.2]
        exact send16_end R.out O1.out B1.out
  · have e0 : ((G.st : Int) != 0) = true := by simpa using h0
    rw [e0] at KB
    have hE : Hid (sendE16 G l = 11 ∧ sendG16 G l = G) := Lib.hid (by
      have : sendE16 G l = 11 := by unfold sendE16; rw [if_pos (by omega)]
      exact ⟨this, by unfold sendG16; rw [if_neg (by rw [this]; decide)]⟩)
    clear h0 e0 r hcap hv
    go_enter Tryd.func17, Tryd.ntmps17
    go_wp2_with fail
    refine KB.out.mono ?_
    rintro e w' ⟨rfl, rfl⟩
    go_wp2
    go_ret
    rw [hE.out.1, hE.out.2]
    exact ⟨vf, vo, vl, rfl, R.out, Only.refl _ _, fun _ h => .inl h⟩

/-- The numbers from 0 on. -/
def upto16 (n : Nat) : List Int := (List.range n).map (fun (i : Nat) => (i : Int))
theorem upto16_len (n : Nat) : (upto16 n).length = n := by simp [upto16]
def fill16 (n k : Nat) : List Int := upto16 k ++ List.replicate (n - k) 0
theorem fill16_len {n k : Nat} (h : k ≤ n) : (fill16 n k).length = n := by simp [fill16, upto16_len]; omega
theorem fill16_set {n k : Nat} (h : k < n) : (fill16 n k).set k (k : Int) = fill16 n (k + 1) := by
  unfold fill16
  rw [List.set_append, upto16_len, if_neg (by omega), Nat.sub_self, show n - k = (n - (k + 1)) + 1 from by omega, List.replicate_succ, List.set_cons_zero]
  simp [upto16, List.range_succ]

/-- What unlinked leaves. -/
def UnlP16 (n : Nat) (w : World) (e : Ending) (w' : World) : Prop :=
  ∃ f, e = .returned (.agg #[.bool false, .slice (some ⟨f, 0, none⟩) n n, .slice none 0 0, .int .i64 0, .int .i64 0]) ∧ Row w' f 3 (ints (upto16 n)) ∧ w.heap.size ≤ f ∧ Below w.heap.size w w'

set_option maxRecDepth 100000 in
set_option maxHeartbeats 2000000 in
theorem unlinked16_any (n : Nat) (hn : n ≤ 64) (w : World) :
    Calls Tryd.prog 82 #[.int .i64 (n : Int)] w (UnlP16 n w) := by
  have hmk := fun W => run_make_row' (P := Tryd.prog) 33 3 (.int .i64 0) 8 Tryd.underlying33 int_info rfl .i64 .i64 n (by omega) (by omega) W
  have r0 := Row.new w 95 #[.bool false, .slice none 0 0, .slice none 0 0, .int .i64 0, .int .i64 0]
  obtain ⟨w1, hw1⟩ : ∃ w1, w1 = w.alloc (.cells #[.bool false, .slice none 0 0, .slice none 0 0, .int .i64 0, .int .i64 0] 95) := ⟨_, rfl⟩
  have b1 : Below w.heap.size w w1 := by rw [hw1]; exact below_al _ _
  have s1 : w1.heap.size = w.heap.size + 1 := by rw [hw1]; simp
  have hr := Row.new w1 3 (madeCells #[Value.int .i64 0] n)
  rw [ints_zeros, s1] at hr
  have H0 : Hid (Row (w1.alloc (.cells (madeCells #[Value.int .i64 0] n) 3)) (w.heap.size + 1) 3 (ints (fill16 n 0))) := Lib.hid (by simpa [fill16, upto16] using hr)
  have L0 : Hid (Row (w1.alloc (.cells (madeCells #[Value.int .i64 0] n) 3)) w.heap.size 95 [.bool false, .slice none 0 0, .slice none 0 0, .int .i64 0, .int .i64 0]) := Lib.hid (by rw [← hw1] at r0; exact r0.below (below_al _ _))
  have B0 := Lib.hid (below_on b1 (below_al w1 (.cells (madeCells #[Value.int .i64 0] n) 3)))
  subst hw1
  clear hr b1 s1 r0
  go_enter Tryd.func82, Tryd.ntmps82
  go_wp2
  clear hmk
  go_loopw [9] (fun i wr => ∃ k : Nat, k ≤ n ∧ i = .int .i64 k ∧ Hid (Row wr (w.heap.size + 1) 3 (ints (fill16 n k))) ∧ Hid (Row wr w.heap.size 95 [.bool false, .slice none 0 0, .slice none 0 0, .int .i64 0, .int .i64 0]) ∧ Hid (Below w.heap.size w wr)) (fun i _ => n - (intOf i).toNat)
  case atStart => exact ⟨0, Nat.zero_le _, rfl, H0, L0, B0⟩
  case round =>
    clear H0 B0 L0
    obtain ⟨k, hk, rfl, HR, HL, HB⟩ := hrel
    by_cases hlt : k < n
    · obtain ⟨u, hu⟩ : ∃ u, wr.cell? ⟨w.heap.size + 1, k, none⟩ = some u := ⟨_, (HR.out.cell k).trans (List.getElem?_eq_getElem (by rw [ints_len, fill16_len hk]; exact hlt))⟩
      have f1 := HR.out.soft k
      have hkn : (k : Int) < (n : Int) := by omega
      go_wp2
      go_roundw
      case rel =>
        refine ⟨k + 1, by omega, by go_num, Lib.hid ?_, Lib.hid (HL.out.far (p := ⟨w.heap.size + 1, k, none⟩) (by simp) _), Lib.hid (HB.out.setCell (p := ⟨w.heap.size + 1, k, none⟩) (by simp) _)⟩
        rw [← fill16_set hlt, ints_set]
        exact HR.out.put k _
      case measure => simp [intOf]; omega
    · obtain rfl : n = k := by omega
      have c0 := HL.out.cell 0
      have c1 := HL.out.cell 1
      have c2 := HL.out.cell 2
      have c3 := HL.out.cell 3
      have c4 := HL.out.cell 4
      have f0 := HL.out.soft 0
      have f1 := HL.out.soft 1
      have f2 := HL.out.soft 2
      have f3 := HL.out.soft 3
      have f4 := HL.out.soft 4
      simp only [List.getElem?_cons_zero, List.getElem?_cons_succ] at c0 c1 c2 c3 c4
      go_wp2
      refine bodyPost_ret (v := .agg #[.bool false, .slice (some ⟨w.heap.size + 1, 0, none⟩) n n, .slice none 0 0, .int .i64 0, .int .i64 0]) (by simp [results, Tryd.results82, go_sem, *]) rfl ⟨w.heap.size + 1, rfl, ?_, by omega, ?_⟩
      · have := HR.out
        rw [show fill16 n n = upto16 n from by simp [fill16]] at this
        exact ((((this.far (p := ⟨w.heap.size, 0, none⟩) (by simp) _).far (p := ⟨w.heap.size, 1, none⟩) (by simp) _).far (p := ⟨w.heap.size, 2, none⟩) (by simp) _).far (p := ⟨w.heap.size, 3, none⟩) (by simp) _).far (p := ⟨w.heap.size, 4, none⟩) (by simp) _
      · exact ((((HB.out.setCell (p := ⟨w.heap.size, 0, none⟩) (Nat.le_refl _) _).setCell (p := ⟨w.heap.size, 1, none⟩) (Nat.le_refl _) _).setCell (p := ⟨w.heap.size, 2, none⟩) (Nat.le_refl _) _).setCell (p := ⟨w.heap.size, 3, none⟩) (Nat.le_refl _) _).setCell (p := ⟨w.heap.size, 4, none⟩) (Nat.le_refl _) _

#print axioms send16_any
#print axioms unlinked16_any
end Go.Proofs.YtgdbaaoifnedbaaDoor
