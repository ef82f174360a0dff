/-
  Layer 10 (locks): the reference's Is, New, Held, with.
  Conditions: those that each theorem states.
-/
import Derived.Test.YtdpoigeeechchaaLk6
import Derived.Test.YtdpoigeeechchaaSame
namespace Go.Proofs.Ytdpoigeeechchaa
open Go.ChangeShapes Go.WideShapes Go.ChangeAt Go.RowKit

/-- The reference's bank as a value. -/
def rbankV (C : Nat) (v : Value) : Value := .agg #[.int .i64 C, v]

theorem Lies.open10 {w : World} {P : Nat → Prop} {v : Value} {q : List Int} (h : Lies w P v (ints q)) : ∃ A n c, v = .slice A n c ∧ Hid (q.length = n) ∧ Hid (Lies w P (.slice A n c) (ints q)) := by
  have h0 := h
  obtain ⟨A, c, rfl, _⟩ := h
  exact ⟨A, _, c, rfl, (ints_len q).symm, h0⟩

theorem own_slice10 {w : World} {base : Nat} {e : TypeId} {size : Nat} {v : Value} {k : Nat} {xs : List Value} (h : w.ownsRow base e size v k xs) : ∃ A c, v = .slice A k c := by
  obtain ⟨hl, h2⟩ := h
  rcases h2 with ⟨rfl, h0⟩ | ⟨g, cap, cur, rfl, _⟩
  · exact ⟨none, 0, by rw [h0]⟩
  · exact ⟨_, cap, rfl⟩

theorem own_rebase10 {w : World} {base base' : Nat} {e : TypeId} {size n : Nat} {v : Value} {xs : List Value} (h : w.ownsRow base e size v n xs) (hb : base' ≤ base) : w.ownsRow base' e size v n xs := by
  obtain ⟨hl, h2⟩ := h
  exact ⟨hl, h2.imp id fun ⟨g, cap, cur, h1, h3, h4⟩ => ⟨g, cap, cur, h1, Nat.le_trans hb h3, h4⟩⟩

set_option maxRecDepth 100000 in
set_option maxHeartbeats 400000 in
theorem ris10_yes (c n : Int) (w : World) (h0 : 1 ≤ c) (h1 : c ≤ 8) (h2 : 1 ≤ n) (h3 : n ≤ 16) :
    Calls Try.prog 8 #[.int .i64 c, .int .i64 n] w fun e w' => e = .returned (.bool true) ∧ w = w' := by
  go_enter Try.func8, Try.ntmps8
  go_wp2
  go_ret
  exact ⟨rfl, rfl⟩

set_option maxRecDepth 100000 in
set_option maxHeartbeats 400000 in
theorem ris10_no (c n : Int) (w : World) (h : c < 1 ∨ 8 < c ∨ n < 1 ∨ 16 < n) :
    Calls Try.prog 8 #[.int .i64 c, .int .i64 n] w fun e w' => e = .returned (.bool false) ∧ w = w' := by
  by_cases h0 : c < 1
  · have h' : decide (1 ≤ c) = false := by simp; omega
    go_enter Try.func8, Try.ntmps8
    go_wp2
    go_ret
    exact ⟨rfl, rfl⟩
  · have d0 : 1 ≤ c := by omega
    by_cases h1 : 8 < c
    · have h' : decide (c ≤ 8) = false := by simp; omega
      go_enter Try.func8, Try.ntmps8
      go_wp2
      go_ret
      exact ⟨rfl, rfl⟩
    · have d1 : c ≤ 8 := by omega
      by_cases h2 : n < 1
      · have h' : decide (1 ≤ n) = false := by simp; omega
        go_enter Try.func8, Try.ntmps8
        go_wp2
        go_ret
        exact ⟨rfl, rfl⟩
      · have d2 : 1 ≤ n := by omega
        have h' : decide (n ≤ 16) = false := by simp; omega
        go_enter Try.func8, Try.ntmps8
        go_wp2
        go_ret
        exact ⟨rfl, rfl⟩

/-- What a call of the reference leaves: its bank and the rest of what it answers. -/
def RBankP (P : Nat → Prop) (C : Nat) (l : List Int) (rest : List Value) (w : World) (e : Ending) (w' : World) : Prop :=
  ∃ v, e = .returned (.tuple (rbankV C v :: rest).toArray) ∧ Lies w' P v (ints l) ∧ CapOk v ∧ Below w.heap.size w w'

/-- What New and with leave. -/
def RBankQ (C : Nat) (l : List Int) (w : World) (e : Ending) (w' : World) : Prop :=
  ∃ v, e = .returned (rbankV C v) ∧ Lies w' (fun b => w.heap.size ≤ b) v (ints l) ∧ CapOk v ∧ Below w.heap.size w w'

def rheldA (l : List Int) (c : Int) : List Int := if 0 ≤ c then heldL l c l.length else []
/-- The reference's list, up to place k. -/
def rheldK (l : List Int) (c : Int) (k : Nat) : List Int := if 0 ≤ c then heldL l c k else []
theorem rheldK_len (l : List Int) (c : Int) (k : Nat) : (rheldK l c k).length ≤ k := by
  unfold rheldK; split; exact heldL_len _ _ _; simp

set_option maxRecDepth 100000 in
set_option maxHeartbeats 2000000 in
theorem rheld10_any (P : Nat → Prop) (C : Nat) (v : Value) (l : List Int) (c : Int) (w : World) (hv : Lies w P v (ints l)) (hl : l.length ≤ 16) :
    Calls Try.prog 21 #[rbankV C v, .int .i64 c] w (HeldP (rheldA l c) w) := by
  obtain ⟨i0, hi0, hz0, hz1, hz2⟩ := info_parts int_info
  obtain ⟨A, n, cc, rfl, HN, HV⟩ := hv.open10
  clear hv
  have hln : n ≤ 16 := by rw [← HN.out]; exact hl
  clear hl
  have R0 := Row.new w 31 #[.int .i64 C, .slice A n cc]
  have HR0 := Lib.hid R0
  have HB0 := Lib.hid (below_al w (.cells #[.int .i64 C, .slice A n cc] 31))
  clear R0
  unfold rbankV
  go_enter Try.func21, Try.ntmps21
  go_wp2
  go_loopw [5, 6] (fun v i wr => ∃ k : Nat, k ≤ n ∧ i = .int .i64 k ∧ Hid (wr.ownsRow (w.heap.size + 1) 3 1 v (rheldK l c k).length (ints (rheldK l c k))) ∧ Hid (Below (w.heap.size + 1) (w.alloc (.cells #[.int .i64 C, .slice A n cc] 31)) wr)) (fun _ i _ => n - (intOf i).toNat)
  case atStart => exact ⟨0, Nat.zero_le _, rfl, Lib.hid (by unfold rheldK; split <;> exact World.ownsRow_nil _ _ _ _), Lib.hid (Below.refl _ _)⟩
  case round =>
    obtain ⟨k, hk, rfl, HO, HB⟩ := hrel
    have hbr : Below (w.alloc (.cells #[.int .i64 C, .slice A n cc] 31)).heap.size (w.alloc (.cells #[.int .i64 C, .slice A n cc] 31)) wr := by rw [show (w.alloc (.cells #[.int .i64 C, .slice A n cc] 31)).heap.size = w.heap.size + 1 from by simp]; exact HB.out
    have ha : wr.cell? ⟨w.heap.size, 0, none⟩ = some (.int .i64 C) := (HR0.out.below hbr).cell 0
    have ha1 : wr.cell? ⟨w.heap.size, 1, none⟩ = some (.slice A n cc) := (HR0.out.below hbr).cell 1
    have hsz : w.heap.size + 1 ≤ wr.heap.size := by have := hbr.size; simpa using this
    have HVr := Lib.hid (HV.out.below (below_on HB0.out hbr))
    clear hbr
    by_cases hlt : k < n
    · obtain ⟨x, hx⟩ : ∃ x, l[k]? = some x := ⟨_, List.getElem?_eq_getElem (by rw [HN.out]; exact hlt)⟩
      obtain ⟨A', c', hsl, hA⟩ := HVr.out
      rw [ints_len, HN.out] at hsl hA
      injection hsl with e1 _ e3
      subst e1 e3
      obtain ⟨g, o, rfl, hPg, hgl, hcell⟩ := hA (by omega)
      have hxc : wr.cell? ⟨g, o + k, none⟩ = some (.int .i64 x) := hcell k _ (ints_some hx)
      have hkl := rheldK_len l c k
      have HX := Lib.hid hx
      clear hx hA hcell
      by_cases hf : x = c
      · subst hf
        by_cases h0 : 0 ≤ x
        · have hd : decide (0 ≤ x) = true := by simpa using h0
          have hmore : rheldK l x (k + 1) = rheldK l x k ++ [(k : Int)] := by unfold rheldK; rw [if_pos h0, if_pos h0]; exact heldL_more HX.out
          have HM := Lib.hid hmore
          clear hmore
          go_wp2_with (at_builtin; go_must ((refine wpList_append_own _ rfl (.tmp 25) (.tmp 27) 29 rfl (w.heap.size + 1) 3 i0 _ 1 8 Try.underlying29 hi0 hz0 hz1 hz2 rfl (by omega) _ _ _ rfl (HO.out.alloc _) ⟨_, 0, none⟩ 1 1 [.int .i64 (k : Int)] rfl rfl (cell_one_new _ _ _) (by intro u hu; simp at hu; subst hu; rfl) (by unfold maxLen; omega) (by omega) (by simp; omega) ?_); intro v1 w1 hown1 hg1 _; have HO1 := Lib.hid hown1; have HB1 := Lib.hid ((HB.out.alloc (by omega) _).grown hg1 (by simp; omega) (fun q hq => (HO.out.lt q hq).1)); clear hown1 hg1))
          go_roundw
          case rel =>
            refine ⟨k + 1, by omega, by go_num, Lib.hid ?_, HB1⟩
            have := HO1.out
            rw [HM.out, List.length_append, ints_append]
            exact this
          case measure => simp [intOf]; omega
        · have hd : decide (0 ≤ x) = false := by simpa using h0
          have hskip : rheldK l x (k + 1) = rheldK l x k := by unfold rheldK; rw [if_neg h0, if_neg h0]
          have HM := Lib.hid hskip
          clear hskip h0
          go_wp2
          go_roundw
          case rel => exact ⟨k + 1, by omega, by go_num, by rw [HM.out]; exact HO, HB⟩
          case measure => simp [intOf]; omega
      · have hb : (x == c) = false := by simpa using hf
        have hskip : rheldK l c (k + 1) = rheldK l c k := by
          unfold rheldK
          split
          · exact heldL_skip (by rw [HX.out]; intro e; injection e with e; exact hf e)
          · rfl
        have HM := Lib.hid hskip
        clear hskip hf
        go_wp2
        go_roundw
        case rel => exact ⟨k + 1, by omega, by go_num, by rw [HM.out]; exact HO, HB⟩
        case measure => simp [intOf]; omega
    · obtain rfl : k = n := by omega
      go_wp2
      go_ret
      have e : rheldA l c = rheldK l c k := by unfold rheldA rheldK; rw [HN.out]
      refine ⟨_, rfl, by rw [e]; exact own_rebase10 HO.out (by omega), ?_⟩
      exact HB0.out.trans (HB.out.mono (by omega))

set_option maxRecDepth 100000 in
set_option maxHeartbeats 2000000 in
theorem rwith10_any (P : Nat → Prop) (C : Nat) (v : Value) (l : List Int) (i : Nat) (x : Int) (w : World) (hv : Lies w P v (ints l)) (hcap : CapOk v) (hi : i < l.length) (hl : l.length ≤ 16) :
    Calls Try.prog 22 #[rbankV C v, .int .i64 (i : Int), .int .i64 x] w (RBankQ C (l.set i x) w) := by
  obtain ⟨i0, hi0, hz0, hz1, hz2⟩ := info_parts int_info
  obtain ⟨A, n, cc, rfl, HN, HV⟩ := hv.open10
  clear hv
  obtain ⟨y, hy⟩ : ∃ y, l[i]? = some y := ⟨_, List.getElem?_eq_getElem hi⟩
  have HY := Lib.hid hy
  rw [HN.out] at hi hl
  have O1 := Lib.hid (ints_one l)
  have HI : Hid ((i : Int) < (n : Int)) := Lib.hid (by omega)
  clear hy
  unfold rbankV
  go_enter Try.func22, Try.ntmps22
  go_wp2_with (at_builtin; go_must ((refine app_walk _ rfl (.tmp 8) (.tmp 10) 29 rfl (w.heap.size + 2) 3 i0 _ 8 Try.underlying29 hi0 hz0 hz1 hz2 rfl (.slice none 0 0) 0 [] rfl (World.ownsRow_nil _ _ _ _) P A n cc (ints l) rfl (HV.out.below (below_on (below_al _ _) (below_al _ _))) hcap O1.out (by unfold maxLen; omega) (by omega) (by simp) ?_); intro v1 w1 hown1 hg1 hat1; rw [Nat.zero_add, List.nil_append] at hown1; obtain ⟨g', cap', rfl, hbg, hlt'⟩ := hown1.form (by omega); have r0 : Row w1 w.heap.size 31 [.int .i64 C, .slice A n cc] := ((Row.new w 31 #[.int .i64 C, .slice A n cc]).below (below_al _ _)).of_grown hg1 (by simp [Value.ownBlock]); have r1 : Row w1 (w.heap.size + 1) 31 [.int .i64 0, .slice none 0 0] := (by have h := (Row.new (w.alloc (.cells #[.int .i64 C, .slice A n cc] 31)) 31 #[.int .i64 0, .slice none 0 0]).of_grown hg1 (by simp [Value.ownBlock]); simpa using h); have hb1 : Below w.heap.size w w1 := (below_on (below_al _ _) (below_al _ _)).grown hg1 (by simp; omega) (by simp [Value.ownBlock]); have hs1 := hg1.size; simp at hs1; have x0 := r0.cell 0; have x1 := r0.cell 1; have y0 := r1.cell 0; have y1 := r1.cell 1; have f0 := r0.soft 0; have f1 := r0.soft 1; have e0 := r1.soft 0; have e1 := r1.soft 1; simp only [List.getElem?_cons_zero, List.getElem?_cons_succ] at x0 x1 y0 y1; have t0 : w1.cell? ⟨g', i, none⟩ = some (.int .i64 y) := (hown1.cellAt i (by omega)).trans (ints_some HY.out); have ft := hown1.frozenAt i; have ST := Lib.hid (hown1.stored i (.int .i64 x)).1; have HB1 := Lib.hid hb1; have hgg : g' ≠ w.heap.size := (by omega); have hgg1 : g' ≠ w.heap.size + 1 := (by omega); clear hg1 hat1 hb1 r0 r1 hown1))
  refine bodyPost_ret (v := .agg #[.int .i64 C, .slice (some ⟨g', 0, none⟩) n cap']) (by simp [results, Try.results22, go_sem, *]) rfl ?_
  have hO : Only (fun b => b = w.heap.size ∨ b = w.heap.size + 1) (w1.setCell ⟨g', i, none⟩ (.int .i64 x)) ((((w1.setCell ⟨g', i, none⟩ (.int .i64 x)).setCell ⟨w.heap.size, 1, none⟩ (.slice (some ⟨g', 0, none⟩) n cap')).setCell ⟨w.heap.size + 1, 0, none⟩ (.int .i64 C)).setCell ⟨w.heap.size + 1, 1, none⟩ (.slice (some ⟨g', 0, none⟩) n cap')) :=
    (((Only.refl _ _).setCell (.inl (.inl rfl)) _).setCell (.inl (.inr rfl)) _).setCell (.inl (.inr rfl)) _
  refine ⟨_, rfl, ?_, CapOk.of_own ST.out, ?_⟩
  · have hL := (Lies.of_own ST.out).only hO (fun b hb hp => by omega)
    rw [ints_set]
    exact hL.weak (fun b _ hp => by omega)
  · have hb2 := HB1.out.setCell (p := ⟨g', i, none⟩) (by show w.heap.size ≤ g'; omega) (.int .i64 x)
    exact ((hb2.setCell (p := ⟨w.heap.size, 1, none⟩) (by simp) _).setCell (p := ⟨w.heap.size + 1, 0, none⟩) (by simp) _).setCell (p := ⟨w.heap.size + 1, 1, none⟩) (by simp) _

set_option maxRecDepth 100000 in
set_option maxHeartbeats 2000000 in
theorem rnew10_any (C n : Nat) (w : World) (hn : n ≤ 16) :
    Calls Try.prog 9 #[.int .i64 (C : Int), .int .i64 (n : Int)] w (RBankQ C (List.replicate n (-1)) w) := by
  obtain ⟨i0, hi0, hz0, hz1, hz2⟩ := info_parts int_info
  have O1 := Lib.hid (fun k => ints_one (List.replicate k (-1)))
  go_enter Try.func9, Try.ntmps9
  go_wp2
  go_loopw [6] (fun i wr => ∃ (k : Nat) (v : Value), k ≤ n ∧ i = .int .i64 k ∧ Hid (wr.ownsRow (w.heap.size + 2) 3 1 v k (ints (List.replicate k (-1)))) ∧ Hid (Row wr (w.heap.size + 1) 31 [.int .i64 C, v]) ∧ Hid (Row wr w.heap.size 31 [.int .i64 0, .slice none 0 0]) ∧ Hid (Below w.heap.size w wr)) (fun i _ => n - (intOf i).toNat)
  case atStart =>
    have h := Row.new (w.alloc (.cells #[.int .i64 0, .slice none 0 0] 31)) 31 #[.int .i64 C, .slice none 0 0]
    rw [show (w.alloc (.cells #[.int .i64 0, .slice none 0 0] 31)).heap.size = w.heap.size + 1 from by simp] at h
    exact ⟨0, .slice none 0 0, Nat.zero_le _, rfl, Lib.hid (World.ownsRow_nil _ _ _ _), Lib.hid h, Lib.hid ((Row.new w 31 #[.int .i64 0, .slice none 0 0]).below (below_al _ _)), Lib.hid (below_on (below_al _ _) (below_al _ _))⟩
  case round =>
    obtain ⟨k, v, hk, rfl, HO, HR1, HR0, HB⟩ := hrel
    obtain ⟨A, cc, rfl⟩ := own_slice10 HO.out
    have x0 := HR1.out.cell 0
    have x1 := HR1.out.cell 1
    have y0 := HR0.out.cell 0
    have y1 := HR0.out.cell 1
    have f0 := HR0.out.soft 0
    have f1 := HR0.out.soft 1
    simp only [List.getElem?_cons_zero, List.getElem?_cons_succ] at x0 x1 y0 y1
    have hsz := HR1.out.lt
    by_cases hlt : k < n
    · have hne : some w.heap.size ≠ (Value.slice A k cc).ownBlock ∧ some (w.heap.size + 1) ≠ (Value.slice A k cc).ownBlock := ⟨fun e => by have := (HO.out.lt _ e.symm).1; omega, fun e => by have := (HO.out.lt _ e.symm).1; omega⟩
      have HNE := Lib.hid hne
      clear hne
      go_wp2_with (at_builtin; go_must ((refine wpList_append_own _ rfl (.tmp 15) (.tmp 16) 29 rfl (w.heap.size + 2) 3 i0 _ 1 8 Try.underlying29 hi0 hz0 hz1 hz2 rfl (by omega) _ _ _ rfl (HO.out.alloc _) ⟨_, 0, none⟩ 1 1 [.int .i64 (-1)] rfl rfl (cell_one_new _ _ _) (by intro u hu; simp at hu; subst hu; rfl) (by unfold maxLen; omega) (by omega) (by simp; omega) ?_); intro v1 w1 hown1 hg1 _; have r1 := (HR1.out.below (below_al wr (.cells #[.int .i64 (-1)] 3))).of_grown hg1 HNE.out.2; have r0 := (HR0.out.below (below_al wr (.cells #[.int .i64 (-1)] 3))).of_grown hg1 HNE.out.1; have q1 := r1.cell 1; have s1 := r1.soft 1; simp only [List.getElem?_cons_zero, List.getElem?_cons_succ] at q1; obtain ⟨g', cap', rfl, hbg, hlt'⟩ := hown1.form (by omega); have HO1 := Lib.hid hown1; have R1 := Lib.hid r1; have R0 := Lib.hid r0; have HB1 := Lib.hid ((HB.out.alloc HB.out.size _).grown hg1 (by simp; omega) (fun q hq => by have := (HO.out.lt q hq).1; omega)); have hgg : g' ≠ w.heap.size + 1 := (by omega); have hgg0 : g' ≠ w.heap.size := (by omega); clear hown1 hg1 r1 r0))
      go_roundw
      case rel =>
        have hP := only_put10 w1 (w.heap.size + 1) 1 (.slice (some ⟨g', 0, none⟩) (k + 1) cap')
        refine ⟨k + 1, _, by omega, by go_num, Lib.hid ?_, Lib.hid (R1.out.put 1 _), Lib.hid (R0.out.only hP (by omega)), Lib.hid (HB1.out.setCell (p := ⟨w.heap.size + 1, 1, none⟩) (by simp) _)⟩
        have h1 : w1.grownBy (w1.setCell ⟨w.heap.size + 1, 1, none⟩ (.slice (some ⟨g', 0, none⟩) (k + 1) cap')) (some (w.heap.size + 1)) := gr_put (gr_refl _ _) 1 _
        have h2 := HO1.out.kept h1 (.inr (by simp [Value.ownBlock]; omega))
        rw [List.replicate_succ', ints_append]
        exact h2
      case measure => simp [intOf]; omega
    · obtain rfl : k = n := by omega
      go_wp2
      refine bodyPost_ret (v := .agg #[.int .i64 C, .slice A k cc]) (by simp [results, Try.results9, go_sem, *]) rfl ?_
      have hO : Only (fun b => b = w.heap.size) wr ((wr.setCell ⟨w.heap.size, 0, none⟩ (.int .i64 C)).setCell ⟨w.heap.size, 1, none⟩ (.slice A k cc)) := (only_put10 wr _ 0 _).trans (only_put10 _ _ 1 _)
      refine ⟨_, rfl, ?_, CapOk.of_own HO.out, (HB.out.setCell (p := ⟨w.heap.size, 0, none⟩) (by simp) _).setCell (p := ⟨w.heap.size, 1, none⟩) (by simp) _⟩
      exact ((Lies.of_own HO.out).only hO (fun b hb hp => by omega)).weak (fun b _ hp => by omega)

#print axioms rnew10_any
#print axioms rheld10_any
#print axioms rwith10_any
end Go.Proofs.Ytdpoigeeechchaa
