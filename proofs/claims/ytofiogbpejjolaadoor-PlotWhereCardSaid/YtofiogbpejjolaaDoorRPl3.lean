/-
  Layer 13 (plot): the reference's Where.
  Conditions: those that each theorem states.
-/
import Derived.Test.YtofiogbpejjolaaDoorRPl2
namespace Go.Proofs.YtofiogbpejjolaaDoor
open Go.ChangeShapes Go.WideShapes Go.ChangeAt Go.RowKit

theorem part_ex {R o : Int} (ho : 0 ≤ o ∧ o < 4 + 11 * R) : ∃ k rest, PartIs R o k rest := by
  unfold PartIs fstP lenP slotsP
  by_cases h1 : o < 4
  · have : o = 0 ∨ o = 1 ∨ o = 2 ∨ o = 3 := by omega
    rcases this with rfl | rfl | rfl | rfl
    · exact ⟨1, 0, by simp [tabRow]⟩
    · exact ⟨2, 0, by simp [tabRow]⟩
    · exact ⟨3, 0, by simp [tabRow]⟩
    · exact ⟨4, 0, by simp [tabRow]⟩
  · by_cases h2 : o < 4 + R
    · exact ⟨5, o - 4, by simp [tabRow]; omega⟩
    · by_cases h3 : o < 4 + 2 * R
      · exact ⟨6, o - (4 + R), by simp [tabRow]; omega⟩
      · by_cases h4 : o < 4 + 3 * R
        · exact ⟨7, o - (4 + 2 * R), by simp [tabRow]; omega⟩
        · exact ⟨8, o - (4 + 3 * R), by simp [tabRow]; omega⟩

/-- The channel from k to j holds the address a. -/
def Hits (c r a k j : Int) : Prop := rankP c k j * (4 + 11 * r) ≤ a ∧ a < rankP c k j * (4 + 11 * r) + (4 + 11 * r)

theorem hit_place {c r b a k j : Int} (hC : okConf c r b) (hp : okPair c k j) (h : Hits c r a k j) :
    ∃ f s i, okWord r f s i ∧ offP r f s i = a - rankP c k j * (4 + 11 * r) ∧ WhIs c r b a k j f s i true := by
  unfold Hits at h
  obtain ⟨f, rest, hp2⟩ := part_ex (R := r) (o := a - rankP c k j * (4 + 11 * r)) (by omega)
  obtain ⟨p1, p2⟩ := place_ok hC.2.2.1 hp2
  refine ⟨_, _, _, p1, p2, Or.inl ⟨rfl, hC, hp, p1, ?_⟩⟩
  unfold spotP
  rw [p2]
  omega

theorem hit_some {c r b a : Int} (hC : okConf c r b) (ha : 0 ≤ a ∧ a < c * (c - 1) * (4 + 11 * r)) : ∃ k j, okPair c k j ∧ Hits c r a k j := by
  have hr := hC.2.2.1.bd
  have hn : 0 ≤ a / (4 + 11 * r) ∧ a / (4 + 11 * r) < c * (c - 1) := ⟨Int.ediv_nonneg ha.1 (by omega), Int.ediv_lt_of_lt_mul (by omega) ha.2⟩
  obtain ⟨e1, e2⟩ := ends_ok ⟨hC.1, hC.2.1⟩ hn
  refine ⟨_, _, e1, ?_⟩
  unfold Hits
  rw [e2]
  have h1 := Int.mul_ediv_add_emod a (4 + 11 * r)
  have h2 := Int.emod_nonneg a (show (4 + 11 * r) ≠ 0 by omega)
  have h3 := Int.emod_lt_of_pos a (show (0 : Int) < 4 + 11 * r by omega)
  rw [Int.mul_comm] at h1
  constructor <;> omega

/-- The boxes of the reference's Where: the configuration at P, the result's five cells behind it. -/
structure WrT (w : World) (P : Nat) (c r b : Int) (W : World) : Prop where
  conf : Row W P 23 [.int .i64 c, .int .i64 r, .int .i64 b]
  res : Row W (P + 1) 43 [.int .i64 0, .int .i64 0, .int .i64 0, .int .i64 0, .int .i64 0]
  old : Below P w W

theorem WrT.below {w W W' : World} {P : Nat} {c r b : Int} (h : WrT w P c r b W) (hb : Below W.heap.size W W') : WrT w P c r b W' :=
  ⟨h.conf.below hb, h.res.below hb, h.old.trans (hb.mono (by have := h.conf.lt; omega))⟩

theorem WrT.cells {w W : World} {P : Nat} {c r b : Int} (h : WrT w P c r b W) :
    W.cell? ⟨P, 0, none⟩ = some (.int .i64 c) ∧ W.cell? ⟨P, 1, none⟩ = some (.int .i64 r) ∧ W.cell? ⟨P, 2, none⟩ = some (.int .i64 b) ∧ W.cell? ⟨P + 1, 0, none⟩ = some (.int .i64 0) ∧ W.cell? ⟨P + 1, 1, none⟩ = some (.int .i64 0) ∧ W.cell? ⟨P + 1, 2, none⟩ = some (.int .i64 0) ∧ W.cell? ⟨P + 1, 3, none⟩ = some (.int .i64 0) ∧ W.cell? ⟨P + 1, 4, none⟩ = some (.int .i64 0) ∧
    W.frozen? ⟨P + 1, 0, none⟩ = false ∧ W.frozen? ⟨P + 1, 1, none⟩ = false ∧ W.frozen? ⟨P + 1, 2, none⟩ = false ∧ W.frozen? ⟨P + 1, 3, none⟩ = false ∧ W.frozen? ⟨P + 1, 4, none⟩ = false ∧ P + 1 < W.heap.size :=
  ⟨h.conf.cell 0, h.conf.cell 1, h.conf.cell 2, h.res.cell 0, h.res.cell 1, h.res.cell 2, h.res.cell 3, h.res.cell 4, h.res.soft 0, h.res.soft 1, h.res.soft 2, h.res.soft 3, h.res.soft 4, h.res.lt⟩

/-- The world behind the result's stores. -/
def put5 (W : World) (g : Nat) (u0 u1 u2 u3 u4 : Value) : World := ((((W.setCell ⟨g, 0, none⟩ u0).setCell ⟨g, 1, none⟩ u1).setCell ⟨g, 2, none⟩ u2).setCell ⟨g, 3, none⟩ u3).setCell ⟨g, 4, none⟩ u4

theorem WrT.put5 {w W : World} {P : Nat} {c r b : Int} (h : WrT w P c r b W) (u0 u1 u2 u3 u4 : Value) :
    Row (put5 W (P + 1) u0 u1 u2 u3 u4) (P + 1) 43 [u0, u1, u2, u3, u4] ∧ Below P w (put5 W (P + 1) u0 u1 u2 u3 u4) := by
  refine ⟨((((h.res.put 0 u0).put 1 u1).put 2 u2).put 3 u3).put 4 u4, ?_⟩
  exact ((((h.old.setCell (p := ⟨P + 1, 0, none⟩) (by show P ≤ P + 1; omega) _).setCell (p := ⟨P + 1, 1, none⟩) (by show P ≤ P + 1; omega) _).setCell (p := ⟨P + 1, 2, none⟩) (by show P ≤ P + 1; omega) _).setCell (p := ⟨P + 1, 3, none⟩) (by show P ≤ P + 1; omega) _).setCell (p := ⟨P + 1, 4, none⟩) (by show P ≤ P + 1; omega) _

set_option maxRecDepth 100000 in
set_option maxHeartbeats 4000000 in
theorem rwhere13_any (c r b a : Int) (w : World) :
    Calls Tryd.prog 20 #[cfV c r b, .int .i64 a] w fun e w' => (∃ f t k s i ok, e = .returned (.tuple #[placeV f t k s i, .bool ok]) ∧ WhIs c r b a f t k s i ok) ∧ Below w.heap.size w w' := by
  have RT := Lib.hid (rright13_any c r b)
  have H0 : WrT w w.heap.size c r b ((w.alloc (.cells #[.int .i64 c, .int .i64 r, .int .i64 b] 23)).alloc (.cells #[.int .i64 0, .int .i64 0, .int .i64 0, .int .i64 0, .int .i64 0] 43)) :=
    ⟨(row13 w 23 #[.int .i64 c, .int .i64 r, .int .i64 b]).below (below_al _ _), by simpa using row13 (w.alloc (.cells #[.int .i64 c, .int .i64 r, .int .i64 b] 23)) 43 #[.int .i64 0, .int .i64 0, .int .i64 0, .int .i64 0, .int .i64 0], below_on (below_al _ _) (below_al _ _)⟩
  have HN := Lib.hid (fun W (hb : Below ((w.alloc (.cells #[.int .i64 c, .int .i64 r, .int .i64 b] 23)).alloc (.cells #[.int .i64 0, .int .i64 0, .int .i64 0, .int .i64 0, .int .i64 0] 43)).heap.size ((w.alloc (.cells #[.int .i64 c, .int .i64 r, .int .i64 b] 23)).alloc (.cells #[.int .i64 0, .int .i64 0, .int .i64 0, .int .i64 0, .int .i64 0] 43)) W) => H0.below hb)
  clear H0
  by_cases hC' : ¬ okConf c r b
  · have W0 := Lib.hid (decide_eq_false hC')
    have HRES := Lib.hid (show WhIs c r b a 0 0 0 0 0 false from Or.inr ⟨rfl, rfl, rfl, rfl, rfl, rfl, fun h => hC' h.1⟩)
    unfold cfV at RT ⊢
    clear hC'
    go_enter Tryd.func20, Tryd.ntmps20
    go_wp2_with fail
    refine (RT.out _).mono ?_
    rintro e w1 ⟨rfl, hb1⟩
    rw [W0.out]
    have h1 := HN.out _ hb1
    obtain ⟨-, -, -, d0, d1, d2, d3, d4, f0, f1, f2, f3, f4, hlt⟩ := h1.cells
    have HP := Lib.hid (h1.put5 (.int .i64 0) (.int .i64 0) (.int .i64 0) (.int .i64 0) (.int .i64 0))
    unfold put5 at HP
    clear h1 hb1 HN
    go_wp2
    exact bodyPost_ret (v := .tuple #[.agg #[.int .i64 0, .int .i64 0, .int .i64 0, .int .i64 0, .int .i64 0], .bool false]) (by simp [results, Tryd.results20, go_sem, HP.out.1.cell]) rfl ⟨⟨0, 0, 0, 0, 0, false, rfl, HRES.out⟩, HP.out.2⟩
  have hC : okConf c r b := Classical.not_not.1 hC'
  clear hC'
  by_cases ha' : a < 0
  · have W0 := Lib.hid (decide_eq_true hC)
    have ha0 : decide (a < 0) = true := by simpa using ha'
    have HRES := Lib.hid (show WhIs c r b a 0 0 0 0 0 false from Or.inr ⟨rfl, rfl, rfl, rfl, rfl, rfl, fun h => by omega⟩)
    unfold cfV at RT ⊢
    clear ha' hC
    go_enter Tryd.func20, Tryd.ntmps20
    go_wp2_with fail
    refine (RT.out _).mono ?_
    rintro e w1 ⟨rfl, hb1⟩
    rw [W0.out]
    have h1 := HN.out _ hb1
    obtain ⟨-, -, -, d0, d1, d2, d3, d4, f0, f1, f2, f3, f4, hlt⟩ := h1.cells
    have HP := Lib.hid (h1.put5 (.int .i64 0) (.int .i64 0) (.int .i64 0) (.int .i64 0) (.int .i64 0))
    unfold put5 at HP
    clear h1 hb1 HN
    go_wp2
    exact bodyPost_ret (v := .tuple #[.agg #[.int .i64 0, .int .i64 0, .int .i64 0, .int .i64 0, .int .i64 0], .bool false]) (by simp [results, Tryd.results20, go_sem, HP.out.1.cell]) rfl ⟨⟨0, 0, 0, 0, 0, false, rfl, HRES.out⟩, HP.out.2⟩
  have ha : 0 ≤ a := by omega
  clear ha'
  have W0 := Lib.hid (decide_eq_true hC)
  have ha0 : decide (a < 0) = false := by simp; omega
  have hc : 2 ≤ c ∧ c ≤ 8 := ⟨hC.1, hC.2.1⟩
  have hr := hC.2.2.1.bd
  have HEND := Lib.hid (show (∀ k j, okPair c k j → ¬ Hits c r a k j) → WhIs c r b a 0 0 0 0 0 false from fun h => Or.inr ⟨rfl, rfl, rfl, rfl, rfl, rfl, fun hh => by
    obtain ⟨k, j, h1, h2⟩ := hit_some hh.1 hh.2
    exact h k j h1 h2⟩)
  have HHIT := Lib.hid (fun k j (hp : okPair c k j) (h : Hits c r a k j) => hit_place hC hp h)
  have HRB := Lib.hid (fun k j (hp : okPair c k j) => rank_bd hc hp)
  have HBASE := Lib.hid (fun k j (hp : okPair c k j) => (show ofB c r b k j = rankP c k j * (4 + 11 * r) ∧ decide (ofOk c r b k j) = true from ⟨if_pos ⟨hC, hp⟩, decide_eq_true ⟨hC, hp⟩⟩))
  have HNOB := Lib.hid (fun k j (hp : ¬ okPair c k j) => (show ofB c r b k j = 0 ∧ decide (ofOk c r b k j) = false from ⟨if_neg fun h => hp h.2, decide_eq_false fun h => hp h.2⟩))
  have HPB := Lib.hid (pairs_bd hc)
  have HOI := Lib.hid (fun f s i f' s' i' (h : okWord r f s i) (h' : okWord r f' s' i') (e : offP r f s i = offP r f' s' i') => off_inj hC.2.2.1 h h' e)
  have SZ := Lib.hid (fun W => rsize13_any r W)
  rw [show sizeP r = 4 + 11 * r from if_pos hC.2.2.1] at SZ
  have BS := Lib.hid (fun k j W => rbase13_any c r b k j W)
  have HOB := Lib.hid (fun f s i (h : okWord r f s i) => off_bd hC.2.2.1 h)
  unfold cfV at RT BS ⊢
  unfold Hits at *
  obtain ⟨S, eS⟩ : ∃ s, 4 + 11 * r = s := ⟨_, rfl⟩
  have hS1 : 26 ≤ S := by omega
  have hS2 : S ≤ 708 := by omega
  rw [eS] at SZ HEND HHIT HBASE HOB
  obtain ⟨hc1, hc2⟩ := hc
  obtain ⟨hr1, hr2⟩ := hr
  clear hC eS
  go_enter Tryd.func20, Tryd.ntmps20
  go_wp2_with fail
  refine (RT.out _).mono ?_
  rintro e w1 ⟨rfl, hb1⟩
  rw [W0.out]
  have HW := Lib.hid (HN.out _ hb1)
  clear hb1 RT W0 HN
  go_wp2
  go_loopw [6] (fun i wr => ∃ k : Nat, (k : Int) ≤ c ∧ i = .int .i64 k ∧ Hid (WrT w w.heap.size c r b wr) ∧ Hid (∀ k' j', okPair c k' j' → k' < (k : Int) → ¬ (rankP c k' j' * S ≤ a ∧ a < rankP c k' j' * S + S))) (fun i _ => 8 - (intOf i).toNat)
  case atStart => exact ⟨0, by omega, rfl, HW, Lib.hid (fun k' j' h hlt => by have := h.1; omega)⟩
  case round =>
    obtain ⟨k, hk, rfl, HW2, HQ⟩ := hrel
    obtain ⟨c0, -, -, d0, d1, d2, d3, d4, f0, f1, f2, f3, f4, hlt⟩ := HW2.out.cells
    by_cases hkc : (k : Int) < c
    · have t0 : decide ((k : Int) < c) = true := by simpa using hkc
      have hkc8 : k < 8 := by omega
      clear c0 d0 d1 d2 d3 d4 f0 f1 f2 f3 f4 hlt
      obtain ⟨wo, rfl⟩ : ∃ wo, wo = wr := ⟨_, rfl⟩
      have c0 := HW2.out.cells.1
      go_wp2
      go_loopw [7] (fun i wi => ∃ j : Nat, (j : Int) ≤ c ∧ i = .int .i64 j ∧ Hid (WrT w w.heap.size c r b wi) ∧ Hid (∀ k' j', okPair c k' j' → (k' < (k : Int) ∨ (k' = (k : Int) ∧ j' < (j : Int))) → ¬ (rankP c k' j' * S ≤ a ∧ a < rankP c k' j' * S + S))) (fun i _ => 8 - (intOf i).toNat)
      case atStart => exact ⟨0, by omega, rfl, HW2, Lib.hid (fun k' j' h hlt => by
        have h1 := h.2.2.1
        exact HQ.out k' j' h (by omega))⟩
      case round =>
        obtain ⟨j, hj, rfl, HW3, HG⟩ := hrel
        clear c0 HW2
        obtain ⟨c0, c1, c2, -⟩ := HW3.out.cells
        by_cases hjc : (j : Int) < c
        · have t1 : decide ((j : Int) < c) = true := by simpa using hjc
          have hjc8 : j < 8 := by omega
          have BS2 := Lib.hid (BS.out (k : Int) (j : Int))
          obtain ⟨wi, rfl⟩ : ∃ wi, wi = wr := ⟨_, rfl⟩
          by_cases hp : okPair c (k : Int) (j : Int)
          · obtain ⟨e1, e2⟩ := HBASE.out _ _ hp
            have hrb := HRB.out _ _ hp
            have hpb := HPB.out
            have hq : 0 ≤ rankP c k j * S ∧ rankP c k j * S ≤ 40000 := ⟨Int.mul_nonneg hrb.1 (by omega), Int.le_trans (Int.mul_le_mul (show rankP c k j ≤ 56 by omega) hS2 (by omega) (by omega)) (by omega)⟩
            have HH := Lib.hid (fun (h : rankP c k j * S ≤ a ∧ a < rankP c k j * S + S) => HHIT.out _ _ hp h)
            have HNX := Lib.hid (show ¬ (rankP c k j * S ≤ a ∧ a < rankP c k j * S + S) → ∀ k' j', okPair c k' j' → (k' < (k : Int) ∨ (k' = (k : Int) ∧ j' < ((j + 1 : Nat) : Int))) → ¬ (rankP c k' j' * S ≤ a ∧ a < rankP c k' j' * S + S) from fun hn k' j' h hlt => by
              by_cases he : k' = (k : Int) ∧ j' = (j : Int)
              · rw [he.1, he.2]; exact hn
              · exact HG.out k' j' h (by omega))
            rw [e1, e2] at BS2
            obtain ⟨q, eq⟩ : ∃ q, rankP c k j * S = q := ⟨_, rfl⟩
            rw [eq] at BS2 hq HH HNX
            obtain ⟨hq1, hq2⟩ := hq
            clear e1 e2 hrb hpb eq hp
            go_wp2_with fail
            refine (BS2.out _).mono ?_
            rintro e w2 ⟨rfl, hb2⟩
            have HW4 := Lib.hid (HW3.out.below hb2)
            clear c0 c1 c2 hb2 HW3
            obtain ⟨c0, c1, c2, -⟩ := HW4.out.cells
            by_cases h1 : a < q
            · have t2 : decide (a < q) = true := by simpa using h1
              have HG2 := Lib.hid (HNX.out (fun h => by omega))
              clear h1
              go_wp2
              go_roundw
              case rel => exact ⟨j + 1, by omega, by go_num, HW4, HG2⟩
              case measure => simp [intOf]; omega
            · have t2 : decide (a < q) = false := by simpa using h1
              by_cases h2 : q + S ≤ a
              · have t3 : decide (q + S ≤ a) = true := by simpa using h2
                have HG2 := Lib.hid (HNX.out (fun h => by omega))
                clear h1 h2
                go_wp2_with fail
                refine (SZ.out _).mono ?_
                rintro e w' ⟨rfl, rfl⟩
                go_wp2
                go_roundw
                case rel => exact ⟨j + 1, by omega, by go_num, HW4, HG2⟩
                case measure => simp [intOf]; omega
              · have t3 : decide (q + S ≤ a) = false := by simpa using h2
                obtain ⟨F, I, E, hw1, hw2, hw3⟩ := HH.out ⟨by omega, by omega⟩
                have HT := Lib.hid (show okWord r F I E ∧ offP r F I E = a - q ∧ WhIs c r b a k j F I E true from ⟨hw1, hw2, hw3⟩)
                have HRG := Lib.hid (show 1 ≤ F ∧ F ≤ 8 ∧ 0 ≤ I ∧ I < r ∧ 0 ≤ E ∧ E < 8 from by unfold okWord at hw1; omega)
                clear h1 h2 hw1 hw2 hw3 HNX HH
                go_wp2_with fail
                refine (SZ.out _).mono ?_
                rintro e w' ⟨rfl, rfl⟩
                go_wp2
                clear c0 c1 c2
                go_loopw [10] (fun i wi => ∃ f : Nat, 1 ≤ f ∧ f ≤ 9 ∧ i = .int .i64 f ∧ Hid (WrT w w.heap.size c r b wi) ∧ Hid ((f : Int) ≤ F)) (fun i _ => 9 - (intOf i).toNat)
                case atStart => exact ⟨1, by omega, by omega, rfl, HW4, Lib.hid HRG.out.1⟩
                case round =>
                  obtain ⟨f, hf1, hf9, rfl, HW5, HF⟩ := hrel
                  clear HW4
                  have hf8 : f ≤ 8 := by have := HRG.out; have := HF.out; omega
                  have t5 : decide ((f : Int) ≤ 8) = true := by simp; omega
                  have t5n : decide (f ≤ 8) = true := by simp; omega
                  obtain ⟨wf, rfl⟩ : ∃ wf, wf = wr := ⟨_, rfl⟩
                  obtain ⟨c0, c1, c2, -⟩ := HW5.out.cells
                  go_wp2
                  clear c0 c1 c2
                  go_loopw [11] (fun i wi => ∃ s : Nat, (s : Int) ≤ r ∧ i = .int .i64 s ∧ Hid (WrT w w.heap.size c r b wi) ∧ Hid ((f : Int) < F ∨ ((f : Int) = F ∧ (s : Int) ≤ I))) (fun i _ => 64 - (intOf i).toNat)
                  case atStart => exact ⟨0, by omega, rfl, HW5, Lib.hid (by have := HF.out; have := HRG.out; omega)⟩
                  case round =>
                    obtain ⟨s, hs, rfl, HW6, HS⟩ := hrel
                    clear HW5
                    obtain ⟨ws, rfl⟩ : ∃ ws, ws = wr := ⟨_, rfl⟩
                    obtain ⟨c0, c1, c2, -⟩ := HW6.out.cells
                    by_cases hsr : (s : Int) < r
                    · have t6 : decide ((s : Int) < r) = true := by simpa using hsr
                      have hs64 : s < 64 := by omega
                      go_wp2
                      clear c0 c1 c2
                      go_loopw [12] (fun i wi => ∃ e : Nat, e ≤ 8 ∧ i = .int .i64 e ∧ Hid (WrT w w.heap.size c r b wi) ∧ Hid ((f : Int) < F ∨ ((f : Int) = F ∧ ((s : Int) < I ∨ ((s : Int) = I ∧ (e : Int) ≤ E))))) (fun i _ => 8 - (intOf i).toNat)
                      case atStart => exact ⟨0, by omega, rfl, HW6, Lib.hid (by have := HS.out; have := HRG.out; omega)⟩
                      case round =>
                        obtain ⟨e, he, rfl, HW7, HE⟩ := hrel
                        clear HW6
                        obtain ⟨we, rfl⟩ : ∃ we, we = wr := ⟨_, rfl⟩
                        obtain ⟨c0, c1, c2, d0, d1, d2, d3, d4, f0, f1, f2, f3, f4, hlt⟩ := HW7.out.cells
                        by_cases he8 : e < 8
                        · have t7 : decide ((e : Int) < 8) = true := by simp; omega
                          have t7n : decide (e < 8) = true := by simpa using he8
                          have AT := Lib.hid (rat13_any q r f s e (by omega) (by omega) we)
                          by_cases hm : okWord r f s e ∧ q + offP r f s e = a
                          · obtain ⟨x1, x2, x3⟩ := HOI.out _ _ _ _ _ _ hm.1 HT.out.1 (by have := HT.out.2.1; have := hm.2; omega)
                            have HRES := Lib.hid (show WhIs c r b a k j f s e true from by rw [x1, x2, x3]; exact HT.out.2.2)
                            rw [show atV13 q r f s e = a from by unfold atV13; rw [if_pos hm.1]; exact hm.2, decide_eq_true hm.1] at AT
                            have HP := Lib.hid (HW7.out.put5 (.int .i64 k) (.int .i64 j) (.int .i64 f) (.int .i64 s) (.int .i64 e))
                            unfold put5 at HP
                            clear hm x1 x2 x3
                            go_wp2_with fail
                            refine AT.out.mono ?_
                            rintro e' w' ⟨rfl, rfl⟩
                            go_wp2
                            have q0 := HP.out.1.cell 0
                            have q1 := HP.out.1.cell 1
                            have q2 := HP.out.1.cell 2
                            have q3 := HP.out.1.cell 3
                            have q4 := HP.out.1.cell 4
                            simp only [List.getElem?_cons_zero, List.getElem?_cons_succ] at q0 q1 q2 q3 q4
                            exact bodyPost_ret (v := .tuple #[.agg #[.int .i64 k, .int .i64 j, .int .i64 f, .int .i64 s, .int .i64 e], .bool true]) (by simp [results, Tryd.results20, go_sem, q0, q1, q2, q3, q4]) rfl ⟨⟨k, j, f, s, e, true, rfl, HRES.out⟩, HP.out.2⟩
                          · have HE2 := Lib.hid (show (f : Int) < F ∨ ((f : Int) = F ∧ ((s : Int) < I ∨ ((s : Int) = I ∧ ((e + 1 : Nat) : Int) ≤ E))) from by
                              have h1 := HE.out
                              by_cases hx : (f : Int) = F ∧ (s : Int) = I ∧ (e : Int) = E
                              · refine absurd ?_ hm
                                rw [hx.1, hx.2.1, hx.2.2]
                                have h2 := HT.out
                                exact ⟨h2.1, by omega⟩
                              · omega)
                            clear d0 d1 d2 d3 d4 f0 f1 f2 f3 f4 hlt
                            by_cases hw : okWord r f s e
                            · obtain ⟨v, ev⟩ : ∃ v, atV13 q r f s e = v := ⟨_, rfl⟩
                              have t8 : (v == a) = false := beq_eq_false_iff_ne.2 fun h => hm ⟨hw, by rw [← h, ← ev]; exact (if_pos hw).symm⟩
                              rw [ev, decide_eq_true hw] at AT
                              clear hm hw ev
                              go_wp2_with fail
                              refine AT.out.mono ?_
                              rintro e' w' ⟨rfl, rfl⟩
                              go_wp2
                              go_roundw
                              case rel => exact ⟨e + 1, by omega, by go_num, HW7, HE2⟩
                              case measure => simp [intOf]; omega
                            · obtain ⟨v, ev⟩ : ∃ v, atV13 q r f s e = v := ⟨_, rfl⟩
                              rw [ev, decide_eq_false hw] at AT
                              clear hm hw ev
                              go_wp2_with fail
                              refine AT.out.mono ?_
                              rintro e' w' ⟨rfl, rfl⟩
                              go_wp2
                              go_roundw
                              case rel => exact ⟨e + 1, by omega, by go_num, HW7, HE2⟩
                              case measure => simp [intOf]; omega
                        · have t7 : decide ((e : Int) < 8) = false := by simp; omega
                          have t7n : decide (e < 8) = false := by simpa using he8
                          have HS2 := Lib.hid (show (f : Int) < F ∨ ((f : Int) = F ∧ ((s + 1 : Nat) : Int) ≤ I) from by have := HE.out; have := HRG.out; omega)
                          clear he8 d0 d1 d2 d3 d4 f0 f1 f2 f3 f4 hlt
                          go_wp2
                          go_roundw
                          case rel => exact ⟨s + 1, by omega, by go_num, HW7, HS2⟩
                          case measure => simp [intOf]; omega
                    · have t6 : decide ((s : Int) < r) = false := by simpa using hsr
                      have HF2 := Lib.hid (show ((f + 1 : Nat) : Int) ≤ F from by have := HS.out; have := HRG.out; omega)
                      clear hsr
                      go_wp2
                      go_roundw
                      case rel => exact ⟨f + 1, by omega, by omega, by go_num, HW6, HF2⟩
                      case measure => simp [intOf]; omega
          · obtain ⟨e1, e2⟩ := HNOB.out _ _ hp
            have HG2 := Lib.hid (show ∀ k' j', okPair c k' j' → (k' < (k : Int) ∨ (k' = (k : Int) ∧ j' < ((j + 1 : Nat) : Int))) → ¬ (rankP c k' j' * S ≤ a ∧ a < rankP c k' j' * S + S) from fun k' j' h hlt => by
              by_cases he : k' = (k : Int) ∧ j' = (j : Int)
              · exact absurd (he.1 ▸ he.2 ▸ h) hp
              · exact HG.out k' j' h (by omega))
            rw [e1, e2] at BS2
            clear e1 e2 hp
            go_wp2_with fail
            refine (BS2.out _).mono ?_
            rintro e w2 ⟨rfl, hb2⟩
            have HW4 := Lib.hid (HW3.out.below hb2)
            clear c0 c1 c2 hb2 HW3
            obtain ⟨c0, c1, c2, -⟩ := HW4.out.cells
            go_wp2
            go_roundw
            case rel => exact ⟨j + 1, by omega, by go_num, HW4, HG2⟩
            case measure => simp [intOf]; omega
        · have t1 : decide ((j : Int) < c) = false := by simpa using hjc
          have HQ2 := Lib.hid (show ∀ k' j', okPair c k' j' → k' < ((k + 1 : Nat) : Int) → ¬ (rankP c k' j' * S ≤ a ∧ a < rankP c k' j' * S + S) from fun k' j' h hlt => by
            have h1 := h.2.2.2.1
            exact HG.out k' j' h (by omega))
          clear hjc
          go_wp2
          go_roundw
          case rel => exact ⟨k + 1, by omega, by go_num, HW3, HQ2⟩
          case measure => simp [intOf]; omega
    · have t0 : decide ((k : Int) < c) = false := by simpa using hkc
      have HRES := Lib.hid (HEND.out (fun k' j' h => HQ.out k' j' h (by have := h.2.1; omega)))
      have HP := Lib.hid (HW2.out.put5 (.int .i64 0) (.int .i64 0) (.int .i64 0) (.int .i64 0) (.int .i64 0))
      unfold put5 at HP
      clear hkc
      go_wp2
      exact bodyPost_ret (v := .tuple #[.agg #[.int .i64 0, .int .i64 0, .int .i64 0, .int .i64 0, .int .i64 0], .bool false]) (by simp [results, Tryd.results20, go_sem, HP.out.1.cell]) rfl ⟨⟨0, 0, 0, 0, 0, false, rfl, HRES.out⟩, HP.out.2⟩

#print axioms rwhere13_any
end Go.Proofs.YtofiogbpejjolaaDoor
