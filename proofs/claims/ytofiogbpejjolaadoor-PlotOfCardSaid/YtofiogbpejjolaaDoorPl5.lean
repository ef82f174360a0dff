/-
  Layer 13 (plot): Where (program).
  Conditions: those that each theorem states.
-/
import Derived.Test.YtofiogbpejjolaaDoorPl4
namespace Go.Proofs.YtofiogbpejjolaaDoor
open Go.ChangeShapes Go.WideShapes Go.ChangeAt Go.RowKit

/-- What Where answers. -/
def WhIs (c r b a f t k s i : Int) (ok : Bool) : Prop :=
  (ok = true ∧ okConf c r b ∧ okPair c f t ∧ okWord r k s i ∧ spotP c r f t k s i = a) ∨
  (ok = false ∧ f = 0 ∧ t = 0 ∧ k = 0 ∧ s = 0 ∧ i = 0 ∧ ¬ (okConf c r b ∧ 0 ≤ a ∧ a < c * (c - 1) * (4 + 11 * r)))

theorem WhIs.eq {c r b a f t k s i f' t' k' s' i' : Int} {o o' : Bool} (h : WhIs c r b a f t k s i o) (h' : WhIs c r b a f' t' k' s' i' o') : f = f' ∧ t = t' ∧ k = k' ∧ s = s' ∧ i = i' ∧ o = o' := by
  rcases h with ⟨rfl, h1, h2, h3, h4⟩ | ⟨rfl, rfl, rfl, rfl, rfl, rfl, hn⟩ <;> rcases h' with ⟨rfl, g1, g2, g3, g4⟩ | ⟨rfl, rfl, rfl, rfl, rfl, rfl, gn⟩
  · obtain ⟨rfl, rfl, rfl, rfl, rfl⟩ := spot_inj ⟨h1.1, h1.2.1⟩ h1.2.2.1 h2 h3 g2 g3 (h4.trans g4.symm)
    exact ⟨rfl, rfl, rfl, rfl, rfl, rfl⟩
  · exact absurd ⟨h1, h4 ▸ spot_bd ⟨h1.1, h1.2.1⟩ h1.2.2.1 h2 h3⟩ gn
  · exact absurd ⟨g1, g4 ▸ spot_bd ⟨g1.1, g1.2.1⟩ g1.2.2.1 g2 g3⟩ hn
  · exact ⟨rfl, rfl, rfl, rfl, rfl, rfl⟩

theorem words_iff (c r b a : Int) : (0 ≤ a ∧ a < wordsP c r b) ↔ (okConf c r b ∧ 0 ≤ a ∧ a < c * (c - 1) * (4 + 11 * r)) := by
  unfold wordsP
  split
  · rename_i h
    exact ⟨fun g => ⟨h, g⟩, fun g => g.2⟩
  · rename_i h
    exact ⟨fun g => by omega, fun g => absurd g.1 h⟩

theorem place_ok {R o rest : Int} {k : Nat} (hR : okRing R) (h : PartIs R o k rest) : okWord R k (rest / (tabRow k).2.2.1) (rest % (tabRow k).2.2.1) ∧ offP R k (rest / (tabRow k).2.2.1) (rest % (tabRow k).2.2.1) = o := by
  obtain ⟨h1, h2, h3, h4, h5⟩ := h
  have hb := hR.bd
  have : k = 1 ∨ k = 2 ∨ k = 3 ∨ k = 4 ∨ k = 5 ∨ k = 6 ∨ k = 7 ∨ k = 8 := by omega
  unfold fstP at h3
  unfold lenP slotsP at h5
  unfold okWord offP
  rcases this with rfl | rfl | rfl | rfl | rfl | rfl | rfl | rfl <;> simp [tabRow] at h3 h5 ⊢ <;> omega

theorem place_is {c r b a o rest : Int} {k : Nat} (hC : okConf c r b) (ha : 0 ≤ a ∧ a < c * (c - 1) * (4 + 11 * r)) (ho : o = a % (4 + 11 * r)) (h : PartIs r o k rest) :
    WhIs c r b a (endF c (a / (4 + 11 * r))) (endT c (a / (4 + 11 * r))) k (rest / (tabRow k).2.2.1) (rest % (tabRow k).2.2.1) true := by
  have hc : 2 ≤ c ∧ c ≤ 8 := ⟨hC.1, hC.2.1⟩
  have hn : 0 ≤ a / (4 + 11 * r) ∧ a / (4 + 11 * r) < c * (c - 1) := by
    have hr := hC.2.2.1.bd
    exact ⟨Int.ediv_nonneg ha.1 (by omega), Int.ediv_lt_of_lt_mul (by omega) ha.2⟩
  obtain ⟨e1, e2⟩ := ends_ok hc hn
  obtain ⟨p1, p2⟩ := place_ok hC.2.2.1 h
  refine Or.inl ⟨rfl, hC, e1, p1, ?_⟩
  unfold spotP
  rw [e2, p2, ho]
  have := Int.mul_ediv_add_emod a (4 + 11 * r)
  rw [Int.mul_comm] at this
  exact this

theorem ends13_q (c n : Int) (hc : 2 ≤ c ∧ c ≤ 8) (hn : 0 ≤ n ∧ n < c * (c - 1)) (w : World) (m : Nat) :
    Calls Tryd.prog 28 #[.int .i64 c, .int .i64 n] (w.drewN m) fun e w' => e = .returned (.tuple #[.int .i64 (endF c n), .int .i64 (endT c n)]) ∧ ∃ k, w' = w.drewN k :=
  (ends13_any c n hc hn _).mono fun _ _ ⟨he, k, hw⟩ => ⟨he, m + k, hw.trans (World.drewN_drewN _ _ _)⟩

def placeV (f t k s i : Int) : Value := .agg #[.int .i64 f, .int .i64 t, .int .i64 k, .int .i64 s, .int .i64 i]

/-- The boxes of Where: the configuration at P, the result's five cells behind it, the table. -/
structure WhT (w : World) (P : Nat) (c r b : Int) (W : World) : Prop where
  conf : Row W P 23 [.int .i64 c, .int .i64 r, .int .i64 b]
  res : Row W (P + 1) 40 [.int .i64 0, .int .i64 0, .int .i64 0, .int .i64 0, .int .i64 0]
  tab : TabAt W
  old : Below P w W

theorem WhT.below {w W W' : World} {P : Nat} {c r b : Int} (h : WhT w P c r b W) (hb : Below W.heap.size W W') : WhT w P c r b W' :=
  ⟨h.conf.below hb, h.res.below hb, h.tab.below hb, h.old.trans (hb.mono (by have := h.conf.lt; omega))⟩

theorem WhT.dn {w W : World} {P : Nat} {c r b : Int} (h : WhT w P c r b W) (n : Nat) : WhT w P c r b (W.drewN n) := h.below (below_q W n)

theorem WhT.cells {w W : World} {P : Nat} {c r b : Int} (h : WhT w P c r b W) :
    W.cell? ⟨P, 0, none⟩ = some (.int .i64 c) ∧ W.cell? ⟨P, 1, none⟩ = some (.int .i64 r) ∧ W.cell? ⟨P, 2, none⟩ = some (.int .i64 b) ∧ W.cell? ⟨P + 1, 0, none⟩ = some (.int .i64 0) ∧ W.cell? ⟨P + 1, 1, none⟩ = some (.int .i64 0) ∧ W.cell? ⟨P + 1, 2, none⟩ = some (.int .i64 0) ∧ W.cell? ⟨P + 1, 3, none⟩ = some (.int .i64 0) ∧ W.cell? ⟨P + 1, 4, none⟩ = some (.int .i64 0) ∧
    W.frozen? ⟨P + 1, 0, none⟩ = false ∧ W.frozen? ⟨P + 1, 1, none⟩ = false ∧ W.frozen? ⟨P + 1, 2, none⟩ = false ∧ W.frozen? ⟨P + 1, 3, none⟩ = false ∧ W.frozen? ⟨P + 1, 4, none⟩ = false ∧ P + 1 < W.heap.size :=
  ⟨h.conf.cell 0, h.conf.cell 1, h.conf.cell 2, h.res.cell 0, h.res.cell 1, h.res.cell 2, h.res.cell 3, h.res.cell 4, h.res.soft 0, h.res.soft 1, h.res.soft 2, h.res.soft 3, h.res.soft 4, h.res.lt⟩

theorem WhT.drew {w W : World} {P : Nat} {c r b : Int} (h : WhT w P c r b W) : WhT w P c r b W.drew := h.dn 1

theorem sincePart {r o : Int} (h : ∀ W, TabAt W → Calls Tryd.prog 29 #[.int .i64 r, .int .i64 o] W fun e w' => (∃ k rest, e = .returned (.tuple #[.int .i64 ((k : Nat) : Int), .int .i64 rest]) ∧ PartIs r o k rest) ∧ Below W.heap.size W w') (W : World) {w : World} {P : Nat} {c b : Int} (hW : WhT w P c r b W) :
    Calls Tryd.prog 29 #[.int .i64 r, .int .i64 o] W fun e w' => (∃ k rest, e = .returned (.tuple #[.int .i64 ((k : Nat) : Int), .int .i64 rest]) ∧ PartIs r o k rest) ∧ WhT w P c r b w' :=
  (h W hW.tab).mono fun _ _ ⟨he, hb'⟩ => ⟨he, hW.below hb'⟩

/-- The result, written. -/
theorem WhT.put5 {w W : World} {P : Nat} {c r b : Int} (h : WhT w P c r b W) (u0 u1 u2 u3 u4 : Value) :
    let W' := ((((W.setCell ⟨P + 1, 0, none⟩ u0).setCell ⟨P + 1, 1, none⟩ u1).setCell ⟨P + 1, 2, none⟩ u2).setCell ⟨P + 1, 3, none⟩ u3).setCell ⟨P + 1, 4, none⟩ u4
    Row W' (P + 1) 40 [u0, u1, u2, u3, u4] ∧ Below P w W' := by
  refine ⟨((((h.res.put 0 u0).put 1 u1).put 2 u2).put 3 u3).put 4 u4, ?_⟩
  exact ((((h.old.setCell (p := ⟨P + 1, 0, none⟩) (by show P ≤ P + 1; omega) _).setCell (p := ⟨P + 1, 1, none⟩) (by show P ≤ P + 1; omega) _).setCell (p := ⟨P + 1, 2, none⟩) (by show P ≤ P + 1; omega) _).setCell (p := ⟨P + 1, 3, none⟩) (by show P ≤ P + 1; omega) _).setCell (p := ⟨P + 1, 4, none⟩) (by show P ≤ P + 1; omega) _

theorem len_bd {k : Nat} {R : Int} (hk : 1 ≤ k ∧ k ≤ 8) (hR : 2 ≤ R ∧ R ≤ 64) : lenP k R ≤ 512 := by
  have : k = 1 ∨ k = 2 ∨ k = 3 ∨ k = 4 ∨ k = 5 ∨ k = 6 ∨ k = 7 ∨ k = 8 := by omega
  unfold lenP slotsP
  rcases this with rfl | rfl | rfl | rfl | rfl | rfl | rfl | rfl <;> simp [tabRow] <;> omega

set_option maxRecDepth 100000 in
set_option maxHeartbeats 1000000 in
theorem where13_any (c r b a : Int) (w : World) (hT : TabAt w) :
    Calls Tryd.prog 19 #[cfV c r b, .int .i64 a] w fun e w' => (∃ f t k s i ok, e = .returned (.tuple #[placeV f t k s i, .bool ok]) ∧ WhIs c r b a f t k s i ok) ∧ Below w.heap.size w w' := by
  have WT := Lib.hid (words13_any c r b)
  have H0 : WhT w w.heap.size c r b ((w.alloc (.cells #[.int .i64 c, .int .i64 r, .int .i64 b] 23)).alloc (.cells #[.int .i64 0, .int .i64 0, .int .i64 0, .int .i64 0, .int .i64 0] 40)) :=
    ⟨(row13 w 23 #[.int .i64 c, .int .i64 r, .int .i64 b]).below (below_al _ _), by simpa using row13 (w.alloc (.cells #[.int .i64 c, .int .i64 r, .int .i64 b] 23)) 40 #[.int .i64 0, .int .i64 0, .int .i64 0, .int .i64 0, .int .i64 0], (hT.al _).al _, below_on (below_al _ _) (below_al _ _)⟩
  have HN := Lib.hid (fun W (hb : Below ((w.alloc (.cells #[.int .i64 c, .int .i64 r, .int .i64 b] 23)).alloc (.cells #[.int .i64 0, .int .i64 0, .int .i64 0, .int .i64 0, .int .i64 0] 40)).heap.size ((w.alloc (.cells #[.int .i64 c, .int .i64 r, .int .i64 b] 23)).alloc (.cells #[.int .i64 0, .int .i64 0, .int .i64 0, .int .i64 0, .int .i64 0] 40)) W) => H0.below hb)
  clear H0 hT
  have HI := Lib.hid (words_iff c r b a)
  unfold cfV at WT ⊢
  by_cases hA : okConf c r b ∧ 0 ≤ a ∧ a < c * (c - 1) * (4 + 11 * r)
  · have W0 := Lib.hid (decide_eq_true (HI.out.2 hA))
    obtain ⟨hC, ha⟩ := hA
    have hc : 2 ≤ c ∧ c ≤ 8 := ⟨hC.1, hC.2.1⟩
    have hrb := hC.2.2.1.bd
    have e1 : sizeP r = 4 + 11 * r := if_pos hC.2.2.1
    have hn : 0 ≤ a / (4 + 11 * r) ∧ a / (4 + 11 * r) < c * (c - 1) := ⟨Int.ediv_nonneg ha.1 (by omega), Int.ediv_lt_of_lt_mul (by omega) ha.2⟩
    have ho : 0 ≤ a % (4 + 11 * r) ∧ a % (4 + 11 * r) < 4 + 11 * r := ⟨Int.emod_nonneg _ (by omega), Int.emod_lt_of_pos _ (by omega)⟩
    have hq : a.tdiv (4 + 11 * r) = a / (4 + 11 * r) := Int.tdiv_eq_ediv_of_nonneg ha.1
    have hm : a.tmod (4 + 11 * r) = a % (4 + 11 * r) := Int.tmod_eq_emod_of_nonneg ha.1
    have HRB := Lib.hid hrb
    have PI := Lib.hid (fun (rest : Int) (k : Nat) (o : Int) (ho : o = a % (4 + 11 * r)) (h : PartIs r o k rest) => place_is hC ha ho h)
    have EN := Lib.hid (ends13_q c (a / (4 + 11 * r)) hc hn)
    have PT := Lib.hid (fun W hW => part13_any r (a % (4 + 11 * r)) hrb ho W hW)
    have SZ := Lib.hid (fun W => size13_any r W)
    rw [e1] at SZ
    obtain ⟨s, es⟩ : ∃ s, 4 + 11 * r = s := ⟨_, rfl⟩
    obtain ⟨n, en⟩ : ∃ n, a / s = n := ⟨_, rfl⟩
    obtain ⟨o, eo⟩ : ∃ o, a % s = o := ⟨_, rfl⟩
    rw [es] at PI hq hm EN PT SZ hn ho
    have PJ := Lib.hid (fun rest k (h : PartIs r o k rest) => PI.out rest k o eo.symm h)
    rw [en] at PJ hq EN
    rw [eo] at PT hm
    obtain ⟨F, eF⟩ : ∃ F, endF c n = F := ⟨_, rfl⟩
    obtain ⟨T, eT⟩ : ∃ T, endT c n = T := ⟨_, rfl⟩
    rw [eF, eT] at EN PJ
    have hs : 26 ≤ s ∧ s ≤ 708 := by omega
    obtain ⟨hs1, hs2⟩ := hs
    have hz : s ≠ 0 := by omega
    have hz2 : (s == 0) = false := by simpa using hz
    have hob : 0 ≤ o ∧ o < s := by rw [← eo]; exact ho
    obtain ⟨ho1, ho2⟩ := hob
    have hnb : 0 ≤ n ∧ n ≤ 56 := by
      have := (pairs_bd hc).2
      rw [en] at hn
      omega
    obtain ⟨hn1, hn2⟩ := hnb
    have hwn : IntKind.i64.wrap n = n := by simp only [IntKind.wrap_i64]; omega
    have hwo : IntKind.i64.wrap o = o := by simp only [IntKind.wrap_i64]; omega
    obtain ⟨ha1, -⟩ := ha
    clear HI PI hC hc hrb e1 hn ho es en eo eF eT
    go_enter Tryd.func19, Tryd.ntmps19
    go_wp2_with fail
    refine (WT.out _).mono ?_
    rintro e w1 ⟨rfl, hb1⟩
    have HW1 := Lib.hid (HN.out _ hb1)
    obtain ⟨c0, c1, c2, d0, d1, d2, d3, d4, f0, f1, f2, f3, f4, hlt⟩ := HW1.out.cells
    clear hb1 HN WT d0 d1 d2 d3 d4 f0 f1 f2 f3 f4
    go_wp2_with fail
    refine (below13_any _ _ _).mono ?_
    rintro e w' ⟨rfl, rfl⟩
    rw [W0.out]
    go_wp2_with fail
    refine (SZ.out _).mono ?_
    rintro e w' ⟨rfl, rfl⟩
    go_wp2
    go_quiet ((go_at_call 28; exact EN.out _ _))
    have HW2 := Lib.hid (HW1.out.dn nq)
    clear c0 c1 c2 hlt HW1
    generalize w1.drewN nq = w2 at *
    obtain ⟨c0, c1, c2, d0, d1, d2, d3, d4, f0, f1, f2, f3, f4, hlt⟩ := HW2.out.cells
    clear c0 c2 d0 d1 d2 d3 d4 f0 f1 f2 f3 f4
    go_wp2
    generalize hP : w.heap.size = P at *
    have ht0 := HW2.out
    go_region_held3 (fun W => W.cell? ⟨P, 1, none⟩ = some (.int .i64 r) ∧ WhT w P c r b W)
      (first | exact ⟨ht1.cells.2.1, ht1⟩ | exact ⟨ht0.drew.cells.2.1, ht0.drew⟩ | exact ⟨ht0.cells.2.1, ht0⟩ | go_keep)
      (first
        | (go_at_call 29; refine (sincePart PT.out _ (w := w) (P := P) (c := c) (b := b) ?_).mono ?_; (go_split_ands; assumption); rintro e w3 ⟨⟨k, rest, rfl, hp⟩, ht1⟩))
    have hres := PJ.out _ _ hp
    obtain ⟨hk1, hk8, -, hr1, hr2⟩ := hp
    have hk9 : k < 9 := by omega
    have hk9' : (k : Int) < 9 := by omega
    have hk0 : (0 : Int) ≤ (k : Int) := by omega
    obtain ⟨-, -, t2, -⟩ := ht1.tab.row k hk9
    have hlt0 := ht1.tab.lt
    have hbd := tabRow_bd ⟨hk1, hk8⟩
    have hrest : rest ≤ 512 := by
      have hb : lenP k r ≤ 512 := len_bd ⟨hk1, hk8⟩ HRB.out
      omega
    obtain ⟨wd, ewd⟩ : ∃ b, (tabRow k).2.2.1 = b := ⟨_, rfl⟩
    rw [ewd] at t2 hres hbd
    obtain ⟨-, -, -, -, hwd1, hwd2⟩ := hbd
    have hq2 : rest.tdiv wd = rest / wd := Int.tdiv_eq_ediv_of_nonneg hr1
    have hm2 : rest.tmod wd = rest % wd := Int.tmod_eq_emod_of_nonneg hr1
    have hS1 : 0 ≤ rest / wd := Int.ediv_nonneg hr1 (by omega)
    have hS2 : rest / wd ≤ rest := Int.ediv_le_self _ hr1
    have hI1 : 0 ≤ rest % wd := Int.emod_nonneg _ (by omega)
    have hI2 : rest % wd < wd := Int.emod_lt_of_pos _ (by omega)
    obtain ⟨S, eS⟩ : ∃ b, rest / wd = b := ⟨_, rfl⟩
    obtain ⟨I, eI⟩ : ∃ b, rest % wd = b := ⟨_, rfl⟩
    rw [eS] at hq2 hS1 hS2 hres
    rw [eI] at hm2 hI1 hI2 hres
    have hwz : wd ≠ 0 := by omega
    have hwz2 : (wd == 0) = false := by simpa using hwz
    have hwS : IntKind.i64.wrap S = S := by simp only [IntKind.wrap_i64]; omega
    have hwI : IntKind.i64.wrap I = I := by simp only [IntKind.wrap_i64]; omega
    have HRES := Lib.hid hres
    obtain ⟨-, -, -, d0, d1, d2, d3, d4, f0, f1, f2, f3, f4, hlt⟩ := ht1.cells
    obtain ⟨rr, hbb⟩ := ht1.put5 (.int .i64 F) (.int .i64 T) (.int .i64 k) (.int .i64 S) (.int .i64 I)
    have RR := Lib.hid rr
    have HB := Lib.hid hbb
    clear hres rr hbb ht1 ht0 eS eI ewd PJ PT EN SZ HW2 W0 hq hm hr2 c1
    go_wp2
    go_region
    subst hP
    have q0 := (show Row _ _ _ _ from RR.out).cell 0
    have q1 := (show Row _ _ _ _ from RR.out).cell 1
    have q2 := (show Row _ _ _ _ from RR.out).cell 2
    have q3 := (show Row _ _ _ _ from RR.out).cell 3
    have q4 := (show Row _ _ _ _ from RR.out).cell 4
    clear RR t2 d0 d1 d2 d3 d4 f0 f1 f2 f3 f4 hlt
    generalize ((((w3.setCell ⟨w.heap.size + 1, 0, none⟩ (.int .i64 F)).setCell ⟨w.heap.size + 1, 1, none⟩ (.int .i64 T)).setCell ⟨w.heap.size + 1, 2, none⟩ (.int .i64 k)).setCell ⟨w.heap.size + 1, 3, none⟩ (.int .i64 S)).setCell ⟨w.heap.size + 1, 4, none⟩ (.int .i64 I) = w4 at *
    simp only [List.getElem?_cons_zero, List.getElem?_cons_succ] at q0 q1 q2 q3 q4
    go_wp2
    exact bodyPost_ret (v := .tuple #[.agg #[.int .i64 F, .int .i64 T, .int .i64 k, .int .i64 S, .int .i64 I], .bool true]) (by simp [results, Tryd.results19, go_sem, q0, q1, q2, q3, q4]) rfl ⟨⟨F, T, k, S, I, true, rfl, HRES.out⟩, HB.out.drew⟩
  · have W0 := Lib.hid (decide_eq_false (fun h => hA (HI.out.1 h)))
    have HA := Lib.hid hA
    clear hA
    go_enter Tryd.func19, Tryd.ntmps19
    go_wp2_with fail
    refine (WT.out _).mono ?_
    rintro e w1 ⟨rfl, hb1⟩
    have h1 := HN.out _ hb1
    obtain ⟨c0, c1, c2, d0, d1, d2, d3, d4, f0, f1, f2, f3, f4, hlt⟩ := h1.cells
    obtain ⟨rr, hbb⟩ := h1.put5 (.int .i64 0) (.int .i64 0) (.int .i64 0) (.int .i64 0) (.int .i64 0)
    have RR := Lib.hid rr
    have HB := Lib.hid hbb
    clear h1 hb1 rr hbb
    go_wp2_with fail
    refine (below13_any _ _ _).mono ?_
    rintro e w' ⟨rfl, rfl⟩
    rw [W0.out]
    go_wp2
    exact bodyPost_ret (v := .tuple #[.agg #[.int .i64 0, .int .i64 0, .int .i64 0, .int .i64 0, .int .i64 0], .bool false]) (by simp [results, Tryd.results19, go_sem, RR.out.cell]) rfl ⟨⟨0, 0, 0, 0, 0, false, rfl, Or.inr ⟨rfl, rfl, rfl, rfl, rfl, rfl, HA.out⟩⟩, HB.out⟩

#print axioms where13_any
end Go.Proofs.YtofiogbpejjolaaDoor
