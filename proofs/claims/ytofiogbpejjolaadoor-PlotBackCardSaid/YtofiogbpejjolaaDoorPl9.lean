/-
  Layer 13 (plot): the walk of PlotBack.
  Conditions: those that each theorem states (the table of the fields lies as the chapter gives it).
-/
import Derived.Test.YtofiogbpejjolaaDoorPl6
import Derived.Test.YtofiogbpejjolaaDoorPl5
namespace Go.Proofs.YtofiogbpejjolaaDoor
open Go.ChangeShapes Go.WideShapes Go.ChangeAt Go.RowKit

/-- Blocks known whole, the table, and that nothing that was there in w has changed. -/
structure Held13 (w : World) (rs : List (Nat × TypeId × List Value)) (W : World) : Prop where
  rows : ∀ x ∈ rs, Row W x.1 x.2.1 x.2.2
  tab : TabAt W
  old : Below w.heap.size w W

theorem Held13.below {w W W' : World} {rs : List (Nat × TypeId × List Value)} (h : Held13 w rs W) (hb : Below W.heap.size W W') : Held13 w rs W' :=
  ⟨fun x hx => (h.rows x hx).below hb, h.tab.below hb, below_on h.old hb⟩

theorem Held13.al {w W : World} {rs : List (Nat × TypeId × List Value)} (h : Held13 w rs W) (t : TypeId) (cs : List Value) : Held13 w ((W.heap.size, t, cs) :: rs) (W.alloc (.cells cs.toArray t)) :=
  ⟨fun x hx => by
    rcases List.mem_cons.1 hx with rfl | hx
    · simpa using row13 W t cs.toArray
    · exact (h.rows x hx).below (below_al _ _), h.tab.al _, below_on h.old (below_al _ _)⟩

theorem Held13.nth {w W : World} {rs : List (Nat × TypeId × List Value)} (h : Held13 w rs W) (n : Nat) {x : Nat × TypeId × List Value} (hx : rs[n]? = some x) : Row W x.1 x.2.1 x.2.2 := h.rows x (List.mem_of_getElem? hx)

theorem Held13.sub {w W : World} {rs rs' : List (Nat × TypeId × List Value)} (h : Held13 w rs W) (hs : ∀ x ∈ rs', x ∈ rs) : Held13 w rs' W := ⟨fun x hx => h.rows x (hs x hx), h.tab, h.old⟩

theorem Row.five {W : World} {g : Nat} {ty : TypeId} {a0 a1 a2 a3 a4 : Value} (h : Row W g ty [a0, a1, a2, a3, a4]) :
    W.cell? ⟨g, 0, none⟩ = some a0 ∧ W.cell? ⟨g, 1, none⟩ = some a1 ∧ W.cell? ⟨g, 2, none⟩ = some a2 ∧ W.cell? ⟨g, 3, none⟩ = some a3 ∧ W.cell? ⟨g, 4, none⟩ = some a4 ∧ g < W.heap.size :=
  ⟨h.cell 0, h.cell 1, h.cell 2, h.cell 3, h.cell 4, h.lt⟩

theorem Held13.ten {w W : World} {g g' : Nat} {ty ty' : TypeId} {a0 a1 a2 a3 a4 b0 b1 b2 : Value} (h : Held13 w [(g, ty, [a0, a1, a2, a3, a4]), (g', ty', [b0, b1, b2])] W) :
    W.cell? ⟨g', 0, none⟩ = some b0 ∧ W.cell? ⟨g', 1, none⟩ = some b1 ∧ W.cell? ⟨g', 2, none⟩ = some b2 ∧ W.cell? ⟨g, 0, none⟩ = some a0 ∧ W.cell? ⟨g, 1, none⟩ = some a1 ∧ W.cell? ⟨g, 2, none⟩ = some a2 ∧ W.cell? ⟨g, 3, none⟩ = some a3 ∧ W.cell? ⟨g, 4, none⟩ = some a4 ∧ g' < W.heap.size ∧ g < W.heap.size :=
  ⟨(h.nth 1 rfl).cell 0, (h.nth 1 rfl).cell 1, (h.nth 1 rfl).cell 2, (h.nth 0 rfl).cell 0, (h.nth 0 rfl).cell 1, (h.nth 0 rfl).cell 2, (h.nth 0 rfl).cell 3, (h.nth 0 rfl).cell 4, (h.nth 1 rfl).lt, (h.nth 0 rfl).lt⟩

theorem Held13.start {w : World} (h : TabAt w) : Held13 w [] w := ⟨fun x hx => (by simp at hx), h, Below.refl _ _⟩

theorem wh_yes {c r b a f t k s i : Int} (h : WhIs c r b a f t k s i true) : decide (ofOk c r b f t) = true ∧ decide (okWord (ofR c r b f t) k s i) = true ∧ atV13 (ofB c r b f t) (ofR c r b f t) k s i = a := by
  rcases h with ⟨-, h1, h2, h3, h4⟩ | ⟨h, -⟩
  · have ho : ofOk c r b f t := ⟨h1, h2⟩
    have e1 : ofR c r b f t = r := if_pos ho
    have e2 : ofB c r b f t = rankP c f t * (4 + 11 * r) := if_pos ho
    rw [e1, e2]
    refine ⟨decide_eq_true ho, decide_eq_true h3, ?_⟩
    unfold atV13
    rw [if_pos h3]
    exact h4
  · cases h

theorem wh_make {c r b f t k s i : Int} (ho : decide (ofOk c r b f t) = true) (hk : decide (okWord (ofR c r b f t) k s i) = true) :
    WhIs c r b (atV13 (ofB c r b f t) (ofR c r b f t) k s i) f t k s i true ∧ atV13 (ofB c r b f t) (ofR c r b f t) k s i < wordsP c r b := by
  have ho' := of_decide_eq_true ho
  have hk' := of_decide_eq_true hk
  have e1 : ofR c r b f t = r := if_pos ho'
  have e2 : ofB c r b f t = rankP c f t * (4 + 11 * r) := if_pos ho'
  rw [e1] at hk'
  have e3 : atV13 (ofB c r b f t) (ofR c r b f t) k s i = spotP c r f t k s i := by
    rw [e1, e2]
    unfold atV13
    rw [if_pos hk']
    rfl
  rw [e3]
  exact ⟨Or.inl ⟨rfl, ho'.1, ho'.2, hk', rfl⟩, by
    have := spot_bd ⟨ho'.1.1, ho'.1.2.1⟩ ho'.1.2.2.1 ho'.2 hk'
    exact ((words_iff c r b _).2 ⟨ho'.1, this⟩).2⟩

theorem wh_ok {c r b a f t k s i : Int} {o : Bool} (h : WhIs c r b a f t k s i o) : o = true ↔ (0 ≤ a ∧ a < wordsP c r b) := by
  rw [words_iff]
  rcases h with ⟨rfl, h1, h2, h3, h4⟩ | ⟨rfl, -, -, -, -, -, hn⟩
  · exact ⟨fun _ => ⟨h1, h4 ▸ spot_bd ⟨h1.1, h1.2.1⟩ h1.2.2.1 h2 h3⟩, fun _ => rfl⟩
  · exact ⟨fun h => by simp at h, fun h => absurd h hn⟩

theorem of_bd9 (c r b f t : Int) : (0 ≤ ofB c r b f t ∧ ofB c r b f t ≤ 100000) ∧ (0 ≤ ofR c r b f t ∧ ofR c r b f t ≤ 64) := by
  unfold ofB ofR
  by_cases h : ofOk c r b f t
  · rw [if_pos h, if_pos h]
    have hc : 2 ≤ c ∧ c ≤ 8 := ⟨h.1.1, h.1.2.1⟩
    have h1 := rank_bd hc h.2
    have h2 := pairs_bd hc
    have h3 := h.1.2.2.1.bd
    have hq : 0 ≤ rankP c f t * (4 + 11 * r) ∧ rankP c f t * (4 + 11 * r) ≤ 40000 := ⟨Int.mul_nonneg h1.1 (by omega), Int.le_trans (Int.mul_le_mul (show rankP c f t ≤ 56 by omega) (show 4 + 11 * r ≤ 708 by omega) (by omega) (by omega)) (by omega)⟩
    omega
  · rw [if_neg h, if_neg h]
    omega

set_option maxRecDepth 100000 in
set_option maxHeartbeats 4000000 in
theorem plotBack_any (c r b a f t k s i : Int) (w : World) (hT : TabAt w) :
    Calls Tryd.prog 6 #[cfV c r b, .int .i64 a, placeV f t k s i] w fun e w' => e = .returned (.bool true) ∧ Below w.heap.size w w' := by
  have WH := Lib.hid (fun a W hW => where13_any c r b a W hW)
  have OF := Lib.hid (fun f t W => of13_any c r b f t W)
  have AT := Lib.hid (fun f t k s i W hW => at13_any (ofB c r b f t) (ofR c r b f t) k s i (of_bd9 c r b f t).1 (of_bd9 c r b f t).2 W hW)
  have WD := Lib.hid (words13_any c r b)
  have H0 : Held13 w [(w.heap.size + 1, 40, [.int .i64 f, .int .i64 t, .int .i64 k, .int .i64 s, .int .i64 i]), (w.heap.size, 23, [.int .i64 c, .int .i64 r, .int .i64 b])] ((w.alloc (.cells #[.int .i64 c, .int .i64 r, .int .i64 b] 23)).alloc (.cells #[.int .i64 f, .int .i64 t, .int .i64 k, .int .i64 s, .int .i64 i] 40)) := by
    simpa using ((Held13.start hT).al 23 [.int .i64 c, .int .i64 r, .int .i64 b]).al 40 [.int .i64 f, .int .i64 t, .int .i64 k, .int .i64 s, .int .i64 i]
  have HH0 := Lib.hid H0
  unfold cfV at WH OF WD ⊢
  unfold placeV at WH ⊢
  unfold plV at OF AT
  clear H0 hT
  go_enter Tryd.func6, Tryd.ntmps6
  go_wp2_with fail
  refine (WH.out a _ HH0.out.tab).mono ?_
  rintro e w1 ⟨⟨F, T, K, S, I, o, rfl, hw⟩, hb1⟩
  have HW := Lib.hid hw
  have HO := Lib.hid (wh_ok hw)
  have H1 := Lib.hid ((HH0.out.below hb1).al 40 [.int .i64 F, .int .i64 T, .int .i64 K, .int .i64 S, .int .i64 I])
  have HC1 := Lib.hid (HH0.out.below hb1)
  clear hw hb1 HH0
  obtain ⟨c0, c1, c2, -, -, -, -, -, hlt, -⟩ := HC1.out.ten
  by_cases ha : 0 ≤ a
  · have t0 : decide (0 ≤ a) = true := by simpa using ha
    go_wp2_with fail
    refine (WD.out _).mono ?_
    rintro e w2 ⟨rfl, hb2⟩
    have H2 := Lib.hid (H1.out.below hb2)
    have hAlt := (H2.out.nth 0 rfl).lt
    dsimp only at hAlt
    clear c0 c1 c2 hlt hb2 H1 HC1
    generalize w1.heap.size = A at *
    by_cases haw : a < wordsP c r b
    · have t1 : decide (a < wordsP c r b) = true := by simpa using haw
      obtain rfl : o = true := HO.out.2 ⟨ha, haw⟩
      obtain ⟨g1, g2, g3⟩ := wh_yes HW.out
      have OF1 := Lib.hid (OF.out F T)
      have AT1 := Lib.hid (AT.out F T K S I)
      rw [g1] at OF1
      rw [g2, g3] at AT1
      obtain ⟨V0, eV⟩ : ∃ v, ofB c r b F T = v := ⟨_, rfl⟩
      obtain ⟨R0, eR⟩ : ∃ v, ofR c r b F T = v := ⟨_, rfl⟩
      rw [eV, eR] at OF1 AT1
      clear eV eR g1 g2 g3
      have HT2 := Lib.hid (H2.out.sub (rs' := [(w.heap.size + 1, 40, [.int .i64 f, .int .i64 t, .int .i64 k, .int .i64 s, .int .i64 i]), (w.heap.size, 23, [.int .i64 c, .int .i64 r, .int .i64 b])]) (by simp))
      obtain ⟨c0, c1, c2, x0, x1, x2, x3, x4, hl0, hl1⟩ := HT2.out.ten
      obtain ⟨d0, d1, d2, d3, d4, hl2⟩ := (H2.out.nth 0 rfl).five
      clear x0 x1 x2 x3 x4 hl1
      go_wp2_with fail
      refine (OF1.out _).mono ?_
      rintro e w3 ⟨rfl, hb3⟩
      have H3 := Lib.hid ((H2.out.below hb3).al 25 [.int .i64 V0, .int .i64 R0])
      clear c0 c1 c2 hl0 d0 d1 d2 d3 d4 hl2 H2 HT2
      obtain ⟨d0, d1, d2, d3, d4, hl2⟩ := (H3.out.nth 1 rfl).five
      have hA : A < w3.heap.size := Nat.lt_of_lt_of_le hAlt hb3.size
      clear hb3
      go_wp2_with fail
      refine (AT1.out _ H3.out.tab).mono ?_
      rintro e w4 ⟨rfl, hb4⟩
      have H4 := Lib.hid (H3.out.below hb4)
      clear d0 d1 d2 d3 d4 hl2 H3 hb4
      have HT := Lib.hid (H4.out.sub (rs' := [(w.heap.size + 1, 40, [.int .i64 f, .int .i64 t, .int .i64 k, .int .i64 s, .int .i64 i]), (w.heap.size, 23, [.int .i64 c, .int .i64 r, .int .i64 b])]) (by simp))
      clear H4
      obtain ⟨c0, c1, c2, x0, x1, x2, x3, x4, hl0, hl1⟩ := HT.out.ten
      have OF2 := Lib.hid (OF.out f t)
      have AT2 := Lib.hid (AT.out f t k s i)
      have WM := Lib.hid (fun ho hk => wh_make (c := c) (r := r) (b := b) (f := f) (t := t) (k := k) (s := s) (i := i) ho hk)
      obtain ⟨V, eV⟩ : ∃ v, ofB c r b f t = v := ⟨_, rfl⟩
      obtain ⟨R, eR⟩ : ∃ v, ofR c r b f t = v := ⟨_, rfl⟩
      obtain ⟨o1, eo1⟩ : ∃ v, decide (ofOk c r b f t) = v := ⟨_, rfl⟩
      rw [eV, eR, eo1] at OF2 WM
      rw [eV, eR] at AT2
      obtain ⟨o2, eo2⟩ : ∃ v, decide (okWord R k s i) = v := ⟨_, rfl⟩
      obtain ⟨z, ez⟩ : ∃ v, atV13 V R k s i = v := ⟨_, rfl⟩
      rw [eo2, ez] at AT2 WM
      clear eV eR eo1 eo2 ez
      go_wp2_with fail
      refine (OF2.out _).mono ?_
      rintro e w5 ⟨rfl, hb5⟩
      have H5 := Lib.hid ((HT.out.below hb5).al 25 [.int .i64 V, .int .i64 R])
      obtain ⟨c0', c1', c2', y0, y1, y2, y3, y4, hl0', hl1'⟩ := (HT.out.below hb5).ten
      clear c0 c1 c2 x0 x1 x2 x3 x4 hl0 hl1 hb5 HT c0' c1' c2' hl0' y0 y1
      go_wp2_with fail
      refine (AT2.out _ H5.out.tab).mono ?_
      rintro e w6 ⟨rfl, hb6⟩
      have H6 := Lib.hid ((H5.out.below hb6).sub (rs' := [(w.heap.size + 1, 40, [.int .i64 f, .int .i64 t, .int .i64 k, .int .i64 s, .int .i64 i]), (w.heap.size, 23, [.int .i64 c, .int .i64 r, .int .i64 b])]) (by simp))
      clear y2 y3 y4 hl1' hb6 H5
      obtain ⟨c0, c1, c2, x0, x1, x2, x3, x4, hl0, hl1⟩ := H6.out.ten
      cases o1
      · go_wp2_with fail
        refine (alive13 _ H6.out.tab).mono ?_
        rintro e w7 ⟨rfl, hb7⟩
        have HF := Lib.hid (below_on H6.out.old hb7)
        clear c0 c1 c2 x0 x1 x2 x3 x4 hl0 hl1 hb7
        go_wp2
        go_ret
        exact ⟨rfl, HF.out⟩
      cases o2
      · go_wp2_with fail
        refine (alive13 _ H6.out.tab).mono ?_
        rintro e w7 ⟨rfl, hb7⟩
        have HF := Lib.hid (below_on H6.out.old hb7)
        clear c0 c1 c2 x0 x1 x2 x3 x4 hl0 hl1 hb7
        go_wp2
        go_ret
        exact ⟨rfl, HF.out⟩
      obtain ⟨hz1, hz2⟩ := WM.out rfl rfl
      have HZ := Lib.hid hz1
      have tz : decide (z < wordsP c r b) = true := by simpa using hz2
      clear hz1 hz2
      go_wp2_with fail
      refine (WH.out z _ H6.out.tab).mono ?_
      rintro e w7 ⟨⟨F', T', K', S', I', o', rfl, hw'⟩, hb7⟩
      obtain ⟨rfl, rfl, rfl, rfl, rfl, rfl⟩ := hw'.eq HZ.out
      have H7 := Lib.hid ((H6.out.below hb7).al 40 [.int .i64 F', .int .i64 T', .int .i64 K', .int .i64 S', .int .i64 I'])
      obtain ⟨c0', c1', c2', y0, y1, y2, y3, y4, hl0', hl1'⟩ := (H6.out.below hb7).ten
      clear c0 c1 c2 x0 x1 x2 x3 x4 hl0 hl1 hb7 hw' H6
      go_wp2_with fail
      refine (WD.out _).mono ?_
      rintro e w8 ⟨rfl, hb8⟩
      have H8 := Lib.hid (H7.out.below hb8)
      clear c0' c1' c2' y0 y1 y2 y3 y4 hl0' hl1' hb8 H7
      go_wp2_with fail
      refine (alive13 _ H8.out.tab).mono ?_
      rintro e w9 ⟨rfl, hb9⟩
      have HF := Lib.hid (below_on H8.out.old hb9)
      clear hb9
      go_wp2
      go_ret
      exact ⟨rfl, HF.out⟩
    · have t1 : decide (a < wordsP c r b) = false := by simpa using haw
      obtain rfl : o = false := by
        cases o
        · rfl
        · exact absurd (HO.out.1 rfl).2 haw
      have HT := Lib.hid (H2.out.sub (rs' := [(w.heap.size + 1, 40, [.int .i64 f, .int .i64 t, .int .i64 k, .int .i64 s, .int .i64 i]), (w.heap.size, 23, [.int .i64 c, .int .i64 r, .int .i64 b])]) (by simp))
      clear H2
      obtain ⟨c0, c1, c2, x0, x1, x2, x3, x4, hl0, hl1⟩ := HT.out.ten
      have OF2 := Lib.hid (OF.out f t)
      have AT2 := Lib.hid (AT.out f t k s i)
      have WM := Lib.hid (fun ho hk => wh_make (c := c) (r := r) (b := b) (f := f) (t := t) (k := k) (s := s) (i := i) ho hk)
      obtain ⟨V, eV⟩ : ∃ v, ofB c r b f t = v := ⟨_, rfl⟩
      obtain ⟨R, eR⟩ : ∃ v, ofR c r b f t = v := ⟨_, rfl⟩
      obtain ⟨o1, eo1⟩ : ∃ v, decide (ofOk c r b f t) = v := ⟨_, rfl⟩
      rw [eV, eR, eo1] at OF2 WM
      rw [eV, eR] at AT2
      obtain ⟨o2, eo2⟩ : ∃ v, decide (okWord R k s i) = v := ⟨_, rfl⟩
      obtain ⟨z, ez⟩ : ∃ v, atV13 V R k s i = v := ⟨_, rfl⟩
      rw [eo2, ez] at AT2 WM
      clear eV eR eo1 eo2 ez
      go_wp2_with fail
      refine (OF2.out _).mono ?_
      rintro e w5 ⟨rfl, hb5⟩
      have H5 := Lib.hid ((HT.out.below hb5).al 25 [.int .i64 V, .int .i64 R])
      obtain ⟨c0', c1', c2', y0, y1, y2, y3, y4, hl0', hl1'⟩ := (HT.out.below hb5).ten
      clear c0 c1 c2 x0 x1 x2 x3 x4 hl0 hl1 hb5 HT c0' c1' c2' hl0' y0 y1
      go_wp2_with fail
      refine (AT2.out _ H5.out.tab).mono ?_
      rintro e w6 ⟨rfl, hb6⟩
      have H6 := Lib.hid ((H5.out.below hb6).sub (rs' := [(w.heap.size + 1, 40, [.int .i64 f, .int .i64 t, .int .i64 k, .int .i64 s, .int .i64 i]), (w.heap.size, 23, [.int .i64 c, .int .i64 r, .int .i64 b])]) (by simp))
      clear y2 y3 y4 hl1' hb6 H5
      obtain ⟨c0, c1, c2, x0, x1, x2, x3, x4, hl0, hl1⟩ := H6.out.ten
      cases o1
      · go_wp2_with fail
        refine (alive13 _ H6.out.tab).mono ?_
        rintro e w7 ⟨rfl, hb7⟩
        have HF := Lib.hid (below_on H6.out.old hb7)
        clear c0 c1 c2 x0 x1 x2 x3 x4 hl0 hl1 hb7
        go_wp2
        go_ret
        exact ⟨rfl, HF.out⟩
      cases o2
      · go_wp2_with fail
        refine (alive13 _ H6.out.tab).mono ?_
        rintro e w7 ⟨rfl, hb7⟩
        have HF := Lib.hid (below_on H6.out.old hb7)
        clear c0 c1 c2 x0 x1 x2 x3 x4 hl0 hl1 hb7
        go_wp2
        go_ret
        exact ⟨rfl, HF.out⟩
      obtain ⟨hz1, hz2⟩ := WM.out rfl rfl
      have HZ := Lib.hid hz1
      have tz : decide (z < wordsP c r b) = true := by simpa using hz2
      clear hz1 hz2
      go_wp2_with fail
      refine (WH.out z _ H6.out.tab).mono ?_
      rintro e w7 ⟨⟨F', T', K', S', I', o', rfl, hw'⟩, hb7⟩
      obtain ⟨rfl, rfl, rfl, rfl, rfl, rfl⟩ := hw'.eq HZ.out
      have H7 := Lib.hid ((H6.out.below hb7).al 40 [.int .i64 F', .int .i64 T', .int .i64 K', .int .i64 S', .int .i64 I'])
      obtain ⟨c0', c1', c2', y0, y1, y2, y3, y4, hl0', hl1'⟩ := (H6.out.below hb7).ten
      clear c0 c1 c2 x0 x1 x2 x3 x4 hl0 hl1 hb7 hw' H6
      go_wp2_with fail
      refine (WD.out _).mono ?_
      rintro e w8 ⟨rfl, hb8⟩
      have H8 := Lib.hid (H7.out.below hb8)
      clear c0' c1' c2' y0 y1 y2 y3 y4 hl0' hl1' hb8 H7
      go_wp2_with fail
      refine (alive13 _ H8.out.tab).mono ?_
      rintro e w9 ⟨rfl, hb9⟩
      have HF := Lib.hid (below_on H8.out.old hb9)
      clear hb9
      go_wp2
      go_ret
      exact ⟨rfl, HF.out⟩
  · have t0 : decide (0 ≤ a) = false := by simpa using ha
    obtain rfl : o = false := by
      cases o
      · rfl
      · exact absurd (HO.out.1 rfl).1 ha
    have HT := Lib.hid (H1.out.sub (rs' := [(w.heap.size + 1, 40, [.int .i64 f, .int .i64 t, .int .i64 k, .int .i64 s, .int .i64 i]), (w.heap.size, 23, [.int .i64 c, .int .i64 r, .int .i64 b])]) (by simp))
    clear H1
    obtain ⟨c0, c1, c2, x0, x1, x2, x3, x4, hl0, hl1⟩ := HT.out.ten
    have OF2 := Lib.hid (OF.out f t)
    have AT2 := Lib.hid (AT.out f t k s i)
    have WM := Lib.hid (fun ho hk => wh_make (c := c) (r := r) (b := b) (f := f) (t := t) (k := k) (s := s) (i := i) ho hk)
    obtain ⟨V, eV⟩ : ∃ v, ofB c r b f t = v := ⟨_, rfl⟩
    obtain ⟨R, eR⟩ : ∃ v, ofR c r b f t = v := ⟨_, rfl⟩
    obtain ⟨o1, eo1⟩ : ∃ v, decide (ofOk c r b f t) = v := ⟨_, rfl⟩
    rw [eV, eR, eo1] at OF2 WM
    rw [eV, eR] at AT2
    obtain ⟨o2, eo2⟩ : ∃ v, decide (okWord R k s i) = v := ⟨_, rfl⟩
    obtain ⟨z, ez⟩ : ∃ v, atV13 V R k s i = v := ⟨_, rfl⟩
    rw [eo2, ez] at AT2 WM
    clear eV eR eo1 eo2 ez
    go_wp2_with fail
    refine (OF2.out _).mono ?_
    rintro e w5 ⟨rfl, hb5⟩
    have H5 := Lib.hid ((HT.out.below hb5).al 25 [.int .i64 V, .int .i64 R])
    obtain ⟨c0', c1', c2', y0, y1, y2, y3, y4, hl0', hl1'⟩ := (HT.out.below hb5).ten
    clear c0 c1 c2 x0 x1 x2 x3 x4 hl0 hl1 hb5 HT c0' c1' c2' hl0' y0 y1
    go_wp2_with fail
    refine (AT2.out _ H5.out.tab).mono ?_
    rintro e w6 ⟨rfl, hb6⟩
    have H6 := Lib.hid ((H5.out.below hb6).sub (rs' := [(w.heap.size + 1, 40, [.int .i64 f, .int .i64 t, .int .i64 k, .int .i64 s, .int .i64 i]), (w.heap.size, 23, [.int .i64 c, .int .i64 r, .int .i64 b])]) (by simp))
    clear y2 y3 y4 hl1' hb6 H5
    obtain ⟨c0, c1, c2, x0, x1, x2, x3, x4, hl0, hl1⟩ := H6.out.ten
    cases o1
    · go_wp2_with fail
      refine (alive13 _ H6.out.tab).mono ?_
      rintro e w7 ⟨rfl, hb7⟩
      have HF := Lib.hid (below_on H6.out.old hb7)
      clear c0 c1 c2 x0 x1 x2 x3 x4 hl0 hl1 hb7
      go_wp2
      go_ret
      exact ⟨rfl, HF.out⟩
    cases o2
    · go_wp2_with fail
      refine (alive13 _ H6.out.tab).mono ?_
      rintro e w7 ⟨rfl, hb7⟩
      have HF := Lib.hid (below_on H6.out.old hb7)
      clear c0 c1 c2 x0 x1 x2 x3 x4 hl0 hl1 hb7
      go_wp2
      go_ret
      exact ⟨rfl, HF.out⟩
    obtain ⟨hz1, hz2⟩ := WM.out rfl rfl
    have HZ := Lib.hid hz1
    have tz : decide (z < wordsP c r b) = true := by simpa using hz2
    clear hz1 hz2
    go_wp2_with fail
    refine (WH.out z _ H6.out.tab).mono ?_
    rintro e w7 ⟨⟨F', T', K', S', I', o', rfl, hw'⟩, hb7⟩
    obtain ⟨rfl, rfl, rfl, rfl, rfl, rfl⟩ := hw'.eq HZ.out
    have H7 := Lib.hid ((H6.out.below hb7).al 40 [.int .i64 F', .int .i64 T', .int .i64 K', .int .i64 S', .int .i64 I'])
    obtain ⟨c0', c1', c2', y0, y1, y2, y3, y4, hl0', hl1'⟩ := (H6.out.below hb7).ten
    clear c0 c1 c2 x0 x1 x2 x3 x4 hl0 hl1 hb7 hw' H6
    go_wp2_with fail
    refine (WD.out _).mono ?_
    rintro e w8 ⟨rfl, hb8⟩
    have H8 := Lib.hid (H7.out.below hb8)
    clear c0' c1' c2' y0 y1 y2 y3 y4 hl0' hl1' hb8 H7
    go_wp2_with fail
    refine (alive13 _ H8.out.tab).mono ?_
    rintro e w9 ⟨rfl, hb9⟩
    have HF := Lib.hid (below_on H8.out.old hb9)
    clear hb9
    go_wp2
    go_ret
    exact ⟨rfl, HF.out⟩

#print axioms plotBack_any
end Go.Proofs.YtofiogbpejjolaaDoor
