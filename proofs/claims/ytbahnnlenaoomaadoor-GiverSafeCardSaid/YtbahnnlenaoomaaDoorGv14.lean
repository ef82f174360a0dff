/-
  Layer 16 (giver): the law's few, set, born, happens.
  Conditions: those that each theorem states.
-/
import Derived.Test.YtbahnnlenaoomaaDoorGv12
import Derived.Test.YtbahnnlenaoomaaDoorEv16
namespace Go.Proofs.YtbahnnlenaoomaaDoor
open Go.ChangeShapes Go.WideShapes Go.ChangeAt Go.RowKit

/-- What few answers. -/
def few16B (B : Int) (l : List Ev16) : Bool := decide (l.length ≤ 150) && decide (B ≤ 500) && l.all (fun x => decide (x.load.length ≤ 50))
theorem few16_yes {B : Int} {l : List Ev16} (h : few16B B l = true) : l.length ≤ 150 ∧ B ≤ 500 ∧ ∀ x ∈ l, x.load.length ≤ 50 := by
  simpa [few16B, and_assoc] using h

set_option maxRecDepth 100000 in
set_option maxHeartbeats 2000000 in
theorem few16_any (B R self peer own : Int) (v : Value) (l : List Ev16) (w : World) (hv : Evs w v l) (hm : l.length ≤ maxLen) :
    Calls Tryd.prog 8 #[baseV B R self peer own, v] w fun e w' => e = .returned (.bool (few16B B l)) ∧ Below w.heap.size w w' := by
  obtain ⟨A, n, c, rfl, hn, HV⟩ := hv.open_
  unfold baseV
  unfold maxLen at hm
  rw [hn] at hm
  have B0 := below_al w (.cells #[.int .i64 B, .int .i64 R, .int .i64 self, .int .i64 peer, .int .i64 own] 25)
  by_cases h1 : n ≤ 150
  · by_cases h2 : B ≤ 500
    · have g1 : ¬ (150 : Int) < (n : Int) := by omega
      have g2 : ¬ (500 : Int) < B := by omega
      have HN := Lib.hid hn
      have HL := Lib.hid (fun W (hb : Below w.heap.size w W) (k : Nat) (x : Ev16) (hk : l[k]? = some x) => (HV.at_ hk).imp fun g => Exists.imp fun o h => (⟨h.1, h.2.2.below hb⟩ : A = some ⟨g, o, none⟩ ∧ EvAt W g (o + k * 4) x))
      have BB := Lib.hid B0
      clear hv HV hn B0
      go_enter Tryd.func8, Tryd.ntmps8
      go_wp2
      go_loopw [18] (fun iv wr => ∃ k : Nat, k ≤ n ∧ iv = .int .i64 k ∧ Hid ((l.take k).all (fun x => decide (x.load.length ≤ 50)) = true) ∧ Hid (Below w.heap.size w wr)) (fun iv _ => n - (intOf iv).toNat)
      case atStart => exact ⟨0, Nat.zero_le _, rfl, Lib.hid (by simp), BB⟩
      case round =>
        clear BB
        obtain ⟨k, hk, rfl, HA, HB⟩ := hrel
        by_cases hlt : k < n
        · obtain ⟨x, hx⟩ : ∃ x, l[k]? = some x := ⟨_, List.getElem?_eq_getElem (by rw [HN.out]; exact hlt)⟩
          obtain ⟨g, o, rfl, u, c0, c1, c2, c3, hl, hcap⟩ := HL.out wr HB.out k x hx
          obtain ⟨Au, nu, cu, rfl, HNU, HU⟩ := lies_open hl
          have hkn : (k : Int) < (n : Int) := by omega
          have HX := Lib.hid hx
          clear hl hcap hx HL
          by_cases h50 : nu ≤ 50
          · have g3 : ¬ (50 : Int) < (nu : Int) := by omega
            have HA2 : Hid ((l.take (k + 1)).all (fun x => decide (x.load.length ≤ 50)) = true) := Lib.hid (by
              rw [List.take_add_one, HX.out]
              simp only [Option.toList_some, List.all_append, HA.out, List.all_cons, List.all_nil]
              rw [HNU.out]
              simpa using h50)
            clear h50
            go_wp2
            go_roundw
            case rel => exact ⟨k + 1, by omega, by go_num, HA2, Lib.hid (below_on HB.out (show Below wr.heap.size wr _ from by go_grown))⟩
            case measure => simp [intOf]; omega
          · have g3 : (50 : Int) < (nu : Int) := by omega
            have HF : Hid (few16B B l = false) := Lib.hid (by
              unfold few16B
              have : l.all (fun x => decide (x.load.length ≤ 50)) = false := by
                rw [List.all_eq_false]
                exact ⟨x, List.mem_of_getElem? HX.out, by rw [HNU.out]; simpa using h50⟩
              rw [this]
              simp)
            clear h50
            go_wp2
            go_ret
            exact ⟨by rw [HF.out]; rfl, below_on HB.out (show Below wr.heap.size wr _ from by go_grown)⟩
        · obtain rfl : n = k := by omega
          have HF : Hid (few16B B l = true) := Lib.hid (by
            have := HA.out
            rw [← HN.out, List.take_length] at this
            unfold few16B
            rw [this, HN.out]
            simp [h1, h2])
          go_wp2
          go_ret
          exact ⟨by rw [HF.out]; rfl, HB.out⟩
    · have g1 : ¬ (150 : Int) < (n : Int) := by omega
      have g2 : (500 : Int) < B := by omega
      have HF : Hid (few16B B l = false) := Lib.hid (by unfold few16B; simp [h2])
      clear hv HV hn h2
      go_enter Tryd.func8, Tryd.ntmps8
      go_wp2
      go_ret
      exact ⟨by rw [HF.out]; rfl, B0⟩
  · have g1 : (150 : Int) < (n : Int) := by omega
    have HF : Hid (few16B B l = false) := Lib.hid (by unfold few16B; rw [hn]; simp [h1])
    clear hv HV hn h1
    go_enter Tryd.func8, Tryd.ntmps8
    go_wp2
    go_ret
    exact ⟨by rw [HF.out]; rfl, B0⟩

/-- What a call leaves that returns a list of its own. -/
def OwnL16 (xs : List Int) (w : World) (e : Ending) (w' : World) : Prop := ∃ v, e = .returned v ∧ w'.ownsRow w.heap.size 3 1 v xs.length (ints xs) ∧ Below w.heap.size w w'

set_option maxRecDepth 100000 in
set_option maxHeartbeats 2000000 in
theorem set16_any (P : Nat → Prop) (l : List Int) (v : Value) (i x : Int) (w : World) (hv : Lies w P v (ints l)) (hcap : CapOk v) (hl : l.length ≤ 100000) :
    Calls Tryd.prog 46 #[v, .int .i64 i, .int .i64 x] w (OwnL16 (put14 l i x) w) := by
  obtain ⟨i0, hi0, hz0, hz1, hz2⟩ := info_parts int_info
  obtain ⟨A, n, c, rfl, HN, HV⟩ := lies_open hv
  have hn : n ≤ 100000 := by rw [← HN.out]; exact hl
  have O1 := Lib.hid (ints_one l)
  have HPL := Lib.hid (put14_len l i x)
  clear hv hl
  cases h : in14 l i with
  | false =>
    have E := Lib.hid (put14_out x h)
    have h0 := in14_no h
    rw [HN.out] at h0
    clear h
    rcases h0 with h0 | ⟨h0, h1⟩
    · have d0 : decide (0 ≤ i) = false := by simp; omega
      go_enter Tryd.func46, Tryd.ntmps46
      go_wp2_with (at_builtin; go_must (refine app_walk _ rfl (.tmp 8) (.tmp 9) 33 rfl w.heap.size 3 i0 _ 8 Tryd.underlying33 hi0 hz0 hz1 hz2 rfl (.slice (some ⟨w.heap.size, 0, none⟩) 0 0) 0 [] rfl (own_empty _ _ _) P A n c (ints l) rfl (HV.out.below (below_al _ _)) hcap O1.out (by unfold maxLen; omega) (by omega) (by simp) ?_; intro v1 w1 hown1 hg1 hat1; rw [Nat.zero_add, List.nil_append] at hown1; obtain ⟨A1, c1, rfl⟩ := own_open14 hown1; have HO := Lib.hid hown1; have HB := Lib.hid ((below_al w (.cells #[] 3)).grown hg1 (by simp) (by intro k hk; simp only [Value.ownBlock, Option.some.injEq] at hk; omega)); clear hown1 hg1 hat1))
      go_ret
      exact ⟨_, rfl, by rw [E.out, HN.out]; exact HO.out, HB.out⟩
    · have d0 : decide (i < (n : Int)) = false := by simp; omega
      go_enter Tryd.func46, Tryd.ntmps46
      go_wp2_with (at_builtin; go_must (refine app_walk _ rfl (.tmp 8) (.tmp 9) 33 rfl w.heap.size 3 i0 _ 8 Tryd.underlying33 hi0 hz0 hz1 hz2 rfl (.slice (some ⟨w.heap.size, 0, none⟩) 0 0) 0 [] rfl (own_empty _ _ _) P A n c (ints l) rfl (HV.out.below (below_al _ _)) hcap O1.out (by unfold maxLen; omega) (by omega) (by simp) ?_; intro v1 w1 hown1 hg1 hat1; rw [Nat.zero_add, List.nil_append] at hown1; obtain ⟨A1, c1, rfl⟩ := own_open14 hown1; have HO := Lib.hid hown1; have HB := Lib.hid ((below_al w (.cells #[] 3)).grown hg1 (by simp) (by intro k hk; simp only [Value.ownBlock, Option.some.injEq] at hk; omega)); clear hown1 hg1 hat1))
      go_ret
      exact ⟨_, rfl, by rw [E.out, HN.out]; exact HO.out, HB.out⟩
  | true =>
    obtain ⟨k, y, rfl, hx, hk, _, e⟩ := in14_at h
    have E := Lib.hid (e x)
    rw [HN.out] at hk
    have hk' : (k : Int) < (n : Int) := by omega
    have h0 : (0 : Int) ≤ (k : Int) := by omega
    clear h e hx
    go_enter Tryd.func46, Tryd.ntmps46
    go_wp2_with (at_builtin; go_must (refine app_walk _ rfl (.tmp 8) (.tmp 9) 33 rfl w.heap.size 3 i0 _ 8 Tryd.underlying33 hi0 hz0 hz1 hz2 rfl (.slice (some ⟨w.heap.size, 0, none⟩) 0 0) 0 [] rfl (own_empty _ _ _) P A n c (ints l) rfl (HV.out.below (below_al _ _)) hcap O1.out (by unfold maxLen; omega) (by omega) (by simp) ?_; intro v1 w1 hown1 hg1 hat1; rw [Nat.zero_add, List.nil_append] at hown1; obtain ⟨g1, c1, rfl, hgb, hglt⟩ := hown1.form (by omega); have HO := Lib.hid hown1; have HB := Lib.hid ((below_al w (.cells #[] 3)).grown hg1 (by simp) (by intro k hk; simp only [Value.ownBlock, Option.some.injEq] at hk; omega)); have hxc : ∃ u, w1.cell? ⟨g1, k, none⟩ = some u := ⟨_, (hown1.cellAt k (by omega)).trans (List.getElem?_eq_getElem (by have := hown1.1; omega))⟩; have hfz := hown1.frozenAt k; clear hown1 hg1 hat1; obtain ⟨u1, hxc⟩ := hxc))
    go_ret
    refine ⟨_, rfl, ?_, HB.out.setCell (p := ⟨g1, k, none⟩) hgb _⟩
    rw [E.out]
    have := (HO.out.stored k (.int .i64 x)).1
    rw [List.length_set, HN.out, ints_set]
    exact this

/-- The law's world: words, epochs, and where the channel's words lie. -/
def wldV (v1 v2 : Value) (B : Int) : Value := .agg #[v1, v2, .int .i64 B]

/-- What happens makes of the words and the epochs. -/
def hapV16 (B : Int) (V : List Int) (x : Ev16) : List Int := if x.kind = 2 then (if 0 ≤ x.at_ then put14 V (B + x.at_.tmod 100000) x.word else V) else V
def hapE16 (E : List Int) (x : Ev16) : List Int := if x.kind = 2 then E else put14 E x.at_ x.word
theorem hapV16_len (B : Int) (V : List Int) (x : Ev16) : (hapV16 B V x).length = V.length := by unfold hapV16; split; split; exact put14_len _ _ _; rfl; rfl
theorem hapE16_len (E : List Int) (x : Ev16) : (hapE16 E x).length = E.length := by unfold hapE16; split; rfl; exact put14_len _ _ _

/-- The world's two lists lie in memory. -/
structure Wld (w : World) (P : Nat → Prop) (V E : List Int) (v1 v2 : Value) : Prop where
  words : Lies w P v1 (ints V)
  epochs : Lies w P v2 (ints E)
  c1 : CapOk v1
  c2 : CapOk v2
theorem Wld.only {S : Nat → Prop} {w w' : World} {P : Nat → Prop} {V E : List Int} {v1 v2 : Value} (h : Wld w P V E v1 v2) (ho : Only S w w') (hS : ∀ g, S g → ¬ P g) : Wld w' P V E v1 v2 := ⟨h.words.only ho hS, h.epochs.only ho hS, h.c1, h.c2⟩
theorem Wld.below {w w' : World} {P : Nat → Prop} {V E : List Int} {v1 v2 : Value} (h : Wld w P V E v1 v2) (hb : Below w.heap.size w w') : Wld w' P V E v1 v2 := ⟨h.words.below hb, h.epochs.below hb, h.c1, h.c2⟩
theorem Wld.weak {w : World} {P Q : Nat → Prop} {V E : List Int} {v1 v2 : Value} (h : Wld w P V E v1 v2) (hPQ : ∀ g, g < w.heap.size → P g → Q g) : Wld w Q V E v1 v2 := ⟨h.words.weak hPQ, h.epochs.weak hPQ, h.c1, h.c2⟩

/-- What happens and born leave. -/
def WldP (P : Nat → Prop) (V E : List Int) (B : Int) (w : World) (e : Ending) (w' : World) : Prop :=
  ∃ A1 n1 c1 A2 n2 c2, e = .returned (wldV (.slice A1 n1 c1) (.slice A2 n2 c2) B) ∧ Wld w' (fun g => P g ∨ w.heap.size ≤ g) V E (.slice A1 n1 c1) (.slice A2 n2 c2) ∧ Below w.heap.size w w'

theorem boxes16 (w : World) (a0 a1 a2 : Array Value) (t0 t1 t2 : TypeId) : Row (((w.alloc (.cells a0 t0)).alloc (.cells a1 t1)).alloc (.cells a2 t2)) w.heap.size t0 a0.toList ∧ Row (((w.alloc (.cells a0 t0)).alloc (.cells a1 t1)).alloc (.cells a2 t2)) (w.heap.size + 1) t1 a1.toList ∧ Row (((w.alloc (.cells a0 t0)).alloc (.cells a1 t1)).alloc (.cells a2 t2)) (w.heap.size + 1 + 1) t2 a2.toList ∧ Below w.heap.size w (((w.alloc (.cells a0 t0)).alloc (.cells a1 t1)).alloc (.cells a2 t2)) :=
  ⟨((Row.new w t0 a0).below (below_al _ _)).below (below_al _ _), by have := (Row.new (w.alloc (.cells a0 t0)) t1 a1).below (below_al _ (.cells a2 t2)); rwa [size_al] at this, by have := Row.new ((w.alloc (.cells a0 t0)).alloc (.cells a1 t1)) t2 a2; rwa [size_al, size_al] at this, below_on (below_on (below_al _ _) (below_al _ _)) (below_al _ _)⟩

set_option maxRecDepth 100000 in
set_option maxHeartbeats 2000000 in
theorem happens16_any (P : Nat → Prop) (V E : List Int) (v1 v2 u : Value) (B : Int) (x : Ev16) (w : World) (h : Wld w P V E v1 v2) (hV : V.length ≤ 66300) (hE : E.length ≤ 100) (hB : 0 ≤ B ∧ B ≤ 65535) (hu : ∃ A n c, u = .slice A n c) :
    Calls Tryd.prog 17 #[wldV v1 v2 B, .agg #[.int .i64 x.kind, .int .i64 x.at_, .int .i64 x.word, u]] w (WldP P (hapV16 B V x) (hapE16 E x) B w) := by
  obtain ⟨Au, nu, cu, rfl⟩ := hu
  obtain ⟨A1, n1, c1, rfl, HN1, H1⟩ := lies_open h.words
  obtain ⟨A2, n2, c2, rfl, HN2, H2⟩ := lies_open h.epochs
  have H := Lib.hid h
  unfold wldV
  obtain ⟨κ, hκ⟩ : ∃ κ, x.kind = κ := ⟨_, rfl⟩
  obtain ⟨a, ha⟩ : ∃ a, x.at_ = a := ⟨_, rfl⟩
  obtain ⟨m, hm⟩ : ∃ m, x.word = m := ⟨_, rfl⟩
  have hX : hapV16 B V x = (if κ = 2 then (if 0 ≤ a then put14 V (B + a.tmod 100000) m else V) else V) ∧ hapE16 E x = (if κ = 2 then E else put14 E a m) := by
    unfold hapV16 hapE16
    rw [hκ, ha, hm]
    exact ⟨rfl, rfl⟩
  rw [hX.1, hX.2, hκ, ha, hm]
  have hl1 : V.length = n1 := HN1.out
  have hl2 : E.length = n2 := HN2.out
  obtain ⟨r0, r1, r2, bb⟩ := boxes16 w #[.slice A1 n1 c1, .slice A2 n2 c2, .int .i64 B] #[.int .i64 κ, .int .i64 a, .int .i64 m, .slice Au nu cu] #[.slice none 0 0, .slice none 0 0, .int .i64 0] 38 41 38
  obtain ⟨w3, hw3⟩ : ∃ w3, w3 = (((w.alloc (.cells #[.slice A1 n1 c1, .slice A2 n2 c2, .int .i64 B] 38)).alloc (.cells #[.int .i64 κ, .int .i64 a, .int .i64 m, .slice Au nu cu] 41)).alloc (.cells #[.slice none 0 0, .slice none 0 0, .int .i64 0] 38)) := ⟨_, rfl⟩
  rw [← hw3] at r0 r1 r2 bb
  have hs3 : w3.heap.size = w.heap.size + 3 := by rw [hw3]; simp
  have fin : ∀ (w4 w5 : World) (X1 X2 : Option Addr) (y1 d1 y2 d2 : Nat) (V' E' : List Int), Below w3.heap.size w3 w4 → Wld w4 (fun g => P g ∧ g < w.heap.size ∨ w3.heap.size ≤ g) V' E' (.slice X1 y1 d1) (.slice X2 y2 d2) → Only (fun g => w.heap.size ≤ g ∧ g < w.heap.size + 3) w4 w5 → WldP P V' E' B w (.returned (wldV (.slice X1 y1 d1) (.slice X2 y2 d2) B)) w5 := fun w4 w5 X1 X2 y1 d1 y2 d2 V' E' hb hw ho =>
    ⟨X1, y1, d1, X2, y2, d2, rfl, (hw.only ho (fun g h1 h2 => by omega)).weak (fun g _ h => by rcases h with h | h; exact .inl h.1; exact .inr (by omega)), Only.below (bb.trans (hb.mono (by omega))) ho (by have := hb.size; omega) (fun g hg h => by omega)⟩
  have FIN := Lib.hid fin
  have R0 := Lib.hid r0
  have R1 := Lib.hid r1
  have R2 := Lib.hid r2
  have W3 : Hid (Wld w3 (fun g => P g ∧ g < w.heap.size ∨ w3.heap.size ≤ g) V E (.slice A1 n1 c1) (.slice A2 n2 c2)) := Lib.hid ((H.out.weak (Q := fun g => P g ∧ g < w.heap.size ∨ w3.heap.size ≤ g) (fun g hg hp => .inl ⟨hp, hg⟩)).below bb)
  have HS3 := Lib.hid hs3
  clear r0 r1 r2 bb fin h hX hκ ha hm hl1 hl2 hs3
  by_cases hκ2 : κ = 2
  · subst hκ2
    rw [if_pos rfl, if_pos rfl]
    by_cases ha0 : 0 ≤ a
    · rw [if_pos ha0]
      obtain ⟨rm, hrm, hr0, hr1⟩ : ∃ rm, a.tmod 100000 = rm ∧ 0 ≤ rm ∧ rm ≤ 99999 := by
        refine ⟨_, rfl, ?_⟩
        rw [Int.tmod_eq_emod_of_nonneg ha0]
        omega
      have hrw : wrap64 rm = rm := by rw [← IntWalk.i64_left, IntWalk.i64_in _ (by omega)]
      rw [hrm]
      have KS := Lib.hid (set16_any _ V _ (B + rm) m w3 W3.out.words W3.out.c1 (by omega))
      go_enter Tryd.func17, Tryd.ntmps17
      go_wp2_with fail
      rw [← hw3]
      clear hw3
      refine KS.out.mono ?_
      rintro e w4 ⟨v4, rfl, o4, b4⟩
      obtain ⟨A4, c4, rfl⟩ := own_open14 o4
      have HO := Lib.hid o4
      have HB := Lib.hid b4
      have Q0 := Lib.hid (R0.out.below b4)
      have Q2 := Lib.hid (R2.out.below b4)
      have d0 := Q0.out.cell 0
      have d1 := Q0.out.cell 1
      have d2 := Q0.out.cell 2
      have g0 := Q0.out.soft 0
      have x0 := Q2.out.cell 0
      have x1 := Q2.out.cell 1
      have x2 := Q2.out.cell 2
      have y0 := Q2.out.soft 0
      have y1 := Q2.out.soft 1
      have y2 := Q2.out.soft 2
      simp only [List.getElem?_cons_zero, List.getElem?_cons_succ] at d0 d1 d2 x0 x1 x2
      clear o4 b4
      go_wp2
      refine bodyPost_ret (v := wldV (.slice A4 (put14 V (B + rm) m).length c4) (.slice A2 n2 c2) B) (by simp [results, Tryd.results17, go_sem, wldV, *]) rfl (FIN.out w4 _ _ _ _ _ _ _ _ _ HB.out ⟨(Lies.of_own HO.out).weak (fun g _ h => .inr h), W3.out.epochs.below HB.out, CapOk.of_own HO.out, W3.out.c2⟩ ?_)
      repeat (with_reducible (first | exact Only.refl _ _ | refine Only.setCell ?_ (Or.inl (show _ ≤ _ ∧ _ < _ from by constructor <;> simp <;> omega)) _))
    · rw [if_neg ha0]
      have d0 : decide (0 ≤ a) = false := by simpa using ha0
      go_enter Tryd.func17, Tryd.ntmps17
      clear hw3 W3 R0 R1 R2 FIN HS3
      go_wp2
      exact bodyPost_ret (v := wldV (.slice A1 n1 c1) (.slice A2 n2 c2) B) (by simp [results, Tryd.results17, go_sem, wldV]) rfl ⟨A1, n1, c1, A2, n2, c2, rfl, (H.out.weak (fun g _ h => .inl h)).below (by go_grown), by go_grown⟩
  · rw [if_neg hκ2, if_neg hκ2]
    have k2 : (κ == 2) = false := by simpa using hκ2
    have KS := Lib.hid (set16_any _ E _ a m w3 W3.out.epochs W3.out.c2 (by omega))
    clear hκ2
    go_enter Tryd.func17, Tryd.ntmps17
    go_wp2_with fail
    rw [← hw3]
    clear hw3
    refine KS.out.mono ?_
    rintro e w4 ⟨v4, rfl, o4, b4⟩
    obtain ⟨A4, c4, rfl⟩ := own_open14 o4
    have HO := Lib.hid o4
    have HB := Lib.hid b4
    have Q0 := Lib.hid (R0.out.below b4)
    have Q2 := Lib.hid (R2.out.below b4)
    have d0 := Q0.out.cell 0
    have d1 := Q0.out.cell 1
    have d2 := Q0.out.cell 2
    have g1 := Q0.out.soft 1
    have x0 := Q2.out.cell 0
    have x1 := Q2.out.cell 1
    have x2 := Q2.out.cell 2
    have y0 := Q2.out.soft 0
    have y1 := Q2.out.soft 1
    have y2 := Q2.out.soft 2
    simp only [List.getElem?_cons_zero, List.getElem?_cons_succ] at d0 d1 d2 x0 x1 x2
    clear o4 b4
    go_wp2
    refine bodyPost_ret (v := wldV (.slice A1 n1 c1) (.slice A4 (put14 E a m).length c4) B) (by simp [results, Tryd.results17, go_sem, wldV, *]) rfl (FIN.out w4 _ _ _ _ _ _ _ _ _ HB.out ⟨W3.out.words.below HB.out, (Lies.of_own HO.out).weak (fun g _ h => .inr h), W3.out.c1, CapOk.of_own HO.out⟩ ?_)
    repeat (with_reducible (first | exact Only.refl _ _ | refine Only.setCell ?_ (Or.inl (show _ ≤ _ ∧ _ < _ from by constructor <;> simp <;> omega)) _))

theorem born16_end1 (w : World) (a b : Array Value) (ta tb : TypeId) (n : Nat) (B : Int) : WldP (fun _ => False) (List.replicate n 0) (List.replicate 8 0) B w (.returned (wldV (.slice (some ⟨w.heap.size + 1 + 1, 0, none⟩) n n) (.slice (some ⟨w.heap.size + 1 + 1 + 1, 0, none⟩) 8 8) B)) ((((w.alloc (.cells a ta)).alloc (.cells b tb)).alloc (.cells (madeCells #[.int .i64 0] n) 3)).alloc (.cells (madeCells #[.int .i64 0] 8) 3)).drew := by
  have r1 := Row.new ((w.alloc (.cells a ta)).alloc (.cells b tb)) 3 (madeCells #[Value.int .i64 0] n)
  have r2 := Row.new (((w.alloc (.cells a ta)).alloc (.cells b tb)).alloc (.cells (madeCells #[.int .i64 0] n) 3)) 3 (madeCells #[Value.int .i64 0] 8)
  rw [ints_zeros, size_al, size_al] at r1
  rw [ints_zeros, size_al, size_al, size_al] at r2
  have l1 := Lies.of_row (P := fun g => w.heap.size ≤ g) (r1.below (below_al _ (.cells (madeCells #[.int .i64 0] 8) 3))) (by omega) n
  have l2 := Lies.of_row (P := fun g => w.heap.size ≤ g) r2 (by omega) 8
  simp only [ints_len, List.length_replicate] at l1 l2
  have hb := below_on (below_on (below_on (below_al w (.cells a ta)) (below_al _ (.cells b tb))) (below_al _ (.cells (madeCells #[.int .i64 0] n) 3))) (below_al _ (.cells (madeCells #[.int .i64 0] 8) 3))
  exact ⟨_, _, _, _, _, _, rfl, ⟨(l1.weak (fun _ _ h => .inr h)).below (Below.refl _ _).drew, (l2.weak (fun _ _ h => .inr h)).below (Below.refl _ _).drew, Nat.le_refl _, Nat.le_refl _⟩, hb.drew⟩
theorem born16_end2 (w : World) (a b : Array Value) (ta tb : TypeId) (n : Nat) (B : Int) : WldP (fun _ => False) (List.replicate n 0) (List.replicate 8 0) B w (.returned (wldV (.slice (some ⟨w.heap.size + 1 + 1 + 1, 0, none⟩) n n) (.slice (some ⟨w.heap.size + 1 + 1, 0, none⟩) 8 8) B)) ((((w.alloc (.cells a ta)).alloc (.cells b tb)).alloc (.cells (madeCells #[.int .i64 0] 8) 3)).alloc (.cells (madeCells #[.int .i64 0] n) 3)).drew := by
  have r1 := Row.new ((w.alloc (.cells a ta)).alloc (.cells b tb)) 3 (madeCells #[Value.int .i64 0] 8)
  have r2 := Row.new (((w.alloc (.cells a ta)).alloc (.cells b tb)).alloc (.cells (madeCells #[.int .i64 0] 8) 3)) 3 (madeCells #[Value.int .i64 0] n)
  rw [ints_zeros, size_al, size_al] at r1
  rw [ints_zeros, size_al, size_al, size_al] at r2
  have l1 := Lies.of_row (P := fun g => w.heap.size ≤ g) (r1.below (below_al _ (.cells (madeCells #[.int .i64 0] n) 3))) (by omega) 8
  have l2 := Lies.of_row (P := fun g => w.heap.size ≤ g) r2 (by omega) n
  simp only [ints_len, List.length_replicate] at l1 l2
  have hb := below_on (below_on (below_on (below_al w (.cells a ta)) (below_al _ (.cells b tb))) (below_al _ (.cells (madeCells #[.int .i64 0] 8) 3))) (below_al _ (.cells (madeCells #[.int .i64 0] n) 3))
  exact ⟨_, _, _, _, _, _, rfl, ⟨(l2.weak (fun _ _ h => .inr h)).below (Below.refl _ _).drew, (l1.weak (fun _ _ h => .inr h)).below (Below.refl _ _).drew, Nat.le_refl _, Nat.le_refl _⟩, hb.drew⟩

set_option maxRecDepth 100000 in
set_option maxHeartbeats 4000000 in
theorem born16_any (B : Int) (r : Nat) (hR : okRing (r : Int)) (hB : 0 ≤ B ∧ B ≤ 500) (w : World) :
    Calls Tryd.prog 14 #[plV B (r : Int)] w (WldP (fun _ => False) (List.replicate (B.toNat + (4 + 11 * r)) 0) (List.replicate 8 0) B w) := by
  have hR64 := hR.bd
  obtain ⟨n, hn⟩ : ∃ n : Nat, B.toNat + (4 + 11 * r) = n := ⟨_, rfl⟩
  have hn2 : n ≤ 2000 := by omega
  have hadd : B + (4 + 11 * (r : Int)) = (n : Int) := by omega
  have hwn : IntKind.i64.wrap (n : Int) = (n : Int) := IntWalk.i64_in _ (by omega)
  rw [hn]
  have SZ : Hid (sizeP (r : Int) = 4 + 11 * (r : Int)) := Lib.hid (if_pos hR)
  have KZ := Lib.hid (fun W => size13_any (r : Int) W)
  rw [SZ.out] at KZ
  have hmk : ∀ W : World, (Instr.makeSlice 33 (.int .i64 (n : Int)) (.int .i64 (n : Int))).run Tryd.prog W = .ok (.slice (some ⟨W.heap.size, 0, none⟩) n n) (W.alloc (.cells (madeCells #[.int .i64 0] n) 3)) := fun W => run_make_row' (P := Tryd.prog) 33 3 (.int .i64 0) 8 Tryd.underlying33 int_info rfl .i64 .i64 n (by omega) (by omega) W
  have hmk8 : ∀ W : World, (Instr.makeSlice 33 (.int .i64 8) (.int .i64 8)).run Tryd.prog W = .ok (.slice (some ⟨W.heap.size, 0, none⟩) 8 8) (W.alloc (.cells (madeCells #[.int .i64 0] 8) 3)) := fun W => run_make_row' (P := Tryd.prog) 33 3 (.int .i64 0) 8 Tryd.underlying33 int_info rfl .i64 .i64 8 (by omega) (by omega) W
  have E1 := Lib.hid (fun a b => born16_end1 w a b 23 38 n B)
  have E2 := Lib.hid (fun a b => born16_end2 w a b 23 38 n B)
  clear hR hn hR64
  unfold plV
  go_enter Tryd.func14, Tryd.ntmps14
  go_wp2
  go_region_held3 (fun W => W.cell? ⟨w.heap.size, 0, none⟩ = some (.int .i64 B) ∧ W.cell? ⟨w.heap.size, 1, none⟩ = some (.int .i64 (r : Int)))
    (first | go_keep)
    (first
      | (go_at_call 33; refine (KZ.out _).mono ?_; rintro e w' ⟨rfl, rfl⟩))
  all_goals go_wp2
  all_goals (first
    | exact bodyPost_ret (v := wldV (.slice (some ⟨w.heap.size + 1 + 1, 0, none⟩) n n) (.slice (some ⟨w.heap.size + 1 + 1 + 1, 0, none⟩) 8 8) B) (by simp [results, Tryd.results14, go_sem, wldV]) rfl (E1.out _ _)
    | exact bodyPost_ret (v := wldV (.slice (some ⟨w.heap.size + 1 + 1 + 1, 0, none⟩) n n) (.slice (some ⟨w.heap.size + 1 + 1, 0, none⟩) 8 8) B) (by simp [results, Tryd.results14, go_sem, wldV]) rfl (E2.out _ _))

#print axioms few16_any
#print axioms set16_any
#print axioms happens16_any
#print axioms born16_any
end Go.Proofs.YtbahnnlenaoomaaDoor
