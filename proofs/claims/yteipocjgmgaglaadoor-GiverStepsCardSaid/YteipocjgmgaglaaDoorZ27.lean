/-
  Texts merged, with what one theorem needs of them.
  Conditions: those that each theorem states.
-/
import Derived.Test.YteipocjgmgaglaaDoorRows
import Derived.Test.YteipocjgmgaglaaDoorZ1
import Derived.Test.YteipocjgmgaglaaDoorZ2
import Derived.Test.YteipocjgmgaglaaDoorZ3
import Derived.Test.YteipocjgmgaglaaDoorZ4
import Derived.Test.YteipocjgmgaglaaDoorZ5
import Derived.Test.YteipocjgmgaglaaDoorZ6
import Derived.Test.YteipocjgmgaglaaDoorZ7
import Derived.Test.YteipocjgmgaglaaDoorZ8
import Derived.Test.YteipocjgmgaglaaDoorZ9
import Derived.Test.YteipocjgmgaglaaDoorZ10
import Derived.Test.YteipocjgmgaglaaDoorZ11
import Derived.Test.YteipocjgmgaglaaDoorZ12
import Derived.Test.YteipocjgmgaglaaDoorZ13
import Derived.Test.YteipocjgmgaglaaDoorZ14
import Derived.Test.YteipocjgmgaglaaDoorZ15
import Derived.Test.YteipocjgmgaglaaDoorZ16
import Derived.Test.YteipocjgmgaglaaDoorZ17
import Derived.Test.YteipocjgmgaglaaDoorZ18
import Derived.Test.YteipocjgmgaglaaDoorZ19
import Derived.Test.YteipocjgmgaglaaDoorZ20
import Derived.Test.YteipocjgmgaglaaDoorZ21
import Derived.Test.YteipocjgmgaglaaDoorZ22
import Derived.Test.YteipocjgmgaglaaDoorZ23
import Derived.Test.YteipocjgmgaglaaDoorZ24
import Derived.Test.YteipocjgmgaglaaDoorZ25
import Derived.Test.YteipocjgmgaglaaDoorZ26
import Derived.Below
import Derived.BigQuiet
import Derived.Carry
import Derived.ChangeSlices
import Derived.Deep.AppendLies
import Derived.Deep.DeepMust
import Derived.Deep.Draws
import Derived.Deep.Fields
import Derived.Deep.MidRow
import Derived.Deep.OwnRows
import Derived.Deep.QuietTactic
import Derived.Deep.RegionHeld3
import Derived.Deep.RegionLaw
import Derived.Deep.RegionWith
import Derived.Deep.Slices
import Derived.Defers
import Derived.Great.BuildSlice
import Derived.Handy
import Derived.IntWalk
import Derived.KernelRfl
import Derived.LaidLaws
import Derived.LaidMore
import Derived.Laws.BitsLemmas
import Derived.Laws.CopyOwn
import Derived.Laws.OwnMore
import Derived.Laws.Rows
import Derived.Lib.Hide
import Derived.Lib.SliceRun
import Derived.Lib.SmallJoins
import Derived.MakeChecks
import Derived.Maps.AppendAt
import Derived.OpenShut
import Derived.ProofKit
import Derived.Recover
import Derived.RegionTactic
import Derived.Scope
import Derived.WalkKit
import Derived.WalkMore
namespace Go.Proofs.YteipocjgmgaglaaDoor

section
open Go.ChangeShapes Go.WideShapes Go.ChangeAt Go.RowKit
/-- What few answers. -/
def few16B (B : Int) (l : List Ev16) : Bool := decide (l.length ≤ 150) && decide (B ≤ 500) && l.all (fun x => decide (x.load.length ≤ 50))
theorem few16_yes {B : Int} {l : List Ev16} (h : few16B B l = true) : l.length ≤ 150 ∧ B ≤ 500 ∧ ∀ x ∈ l, x.load.length ≤ 50 := by
  simpa [few16B, and_assoc] using h
set_option maxRecDepth 100000 in
set_option maxHeartbeats 2000000 in
theorem few16_any (B R self peer own : Int) (v : Value) (l : List Ev16) (w : World) (hv : Evs w v l) (hm : l.length ≤ maxLen) :
    Calls Tryd.prog 4 #[baseV B R self peer own, v] w fun e w' => e = .returned (.bool (few16B B l)) ∧ Below w.heap.size w w' := by
  obtain ⟨A, n, c, rfl, hn, HV⟩ := hv.open_
  unfold baseV
  unfold maxLen at hm
  rw [hn] at hm
  have B0 := below_al w (.cells #[.int .i64 B, .int .i64 R, .int .i64 self, .int .i64 peer, .int .i64 own] 25)
  by_cases h1 : n ≤ 150
  · by_cases h2 : B ≤ 500
    · have g1 : ¬ (150 : Int) < (n : Int) := by omega
      have g2 : ¬ (500 : Int) < B := by omega
      have HN := Lib.hid hn
      have HL := Lib.hid (fun W (hb : Below w.heap.size w W) (k : Nat) (x : Ev16) (hk : l[k]? = some x) => (HV.at_ hk).imp fun g => Exists.imp fun o h => (⟨h.1, h.2.2.below hb⟩ : A = some ⟨g, o, none⟩ ∧ EvAt W g (o + k * 4) x))
      have BB := Lib.hid B0
      clear hv HV hn B0
      go_enter Tryd.func4, Tryd.ntmps4
      go_wp2
      go_loopw [18] (fun iv wr => ∃ k : Nat, k ≤ n ∧ iv = .int .i64 k ∧ Hid ((l.take k).all (fun x => decide (x.load.length ≤ 50)) = true) ∧ Hid (Below w.heap.size w wr)) (fun iv _ => n - (intOf iv).toNat)
      case atStart => exact ⟨0, Nat.zero_le _, rfl, Lib.hid (by simp), BB⟩
      case round =>
        clear BB
        obtain ⟨k, hk, rfl, HA, HB⟩ := hrel
        by_cases hlt : k < n
        · obtain ⟨x, hx⟩ : ∃ x, l[k]? = some x := ⟨_, List.getElem?_eq_getElem (by rw [HN.out]; exact hlt)⟩
          obtain ⟨g, o, rfl, u, c0, c1, c2, c3, hl, hcap⟩ := HL.out wr HB.out k x hx
          obtain ⟨Au, nu, cu, rfl, HNU, HU⟩ := lies_open hl
          have hkn : (k : Int) < (n : Int) := by omega
          have HX := Lib.hid hx
          clear hl hcap hx HL
          by_cases h50 : nu ≤ 50
          · have g3 : ¬ (50 : Int) < (nu : Int) := by omega
            have HA2 : Hid ((l.take (k + 1)).all (fun x => decide (x.load.length ≤ 50)) = true) := Lib.hid (by
              rw [List.take_add_one, HX.out]
              simp only [Option.toList_some, List.all_append, HA.out, List.all_cons, List.all_nil]
              rw [HNU.out]
              simpa using h50)
            clear h50
            go_wp2
            go_roundw
            case rel => exact ⟨k + 1, by omega, by go_num, HA2, Lib.hid (below_on HB.out (show Below wr.heap.size wr _ from by go_grown))⟩
            case measure => simp [intOf]; omega
          · have g3 : (50 : Int) < (nu : Int) := by omega
            have HF : Hid (few16B B l = false) := Lib.hid (by
              unfold few16B
              have : l.all (fun x => decide (x.load.length ≤ 50)) = false := by
                rw [List.all_eq_false]
                exact ⟨x, List.mem_of_getElem? HX.out, by rw [HNU.out]; simpa using h50⟩
              rw [this]
              simp)
            clear h50
            go_wp2
            go_ret
            exact ⟨by rw [HF.out]; rfl, below_on HB.out (show Below wr.heap.size wr _ from by go_grown)⟩
        · obtain rfl : n = k := by omega
          have HF : Hid (few16B B l = true) := Lib.hid (by
            have := HA.out
            rw [← HN.out, List.take_length] at this
            unfold few16B
            rw [this, HN.out]
            simp [h1, h2])
          go_wp2
          go_ret
          exact ⟨by rw [HF.out]; rfl, HB.out⟩
    · have g1 : ¬ (150 : Int) < (n : Int) := by omega
      have g2 : (500 : Int) < B := by omega
      have HF : Hid (few16B B l = false) := Lib.hid (by unfold few16B; simp [h2])
      clear hv HV hn h2
      go_enter Tryd.func4, Tryd.ntmps4
      go_wp2
      go_ret
      exact ⟨by rw [HF.out]; rfl, B0⟩
  · have g1 : (150 : Int) < (n : Int) := by omega
    have HF : Hid (few16B B l = false) := Lib.hid (by unfold few16B; rw [hn]; simp [h1])
    clear hv HV hn h1
    go_enter Tryd.func4, Tryd.ntmps4
    go_wp2
    go_ret
    exact ⟨by rw [HF.out]; rfl, B0⟩
/-- What a call leaves that returns a list of its own. -/
def OwnL16 (xs : List Int) (w : World) (e : Ending) (w' : World) : Prop := ∃ v, e = .returned v ∧ w'.ownsRow w.heap.size 3 1 v xs.length (ints xs) ∧ Below w.heap.size w w'
set_option maxRecDepth 100000 in
set_option maxHeartbeats 2000000 in
theorem set16_any (P : Nat → Prop) (l : List Int) (v : Value) (i x : Int) (w : World) (hv : Lies w P v (ints l)) (hcap : CapOk v) (hl : l.length ≤ 100000) :
    Calls Tryd.prog 34 #[v, .int .i64 i, .int .i64 x] w (OwnL16 (put14 l i x) w) := by
  obtain ⟨i0, hi0, hz0, hz1, hz2⟩ := info_parts int_info
  obtain ⟨A, n, c, rfl, HN, HV⟩ := lies_open hv
  have hn : n ≤ 100000 := by rw [← HN.out]; exact hl
  have O1 := Lib.hid (ints_one l)
  have HPL := Lib.hid (put14_len l i x)
  clear hv hl
  cases h : in14 l i with
  | false =>
    have E := Lib.hid (put14_out x h)
    have h0 := in14_no h
    rw [HN.out] at h0
    clear h
    rcases h0 with h0 | ⟨h0, h1⟩
    · have d0 : decide (0 ≤ i) = false := by simp; omega
      go_enter Tryd.func34, Tryd.ntmps34
      go_wp2_with (at_builtin; go_must (refine app_walk _ rfl (.tmp 8) (.tmp 9) 33 rfl w.heap.size 3 i0 _ 8 Tryd.underlying33 hi0 hz0 hz1 hz2 rfl (.slice (some ⟨w.heap.size, 0, none⟩) 0 0) 0 [] rfl (own_empty _ _ _) P A n c (ints l) rfl (HV.out.below (below_al _ _)) hcap O1.out (by unfold maxLen; omega) (by omega) (by simp) ?_; intro v1 w1 hown1 hg1 hat1; rw [Nat.zero_add, List.nil_append] at hown1; obtain ⟨A1, c1, rfl⟩ := own_open14 hown1; have HO := Lib.hid hown1; have HB := Lib.hid ((below_al w (.cells #[] 3)).grown hg1 (by simp) (by intro k hk; simp only [Value.ownBlock, Option.some.injEq] at hk; omega)); clear hown1 hg1 hat1))
      go_ret
      exact ⟨_, rfl, by rw [E.out, HN.out]; exact HO.out, HB.out⟩
    · have d0 : decide (i < (n : Int)) = false := by simp; omega
      go_enter Tryd.func34, Tryd.ntmps34
      go_wp2_with (at_builtin; go_must (refine app_walk _ rfl (.tmp 8) (.tmp 9) 33 rfl w.heap.size 3 i0 _ 8 Tryd.underlying33 hi0 hz0 hz1 hz2 rfl (.slice (some ⟨w.heap.size, 0, none⟩) 0 0) 0 [] rfl (own_empty _ _ _) P A n c (ints l) rfl (HV.out.below (below_al _ _)) hcap O1.out (by unfold maxLen; omega) (by omega) (by simp) ?_; intro v1 w1 hown1 hg1 hat1; rw [Nat.zero_add, List.nil_append] at hown1; obtain ⟨A1, c1, rfl⟩ := own_open14 hown1; have HO := Lib.hid hown1; have HB := Lib.hid ((below_al w (.cells #[] 3)).grown hg1 (by simp) (by intro k hk; simp only [Value.ownBlock, Option.some.injEq] at hk; omega)); clear hown1 hg1 hat1))
      go_ret
      exact ⟨_, rfl, by rw [E.out, HN.out]; exact HO.out, HB.out⟩
  | true =>
    obtain ⟨k, y, rfl, hx, hk, _, e⟩ := in14_at h
    have E := Lib.hid (e x)
    rw [HN.out] at hk
    have hk' : (k : Int) < (n : Int) := by omega
    have h0 : (0 : Int) ≤ (k : Int) := by omega
    clear h e hx
    go_enter Tryd.func34, Tryd.ntmps34
    go_wp2_with (at_builtin; go_must (refine app_walk _ rfl (.tmp 8) (.tmp 9) 33 rfl w.heap.size 3 i0 _ 8 Tryd.underlying33 hi0 hz0 hz1 hz2 rfl (.slice (some ⟨w.heap.size, 0, none⟩) 0 0) 0 [] rfl (own_empty _ _ _) P A n c (ints l) rfl (HV.out.below (below_al _ _)) hcap O1.out (by unfold maxLen; omega) (by omega) (by simp) ?_; intro v1 w1 hown1 hg1 hat1; rw [Nat.zero_add, List.nil_append] at hown1; obtain ⟨g1, c1, rfl, hgb, hglt⟩ := hown1.form (by omega); have HO := Lib.hid hown1; have HB := Lib.hid ((below_al w (.cells #[] 3)).grown hg1 (by simp) (by intro k hk; simp only [Value.ownBlock, Option.some.injEq] at hk; omega)); have hxc : ∃ u, w1.cell? ⟨g1, k, none⟩ = some u := ⟨_, (hown1.cellAt k (by omega)).trans (List.getElem?_eq_getElem (by have := hown1.1; omega))⟩; have hfz := hown1.frozenAt k; clear hown1 hg1 hat1; obtain ⟨u1, hxc⟩ := hxc))
    go_ret
    refine ⟨_, rfl, ?_, HB.out.setCell (p := ⟨g1, k, none⟩) hgb _⟩
    rw [E.out]
    have := (HO.out.stored k (.int .i64 x)).1
    rw [List.length_set, HN.out, ints_set]
    exact this
/-- The law's world: words, epochs, and where the channel's words lie. -/
def wldV (v1 v2 : Value) (B : Int) : Value := .agg #[v1, v2, .int .i64 B]
/-- What happens makes of the words and the epochs. -/
def hapV16 (B : Int) (V : List Int) (x : Ev16) : List Int := if x.kind = 2 then (if 0 ≤ x.at_ then put14 V (B + x.at_.tmod 100000) x.word else V) else V
def hapE16 (E : List Int) (x : Ev16) : List Int := if x.kind = 2 then E else put14 E x.at_ x.word
theorem hapV16_len (B : Int) (V : List Int) (x : Ev16) : (hapV16 B V x).length = V.length := by unfold hapV16; split; split; exact put14_len _ _ _; rfl; rfl
theorem hapE16_len (E : List Int) (x : Ev16) : (hapE16 E x).length = E.length := by unfold hapE16; split; rfl; exact put14_len _ _ _
/-- The world's two lists lie in memory. -/
structure Wld (w : World) (P : Nat → Prop) (V E : List Int) (v1 v2 : Value) : Prop where
  words : Lies w P v1 (ints V)
  epochs : Lies w P v2 (ints E)
  c1 : CapOk v1
  c2 : CapOk v2
theorem Wld.only {S : Nat → Prop} {w w' : World} {P : Nat → Prop} {V E : List Int} {v1 v2 : Value} (h : Wld w P V E v1 v2) (ho : Only S w w') (hS : ∀ g, S g → ¬ P g) : Wld w' P V E v1 v2 := ⟨h.words.only ho hS, h.epochs.only ho hS, h.c1, h.c2⟩
theorem Wld.below {w w' : World} {P : Nat → Prop} {V E : List Int} {v1 v2 : Value} (h : Wld w P V E v1 v2) (hb : Below w.heap.size w w') : Wld w' P V E v1 v2 := ⟨h.words.below hb, h.epochs.below hb, h.c1, h.c2⟩
theorem Wld.weak {w : World} {P Q : Nat → Prop} {V E : List Int} {v1 v2 : Value} (h : Wld w P V E v1 v2) (hPQ : ∀ g, g < w.heap.size → P g → Q g) : Wld w Q V E v1 v2 := ⟨h.words.weak hPQ, h.epochs.weak hPQ, h.c1, h.c2⟩
/-- What happens and born leave. -/
def WldP (P : Nat → Prop) (V E : List Int) (B : Int) (w : World) (e : Ending) (w' : World) : Prop :=
  ∃ A1 n1 c1 A2 n2 c2, e = .returned (wldV (.slice A1 n1 c1) (.slice A2 n2 c2) B) ∧ Wld w' (fun g => P g ∨ w.heap.size ≤ g) V E (.slice A1 n1 c1) (.slice A2 n2 c2) ∧ Below w.heap.size w w'
theorem boxes16 (w : World) (a0 a1 a2 : Array Value) (t0 t1 t2 : TypeId) : Row (((w.alloc (.cells a0 t0)).alloc (.cells a1 t1)).alloc (.cells a2 t2)) w.heap.size t0 a0.toList ∧ Row (((w.alloc (.cells a0 t0)).alloc (.cells a1 t1)).alloc (.cells a2 t2)) (w.heap.size + 1) t1 a1.toList ∧ Row (((w.alloc (.cells a0 t0)).alloc (.cells a1 t1)).alloc (.cells a2 t2)) (w.heap.size + 1 + 1) t2 a2.toList ∧ Below w.heap.size w (((w.alloc (.cells a0 t0)).alloc (.cells a1 t1)).alloc (.cells a2 t2)) :=
  ⟨((Row.new w t0 a0).below (below_al _ _)).below (below_al _ _), by have := (Row.new (w.alloc (.cells a0 t0)) t1 a1).below (below_al _ (.cells a2 t2)); rwa [size_al] at this, by have := Row.new ((w.alloc (.cells a0 t0)).alloc (.cells a1 t1)) t2 a2; rwa [size_al, size_al] at this, below_on (below_on (below_al _ _) (below_al _ _)) (below_al _ _)⟩
set_option maxRecDepth 100000 in
set_option maxHeartbeats 2000000 in
theorem happens16_any (P : Nat → Prop) (V E : List Int) (v1 v2 u : Value) (B : Int) (x : Ev16) (w : World) (h : Wld w P V E v1 v2) (hV : V.length ≤ 66300) (hE : E.length ≤ 100) (hB : 0 ≤ B ∧ B ≤ 65535) (hu : ∃ A n c, u = .slice A n c) :
    Calls Tryd.prog 13 #[wldV v1 v2 B, .agg #[.int .i64 x.kind, .int .i64 x.at_, .int .i64 x.word, u]] w (WldP P (hapV16 B V x) (hapE16 E x) B w) := by
  obtain ⟨Au, nu, cu, rfl⟩ := hu
  obtain ⟨A1, n1, c1, rfl, HN1, H1⟩ := lies_open h.words
  obtain ⟨A2, n2, c2, rfl, HN2, H2⟩ := lies_open h.epochs
  have H := Lib.hid h
  unfold wldV
  obtain ⟨κ, hκ⟩ : ∃ κ, x.kind = κ := ⟨_, rfl⟩
  obtain ⟨a, ha⟩ : ∃ a, x.at_ = a := ⟨_, rfl⟩
  obtain ⟨m, hm⟩ : ∃ m, x.word = m := ⟨_, rfl⟩
  have hX : hapV16 B V x = (if κ = 2 then (if 0 ≤ a then put14 V (B + a.tmod 100000) m else V) else V) ∧ hapE16 E x = (if κ = 2 then E else put14 E a m) := by
    unfold hapV16 hapE16
    rw [hκ, ha, hm]
    exact ⟨rfl, rfl⟩
  rw [hX.1, hX.2, hκ, ha, hm]
  have hl1 : V.length = n1 := HN1.out
  have hl2 : E.length = n2 := HN2.out
  obtain ⟨r0, r1, r2, bb⟩ := boxes16 w #[.slice A1 n1 c1, .slice A2 n2 c2, .int .i64 B] #[.int .i64 κ, .int .i64 a, .int .i64 m, .slice Au nu cu] #[.slice none 0 0, .slice none 0 0, .int .i64 0] 38 41 38
  obtain ⟨w3, hw3⟩ : ∃ w3, w3 = (((w.alloc (.cells #[.slice A1 n1 c1, .slice A2 n2 c2, .int .i64 B] 38)).alloc (.cells #[.int .i64 κ, .int .i64 a, .int .i64 m, .slice Au nu cu] 41)).alloc (.cells #[.slice none 0 0, .slice none 0 0, .int .i64 0] 38)) := ⟨_, rfl⟩
  rw [← hw3] at r0 r1 r2 bb
  have hs3 : w3.heap.size = w.heap.size + 3 := by rw [hw3]; simp
  have fin : ∀ (w4 w5 : World) (X1 X2 : Option Addr) (y1 d1 y2 d2 : Nat) (V' E' : List Int), Below w3.heap.size w3 w4 → Wld w4 (fun g => P g ∧ g < w.heap.size ∨ w3.heap.size ≤ g) V' E' (.slice X1 y1 d1) (.slice X2 y2 d2) → Only (fun g => w.heap.size ≤ g ∧ g < w.heap.size + 3) w4 w5 → WldP P V' E' B w (.returned (wldV (.slice X1 y1 d1) (.slice X2 y2 d2) B)) w5 := fun w4 w5 X1 X2 y1 d1 y2 d2 V' E' hb hw ho =>
    ⟨X1, y1, d1, X2, y2, d2, rfl, (hw.only ho (fun g h1 h2 => by omega)).weak (fun g _ h => by rcases h with h | h; exact .inl h.1; exact .inr (by omega)), Only.below (bb.trans (hb.mono (by omega))) ho (by have := hb.size; omega) (fun g hg h => by omega)⟩
  have FIN := Lib.hid fin
  have R0 := Lib.hid r0
  have R1 := Lib.hid r1
  have R2 := Lib.hid r2
  have W3 : Hid (Wld w3 (fun g => P g ∧ g < w.heap.size ∨ w3.heap.size ≤ g) V E (.slice A1 n1 c1) (.slice A2 n2 c2)) := Lib.hid ((H.out.weak (Q := fun g => P g ∧ g < w.heap.size ∨ w3.heap.size ≤ g) (fun g hg hp => .inl ⟨hp, hg⟩)).below bb)
  have HS3 := Lib.hid hs3
  clear r0 r1 r2 bb fin h hX hκ ha hm hl1 hl2 hs3
  by_cases hκ2 : κ = 2
  · subst hκ2
    rw [if_pos rfl, if_pos rfl]
    by_cases ha0 : 0 ≤ a
    · rw [if_pos ha0]
      obtain ⟨rm, hrm, hr0, hr1⟩ : ∃ rm, a.tmod 100000 = rm ∧ 0 ≤ rm ∧ rm ≤ 99999 := by
        refine ⟨_, rfl, ?_⟩
        rw [Int.tmod_eq_emod_of_nonneg ha0]
        omega
      have hrw : wrap64 rm = rm := by rw [← IntWalk.i64_left, IntWalk.i64_in _ (by omega)]
      rw [hrm]
      have KS := Lib.hid (set16_any _ V _ (B + rm) m w3 W3.out.words W3.out.c1 (by omega))
      go_enter Tryd.func13, Tryd.ntmps13
      go_wp2_with fail
      rw [← hw3]
      clear hw3
      refine KS.out.mono ?_
      rintro e w4 ⟨v4, rfl, o4, b4⟩
      obtain ⟨A4, c4, rfl⟩ := own_open14 o4
      have HO := Lib.hid o4
      have HB := Lib.hid b4
      have Q0 := Lib.hid (R0.out.below b4)
      have Q2 := Lib.hid (R2.out.below b4)
      have d0 := Q0.out.cell 0
      have d1 := Q0.out.cell 1
      have d2 := Q0.out.cell 2
      have g0 := Q0.out.soft 0
      have x0 := Q2.out.cell 0
      have x1 := Q2.out.cell 1
      have x2 := Q2.out.cell 2
      have y0 := Q2.out.soft 0
      have y1 := Q2.out.soft 1
      have y2 := Q2.out.soft 2
      simp only [List.getElem?_cons_zero, List.getElem?_cons_succ] at d0 d1 d2 x0 x1 x2
      clear o4 b4
      go_wp2
      refine bodyPost_ret (v := wldV (.slice A4 (put14 V (B + rm) m).length c4) (.slice A2 n2 c2) B) (by simp [results, Tryd.results13, go_sem, wldV, *]) rfl (FIN.out w4 _ _ _ _ _ _ _ _ _ HB.out ⟨(Lies.of_own HO.out).weak (fun g _ h => .inr h), W3.out.epochs.below HB.out, CapOk.of_own HO.out, W3.out.c2⟩ ?_)
      repeat (with_reducible (first | exact Only.refl _ _ | refine Only.setCell ?_ (Or.inl (show _ ≤ _ ∧ _ < _ from by constructor <;> simp <;> omega)) _))
    · rw [if_neg ha0]
      have d0 : decide (0 ≤ a) = false := by simpa using ha0
      go_enter Tryd.func13, Tryd.ntmps13
      clear hw3 W3 R0 R1 R2 FIN HS3
      go_wp2
      exact bodyPost_ret (v := wldV (.slice A1 n1 c1) (.slice A2 n2 c2) B) (by simp [results, Tryd.results13, go_sem, wldV]) rfl ⟨A1, n1, c1, A2, n2, c2, rfl, (H.out.weak (fun g _ h => .inl h)).below (by go_grown), by go_grown⟩
  · rw [if_neg hκ2, if_neg hκ2]
    have k2 : (κ == 2) = false := by simpa using hκ2
    have KS := Lib.hid (set16_any _ E _ a m w3 W3.out.epochs W3.out.c2 (by omega))
    clear hκ2
    go_enter Tryd.func13, Tryd.ntmps13
    go_wp2_with fail
    rw [← hw3]
    clear hw3
    refine KS.out.mono ?_
    rintro e w4 ⟨v4, rfl, o4, b4⟩
    obtain ⟨A4, c4, rfl⟩ := own_open14 o4
    have HO := Lib.hid o4
    have HB := Lib.hid b4
    have Q0 := Lib.hid (R0.out.below b4)
    have Q2 := Lib.hid (R2.out.below b4)
    have d0 := Q0.out.cell 0
    have d1 := Q0.out.cell 1
    have d2 := Q0.out.cell 2
    have g1 := Q0.out.soft 1
    have x0 := Q2.out.cell 0
    have x1 := Q2.out.cell 1
    have x2 := Q2.out.cell 2
    have y0 := Q2.out.soft 0
    have y1 := Q2.out.soft 1
    have y2 := Q2.out.soft 2
    simp only [List.getElem?_cons_zero, List.getElem?_cons_succ] at d0 d1 d2 x0 x1 x2
    clear o4 b4
    go_wp2
    refine bodyPost_ret (v := wldV (.slice A1 n1 c1) (.slice A4 (put14 E a m).length c4) B) (by simp [results, Tryd.results13, go_sem, wldV, *]) rfl (FIN.out w4 _ _ _ _ _ _ _ _ _ HB.out ⟨W3.out.words.below HB.out, (Lies.of_own HO.out).weak (fun g _ h => .inr h), W3.out.c1, CapOk.of_own HO.out⟩ ?_)
    repeat (with_reducible (first | exact Only.refl _ _ | refine Only.setCell ?_ (Or.inl (show _ ≤ _ ∧ _ < _ from by constructor <;> simp <;> omega)) _))
theorem born16_end1 (w : World) (a b : Array Value) (ta tb : TypeId) (n : Nat) (B : Int) : WldP (fun _ => False) (List.replicate n 0) (List.replicate 8 0) B w (.returned (wldV (.slice (some ⟨w.heap.size + 1 + 1, 0, none⟩) n n) (.slice (some ⟨w.heap.size + 1 + 1 + 1, 0, none⟩) 8 8) B)) ((((w.alloc (.cells a ta)).alloc (.cells b tb)).alloc (.cells (madeCells #[.int .i64 0] n) 3)).alloc (.cells (madeCells #[.int .i64 0] 8) 3)).drew := by
  have r1 := Row.new ((w.alloc (.cells a ta)).alloc (.cells b tb)) 3 (madeCells #[Value.int .i64 0] n)
  have r2 := Row.new (((w.alloc (.cells a ta)).alloc (.cells b tb)).alloc (.cells (madeCells #[.int .i64 0] n) 3)) 3 (madeCells #[Value.int .i64 0] 8)
  rw [ints_zeros, size_al, size_al] at r1
  rw [ints_zeros, size_al, size_al, size_al] at r2
  have l1 := Lies.of_row (P := fun g => w.heap.size ≤ g) (r1.below (below_al _ (.cells (madeCells #[.int .i64 0] 8) 3))) (by omega) n
  have l2 := Lies.of_row (P := fun g => w.heap.size ≤ g) r2 (by omega) 8
  simp only [ints_len, List.length_replicate] at l1 l2
  have hb := below_on (below_on (below_on (below_al w (.cells a ta)) (below_al _ (.cells b tb))) (below_al _ (.cells (madeCells #[.int .i64 0] n) 3))) (below_al _ (.cells (madeCells #[.int .i64 0] 8) 3))
  exact ⟨_, _, _, _, _, _, rfl, ⟨(l1.weak (fun _ _ h => .inr h)).below (Below.refl _ _).drew, (l2.weak (fun _ _ h => .inr h)).below (Below.refl _ _).drew, Nat.le_refl _, Nat.le_refl _⟩, hb.drew⟩
theorem born16_end2 (w : World) (a b : Array Value) (ta tb : TypeId) (n : Nat) (B : Int) : WldP (fun _ => False) (List.replicate n 0) (List.replicate 8 0) B w (.returned (wldV (.slice (some ⟨w.heap.size + 1 + 1 + 1, 0, none⟩) n n) (.slice (some ⟨w.heap.size + 1 + 1, 0, none⟩) 8 8) B)) ((((w.alloc (.cells a ta)).alloc (.cells b tb)).alloc (.cells (madeCells #[.int .i64 0] 8) 3)).alloc (.cells (madeCells #[.int .i64 0] n) 3)).drew := by
  have r1 := Row.new ((w.alloc (.cells a ta)).alloc (.cells b tb)) 3 (madeCells #[Value.int .i64 0] 8)
  have r2 := Row.new (((w.alloc (.cells a ta)).alloc (.cells b tb)).alloc (.cells (madeCells #[.int .i64 0] 8) 3)) 3 (madeCells #[Value.int .i64 0] n)
  rw [ints_zeros, size_al, size_al] at r1
  rw [ints_zeros, size_al, size_al, size_al] at r2
  have l1 := Lies.of_row (P := fun g => w.heap.size ≤ g) (r1.below (below_al _ (.cells (madeCells #[.int .i64 0] n) 3))) (by omega) 8
  have l2 := Lies.of_row (P := fun g => w.heap.size ≤ g) r2 (by omega) n
  simp only [ints_len, List.length_replicate] at l1 l2
  have hb := below_on (below_on (below_on (below_al w (.cells a ta)) (below_al _ (.cells b tb))) (below_al _ (.cells (madeCells #[.int .i64 0] 8) 3))) (below_al _ (.cells (madeCells #[.int .i64 0] n) 3))
  exact ⟨_, _, _, _, _, _, rfl, ⟨(l2.weak (fun _ _ h => .inr h)).below (Below.refl _ _).drew, (l1.weak (fun _ _ h => .inr h)).below (Below.refl _ _).drew, Nat.le_refl _, Nat.le_refl _⟩, hb.drew⟩
set_option maxRecDepth 100000 in
set_option maxHeartbeats 4000000 in
theorem born16_any (B : Int) (r : Nat) (hR : okRing (r : Int)) (hB : 0 ≤ B ∧ B ≤ 500) (w : World) :
    Calls Tryd.prog 10 #[plV B (r : Int)] w (WldP (fun _ => False) (List.replicate (B.toNat + (4 + 11 * r)) 0) (List.replicate 8 0) B w) := by
  have hR64 := hR.bd
  obtain ⟨n, hn⟩ : ∃ n : Nat, B.toNat + (4 + 11 * r) = n := ⟨_, rfl⟩
  have hn2 : n ≤ 2000 := by omega
  have hadd : B + (4 + 11 * (r : Int)) = (n : Int) := by omega
  have hwn : IntKind.i64.wrap (n : Int) = (n : Int) := IntWalk.i64_in _ (by omega)
  rw [hn]
  have SZ : Hid (sizeP (r : Int) = 4 + 11 * (r : Int)) := Lib.hid (if_pos hR)
  have KZ := Lib.hid (fun W => size13_any (r : Int) W)
  rw [SZ.out] at KZ
  have hmk : ∀ W : World, (Instr.makeSlice 33 (.int .i64 (n : Int)) (.int .i64 (n : Int))).run Tryd.prog W = .ok (.slice (some ⟨W.heap.size, 0, none⟩) n n) (W.alloc (.cells (madeCells #[.int .i64 0] n) 3)) := fun W => run_make_row' (P := Tryd.prog) 33 3 (.int .i64 0) 8 Tryd.underlying33 int_info rfl .i64 .i64 n (by omega) (by omega) W
  have hmk8 : ∀ W : World, (Instr.makeSlice 33 (.int .i64 8) (.int .i64 8)).run Tryd.prog W = .ok (.slice (some ⟨W.heap.size, 0, none⟩) 8 8) (W.alloc (.cells (madeCells #[.int .i64 0] 8) 3)) := fun W => run_make_row' (P := Tryd.prog) 33 3 (.int .i64 0) 8 Tryd.underlying33 int_info rfl .i64 .i64 8 (by omega) (by omega) W
  have E1 := Lib.hid (fun a b => born16_end1 w a b 23 38 n B)
  have E2 := Lib.hid (fun a b => born16_end2 w a b 23 38 n B)
  clear hR hn hR64
  unfold plV
  go_enter Tryd.func10, Tryd.ntmps10
  go_wp2
  go_region_held3 (fun W => W.cell? ⟨w.heap.size, 0, none⟩ = some (.int .i64 B) ∧ W.cell? ⟨w.heap.size, 1, none⟩ = some (.int .i64 (r : Int)))
    (first | go_keep)
    (first
      | (go_at_call 29; refine (KZ.out _).mono ?_; rintro e w' ⟨rfl, rfl⟩))
  all_goals go_wp2
  all_goals (first
    | exact bodyPost_ret (v := wldV (.slice (some ⟨w.heap.size + 1 + 1, 0, none⟩) n n) (.slice (some ⟨w.heap.size + 1 + 1 + 1, 0, none⟩) 8 8) B) (by simp [results, Tryd.results10, go_sem, wldV]) rfl (E1.out _ _)
    | exact bodyPost_ret (v := wldV (.slice (some ⟨w.heap.size + 1 + 1 + 1, 0, none⟩) n n) (.slice (some ⟨w.heap.size + 1 + 1, 0, none⟩) 8 8) B) (by simp [results, Tryd.results10, go_sem, wldV]) rfl (E2.out _ _))
end

section
open Go.ChangeShapes Go.WideShapes Go.ChangeAt Go.RowKit
theorem upto16_mem {n : Nat} {x : Int} : x ∈ upto16 n ↔ 0 ≤ x ∧ x < (n : Int) := by
  unfold upto16
  simp only [List.mem_map, List.mem_range]
  constructor
  · rintro ⟨k, hk, rfl⟩; omega
  · intro h; exact ⟨x.toNat, by omega, by omega⟩
/-- The touch is one of those that a giver may make. -/
def MayT (B : Int) (R : Nat) (peer : Int) (x : Tch) : Prop :=
  x.1 = 3 ∨ ((x.1 = 4 ∨ x.1 = 5) ∧ x.2.1 = peer) ∨ ∃ f s i : Nat, 1 ≤ f ∧ f ≤ 8 ∧ okWord (R : Int) f s i ∧ x.2.1 = B + offP (R : Int) f s i ∧ ((f = 2 ∨ f = 4 ∨ f = 6) ∧ x.1 = 1 ∨ ¬ (f = 2 ∨ f = 4 ∨ f = 6) ∧ x.1 = 2)
end

section
open Go.ChangeShapes Go.WideShapes Go.ChangeAt Go.RowKit
theorem tk16_mem {G : Gv} (h : Ok16 G) (ho : G.out ≠ []) : 0 ≤ tk16 G ∧ tk16 G < (G.R : Int) := by
  have hm : tk16 G ∈ G.out := by
    unfold tk16
    rw [List.getLastD_eq_getLast?, List.getLast?_eq_some_getLast ho]
    exact List.getLast_mem ho
  exact upto16_mem.1 (h.perm.mem_iff.1 (List.mem_append_right _ hm))
theorem mayW {G : Gv} (f : Nat) (s : Int) (j : Nat) (κ u : Int) (hf : 1 ≤ f ∧ f ≤ 8) (hw : okWord (G.R : Int) f s j) (hk : (f = 2 ∨ f = 4 ∨ f = 6) ∧ κ = 1 ∨ ¬ (f = 2 ∨ f = 4 ∨ f = 6) ∧ κ = 2) : MayT G.B G.R G.peer (κ, ad16 G f s j, u) := by
  have hs : 0 ≤ s := by unfold okWord at hw; omega
  obtain ⟨n, rfl⟩ := Int.eq_ofNat_of_zero_le hs
  refine .inr (.inr ⟨f, n, j, hf.1, hf.2, hw, ?_, hk⟩)
  show ad16 G f n j = _
  unfold ad16 atV13
  rw [if_pos hw]
/-- What is recorded of an access is one touch, which a giver may make. -/
theorem mayT16 {G : Gv} (h : Ok16 G) (h0 : G.st ≠ 0) (V E : List Int) : ∃ x, aT16 V E (tch16 G) = [x] ∧ MayT G.B G.R G.peer x := by
  have h15 := h.st
  have hR := h.R64
  have : G.st = 1 ∨ G.st = 2 ∨ G.st = 3 ∨ G.st = 4 ∨ G.st = 5 ∨ G.st = 6 ∨ G.st = 7 ∨ G.st = 8 ∨ G.st = 9 ∨ G.st = 10 ∨ G.st = 11 ∨ G.st = 12 ∨ G.st = 13 ∨ G.st = 14 ∨ G.st = 15 := by omega
  unfold aT16 tch16 dT14
  rcases this with e | e | e | e | e | e | e | e | e | e | e | e | e | e | e
  · exact ⟨(4, G.peer, nth14 E G.peer), by simp [e], .inr (.inl ⟨.inl rfl, rfl⟩)⟩
  · exact ⟨(2, ad16 G 3 0 0, 0), by simp [e], mayW 3 0 0 2 0 (by omega) (by unfold okWord; omega) (by omega)⟩
  · exact ⟨(2, ad16 G 1 0 0, ep16 G), by simp [e], mayW 1 0 0 2 _ (by omega) (by unfold okWord; omega) (by omega)⟩
  · exact ⟨(3, 0, 0), by simp [e], .inl rfl⟩
  · exact ⟨(1, ad16 G 2 0 0, nth14 V (ad16 G 2 0 0)), by simp [e], mayW 2 0 0 1 _ (by omega) (by unfold okWord; omega) (by omega)⟩
  · exact ⟨(1, ad16 G 4 0 0, nth14 V (ad16 G 4 0 0)), by simp [e], mayW 4 0 0 1 _ (by omega) (by unfold okWord; omega) (by omega)⟩
  · have m1 := Int.emod_nonneg G.tail (show (G.R : Int) ≠ 0 by omega)
    have m2 := Int.emod_lt_of_pos G.tail (show (0 : Int) < (G.R : Int) by omega)
    exact ⟨(1, ad16 G 6 (G.tail % (G.R : Int)) 0, nth14 V (ad16 G 6 (G.tail % (G.R : Int)) 0)), by simp [e], mayW 6 _ 0 1 _ (by omega) (by unfold okWord; omega) (by omega)⟩
  · have ht := tk16_mem h (h.held (by omega) (by omega))
    have hs := h.word e
    have hl := h.load
    exact ⟨(2, ad16 G 8 (tk16 G) (G.sto : Int), G.load.getD G.sto 0), by simp [e], mayW 8 _ G.sto 2 _ (by omega) (by unfold okWord; omega) (by omega)⟩
  · have ht := tk16_mem h (h.held (by omega) (by omega))
    exact ⟨(2, ad16 G 7 (tk16 G) 0, (G.load.length : Int)), by simp [e], mayW 7 _ 0 2 _ (by omega) (by unfold okWord; omega) (by omega)⟩
  · have m1 := Int.emod_nonneg G.next (show (G.R : Int) ≠ 0 by omega)
    have m2 := Int.emod_lt_of_pos G.next (show (0 : Int) < (G.R : Int) by omega)
    exact ⟨(2, ad16 G 5 (G.next % (G.R : Int)) 0, tk16 G), by simp [e], mayW 5 _ 0 2 _ (by omega) (by unfold okWord; omega) (by omega)⟩
  · exact ⟨(3, 0, 0), by simp [e], .inl rfl⟩
  · exact ⟨(2, ad16 G 3 0 0, addW G.next 1), by simp [e], mayW 3 0 0 2 _ (by omega) (by unfold okWord; omega) (by omega)⟩
  · exact ⟨(3, 0, 0), by simp [e], .inl rfl⟩
  · exact ⟨(5, G.peer, 0), by simp [e], .inr (.inl ⟨.inr rfl, rfl⟩)⟩
  · exact ⟨(4, G.peer, nth14 E G.peer), by simp [e], .inr (.inl ⟨.inl rfl, rfl⟩)⟩
/-- The memory of the law's loop: the argument's variable, the world's variable (block ob), the giver, the world's two lists. -/
structure Lp16 (w wr : World) (g ob : Nat) (bs : List Value) (B : Int) (G : Gv) (V E : List Int) (v1 v2 : Value) (U P : Nat → Prop) : Prop where
  base : Row wr w.heap.size 25 bs
  obj : Row wr ob 38 [v1, v2, .int .i64 B]
  gis : GIs wr U g G
  wld : Wld wr P V E v1 v2
  disj : ∀ x, U x → ¬ P x
  hU : ∀ x, U x → w.heap.size < x ∧ x ≠ ob
  hP : ∀ x, P x → w.heap.size < x ∧ x ≠ ob
  ob_gt : w.heap.size < ob
  below : Below w.heap.size w wr
section
variable {w wr : World} {g ob : Nat} {bs : List Value} {B : Int} {G : Gv} {V E : List Int} {v1 v2 : Value} {U P : Nat → Prop}
theorem Lp16.quiet (L : Lp16 w wr g ob bs B G V E v1 v2 U P) {w1 : World} (hb : Below wr.heap.size wr w1) : Lp16 w w1 g ob bs B G V E v1 v2 U P :=
  ⟨L.base.below hb, L.obj.below hb, L.gis.below hb, L.wld.below hb, L.disj, L.hU, L.hP, L.ob_gt, L.below.trans (hb.mono L.below.size)⟩
/-- The giver alone has changed. -/
theorem Lp16.giver (L : Lp16 w wr g ob bs B G V E v1 v2 U P) {w1 : World} {G' : Gv} (hg : GIs w1 (fun x => U x ∨ wr.heap.size ≤ x) g G') (ho : Only U wr w1) :
    Lp16 w w1 g ob bs B G' V E v1 v2 (fun x => U x ∨ wr.heap.size ≤ x) (fun x => P x ∧ x < wr.heap.size) := by
  have hlt := L.obj.lt
  have hs := L.below.size
  have hbl := L.base.lt
  refine ⟨L.base.only ho (fun h => by have := L.hU _ h; omega), L.obj.only ho (fun h => by have := L.hU _ h; omega), hg, (L.wld.weak (fun x hx hp => ⟨hp, hx⟩)).only ho (fun x hx hp => L.disj x hx hp.1), fun x hx hp => ?_, fun x hx => ?_, fun x hx => L.hP x hx.1, L.ob_gt, Only.below L.below ho hs (fun x hx h => by have := L.hU x h; omega)⟩
  · rcases hx with hx | hx
    · exact L.disj x hx hp.1
    · omega
  · rcases hx with hx | hx
    · exact L.hU x hx
    · omega
/-- The world's lists are other ones. -/
theorem Lp16.world (L : Lp16 w wr g ob bs B G V E v1 v2 U P) {w1 w2 : World} {V' E' : List Int} {u1 u2 : Value} (hb : Below wr.heap.size wr w1) (hw : Wld w1 (fun x => P x ∨ wr.heap.size ≤ x) V' E' u1 u2) (hr : Row w2 ob 38 [u1, u2, .int .i64 B]) (ho : Only (· = ob) w1 w2) :
    Lp16 w w2 g ob bs B G V' E' u1 u2 (fun x => U x ∧ x < wr.heap.size) (fun x => P x ∨ wr.heap.size ≤ x) := by
  have hlt := L.obj.lt
  have hs := L.below.size
  have hbl := L.base.lt
  have hog := L.ob_gt
  refine ⟨(L.base.below hb).only ho (fun h => by omega), hr, ?_, hw.only ho (fun x hx hp => ?_), fun x hx hp => ?_, fun x hx => L.hU x hx.1, fun x hx => ?_, L.ob_gt, Only.below (L.below.trans (hb.mono hs)) ho (by have := hb.size; omega) (fun x hx h => by omega)⟩
  · exact ((L.gis.weak (U' := fun x => U x ∧ x < wr.heap.size) (fun x hx hu => ⟨hu, hx⟩)).below hb).only ho (fun x _ hu h => (L.hU x hu.1).2 h)
  · subst hx
    rcases hp with hp | hp
    · exact (L.hP _ hp).2 rfl
    · omega
  · rcases hp with hp | hp
    · exact L.disj x hx.1 hp
    · omega
  · rcases hx with hx | hx
    · exact L.hP x hx
    · omega
end
end

section
open Go.ChangeShapes Go.WideShapes Go.ChangeAt Go.RowKit
/-- A step in numbers: what is read, the answer, the givers, the words, the kicks, the touches. -/
def xN16 (H : Gv) (V E : List Int) : Int := dN14 V E (tch16 H).1 (tch16 H).2.1
def sA16 (H : Gv) (V E : List Int) : Option Int := if H.st = 0 then some 13 else (aft16 H (xN16 H V E)).2
def sG16 (H : Gv) (V E : List Int) : Gv := if H.st = 0 then H else (aft16 H (xN16 H V E)).1
def sR16 (H : Gv) (G : Rv) (V E : List Int) : Rv := if H.st = 0 then G else (raN G H.R (xN16 H V E)).1
def sV16 (H : Gv) (V : List Int) : List Int := if H.st = 0 then V else aV16 V (tch16 H)
def sK16 (H : Gv) : List Int := if H.st = 0 then [] else aK16 [] (tch16 H)
def sT16 (H : Gv) (V E : List Int) : List Tch := if H.st = 0 then [] else aT16 V E (tch16 H)
def sX16 (H : Gv) (V E : List Int) : Tch := (sT16 H V E).headD (0, 0, 0)
theorem nth14_pos {l : List Int} (h : ∀ x ∈ l, 0 ≤ x ∧ x ≤ 65535) (i : Int) : 0 ≤ nth14 l i := by
  cases hi : in14 l i with
  | false => rw [nth14_out hi]; exact Int.le_refl 0
  | true =>
    obtain ⟨k, x, _, hx, _, e, _⟩ := in14_at hi
    rw [e]
    exact (h x (List.mem_of_getElem? hx)).1
theorem xN16_pos {H : Gv} {V E : List Int} (hV : ∀ x ∈ V, 0 ≤ x ∧ x ≤ 65535) (hE : ∀ x ∈ E, 0 ≤ x ∧ x ≤ 65535) : 0 ≤ xN16 H V E := by
  unfold xN16 dN14
  split
  · exact nth14_pos hV _
  · split
    · exact nth14_pos hE _
    · exact Int.le_refl 0
theorem aft16_pos {H : Gv} {x n : Int} (hp : 0 ≤ H.res) (h : (aft16 H x).2 = some n) : 0 ≤ n := by
  unfold aft16 at h
  repeat' (split at h)
  all_goals first
    | (cases h; done)
    | (have h2 := Option.some.inj h; rw [← h2]; first | omega | (unfold judE16; split <;> omega))
theorem sG16_ok {H : Gv} (h : Ok16 H) (V E : List Int) : Ok16 (sG16 H V E) := by unfold sG16; split; exact h; exact ok16_aft h _
theorem sG16_same (H : Gv) (V E : List Int) : Same16 H (sG16 H V E) := by unfold sG16; split; exact ⟨rfl, rfl, rfl, rfl⟩; exact same16_aft _ _
theorem sV16_len (H : Gv) (V : List Int) : (sV16 H V).length = V.length := by unfold sV16; split; rfl; exact dV14_len _ _ _ _
theorem sR16_rel {H : Gv} {G : Rv} (h : Rel16 H G) (ok : Ok16 H) {V E : List Int} (hV : ∀ x ∈ V, 0 ≤ x ∧ x ≤ 65535) (hE : ∀ x ∈ E, 0 ≤ x ∧ x ≤ 65535) : Rel16 (sG16 H V E) (sR16 H G V E) := by
  unfold sG16 sR16
  split
  · exact h
  · rename_i h0; exact (rel16_aft h ok _ (xN16_pos hV hE) h0).1
/-- Either no call runs and nothing is touched, or one touch is made. -/
theorem sT16_one {H : Gv} (h : Ok16 H) (V E : List Int) : (sT16 H V E = [] ∧ sX16 H V E = (0, 0, 0)) ∨ (sT16 H V E = [sX16 H V E] ∧ (sX16 H V E).1 ≠ 0) := by
  unfold sX16
  by_cases h0 : H.st = 0
  · left
    unfold sT16
    rw [if_pos h0]
    exact ⟨rfl, rfl⟩
  · right
    obtain ⟨x, hx, hm⟩ := mayT16 h h0 V E
    have e : sT16 H V E = [x] := by unfold sT16; rw [if_neg h0]; exact hx
    rw [e]
    refine ⟨rfl, ?_⟩
    show x.1 ≠ 0
    rcases hm with hm | ⟨hm, _⟩ | ⟨f, s, j, _, _, _, _, hk⟩
    · omega
    · omega
    · omega
section
variable {Af Ao Al : Option Addr} {nf cf no co nl cl : Nat} {A1 A2 A3 : Option Addr} {n1 c1 n2 c2 n3 c3 : Nat}
theorem rstep_all (P Pp : Nat → Prop) (H : Gv) (G : Rv) (V E : List Int) (w : World) (r : RvL w P G (.slice Af nf cf) (.slice Ao no co) (.slice Al nl cl)) (rp : RPl14 w Pp V E [] (.slice A1 n1 c1) (.slice A2 n2 c2) (.slice A3 n3 c3)) (h : Rel16 H G) (ok : Ok16 H) (hl : V.length ≤ 65536) (hV : ∀ x ∈ V, 0 ≤ x ∧ x ≤ 65535) (hE : ∀ x ∈ E, 0 ≤ x ∧ x ≤ 65535) :
    Calls Tryd.prog 14 #[rvV G (.slice Af nf cf) (.slice Ao no co) (.slice Al nl cl), .agg #[.slice A1 n1 c1, .slice A2 n2 c2, .slice A3 n3 c3]] w (RStp P Pp (sR16 H G V E) (sV16 H V) E (sK16 H) (sX16 H V E) (sA16 H V E).isSome ((sA16 H V E).getD 0) w) := by
  by_cases h0 : H.st = 0
  · have e : sA16 H V E = some 13 := by unfold sA16; rw [if_pos h0]
    have e1 : sR16 H G V E = G := by unfold sR16; rw [if_pos h0]
    have e2 : sV16 H V = V := by unfold sV16; rw [if_pos h0]
    have e3 : sK16 H = [] := by unfold sK16; rw [if_pos h0]
    have e4 : sX16 H V E = (0, 0, 0) := by unfold sX16 sT16; rw [if_pos h0]; rfl
    rw [e, e1, e2, e3, e4]
    exact rstep_idle P Pp G V E [] w r rp (by rw [h.at_, h0]; rfl)
  · have ha := (rel16_aft h ok _ (xN16_pos (H := H) hV hE) h0).2
    have e1 : sR16 H G V E = (raN G H.R (xN16 H V E)).1 := by unfold sR16; rw [if_neg h0]
    have e2 : sV16 H V = dV14 V (tch16 H).1 (tch16 H).2.1 (tch16 H).2.2 := by unfold sV16; rw [if_neg h0]; rfl
    have e3 : sK16 H = dK14 [] (tch16 H).1 (tch16 H).2.1 := by unfold sK16; rw [if_neg h0]; rfl
    have e4 : sX16 H V E = dX14 V E (tch16 H).1 (tch16 H).2.1 (tch16 H).2.2 := by unfold sX16 sT16; rw [if_neg h0]; rfl
    have e5 : sA16 H V E = (aft16 H (xN16 H V E)).2 := by unfold sA16; rw [if_neg h0]
    rw [e1, e2, e3, e4, e5]
    cases hA : (aft16 H (xN16 H V E)).2 with
    | none =>
      rw [hA] at ha
      exact rstep_more P Pp H G V E [] _ w r rp h ok h0 hl (by simp) hV rfl ha
    | some m =>
      rw [hA] at ha
      exact rstep_done P Pp H G V E [] _ w r rp h ok h0 hl (by simp) hV rfl m ha (aft16_pos h.pos hA)
end
theorem pstep_all {U : Nat → Prop} {g t p : Nat} (H : Gv) (V E : List Int) (w : World) (s : Sys16 w U g t p H V E [] []) (ok : Ok16 H) (hT : TabAt w) :
    Calls Tryd.prog 18 #[.pointer (some ⟨g, 0, none⟩), tface14 t] w fun e w' => e = .returned (ansV16 (sA16 H V E)) ∧ Sys16 w' (fun x => U x ∨ w.heap.size ≤ x) g t p (sG16 H V E) (sV16 H V) E (sK16 H) (sT16 H V E) ∧ Only U w w' := by
  unfold sA16 sG16 sV16 sK16 sT16
  by_cases h0 : H.st = 0
  · simp only [if_pos h0]
    refine (step16_idle (tface14 t) w s.gis h0).mono ?_
    rintro e w' ⟨rfl, rfl⟩
    exact ⟨rfl, s.weak (fun _ _ h => .inl h), Only.refl _ _⟩
  · simp only [if_neg h0]
    exact stT16 (⟨H, V, [], []⟩ : Run16) w s ok h0 hT (by simp) (by simp)
/-- The memory of GiverSteps' loop: that of GiverSafe's, and the reference's giver (block rb). -/
structure Ls16 (w wr : World) (g ob rb : Nat) (bs : List Value) (B : Int) (G : Gv) (V E : List Int) (v1 v2 : Value) (R : Rv) (vf vo vl : Value) (U P : Nat → Prop) : Prop where
  lp : Lp16 w wr g ob bs B G V E v1 v2 U P
  ref : Row wr rb 35 (rvC R vf vo vl)
  lists : RvL wr P R vf vo vl
  rbn : rb ≠ ob ∧ w.heap.size < rb ∧ ¬ U rb ∧ ¬ P rb
section
variable {w wr : World} {g ob rb : Nat} {bs : List Value} {B : Int} {G : Gv} {V E : List Int} {v1 v2 : Value} {R : Rv} {vf vo vl : Value} {U P : Nat → Prop}
theorem Ls16.quiet (L : Ls16 w wr g ob rb bs B G V E v1 v2 R vf vo vl U P) {w1 : World} (hb : Below wr.heap.size wr w1) : Ls16 w w1 g ob rb bs B G V E v1 v2 R vf vo vl U P :=
  ⟨L.lp.quiet hb, L.ref.below hb, L.lists.below hb, L.rbn⟩
theorem Ls16.giver (L : Ls16 w wr g ob rb bs B G V E v1 v2 R vf vo vl U P) {w1 : World} {G' : Gv} (hg : GIs w1 (fun x => U x ∨ wr.heap.size ≤ x) g G') (ho : Only U wr w1) :
    Ls16 w w1 g ob rb bs B G' V E v1 v2 R vf vo vl (fun x => U x ∨ wr.heap.size ≤ x) (fun x => P x ∧ x < wr.heap.size) :=
  ⟨L.lp.giver hg ho, L.ref.only ho L.rbn.2.2.1, L.lists.old.only ho (fun x hx hp => L.lp.disj x hx hp.1), L.rbn.1, L.rbn.2.1, fun h => by rcases h with h | h; exact L.rbn.2.2.1 h; have := L.ref.lt; omega, fun h => L.rbn.2.2.2 h.1⟩
theorem Ls16.world (L : Ls16 w wr g ob rb bs B G V E v1 v2 R vf vo vl U P) {w1 w2 : World} {V' E' : List Int} {u1 u2 : Value} (hb : Below wr.heap.size wr w1) (hw : Wld w1 (fun x => P x ∨ wr.heap.size ≤ x) V' E' u1 u2) (hr : Row w2 ob 38 [u1, u2, .int .i64 B]) (ho : Only (· = ob) w1 w2) :
    Ls16 w w2 g ob rb bs B G V' E' u1 u2 R vf vo vl (fun x => U x ∧ x < wr.heap.size) (fun x => P x ∨ wr.heap.size ≤ x) := by
  have hlt := L.lp.obj.lt
  have hrl := L.ref.lt
  refine ⟨L.lp.world hb hw hr ho, (L.ref.below hb).only ho (fun e => L.rbn.1 e), ?_, L.rbn.1, L.rbn.2.1, fun h => L.rbn.2.2.1 h.1, fun h => by rcases h with h | h; exact L.rbn.2.2.2 h; omega⟩
  exact ((L.lists.below hb).only ho (fun x hx hp => by subst hx; exact (L.lp.hP _ hp).2 rfl)).weak (fun _ _ h => .inl h)
/-- The reference's giver is another one; its lists may be new. -/
theorem Ls16.refer (L : Ls16 w wr g ob rb bs B G V E v1 v2 R vf vo vl U P) {w1 w2 : World} {R' : Rv} {uf uo ul : Value} (hb : Below wr.heap.size wr w1) (hl : RvL w1 (fun x => P x ∨ wr.heap.size ≤ x) R' uf uo ul) (hr : Row w2 rb 35 (rvC R' uf uo ul)) (ho : Only (· = rb) w1 w2) :
    Ls16 w w2 g ob rb bs B G V E v1 v2 R' uf uo ul (fun x => U x ∧ x < wr.heap.size) (fun x => P x ∨ wr.heap.size ≤ x) := by
  have hlt := L.lp.obj.lt
  have hrl := L.ref.lt
  have hs := L.lp.below.size
  have hbl := L.lp.base.lt
  have hog := L.lp.ob_gt
  have hwl := hb.size
  refine ⟨⟨(L.lp.base.below hb).only ho (fun e => by have := L.rbn.2.1; omega), (L.lp.obj.below hb).only ho (fun e => L.rbn.1 e.symm), ?_, ?_, fun x hx hp => ?_, fun x hx => L.lp.hU x hx.1, fun x hx => ?_, hog, Only.below (L.lp.below.trans (hb.mono hs)) ho (by omega) (fun x hx h => by have := L.rbn.2.1; omega)⟩, hr, hl.only ho (fun x hx hp => by subst hx; rcases hp with hp | hp; exact L.rbn.2.2.2 hp; omega), L.rbn.1, L.rbn.2.1, fun h => L.rbn.2.2.1 h.1, fun h => by rcases h with h | h; exact L.rbn.2.2.2 h; omega⟩
  · exact ((L.lp.gis.weak (U' := fun x => U x ∧ x < wr.heap.size) (fun x hx hu => ⟨hu, hx⟩)).below hb).only ho (fun x _ hu h => by subst h; exact L.rbn.2.2.1 hu.1)
  · exact ((L.lp.wld.below hb).only ho (fun x hx hp => by subst hx; exact L.rbn.2.2.2 hp)).weak (fun _ _ h => .inl h)
  · rcases hp with hp | hp
    · exact L.lp.disj x hx.1 hp
    · omega
  · rcases hx with hx | hx
    · exact L.lp.hP x hx
    · omega
/-- Behind a Step, and behind the words that the port then holds. -/
theorem Ls16.port (L : Ls16 w wr g ob rb bs B G V E v1 v2 R vf vo vl U P) {w5 w6 w7 w8 : World} {t p n c : Nat} {A : Option Addr} {G' : Gv} {V6 E6 K6 V7 : List Int} {T6 : List Tch} (b5 : Below wr.heap.size wr w5) (s6 : Sys16 w6 (fun x => (U x ∨ wr.heap.size ≤ x) ∨ w5.heap.size ≤ x) g t p G' V6 E6 K6 T6)
    (o6 : Only (fun x => U x ∨ wr.heap.size ≤ x) w5 w6) (b7 : Below w6.heap.size w6 w7) (own7 : w7.ownsRow w6.heap.size 3 1 (.slice A n c) n (ints V7)) (o8 : Only (· = ob) w7 w8) (r8 : Row w8 ob 38 [.slice A n c, v2, .int .i64 B]) :
    Ls16 w w8 g ob rb bs B G' V7 E (.slice A n c) v2 R vf vo vl (fun x => (U x ∨ wr.heap.size ≤ x) ∧ x < w6.heap.size) (fun x => (P x ∧ x < wr.heap.size) ∨ w6.heap.size ≤ x) := by
  have hlt := L.lp.obj.lt
  have hs := L.lp.below.size
  have hbl := L.lp.base.lt
  have hog := L.lp.ob_gt
  have hrl := L.ref.lt
  have hs5 := b5.size
  have hs6 := o6.size
  have hs7 := b7.size
  have s6' : Sys16 w6 (fun x => (U x ∨ wr.heap.size ≤ x) ∧ x < w6.heap.size) g t p G' V6 E6 K6 T6 := s6.weak (fun x hx h => ⟨by rcases h with h | h; exact h; exact .inr (by omega), hx⟩)
  have s8 := (s6'.below b7).only o8 (fun x _ hu h => by
    subst h
    rcases hu.1 with h | h
    · exact (L.lp.hU _ h).2 rfl
    · omega)
  have hnU : ∀ x, x < wr.heap.size → ¬ U x → ¬ (U x ∨ wr.heap.size ≤ x) := fun x h1 h2 h => h.elim h2 (by omega)
  refine ⟨⟨(((L.lp.base.below b5).only o6 (hnU _ hbl (fun h => by have := L.lp.hU _ h; omega))).below b7).only o8 (fun h => by omega), r8, s8.gis, ⟨?_, ?_, CapOk.of_own own7, L.lp.wld.c2⟩, fun x hx hp => ?_, fun x hx => ?_, fun x hx => ?_, L.lp.ob_gt, ?_⟩, ?_, ?_, L.rbn.1, L.rbn.2.1, fun h => ?_, fun h => ?_⟩
  · refine ((Lies.of_own own7).weak (fun x _ h => .inr h)).only o8 (fun x hx hp => ?_)
    subst hx
    rcases hp with hp | hp
    · exact (L.lp.hP _ hp.1).2 rfl
    · omega
  · refine ((((L.lp.wld.epochs.weak (Q := fun x => P x ∧ x < wr.heap.size) (fun x hx hp => ⟨hp, hx⟩)).below b5).only o6 (fun x hx hp => hnU x hp.2 (fun h => L.lp.disj x h hp.1) hx)).below b7 |>.weak (fun x _ h => .inl h)).only o8 (fun x hx hp => ?_)
    subst hx
    rcases hp with hp | hp
    · exact (L.lp.hP _ hp.1).2 rfl
    · omega
  · rcases hp with hp | hp
    · rcases hx.1 with h | h
      · exact L.lp.disj x h hp.1
      · omega
    · omega
  · rcases hx.1 with h | h
    · exact L.lp.hU x h
    · omega
  · rcases hx with h | h
    · exact L.lp.hP x h.1
    · omega
  · refine Only.below ((Only.below (L.lp.below.trans (b5.mono hs)) o6 (by omega) (fun x hx h => ?_)).trans (b7.mono (by omega))) o8 (by omega) (fun x hx h => by omega)
    rcases h with h | h
    · have := L.lp.hU x h; omega
    · omega
  · exact (((L.ref.below b5).only o6 (hnU _ hrl L.rbn.2.2.1)).below b7).only o8 (fun e => L.rbn.1 e)
  · refine ((((L.lists.old.below b5).only o6 (fun x hx hp => hnU x hp.2 (fun h => L.lp.disj x h hp.1) hx)).below b7).weak (fun x _ h => .inl h)).only o8 (fun x hx hp => ?_)
    subst hx
    rcases hp with hp | hp
    · exact (L.lp.hP _ hp.1).2 rfl
    · omega
  · rcases h.1 with h' | h'
    · exact L.rbn.2.2.1 h'
    · omega
  · rcases h with h | h
    · exact L.rbn.2.2.2 h.1
    · omega
end
/-- The invariant of the law's loop. -/
def Inv16s (w wr : World) (g ob rb : Nat) (bs : List Value) (B : Int) (G0 : Gv) (N : Nat) : Prop :=
  ∃ G V E A1 n1 c1 A2 n2 c2 R Af nf cf Ao no co Al nl cl U P, Ok16 G ∧ Same16 G0 G ∧ V.length = N ∧ E.length = 8 ∧ Rel16 G R ∧ Ls16 w wr g ob rb bs B G V E (.slice A1 n1 c1) (.slice A2 n2 c2) R (.slice Af nf cf) (.slice Ao no co) (.slice Al nl cl) U P
end

end Go.Proofs.YteipocjgmgaglaaDoor
