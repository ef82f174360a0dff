/-
  Layer 11 (gate): the reference's Is, Has, Link, Down, Same, with.
  Conditions: those that each theorem states.
-/
import Derived.Test.YtaimhaokielhgaaGt5
import Derived.Test.YtaimhaokielhgaaSame
import Derived.Test.YtaimhaokielhgaaMake
namespace Go.Proofs.Ytaimhaokielhgaa
open Go.ChangeShapes Go.WideShapes Go.ChangeAt Go.RowKit

/-- The reference's cores as pairs of cells. -/
def rc (l : List (Int × Bool)) : List (Value × Value) := l.map fun x => (.int .i64 x.1, .bool x.2)
theorem rc_len (l : List (Int × Bool)) : (rc l).length = l.length := by simp [rc]
theorem rc_at {l : List (Int × Bool)} {k : Nat} {e : Int} {b : Bool} (h : l[k]? = some (e, b)) : (rc l)[k]? = some (.int .i64 e, .bool b) := by simp [rc, h]
theorem rc_set (l : List (Int × Bool)) (k : Nat) (e : Int) (b : Bool) : (rc l).set k (.int .i64 e, .bool b) = rc (l.set k (e, b)) := by simp [rc, List.map_set]
theorem rc_one (l : List (Int × Bool)) : ∀ u ∈ flat (rc l), u.oneCell' = true := by
  induction l with
  | nil => simp [rc, flat]
  | cons x l ih =>
    intro u hu
    simp only [rc, List.map_cons, flat, List.mem_cons] at hu
    rcases hu with rfl | rfl | hu
    · rfl
    · rfl
    · exact ih u hu

/-- The reference's gate: a slice of cores. -/
structure RGate (w : World) (P : Nat → Prop) (l : List (Int × Bool)) (v : Value) : Prop where
  two : Two w P v (rc l)
  cap : CapOk v
theorem RGate.only {S : Nat → Prop} {w w' : World} {P : Nat → Prop} {l : List (Int × Bool)} {v : Value} (h : RGate w P l v) (ho : Only S w w') (hr : ∀ g, S g → ¬ P g) : RGate w' P l v := ⟨h.two.only ho hr, h.cap⟩
theorem RGate.below {w w' : World} {P : Nat → Prop} {l : List (Int × Bool)} {v : Value} (h : RGate w P l v) (hb : Below w.heap.size w w') : RGate w' P l v := ⟨h.two.below hb, h.cap⟩
theorem RGate.weak {w : World} {P Q : Nat → Prop} {l : List (Int × Bool)} {v : Value} (h : RGate w P l v) (hPQ : ∀ g, g < w.heap.size → P g → Q g) : RGate w Q l v := ⟨h.two.weak hPQ, h.cap⟩
/-- The slice written out. -/
theorem RGate.open_ {w : World} {P : Nat → Prop} {l : List (Int × Bool)} {v : Value} (h : RGate w P l v) : ∃ A n c, v = .slice A n c ∧ Hid (l.length = n) ∧ Hid (RGate w P l (.slice A n c)) := by
  obtain ⟨A, n, c, rfl, h1, h2⟩ := h.two.open_
  exact ⟨A, n, c, rfl, by unfold Hid at *; rw [← h1, rc_len], h⟩
/-- Core number k. -/
theorem RGate.core {w : World} {P : Nat → Prop} {l : List (Int × Bool)} {A : Option Addr} {n c : Nat} (h : RGate w P l (.slice A n c)) {k : Nat} {e : Int} {b : Bool} (hk : l[k]? = some (e, b)) :
    ∃ g o, A = some ⟨g, o, none⟩ ∧ P g ∧ g < w.heap.size ∧ w.cell? ⟨g, o + k * 2, none⟩ = some (.int .i64 e) ∧ w.cell? ⟨g, o + k * 2 + 1, none⟩ = some (.bool b) := h.two.cells (rc_at hk)

set_option maxRecDepth 100000 in
set_option maxHeartbeats 400000 in
theorem ris11_yes (c : Int) (w : World) (h0 : 1 ≤ c) (h1 : c ≤ 8) :
    Calls Try.prog 8 #[.int .i64 c] w fun e w' => e = .returned (.bool true) ∧ w = w' := by
  go_enter Try.func8, Try.ntmps8
  go_wp2
  go_ret
  exact ⟨rfl, rfl⟩

set_option maxRecDepth 100000 in
set_option maxHeartbeats 400000 in
theorem ris11_no (c : Int) (w : World) (h : c < 1 ∨ 8 < c) :
    Calls Try.prog 8 #[.int .i64 c] w fun e w' => e = .returned (.bool false) ∧ w = w' := by
  by_cases h0 : c < 1
  · have h' : decide (1 ≤ c) = false := by simp; omega
    go_enter Try.func8, Try.ntmps8
    go_wp2
    go_ret
    exact ⟨rfl, rfl⟩
  · have d0 : 1 ≤ c := by omega
    have h' : decide (c ≤ 8) = false := by simp; omega
    go_enter Try.func8, Try.ntmps8
    go_wp2
    go_ret
    exact ⟨rfl, rfl⟩

set_option maxRecDepth 100000 in
set_option maxHeartbeats 400000 in
theorem rhas11 (l : List (Int × Bool)) (A : Option Addr) (n d : Nat) (c : Int) (w : World) (hn : l.length = n) :
    Calls Try.prog 15 #[.slice A n d, .int .i64 c] w fun e w' => e = .returned (.bool (hasB l c)) ∧ w = w' := by
  rcases cr_cases l c with ⟨h, h0⟩ | ⟨k, e, b, rfl, hk, h⟩
  · have e : Hid (hasB l c = false) := Lib.hid (by unfold hasB; rw [h]; rfl)
    rw [hn] at h0
    clear h hn
    by_cases h1 : 0 ≤ c
    · have h2 : decide (c < (n : Int)) = false := by simp; omega
      clear h0
      go_enter Try.func15, Try.ntmps15
      go_wp2
      go_ret
      exact ⟨by rw [e.out]; rfl, rfl⟩
    · have h2 : decide (0 ≤ c) = false := by simpa using h1
      clear h0 h1
      go_enter Try.func15, Try.ntmps15
      go_wp2
      go_ret
      exact ⟨by rw [e.out]; rfl, rfl⟩
  · have e : Hid (hasB l k = true) := Lib.hid (by unfold hasB; rw [cr_nat, h]; rfl)
    rw [hn] at hk
    have h1 : (0 : Int) ≤ (k : Int) := by omega
    have h2 : (k : Int) < (n : Int) := by omega
    clear h hn
    go_enter Try.func15, Try.ntmps15
    go_wp2
    go_ret
    exact ⟨by rw [e.out]; rfl, rfl⟩

theorem radd_q (x y : Int) (w : World) (m : Nat) : Calls Try.prog 28 #[.int .i64 x, .int .i64 y] (w.drewN m) fun e w' => e = .returned (.int .i64 (addW x y)) ∧ ∃ k, w' = w.drewN k :=
  (radd_any x y _).mono fun _ _ ⟨he, hw⟩ => ⟨he, m, hw.symm⟩

set_option maxRecDepth 100000 in
set_option maxHeartbeats 2000000 in
theorem rlink11_any (P : Nat → Prop) (v : Value) (l : List (Int × Bool)) (a b : Int) (w : World) (r : RGate w P l v) :
    Calls Try.prog 18 #[v, .int .i64 a, .int .i64 b] w fun e w' => e = .returned (.tuple #[.int .i64 (linkV l a b), .int .i64 (linkE l a b)]) ∧ ∃ n, w' = w.drewN n := by
  obtain ⟨A, n, d, rfl, HN, R⟩ := r.open_
  have k1 := Lib.hid (fun W => rhas11 l A n d a W HN.out)
  have k2 := Lib.hid (fun W => rhas11 l A n d b W HN.out)
  clear r
  rcases cr_cases l a with ⟨h, h0⟩ | ⟨k, e, p, rfl, hk, h⟩
  · rw [show hasB l a = false from by unfold hasB; rw [h]; rfl] at k1
    rw [show linkV l a b = 0 from by unfold linkV; rw [h], show linkE l a b = 3 from by unfold linkE; rw [h]]
    clear h h0 k2
    go_enter Try.func18, Try.ntmps18
    go_wp2_with fail
    refine (k1.out _).mono ?_
    rintro e w' ⟨rfl, rfl⟩
    go_wp2
    go_ret2
    exact ⟨rfl, 0, rfl⟩
  · rw [show hasB l k = true from by unfold hasB; rw [cr_nat, h]; rfl] at k1
    rcases cr_cases l b with ⟨h', h0⟩ | ⟨k', e', p', rfl, hk', h'⟩
    · rw [show hasB l b = false from by unfold hasB; rw [h']; rfl] at k2
      rw [show linkV l k b = 0 from by unfold linkV; rw [cr_nat, h, h'], show linkE l k b = 3 from by unfold linkE; rw [cr_nat, h, h']]
      clear h h' h0
      go_enter Try.func18, Try.ntmps18
      go_wp2_with fail
      refine (k1.out _).mono ?_
      rintro e w' ⟨rfl, rfl⟩
      go_wp2_with fail
      refine (k2.out _).mono ?_
      rintro e w' ⟨rfl, rfl⟩
      go_wp2
      go_ret2
      exact ⟨rfl, 0, rfl⟩
    · rw [show hasB l k' = true from by unfold hasB; rw [cr_nat, h']; rfl] at k2
      by_cases hkk : (k : Int) = (k' : Int)
      · rw [show linkV l k k' = 0 from by unfold linkV; rw [cr_nat, cr_nat, h, h']; simp [hkk], show linkE l k k' = 2 from by unfold linkE; rw [cr_nat, cr_nat, h, h']; simp [hkk]]
        have hb : ((k : Int) == (k' : Int)) = true := by simpa using hkk
        clear h h' hkk
        go_enter Try.func18, Try.ntmps18
        go_wp2_with fail
        refine (k1.out _).mono ?_
        rintro e w' ⟨rfl, rfl⟩
        go_wp2_with fail
        refine (k2.out _).mono ?_
        rintro e w' ⟨rfl, rfl⟩
        go_wp2
        go_ret2
        exact ⟨rfl, 0, rfl⟩
      · rw [show linkV l k k' = addW e e' from by unfold linkV; rw [cr_nat, cr_nat, h, h']; simp only [if_neg hkk], show linkE l k k' = 0 from by unfold linkE; rw [cr_nat, cr_nat, h, h']; simp only [if_neg hkk]]
        have hb : ((k : Int) == (k' : Int)) = false := by simpa using hkk
        obtain ⟨g, o, rfl, hP, hg, c1, _⟩ := R.out.core h
        obtain ⟨g2, o2, e2, _, _, c2, _⟩ := R.out.core h'
        injection e2 with e2
        injection e2 with e2 e3
        subst e2 e3
        rw [HN.out] at hk hk'
        have b1 : (k : Int) < (n : Int) := by omega
        have b2 : (k' : Int) < (n : Int) := by omega
        have AD := Lib.hid (radd_q e e' w)
        clear h h' hkk hP
        go_enter Try.func18, Try.ntmps18
        go_wp2_with fail
        refine (k1.out _).mono ?_
        rintro e w' ⟨rfl, rfl⟩
        go_wp2_with fail
        refine (k2.out _).mono ?_
        rintro e w' ⟨rfl, rfl⟩
        go_wp2_with fail
        go_quiet ((go_at_call 28; exact AD.out _))
        go_wp2
        go_ret2
        exact ⟨rfl, _, rfl⟩

set_option maxRecDepth 100000 in
set_option maxHeartbeats 2000000 in
theorem rdown11_any (P : Nat → Prop) (v : Value) (l : List (Int × Bool)) (w : World) (r : RGate w P l v) (h8 : l.length ≤ 8) :
    Calls Try.prog 13 #[v] w (DownP (downL l l.length) w) := by
  obtain ⟨i0, hi0, hz0, hz1, hz2⟩ := info_parts int_info
  obtain ⟨A, n, d, rfl, HN, R⟩ := r.open_
  rw [HN.out] at h8 ⊢
  clear r
  go_enter Try.func13, Try.ntmps13
  go_wp2
  go_loopw [3, 4] (fun v i wr => ∃ k : Nat, k ≤ n ∧ i = .int .i64 k ∧ Hid (wr.ownsRow w.heap.size 3 1 v (downL l k).length (ints (downL l k))) ∧ Hid (Below w.heap.size w wr)) (fun _ i _ => n - (intOf i).toNat)
  case atStart => exact ⟨0, Nat.zero_le _, rfl, Lib.hid (World.ownsRow_nil _ _ _ _), Lib.hid (Below.refl _ _)⟩
  case round =>
    obtain ⟨k, hk, rfl, HO, HB⟩ := hrel
    by_cases hlt : k < n
    · obtain ⟨⟨e, b⟩, hx⟩ : ∃ x, l[k]? = some x := ⟨_, List.getElem?_eq_getElem (by rw [HN.out]; exact hlt)⟩
      obtain ⟨g, o, rfl, hP, hg, _, hxc⟩ := (R.out.below HB.out).core hx
      have hkl := downL_len l k
      have HX := Lib.hid hx
      clear hx hP
      cases b with
      | true =>
        go_wp2_with (at_builtin; go_must ((refine wpList_append_own _ rfl (.tmp 16) (.tmp 18) 35 rfl w.heap.size 3 i0 _ 1 8 Try.underlying35 hi0 hz0 hz1 hz2 rfl (by omega) _ _ _ rfl (HO.out.alloc _) ⟨_, 0, none⟩ 1 1 [.int .i64 (k : Int)] rfl rfl (cell_one_new _ _ _) (by intro u hu; simp at hu; subst hu; rfl) (by unfold maxLen; omega) (by omega) (by simp; have := HB.out.size; omega) ?_); intro v1 w1 hown1 hg1 _; have HO1 := Lib.hid hown1; have HB1 := Lib.hid ((HB.out.alloc HB.out.size _).grown hg1 (by simp; have := HB.out.size; omega) (fun q hq => (HO.out.lt q hq).1)); clear hown1 hg1))
        go_roundw
        case rel =>
          refine ⟨k + 1, by omega, by go_num, Lib.hid ?_, HB1⟩
          have := HO1.out
          rw [downL_more HX.out, List.length_append, ints_append]
          exact this
        case measure => simp [intOf]; omega
      | false =>
        go_wp2
        go_roundw
        case rel => exact ⟨k + 1, by omega, by go_num, by rw [downL_skip HX.out]; exact HO, HB⟩
        case measure => simp [intOf]; omega
    · obtain rfl : k = n := by omega
      go_wp2
      go_ret
      exact ⟨_, rfl, HO.out, HB.out⟩

theorem core11_info : (Try.prog.info? 43).map (fun i => (i.zero, i.size, i.bytes)) = some (some (.agg #[.int .i64 0, .bool false]), 2, 16) := by kernel_rfl

/-- What with leaves. -/
def RGateQ (l : List (Int × Bool)) (w : World) (e : Ending) (w' : World) : Prop := ∃ v, e = .returned v ∧ RGate w' (fun b => w.heap.size ≤ b) l v ∧ Below w.heap.size w w'

theorem info_parts2 {P : Program} {t : TypeId} {z : Value} {s b : Nat} (h : (P.info? t).map (fun i => (i.zero, i.size, i.bytes)) = some (some z, s, b)) : ∃ i, P.info? t = some i ∧ i.zero = some z ∧ i.size = s ∧ i.bytes = b := by
  obtain ⟨i, hi, hzz⟩ := Option.map_eq_some_iff.1 h
  simp only [Prod.mk.injEq] at hzz
  exact ⟨i, hi, hzz.1, hzz.2.1, hzz.2.2⟩

set_option maxRecDepth 100000 in
set_option maxHeartbeats 2000000 in
theorem rwith11_any (P : Nat → Prop) (v : Value) (l : List (Int × Bool)) (i : Nat) (x : Int) (y : Bool) (w : World) (r : RGate w P l v) (hi : i < l.length) (h8 : l.length ≤ 8) :
    Calls Try.prog 30 #[v, .int .i64 (i : Int), .agg #[.int .i64 x, .bool y]] w (RGateQ (l.set i (x, y)) w) := by
  obtain ⟨i0, hi0, hz0, hz1, hz2⟩ := info_parts2 core11_info
  obtain ⟨A, n, cc, rfl, HN, R⟩ := r.open_
  obtain ⟨⟨e0, b0⟩, hy⟩ : ∃ z, l[i]? = some z := ⟨_, List.getElem?_eq_getElem hi⟩
  have HY := Lib.hid hy
  rw [HN.out] at hi h8
  have O1 := Lib.hid (rc_one l)
  have HI : Hid ((i : Int) < (n : Int)) := Lib.hid (by omega)
  have IR := Lib.hid (Row.new w 43 #[.int .i64 x, .bool y])
  clear hy r
  go_enter Try.func30, Try.ntmps30
  go_wp2_with (at_builtin; go_must ((refine app2_walk _ rfl (.tmp 8) (.tmp 9) 30 rfl (w.heap.size + 1) 43 i0 _ 16 Try.underlying30 hi0 hz0 hz1 hz2 rfl (.slice none 0 0) 0 [] rfl (World.ownsRow_nil _ _ _ _) P A n cc (rc l) rfl (R.out.two.below (below_al _ _)) R.out.cap O1.out (by unfold maxLen; omega) (by omega) (by simp) ?_); intro v1 w1 hown1 hg1 hat1; rw [Nat.zero_add, List.nil_append] at hown1; obtain ⟨g', cap', rfl, hbg, hlt'⟩ := hown1.form (by omega); have r0 := IR.out.of_grown hg1 (by simp [Value.ownBlock]); have hb1 : Below w.heap.size w w1 := (below_al _ _).grown hg1 (by simp) (by simp [Value.ownBlock]); have x0 := r0.cell 0; have x1 := r0.cell 1; simp only [List.getElem?_cons_zero, List.getElem?_cons_succ] at x0 x1; have t0 : w1.cell? ⟨g', i * 2, none⟩ = some (.int .i64 e0) := (hown1.cellAt (i * 2) (by omega)).trans (flat_at (rc_at HY.out)).1; have t1 : w1.cell? ⟨g', i * 2 + 1, none⟩ = some (.bool b0) := (hown1.cellAt (i * 2 + 1) (by omega)).trans (flat_at (rc_at HY.out)).2; have ft := hown1.frozenAt (i * 2); have ft1 := hown1.frozenAt (i * 2 + 1); have HO1 := Lib.hid hown1; have HB1 := Lib.hid hb1; have hgg : g' ≠ w.heap.size := (by omega); clear hg1 hat1 hb1 r0 hown1))
  go_ret
  have S1 := (HO1.out.stored (i * 2) (.int .i64 x)).1
  have S2 := (S1.stored (i * 2 + 1) (.bool y)).1
  rw [show ((flat (rc l)).set (i * 2) (Value.int .i64 x)).set (i * 2 + 1) (Value.bool y) = flat (rc (l.set i (x, y))) from by rw [← rc_set]; exact flat_set2 (rc l) i (.int .i64 x, .bool y)] at S2
  refine ⟨_, rfl, ⟨(Two.of_own S2).weak (fun b _ hb => ?_), CapOk.of_own S2⟩, ?_⟩
  · simp only [Value.ownBlock, Option.some.injEq] at hb
    omega
  · exact (HB1.out.setCell (p := ⟨g', i * 2, none⟩) (by show w.heap.size ≤ g'; omega) _).setCell (p := ⟨g', i * 2 + 1, none⟩) (by show w.heap.size ≤ g'; omega) _

#print axioms rlink11_any
#print axioms rdown11_any
#print axioms rwith11_any
end Go.Proofs.Ytaimhaokielhgaa
