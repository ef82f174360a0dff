/-
  Layer 15 (grant): the reference's Is, with, Held, Slot.
  Conditions: those that each theorem states.
-/
import Derived.Test.YtikndnagflpckaaGr4
import Derived.Test.YtikndnagflpckaaSame
import Derived.Test.YtikndnagflpckaaMake
namespace Go.Proofs.Ytikndnagflpckaa
open Go.ChangeShapes Go.WideShapes Go.ChangeAt Go.RowKit

/-- The reference's slots as pairs of cells. -/
def rp15 (l : List (Int × Bool)) : List (Value × Value) := l.map fun x => (.int .i64 x.1, .bool x.2)
theorem rp15_len (l : List (Int × Bool)) : (rp15 l).length = l.length := by simp [rp15]
theorem rp15_at {l : List (Int × Bool)} {k : Nat} {e : Int} {b : Bool} (h : l[k]? = some (e, b)) : (rp15 l)[k]? = some (.int .i64 e, .bool b) := by simp [rp15, h]
theorem rp15_set (l : List (Int × Bool)) (k : Nat) (e : Int) (b : Bool) : (rp15 l).set k (.int .i64 e, .bool b) = rp15 (l.set k (e, b)) := by simp [rp15, List.map_set]
theorem rp15_one (l : List (Int × Bool)) : ∀ u ∈ flat (rp15 l), u.oneCell' = true := by
  induction l with
  | nil => simp [rp15, flat]
  | cons x l ih =>
    intro u hu
    simp only [rp15, List.map_cons, flat, List.mem_cons] at hu
    rcases hu with rfl | rfl | hu
    · rfl
    · rfl
    · exact ih u hu

/-- The reference's table: a slice of slots. -/
structure RTab (w : World) (P : Nat → Prop) (l : List (Int × Bool)) (v : Value) : Prop where
  two : Two w P v (rp15 l)
  cap : CapOk v
theorem RTab.only {S : Nat → Prop} {w w' : World} {P : Nat → Prop} {l : List (Int × Bool)} {v : Value} (h : RTab w P l v) (ho : Only S w w') (hr : ∀ g, S g → ¬ P g) : RTab w' P l v := ⟨h.two.only ho hr, h.cap⟩
theorem RTab.below {w w' : World} {P : Nat → Prop} {l : List (Int × Bool)} {v : Value} (h : RTab w P l v) (hb : Below w.heap.size w w') : RTab w' P l v := ⟨h.two.below hb, h.cap⟩
theorem RTab.weak {w : World} {P Q : Nat → Prop} {l : List (Int × Bool)} {v : Value} (h : RTab w P l v) (hPQ : ∀ g, g < w.heap.size → P g → Q g) : RTab w Q l v := ⟨h.two.weak hPQ, h.cap⟩
/-- The slice written out. -/
theorem RTab.open_ {w : World} {P : Nat → Prop} {l : List (Int × Bool)} {v : Value} (h : RTab w P l v) : ∃ A n c, v = .slice A n c ∧ Hid (l.length = n) ∧ Hid (RTab w P l (.slice A n c)) := by
  obtain ⟨A, n, c, rfl, h1, h2⟩ := h.two.open_
  exact ⟨A, n, c, rfl, by unfold Hid at *; rw [← h1, rp15_len], h⟩
/-- Slot number k. -/
theorem RTab.slot {w : World} {P : Nat → Prop} {l : List (Int × Bool)} {A : Option Addr} {n c : Nat} (h : RTab w P l (.slice A n c)) {k : Nat} {e : Int} {b : Bool} (hk : l[k]? = some (e, b)) :
    ∃ g o, A = some ⟨g, o, none⟩ ∧ P g ∧ g < w.heap.size ∧ w.cell? ⟨g, o + k * 2, none⟩ = some (.int .i64 e) ∧ w.cell? ⟨g, o + k * 2 + 1, none⟩ = some (.bool b) := h.two.cells (rp15_at hk)

set_option maxRecDepth 100000 in
set_option maxHeartbeats 400000 in
theorem ris15_yes (c : Int) (w : World) (h0 : 1 ≤ c) (h1 : c ≤ 64) :
    Calls Try.prog 8 #[.int .i64 c] w fun e w' => e = .returned (.bool true) ∧ w = w' := by
  go_enter Try.func8, Try.ntmps8
  go_wp2
  go_ret
  exact ⟨rfl, rfl⟩

set_option maxRecDepth 100000 in
set_option maxHeartbeats 400000 in
theorem ris15_no (c : Int) (w : World) (h : c < 1 ∨ 64 < c) :
    Calls Try.prog 8 #[.int .i64 c] w fun e w' => e = .returned (.bool false) ∧ w = w' := by
  by_cases h0 : c < 1
  · have h' : decide (1 ≤ c) = false := by simp; omega
    go_enter Try.func8, Try.ntmps8
    go_wp2
    go_ret
    exact ⟨rfl, rfl⟩
  · have d0 : 1 ≤ c := by omega
    have h' : decide (c ≤ 64) = false := by simp; omega
    go_enter Try.func8, Try.ntmps8
    go_wp2
    go_ret
    exact ⟨rfl, rfl⟩

theorem one15_info : (Try.prog.info? 55).map (fun i => (i.zero, i.size, i.bytes)) = some (some (.agg #[.int .i64 0, .bool false]), 2, 16) := by kernel_rfl

/-- What with leaves. -/
def RTabQ (l : List (Int × Bool)) (w : World) (e : Ending) (w' : World) : Prop := ∃ v, e = .returned v ∧ RTab w' (fun b => w.heap.size ≤ b) l v ∧ Below w.heap.size w w'

theorem info_parts15 {P : Program} {t : TypeId} {z : Value} {s b : Nat} (h : (P.info? t).map (fun i => (i.zero, i.size, i.bytes)) = some (some z, s, b)) : ∃ i, P.info? t = some i ∧ i.zero = some z ∧ i.size = s ∧ i.bytes = b := by
  obtain ⟨i, hi, hzz⟩ := Option.map_eq_some_iff.1 h
  simp only [Prod.mk.injEq] at hzz
  exact ⟨i, hi, hzz.1, hzz.2.1, hzz.2.2⟩

set_option maxRecDepth 100000 in
set_option maxHeartbeats 2000000 in
theorem rwith15_any (P : Nat → Prop) (v : Value) (l : List (Int × Bool)) (i : Nat) (x : Int) (y : Bool) (w : World) (r : RTab w P l v) (hi : i < l.length) (h64 : l.length ≤ 64) :
    Calls Try.prog 29 #[v, .int .i64 (i : Int), .agg #[.int .i64 x, .bool y]] w (RTabQ (l.set i (x, y)) w) := by
  obtain ⟨i0, hi0, hz0, hz1, hz2⟩ := info_parts15 one15_info
  obtain ⟨A, n, cc, rfl, HN, R⟩ := r.open_
  obtain ⟨⟨e0, b0⟩, hy⟩ : ∃ z, l[i]? = some z := ⟨_, List.getElem?_eq_getElem hi⟩
  have HY := Lib.hid hy
  rw [HN.out] at hi h64
  have O1 := Lib.hid (rp15_one l)
  have HI : Hid ((i : Int) < (n : Int)) := Lib.hid (by omega)
  have IR := Lib.hid (Row.new w 55 #[.int .i64 x, .bool y])
  clear hy r
  go_enter Try.func29, Try.ntmps29
  go_wp2_with (at_builtin; go_must ((refine app2_walk _ rfl (.tmp 8) (.tmp 9) 31 rfl (w.heap.size + 1) 55 i0 _ 16 Try.underlying31 hi0 hz0 hz1 hz2 rfl (.slice none 0 0) 0 [] rfl (World.ownsRow_nil _ _ _ _) P A n cc (rp15 l) rfl (R.out.two.below (below_al _ _)) R.out.cap O1.out (by unfold maxLen; omega) (by omega) (by simp) ?_); intro v1 w1 hown1 hg1 hat1; rw [Nat.zero_add, List.nil_append] at hown1; obtain ⟨g', cap', rfl, hbg, hlt'⟩ := hown1.form (by omega); have r0 := IR.out.of_grown hg1 (by simp [Value.ownBlock]); have hb1 : Below w.heap.size w w1 := (below_al _ _).grown hg1 (by simp) (by simp [Value.ownBlock]); have x0 := r0.cell 0; have x1 := r0.cell 1; simp only [List.getElem?_cons_zero, List.getElem?_cons_succ] at x0 x1; have t0 : w1.cell? ⟨g', i * 2, none⟩ = some (.int .i64 e0) := (hown1.cellAt (i * 2) (by omega)).trans (flat_at (rp15_at HY.out)).1; have t1 : w1.cell? ⟨g', i * 2 + 1, none⟩ = some (.bool b0) := (hown1.cellAt (i * 2 + 1) (by omega)).trans (flat_at (rp15_at HY.out)).2; have ft := hown1.frozenAt (i * 2); have ft1 := hown1.frozenAt (i * 2 + 1); have HO1 := Lib.hid hown1; have HB1 := Lib.hid hb1; have hgg : g' ≠ w.heap.size := (by omega); clear hg1 hat1 hb1 r0 hown1))
  go_ret
  have S1 := (HO1.out.stored (i * 2) (.int .i64 x)).1
  have S2 := (S1.stored (i * 2 + 1) (.bool y)).1
  rw [show ((flat (rp15 l)).set (i * 2) (Value.int .i64 x)).set (i * 2 + 1) (Value.bool y) = flat (rp15 (l.set i (x, y))) from by rw [← rp15_set]; exact flat_set2 (rp15 l) i (.int .i64 x, .bool y)] at S2
  refine ⟨_, rfl, ⟨(Two.of_own S2).weak (fun b _ hb => ?_), CapOk.of_own S2⟩, ?_⟩
  · simp only [Value.ownBlock, Option.some.injEq] at hb
    omega
  · exact (HB1.out.setCell (p := ⟨g', i * 2, none⟩) (by show w.heap.size ≤ g'; omega) _).setCell (p := ⟨g', i * 2 + 1, none⟩) (by show w.heap.size ≤ g'; omega) _

set_option maxRecDepth 100000 in
set_option maxHeartbeats 2000000 in
theorem rheld15_any (P : Nat → Prop) (v : Value) (l : List (Int × Bool)) (w : World) (r : RTab w P l v) (h64 : l.length ≤ 64) :
    Calls Try.prog 15 #[v] w (OwnP15 (onL15 l l.length) w) := by
  obtain ⟨i0, hi0, hz0, hz1, hz2⟩ := info_parts int_info
  obtain ⟨A, n, d, rfl, HN, R⟩ := r.open_
  rw [HN.out] at h64 ⊢
  clear r
  go_enter Try.func15, Try.ntmps15
  go_wp2
  go_loopw [3, 4] (fun v i wr => ∃ k : Nat, k ≤ n ∧ i = .int .i64 k ∧ Hid (wr.ownsRow w.heap.size 3 1 v (onL15 l k).length (ints (onL15 l k))) ∧ Hid (Below w.heap.size w wr)) (fun _ i _ => n - (intOf i).toNat)
  case atStart => exact ⟨0, Nat.zero_le _, rfl, Lib.hid (World.ownsRow_nil _ _ _ _), Lib.hid (Below.refl _ _)⟩
  case round =>
    obtain ⟨k, hk, rfl, HO, HB⟩ := hrel
    by_cases hlt : k < n
    · obtain ⟨⟨e, b⟩, hx⟩ : ∃ x, l[k]? = some x := ⟨_, List.getElem?_eq_getElem (by rw [HN.out]; exact hlt)⟩
      obtain ⟨g, o, rfl, hP, hg, _, hxc⟩ := (R.out.below HB.out).slot hx
      have hkl := onL15_len l k
      have HX := Lib.hid hx
      clear hx hP
      cases b with
      | true =>
        go_wp2_with (at_builtin; go_must ((refine wpList_append_own _ rfl (.tmp 16) (.tmp 18) 38 rfl w.heap.size 3 i0 _ 1 8 Try.underlying38 hi0 hz0 hz1 hz2 rfl (by omega) _ _ _ rfl (HO.out.alloc _) ⟨_, 0, none⟩ 1 1 [.int .i64 (k : Int)] rfl rfl (cell_one_new _ _ _) (by intro u hu; simp at hu; subst hu; rfl) (by unfold maxLen; omega) (by omega) (by simp; have := HB.out.size; omega) ?_); intro v1 w1 hown1 hg1 _; have HO1 := Lib.hid hown1; have HB1 := Lib.hid ((HB.out.alloc HB.out.size _).grown hg1 (by simp; have := HB.out.size; omega) (fun q hq => (HO.out.lt q hq).1)); clear hown1 hg1))
        go_roundw
        case rel =>
          refine ⟨k + 1, by omega, by go_num, Lib.hid ?_, HB1⟩
          have := HO1.out
          rw [onL15_more HX.out, List.length_append, ints_append]
          exact this
        case measure => simp [intOf]; omega
      | false =>
        go_wp2
        go_roundw
        case rel => exact ⟨k + 1, by omega, by go_num, by rw [onL15_skip HX.out]; exact HO, HB⟩
        case measure => simp [intOf]; omega
    · obtain rfl : k = n := by omega
      go_wp2
      go_ret
      exact ⟨_, rfl, HO.out, HB.out⟩

set_option maxRecDepth 100000 in
set_option maxHeartbeats 2000000 in
theorem rslot15_any (P : Nat → Prop) (v : Value) (l : List (Int × Bool)) (h : Int) (w : World) (r : RTab w P l v) (h64 : l.length ≤ 64) (wd : Wd15 l) :
    Calls Try.prog 24 #[v, .int .i64 h] w fun e w' => e = .returned (.tuple #[.int .i64 (slotV15 l h), .bool (slotB15 l h)]) ∧ w = w' := by
  obtain ⟨A, n, d, rfl, HN, R⟩ := r.open_
  have WD := Lib.hid wd
  rw [HN.out] at h64
  clear r wd
  go_enter Try.func24, Try.ntmps24
  go_wp2
  go_loopw [6] (fun i wr => ∃ k : Nat, k ≤ n ∧ i = .int .i64 k ∧ Hid (∀ j, slotO15 l h = some j → k ≤ j) ∧ w = wr) (fun i _ => n - (intOf i).toNat)
  case atStart => exact ⟨0, Nat.zero_le _, rfl, Lib.hid (fun _ _ => Nat.zero_le _), rfl⟩
  case round =>
    obtain ⟨k, hk, rfl, HF, rfl⟩ := hrel
    by_cases hlt : k < n
    · obtain ⟨⟨e, b⟩, hx⟩ : ∃ x, l[k]? = some x := ⟨_, List.getElem?_eq_getElem (by rw [HN.out]; exact hlt)⟩
      obtain ⟨g, o, rfl, hP, hg, hce, hxc⟩ := R.out.slot hx
      obtain ⟨e0, e1⟩ := WD.out k e b hx
      have hkn : (k : Int) < (n : Int) := by omega
      have HX := Lib.hid hx
      clear hx hP
      cases b with
      | true =>
        by_cases hq : e * 64 + (k : Int) = h
        · have hv : slotO15 l h = some k := by rw [← hq]; exact slotO15_yes HX.out (by omega) e0
          have HV : Hid (slotV15 l h = (k : Int) ∧ slotB15 l h = true) := Lib.hid ⟨by unfold slotV15; rw [hv], by unfold slotB15; rw [hv]; rfl⟩
          have hb : (e * 64 + (k : Int) == h) = true := by simpa using hq
          clear hq hv
          go_wp2
          go_ret2
          exact ⟨by rw [HV.out.1, HV.out.2]; rfl, rfl⟩
        · have hb : (e * 64 + (k : Int) == h) = false := by simpa using hq
          have HF' : Hid (∀ j, slotO15 l h = some j → k + 1 ≤ j) := Lib.hid (fun j hj => by
            have h1 := HF.out j hj
            obtain ⟨e', hj1, hj2⟩ := slotO15_is hj
            by_cases hjk : j = k
            · subst hjk
              rw [HX.out] at hj1
              injection hj1 with hj1
              injection hj1 with hj1 _
              subst hj1
              exact absurd hj2 hq
            · omega)
          clear hq
          go_wp2
          go_roundw
          case rel => exact ⟨k + 1, by omega, by go_num, HF', trivial⟩
          case measure => simp [intOf]; omega
      | false =>
        have HF' : Hid (∀ j, slotO15 l h = some j → k + 1 ≤ j) := Lib.hid (fun j hj => by
          have h1 := HF.out j hj
          obtain ⟨e', hj1, hj2⟩ := slotO15_is hj
          by_cases hjk : j = k
          · subst hjk
            rw [HX.out] at hj1
            injection hj1 with hj1
            injection hj1 with _ hj1
            cases hj1
          · omega)
        go_wp2
        go_roundw
        case rel => exact ⟨k + 1, by omega, by go_num, HF', trivial⟩
        case measure => simp [intOf]; omega
    · obtain rfl : k = n := by omega
      have hv : slotO15 l h = none := by
        cases hs : slotO15 l h with
        | none => rfl
        | some j =>
          have h1 := HF.out j hs
          obtain ⟨e', hj1, hj2⟩ := slotO15_is hs
          have := lt_of_at hj1
          rw [HN.out] at this
          omega
      have HV : Hid (slotV15 l h = 0 ∧ slotB15 l h = false) := Lib.hid ⟨by unfold slotV15; rw [hv], by unfold slotB15; rw [hv]; rfl⟩
      clear hv
      go_wp2
      go_ret2
      exact ⟨by rw [HV.out.1, HV.out.2]; rfl, rfl⟩

#print axioms rwith15_any
#print axioms rheld15_any
#print axioms rslot15_any
end Go.Proofs.Ytikndnagflpckaa
