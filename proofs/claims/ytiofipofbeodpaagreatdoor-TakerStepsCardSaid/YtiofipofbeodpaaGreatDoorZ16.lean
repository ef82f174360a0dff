/-
  Texts merged, with what one theorem needs of them.
  Conditions: those that each theorem states.
-/
import Derived.Test.YtiofipofbeodpaaGreatDoorRows
import Derived.Test.YtiofipofbeodpaaGreatDoorZ1
import Derived.Test.YtiofipofbeodpaaGreatDoorZ2
import Derived.Test.YtiofipofbeodpaaGreatDoorZ3
import Derived.Test.YtiofipofbeodpaaGreatDoorZ7
import Derived.Test.YtiofipofbeodpaaGreatDoorZ13
import Derived.Test.YtiofipofbeodpaaGreatDoorZ14
import Derived.Test.YtiofipofbeodpaaGreatDoorZ15
import Derived.Below
import Derived.BigQuiet
import Derived.Deep.AppendLies
import Derived.Deep.DeepMust
import Derived.Deep.Draws
import Derived.Deep.MidRow
import Derived.Deep.OwnRows
import Derived.Deep.QuietTactic
import Derived.Great.BuildSlice
import Derived.Handy
import Derived.IntWalk
import Derived.Laws.BitsLemmas
import Derived.Laws.CopyOwn
import Derived.Laws.OwnMore
import Derived.Laws.Rows
import Derived.Lib.Hide
import Derived.Lib.SliceRun
import Derived.Maps.AppendAt
import Derived.OpenShut
import Derived.ProofKit
import Derived.RegionTactic
import Derived.WalkKit
namespace Go.Proofs.YtiofipofbeodpaaGreatDoor

section
open Go.ChangeShapes Go.WideShapes Go.ChangeAt Go.RowKit
/-- The held slots below k. -/
def onN15 (l : List (Int × Bool)) : Nat → List Nat
  | 0 => []
  | k + 1 => onN15 l k ++ (if (l[k]?).map (·.2) = some true then [k] else [])
def onL15 (l : List (Int × Bool)) (k : Nat) : List Int := (onN15 l k).map (fun (i : Nat) => (i : Int))
theorem onN15_len (l : List (Int × Bool)) : ∀ k, (onN15 l k).length ≤ k
  | 0 => Nat.le_refl _
  | k + 1 => by
    have := onN15_len l k
    simp only [onN15, List.length_append]
    split <;> simp <;> omega
theorem onL15_len (l : List (Int × Bool)) (k : Nat) : (onL15 l k).length ≤ k := by
  simpa [onL15] using onN15_len l k
theorem onL15_more {l : List (Int × Bool)} {k : Nat} {e : Int} (h : l[k]? = some (e, true)) : onL15 l (k + 1) = onL15 l k ++ [(k : Int)] := by simp [onL15, onN15, h]
theorem onL15_skip {l : List (Int × Bool)} {k : Nat} {e : Int} (h : l[k]? = some (e, false)) : onL15 l (k + 1) = onL15 l k := by simp [onL15, onN15, h]
theorem onN15_mem {l : List (Int × Bool)} {i : Nat} : ∀ {k : Nat}, i ∈ onN15 l k → i < k ∧ ∃ e, l[i]? = some (e, true)
  | 0, h => by simp [onN15] at h
  | k + 1, h => by
    simp only [onN15, List.mem_append] at h
    rcases h with h | h
    · obtain ⟨h1, h2⟩ := onN15_mem h
      exact ⟨by omega, h2⟩
    · split at h
      · rename_i hc
        simp only [List.mem_singleton] at h
        subst h
        cases hx : l[i]? with
        | none => rw [hx] at hc; cases hc
        | some x =>
          obtain ⟨e, b⟩ := x
          rw [hx] at hc
          simp only [Option.map_some, Option.some.injEq] at hc
          subst hc
          exact ⟨by omega, e, rfl⟩
      · cases h
/-- What a call leaves that returns a list of its own. -/
def OwnP15 (xs : List Int) (w : World) (e : Ending) (w' : World) : Prop := ∃ v, e = .returned v ∧ w'.ownsRow w.heap.size 3 1 v xs.length (ints xs) ∧ Below w.heap.size w w'
set_option maxRecDepth 100000 in
set_option maxHeartbeats 2000000 in
theorem held15_any (g : Nat) (l : List (Int × Bool)) (w : World) (r : GrAt w g l) :
    Calls Tryz.prog 80 #[ptr g] w (OwnP15 (onL15 l l.length) w) := by
  obtain ⟨i0, hi0, hz0, hz1, hz2⟩ := info_parts int_info
  have hc : w.cell? ⟨g, 0, none⟩ = some (.int .i64 l.length) := r.row.cell 0
  have hgl := r.row.lt
  have h64 := r.n64
  have HR := Lib.hid r
  obtain ⟨n, hn⟩ : ∃ n, l.length = n := ⟨_, rfl⟩
  rw [hn] at hc h64 ⊢
  have HN := Lib.hid hn
  clear r hn
  unfold ptr
  go_enter Tryz.func80, Tryz.ntmps80
  go_wp2
  go_loopw [3, 11] (fun v i wr => ∃ k : Nat, k ≤ n ∧ i = .int .i64 k ∧ Hid (wr.ownsRow w.heap.size 3 1 v (onL15 l k).length (ints (onL15 l k))) ∧ Hid (Below w.heap.size w wr)) (fun _ i _ => n - (intOf i).toNat)
  case atStart => exact ⟨0, Nat.zero_le _, rfl, Lib.hid (World.ownsRow_nil _ _ _ _), Lib.hid (Below.refl _ _)⟩
  case round =>
    obtain ⟨k, hk, rfl, HO, HB⟩ := hrel
    by_cases hlt : k < n
    · obtain ⟨⟨e, b⟩, hx⟩ : ∃ x, l[k]? = some x := ⟨_, List.getElem?_eq_getElem (by rw [HN.out]; exact hlt)⟩
      have hxc : wr.cell? ⟨g, 65 + k, none⟩ = some (.bool b) := (HB.out.cell (p := ⟨g, 65 + k, none⟩) hgl).trans ((HR.out.row.cell (65 + k)).trans (cells15_h HR.out.n64 hx))
      have hkl := onL15_len l k
      have hk64 : k < 64 := by omega
      have HX := Lib.hid hx
      clear hx
      cases b with
      | true =>
        go_wp2_with (at_builtin; go_must ((refine wpList_append_own _ rfl (.tmp 20) (.tmp 22) 35 rfl w.heap.size 3 i0 _ 1 8 Tryz.underlying35 hi0 hz0 hz1 hz2 rfl (by omega) _ _ _ rfl (HO.out.alloc _) ⟨_, 0, none⟩ 1 1 [.int .i64 (k : Int)] rfl rfl (cell_one_new _ _ _) (by intro u hu; simp at hu; subst hu; rfl) (by unfold maxLen; omega) (by omega) (by simp; have := HB.out.size; omega) ?_); intro v1 w1 hown1 hg1 _; have HO1 := Lib.hid hown1; have HB1 := Lib.hid ((HB.out.alloc HB.out.size _).grown hg1 (by simp; have := HB.out.size; omega) (fun q hq => (HO.out.lt q hq).1)); clear hown1 hg1))
        go_roundw
        case rel =>
          refine ⟨k + 1, by omega, by go_num, Lib.hid ?_, HB1⟩
          have := HO1.out
          rw [onL15_more HX.out, List.length_append, ints_append]
          exact this
        case measure => simp [intOf]; omega
      | false =>
        go_wp2
        go_roundw
        case rel => exact ⟨k + 1, by omega, by go_num, by rw [onL15_skip HX.out]; exact HO, HB⟩
        case measure => simp [intOf]; omega
    · obtain rfl : k = n := by omega
      go_wp2
      go_ret
      exact ⟨_, rfl, HO.out, HB.out⟩
theorem clearL15_len (l : List (Int × Bool)) : (clearL15 l).length = l.length := by simp [clearL15]
theorem clearL15_pad (l : List (Int × Bool)) : pad15 (clearL15 l) = clearL15 (pad15 l) := by
  simp [pad15, clearL15]
theorem clearL15_wd {l : List (Int × Bool)} (h : Wd15 l) : Wd15 (clearL15 l) := by
  intro k e b hk
  unfold clearL15 at hk
  rw [List.getElem?_map] at hk
  cases hx : l[k]? with
  | none => rw [hx] at hk; cases hk
  | some x =>
    rw [hx] at hk
    simp only [Option.map_some, Option.some.injEq, Prod.mk.injEq] at hk
    have := h k x.1 x.2 hx
    rw [← hk.1]
    exact this
theorem hv15_clear : ∀ l : List (Int × Bool), hv15 (clearL15 l) = List.replicate l.length (Value.bool false)
  | [] => rfl
  | x :: l => by
    have := hv15_clear l
    simp only [hv15, clearL15, List.map_cons, List.length_cons, List.replicate_succ] at this ⊢
    rw [this]
/-- All held flags are cleared. -/
theorem GrAt.wipe {w : World} {g : Nat} {l : List (Int × Bool)} (r : GrAt w g l) : GrAt (w.setCells g 65 (List.replicate 64 (.bool false))) g (clearL15 l) := by
  refine ⟨?_, by rw [clearL15_len]; exact r.n0, by rw [clearL15_len]; exact r.n64, clearL15_wd r.gen⟩
  have h := Row.puts15 (List.replicate 64 (.bool false)) 65 r.row
  have hp := pad15_len r.n64
  have e1 : cells15 l = (.int .i64 l.length :: gv15 (pad15 l)) ++ hv15 (pad15 l) := rfl
  have e2 : (Value.int .i64 l.length :: gv15 (pad15 l)).length = 65 := by simp [gv15, hp]
  have e3 := putL15_is (List.replicate 64 (.bool false)) (.int .i64 l.length :: gv15 (pad15 l)) (hv15 (pad15 l)) (by simp [hv15, hp])
  rw [e2, ← e1] at e3
  rw [e3] at h
  have e4 : cells15 (clearL15 l) = (.int .i64 l.length :: gv15 (pad15 l)) ++ List.replicate 64 (.bool false) := by
    unfold cells15
    rw [clearL15_pad, clearL15_len]
    have g1 : gv15 (clearL15 (pad15 l)) = gv15 (pad15 l) := by simp [gv15, clearL15]
    have g2 : hv15 (clearL15 (pad15 l)) = List.replicate 64 (.bool false) := by
      rw [← hp]
      exact hv15_clear _
    rw [g1, g2]
    rfl
  rw [e4]
  exact h
theorem flags15_zero : (Tryz.prog.info? 111).map (·.zero) = some (some (.agg (List.replicate 64 (Value.bool false)).toArray)) := by kernel_rfl
theorem flags15_zeroV (W : World) : (zeroValue 111).run Tryz.prog W = .ok (.agg (List.replicate 64 (Value.bool false)).toArray) W := by
  obtain ⟨i, hi, hiz⟩ := Option.map_eq_some_iff.1 flags15_zero
  simp [zeroValue, typeInfo, hi, hiz]
theorem flags15_size : (Tryz.prog.info? 111).map (·.size) = some 64 := by kernel_rfl
theorem own15_is {w : World} {base : Nat} {e : TypeId} {size : Nat} {v : Value} {k : Nat} {xs : List Value} (h : w.ownsRow base e size v k xs) : ∃ A c, v = .slice A k c := by
  obtain ⟨hl, h2⟩ := h
  rcases h2 with ⟨rfl, h0⟩ | ⟨g, cap, cur, rfl, _⟩
  · exact ⟨none, 0, by rw [h0]⟩
  · exact ⟨_, cap, rfl⟩
set_option maxRecDepth 100000 in
set_option maxHeartbeats 2000000 in
theorem clear15_any (g : Nat) (l : List (Int × Bool)) (w : World) (r : GrAt w g l) :
    Calls Tryz.prog 70 #[ptr g] w (GrP g (clearL15 l) (.int .i64 (onL15 l l.length).length) w) := by
  have k1 := Lib.hid (held15_any g l w r)
  have R := Lib.hid r
  have zv := flags15_zeroV
  obtain ⟨zs, hzs⟩ : ∃ zs, List.replicate 64 (Value.bool false) = zs := ⟨_, rfl⟩
  rw [hzs] at zv
  have HZ := Lib.hid hzs
  clear r hzs
  unfold ptr at k1 ⊢
  go_enter Tryz.func70, Tryz.ntmps70
  go_wp2_with fail
  refine k1.out.mono ?_
  rintro e w1 ⟨v1, rfl, own1, hb1⟩
  obtain ⟨A1, c1, rfl⟩ := own15_is own1
  have R1 := Lib.hid (R.out.below hb1)
  have HB1 := Lib.hid hb1
  have TH : Hid (w1.there g 65 zs.toArray.size) := Lib.hid (fun j hj => by
    have hj' : j < 64 := by rw [← HZ.out] at hj; simpa using hj
    refine ⟨?_, R1.out.row.soft _⟩
    rw [R1.out.row.cell, List.getElem?_eq_getElem (by rw [cells15_len R1.out.n64]; omega)]
    rfl)
  have SZ : Hid ((Tryz.prog.info? 111).map (·.size) = some zs.toArray.size) := Lib.hid (by rw [← HZ.out]; exact flags15_size)
  have ON : Hid (zs.toArray.all (·.oneCell') = true) := Lib.hid (all_oneCell_toArray (fun v hv => by rw [← HZ.out] at hv; rw [List.eq_of_mem_replicate hv]; rfl))
  clear own1 hb1
  go_wp2_with (with_reducible refine wpList_store_mid rfl 111 (.tmp 12) (.tmp 10) rfl g 65 zs.toArray rfl rfl TH.out SZ.out ON.out ?_)
  go_ret
  have h := R1.out.wipe
  rw [HZ.out] at h
  exact ⟨rfl, h, (Only.of_below HB1.out _).trans (Only.puts15 _ _ (Only.refl _ _))⟩
end

section
open Go.ChangeShapes Go.WideShapes Go.ChangeAt Go.RowKit
/-- The reference's slots as pairs of cells. -/
def rp15 (l : List (Int × Bool)) : List (Value × Value) := l.map fun x => (.int .i64 x.1, .bool x.2)
theorem rp15_len (l : List (Int × Bool)) : (rp15 l).length = l.length := by simp [rp15]
theorem rp15_at {l : List (Int × Bool)} {k : Nat} {e : Int} {b : Bool} (h : l[k]? = some (e, b)) : (rp15 l)[k]? = some (.int .i64 e, .bool b) := by simp [rp15, h]
theorem rp15_set (l : List (Int × Bool)) (k : Nat) (e : Int) (b : Bool) : (rp15 l).set k (.int .i64 e, .bool b) = rp15 (l.set k (e, b)) := by simp [rp15, List.map_set]
theorem rp15_one (l : List (Int × Bool)) : ∀ u ∈ flat (rp15 l), u.oneCell' = true := by
  induction l with
  | nil => simp [rp15, flat]
  | cons x l ih =>
    intro u hu
    simp only [rp15, List.map_cons, flat, List.mem_cons] at hu
    rcases hu with rfl | rfl | hu
    · rfl
    · rfl
    · exact ih u hu
/-- The reference's table: a slice of slots. -/
structure RTab (w : World) (P : Nat → Prop) (l : List (Int × Bool)) (v : Value) : Prop where
  two : Two w P v (rp15 l)
  cap : CapOk v
theorem RTab.only {S : Nat → Prop} {w w' : World} {P : Nat → Prop} {l : List (Int × Bool)} {v : Value} (h : RTab w P l v) (ho : Only S w w') (hr : ∀ g, S g → ¬ P g) : RTab w' P l v := ⟨h.two.only ho hr, h.cap⟩
theorem RTab.below {w w' : World} {P : Nat → Prop} {l : List (Int × Bool)} {v : Value} (h : RTab w P l v) (hb : Below w.heap.size w w') : RTab w' P l v := ⟨h.two.below hb, h.cap⟩
theorem RTab.weak {w : World} {P Q : Nat → Prop} {l : List (Int × Bool)} {v : Value} (h : RTab w P l v) (hPQ : ∀ g, g < w.heap.size → P g → Q g) : RTab w Q l v := ⟨h.two.weak hPQ, h.cap⟩
/-- The slice written out. -/
theorem RTab.open_ {w : World} {P : Nat → Prop} {l : List (Int × Bool)} {v : Value} (h : RTab w P l v) : ∃ A n c, v = .slice A n c ∧ Hid (l.length = n) ∧ Hid (RTab w P l (.slice A n c)) := by
  obtain ⟨A, n, c, rfl, h1, h2⟩ := h.two.open_
  exact ⟨A, n, c, rfl, by unfold Hid at *; rw [← h1, rp15_len], h⟩
/-- Slot number k. -/
theorem RTab.slot {w : World} {P : Nat → Prop} {l : List (Int × Bool)} {A : Option Addr} {n c : Nat} (h : RTab w P l (.slice A n c)) {k : Nat} {e : Int} {b : Bool} (hk : l[k]? = some (e, b)) :
    ∃ g o, A = some ⟨g, o, none⟩ ∧ P g ∧ g < w.heap.size ∧ w.cell? ⟨g, o + k * 2, none⟩ = some (.int .i64 e) ∧ w.cell? ⟨g, o + k * 2 + 1, none⟩ = some (.bool b) := h.two.cells (rp15_at hk)
theorem one15_info : (Tryz.prog.info? 77).map (fun i => (i.zero, i.size, i.bytes)) = some (some (.agg #[.int .i64 0, .bool false]), 2, 16) := by kernel_rfl
/-- What with leaves. -/
def RTabQ (l : List (Int × Bool)) (w : World) (e : Ending) (w' : World) : Prop := ∃ v, e = .returned v ∧ RTab w' (fun b => w.heap.size ≤ b) l v ∧ Below w.heap.size w w'
theorem info_parts15 {P : Program} {t : TypeId} {z : Value} {s b : Nat} (h : (P.info? t).map (fun i => (i.zero, i.size, i.bytes)) = some (some z, s, b)) : ∃ i, P.info? t = some i ∧ i.zero = some z ∧ i.size = s ∧ i.bytes = b := by
  obtain ⟨i, hi, hzz⟩ := Option.map_eq_some_iff.1 h
  simp only [Prod.mk.injEq] at hzz
  exact ⟨i, hi, hzz.1, hzz.2.1, hzz.2.2⟩
set_option maxRecDepth 100000 in
set_option maxHeartbeats 2000000 in
theorem rwith15_any (P : Nat → Prop) (v : Value) (l : List (Int × Bool)) (i : Nat) (x : Int) (y : Bool) (w : World) (r : RTab w P l v) (hi : i < l.length) (h64 : l.length ≤ 64) :
    Calls Tryz.prog 56 #[v, .int .i64 (i : Int), .agg #[.int .i64 x, .bool y]] w (RTabQ (l.set i (x, y)) w) := by
  obtain ⟨i0, hi0, hz0, hz1, hz2⟩ := info_parts15 one15_info
  obtain ⟨A, n, cc, rfl, HN, R⟩ := r.open_
  obtain ⟨⟨e0, b0⟩, hy⟩ : ∃ z, l[i]? = some z := ⟨_, List.getElem?_eq_getElem hi⟩
  have HY := Lib.hid hy
  rw [HN.out] at hi h64
  have O1 := Lib.hid (rp15_one l)
  have HI : Hid ((i : Int) < (n : Int)) := Lib.hid (by omega)
  have IR := Lib.hid (Row.new w 77 #[.int .i64 x, .bool y])
  clear hy r
  go_enter Tryz.func56, Tryz.ntmps56
  go_wp2_with (at_builtin; go_must ((refine app2_walk _ rfl (.tmp 8) (.tmp 9) 34 rfl (w.heap.size + 1) 77 i0 _ 16 Tryz.underlying34 hi0 hz0 hz1 hz2 rfl (.slice none 0 0) 0 [] rfl (World.ownsRow_nil _ _ _ _) P A n cc (rp15 l) rfl (R.out.two.below (below_al _ _)) R.out.cap O1.out (by unfold maxLen; omega) (by omega) (by simp) ?_); intro v1 w1 hown1 hg1 hat1; rw [Nat.zero_add, List.nil_append] at hown1; obtain ⟨g', cap', rfl, hbg, hlt'⟩ := hown1.form (by omega); have r0 := IR.out.of_grown hg1 (by simp [Value.ownBlock]); have hb1 : Below w.heap.size w w1 := (below_al _ _).grown hg1 (by simp) (by simp [Value.ownBlock]); have x0 := r0.cell 0; have x1 := r0.cell 1; simp only [List.getElem?_cons_zero, List.getElem?_cons_succ] at x0 x1; have t0 : w1.cell? ⟨g', i * 2, none⟩ = some (.int .i64 e0) := (hown1.cellAt (i * 2) (by omega)).trans (flat_at (rp15_at HY.out)).1; have t1 : w1.cell? ⟨g', i * 2 + 1, none⟩ = some (.bool b0) := (hown1.cellAt (i * 2 + 1) (by omega)).trans (flat_at (rp15_at HY.out)).2; have ft := hown1.frozenAt (i * 2); have ft1 := hown1.frozenAt (i * 2 + 1); have HO1 := Lib.hid hown1; have HB1 := Lib.hid hb1; have hgg : g' ≠ w.heap.size := (by omega); clear hg1 hat1 hb1 r0 hown1))
  go_ret
  have S1 := (HO1.out.stored (i * 2) (.int .i64 x)).1
  have S2 := (S1.stored (i * 2 + 1) (.bool y)).1
  rw [show ((flat (rp15 l)).set (i * 2) (Value.int .i64 x)).set (i * 2 + 1) (Value.bool y) = flat (rp15 (l.set i (x, y))) from by rw [← rp15_set]; exact flat_set2 (rp15 l) i (.int .i64 x, .bool y)] at S2
  refine ⟨_, rfl, ⟨(Two.of_own S2).weak (fun b _ hb => ?_), CapOk.of_own S2⟩, ?_⟩
  · simp only [Value.ownBlock, Option.some.injEq] at hb
    omega
  · exact (HB1.out.setCell (p := ⟨g', i * 2, none⟩) (by show w.heap.size ≤ g'; omega) _).setCell (p := ⟨g', i * 2 + 1, none⟩) (by show w.heap.size ≤ g'; omega) _
set_option maxRecDepth 100000 in
set_option maxHeartbeats 2000000 in
theorem rheld15_any (P : Nat → Prop) (v : Value) (l : List (Int × Bool)) (w : World) (r : RTab w P l v) (h64 : l.length ≤ 64) :
    Calls Tryz.prog 33 #[v] w (OwnP15 (onL15 l l.length) w) := by
  obtain ⟨i0, hi0, hz0, hz1, hz2⟩ := info_parts int_info
  obtain ⟨A, n, d, rfl, HN, R⟩ := r.open_
  rw [HN.out] at h64 ⊢
  clear r
  go_enter Tryz.func33, Tryz.ntmps33
  go_wp2
  go_loopw [3, 4] (fun v i wr => ∃ k : Nat, k ≤ n ∧ i = .int .i64 k ∧ Hid (wr.ownsRow w.heap.size 3 1 v (onL15 l k).length (ints (onL15 l k))) ∧ Hid (Below w.heap.size w wr)) (fun _ i _ => n - (intOf i).toNat)
  case atStart => exact ⟨0, Nat.zero_le _, rfl, Lib.hid (World.ownsRow_nil _ _ _ _), Lib.hid (Below.refl _ _)⟩
  case round =>
    obtain ⟨k, hk, rfl, HO, HB⟩ := hrel
    by_cases hlt : k < n
    · obtain ⟨⟨e, b⟩, hx⟩ : ∃ x, l[k]? = some x := ⟨_, List.getElem?_eq_getElem (by rw [HN.out]; exact hlt)⟩
      obtain ⟨g, o, rfl, hP, hg, _, hxc⟩ := (R.out.below HB.out).slot hx
      have hkl := onL15_len l k
      have HX := Lib.hid hx
      clear hx hP
      cases b with
      | true =>
        go_wp2_with (at_builtin; go_must ((refine wpList_append_own _ rfl (.tmp 16) (.tmp 18) 35 rfl w.heap.size 3 i0 _ 1 8 Tryz.underlying35 hi0 hz0 hz1 hz2 rfl (by omega) _ _ _ rfl (HO.out.alloc _) ⟨_, 0, none⟩ 1 1 [.int .i64 (k : Int)] rfl rfl (cell_one_new _ _ _) (by intro u hu; simp at hu; subst hu; rfl) (by unfold maxLen; omega) (by omega) (by simp; have := HB.out.size; omega) ?_); intro v1 w1 hown1 hg1 _; have HO1 := Lib.hid hown1; have HB1 := Lib.hid ((HB.out.alloc HB.out.size _).grown hg1 (by simp; have := HB.out.size; omega) (fun q hq => (HO.out.lt q hq).1)); clear hown1 hg1))
        go_roundw
        case rel =>
          refine ⟨k + 1, by omega, by go_num, Lib.hid ?_, HB1⟩
          have := HO1.out
          rw [onL15_more HX.out, List.length_append, ints_append]
          exact this
        case measure => simp [intOf]; omega
      | false =>
        go_wp2
        go_roundw
        case rel => exact ⟨k + 1, by omega, by go_num, by rw [onL15_skip HX.out]; exact HO, HB⟩
        case measure => simp [intOf]; omega
    · obtain rfl : k = n := by omega
      go_wp2
      go_ret
      exact ⟨_, rfl, HO.out, HB.out⟩
set_option maxRecDepth 100000 in
set_option maxHeartbeats 2000000 in
theorem rslot15_any (P : Nat → Prop) (v : Value) (l : List (Int × Bool)) (h : Int) (w : World) (r : RTab w P l v) (h64 : l.length ≤ 64) (wd : Wd15 l) :
    Calls Tryz.prog 34 #[v, .int .i64 h] w fun e w' => e = .returned (.tuple #[.int .i64 (slotV15 l h), .bool (slotB15 l h)]) ∧ w = w' := by
  obtain ⟨A, n, d, rfl, HN, R⟩ := r.open_
  have WD := Lib.hid wd
  rw [HN.out] at h64
  clear r wd
  go_enter Tryz.func34, Tryz.ntmps34
  go_wp2
  go_loopw [6] (fun i wr => ∃ k : Nat, k ≤ n ∧ i = .int .i64 k ∧ Hid (∀ j, slotO15 l h = some j → k ≤ j) ∧ w = wr) (fun i _ => n - (intOf i).toNat)
  case atStart => exact ⟨0, Nat.zero_le _, rfl, Lib.hid (fun _ _ => Nat.zero_le _), rfl⟩
  case round =>
    obtain ⟨k, hk, rfl, HF, rfl⟩ := hrel
    by_cases hlt : k < n
    · obtain ⟨⟨e, b⟩, hx⟩ : ∃ x, l[k]? = some x := ⟨_, List.getElem?_eq_getElem (by rw [HN.out]; exact hlt)⟩
      obtain ⟨g, o, rfl, hP, hg, hce, hxc⟩ := R.out.slot hx
      obtain ⟨e0, e1⟩ := WD.out k e b hx
      have hkn : (k : Int) < (n : Int) := by omega
      have HX := Lib.hid hx
      clear hx hP
      cases b with
      | true =>
        by_cases hq : e * 64 + (k : Int) = h
        · have hv : slotO15 l h = some k := by rw [← hq]; exact slotO15_yes HX.out (by omega) e0
          have HV : Hid (slotV15 l h = (k : Int) ∧ slotB15 l h = true) := Lib.hid ⟨by unfold slotV15; rw [hv], by unfold slotB15; rw [hv]; rfl⟩
          have hb : (e * 64 + (k : Int) == h) = true := by simpa using hq
          clear hq hv
          go_wp2
          go_ret2
          exact ⟨by rw [HV.out.1, HV.out.2]; rfl, rfl⟩
        · have hb : (e * 64 + (k : Int) == h) = false := by simpa using hq
          have HF' : Hid (∀ j, slotO15 l h = some j → k + 1 ≤ j) := Lib.hid (fun j hj => by
            have h1 := HF.out j hj
            obtain ⟨e', hj1, hj2⟩ := slotO15_is hj
            by_cases hjk : j = k
            · subst hjk
              rw [HX.out] at hj1
              injection hj1 with hj1
              injection hj1 with hj1 _
              subst hj1
              exact absurd hj2 hq
            · omega)
          clear hq
          go_wp2
          go_roundw
          case rel => exact ⟨k + 1, by omega, by go_num, HF', trivial⟩
          case measure => simp [intOf]; omega
      | false =>
        have HF' : Hid (∀ j, slotO15 l h = some j → k + 1 ≤ j) := Lib.hid (fun j hj => by
          have h1 := HF.out j hj
          obtain ⟨e', hj1, hj2⟩ := slotO15_is hj
          by_cases hjk : j = k
          · subst hjk
            rw [HX.out] at hj1
            injection hj1 with hj1
            injection hj1 with _ hj1
            cases hj1
          · omega)
        go_wp2
        go_roundw
        case rel => exact ⟨k + 1, by omega, by go_num, HF', trivial⟩
        case measure => simp [intOf]; omega
    · obtain rfl : k = n := by omega
      have hv : slotO15 l h = none := by
        cases hs : slotO15 l h with
        | none => rfl
        | some j =>
          have h1 := HF.out j hs
          obtain ⟨e', hj1, hj2⟩ := slotO15_is hs
          have := lt_of_at hj1
          rw [HN.out] at this
          omega
      have HV : Hid (slotV15 l h = 0 ∧ slotB15 l h = false) := Lib.hid ⟨by unfold slotV15; rw [hv], by unfold slotB15; rw [hv]; rfl⟩
      clear hv
      go_wp2
      go_ret2
      exact ⟨by rw [HV.out.1, HV.out.2]; rfl, rfl⟩
end

end Go.Proofs.YtiofipofbeodpaaGreatDoor
