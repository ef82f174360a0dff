/-
  Layer 15 (grant): Held, Clear, Clone.
  Conditions: those that each theorem states.
-/
import Derived.Test.YtgdbaaoifnedbaaDoorGr2
import Derived.Test.YtgdbaaoifnedbaaDoorPuts
namespace Go.Proofs.YtgdbaaoifnedbaaDoor
open Go.ChangeShapes Go.WideShapes Go.ChangeAt Go.RowKit

/-- The held slots below k. -/
def onN15 (l : List (Int × Bool)) : Nat → List Nat
  | 0 => []
  | k + 1 => onN15 l k ++ (if (l[k]?).map (·.2) = some true then [k] else [])
def onL15 (l : List (Int × Bool)) (k : Nat) : List Int := (onN15 l k).map (fun (i : Nat) => (i : Int))
theorem onN15_len (l : List (Int × Bool)) : ∀ k, (onN15 l k).length ≤ k
  | 0 => Nat.le_refl _
  | k + 1 => by
    have := onN15_len l k
    simp only [onN15, List.length_append]
    split <;> simp <;> omega
theorem onL15_len (l : List (Int × Bool)) (k : Nat) : (onL15 l k).length ≤ k := by
  simpa [onL15] using onN15_len l k
theorem onL15_more {l : List (Int × Bool)} {k : Nat} {e : Int} (h : l[k]? = some (e, true)) : onL15 l (k + 1) = onL15 l k ++ [(k : Int)] := by simp [onL15, onN15, h]
theorem onL15_skip {l : List (Int × Bool)} {k : Nat} {e : Int} (h : l[k]? = some (e, false)) : onL15 l (k + 1) = onL15 l k := by simp [onL15, onN15, h]
theorem onN15_mem {l : List (Int × Bool)} {i : Nat} : ∀ {k : Nat}, i ∈ onN15 l k → i < k ∧ ∃ e, l[i]? = some (e, true)
  | 0, h => by simp [onN15] at h
  | k + 1, h => by
    simp only [onN15, List.mem_append] at h
    rcases h with h | h
    · obtain ⟨h1, h2⟩ := onN15_mem h
      exact ⟨by omega, h2⟩
    · split at h
      · rename_i hc
        simp only [List.mem_singleton] at h
        subst h
        cases hx : l[i]? with
        | none => rw [hx] at hc; cases hc
        | some x =>
          obtain ⟨e, b⟩ := x
          rw [hx] at hc
          simp only [Option.map_some, Option.some.injEq] at hc
          subst hc
          exact ⟨by omega, e, rfl⟩
      · cases h

/-- What a call leaves that returns a list of its own. -/
def OwnP15 (xs : List Int) (w : World) (e : Ending) (w' : World) : Prop := ∃ v, e = .returned v ∧ w'.ownsRow w.heap.size 3 1 v xs.length (ints xs) ∧ Below w.heap.size w w'

set_option maxRecDepth 100000 in
set_option maxHeartbeats 400000 in
theorem held15_nil (w : World) :
    Calls Tryd.prog 80 #[.pointer none] w fun e w' => e = .returned (.slice none 0 0) ∧ w = w' := by
  go_enter Tryd.func80, Tryd.ntmps80
  go_wp2
  go_ret
  exact ⟨rfl, rfl⟩

set_option maxRecDepth 100000 in
set_option maxHeartbeats 2000000 in
theorem held15_any (g : Nat) (l : List (Int × Bool)) (w : World) (r : GrAt w g l) :
    Calls Tryd.prog 80 #[ptr g] w (OwnP15 (onL15 l l.length) w) := by
  obtain ⟨i0, hi0, hz0, hz1, hz2⟩ := info_parts int_info
  have hc : w.cell? ⟨g, 0, none⟩ = some (.int .i64 l.length) := r.row.cell 0
  have hgl := r.row.lt
  have h64 := r.n64
  have HR := Lib.hid r
  obtain ⟨n, hn⟩ : ∃ n, l.length = n := ⟨_, rfl⟩
  rw [hn] at hc h64 ⊢
  have HN := Lib.hid hn
  clear r hn
  unfold ptr
  go_enter Tryd.func80, Tryd.ntmps80
  go_wp2
  go_loopw [3, 11] (fun v i wr => ∃ k : Nat, k ≤ n ∧ i = .int .i64 k ∧ Hid (wr.ownsRow w.heap.size 3 1 v (onL15 l k).length (ints (onL15 l k))) ∧ Hid (Below w.heap.size w wr)) (fun _ i _ => n - (intOf i).toNat)
  case atStart => exact ⟨0, Nat.zero_le _, rfl, Lib.hid (World.ownsRow_nil _ _ _ _), Lib.hid (Below.refl _ _)⟩
  case round =>
    obtain ⟨k, hk, rfl, HO, HB⟩ := hrel
    by_cases hlt : k < n
    · obtain ⟨⟨e, b⟩, hx⟩ : ∃ x, l[k]? = some x := ⟨_, List.getElem?_eq_getElem (by rw [HN.out]; exact hlt)⟩
      have hxc : wr.cell? ⟨g, 65 + k, none⟩ = some (.bool b) := (HB.out.cell (p := ⟨g, 65 + k, none⟩) hgl).trans ((HR.out.row.cell (65 + k)).trans (cells15_h HR.out.n64 hx))
      have hkl := onL15_len l k
      have hk64 : k < 64 := by omega
      have HX := Lib.hid hx
      clear hx
      cases b with
      | true =>
        go_wp2_with (at_builtin; go_must ((refine wpList_append_own _ rfl (.tmp 20) (.tmp 22) 33 rfl w.heap.size 3 i0 _ 1 8 Tryd.underlying33 hi0 hz0 hz1 hz2 rfl (by omega) _ _ _ rfl (HO.out.alloc _) ⟨_, 0, none⟩ 1 1 [.int .i64 (k : Int)] rfl rfl (cell_one_new _ _ _) (by intro u hu; simp at hu; subst hu; rfl) (by unfold maxLen; omega) (by omega) (by simp; have := HB.out.size; omega) ?_); intro v1 w1 hown1 hg1 _; have HO1 := Lib.hid hown1; have HB1 := Lib.hid ((HB.out.alloc HB.out.size _).grown hg1 (by simp; have := HB.out.size; omega) (fun q hq => (HO.out.lt q hq).1)); clear hown1 hg1))
        go_roundw
        case rel =>
          refine ⟨k + 1, by omega, by go_num, Lib.hid ?_, HB1⟩
          have := HO1.out
          rw [onL15_more HX.out, List.length_append, ints_append]
          exact this
        case measure => simp [intOf]; omega
      | false =>
        go_wp2
        go_roundw
        case rel => exact ⟨k + 1, by omega, by go_num, by rw [onL15_skip HX.out]; exact HO, HB⟩
        case measure => simp [intOf]; omega
    · obtain rfl : k = n := by omega
      go_wp2
      go_ret
      exact ⟨_, rfl, HO.out, HB.out⟩

theorem table15_struct : isStruct Tryd.prog 142 = true := by kernel_rfl
theorem table15_size : (Tryd.prog.info? 142).map (·.size) = some 129 := by kernel_rfl
theorem cells15_one (l : List (Int × Bool)) : ∀ v ∈ cells15 l, v.oneCell' = true := by
  intro v hv
  simp only [cells15, gv15, hv15, List.mem_cons, List.mem_append, List.mem_map] at hv
  rcases hv with rfl | ⟨x, _, rfl⟩ | ⟨x, _, rfl⟩ <;> rfl

theorem clearL15_len (l : List (Int × Bool)) : (clearL15 l).length = l.length := by simp [clearL15]
theorem clearL15_pad (l : List (Int × Bool)) : pad15 (clearL15 l) = clearL15 (pad15 l) := by
  simp [pad15, clearL15]
theorem clearL15_wd {l : List (Int × Bool)} (h : Wd15 l) : Wd15 (clearL15 l) := by
  intro k e b hk
  unfold clearL15 at hk
  rw [List.getElem?_map] at hk
  cases hx : l[k]? with
  | none => rw [hx] at hk; cases hk
  | some x =>
    rw [hx] at hk
    simp only [Option.map_some, Option.some.injEq, Prod.mk.injEq] at hk
    have := h k x.1 x.2 hx
    rw [← hk.1]
    exact this

theorem hv15_clear : ∀ l : List (Int × Bool), hv15 (clearL15 l) = List.replicate l.length (Value.bool false)
  | [] => rfl
  | x :: l => by
    have := hv15_clear l
    simp only [hv15, clearL15, List.map_cons, List.length_cons, List.replicate_succ] at this ⊢
    rw [this]

/-- All held flags are cleared. -/
theorem GrAt.wipe {w : World} {g : Nat} {l : List (Int × Bool)} (r : GrAt w g l) : GrAt (w.setCells g 65 (List.replicate 64 (.bool false))) g (clearL15 l) := by
  refine ⟨?_, by rw [clearL15_len]; exact r.n0, by rw [clearL15_len]; exact r.n64, clearL15_wd r.gen⟩
  have h := Row.puts15 (List.replicate 64 (.bool false)) 65 r.row
  have hp := pad15_len r.n64
  have e1 : cells15 l = (.int .i64 l.length :: gv15 (pad15 l)) ++ hv15 (pad15 l) := rfl
  have e2 : (Value.int .i64 l.length :: gv15 (pad15 l)).length = 65 := by simp [gv15, hp]
  have e3 := putL15_is (List.replicate 64 (.bool false)) (.int .i64 l.length :: gv15 (pad15 l)) (hv15 (pad15 l)) (by simp [hv15, hp])
  rw [e2, ← e1] at e3
  rw [e3] at h
  have e4 : cells15 (clearL15 l) = (.int .i64 l.length :: gv15 (pad15 l)) ++ List.replicate 64 (.bool false) := by
    unfold cells15
    rw [clearL15_pad, clearL15_len]
    have g1 : gv15 (clearL15 (pad15 l)) = gv15 (pad15 l) := by simp [gv15, clearL15]
    have g2 : hv15 (clearL15 (pad15 l)) = List.replicate 64 (.bool false) := by
      rw [← hp]
      exact hv15_clear _
    rw [g1, g2]
    rfl
  rw [e4]
  exact h

theorem flags15_zero : (Tryd.prog.info? 140).map (·.zero) = some (some (.agg (List.replicate 64 (Value.bool false)).toArray)) := by kernel_rfl
theorem flags15_zeroV (W : World) : (zeroValue 140).run Tryd.prog W = .ok (.agg (List.replicate 64 (Value.bool false)).toArray) W := by
  obtain ⟨i, hi, hiz⟩ := Option.map_eq_some_iff.1 flags15_zero
  simp [zeroValue, typeInfo, hi, hiz]
theorem flags15_size : (Tryd.prog.info? 140).map (·.size) = some 64 := by kernel_rfl

set_option maxRecDepth 100000 in
set_option maxHeartbeats 400000 in
theorem clear15_nil (w : World) :
    Calls Tryd.prog 110 #[.pointer none] w fun e w' => e = .returned (.int .i64 0) ∧ w = w' := by
  go_enter Tryd.func110, Tryd.ntmps110
  go_wp2
  go_ret
  exact ⟨rfl, rfl⟩

theorem own15_is {w : World} {base : Nat} {e : TypeId} {size : Nat} {v : Value} {k : Nat} {xs : List Value} (h : w.ownsRow base e size v k xs) : ∃ A c, v = .slice A k c := by
  obtain ⟨hl, h2⟩ := h
  rcases h2 with ⟨rfl, h0⟩ | ⟨g, cap, cur, rfl, _⟩
  · exact ⟨none, 0, by rw [h0]⟩
  · exact ⟨_, cap, rfl⟩

set_option maxRecDepth 100000 in
set_option maxHeartbeats 2000000 in
theorem clear15_any (g : Nat) (l : List (Int × Bool)) (w : World) (r : GrAt w g l) :
    Calls Tryd.prog 110 #[ptr g] w (GrP g (clearL15 l) (.int .i64 (onL15 l l.length).length) w) := by
  have k1 := Lib.hid (held15_any g l w r)
  have R := Lib.hid r
  have zv := flags15_zeroV
  obtain ⟨zs, hzs⟩ : ∃ zs, List.replicate 64 (Value.bool false) = zs := ⟨_, rfl⟩
  rw [hzs] at zv
  have HZ := Lib.hid hzs
  clear r hzs
  unfold ptr at k1 ⊢
  go_enter Tryd.func110, Tryd.ntmps110
  go_wp2_with fail
  refine k1.out.mono ?_
  rintro e w1 ⟨v1, rfl, own1, hb1⟩
  obtain ⟨A1, c1, rfl⟩ := own15_is own1
  have R1 := Lib.hid (R.out.below hb1)
  have HB1 := Lib.hid hb1
  have TH : Hid (w1.there g 65 zs.toArray.size) := Lib.hid (fun j hj => by
    have hj' : j < 64 := by rw [← HZ.out] at hj; simpa using hj
    refine ⟨?_, R1.out.row.soft _⟩
    rw [R1.out.row.cell, List.getElem?_eq_getElem (by rw [cells15_len R1.out.n64]; omega)]
    rfl)
  have SZ : Hid ((Tryd.prog.info? 140).map (·.size) = some zs.toArray.size) := Lib.hid (by rw [← HZ.out]; exact flags15_size)
  have ON : Hid (zs.toArray.all (·.oneCell') = true) := Lib.hid (all_oneCell_toArray (fun v hv => by rw [← HZ.out] at hv; rw [List.eq_of_mem_replicate hv]; rfl))
  clear own1 hb1
  go_wp2_with (with_reducible refine wpList_store_mid rfl 140 (.tmp 12) (.tmp 10) rfl g 65 zs.toArray rfl rfl TH.out SZ.out ON.out ?_)
  go_ret
  have h := R1.out.wipe
  rw [HZ.out] at h
  exact ⟨rfl, h, (Only.of_below HB1.out _).trans (Only.puts15 _ _ (Only.refl _ _))⟩

#print axioms held15_any
#print axioms clear15_any
end Go.Proofs.YtgdbaaoifnedbaaDoor
