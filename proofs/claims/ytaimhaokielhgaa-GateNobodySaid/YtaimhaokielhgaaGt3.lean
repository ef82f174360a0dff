/-
  Layer 11 (gate): Down, Clone, Same.
  Conditions: those that each theorem states.
-/
import Derived.Test.YtaimhaokielhgaaGt2
import Derived.Test.YtaimhaokielhgaaEqual
import Derived.Test.YtaimhaokielhgaaREq
import Derived.Test.YtaimhaokielhgaaArgs
namespace Go.Proofs.Ytaimhaokielhgaa
open Go.ChangeShapes Go.WideShapes Go.ChangeAt Go.RowKit

/-- The held cores below k. -/
def downL (l : List (Int × Bool)) : Nat → List Int
  | 0 => []
  | k + 1 => downL l k ++ (if (l[k]?).map (·.2) = some true then [(k : Int)] else [])
theorem downL_len (l : List (Int × Bool)) : ∀ k, (downL l k).length ≤ k
  | 0 => Nat.le_refl _
  | k + 1 => by
    have := downL_len l k
    simp only [downL, List.length_append]
    split <;> simp <;> omega
theorem downL_more {l : List (Int × Bool)} {k : Nat} {e : Int} (h : l[k]? = some (e, true)) : downL l (k + 1) = downL l k ++ [(k : Int)] := by simp [downL, h]
theorem downL_skip {l : List (Int × Bool)} {k : Nat} {e : Int} (h : l[k]? = some (e, false)) : downL l (k + 1) = downL l k := by simp [downL, h]

/-- What a call leaves that returns a list of its own. -/
def DownP (xs : List Int) (w : World) (e : Ending) (w' : World) : Prop := ∃ v, e = .returned v ∧ w'.ownsRow w.heap.size 3 1 v xs.length (ints xs) ∧ Below w.heap.size w w'

set_option maxRecDepth 100000 in
set_option maxHeartbeats 400000 in
theorem down11_nil (w : World) :
    Calls Try.prog 12 #[.pointer none] w fun e w' => e = .returned (.slice none 0 0) ∧ w = w' := by
  go_enter Try.func12, Try.ntmps12
  go_wp2
  go_ret
  exact ⟨rfl, rfl⟩

set_option maxRecDepth 100000 in
set_option maxHeartbeats 2000000 in
theorem down11_any (g : Nat) (l : List (Int × Bool)) (w : World) (r : GateAt w g l) :
    Calls Try.prog 12 #[ptr g] w (DownP (downL l l.length) w) := by
  obtain ⟨i0, hi0, hz0, hz1, hz2⟩ := info_parts int_info
  have hc : w.cell? ⟨g, 0, none⟩ = some (.int .i64 l.length) := r.row.cell 0
  have hgl := r.row.lt
  have h8 := r.c8
  have HR := Lib.hid r
  obtain ⟨n, hn⟩ : ∃ n, l.length = n := ⟨_, rfl⟩
  rw [hn] at hc h8 ⊢
  have HN := Lib.hid hn
  clear r hn
  unfold ptr
  go_enter Try.func12, Try.ntmps12
  go_wp2
  go_loopw [3, 11] (fun v i wr => ∃ k : Nat, k ≤ n ∧ i = .int .i64 k ∧ Hid (wr.ownsRow w.heap.size 3 1 v (downL l k).length (ints (downL l k))) ∧ Hid (Below w.heap.size w wr)) (fun _ i _ => n - (intOf i).toNat)
  case atStart => exact ⟨0, Nat.zero_le _, rfl, Lib.hid (World.ownsRow_nil _ _ _ _), Lib.hid (Below.refl _ _)⟩
  case round =>
    obtain ⟨k, hk, rfl, HO, HB⟩ := hrel
    by_cases hlt : k < n
    · obtain ⟨⟨e, b⟩, hx⟩ : ∃ x, l[k]? = some x := ⟨_, List.getElem?_eq_getElem (by rw [HN.out]; exact hlt)⟩
      have hxc : wr.cell? ⟨g, 1 + k, none⟩ = some (.bool b) := (HB.out.cell (p := ⟨g, 1 + k, none⟩) hgl).trans ((HR.out.row.cell (1 + k)).trans (gcells_h HR.out.c8 hx))
      have hkl := downL_len l k
      have hk8 : k < 8 := by omega
      have HX := Lib.hid hx
      clear hx
      cases b with
      | true =>
        go_wp2_with (at_builtin; go_must ((refine wpList_append_own _ rfl (.tmp 20) (.tmp 22) 35 rfl w.heap.size 3 i0 _ 1 8 Try.underlying35 hi0 hz0 hz1 hz2 rfl (by omega) _ _ _ rfl (HO.out.alloc _) ⟨_, 0, none⟩ 1 1 [.int .i64 (k : Int)] rfl rfl (cell_one_new _ _ _) (by intro u hu; simp at hu; subst hu; rfl) (by unfold maxLen; omega) (by omega) (by simp; have := HB.out.size; omega) ?_); intro v1 w1 hown1 hg1 _; have HO1 := Lib.hid hown1; have HB1 := Lib.hid ((HB.out.alloc HB.out.size _).grown hg1 (by simp; have := HB.out.size; omega) (fun q hq => (HO.out.lt q hq).1)); clear hown1 hg1))
        go_roundw
        case rel =>
          refine ⟨k + 1, by omega, by go_num, Lib.hid ?_, HB1⟩
          have := HO1.out
          rw [downL_more HX.out, List.length_append, ints_append]
          exact this
        case measure => simp [intOf]; omega
      | false =>
        go_wp2
        go_roundw
        case rel => exact ⟨k + 1, by omega, by go_num, by rw [downL_skip HX.out]; exact HO, HB⟩
        case measure => simp [intOf]; omega
    · obtain rfl : k = n := by omega
      go_wp2
      go_ret
      exact ⟨_, rfl, HO.out, HB.out⟩

theorem gate_struct : isStruct Try.prog 59 = true := by kernel_rfl
theorem gate_size : (Try.prog.info? 59).map (·.size) = some 17 := by kernel_rfl
theorem gate_zero : (Try.prog.info? 59).map (·.zero) = some (some (.agg (gcells []).toArray)) := by kernel_rfl
theorem gcells_one (l : List (Int × Bool)) : ∀ v ∈ gcells l, v.oneCell' = true := by
  intro v hv
  simp only [gcells, gh, ge, List.mem_cons, List.mem_append, List.mem_map] at hv
  rcases hv with rfl | ⟨x, _, rfl⟩ | ⟨x, _, rfl⟩ <;> rfl

set_option maxRecDepth 100000 in
set_option maxHeartbeats 400000 in
theorem clone11_nil (w : World) :
    Calls Try.prog 19 #[.pointer none] w fun e w' => e = .returned (.pointer none) ∧ w = w' := by
  go_enter Try.func19, Try.ntmps19
  go_wp2
  go_ret
  exact ⟨rfl, rfl⟩

set_option maxRecDepth 100000 in
set_option maxHeartbeats 1000000 in
theorem clone11_any (g : Nat) (l : List (Int × Bool)) (w : World) (r : GateAt w g l) :
    Calls Try.prog 19 #[ptr g] w (MadeG l w) := by
  have R := Lib.hid r
  have hgl := r.row.lt
  have SZ : Hid ((Try.prog.info? 59).map (·.size) = some (gcells l).length) := Lib.hid (by rw [gcells_len r.c8]; exact gate_size)
  have ZL : Hid ((gcells []).length = (gcells l).length) := Lib.hid (by rw [gcells_len r.c8]; rfl)
  have ON := Lib.hid (gcells_one l)
  clear r
  unfold ptr
  go_enter Try.func19, Try.ntmps19
  go_wp2_with (first
    | (with_reducible refine loadRow_walk rfl 59 (.tmp 7) rfl g rfl (gcells l) gate_struct SZ.out 59 R.out.row ?_)
    | ((with_reducible refine alloc_walk (o := ⟨some 3, _, _, _, _, _⟩) rfl 59 rfl _ gate_zero ?_); intro y1 ry1 by1 zy1; clear zy1)
    | ((with_reducible refine storeRow_walk rfl 59 (.tmp 3) (.tmp 8) rfl w.heap.size rfl (gcells l) rfl SZ.out 59 (gcells []) ry1 ZL.out ON.out ?_); intro y2 ry2 oy2 zy2; have BY := Lib.hid (Only.below by1 oy2 by1.size (fun g hg => Nat.ne_of_lt hg)); have RY := Lib.hid ry2; clear zy2 oy2 ry1 by1 ry2))
  go_ret
  exact ⟨w.heap.size, rfl, ⟨RY.out, R.out.c0, R.out.c8⟩, Nat.le_refl _, BY.out⟩

set_option maxRecDepth 100000 in
set_option maxHeartbeats 400000 in
theorem same11_nil (w : World) :
    Calls Try.prog 20 #[.pointer none, .pointer none] w fun e w' => e = .returned (.bool true) ∧ w = w' := by
  go_enter Try.func20, Try.ntmps20
  go_wp2
  go_ret
  exact ⟨rfl, rfl⟩

set_option maxRecDepth 100000 in
set_option maxHeartbeats 400000 in
theorem same11_left (g : Nat) (w : World) :
    Calls Try.prog 20 #[.pointer none, .pointer (some ⟨g, 0, none⟩)] w fun e w' => e = .returned (.bool false) ∧ w = w' := by
  have hn := fun W => nil_left (P := Try.prog) 26 59 ⟨g, 0, none⟩ Try.underlying26 W
  go_enter Try.func20, Try.ntmps20
  go_wp2
  go_ret
  exact ⟨rfl, rfl⟩

set_option maxRecDepth 100000 in
set_option maxHeartbeats 400000 in
theorem same11_right (g : Nat) (w : World) :
    Calls Try.prog 20 #[.pointer (some ⟨g, 0, none⟩), .pointer none] w fun e w' => e = .returned (.bool false) ∧ w = w' := by
  go_enter Try.func20, Try.ntmps20
  go_wp2
  go_ret
  exact ⟨rfl, rfl⟩

#print axioms down11_any
#print axioms clone11_any
#print axioms same11_left
end Go.Proofs.Ytaimhaokielhgaa
