/-
  Comparisons of records of two; the law's Pair and Pairs, the reference's Cells and SameCells.
  Conditions: those that each theorem states.
-/
import Derived.Test.YtgoogclcpnfmkaaSbuf4
import Derived.Laws.StructEq
namespace Go.Proofs.Ytgoogclcpnfmkaa
open Go.ChangeShapes Go.WideShapes Go.ChangeAt Go.RowKit

set_option maxRecDepth 100000 in
theorem eql_st (a b c d : Int) (W : World) : (binOp .eql 62 (.agg #[.int .i64 a, .int .i64 b]) (.agg #[.int .i64 c, .int .i64 d])).run Try.prog W = .ok (.bool (a == c && b == d)) W := by
  have u3 := Try.underlying3
  have a3 := Try.isAgg3
  have z3 := Try.sizeOf3
  have hS : Try.prog.underlying 62 = some (.struct (Try.prog.fieldsOf 62)) := by kernel_rfl
  have hp : Try.prog.stoodInHeld 62 = false := by kernel_rfl
  rw [run_eql_struct, show (10000 : Nat) = 9999 + 1 from rfl, run_equalIn_agg W 9999 62 _ _ hS hp]
  simp only [Program.fieldsOf, Try.underlying62]
  go_simp
  by_cases h1 : a = c <;> by_cases h2 : b = d <;> simp [h1, h2]

set_option maxRecDepth 100000 in
theorem neq_st (a b c d : Int) (W : World) : (binOp .neq 62 (.agg #[.int .i64 a, .int .i64 b]) (.agg #[.int .i64 c, .int .i64 d])).run Try.prog W = .ok (.bool (!(a == c && b == d))) W := by
  have h := eql_st a b c d W
  rw [run_eql_struct] at h
  rw [run_neq_struct]
  cases hr : (Op.equalIn 10000 62 (.agg #[.int .i64 a, .int .i64 b]) (.agg #[.int .i64 c, .int .i64 d])).run Try.prog W with
  | ok r w' =>
    rw [hr] at h
    simp only [Result.andThen_ok] at h ⊢
    injection h with h1 h2
    injection h1 with h1
    rw [h1, h2]
  | halt x w' =>
    rw [hr] at h
    simp [Result.andThen] at h

set_option maxRecDepth 100000 in
theorem equalIn_fl1 (d X : Nat) (hx : (FloatKind.f64.format.order X X == some .eq) = true) (W : World) : (Op.equalIn (d + 1) 109 (.float .f64 X) (.float .f64 X)).run Try.prog W = .ok true W := by
  rw [Op.equalIn]
  simpa [run_underlying Try.underlying109, Op.floatEq] using hx

set_option maxRecDepth 100000 in
theorem equalIn_fl2 (d X Y : Nat) (hx : (FloatKind.f64.format.order X X == some .eq) = true) (hy : (FloatKind.f64.format.order Y Y == some .eq) = true) (W : World) :
    (Op.equalIn (d + 1 + 1) 111 (.agg #[.float .f64 X, .float .f64 Y]) (.agg #[.float .f64 X, .float .f64 Y])).run Try.prog W = .ok true W := by
  have z3 := Try.sizeOf109
  have px : ∀ W, (part 109 #[.float .f64 X, .float .f64 Y] 0).run Try.prog W = .ok (.float .f64 X) W := fun W => by
    simp [part, isAgg, run_underlying Try.underlying109]
  have py : ∀ W, (part 109 #[.float .f64 X, .float .f64 Y] 1).run Try.prog W = .ok (.float .f64 Y) W := fun W => by
    simp [part, isAgg, run_underlying Try.underlying109]
  rw [Op.equalIn]
  simp only [Sem.run_bind, run_underlying Try.underlying111, Result.andThen_ok, z3, Std.Legacy.Range.forIn_eq_forIn_range', Std.Legacy.Range.size, Nat.sub_zero, Nat.add_sub_cancel, Nat.div_one, List.range', List.forIn_cons, List.forIn_nil, Nat.zero_mul, Nat.mul_one, Nat.zero_add, px, equalIn_fl1 _ _ hx]
  simp [py, equalIn_fl1 _ _ hy]

set_option maxRecDepth 100000 in
theorem neq_fl (X Y : Nat) (hx : (FloatKind.f64.format.order X X == some .eq) = true) (hy : (FloatKind.f64.format.order Y Y == some .eq) = true) (W : World) :
    (binOp .neq 111 (.agg #[.float .f64 X, .float .f64 Y]) (.agg #[.float .f64 X, .float .f64 Y])).run Try.prog W = .ok (.bool false) W := by
  rw [run_neq_struct, show (10000 : Nat) = 9998 + 1 + 1 from rfl, equalIn_fl2 _ _ _ hx hy]
  rfl

attribute [local go_sem] put_float

set_option maxRecDepth 100000 in
set_option maxHeartbeats 400000 in
theorem pair_any (X Y : Nat) (w : World) :
    Calls Try.prog 65 #[.complex .f64 X Y] w fun e w' => e = .returned (.agg #[.float .f64 X, .float .f64 Y]) ∧ Below w.heap.size w w' := by
  go_enter Try.func65, Try.ntmps65
  go_wp2
  exact bodyPost_ret (v := .agg #[.float .f64 X, .float .f64 Y]) (by simp [results, Try.results65, go_sem]) rfl ⟨rfl, by go_grown⟩

theorem c2_info : (Try.prog.info? 111).map (fun i => (i.zero, i.size, i.bytes)) = some (some (.agg #[.float .f64 0, .float .f64 0]), 2, 16) := by kernel_rfl

theorem fls_snoc {q : List (Int × Int)} {k : Nat} {p : Int × Int} (h : q[k]? = some p) : flat (fls (q.take k)) ++ flat [(.float .f64 (floatOfInt .f64 p.1), .float .f64 (floatOfInt .f64 p.2))] = flat (fls (q.take (k + 1))) := by
  rw [List.take_add_one, h, ← flat_append]
  congr 1
  simp [fls]

theorem fl_one (X Y : Nat) : ∀ u ∈ flat [(Value.float .f64 X, Value.float .f64 Y)], u.oneCell' = true := by
  intro u hu
  simp only [flat, List.mem_cons, List.not_mem_nil, or_false] at hu
  rcases hu with rfl | rfl <;> rfl

/-- What a call leaves that answers a new list of records of floats, seen from an earlier world. -/
def NewF (q : List (Int × Int)) (w : World) (e : Ending) (w' : World) : Prop :=
  ∃ v, e = .returned v ∧ Hid (Two w' (fun _ => True) v (fls q)) ∧ Below w.heap.size w w'

set_option maxRecDepth 100000 in
set_option maxHeartbeats 1000000 in
theorem pairs_any (P : Nat → Prop) (v : Value) (q : List (Int × Int)) (w : World) (hv : Lies w P v (cvs q)) (hq : q.length ≤ 65536) :
    Calls Try.prog 27 #[v] w (NewF q w) := by
  obtain ⟨i0, hi0, hz0, hz1, hz2⟩ := info_parts c2_info
  have HV := Lib.hid hv
  obtain ⟨A, c, rfl, hA⟩ := hv
  clear hA
  rw [cvs_len] at HV ⊢
  obtain ⟨n, hn⟩ : ∃ n, q.length = n := ⟨_, rfl⟩
  rw [hn] at HV hq ⊢
  have HN := Lib.hid hn; clear hn
  go_enter Try.func27, Try.ntmps27
  go_wp2
  go_loopw [3, 8] (fun o i wr => ∃ k : Nat, k ≤ n ∧ i = .int .i64 k ∧ Hid (wr.ownsRow w.heap.size 111 2 o k (flat (fls (q.take k)))) ∧ Hid (Below w.heap.size w wr)) (fun _ i _ => n - (intOf i).toNat)
  case atStart => exact ⟨0, Nat.zero_le _, rfl, Lib.hid (World.ownsRow_nil _ _ _ _), Lib.hid (Below.refl _ _)⟩
  case round =>
    obtain ⟨k, hk, rfl, ho, hb⟩ := hrel
    by_cases hlt : k < n
    · obtain ⟨p, hp⟩ : ∃ p, q[k]? = some p := ⟨_, List.getElem?_eq_getElem (by rw [HN.out]; exact hlt)⟩
      obtain ⟨A', c', hv', hA⟩ := HV.out.below hb.out
      injection hv' with e1 e2 e3
      subst e1
      obtain ⟨g, o, rfl, hP, hg, hc⟩ := hA (by rw [cvs_len, HN.out]; omega)
      have hcell := hc k _ (cvs_at hp)
      unfold cellV at hcell
      have hsn := fls_snoc hp
      obtain ⟨X, hX⟩ : ∃ X, X = floatOfInt .f64 p.1 := ⟨_, rfl⟩
      obtain ⟨Y, hY⟩ : ∃ Y, Y = floatOfInt .f64 p.2 := ⟨_, rfl⟩
      rw [← hX, ← hY] at hcell hsn
      have HS := Lib.hid hsn
      clear hp hc hA e2 e3 hsn hX hY
      go_wp2_with fail
      refine (pair_any _ _ _).mono ?_
      rintro e w1 ⟨rfl, hb1⟩
      have own1 := own_only ho.out (Only.of_below hb1 (fun _ => False)) (fun _ _ h => h)
      have hbw := below_on hb.out hb1
      have hsz := hbw.size
      clear ho hb hcell hb1
      go_wp2_with (at_builtin
                   refine app2_walk _ rfl (.tmp 12) (.tmp 15) 64 rfl w.heap.size 111 i0 _ 16 Try.underlying64 hi0 hz0 hz1 hz2 rfl u3 k (flat (fls (q.take k))) rfl (own1.alloc _) (· = w1.heap.size) (some ⟨w1.heap.size, 0, none⟩) 1 1 [(.float .f64 X, .float .f64 Y)] rfl (Two.one _ _ _ _ _) (Nat.le_refl _) (fl_one _ _) (by unfold maxLen; omega) (by omega) (by simp; omega) ?_
                   intro v3 w3 hown3 hg3 hat3
                   rw [HS.out] at hown3
                   have hb3 : Below w.heap.size w w3 := (hbw.alloc hbw.size _).grown hg3 (by simp; omega) (fun j hj => (own1.lt j hj).1)
                   have HO := Lib.hid hown3
                   have HB := Lib.hid hb3
                   clear hown3 hg3 hat3 hb3 hbw own1)
      go_roundw
      case rel => exact ⟨k + 1, by omega, by go_num, HO, HB⟩
      case measure => simp [intOf]; omega
    · obtain rfl : k = n := by omega
      go_wp2
      go_ret
      have ho' := ho.out
      rw [← HN.out, List.take_length] at ho'
      exact ⟨_, rfl, Lib.hid ((Two.of_own ho').weak (fun _ _ _ => trivial)), hb.out⟩

theorem new_row {wr w1 : World} {a b : Value} {t : TypeId} (h : Below (wr.alloc (.cells #[a, b] t)).drew.heap.size (wr.alloc (.cells #[a, b] t)).drew w1) : Row w1 wr.heap.size t [a, b] :=
  (show Row (wr.alloc (.cells #[a, b] t)).drew wr.heap.size t [a, b] from Row.new wr t #[a, b]).below h

/-- A new record of two, behind a call. -/
theorem new_pair {wr w1 : World} {a b : Value} {t : TypeId} (h : Below (wr.alloc (.cells #[a, b] t)).drew.heap.size (wr.alloc (.cells #[a, b] t)).drew w1) :
    w1.cell? ⟨wr.heap.size, 0, none⟩ = some a ∧ w1.cell? ⟨wr.heap.size, 1, none⟩ = some b ∧ w1.frozen? ⟨wr.heap.size, 0, none⟩ = false ∧ w1.frozen? ⟨wr.heap.size, 1, none⟩ = false := by
  have r : Row w1 wr.heap.size t [a, b] := (show Row (wr.alloc (.cells #[a, b] t)).drew wr.heap.size t [a, b] from Row.new wr t #[a, b]).below h
  exact ⟨r.cell 0, r.cell 1, r.soft 0, r.soft 1⟩

/-- Two cells that were there are there still. -/
theorem keep2 {wr w' : World} {a b : Addr} {x y : Value} (ha : wr.cell? a = some x) (hb : wr.cell? b = some y) (hl : a.block < wr.heap.size) (h : Below wr.heap.size wr w') (hab : a.block = b.block := by rfl) : w'.cell? a = some x ∧ w'.cell? b = some y ∧ Below wr.heap.size wr w' :=
  ⟨(h.cell (p := a) hl).trans ha, (h.cell (p := b) (by rw [← hab]; exact hl)).trans hb, h⟩

set_option maxRecDepth 100000 in
set_option maxHeartbeats 1000000 in
theorem rcells_any (P : Nat → Prop) (v : Value) (q : List (Int × Int)) (w : World) (hv : Two w P v (sts q)) (hgd : Good q) (hq : q.length ≤ 65536) :
    Calls Try.prog 28 #[v] w (NewF q w) := by
  obtain ⟨i0, hi0, hz0, hz1, hz2⟩ := info_parts c2_info
  have HV := Lib.hid hv
  obtain ⟨A, c, rfl, hA⟩ := hv
  clear hA
  rw [sts_len] at HV ⊢
  obtain ⟨n, hn⟩ : ∃ n, q.length = n := ⟨_, rfl⟩
  rw [hn] at HV hq ⊢
  have HN := Lib.hid hn; clear hn
  have HG := Lib.hid hgd; clear hgd
  go_enter Try.func28, Try.ntmps28
  go_wp2
  go_loopw [3, 4] (fun o i wr => ∃ k : Nat, k ≤ n ∧ i = .int .i64 k ∧ Hid (wr.ownsRow w.heap.size 111 2 o k (flat (fls (q.take k)))) ∧ Hid (Below w.heap.size w wr)) (fun _ i _ => n - (intOf i).toNat)
  case atStart => exact ⟨0, Nat.zero_le _, rfl, Lib.hid (World.ownsRow_nil _ _ _ _), Lib.hid (Below.refl _ _)⟩
  case round =>
    obtain ⟨k, hk, rfl, ho, hb⟩ := hrel
    by_cases hlt : k < n
    · obtain ⟨p, hp⟩ : ∃ p, q[k]? = some p := ⟨_, List.getElem?_eq_getElem (by rw [HN.out]; exact hlt)⟩
      obtain ⟨g, o, rfl, hP, hg, hc1, hc2⟩ := (HV.out.below hb.out).cells (sts_at hp)
      obtain ⟨b1, b2, b3, b4⟩ := HG.out.at hp
      have hsn := fls_snoc hp
      have of := Lib.hid (fun W => rof_yes p.1 p.2 W b1 b2 b3 b4)
      obtain ⟨X, hX⟩ : ∃ X, X = floatOfInt .f64 p.1 := ⟨_, rfl⟩
      obtain ⟨Y, hY⟩ : ∃ Y, Y = floatOfInt .f64 p.2 := ⟨_, rfl⟩
      rw [← hX, ← hY] at hsn of
      have HS := Lib.hid hsn
      have hbr : Below wr.heap.size wr wr := Below.refl _ _
      simp only at hc1 hc2
      clear hp hsn hX hY b1 b2 b3 b4
      go_wp2
      go_region_held3 (fun w' => w'.cell? ⟨g, o + k * 2, none⟩ = some (.int .i64 p.1) ∧ w'.cell? ⟨g, o + k * 2 + 1, none⟩ = some (.int .i64 p.2) ∧ Below wr.heap.size wr w')
        (first
          | exact keep2 hc1 hc2 hg hb1
          | exact keep2 hc1 hc2 hg (hb1.alloc hb1.size _)
          | exact keep2 hc1 hc2 hg ((hb1.setCell (p := ⟨wr.heap.size, 0, none⟩) (Nat.le_refl _) _).setCell (p := ⟨wr.heap.size, 1, none⟩) (Nat.le_refl _) _)
          | exact keep2 hc1 hc2 hg hbr
          | exact keep2 hc1 hc2 hg hbr.drew
          | exact keep2 hc1 hc2 hg (hbr.alloc (Nat.le_refl _) _)
          | exact keep2 hc1 hc2 hg (hbr.alloc (Nat.le_refl _) _).drew
          | exact keep2 hc1 hc2 hg (hbr.drew.alloc (Nat.le_refl _) _)
          | go_keep)
        (first
          | (go_at_call 66; refine (of.out _).mono ?_; rintro e w1 ⟨rfl, hb1'⟩; obtain ⟨f0, f1, f2, f3⟩ := new_pair hb1'; have hb1 : Below wr.heap.size wr w1 := (below_on (by go_split_ands; assumption) hb1'))
          | (go_at_call 66; refine (of.out _).mono ?_; rintro e w1 ⟨rfl, hb1'⟩; have hb1 : Below wr.heap.size wr w1 := (below_on (by go_split_ands; assumption) hb1')))
      rotate_left
      · have R2 : Row ((w1.setCell ⟨wr.heap.size, 0, none⟩ (.float .f64 X)).setCell ⟨wr.heap.size, 1, none⟩ (.float .f64 Y)) wr.heap.size 111 [.float .f64 X, .float .f64 Y] := ((new_row hb1').put 0 _).put 1 _
        have B2 : Below wr.heap.size wr ((w1.setCell ⟨wr.heap.size, 0, none⟩ (.float .f64 X)).setCell ⟨wr.heap.size, 1, none⟩ (.float .f64 Y)) := (hb1.setCell (p := ⟨wr.heap.size, 0, none⟩) (Nat.le_refl _) _).setCell (p := ⟨wr.heap.size, 1, none⟩) (Nat.le_refl _) _
        clear f0 f1 f2 f3 hb1' hb1
        generalize ((w1.setCell ⟨wr.heap.size, 0, none⟩ (.float .f64 X)).setCell ⟨wr.heap.size, 1, none⟩ (.float .f64 Y)) = w2 at R2 B2 ⊢
        have d0 := R2.cell 0
        have d1 := R2.cell 1
        simp only [List.getElem?_cons_zero, List.getElem?_cons_succ] at d0 d1
        have own1 := own_only ho.out (Only.of_below B2 (fun _ => False)) (fun _ _ h => h)
        have hbw := below_on hb.out B2
        have hsz := hbw.size
        clear ho hb hc1 hc2 R2 B2 of
        go_wp2_with (at_builtin
                     refine app2_walk _ rfl (.tmp 27) (.tmp 29) 64 rfl w.heap.size 111 i0 _ 16 Try.underlying64 hi0 hz0 hz1 hz2 rfl u3 k (flat (fls (q.take k))) rfl (own1.alloc _) (· = w2.heap.size) (some ⟨w2.heap.size, 0, none⟩) 1 1 [(.float .f64 X, .float .f64 Y)] rfl (Two.one _ _ _ _ _) (Nat.le_refl _) (fl_one _ _) (by unfold maxLen; omega) (by omega) (by simp; omega) ?_
                     intro v3 w3 hown3 hg3 hat3
                     rw [HS.out] at hown3
                     have hb3 : Below w.heap.size w w3 := (hbw.alloc hbw.size _).grown hg3 (by simp; omega) (fun j hj => (own1.lt j hj).1)
                     have HO := Lib.hid hown3
                     have HB := Lib.hid hb3
                     clear hown3 hg3 hat3 hb3 hbw own1)
        go_roundw
        case rel => exact ⟨k + 1, by omega, by go_num, HO, HB⟩
        case measure => simp [intOf]; omega
      · have R2 := Row.new w1 111 #[.float .f64 X, .float .f64 Y]
        have B2 : Below wr.heap.size wr (w1.alloc (.cells #[.float .f64 X, .float .f64 Y] 111)) := hb1.alloc hb1.size _
        simp only at R2
        clear hb1' hb1
        generalize (w1.alloc (.cells #[.float .f64 X, .float .f64 Y] 111)) = w2 at R2 B2 ⊢
        generalize w1.heap.size = B0 at R2 ⊢
        have d0 := R2.cell 0
        have d1 := R2.cell 1
        simp only [List.getElem?_cons_zero, List.getElem?_cons_succ] at d0 d1
        have own1 := own_only ho.out (Only.of_below B2 (fun _ => False)) (fun _ _ h => h)
        have hbw := below_on hb.out B2
        have hsz := hbw.size
        clear ho hb hc1 hc2 R2 B2 of
        go_wp2_with (at_builtin
                     refine app2_walk _ rfl (.tmp 27) (.tmp 29) 64 rfl w.heap.size 111 i0 _ 16 Try.underlying64 hi0 hz0 hz1 hz2 rfl u3 k (flat (fls (q.take k))) rfl (own1.alloc _) (· = w2.heap.size) (some ⟨w2.heap.size, 0, none⟩) 1 1 [(.float .f64 X, .float .f64 Y)] rfl (Two.one _ _ _ _ _) (Nat.le_refl _) (fl_one _ _) (by unfold maxLen; omega) (by omega) (by simp; omega) ?_
                     intro v3 w3 hown3 hg3 hat3
                     rw [HS.out] at hown3
                     have hb3 : Below w.heap.size w w3 := (hbw.alloc hbw.size _).grown hg3 (by simp; omega) (fun j hj => (own1.lt j hj).1)
                     have HO := Lib.hid hown3
                     have HB := Lib.hid hb3
                     clear hown3 hg3 hat3 hb3 hbw own1)
        go_roundw
        case rel => exact ⟨k + 1, by omega, by go_num, HO, HB⟩
        case measure => simp [intOf]; omega
    · obtain rfl : k = n := by omega
      go_wp2
      go_ret
      have ho' := ho.out
      rw [← HN.out, List.take_length] at ho'
      exact ⟨_, rfl, Lib.hid ((Two.of_own ho').weak (fun _ _ _ => trivial)), hb.out⟩

set_option maxRecDepth 100000 in
set_option maxHeartbeats 1000000 in
theorem rsameCells_yes (P Q : Nat → Prop) (v u : Value) (q : List (Int × Int)) (w : World) (hv : Two w P v (fls q)) (hu : Two w Q u (fls q)) (hgd : Good q) (hq : q.length ≤ 65536) :
    Calls Try.prog 26 #[v, u] w fun e w' => e = .returned (.bool true) ∧ Below w.heap.size w w' := by
  have HV := Lib.hid hv
  have HU := Lib.hid hu
  obtain ⟨A, c, rfl, hA⟩ := hv
  obtain ⟨B, d, rfl, hB⟩ := hu
  clear hA hB
  rw [fls_len] at HV HU ⊢
  obtain ⟨n, hn⟩ : ∃ n, q.length = n := ⟨_, rfl⟩
  rw [hn] at HV HU hq ⊢
  have HN := Lib.hid hn; clear hn
  have HG := Lib.hid hgd; clear hgd
  have hne : ((n : Int) != (n : Int)) = false := by simp
  go_enter Try.func26, Try.ntmps26
  go_wp2
  go_loopw [5] (fun i wr => ∃ k : Nat, k ≤ n ∧ i = .int .i64 k ∧ Hid (∃ q, wr = w.drewN q)) (fun i _ => n - (intOf i).toNat)
  case atStart => exact ⟨0, Nat.zero_le _, rfl, Lib.hid ⟨0, rfl⟩⟩
  case round =>
    obtain ⟨k, hk, rfl, hm⟩ := hrel
    obtain ⟨m, rfl⟩ := hm.out
    by_cases hlt : k < n
    · obtain ⟨p, hp⟩ : ∃ p, q[k]? = some p := ⟨_, List.getElem?_eq_getElem (by rw [HN.out]; exact hlt)⟩
      obtain ⟨g, o, rfl, hP, hg, hc1, hc2⟩ := HV.out.cells (fls_at hp)
      obtain ⟨g', o', rfl, hQ, hg', hd1, hd2⟩ := HU.out.cells (fls_at hp)
      obtain ⟨b1, b2, b3, b4⟩ := HG.out.at hp
      have s1 := neq_fl _ _ (fl_self p.1 b1 b2) (fl_self p.2 b3 b4)
      obtain ⟨X, hX⟩ : ∃ X, X = floatOfInt .f64 p.1 := ⟨_, rfl⟩
      obtain ⟨Y, hY⟩ : ∃ Y, Y = floatOfInt .f64 p.2 := ⟨_, rfl⟩
      simp only at hc1 hc2 hd1 hd2
      rw [← hX] at hc1 hd1 s1
      rw [← hY] at hc2 hd2 s1
      clear hp b1 b2 b3 b4 hX hY
      go_wp2
      go_quiet (fail)
      go_wp2
      go_roundw
      case rel => exact ⟨k + 1, by omega, by go_num, Lib.hid ⟨_, rfl⟩⟩
      case measure => simp [intOf]; omega
    · obtain rfl : k = n := by omega
      go_wp2
      go_ret
      exact ⟨rfl, below_q _ _⟩

#print axioms pairs_any
#print axioms rcells_any
#print axioms rsameCells_yes
end Go.Proofs.Ytgoogclcpnfmkaa
