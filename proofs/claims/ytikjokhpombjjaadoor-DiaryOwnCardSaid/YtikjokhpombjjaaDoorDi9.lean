/-
  Layer 19 (diary): the program's Right.
  Conditions: those that each theorem states.
-/
import Derived.Test.YtikjokhpombjjaaDoorDi8
import Derived.Lib.MinMax
import Derived.Test.YtikjokhpombjjaaDoorDrv
namespace Go.Proofs.YtikjokhpombjjaaDoor
open Go.ChangeShapes Go.WideShapes Go.ChangeAt Go.RowKit

/-- What the program's loop answers: L holds the last time of each core. -/
def scan19 : List Int → List En → Bool
  | _, [] => true
  | L, x :: r => ok19 x && decide (L.getD x.core.toNat 0 < x.beg) && scan19 (L.set x.core.toNat (max x.beg x.fin)) r

theorem ok19_core {x : En} (h : ok19 x = true) : ∃ q : Nat, x.core = (q : Int) ∧ q < 8 := by
  simp only [ok19, Bool.and_eq_true, decide_eq_true_eq] at h
  obtain ⟨⟨⟨⟨⟨⟨h0, _⟩, _⟩, _⟩, _⟩, _⟩, _⟩ := h
  exact ⟨x.core.toNat, by omega, by omega⟩

theorem entry9_struct : isStruct Tryd.prog 38 = true := by kernel_rfl
theorem entry9_size (x : En) (u : Value) : (Tryd.prog.info? 38).map (·.size) = some (row19 x u).length := by kernel_rfl

theorem drop_at {l : List En} {k : Nat} {x : En} (h : l[k]? = some x) : l.drop k = x :: l.drop (k + 1) := by
  obtain ⟨hlt, he⟩ := List.getElem?_eq_some_iff.1 h
  rw [List.drop_eq_getElem_cons hlt, he]

set_option maxRecDepth 100000 in
set_option maxHeartbeats 4000000 in
theorem Right19_any (v : Value) (l : List En) (w : World) (hv : Ens w v l) (hm : l.length ≤ 1000) (hload : ∀ x ∈ l, x.load.length ≤ 65536) :
    Calls Tryd.prog 12 #[v] w fun e w' => e = .returned (.bool (scan19 (List.replicate 8 0) l)) ∧ Below w.heap.size w w' := by
  obtain ⟨A, n, c, rfl, HN, HV⟩ := hv.open_
  rw [HN.out] at hm
  have HL := Lib.hid hload
  have BA := Lib.hid (below_al w (.cells (ints (List.replicate 8 0)).toArray 48))
  have RA := Lib.hid (Row.new w 48 (ints (List.replicate 8 0)).toArray)
  clear hv hload
  go_enter Tryd.func12, Tryd.ntmps12
  go_wp2
  go_loopw [8] (fun iv wr => ∃ (k : Nat) (L : List Int), k ≤ n ∧ iv = .int .i64 k ∧ Hid (L.length = 8) ∧ Hid (scan19 (List.replicate 8 0) l = scan19 L (l.drop k)) ∧ Hid (Row wr w.heap.size 48 (ints L)) ∧ Hid (Below w.heap.size w wr)) (fun iv _ => n - (intOf iv).toNat)
  case atStart => exact ⟨0, List.replicate 8 0, Nat.zero_le _, rfl, Lib.hid rfl, Lib.hid rfl, RA, BA⟩
  case round =>
    obtain ⟨k, L, hk, rfl, HL8, HS, HA, HB⟩ := hrel
    by_cases hlt : k < n
    · obtain ⟨x, hx⟩ : ∃ x, l[k]? = some x := ⟨_, List.getElem?_eq_getElem (by rw [HN.out]; exact hlt)⟩
      obtain ⟨g, o, u, rfl, hg, hl, c0, c1, c2, c3, c4, c5, c6, c7⟩ := (HV.out.below HB.out).cells hx
      have hkn : (k : Int) < (n : Int) := by omega
      have HX := Lib.hid hx
      have KR := Lib.hid (fun (W : World) (h : Below wr.heap.size wr W) => right19_any x u W (hl.below h) (HL.out x (List.mem_of_getElem? hx)))
      have R := Lib.hid (Row.new wr 38 (row19 x u).toArray)
      have HD := Lib.hid (drop_at hx)
      have BW := Lib.hid (below_al wr (.cells (row19 x u).toArray 38))
      obtain ⟨Au, nu, cu, rfl, _, _⟩ := ld_open hl
      have hal := HA.out.lt
      clear hl hx
      cases hok : ok19 x with
      | false =>
        have HF : Hid (scan19 (List.replicate 8 0) l = false) := Lib.hid (by rw [HS.out, HD.out]; simp [scan19, hok])
        have HO := Lib.hid hok
        clear hok
        have KQ := Lib.hid (fun (W : World) (h : Below (wr.alloc (.cells (row19 x (.slice Au nu cu)).toArray 38)).heap.size (wr.alloc (.cells (row19 x (.slice Au nu cu)).toArray 38)) W) => (KR.out W (below_on BW.out h)).mono (fun e w' (h' : e = .returned (.bool (ok19 x)) ∧ Below W.heap.size W w') => (⟨h'.1.trans (by rw [HO.out]), below_on h h'.2⟩ : e = .returned (.bool false) ∧ Below (wr.alloc (.cells (row19 x (.slice Au nu cu)).toArray 38)).heap.size (wr.alloc (.cells (row19 x (.slice Au nu cu)).toArray 38)) w')))
        simp only [row19] at KQ BW R
        go_wp2
        refine wp_region_held_drew (S := fun W => Row W wr.heap.size 38 (row19 x (.slice Au nu cu))) (by kernel_rfl) (R.out.below (Below.refl _ _).drew) (fun hHeld => ?_)
        refine wpAnyH_take (i := 0) (oi := ⟨some 12, .load 38 (.tmp 5), 38, "diary.go:33", #[], none⟩) (v := .agg (row19 x (.slice Au nu cu)).toArray) rfl (by kernel_rfl) (by kernel_rfl) (by kernel_rfl) (fun _ _ _ h => h) (yieldsIf_row rfl 38 (.tmp 5) rfl wr.heap.size rfl (row19 x (.slice Au nu cu)) entry9_struct (entry9_size x _) 38 (fun W h => h)) (by assumption) ?_
        try simp only [Act.put, List.setIfInBounds_toArray, List.set_cons_zero, List.set_cons_succ]
        refine wpAnyH_ready (rs := [1]) (by kernel_rfl) (by simp) ?_
        refine AllReadyH.cons (o := ⟨some 13, .call { callee := .value (.func 23), args := #[.tmp 12], argTypes := #[38] }, 4, "diary.go:33", #[⟨0, .data⟩], none⟩) rfl (fun K hK => ?_) AllReadyH.nil
        go_simp
        refine (KQ.out _ (Below.refl _ _).drew).mono ?_
        rintro e w1 ⟨rfl, hb1⟩
        go_wp2_with fail
        refine hK.out _ _ (R.out.below hb1) (fun hSx => ?_)
        clear hK K
        try simp only [Act.put, List.setIfInBounds_toArray, List.set_cons_zero, List.set_cons_succ]
        refine' wpAnyH_take (i := 2) (oi := ⟨some 14, .unOp .not 4 (.tmp 13), 4, "diary.go:33", #[⟨1, .data⟩], none⟩) (v := _) rfl (by kernel_rfl) (by kernel_rfl) (by kernel_rfl) (fun _ _ _ h => h) (Or.inl ⟨by rfl, ?hy3⟩) (by assumption) ?rest3
        case hy3 => (intro w hSw; (try dsimp only at hSw); go_simp; try with_reducible rfl)
        try simp only [Act.put, List.setIfInBounds_toArray, List.set_cons_zero, List.set_cons_succ]
        refine' wpAnyH_take (i := 3) (oi := ⟨some 15, .move (.tmp 14), 4, "diary.go:33", #[⟨2, .data⟩, ⟨1, .chain⟩], none⟩) (v := _) rfl (by kernel_rfl) (by kernel_rfl) (by kernel_rfl) (fun _ _ _ h => h) (Or.inl ⟨by rfl, ?hy4⟩) (by assumption) ?rest4
        case hy4 => (intro w hSw; (try dsimp only at hSw); go_simp; try with_reducible rfl)
        try simp only [Act.put, List.setIfInBounds_toArray, List.set_cons_zero, List.set_cons_succ]
        refine' wpAnyH_take (i := 4) (oi := ⟨some 16, .fieldAddr 38 (.tmp 5) 3, 0, "diary.go:33", #[⟨3, .guard⟩], some (3, false)⟩) (v := undef) rfl (by kernel_rfl) (by kernel_rfl) (by kernel_rfl) (fun _ _ _ h => h) (Or.inr ⟨by rfl, rfl⟩) (by assumption) ?rest5
        try simp only [Act.put, List.setIfInBounds_toArray, List.set_cons_zero, List.set_cons_succ]
        refine' wpAnyH_take (i := 5) (oi := ⟨some 17, .load 3 (.tmp 16), 3, "diary.go:33", #[⟨4, .data⟩, ⟨3, .guard⟩], some (3, false)⟩) (v := undef) rfl (by kernel_rfl) (by kernel_rfl) (by kernel_rfl) (fun _ _ _ h => h) (Or.inr ⟨by rfl, rfl⟩) (by assumption) ?rest6
        try simp only [Act.put, List.setIfInBounds_toArray, List.set_cons_zero, List.set_cons_succ]
        refine' wpAnyH_take (i := 6) (oi := ⟨some 18, .fieldAddr 38 (.tmp 5) 0, 0, "diary.go:33", #[⟨3, .guard⟩], some (3, false)⟩) (v := undef) rfl (by kernel_rfl) (by kernel_rfl) (by kernel_rfl) (fun _ _ _ h => h) (Or.inr ⟨by rfl, rfl⟩) (by assumption) ?rest7
        try simp only [Act.put, List.setIfInBounds_toArray, List.set_cons_zero, List.set_cons_succ]
        refine' wpAnyH_take (i := 7) (oi := ⟨some 19, .load 3 (.tmp 18), 3, "diary.go:33", #[⟨6, .data⟩, ⟨3, .guard⟩], some (3, false)⟩) (v := undef) rfl (by kernel_rfl) (by kernel_rfl) (by kernel_rfl) (fun _ _ _ h => h) (Or.inr ⟨by rfl, rfl⟩) (by assumption) ?rest8
        try simp only [Act.put, List.setIfInBounds_toArray, List.set_cons_zero, List.set_cons_succ]
        refine' wpAnyH_take (i := 8) (oi := ⟨some 20, .indexAddr 48 (.tmp 3) (.tmp 19), 0, "diary.go:33", #[⟨7, .data⟩, ⟨3, .guard⟩], some (3, false)⟩) (v := undef) rfl (by kernel_rfl) (by kernel_rfl) (by kernel_rfl) (fun _ _ _ h => h) (Or.inr ⟨by rfl, rfl⟩) (by assumption) ?rest9
        try simp only [Act.put, List.setIfInBounds_toArray, List.set_cons_zero, List.set_cons_succ]
        refine' wpAnyH_take (i := 9) (oi := ⟨some 21, .load 3 (.tmp 20), 3, "diary.go:33", #[⟨8, .data⟩, ⟨3, .guard⟩], some (3, false)⟩) (v := undef) rfl (by kernel_rfl) (by kernel_rfl) (by kernel_rfl) (fun _ _ _ h => h) (Or.inr ⟨by rfl, rfl⟩) (by assumption) ?rest10
        try simp only [Act.put, List.setIfInBounds_toArray, List.set_cons_zero, List.set_cons_succ]
        refine' wpAnyH_take (i := 10) (oi := ⟨some 22, .binOp .leq 3 (.tmp 17) (.tmp 21) 3, 4, "diary.go:33", #[⟨5, .data⟩, ⟨9, .data⟩, ⟨3, .guard⟩], some (3, false)⟩) (v := undef) rfl (by kernel_rfl) (by kernel_rfl) (by kernel_rfl) (fun _ _ _ h => h) (Or.inr ⟨by rfl, rfl⟩) (by assumption) ?rest11
        try simp only [Act.put, List.setIfInBounds_toArray, List.set_cons_zero, List.set_cons_succ]
        refine' wpAnyH_take (i := 11) (oi := ⟨some 23, .pick (.tmp 15) (.const (.bool true)) (.tmp 22), 4, "diary.go:33", #[⟨3, .data⟩, ⟨10, .data⟩], none⟩) (v := _) rfl (by kernel_rfl) (by kernel_rfl) (by kernel_rfl) (fun _ _ _ h => h) (Or.inl ⟨by rfl, ?hy12⟩) (by assumption) ?rest12
        case hy12 => (intro w hSw; (try dsimp only at hSw); go_simp; try with_reducible rfl)
        try simp only [Act.put, List.setIfInBounds_toArray, List.set_cons_zero, List.set_cons_succ]
        refine wpAnyH_done (by kernel_rfl) ?_ _
        go_wp2
        go_ret
        exact ⟨by rw [HF.out]; rfl, below_on HB.out (below_on BW.out hb1)⟩
      | true =>
        obtain ⟨q, hq, hq8⟩ := ok19_core hok
        obtain ⟨a, ha⟩ : ∃ a, L[q]? = some a := ⟨_, List.getElem?_eq_getElem (by rw [HL8.out]; exact hq8)⟩
        have HG : Hid (L.getD x.core.toNat 0 = a) := Lib.hid (by rw [hq, Int.toNat_natCast, List.getD_eq_getElem?_getD, ha]; rfl)
        have HQ := Lib.hid hq
        have HO := Lib.hid hok
        have hq0 : (0 : Int) ≤ (q : Int) := by omega
        have hq1 : (q : Int) < 8 := by omega
        have F := Lib.hid (fun (W : World) (h : Below (wr.alloc (.cells (row19 x (.slice Au nu cu)).toArray 38)).heap.size (wr.alloc (.cells (row19 x (.slice Au nu cu)).toArray 38)) W) => (⟨(R.out.below h).cell 0, (R.out.below h).cell 3, (R.out.below h).cell 4, ((HA.out.below BW.out).below h).cell q, ((HA.out.below BW.out).below h).soft q, ((HA.out.below BW.out).below h)⟩ : W.cell? ⟨wr.heap.size, 0, none⟩ = some (.int .i64 x.core) ∧ W.cell? ⟨wr.heap.size, 3, none⟩ = some (.int .i64 x.beg) ∧ W.cell? ⟨wr.heap.size, 4, none⟩ = some (.int .i64 x.fin) ∧ W.cell? ⟨w.heap.size, q, none⟩ = (ints L)[q]? ∧ W.frozen? ⟨w.heap.size, q, none⟩ = false ∧ Row W w.heap.size 48 (ints L)))
        rw [ints_some ha] at F
        clear hok ha
        rw [hq] at c0
        simp only [row19] at R KR BW F
        rw [hq] at KR F
        by_cases hb : a < x.beg
        · have g1 : ¬ x.beg ≤ a := by omega
          have HS2 : Hid (scan19 (List.replicate 8 0) l = scan19 (L.set q (max x.beg x.fin)) (l.drop (k + 1))) := Lib.hid (by rw [HS.out, HD.out]; simp only [scan19]; rw [HO.out, HG.out, HQ.out, Int.toNat_natCast, decide_eq_true hb]; rfl)
          clear hb hq
          go_wp2
          go_region_with (go_at_call 23; refine (KR.out _ (show Below wr.heap.size wr _ from by go_grown)).mono ?_; rintro e w1 ⟨rfl, b1⟩; rw [HO.out]; have B2 := Lib.hid (below_on (show Below wr.heap.size wr _ from by go_grown) b1); obtain ⟨q0, q3, q4, qa, qs, qr⟩ := F.out _ (below_on (by go_grown) b1); have QR := Lib.hid qr; clear b1 qr)
          all_goals (
            go_wp2
            go_roundw
            case rel => exact ⟨k + 1, L.set q (max x.beg x.fin), by omega, by go_num, Lib.hid (by rw [List.length_set, HL8.out]), HS2, Lib.hid (by rw [ints_set]; first | exact QR.out.put q _ | exact (QR.out.drewN _).put q _), Lib.hid (by
              refine Only.below (S := (· = w.heap.size)) (B := w.heap.size) (below_on HB.out B2.out) (by first | exact (Only.refl (· = w.heap.size) _).setCell (p := ⟨w.heap.size, q, none⟩) (.inl rfl) _ | exact ((Only.refl (· = w.heap.size) _).drewN _).setCell (p := ⟨w.heap.size, q, none⟩) (.inl rfl) _) ?_ (fun g hg e => by omega)
              exact Nat.le_trans (HB.out.size) B2.out.size)⟩
            case measure => simp [intOf]; omega)
        · have g1 : x.beg ≤ a := by omega
          have HF : Hid (scan19 (List.replicate 8 0) l = false) := Lib.hid (by rw [HS.out, HD.out]; simp only [scan19]; rw [HG.out, decide_eq_false hb]; simp)
          clear hb hq
          go_wp2
          go_region_with (go_at_call 23; refine (KR.out _ (show Below wr.heap.size wr _ from by go_grown)).mono ?_; rintro e w1 ⟨rfl, b1⟩; rw [HO.out]; have B2 := Lib.hid (below_on (show Below wr.heap.size wr _ from by go_grown) b1); obtain ⟨q0, q3, q4, qa, qs, qr⟩ := F.out _ (below_on (by go_grown) b1); have QR := Lib.hid qr; clear b1 qr)
          all_goals (
            go_wp2
            go_ret
            exact ⟨by rw [HF.out]; rfl, below_on HB.out (show Below wr.heap.size wr _ from by first | exact B2.out | exact below_dn B2.out _)⟩)
    · obtain rfl : n = k := by omega
      have HF : Hid (scan19 (List.replicate 8 0) l = true) := Lib.hid (by rw [HS.out, ← HN.out, List.drop_length]; rfl)
      go_wp2
      go_ret
      exact ⟨by rw [HF.out]; rfl, HB.out⟩

#print axioms Right19_any
end Go.Proofs.YtikjokhpombjjaaDoor
