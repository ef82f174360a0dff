/-
  The reference of layer 6: with.
  Conditions: those that each theorem states.
-/
import Derived.Test.YtgoogclcpnfmkaaRBus
namespace Go.Proofs.Ytgoogclcpnfmkaa
open Go.ChangeShapes Go.WideShapes Go.ChangeAt Go.RowKit

set_option maxRecDepth 100000 in
set_option maxHeartbeats 2000000 in
theorem rwith_any (P : Nat → Prop) (N : Nat) (l : List Int) (qs : List (List (Int × Int))) (vr vb v : Value) (i : Nat) (q : List (Int × Int)) (w : World) (r : RBus w P N l qs vr vb) (hi : i < qs.length)
    (hv : Two w P v (sts q)) (hcv : CapOk v) (hq : q.length ≤ N) (hP : ∀ b, w.heap.size ≤ b → P b) :
    Calls Try.prog 39 #[.agg #[vr, vb], .int .i64 (i : Int), .agg #[.int .i64 N, v]] w (RBusP P N l (qs.set i q) id w) := by
  obtain ⟨i0, hi0, hz0, hz1, hz2⟩ := info_parts buf_info
  obtain ⟨A, k, B, d, rfl, rfl⟩ := r.open_
  obtain ⟨Av, nv, cv, rfl, HNV, HV⟩ := hv.open_
  have R := Lib.hid r
  obtain ⟨vs, hT, hB⟩ := r.bufs
  have hcap := r.cap
  have hm := r.most
  have hone := bps_one (N := N) hB.one
  have HT := Lib.hid hT
  have HBs := Lib.hid hB
  have HO := Lib.hid hone
  have HP := Lib.hid hP
  have HCV := Lib.hid hcv
  obtain ⟨C, hC⟩ : ∃ C, qs.length = C := ⟨_, rfl⟩
  obtain ⟨n, hn⟩ : ∃ n, l.length = n := ⟨_, rfl⟩
  rw [hC] at hi hm HT hcap ⊢
  rw [hn]
  have HC := Lib.hid hC
  have HN := Lib.hid hn
  have HCap := Lib.hid hcap
  have hq' := Lib.hid hq
  have b3 : Hid (∀ x y z : Obj, Below w.heap.size w (((w.alloc x).alloc y).alloc z)) := Lib.hid (fun x y z => below_on (below_on (below_al _ _) (below_al _ _)) (below_al _ _))
  clear r hv hT hB hcap hone hC hP hcv hn hq
  go_enter Try.func39, Try.ntmps39
  go_wp2_with (first
    | (at_builtin
       refine app2_walk _ rfl (.tmp 8) (.tmp 10) 32 rfl (w.heap.size + 3) 82 i0 _ 32 Try.underlying32 hi0 hz0 hz1 hz2 rfl (.slice none 0 0) 0 [] rfl (World.ownsRow_nil _ _ _ _) P B C d (bps N vs) rfl (HT.out.below (b3.out _ _ _)) HCap.out HO.out (by unfold maxLen; omega) (by omega) (by simp) ?_
       intro v1 w1 hown1 hg1 hat1
       rw [Nat.zero_add, List.nil_append] at hown1
       obtain ⟨g', cap', rfl, hbg, hlt'⟩ := hown1.form (by omega)
       have r0 : Row w1 w.heap.size 34 [.slice A n k, .slice B C d] := (((Row.new w 34 #[.slice A n k, .slice B C d]).below (below_al _ _)).below (below_al _ _)).of_grown hg1 (by simp [Value.ownBlock])
       have r1 : Row w1 (w.heap.size + 1) 82 [.int .i64 N, .slice Av nv cv] := (by have h := ((Row.new (w.alloc (.cells #[.slice A n k, .slice B C d] 34)) 82 #[.int .i64 N, .slice Av nv cv]).below (below_al _ _)).of_grown hg1 (by simp [Value.ownBlock]); simpa using h)
       have r2 : Row w1 (w.heap.size + 1 + 1) 34 [.slice none 0 0, .slice none 0 0] := (by have h := (Row.new ((w.alloc (.cells #[.slice A n k, .slice B C d] 34)).alloc (.cells #[.int .i64 N, .slice Av nv cv] 82)) 34 #[.slice none 0 0, .slice none 0 0]).of_grown hg1 (by simp [Value.ownBlock]); simpa using h)
       have hb1 : Below w.heap.size w w1 := (b3.out _ _ _).grown hg1 (by simp; omega) (by simp [Value.ownBlock])
       have hs1 := hg1.size
       simp at hs1
       have x0 := r1.cell 0
       have x1 := r1.cell 1
       have y0 := r0.cell 0
       have y1 := r0.cell 1
       have z0 := r2.cell 0
       have z1 := r2.cell 1
       have fy0 := r0.soft 0
       have fy1 := r0.soft 1
       have fz0 := r2.soft 0
       have fz1 := r2.soft 1
       simp only [List.getElem?_cons_zero, List.getElem?_cons_succ] at x0 x1 y0 y1 z0 z1
       have hfl : (flat (bps N vs)).length = C * 2 := (by rw [flat_len, bps_len, HBs.out.len, HC.out])
       have t0 := hown1.cellAt (i * 2) (by omega)
       have t1 := hown1.cellAt (i * 2 + 1) (by omega)
       have ft0 := hown1.frozenAt (i * 2)
       have ft1 := hown1.frozenAt (i * 2 + 1)
       obtain ⟨u0, hu0⟩ : ∃ u, (flat (bps N vs))[i * 2]? = some u := ⟨_, List.getElem?_eq_getElem (by omega)⟩
       obtain ⟨u1, hu1⟩ : ∃ u, (flat (bps N vs))[i * 2 + 1]? = some u := ⟨_, List.getElem?_eq_getElem (by omega)⟩
       rw [hu0] at t0
       rw [hu1] at t1
       have HOw := Lib.hid hown1
       have HB1 := Lib.hid hb1
       clear hown1 hg1 hat1 hb1 r0 r1 r2 hfl hu0 hu1))
  refine bodyPost_ret (v := .agg #[.slice A n k, .slice (some ⟨g', 0, none⟩) C cap']) (by simp [results, Try.results39, go_sem, *]) rfl ⟨A, n, k, some ⟨g', 0, none⟩, C, cap', rfl, ?_, ?_⟩
  · have o1 := (HOw.out.stored (i * 2) (.int .i64 N)).1
    have o2 := (o1.stored (i * 2 + 1) (.slice Av nv cv)).1
    rw [show ((flat (bps N vs)).set (i * 2) (.int .i64 N)).set (i * 2 + 1) (.slice Av nv cv) = flat (bps N (vs.set i (.slice Av nv cv))) from by rw [flat_set (bps N vs) i (.int .i64 N, .slice Av nv cv), bps_set]] at o2
    have hO := ((((Only.refl (fun b => b = w.heap.size ∨ b = w.heap.size + 1 + 1) ((w1.setCell ⟨g', i * 2, none⟩ (.int .i64 N)).setCell ⟨g', i * 2 + 1, none⟩ (.slice Av nv cv))).setCell (p := ⟨w.heap.size, 1, none⟩) (.inl (.inl rfl)) (.slice (some ⟨g', 0, none⟩) C cap')).setCell (p := ⟨w.heap.size + 1 + 1, 0, none⟩) (.inl (.inr rfl)) (.slice A n k)).setCell (p := ⟨w.heap.size + 1 + 1, 1, none⟩) (.inl (.inr rfl)) (.slice (some ⟨g', 0, none⟩) C cap'))
    have o3 := own_only o2 hO (fun b hb h => by simp [Value.ownBlock] at hb; omega)
    have hbW := ((((HB1.out.setCell (p := ⟨g', i * 2, none⟩) (by show w.heap.size ≤ g'; omega) (.int .i64 N)).setCell (p := ⟨g', i * 2 + 1, none⟩) (by show w.heap.size ≤ g'; omega) (.slice Av nv cv)).setCell (p := ⟨w.heap.size, 1, none⟩) (Nat.le_refl _) (.slice (some ⟨g', 0, none⟩) C cap')).setCell (p := ⟨w.heap.size + 1 + 1, 0, none⟩) (by show w.heap.size ≤ w.heap.size + 1 + 1; omega) (.slice A n k)).setCell (p := ⟨w.heap.size + 1 + 1, 1, none⟩) (by show w.heap.size ≤ w.heap.size + 1 + 1; omega) (.slice (some ⟨g', 0, none⟩) C cap')
    have rb := R.out.below hbW
    have hram := rb.ram
    rw [HN.out] at hram
    refine ⟨hram, ⟨vs.set i (.slice Av nv cv), (Two.of_own o3).weak (fun b _ hb => HP.out b (by simp [Value.ownBlock] at hb; omega)), by rw [List.length_set, List.length_set]; exact HBs.out.len, fun j v' q'' h1 h2 => ?_⟩, CapOk.of_own o3, R.out.size, by rw [List.length_set]; exact R.out.most, by rw [List.length_set]; exact R.out.pos, fun x hx => ?_, R.out.cap16⟩
    · rw [List.getElem?_set] at h1 h2
      by_cases e : i = j
      · rw [if_pos e] at h1 h2
        split at h1
        · split at h2
          · injection h1 with h1
            injection h2 with h2
            subst h1 h2
            exact ⟨HV.out.below hbW, HCV.out⟩
          · cases h2
        · cases h1
      · rw [if_neg e] at h1 h2
        obtain ⟨e1, e2⟩ := HBs.out.each j v' q'' h1 h2
        exact ⟨e1.below hbW, e2⟩
    · rcases List.mem_or_eq_of_mem_set hx with h | h
      · exact R.out.fit x h
      · rw [h]; exact hq'.out
  · exact ((((HB1.out.setCell (p := ⟨g', i * 2, none⟩) (by show w.heap.size ≤ g'; omega) (.int .i64 N)).setCell (p := ⟨g', i * 2 + 1, none⟩) (by show w.heap.size ≤ g'; omega) (.slice Av nv cv)).setCell (p := ⟨w.heap.size, 1, none⟩) (Nat.le_refl _) (.slice (some ⟨g', 0, none⟩) C cap')).setCell (p := ⟨w.heap.size + 1 + 1, 0, none⟩) (by show w.heap.size ≤ w.heap.size + 1 + 1; omega) (.slice A n k)).setCell (p := ⟨w.heap.size + 1 + 1, 1, none⟩) (by show w.heap.size ≤ w.heap.size + 1 + 1; omega) (.slice (some ⟨g', 0, none⟩) C cap')

#print axioms rwith_any
end Go.Proofs.Ytgoogclcpnfmkaa
