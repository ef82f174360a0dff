/-
  Layer 6 (bus): Clone.
  Conditions: those that each theorem states.
-/
import Derived.Test.YtoiaojpomhjlaaaBus10
namespace Go.Proofs.Ytoiaojpomhjlaaa
open Go.ChangeShapes Go.WideShapes Go.ChangeAt Go.RowKit

set_option maxRecDepth 100000 in
set_option maxHeartbeats 4000000 in
theorem clone6_any (L : Lay) (N : Nat) (l : List Int) (qs : List (List (Int × Int))) (w : World) (r : BusAt w L N l qs) :
    Calls Try.prog 17 #[ptr L.g] w (MadeP N l qs ptr w) := by
  have h0 := r.pos
  have h1 := r.most
  have R := Lib.hid r
  obtain ⟨C, hC⟩ : ∃ C, qs.length = C := ⟨_, rfl⟩
  have hb0 : Below w.heap.size w w := Below.refl _ _
  have KK := Lib.hid (fun (W : World) (hb : Below w.heap.size w W) => (show W.cell? ⟨L.g, 0, none⟩ = some (.pointer (some ⟨L.rg, 0, none⟩)) ∧ W.cell? ⟨L.g, 1, none⟩ = some (.slice (some ⟨L.bb, 0, none⟩) C C) ∧ Below w.heap.size w W from ⟨(r.top.below hb).cell 0, by rw [← hC]; exact (r.top.below hb).cell 1, hb⟩))
  have CL := Lib.hid (fun W (hb : Below w.heap.size w W) => (clone_any L.rg L.rh l W (r.ram.below hb)).mono (R' := fun e w' => ∃ g h, e = .returned (ptr g) ∧ RamAt w' g h l ∧ w.heap.size ≤ g ∧ w.heap.size ≤ h ∧ Below w.heap.size w w' ∧ Below W.heap.size W w') (fun e w' ⟨g, h, he, hr, h1, h2, hb'⟩ => ⟨g, h, he, hr, Nat.le_trans hb.size h1, Nat.le_trans hb.size h2, below_on hb hb', hb'⟩))
  rw [hC] at h0 h1
  have HC := Lib.hid hC
  have hmk := fun W => run_make_row' (P := Try.prog) 75 78 (.pointer none) 8 Try.underlying75 pbuf_info rfl .i64 .i64 C (by omega) (by omega) W
  have c0 : w.cell? ⟨L.g, 0, none⟩ = some (.pointer (some ⟨L.rg, 0, none⟩)) := r.top.cell 0
  have c1 : w.cell? ⟨L.g, 1, none⟩ = some (.slice (some ⟨L.bb, 0, none⟩) C C) := by rw [← hC]; exact r.top.cell 1
  clear r hC
  unfold ptr at CL ⊢
  go_enter Try.func17, Try.ntmps17
  go_wp2_with fail
  go_region_held3 (fun w' => w'.cell? ⟨L.g, 0, none⟩ = some (.pointer (some ⟨L.rg, 0, none⟩)) ∧ w'.cell? ⟨L.g, 1, none⟩ = some (.slice (some ⟨L.bb, 0, none⟩) C C) ∧ Below w.heap.size w w')
    (first | exact KK.out _ (below_on hb1 (below_on (below_al _ _) (below_al _ _))) | exact KK.out _ (hb1.alloc hb1.size _) | exact KK.out _ hb1 | exact KK.out _ (hb0.drew.alloc (by simp) _) | exact KK.out _ hb0.drew | exact KK.out _ hb0 | go_keep)
    (first
      | (go_at_call 44; refine (CL.out _ ?_).mono ?_; (go_split_ands; assumption); rintro e w1 ⟨rg, rh, rfl, hr1, hg1, hh1, hb1, hbW⟩))
  all_goals go_wp2_with fail
  · go_loopw [26] (fun c wr => ∃ k : Nat, k ≤ C ∧ c = .int .i64 k ∧ Hid (∃ gf hf, MkAt w wr w.heap.size (w1.heap.size + 1) (w1.heap.size) rg rh N l qs k gf hf)) (fun c _ => C - (intOf c).toNat)
    case atStart =>
      have hs1 := hb1.size
      have hrow0 := Row.new w1 78 (madeCells #[Value.pointer none] C)
      rw [made_nils] at hrow0
      have hb2 : Below w1.heap.size w1 (w1.alloc (.cells (madeCells #[Value.pointer none] C) 78)) := below_al _ _
      have htop := Row.new (w1.alloc (.cells (madeCells #[Value.pointer none] C) 78)) 77 #[.pointer (some ⟨rg, 0, none⟩), .slice (some ⟨w1.heap.size, 0, none⟩) C C]
      rw [size_al] at htop
      have hram := (hr1.below hb2).below (below_al _ (.cells #[.pointer (some ⟨rg, 0, none⟩), .slice (some ⟨w1.heap.size, 0, none⟩) C C] 77))
      have hrow := hrow0.below (below_al _ (.cells #[.pointer (some ⟨rg, 0, none⟩), .slice (some ⟨w1.heap.size, 0, none⟩) C C] 77))
      have hbel : Below w.heap.size w ((w1.alloc (.cells (madeCells #[Value.pointer none] C) 78)).alloc (.cells #[.pointer (some ⟨rg, 0, none⟩), .slice (some ⟨w1.heap.size, 0, none⟩) C C] 77)) := below_on hb1 (below_on hb2 (below_al _ _))
      exact ⟨0, Nat.zero_le _, rfl, Lib.hid ⟨fun _ => 0, fun _ => none, (by rw [HC.out]; exact htop), hram, (by rw [HC.out]; exact hrow), fun i q hi => by omega, fun i j hi => by omega, fun i j b hi => by omega, ⟨by omega, by omega, hg1, hh1⟩, fun i hi => by omega, fun i b hi => by omega, hbel, Nat.zero_le _, hbel.size⟩⟩
    case round =>
      obtain ⟨k, hk, rfl, hs⟩ := hrel
      obtain ⟨gf, hf, m⟩ := hs.out
      have ht := m.top
      have hrw := m.row
      rw [HC.out] at ht hrw
      have e1 : wr.cell? ⟨w1.heap.size + 1, 1, none⟩ = some (.slice (some ⟨w1.heap.size, 0, none⟩) C C) := ht.cell 1
      have HT := Lib.hid ht
      have HRW := Lib.hid hrw
      have M := Lib.hid m
      clear hs m ht hrw
      by_cases hlt : k < C
      · obtain ⟨q, hq⟩ : ∃ q, qs[k]? = some q := ⟨_, List.getElem?_eq_getElem (by rw [HC.out]; exact hlt)⟩
        have e2 : wr.cell? ⟨L.bb, k, none⟩ = some (.pointer (some ⟨L.gf k, 0, none⟩)) := by rw [(R.out.row.below M.out.bel).cell, ptrs_at _ (by rw [HC.out]; exact hlt)]; rfl
        have BC := Lib.hid (fun d : Nat => bclone_any (L.gf k) (L.hf k) N q (wr.drewN d) (((R.out.buf k q hq).below M.out.bel).below (below_q wr d)))
        have HQ := Lib.hid hq
        clear hq
        unfold ptr at BC
        go_wp2_with fail
        go_region_with (go_at_call 45; refine (BC.out _).mono ?_; rintro e w2 ⟨g, h, rfl, hbq, hlt2, hlth, hb2⟩; have HB2 := Lib.hid (below_on (below_q wr _) hb2); have d1 : w2.cell? ⟨w1.heap.size + 1, 1, none⟩ = some (.slice (some ⟨w1.heap.size, 0, none⟩) C C) := (HT.out.below HB2.out).cell 1; have d2 : w2.cell? ⟨w1.heap.size, k, none⟩ = some (.pointer none) := (by rw [(HRW.out.below HB2.out).cell, List.getElem?_append_right (by rw [ptrs_len]; exact Nat.le_refl _), ptrs_len, Nat.sub_self, List.getElem?_replicate, if_pos (by omega)]); have d3 := (HRW.out.below HB2.out).soft k; have HBQ := Lib.hid hbq; have HL := Lib.hid hlt2; have HLH := Lib.hid hlth; clear hbq hlt2 hlth hb2; unfold ptr)
        all_goals go_wp2_with fail
        all_goals go_roundw
        all_goals first
          | exact ⟨k + 1, by omega, by go_num, Lib.hid ⟨_, _, M.out.step HB2.out HQ.out HBQ.out HL.out HLH.out⟩⟩
          | (simp [intOf]; omega)
      · obtain rfl : k = C := by omega
        go_wp2
        go_ret
        obtain ⟨h2, h3⟩ := M.out.done HC.out.symm R.out.adr R.out.pos R.out.most
        exact ⟨_, rfl, h2, h3, M.out.bel⟩
  · go_loopw [26] (fun c wr => ∃ k : Nat, k ≤ C ∧ c = .int .i64 k ∧ Hid (∃ gf hf, MkAt w wr w.heap.size (w1.heap.size) (w.heap.size) rg rh N l qs k gf hf)) (fun c _ => C - (intOf c).toNat)
    case atStart =>
      have hs1 := hb1.size
      have hrow0 := (((Row.new w 78 (madeCells #[Value.pointer none] C)).below (below_q _ 1)).below hbW)
      rw [made_nils] at hrow0
      have htop := Row.new w1 77 #[.pointer (some ⟨rg, 0, none⟩), .slice (some ⟨w.heap.size, 0, none⟩) C C]
      have hram := hr1.below (below_al _ (.cells #[.pointer (some ⟨rg, 0, none⟩), .slice (some ⟨w.heap.size, 0, none⟩) C C] 77))
      have hrow := hrow0.below (below_al _ (.cells #[.pointer (some ⟨rg, 0, none⟩), .slice (some ⟨w.heap.size, 0, none⟩) C C] 77))
      have hbel : Below w.heap.size w (w1.alloc (.cells #[.pointer (some ⟨rg, 0, none⟩), .slice (some ⟨w.heap.size, 0, none⟩) C C] 77)) := below_on hb1 (below_al _ _)
      exact ⟨0, Nat.zero_le _, rfl, Lib.hid ⟨fun _ => 0, fun _ => none, (by rw [HC.out]; exact htop), hram, (by rw [HC.out]; exact hrow), fun i q hi => by omega, fun i j hi => by omega, fun i j b hi => by omega, ⟨by omega, by omega, hg1, hh1⟩, fun i hi => by omega, fun i b hi => by omega, hbel, Nat.zero_le _, hbel.size⟩⟩
    case round =>
      obtain ⟨k, hk, rfl, hs⟩ := hrel
      obtain ⟨gf, hf, m⟩ := hs.out
      have ht := m.top
      have hrw := m.row
      rw [HC.out] at ht hrw
      have e1 : wr.cell? ⟨w1.heap.size, 1, none⟩ = some (.slice (some ⟨w.heap.size, 0, none⟩) C C) := ht.cell 1
      have HT := Lib.hid ht
      have HRW := Lib.hid hrw
      have M := Lib.hid m
      clear hs m ht hrw
      by_cases hlt : k < C
      · obtain ⟨q, hq⟩ : ∃ q, qs[k]? = some q := ⟨_, List.getElem?_eq_getElem (by rw [HC.out]; exact hlt)⟩
        have e2 : wr.cell? ⟨L.bb, k, none⟩ = some (.pointer (some ⟨L.gf k, 0, none⟩)) := by rw [(R.out.row.below M.out.bel).cell, ptrs_at _ (by rw [HC.out]; exact hlt)]; rfl
        have BC := Lib.hid (fun d : Nat => bclone_any (L.gf k) (L.hf k) N q (wr.drewN d) (((R.out.buf k q hq).below M.out.bel).below (below_q wr d)))
        have HQ := Lib.hid hq
        clear hq
        unfold ptr at BC
        go_wp2_with fail
        go_region_with (go_at_call 45; refine (BC.out _).mono ?_; rintro e w2 ⟨g, h, rfl, hbq, hlt2, hlth, hb2⟩; have HB2 := Lib.hid (below_on (below_q wr _) hb2); have d1 : w2.cell? ⟨w1.heap.size, 1, none⟩ = some (.slice (some ⟨w.heap.size, 0, none⟩) C C) := (HT.out.below HB2.out).cell 1; have d2 : w2.cell? ⟨w.heap.size, k, none⟩ = some (.pointer none) := (by rw [(HRW.out.below HB2.out).cell, List.getElem?_append_right (by rw [ptrs_len]; exact Nat.le_refl _), ptrs_len, Nat.sub_self, List.getElem?_replicate, if_pos (by omega)]); have d3 := (HRW.out.below HB2.out).soft k; have HBQ := Lib.hid hbq; have HL := Lib.hid hlt2; have HLH := Lib.hid hlth; clear hbq hlt2 hlth hb2; unfold ptr)
        all_goals go_wp2_with fail
        all_goals go_roundw
        all_goals first
          | exact ⟨k + 1, by omega, by go_num, Lib.hid ⟨_, _, M.out.step HB2.out HQ.out HBQ.out HL.out HLH.out⟩⟩
          | (simp [intOf]; omega)
      · obtain rfl : k = C := by omega
        go_wp2
        go_ret
        obtain ⟨h2, h3⟩ := M.out.done HC.out.symm R.out.adr R.out.pos R.out.most
        exact ⟨_, rfl, h2, h3, M.out.bel⟩

#print axioms clone6_any
end Go.Proofs.Ytoiaojpomhjlaaa
