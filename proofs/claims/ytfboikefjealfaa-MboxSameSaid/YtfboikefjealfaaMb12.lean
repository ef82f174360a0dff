/-
  Layer 9 (mbox): Clone.
  Conditions: those that each theorem states.
-/
import Derived.Test.YtfboikefjealfaaMb11
namespace Go.Proofs.Ytfboikefjealfaa
open Go.ChangeShapes Go.WideShapes Go.ChangeAt Go.RowKit

set_option maxRecDepth 100000 in
set_option maxHeartbeats 400000 in
theorem clone9_nil (w : World) :
    Calls Try.prog 17 #[.pointer none] w fun e w' => e = .returned (.pointer none) ∧ w = w' := by
  go_enter Try.func17, Try.ntmps17
  go_wp2
  go_ret
  exact ⟨rfl, rfl⟩

theorem clone_step {w wr w2 : World} {s tb rb : Nat} {ms : List Mail} {k : Nat} {gf hf : Nat → Nat} (m : MkAt9 w wr s tb rb ms k gf hf) (hb : Below wr.heap.size wr w2) {x : Mail} (hx : ms[k]? = some x) {g h d : Nat} {o : Obj}
    (hq : LaneQ w2 g h 16 (jns x.2)) (hg : ((wr.alloc o).drewN d).heap.size ≤ g) (hh : ((wr.alloc o).drewN d).heap.size ≤ h) :
    MkAt9 w ((w2.setCell ⟨rb, k * 2, none⟩ (.int .i64 (maskB x.1))).setCell ⟨rb, k * 2 + 1, none⟩ (.pointer (some ⟨g, 0, none⟩))) s tb rb ms (k + 1) (fun j => if j = k then g else gf j) (fun j => if j = k then h else hf j) := by
  have e0 : ((wr.alloc o).drewN d).heap.size = wr.heap.size + 1 := size_al wr o
  rw [e0] at hg hh
  have hrow := ((m.row.below hb).put (k * 2) (.int .i64 (maskB x.1))).put (k * 2 + 1) (.pointer (some ⟨g, 0, none⟩))
  have e : (mcell (fun j => if j = k then g else gf j) k x) = (.int .i64 (maskB x.1), .pointer (some ⟨g, 0, none⟩)) := by simp [mcell, ptr]
  have hf2 := flat_set2 (mkL gf ms k) k (mcell (fun j => if j = k then g else gf j) k x)
  rw [e] at hf2
  simp only at hf2
  rw [hf2, ← e, mkL_step hx] at hrow
  exact m.step hb hx hq (by omega) (by omega) ((only_put w2 rb (k * 2) _).trans (only_put _ rb (k * 2 + 1) _)) hrow

set_option maxRecDepth 100000 in
set_option maxHeartbeats 2000000 in
theorem clone9_any (L : MLay) (ms : List Mail) (w : World) (r : BoxAt w L ms) :
    Calls Try.prog 17 #[.pointer (some ⟨L.g, 0, none⟩)] w (MadeB ms w) := by
  have h0 := r.pos
  have h1 := r.most
  have R := Lib.hid r
  have a1 : w.cell? ⟨L.g, 0, none⟩ = some (.slice (some ⟨L.mb, 0, none⟩) ms.length ms.length) := r.top.cell 0
  have hgl := r.top.lt
  obtain ⟨n, hn⟩ : ∃ n, ms.length = n := ⟨_, rfl⟩
  rw [hn] at h0 h1 a1
  have HN := Lib.hid hn
  clear r hn
  have hmk := fun W => run_make_rowN (P := Try.prog) 60 66 _ 2 16 Try.underlying60 box_info .i64 .i64 n (by omega) (by omega) W
  obtain ⟨Z, hZ⟩ : ∃ Z, Z = madeCells (Value.cells (.agg #[.int .i64 0, .pointer none])) (n * 2) := ⟨_, rfl⟩
  rw [← hZ] at hmk
  have HZ := Lib.hid hZ
  clear hZ
  go_enter Try.func17, Try.ntmps17
  go_wp2
  go_loopw [21] (fun c wr => ∃ k : Nat, k ≤ n ∧ c = .int .i64 k ∧ Hid (∃ gf hf, MkAt9 w wr w.heap.size (w.heap.size + 1) w.heap.size ms k gf hf)) (fun c _ => n - (intOf c).toNat)
  case atStart =>
    have hrow := Row.new w 66 Z
    rw [HZ.out, made_zero n (fun _ => 0) ms HN.out] at hrow
    have htop := Row.new (w.alloc (.cells Z 66)) 62 #[.slice (some ⟨w.heap.size, 0, none⟩) n n]
    rw [size_al] at htop
    refine ⟨0, Nat.zero_le _, rfl, Lib.hid ⟨fun _ => 0, fun _ => 0, ?_, ?_, fun i _ hi => by omega, fun i j hi => by omega, fun i j hi => by omega, ⟨by omega, by omega⟩, fun i hi => by omega, below_on (below_al _ _) (below_al _ _), Nat.zero_le _, by simp only [size_al]; omega⟩⟩
    · rw [HN.out]
      exact htop
    · rw [HZ.out]
      exact hrow.below (below_al _ _)
  case round =>
    obtain ⟨k, hk, rfl, hs⟩ := hrel
    obtain ⟨gf, hf, m⟩ := hs.out
    have ht := m.top
    rw [HN.out] at ht
    have c1 : wr.cell? ⟨w.heap.size + 1, 0, none⟩ = some (.slice (some ⟨w.heap.size, 0, none⟩) n n) := ht.cell 0
    have hlt1 := ht.lt
    have HT := Lib.hid ht
    have HRW := Lib.hid m.row
    have M := Lib.hid m
    clear hs m ht
    by_cases hlt : k < n
    · obtain ⟨x, hx⟩ : ∃ x, ms[k]? = some x := ⟨_, List.getElem?_eq_getElem (by rw [HN.out]; exact hlt)⟩
      have hat : (mkL gf ms k)[k]? = some mk0 := by rw [mkL_at, if_neg (by omega), if_pos (by rw [HN.out]; exact hlt)]
      have e0 : wr.cell? ⟨L.mb, k * 2, none⟩ = some (.int .i64 (maskB x.1)) := by rw [(R.out.row.below M.out.bel).cell]; exact (mc_at hx).1
      have e1 : wr.cell? ⟨L.mb, k * 2 + 1, none⟩ = some (.pointer (some ⟨L.gf k, 0, none⟩)) := by rw [(R.out.row.below M.out.bel).cell]; exact (mc_at hx).2
      have hb1 : Below wr.heap.size wr (wr.alloc (.cells #[.int .i64 (maskB x.1), .pointer (some ⟨L.gf k, 0, none⟩)] 66)) := below_al _ _
      have hnew := Row.new wr 66 #[.int .i64 (maskB x.1), .pointer (some ⟨L.gf k, 0, none⟩)]
      have BC := Lib.hid (fun d : Nat => cloneL_any (L.gf k) (L.hf k) 16 (jns x.2) ((wr.alloc (.cells #[.int .i64 (maskB x.1), .pointer (some ⟨L.gf k, 0, none⟩)] 66)).drewN d) ((((R.out.q k x hx).below M.out.bel).below hb1).below (below_q _ d)))
      have HAT := Lib.hid hat
      have HX := Lib.hid hx
      have HB1 := Lib.hid hb1
      have HNW := Lib.hid hnew
      have hmm : L.mb ≠ wr.heap.size := by have := (R.out.row.below M.out.bel).lt; omega
      clear hat hx hb1 hnew
      unfold ptr at BC
      go_wp2_with fail
      go_region_with (go_at_call 33; refine (BC.out _).mono ?_; rintro e w2 ⟨g, h, rfl, hbq, hlt2, hlt3, hb2⟩; have HB2 := Lib.hid (below_on HB1.out (below_on (below_q _ _) hb2)); have HI2 := Lib.hid (HNW.out.below (below_on (below_q _ _) hb2)); have i0 := HI2.out.cell 0; have i1 := HI2.out.cell 1; simp only [List.getElem?_cons_zero, List.getElem?_cons_succ] at i0 i1; have d1 : w2.cell? ⟨w.heap.size + 1, 0, none⟩ = some (.slice (some ⟨w.heap.size, 0, none⟩) n n) := (HT.out.below HB2.out).cell 0; have d0 : w2.cell? ⟨w.heap.size, k * 2, none⟩ = some (.int .i64 0) := (by rw [(HRW.out.below HB2.out).cell]; exact (flat_at HAT.out).1); have d2 : w2.cell? ⟨w.heap.size, k * 2 + 1, none⟩ = some (.pointer none) := (by rw [(HRW.out.below HB2.out).cell]; exact (flat_at HAT.out).2); have d3 := (HRW.out.below HB2.out).soft (k * 2 + 1); have d4 := (HRW.out.below HB2.out).soft (k * 2); have HQ := Lib.hid hbq; have HL := Lib.hid hlt2; have HL2 := Lib.hid hlt3; clear hbq hlt2 hlt3 hb2; unfold ptr)
      all_goals go_wp2_with fail
      all_goals go_roundw
      all_goals first
        | exact ⟨k + 1, by omega, by go_num, Lib.hid ⟨_, _, clone_step M.out HB2.out HX.out HQ.out HL.out HL2.out⟩⟩
        | (simp [intOf]; omega)
    · obtain rfl : k = n := by omega
      go_wp2
      go_ret
      obtain ⟨h2, h3⟩ := M.out.done HN.out.symm R.out.ok R.out.pos R.out.most
      exact ⟨_, rfl, h2, h3, M.out.bel⟩

#print axioms clone9_any
end Go.Proofs.Ytfboikefjealfaa
