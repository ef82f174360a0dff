/-
  Layer 6 (bus): New: a bus in the making (MkAt), its steps, and New's contract.
  Conditions: those that each theorem states.
-/
import Derived.Test.YtgoogclcpnfmkaaBus7
namespace Go.Proofs.Ytgoogclcpnfmkaa
open Go.ChangeShapes Go.WideShapes Go.ChangeAt Go.RowKit

/-- A bus in the making: its first k buffers are there; s: what is newer than this is the bus's own. -/
structure MkAt (w wr : World) (s tb rb rg rh : Nat) (N : Nat) (l : List Int) (qs : List (List (Int × Int))) (k : Nat) (gf : Nat → Nat) (hf : Nat → Option Nat) : Prop where
  top : Row wr tb 77 [ptr rg, .slice (some ⟨rb, 0, none⟩) qs.length qs.length]
  ram : RamAt wr rg rh l
  row : Row wr rb 78 (ptrs gf k ++ List.replicate (qs.length - k) (.pointer none))
  buf : ∀ (i : Nat) (q : List (Int × Int)), i < k → qs[i]? = some q → BufQ wr (gf i) (hf i) N q
  gne : ∀ i j, i < k → j < k → i ≠ j → gf i ≠ gf j
  hne : ∀ i j b, i < k → j < k → i ≠ j → hf i = some b → hf j ≠ some b
  new : s ≤ tb ∧ s ≤ rb ∧ s ≤ rg ∧ s ≤ rh
  newg : ∀ i, i < k → s ≤ gf i
  newh : ∀ i b, i < k → hf i = some b → s ≤ b
  bel : Below s w wr
  lim : k ≤ qs.length
  base : s ≤ wr.heap.size

theorem ptrs_succ (gf : Nat → Nat) (k g m : Nat) : (ptrs gf k ++ List.replicate (m + 1) (Value.pointer none)).set k (ptr g) = ptrs (fun j => if j = k then g else gf j) (k + 1) ++ List.replicate m (Value.pointer none) := by
  have e : ptrs (fun j => if j = k then g else gf j) (k + 1) = ptrs gf k ++ [ptr g] := by
    unfold ptrs
    rw [List.range_succ, List.map_append]
    congr 1
    · apply List.map_congr_left
      intro i hi
      show ptr (if i = k then g else gf i) = ptr (gf i)
      rw [if_neg (by have := List.mem_range.1 hi; omega)]
    · simp
  rw [e, List.set_append_right _ _ (by rw [ptrs_len]; exact Nat.le_refl _), ptrs_len, Nat.sub_self, List.replicate_succ, List.set_cons_zero, List.append_assoc]
  rfl

theorem MkAt.step {w wr w1 : World} {s tb rb rg rh N : Nat} {l : List Int} {qs : List (List (Int × Int))} {k : Nat} {gf : Nat → Nat} {hf : Nat → Option Nat} (m : MkAt w wr s tb rb rg rh N l qs k gf hf)
    (hb : Below wr.heap.size wr w1) {g : Nat} {h : Option Nat} {q : List (Int × Int)} (hq : qs[k]? = some q) (hg : BufQ w1 g h N q) (hlt : wr.heap.size ≤ g) (hlth : ∀ b, h = some b → wr.heap.size ≤ b) :
    MkAt w (w1.setCell ⟨rb, k, none⟩ (ptr g)) s tb rb rg rh N l qs (k + 1) (fun j => if j = k then g else gf j) (fun j => if j = k then h else hf j) := by
  have hk := lt_of_at hq
  have ho : Only (fun b => b = rb) w1 (w1.setCell ⟨rb, k, none⟩ (ptr g)) := (Only.refl (fun b => b = rb) w1).setCell (p := ⟨rb, k, none⟩) (.inl rfl) _
  have t1 := m.top.below hb
  have r1 := m.row.below hb
  have a1 := m.ram.below hb
  have old : ∀ i, i < k → gf i < wr.heap.size ∧ ∀ b, hf i = some b → b < wr.heap.size := fun i hi => by
    have := (m.buf i _ hi (List.getElem?_eq_getElem (by omega))).fit
    exact ⟨this.2.2.2.1, fun b hb => (this.2.2.2.2.1 b hb).1⟩
  have bq : ∀ (g' : Nat) (h' : Option Nat) (q' : List (Int × Int)), BufQ w1 g' h' N q' → BufQ (w1.setCell ⟨rb, k, none⟩ (ptr g)) g' h' N q' := fun g' h' q' hq' => by
    refine hq'.only ho ?_ ?_
    · obtain ⟨A, c, hx⟩ := hq'
      exact fun e => hx.top.ne r1 (by decide) e
    · obtain ⟨A, c, hx⟩ := hq'
      rcases hx.mem with ⟨_, rfl⟩ | ⟨b', off, cs, rfl, _, hr, _⟩
      · intro b hb; cases hb
      · intro b hb e
        injection hb with hb
        subst hb
        exact hr.ne r1 (by decide) e
  refine ⟨t1.far (p := ⟨rb, k, none⟩) (t1.ne r1 (by decide)) _, ⟨a1.top.far (p := ⟨rb, k, none⟩) (a1.top.ne r1 (by decide)) _, a1.low.far (p := ⟨rb, k, none⟩) (a1.low.ne r1 (by decide)) _, a1.len, a1.word⟩, ?_, ?_, ?_, ?_, m.new, ?_, ?_, ?_, hk, ?_⟩
  · have h1 := r1.put k (ptr g)
    have e : qs.length - k = (qs.length - (k + 1)) + 1 := by omega
    rw [e, ptrs_succ] at h1
    exact h1
  · intro i q' hi hq'
    by_cases e : i = k
    · subst e
      rw [hq] at hq'
      injection hq' with hq'
      subst hq'
      rw [if_pos rfl, if_pos rfl]
      exact bq _ _ _ hg
    · rw [if_neg e, if_neg e]
      exact bq _ _ _ ((m.buf i q' (by omega) hq').below hb)
  · intro i j hi hj hij
    by_cases e : i = k
    · rw [if_pos e, if_neg (by omega)]
      have := (old j (by omega)).1
      omega
    · rw [if_neg e]
      by_cases e2 : j = k
      · rw [if_pos e2]
        have := (old i (by omega)).1
        omega
      · rw [if_neg e2]
        exact m.gne i j (by omega) (by omega) hij
  · intro i j b hi hj hij h1 h2
    by_cases e : i = k
    · rw [if_pos e] at h1
      rw [if_neg (by omega)] at h2
      have := (old j (by omega)).2 b h2
      have := hlth b h1
      omega
    · rw [if_neg e] at h1
      by_cases e2 : j = k
      · rw [if_pos e2] at h2
        have := (old i (by omega)).2 b h1
        have := hlth b h2
        omega
      · rw [if_neg e2] at h2
        exact m.hne i j b (by omega) (by omega) hij h1 h2
  · intro i hi
    have := m.base
    by_cases e : i = k
    · rw [if_pos e]; omega
    · rw [if_neg e]; exact m.newg i (by omega)
  · intro i b hi h1
    have := m.base
    by_cases e : i = k
    · rw [if_pos e] at h1
      have := hlth b h1
      omega
    · rw [if_neg e] at h1
      exact m.newh i b (by omega) h1
  · exact (m.bel.trans (hb.mono m.base)).setCell (p := ⟨rb, k, none⟩) m.new.2.1 _
  · have := m.base
    have := hb.size
    simp [World.setCell]
    omega

theorem MkAt.done {w wr : World} {s tb rb rg rh N k : Nat} {l : List Int} {qs : List (List (Int × Int))} {gf : Nat → Nat} {hf : Nat → Option Nat} (m : MkAt w wr s tb rb rg rh N l qs k gf hf) (hk : k = qs.length)
    (ha : ∀ (i : Nat) (q : List (Int × Int)), qs[i]? = some q → ∀ p ∈ q, p.1 < l.length) (h1 : 1 ≤ qs.length) (h2 : qs.length ≤ 8) : BusAt wr ⟨tb, rg, rh, rb, gf, hf⟩ N l qs ∧ ∀ b, (⟨tb, rg, rh, rb, gf, hf⟩ : Lay).fp qs.length b → s ≤ b := by
  subst hk
  refine ⟨⟨m.top, m.ram, ?_, fun i q h => m.buf i q (lt_of_at h) h, ha, m.gne, m.hne, h1, h2⟩, ?_⟩
  · have := m.row
    rw [Nat.sub_self, List.replicate_zero, List.append_nil] at this
    exact this
  · obtain ⟨n1, n2, n3, n4⟩ := m.new
    rintro b (rfl | rfl | rfl | rfl | ⟨i, hi, rfl | h⟩)
    · exact n1
    · exact n3
    · exact n4
    · exact n2
    · exact m.newg i hi
    · exact m.newh i b hi h

/-- What a call leaves that returns a new bus. -/
def MadeP (N : Nat) (l : List Int) (qs : List (List (Int × Int))) (a : Nat → Value) (w : World) (e : Ending) (w' : World) : Prop :=
  ∃ L : Lay, e = .returned (a L.g) ∧ BusAt w' L N l qs ∧ (∀ b, L.fp qs.length b → w.heap.size ≤ b) ∧ Below w.heap.size w w'

theorem pbuf_info : (Try.prog.info? 78).map (fun i => (i.zero, i.size, i.bytes)) = some (some (.pointer none), 1, 8) := by kernel_rfl

theorem made_nils (n : Nat) : (madeCells #[Value.pointer none] n).toList = List.replicate n (.pointer none) := by
  simp [madeCells, Nat.mod_one, List.map_const']

set_option maxRecDepth 100000 in
set_option maxHeartbeats 1000000 in
theorem new6_core (c n b : Int) (w : World) (h : c < 1 ∨ 8 < c) :
    Calls Try.prog 11 #[.int .i64 c, .int .i64 n, .int .i64 b] w fun e w' => e = .returned (.tuple #[.pointer none, .int .i64 2]) ∧ w = w' := by
  by_cases h0 : c < 1
  · clear h
    go_enter Try.func11, Try.ntmps11
    go_wp2_with fail
    go_ret2
    exact ⟨rfl, rfl⟩
  · have h1 : 8 < c := by omega
    clear h
    go_enter Try.func11, Try.ntmps11
    go_wp2_with fail
    go_ret2
    exact ⟨rfl, rfl⟩

set_option maxRecDepth 100000 in
set_option maxHeartbeats 1000000 in
theorem new6_words (c n b : Int) (w : World) (h0 : 1 ≤ c) (h1 : c ≤ 8) (h : n < 1 ∨ 65536 < n) :
    Calls Try.prog 11 #[.int .i64 c, .int .i64 n, .int .i64 b] w fun e w' => e = .returned (.tuple #[.pointer none, .int .i64 2]) ∧ w = w' := by
  have k := Lib.hid (new_no n w h)
  clear h
  go_enter Try.func11, Try.ntmps11
  go_wp2_with (go_at_call 30; refine k.out.mono ?_; rintro e w' ⟨rfl, rfl⟩)
  go_ret2
  exact ⟨rfl, rfl⟩

set_option maxRecDepth 100000 in
set_option maxHeartbeats 2000000 in
theorem new6_yes (C n N : Nat) (w : World) (h0 : 1 ≤ C) (h1 : C ≤ 8) (hn0 : 1 ≤ n) (hn1 : n ≤ 65536) (hN0 : 1 ≤ N) (hN1 : N ≤ 16) :
    Calls Try.prog 11 #[.int .i64 (C : Int), .int .i64 (n : Int), .int .i64 (N : Int)] w (MadeP N (List.replicate n 0) (List.replicate C []) (fun g => .tuple #[ptr g, .int .i64 0]) w) := by
  have k := Lib.hid (new_yes n w hn0 hn1)
  have hmk := fun W => run_make_row' (P := Try.prog) 75 78 (.pointer none) 8 Try.underlying75 pbuf_info rfl .i64 .i64 C (by omega) (by omega) W
  have g1 : ¬ ((C : Int) < 1) := by omega
  have g2 : ¬ (8 < (C : Int)) := by omega
  unfold ptr at k
  go_enter Try.func11, Try.ntmps11
  go_wp2_with (go_at_call 30; refine k.out.mono ?_; rintro e w1 ⟨rfl, hr1, hb1⟩; have R1 := Lib.hid hr1; have HB1 := Lib.hid hb1; clear hr1 hb1)
  go_loopw [36] (fun c wr => ∃ k : Nat, k ≤ C ∧ c = .int .i64 k ∧ Hid (∃ gf hf, MkAt w wr w.heap.size (w1.heap.size + 1) w1.heap.size (w.heap.size + 1) w.heap.size N (List.replicate n 0) (List.replicate C []) k gf hf)) (fun c _ => C - (intOf c).toNat)
  case atStart =>
    have h1 := HB1.out.size
    have hrow := Row.new w1 78 (madeCells #[Value.pointer none] C)
    rw [made_nils] at hrow
    have hb2 : Below w1.heap.size w1 (w1.alloc (.cells (madeCells #[Value.pointer none] C) 78)) := below_al _ _
    have htop := Row.new (w1.alloc (.cells (madeCells #[Value.pointer none] C) 78)) 77 #[.pointer (some ⟨w.heap.size + 1, 0, none⟩), .slice (some ⟨w1.heap.size, 0, none⟩) C C]
    rw [size_al] at htop
    refine ⟨0, Nat.zero_le _, rfl, Lib.hid ⟨fun _ => 0, fun _ => none, ?_, (R1.out.below hb2).below (below_al _ _), ?_, fun i q hi => by omega, fun i j hi => by omega, fun i j b hi => by omega, ⟨by omega, by omega, by omega, by omega⟩, fun i hi => by omega, fun i b hi => by omega, below_on HB1.out (below_on hb2 (below_al _ _)), Nat.zero_le _, by simp only [size_al]; omega⟩⟩
    · rw [List.length_replicate]
      exact htop
    · rw [List.length_replicate]
      exact hrow.below (below_al _ _)
  case round =>
    obtain ⟨k, hk, rfl, hs⟩ := hrel
    obtain ⟨gf, hf, m⟩ := hs.out
    have ht := m.top
    have hrw := m.row
    rw [List.length_replicate] at ht hrw
    have c1 : wr.cell? ⟨w1.heap.size + 1, 1, none⟩ = some (.slice (some ⟨w1.heap.size, 0, none⟩) C C) := ht.cell 1
    have HT := Lib.hid ht
    have HRW := Lib.hid hrw
    have M := Lib.hid m
    clear hs m ht hrw
    by_cases hlt : k < C
    · go_wp2_with fail
      go_region_with (go_at_call 31; refine (bufNew_yes N (wr.drewN _) hN0 hN1).mono ?_; rintro e w2 ⟨g, rfl, hbq, hlt2, hb2⟩; have HB2 := Lib.hid (below_on (below_q wr _) hb2); have d1 : w2.cell? ⟨w1.heap.size + 1, 1, none⟩ = some (.slice (some ⟨w1.heap.size, 0, none⟩) C C) := (HT.out.below HB2.out).cell 1; have d2 : w2.cell? ⟨w1.heap.size, k, none⟩ = some (.pointer none) := (by rw [(HRW.out.below HB2.out).cell, List.getElem?_append_right (by rw [ptrs_len]; exact Nat.le_refl _), ptrs_len, Nat.sub_self, List.getElem?_replicate, if_pos (by omega)]); have d3 := (HRW.out.below HB2.out).soft k; have HQ := Lib.hid hbq; have HL := Lib.hid hlt2; clear hbq hlt2 hb2; unfold ptr)
      all_goals go_wp2_with fail
      all_goals go_roundw
      case rel => exact ⟨k + 1, by omega, by go_num, Lib.hid ⟨_, _, M.out.step HB2.out (q := []) (by rw [List.getElem?_replicate, if_pos hlt]) HQ.out HL.out (fun b h => by cases h)⟩⟩
      case measure => simp [intOf]; omega
      case rel => exact ⟨k + 1, by omega, by go_num, Lib.hid ⟨_, _, M.out.step HB2.out (q := []) (by rw [List.getElem?_replicate, if_pos hlt]) HQ.out HL.out (fun b h => by cases h)⟩⟩
      case measure => simp [intOf]; omega
    · obtain rfl : k = C := by omega
      go_wp2
      go_ret2
      obtain ⟨h2, h3⟩ := M.out.done (by simp) (fun i q hq p hp => by rw [List.getElem?_replicate] at hq; split at hq; (injection hq with hq; subst hq; simp at hp); cases hq) (by simpa using h0) (by simpa using h1)
      exact ⟨_, rfl, h2, h3, M.out.bel⟩

set_option maxRecDepth 100000 in
set_option maxHeartbeats 2000000 in
theorem new6_buf (C n : Nat) (b : Int) (w : World) (h0 : 1 ≤ C) (h1 : C ≤ 8) (hn0 : 1 ≤ n) (hn1 : n ≤ 65536) (hN : b < 1 ∨ 16 < b) :
    Calls Try.prog 11 #[.int .i64 (C : Int), .int .i64 (n : Int), .int .i64 b] w fun e w' => e = .returned (.tuple #[.pointer none, .int .i64 2]) ∧ Below w.heap.size w w' := by
  have k := Lib.hid (new_yes n w hn0 hn1)
  have hmk := fun W => run_make_row' (P := Try.prog) 75 78 (.pointer none) 8 Try.underlying75 pbuf_info rfl .i64 .i64 C (by omega) (by omega) W
  have g1 : ¬ ((C : Int) < 1) := by omega
  have g2 : ¬ (8 < (C : Int)) := by omega
  have HN := Lib.hid hN
  clear hN
  unfold ptr at k
  go_enter Try.func11, Try.ntmps11
  go_wp2_with (go_at_call 30; refine k.out.mono ?_; rintro e w1 ⟨rfl, hr1, hb1⟩; have HB1 := Lib.hid hb1; clear hr1 hb1)
  go_loopw [36] (fun c wr => c = .int .i64 0 ∧ Hid (Row wr (w1.heap.size + 1) 77 [.pointer (some ⟨w.heap.size + 1, 0, none⟩), .slice (some ⟨w1.heap.size, 0, none⟩) C C]) ∧ Hid (Row wr w1.heap.size 78 (List.replicate C (.pointer none))) ∧ Hid (Below w.heap.size w wr)) (fun _ _ => 0)
  case atStart =>
    have hrow := Row.new w1 78 (madeCells #[Value.pointer none] C)
    rw [made_nils] at hrow
    have hb2 : Below w1.heap.size w1 (w1.alloc (.cells (madeCells #[Value.pointer none] C) 78)) := below_al _ _
    have htop := Row.new (w1.alloc (.cells (madeCells #[Value.pointer none] C) 78)) 77 #[.pointer (some ⟨w.heap.size + 1, 0, none⟩), .slice (some ⟨w1.heap.size, 0, none⟩) C C]
    rw [size_al] at htop
    exact ⟨rfl, Lib.hid htop, Lib.hid (hrow.below (below_al _ _)), Lib.hid (below_on HB1.out (below_on hb2 (below_al _ _)))⟩
  case round =>
    obtain ⟨rfl, HT, HRW, HB⟩ := hrel
    have c1 : wr.cell? ⟨w1.heap.size + 1, 1, none⟩ = some (.slice (some ⟨w1.heap.size, 0, none⟩) C C) := HT.out.cell 1
    have c2 : wr.cell? ⟨w1.heap.size, 0, none⟩ = some (.pointer none) := (by rw [HRW.out.cell, List.getElem?_replicate, if_pos (by omega)])
    have c3 := HRW.out.soft 0
    have hC : (0 : Int) < (C : Int) := by omega
    have hsz := HB1.out.size
    go_wp2_with fail
    go_region_with (go_at_call 31; refine (bufNew_no b (wr.drewN _) HN.out).mono ?_; rintro e w2 ⟨rfl, rfl⟩)
    all_goals go_wp2_with fail
    all_goals go_ret2
    all_goals exact ⟨rfl, (below_dn HB.out _).setCell (p := ⟨w1.heap.size, 0, none⟩) hsz _⟩

theorem new6_no (c n b : Int) (w : World) (h : ¬ (1 ≤ c ∧ c ≤ 8 ∧ 1 ≤ n ∧ n ≤ 65536 ∧ 1 ≤ b ∧ b ≤ 16)) :
    Calls Try.prog 11 #[.int .i64 c, .int .i64 n, .int .i64 b] w fun e w' => e = .returned (.tuple #[.pointer none, .int .i64 2]) ∧ Below w.heap.size w w' := by
  by_cases h0 : 1 ≤ c ∧ c ≤ 8
  · by_cases h1 : 1 ≤ n ∧ n ≤ 65536
    · obtain ⟨C, rfl⟩ := Int.eq_ofNat_of_zero_le (a := c) (by omega)
      obtain ⟨m, rfl⟩ := Int.eq_ofNat_of_zero_le (a := n) (by omega)
      exact new6_buf C m b w (by omega) (by omega) (by omega) (by omega) (by omega)
    · exact (new6_words c n b w h0.1 h0.2 (by omega)).mono (fun e w' ⟨he, hw⟩ => ⟨he, hw ▸ Below.refl _ _⟩)
  · exact (new6_core c n b w (by omega)).mono (fun e w' ⟨he, hw⟩ => ⟨he, hw ▸ Below.refl _ _⟩)

#print axioms MkAt.step
#print axioms MkAt.done
#print axioms new6_yes
#print axioms new6_no
end Go.Proofs.Ytgoogclcpnfmkaa
