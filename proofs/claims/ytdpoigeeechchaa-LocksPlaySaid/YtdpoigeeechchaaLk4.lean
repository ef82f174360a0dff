/-
  Layer 10 (locks): Release, Clone, Same.
  Conditions: those that each theorem states.
-/
import Derived.Test.YtdpoigeeechchaaLk3
namespace Go.Proofs.Ytdpoigeeechchaa
open Go.ChangeShapes Go.WideShapes Go.ChangeAt Go.RowKit

/-- The owners when the locks of a list have been freed. -/
def freeAll (l : List Int) (ns : List Nat) : List Int := ns.foldl (fun l i => l.set i (-1)) l
theorem freeAll_len (ns : List Nat) : ∀ l : List Int, (freeAll l ns).length = l.length := by
  induction ns with
  | nil => intro l; rfl
  | cons n ns ih => intro l; simp only [freeAll, List.foldl_cons]; exact (ih _).trans (by simp)
theorem freeAll_more {l : List Int} {ns : List Nat} {k i : Nat} (h : ns[k]? = some i) : freeAll l (ns.take (k + 1)) = (freeAll l (ns.take k)).set i (-1) := by
  rw [List.take_add_one, h]
  simp [freeAll, List.foldl_append]
theorem freeAll_at (ns : List Nat) : ∀ (l : List Int) (i : Nat), i < l.length → (freeAll l ns)[i]? = if i ∈ ns then some (-1) else l[i]? := by
  induction ns with
  | nil => intro l i _; simp [freeAll]
  | cons n ns ih =>
    intro l i hi
    simp only [freeAll, List.foldl_cons]
    have := ih (l.set n (-1)) i (by simpa using hi)
    simp only [freeAll] at this
    rw [this]
    by_cases h1 : i ∈ ns
    · simp [h1]
    · by_cases h2 : i = n
      · subst h2; simp [h1, hi]
      · simp [h1, h2, List.getElem?_set]
        intro e; exact absurd e.symm h2

def relL (C : Nat) (l : List Int) (c : Int) : List Int := if ckC C c = 0 then freeAll l (heldN l c l.length) else l

set_option maxRecDepth 100000 in
set_option maxHeartbeats 400000 in
theorem release10_nil (core : Int) (w : World) :
    Calls Try.prog 23 #[.pointer none, .int .i64 core] w fun e w' => e = .returned (.tuple #[.int .i64 0, .int .i64 1]) ∧ w = w' := by
  have k1 := Lib.hid (checkCore_nil core w)
  go_enter Try.func23, Try.ntmps23
  go_wp2_with fail
  refine k1.out.mono ?_
  rintro e w' ⟨rfl, rfl⟩
  go_wp2
  go_ret2
  exact ⟨rfl, rfl⟩

set_option maxRecDepth 100000 in
set_option maxHeartbeats 2000000 in
theorem release10_any (g C : Nat) (l : List Int) (core : Int) (w : World) (r : BankAt w g C l) :
    Calls Try.prog 23 #[ptr g, .int .i64 core] w (BankP g C (relL C l core) (.tuple #[.int .i64 (heldA C l core).length, .int .i64 (ckC C core)]) w) := by
  have k1 := Lib.hid (checkCore_any g C l core w r)
  have k2 := Lib.hid (held10_any g C l core w r)
  unfold ptr at k1 k2 ⊢
  by_cases h : ckC C core = 0
  · have hA : heldA C l core = heldL l core l.length := by unfold heldA; rw [if_pos h]
    have hR : relL C l core = freeAll l (heldN l core l.length) := by unfold relL; rw [if_pos h]
    rw [hA] at k2 ⊢
    rw [hR]
    rw [h] at k1 ⊢
    have hgl := r.row.lt
    obtain ⟨ns, hns⟩ : ∃ ns, heldN l core l.length = ns := ⟨_, rfl⟩
    have hm : ∀ i, i ∈ ns → i < l.length := fun i hi => by rw [← hns] at hi; exact (heldN_mem.1 hi).1
    have hl : heldL l core l.length = ns.map (fun (i : Nat) => (i : Int)) := by unfold heldL; rw [hns]
    have hnl : ns.length ≤ 16 := by have := heldN_len l core l.length; rw [hns] at this; have := r.n16; omega
    rw [hl] at k2 ⊢
    rw [hns]
    obtain ⟨m, hmm⟩ : ∃ m, ns.length = m := ⟨_, rfl⟩
    have e1 : (ns.map (fun (i : Nat) => (i : Int))).length = m := by rw [List.length_map, hmm]
    rw [e1]
    rw [hmm] at hnl
    have HM := Lib.hid hmm
    have HMEM := Lib.hid hm
    have R := Lib.hid r
    clear r h hA hR hns hm hl hmm e1
    go_enter Try.func23, Try.ntmps23
    go_wp2_with fail
    refine k1.out.mono ?_
    rintro e w' ⟨rfl, rfl⟩
    go_wp2_with fail
    refine k2.out.mono ?_
    rintro e w1 ⟨v, rfl, hown, hb1⟩
    have hlies := Lies.of_own hown
    obtain ⟨A, c, rfl, hA⟩ := hlies
    rw [show (ints (ns.map (fun (i : Nat) => (i : Int)))).length = m from by rw [ints_len, List.length_map, HM.out]] at hA ⊢
    have HA := Lib.hid hA
    have HB1 := Lib.hid hb1
    clear hA hb1 hown
    go_wp2
    go_loopw [21] (fun i wr => ∃ k : Nat, k ≤ m ∧ i = .int .i64 k ∧ Hid (BankAt wr g C (freeAll l (ns.take k))) ∧ Hid (Only (· = g) w1 wr)) (fun i _ => m - (intOf i).toNat)
    case atStart => exact ⟨0, Nat.zero_le _, rfl, Lib.hid (by simpa [freeAll] using R.out.below HB1.out), Lib.hid (Only.refl _ _)⟩
    case round =>
      obtain ⟨k, hk, rfl, HR, HO⟩ := hrel
      by_cases hlt : k < m
      · obtain ⟨b, o, rfl, hbb, hbl, hc⟩ := HA.out (by omega)
        obtain ⟨i, hi⟩ : ∃ i, ns[k]? = some i := ⟨_, List.getElem?_eq_getElem (by rw [HM.out]; exact hlt)⟩
        have hil : i < l.length := HMEM.out i (List.mem_of_getElem? hi)
        have h16 : i < 16 := by have := R.out.n16; omega
        have hbg : b ≠ g := by omega
        have c1 : wr.cell? ⟨b, o + k, none⟩ = some (.int .i64 i) := by
          rw [World.cell?_of_block (w := w1) (HO.out.block b hbl hbg)]
          exact hc k _ (ints_some (by simp [hi]))
        obtain ⟨x, hx⟩ : ∃ x, (freeAll l (ns.take k))[i]? = some x := ⟨_, List.getElem?_eq_getElem (by rw [freeAll_len]; exact hil)⟩
        have c2 : wr.cell? ⟨g, 2 + i, none⟩ = some (.int .i64 x) := (HR.out.row.cell (2 + i)).trans (bcells_at hx)
        have hs := HR.out.row.soft (2 + i)
        have R1 := HR.out.put (k := i) (by rw [freeAll_len]; exact hil) (x := -1) (.inl rfl)
        rw [← freeAll_more hi] at R1
        have HR1 := Lib.hid R1
        have HO1 := Lib.hid (HO.out.trans (only_put10 wr g (2 + i) (.int .i64 (-1))))
        clear R1 hi hx hc
        go_wp2
        go_roundw
        case rel => exact ⟨k + 1, by omega, by go_num, HR1, HO1⟩
        case measure => simp [intOf]; omega
      · obtain rfl : k = m := by omega
        go_wp2
        go_ret2
        refine ⟨rfl, ?_, (Only.of_below HB1.out _).trans HO.out⟩
        have := HR.out
        rwa [List.take_of_length_le (by rw [HM.out]; exact Nat.le_refl _)] at this
  · have hA : heldA C l core = [] := by unfold heldA; rw [if_neg h]
    have hR : relL C l core = l := by unfold relL; rw [if_neg h]
    rw [hA, hR]
    obtain ⟨c, hc⟩ : ∃ c, ckC C core = c := ⟨_, rfl⟩
    rw [hc] at k1 h ⊢
    have hb : (c != 0) = true := by simpa using h
    have R := Lib.hid r
    clear r hc h hA hR k2
    go_enter Try.func23, Try.ntmps23
    go_wp2_with fail
    refine k1.out.mono ?_
    rintro e w' ⟨rfl, rfl⟩
    go_wp2
    go_ret2
    exact ⟨rfl, R.out, Only.refl _ _⟩

set_option maxRecDepth 100000 in
set_option maxHeartbeats 400000 in
theorem clone10_nil (w : World) :
    Calls Try.prog 13 #[.pointer none] w fun e w' => e = .returned (.pointer none) ∧ w = w' := by
  go_enter Try.func13, Try.ntmps13
  go_wp2
  go_ret
  exact ⟨rfl, rfl⟩

set_option maxRecDepth 100000 in
set_option maxHeartbeats 1000000 in
theorem clone10_any (g C : Nat) (l : List Int) (w : World) (r : BankAt w g C l) :
    Calls Try.prog 13 #[ptr g] w (MadeK C l w) := by
  have R := Lib.hid r
  have hgl := r.row.lt
  have SZ : Hid ((Try.prog.info? 54).map (·.size) = some (bcells C l).length) := Lib.hid (by rw [bcells_len r.n16]; exact bank_size)
  have ZL : Hid ((ints (List.replicate 18 0)).length = (bcells C l).length) := Lib.hid (by rw [bcells_len r.n16, ints_len, List.length_replicate])
  have ON : Hid (∀ v ∈ bcells C l, v.oneCell' = true) := Lib.hid (by
    intro v hv
    simp only [bcells, List.mem_cons] at hv
    rcases hv with rfl | rfl | hv
    · rfl
    · rfl
    · exact ints_one _ v hv)
  clear r
  unfold ptr
  go_enter Try.func13, Try.ntmps13
  go_wp2_with (first
    | (with_reducible refine loadRow_walk rfl 54 (.tmp 7) rfl g rfl (bcells C l) bank_struct SZ.out 54 R.out.row ?_)
    | ((with_reducible refine alloc_walk (o := ⟨some 3, _, _, _, _, _⟩) rfl 54 rfl _ bank_zero ?_); intro y1 ry1 by1 zy1; clear zy1)
    | ((with_reducible refine storeRow_walk rfl 54 (.tmp 3) (.tmp 8) rfl w.heap.size rfl (bcells C l) rfl SZ.out 54 (ints (List.replicate 18 0)) ry1 ZL.out ON.out ?_); intro y2 ry2 oy2 zy2; have BY := Lib.hid (Only.below by1 oy2 by1.size (fun g hg => Nat.ne_of_lt hg)); have RY := Lib.hid ry2; clear zy2 oy2 ry1 by1 ry2))
  go_ret
  exact ⟨w.heap.size, rfl, ⟨RY.out, R.out.c0, R.out.c8, R.out.n0, R.out.n16, R.out.ok⟩, Nat.le_refl _, BY.out⟩

set_option maxRecDepth 100000 in
set_option maxHeartbeats 400000 in
theorem same10_nil (w : World) :
    Calls Try.prog 14 #[.pointer none, .pointer none] w fun e w' => e = .returned (.bool true) ∧ w = w' := by
  go_enter Try.func14, Try.ntmps14
  go_wp2
  go_ret
  exact ⟨rfl, rfl⟩

set_option maxRecDepth 100000 in
set_option maxHeartbeats 400000 in
theorem same10_left (g : Nat) (w : World) :
    Calls Try.prog 14 #[.pointer none, .pointer (some ⟨g, 0, none⟩)] w fun e w' => e = .returned (.bool false) ∧ w = w' := by
  have hn := fun W => nil_left (P := Try.prog) 26 54 ⟨g, 0, none⟩ Try.underlying26 W
  go_enter Try.func14, Try.ntmps14
  go_wp2
  go_ret
  exact ⟨rfl, rfl⟩

set_option maxRecDepth 100000 in
set_option maxHeartbeats 400000 in
theorem same10_right (g : Nat) (w : World) :
    Calls Try.prog 14 #[.pointer (some ⟨g, 0, none⟩), .pointer none] w fun e w' => e = .returned (.bool false) ∧ w = w' := by
  go_enter Try.func14, Try.ntmps14
  go_wp2
  go_ret
  exact ⟨rfl, rfl⟩

#print axioms release10_any
#print axioms clone10_any
#print axioms same10_left
end Go.Proofs.Ytdpoigeeechchaa
