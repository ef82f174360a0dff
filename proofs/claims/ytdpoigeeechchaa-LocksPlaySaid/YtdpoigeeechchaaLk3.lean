/-
  Layer 10 (locks): Held, Release, Clone, Same.
  Conditions: those that each theorem states.
-/
import Derived.Test.YtdpoigeeechchaaLk2
import Derived.Test.YtdpoigeeechchaaEqual
import Derived.Test.YtdpoigeeechchaaREq
import Derived.Deep.DeepMust
namespace Go.Proofs.Ytdpoigeeechchaa
open Go.ChangeShapes Go.WideShapes Go.ChangeAt Go.RowKit

/-- The places below k at which a list holds c. -/
def heldN (l : List Int) (c : Int) : Nat → List Nat
  | 0 => []
  | k + 1 => heldN l c k ++ (if l[k]? = some c then [k] else [])
def heldL (l : List Int) (c : Int) (k : Nat) : List Int := (heldN l c k).map (fun (i : Nat) => (i : Int))
theorem heldN_len (l : List Int) (c : Int) : ∀ k, (heldN l c k).length ≤ k
  | 0 => Nat.le_refl _
  | k + 1 => by
    have := heldN_len l c k
    simp only [heldN, List.length_append]
    split <;> simp <;> omega
theorem heldL_len (l : List Int) (c : Int) (k : Nat) : (heldL l c k).length ≤ k := by
  simpa [heldL] using heldN_len l c k
theorem heldL_more {l : List Int} {c : Int} {k : Nat} (h : l[k]? = some c) : heldL l c (k + 1) = heldL l c k ++ [(k : Int)] := by
  simp [heldL, heldN, h]
theorem heldL_skip {l : List Int} {c : Int} {k : Nat} (h : l[k]? ≠ some c) : heldL l c (k + 1) = heldL l c k := by
  simp [heldL, heldN, h]
theorem heldN_mem {l : List Int} {c : Int} {i : Nat} : ∀ {k : Nat}, i ∈ heldN l c k ↔ i < k ∧ l[i]? = some c
  | 0 => by simp [heldN]
  | k + 1 => by
    have ih := heldN_mem (l := l) (c := c) (i := i) (k := k)
    simp only [heldN, List.mem_append, ih]
    by_cases h : l[k]? = some c
    · rw [if_pos h]
      simp only [List.mem_singleton]
      constructor
      · rintro (h1 | rfl)
        · exact ⟨by omega, h1.2⟩
        · exact ⟨by omega, h⟩
      · rintro ⟨h1, h2⟩
        by_cases e : i = k
        · exact .inr e
        · exact .inl ⟨by omega, h2⟩
    · rw [if_neg h]
      simp only [List.not_mem_nil, or_false]
      constructor
      · rintro ⟨h1, h2⟩; exact ⟨by omega, h2⟩
      · rintro ⟨h1, h2⟩
        by_cases e : i = k
        · subst e; exact absurd h2 h
        · exact ⟨by omega, h2⟩
theorem heldN_none {l : List Int} {c : Int} (h : ∀ i : Nat, l[i]? ≠ some c) : ∀ k, heldN l c k = []
  | 0 => rfl
  | k + 1 => by simp [heldN, heldN_none h k, h k]
theorem heldN_pad {l : List Int} {c : Int} {k : Nat} (hk : k ≤ l.length) : heldN (padL l) c k = heldN l c k := by
  induction k with
  | zero => rfl
  | succ k ih => simp only [heldN, ih (by omega), padL_at (show k < l.length by omega)]
theorem heldN_full {l : List Int} {c : Int} (hc : 0 ≤ c) : ∀ {k : Nat}, l.length ≤ k → k ≤ 16 → heldN (padL l) c k = heldN l c l.length
  | 0, h, _ => by rw [show l.length = 0 from by omega]; rfl
  | k + 1, h, h16 => by
    by_cases e : l.length = k + 1
    · rw [e]
      exact heldN_pad (by omega)
    · have ih := heldN_full (l := l) hc (k := k) (by omega) (by omega)
      have hn : (padL l)[k]? ≠ some c := by
        rw [padL_end (by omega) (by omega)]
        intro h1
        injection h1 with h1
        omega
      simp only [heldN, if_neg hn, List.append_nil, ih]
theorem heldL_full {l : List Int} {c : Int} (hc : 0 ≤ c) (h : l.length ≤ 16) : heldL (padL l) c 16 = heldL l c l.length := by
  unfold heldL
  rw [heldN_full hc h (Nat.le_refl _)]

/-- The answer of Held. -/
def heldA (C : Nat) (l : List Int) (c : Int) : List Int := if ckC C c = 0 then heldL l c l.length else []

/-- What a call leaves that returns a list of its own. -/
def HeldP (xs : List Int) (w : World) (e : Ending) (w' : World) : Prop := ∃ v, e = .returned v ∧ w'.ownsRow w.heap.size 3 1 v xs.length (ints xs) ∧ Below w.heap.size w w'

theorem bank_struct : isStruct Try.prog 54 = true := by kernel_rfl
theorem bank_size : (Try.prog.info? 54).map (·.size) = some 18 := by kernel_rfl
theorem bank_zero : (Try.prog.info? 54).map (·.zero) = some (some (.agg (ints (List.replicate 18 0)).toArray)) := by kernel_rfl
theorem arr16_struct : isStruct Try.prog 52 = true := by kernel_rfl
theorem arr16_size : (Try.prog.info? 52).map (·.size) = some 16 := by kernel_rfl

/-- An element of an array that was loaded. -/
theorem run_index16 {p : List Int} {k : Nat} {x : Int} (hk : k < 16) (hx : p[k]? = some x) (W : World) :
    (Instr.index 52 (.agg (ints p).toArray) (.int .i64 (k : Int))).run Try.prog W = .ok (.int .i64 x) W := by
  have i0 : ∀ W, (isAgg 3).run Try.prog W = .ok false W := fun W => by simp [isAgg, run_underlying Try.underlying3]
  have hp := part_int (t := 3) i0 hx W
  have h1 : (0 : Int) ≤ (k : Int) ∧ (k : Int) < ((16 : Nat) : Int) := by omega
  simp only [Instr.index, asIntOf, Sem.run_bind, Sem.run_pure, Result.andThen_ok, run_underlying Try.underlying52]
  rw [if_pos h1]
  simp only [Sem.run_bind, Try.sizeOf3, Result.andThen_ok, Nat.mul_one]
  simpa using hp

set_option maxRecDepth 100000 in
set_option maxHeartbeats 400000 in
theorem held10_nil (core : Int) (w : World) :
    Calls Try.prog 18 #[.pointer none, .int .i64 core] w fun e w' => e = .returned (.slice none 0 0) ∧ w = w' := by
  have k1 := Lib.hid (checkCore_nil core w)
  go_enter Try.func18, Try.ntmps18
  go_wp2_with fail
  refine k1.out.mono ?_
  rintro e w' ⟨rfl, rfl⟩
  go_wp2
  go_ret
  exact ⟨rfl, rfl⟩

set_option maxRecDepth 100000 in
set_option maxHeartbeats 2000000 in
theorem held10_any (g C : Nat) (l : List Int) (core : Int) (w : World) (r : BankAt w g C l) :
    Calls Try.prog 18 #[ptr g, .int .i64 core] w (HeldP (heldA C l core) w) := by
  obtain ⟨i0, hi0, hz0, hz1, hz2⟩ := info_parts int_info
  have k1 := Lib.hid (checkCore_any g C l core w r)
  unfold ptr at k1 ⊢
  by_cases h : ckC C core = 0
  · have hA : heldA C l core = heldL (padL l) core 16 := by
      unfold heldA
      rw [if_pos h, heldL_full (ckC_zero h).1 r.n16]
    rw [hA]
    rw [h] at k1
    obtain ⟨p, hp⟩ : ∃ p, padL l = p := ⟨_, rfl⟩
    have hpl : p.length = 16 := by rw [← hp]; exact padL_len r.n16
    have HCELL : Hid (∀ j u, (ints p)[j]? = some u → w.cell? ((⟨g, 2, none⟩ : Addr).add j) = some u) := Lib.hid (fun j u hu => by
      rw [Addr.add_lit, r.row.cell, Nat.add_comm]
      simp only [bcells, List.getElem?_cons_succ]
      rw [hp]; exact hu)
    have SZ : Hid ((Try.prog.info? 52).map (·.size) = some (ints p).length) := Lib.hid (by rw [ints_len, hpl]; exact arr16_size)
    rw [hp]
    have HPL := Lib.hid hpl
    clear r h hA hp hpl
    go_enter Try.func18, Try.ntmps18
    go_wp2_with fail
    refine k1.out.mono ?_
    rintro e w' ⟨rfl, rfl⟩
    go_wp2_with (with_reducible refine load_walk rfl 52 (.tmp 14) rfl ⟨g, 2, none⟩ rfl (ints p) arr16_struct SZ.out HCELL.out ?_)
    go_loopw [5, 16] (fun v i wr => ∃ k : Nat, k ≤ 16 ∧ i = .int .i64 k ∧ Hid (wr.ownsRow w.heap.size 3 1 v (heldL p core k).length (ints (heldL p core k))) ∧ Hid (Below w.heap.size w wr)) (fun _ i _ => 16 - (intOf i).toNat)
    case atStart => exact ⟨0, Nat.zero_le _, rfl, Lib.hid (World.ownsRow_nil _ _ _ _), Lib.hid (Below.refl _ _)⟩
    case round =>
      obtain ⟨k, hk, rfl, HO, HB⟩ := hrel
      by_cases hlt : k < 16
      · obtain ⟨x, hx⟩ : ∃ x, p[k]? = some x := ⟨_, List.getElem?_eq_getElem (by rw [HPL.out]; exact hlt)⟩
        have hrun := fun W => run_index16 hlt hx W
        have hkl := heldL_len p core k
        have HX := Lib.hid hx
        clear hx
        by_cases hf : x = core
        · subst hf
          go_wp2_with (at_builtin; go_must ((refine wpList_append_own _ rfl (.tmp 23) (.tmp 25) 29 rfl w.heap.size 3 i0 _ 1 8 Try.underlying29 hi0 hz0 hz1 hz2 rfl (by omega) _ _ _ rfl (HO.out.alloc _) ⟨_, 0, none⟩ 1 1 [.int .i64 (k : Int)] rfl rfl (cell_one_new _ _ _) (by intro u hu; simp at hu; subst hu; rfl) (by unfold maxLen; omega) (by omega) (by simp; have := HB.out.size; omega) ?_); intro v1 w1 hown1 hg1 _; have HO1 := Lib.hid hown1; have HB1 := Lib.hid ((HB.out.alloc HB.out.size _).grown hg1 (by simp; have := HB.out.size; omega) (fun q hq => (HO.out.lt q hq).1)); clear hown1 hg1))
          go_roundw
          case rel =>
            refine ⟨k + 1, by omega, by go_num, Lib.hid ?_, HB1⟩
            have := HO1.out
            rw [heldL_more HX.out, List.length_append, ints_append]
            exact this
          case measure => simp [intOf]; omega
        · have hb : (x == core) = false := by simpa using hf
          have hne : p[k]? ≠ some core := by rw [HX.out]; intro e; injection e with e; exact hf e
          have HN := Lib.hid hne
          clear hne hf
          go_wp2
          go_roundw
          case rel => exact ⟨k + 1, by omega, by go_num, by rw [heldL_skip HN.out]; exact HO, HB⟩
          case measure => simp [intOf]; omega
      · obtain rfl : k = 16 := by omega
        go_wp2
        go_ret
        exact ⟨_, rfl, HO.out, HB.out⟩
  · have hA : heldA C l core = [] := by unfold heldA; rw [if_neg h]
    rw [hA]
    obtain ⟨c, hc⟩ : ∃ c, ckC C core = c := ⟨_, rfl⟩
    rw [hc] at k1 h
    have hb : (c != 0) = true := by simpa using h
    clear r hc h hA
    go_enter Try.func18, Try.ntmps18
    go_wp2_with fail
    refine k1.out.mono ?_
    rintro e w' ⟨rfl, rfl⟩
    go_wp2
    go_ret
    exact ⟨_, rfl, World.ownsRow_nil _ _ _ _, Below.refl _ _⟩

#print axioms held10_any
end Go.Proofs.Ytdpoigeeechchaa
