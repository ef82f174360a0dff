/-
  Layer 10 (locks): the law's like: a bank has just the reference's owners.
  Conditions: those that each theorem states.
-/
import Derived.Test.YtdpoigeeechchaaRLk
import Derived.Deep.RegionHeld3
import Derived.Deep.RegionWith
namespace Go.Proofs.Ytdpoigeeechchaa
open Go.ChangeShapes Go.WideShapes Go.ChangeAt Go.RowKit

theorem held_agree {C : Nat} {l : List Int} {c : Int} (hok : ∀ (i : Nat) (x : Int), l[i]? = some x → OwnOk C x) : heldA C l c = rheldA l c := by
  unfold heldA rheldA
  by_cases h0 : 0 ≤ c
  · by_cases h1 : c < C
    · rw [if_pos (ckC_yes h0 h1), if_pos h0]
    · rw [if_neg (by rw [ckC_no (.inr (by omega))]; decide), if_pos h0]
      have hn : ∀ i : Nat, l[i]? ≠ some c := fun i hi => by rcases hok i c hi with h | h <;> omega
      simp [heldL, heldN_none hn]
  · rw [if_neg (by rw [ckC_no (.inl (by omega))]; decide), if_neg h0]

/-- What Held of either side leaves, seen from an earlier world. -/
def HeldS (xs : List Int) (w0 W : World) (e : Ending) (w' : World) : Prop :=
  ∃ v, e = .returned v ∧ Hid (Lies w' (fun _ => True) v (ints xs)) ∧ Below w0.heap.size w0 w' ∧ Hid (Below W.heap.size W w')

theorem held_s {g C : Nat} {l : List Int} {w0 : World} (r : BankAt w0 g C l) (c : Int) (W : World) (hb : Below w0.heap.size w0 W) : Calls Try.prog 18 #[.pointer (some ⟨g, 0, none⟩), .int .i64 c] W (HeldS (heldA C l c) w0 W) :=
  (held10_any g C l c W (r.below hb)).mono fun _ _ ⟨v, he, hv, hb'⟩ => ⟨v, he, (Lies.of_own hv).weak (fun _ _ _ => trivial), below_on hb hb', hb'⟩

theorem rheld_s {P : Nat → Prop} {C : Nat} {v : Value} {l : List Int} {w0 : World} (hv : Lies w0 P v (ints l)) (hl : l.length ≤ 16) (c : Int) (W : World) (hb : Below w0.heap.size w0 W) : Calls Try.prog 21 #[rbankV C v, .int .i64 c] W (HeldS (rheldA l c) w0 W) :=
  (rheld10_any P C v l c W (hv.below hb) hl).mono fun _ _ ⟨v, he, hv, hb'⟩ => ⟨v, he, (Lies.of_own hv).weak (fun _ _ _ => trivial), below_on hb hb', hb'⟩

theorem same_s10 {P Q : Nat → Prop} {q : List Int} {v u : Value} {w4 W : World} (hv : Lies W P v (ints q)) (hu : Lies W Q u (ints q)) (hq : q.length ≤ 65536) (hb : Below w4.heap.size w4 W) :
    Calls Try.prog 15 #[v, u] W fun e w' => e = .returned (.bool true) ∧ Below w4.heap.size w4 w' :=
  (rsame_yes P Q v u q W hv hu hq).mono fun _ _ ⟨he, hb'⟩ => ⟨he, below_on hb hb'⟩

theorem keep10 {w0 w' : World} {B : Nat} {a b : Value} (f0 : w0.cell? ⟨B, 0, none⟩ = some a) (f1 : w0.cell? ⟨B, 1, none⟩ = some b) (hlt : B < w0.heap.size) (hb : Below w0.heap.size w0 w') :
    w'.cell? ⟨B, 0, none⟩ = some a ∧ w'.cell? ⟨B, 1, none⟩ = some b ∧ Below w0.heap.size w0 w' :=
  ⟨(hb.cell (p := ⟨B, 0, none⟩) hlt).trans f0, (hb.cell (p := ⟨B, 1, none⟩) hlt).trans f1, hb⟩

set_option maxRecDepth 100000 in
set_option maxHeartbeats 4000000 in
theorem like10_yes (g C : Nat) (l : List Int) (P : Nat → Prop) (v : Value) (w : World) (r : BankAt w g C l) (hv : Lies w P v (ints l)) :
    Calls Try.prog 12 #[ptr g, rbankV C v] w fun e w' => e = .returned (.bool true) ∧ Below w.heap.size w w' := by
  obtain ⟨A, n, cc, rfl, HN, HV⟩ := hv.open10
  have hc8 := r.c8
  have hn16 : n ≤ 16 := by rw [← HN.out]; exact r.n16
  have hb0 := below_al w (.cells #[.int .i64 C, .slice A n cc] 31)
  have r0 := r.below hb0
  have v0 := HV.out.below hb0
  have row := Row.new w 31 #[.int .i64 C, .slice A n cc]
  unfold ptr rbankV
  go_enter Try.func12, Try.ntmps12
  go_wp2
  have HB0 := Lib.hid hb0
  generalize w.alloc (.cells #[.int .i64 C, .slice A n cc] 31) = w0 at r0 v0 row HB0 ⊢
  have f0 := row.cell 0
  have f1 := row.cell 1
  have hlt := row.lt
  simp only [List.getElem?_cons_zero, List.getElem?_cons_succ] at f0 f1
  have hbb : Below w0.heap.size w0 w0 := Below.refl _ _
  have ln := Lib.hid (fun W (hb : Below w0.heap.size w0 W) => len10_any g C l W (r0.below hb))
  rw [HN.out] at ln
  have R0 := Lib.hid r0
  have V0 := Lib.hid v0
  have b2 : ((n : Int) != (n : Int)) = false := by simp
  unfold ptr at ln
  generalize w.heap.size = B at f0 f1 hlt ⊢
  clear r hv HV hb0 r0 v0 row
  go_region_held3 (fun w' => w'.cell? ⟨B, 0, none⟩ = some (.int .i64 C) ∧ w'.cell? ⟨B, 1, none⟩ = some (.slice A n cc) ∧ Below w0.heap.size w0 w')
    (first
      | exact keep10 f0 f1 hlt hbb.drew
      | exact keep10 f0 f1 hlt hbb
      | go_keep)
    (first
      | (go_at_call 16; (with_reducible refine (ln.out _ ?_).mono ?_); (go_split_ands; assumption); rintro e w' ⟨rfl, rfl⟩))
  all_goals go_wp2
  go_loopw [19] (fun iv wr => ∃ k : Nat, k ≤ n ∧ iv = .int .i64 k ∧ Hid (Below w0.heap.size w0 wr)) (fun iv _ => n - (intOf iv).toNat)
  case atStart => exact ⟨0, Nat.zero_le _, rfl, Lib.hid hbb.drew⟩
  case round =>
    obtain ⟨k, hk, rfl, HB⟩ := hrel
    have g0 := (HB.out.cell (p := ⟨B, 0, none⟩) hlt).trans f0
    have g1 := (HB.out.cell (p := ⟨B, 1, none⟩) hlt).trans f1
    by_cases hkn : k < n
    · obtain ⟨A', c', hsl, hA⟩ := V0.out.below HB.out
      rw [ints_len, HN.out] at hsl hA
      injection hsl with e1 _ e3
      subst e1 e3
      obtain ⟨b, o, rfl, hPb, hbl, hcell⟩ := hA (by omega)
      obtain ⟨x, hx⟩ : ∃ x, l[k]? = some x := ⟨_, List.getElem?_eq_getElem (by rw [HN.out]; exact hkn)⟩
      have hxc : wr.cell? ⟨b, o + k, none⟩ = some (.int .i64 x) := hcell k _ (ints_some hx)
      have ow := owner10_any g C l (k : Int) wr (R0.out.below HB.out)
      rw [show ownV l (k : Int) = x from by unfold ownV; rw [ckL_yes (Int.natCast_nonneg k) (by rw [HN.out]; omega), if_pos rfl]; simp [hx], show ckL l.length (k : Int) = 0 from ckL_yes (Int.natCast_nonneg k) (by rw [HN.out]; omega)] at ow
      unfold ptr at ow
      have OW := Lib.hid ow
      have b3 : (x != x) = false := by simp
      clear hx hcell hA ow
      go_wp2_with fail
      refine OW.out.mono ?_
      rintro e w' ⟨rfl, rfl⟩
      go_wp2
      go_roundw
      case rel => exact ⟨k + 1, by omega, by go_num, HB⟩
      case measure => simp [intOf]; omega
    · obtain rfl : k = n := by omega
      go_wp2
      go_loopw [9] (fun iv wr2 => ∃ cv : Int, -1 ≤ cv ∧ cv ≤ C + 1 ∧ iv = .int .i64 cv ∧ Hid (Below w0.heap.size w0 wr2)) (fun iv _ => (C + 1 - intOf iv).toNat)
      case atStart => exact ⟨-1, by omega, by omega, rfl, HB⟩
      case round =>
        obtain ⟨cv, hc0, hc1, rfl, HB2⟩ := hrel
        obtain ⟨wo, rfl⟩ : ∃ wo, wo = wr := ⟨_, rfl⟩
        have f0' := (HB2.out.cell (p := ⟨B, 0, none⟩) hlt).trans f0
        have f1' := (HB2.out.cell (p := ⟨B, 1, none⟩) hlt).trans f1
        have hlt' := Nat.lt_of_lt_of_le hlt HB2.out.size
        by_cases hle : cv ≤ C
        · have he := Lib.hid (held_agree (c := cv) R0.out.ok)
          have hd := Lib.hid (held_s (R0.out.below HB2.out) cv)
          have rh := Lib.hid (rheld_s (C := C) (V0.out.below HB2.out) (by rw [HN.out]; exact hn16) cv)
          rw [← he.out] at rh
          have hxl : (heldA C l cv).length ≤ 65536 := by
            unfold heldA
            split
            · have := heldL_len l cv l.length; rw [HN.out] at this; rw [HN.out]; omega
            · simp
          have HXL := Lib.hid hxl
          obtain ⟨X, hX⟩ : ∃ X, heldA C l cv = X := ⟨_, rfl⟩
          rw [hX] at hd rh HXL
          have hbb2 : Below wo.heap.size wo wo := Below.refl _ _
          have HB3 := Lib.hid HB2.out
          unfold rbankV at rh
          clear hX hxl he
          go_wp2
          go_region_held3 (fun w' => w'.cell? ⟨B, 0, none⟩ = some (.int .i64 C) ∧ w'.cell? ⟨B, 1, none⟩ = some (.slice A k cc) ∧ Below wo.heap.size wo w')
            (first
              | exact keep10 f0' f1' hlt' hb7
              | exact keep10 f0' f1' hlt' hb6
              | exact keep10 f0' f1' hlt' hb5
              | exact keep10 f0' f1' hlt' hbb2.drew
              | exact keep10 f0' f1' hlt' hbb2
              | go_keep)
            (first
              | (go_at_call 18; (with_reducible refine (hd.out _ ?_).mono ?_); (go_split_ands; assumption); rintro e w5 ⟨v5, rfl, hv5, hb5, hk5⟩)
              | (go_at_call 21; (with_reducible refine (rh.out _ ?_).mono ?_); (go_split_ands; assumption); rintro e w6 ⟨v6, rfl, hv6, hb6, hk6⟩)
              | (go_at_call 15; (with_reducible refine (same_s10 (w4 := wo) (hv5.out.below hk6.out) hv6.out HXL.out ?_).mono ?_); (go_split_ands; assumption); rintro e w7 ⟨rfl, hb7⟩)
              | (go_at_call 15; (with_reducible refine (same_s10 (w4 := wo) hv5.out (hv6.out.below hk5.out) HXL.out ?_).mono ?_); (go_split_ands; assumption); rintro e w7 ⟨rfl, hb7⟩))
          all_goals
            have HB7 := Lib.hid (below_on HB3.out hb7)
            clear hb7
            go_wp2
            go_roundw
          all_goals first
            | exact ⟨cv + 1, by omega, by omega, by go_num, HB7⟩
            | (simp [intOf]; omega)
        · have hgt : decide (cv ≤ (C : Int)) = false := by simpa using hle
          go_wp2
          go_ret
          exact ⟨rfl, below_on HB0.out HB2.out⟩

#print axioms like10_yes
end Go.Proofs.Ytdpoigeeechchaa
