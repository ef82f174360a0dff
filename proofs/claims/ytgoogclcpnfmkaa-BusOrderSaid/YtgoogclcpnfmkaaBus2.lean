/-
  Layer 6 (bus): check, drain, drainAll.
  Conditions: those that each theorem states.
-/
import Derived.Test.YtgoogclcpnfmkaaBus
namespace Go.Proofs.Ytgoogclcpnfmkaa
open Go.ChangeShapes Go.WideShapes Go.ChangeAt Go.RowKit

theorem runE_word {N a : Int} (h : runE N a 1 = 0) (hN : N ≤ 65536) : 0 ≤ a ∧ a ≤ 65535 := by
  obtain ⟨_, h2, h3⟩ := runE_ok h; omega

set_option maxRecDepth 100000 in
set_option maxHeartbeats 1000000 in
theorem check6_any (L : Lay) (N : Nat) (l : List Int) (qs : List (List (Int × Int))) (a x : Int) (w : World) (r : BusAt w L N l qs) :
    Calls Try.prog 51 #[ptr L.g, .int .i64 a, .int .i64 x] w fun e w' => e = .returned (.int .i64 (fillE l.length a 1 x)) ∧ w = w' := by
  have hc : w.cell? ⟨L.g, 0, none⟩ = some (.pointer (some ⟨L.rg, 0, none⟩)) := r.top.cell 0
  have hl := r.ram.len
  by_cases hE : runE l.length a 1 = 0
  · have ld := load_any L.rg L.rh l a w r.ram
    rw [hE] at ld
    obtain ⟨v, hv⟩ : ∃ v, loadV l a = v := ⟨_, rfl⟩
    rw [hv] at ld
    obtain ⟨a0, a1⟩ := runE_word hE (by omega)
    have LD := Lib.hid ld; clear ld hv
    by_cases hw : isW x = true
    · have e : fillE l.length a 1 x = 0 := by unfold fillE; rw [if_pos hE, if_pos hw]
      have hw' : 0 ≤ x ∧ x ≤ 65535 := by simpa [isW] using hw
      have k := Lib.hid (of_yes a x w a0 a1 hw'.1 hw'.2)
      have E := Lib.hid e
      clear e hE hw hw'
      unfold ptr at LD ⊢
      go_enter Try.func51, Try.ntmps51
      go_wp2_with (first
        | (go_at_call 58; refine LD.out.mono ?_; rintro e w' ⟨rfl, rfl⟩)
        | (go_at_call 80; refine k.out.mono ?_; rintro e w' ⟨rfl, rfl⟩))
      go_ret
      exact ⟨by rw [E.out]; rfl, rfl⟩
    · have e : fillE l.length a 1 x = 2 := by unfold fillE; rw [if_pos hE, if_neg hw]
      have hw' : ¬ (0 ≤ a ∧ a ≤ 65535 ∧ 0 ≤ x ∧ x ≤ 65535) := fun h => hw (by simp [isW]; omega)
      have k := Lib.hid (of_no a x w hw')
      have E := Lib.hid e
      clear e hE hw hw'
      unfold ptr at LD ⊢
      go_enter Try.func51, Try.ntmps51
      go_wp2_with (first
        | (go_at_call 58; refine LD.out.mono ?_; rintro e w' ⟨rfl, rfl⟩)
        | (go_at_call 80; refine k.out.mono ?_; rintro e w' ⟨rfl, rfl⟩))
      go_ret
      exact ⟨by rw [E.out]; rfl, rfl⟩
  · have LD := Lib.hid (load_any L.rg L.rh l a w r.ram)
    have hb : (runE (l.length : Int) a 1 != 0) = true := by simpa using hE
    have e : fillE l.length a 1 x = runE l.length a 1 := by unfold fillE; rw [if_neg hE]
    have E := Lib.hid e
    clear e hE
    unfold ptr at LD ⊢
    go_enter Try.func51, Try.ntmps51
    go_wp2_with (go_at_call 58; refine LD.out.mono ?_; rintro e w' ⟨rfl, rfl⟩)
    go_ret
    exact ⟨by rw [E.out]; rfl, rfl⟩

/-- Is there a store? -/
def anyB (q : List (Int × Int)) : Bool := !q.isEmpty

set_option maxRecDepth 100000 in
set_option maxHeartbeats 1000000 in
theorem drain_none (L : Lay) (N : Nat) (l : List Int) (qs : List (List (Int × Int))) (i : Nat) (w : World) (r : BusAt w L N l qs) (hq : qs[i]? = some []) :
    Calls Try.prog 54 #[ptr L.g, ptr (L.gf i)] w (BusP L N l qs (.bool false) w) := by
  have hi := lt_of_at hq
  have k := Lib.hid (bdrain_empty (L.gf i) (L.hf i) N w (r.buf i _ hq))
  have R := Lib.hid r
  have HQ := Lib.hid hq
  clear r hq
  unfold ptr at k ⊢
  go_enter Try.func54, Try.ntmps54
  go_wp2_with (go_at_call 81; refine k.out.mono ?_; rintro e w' ⟨h', rfl, hb, ho, hh⟩)
  go_ret
  have h1 := R.out.putBuf hi hb ho hh (fun p hp => by simp at hp)
  rw [set_same HQ.out] at h1
  exact ⟨_, rfl, h1, Ext.one hh, ho.mono (fun b _ hb => hb.elim (fun e => e ▸ L.fp_gf hi) (fun e => L.fp_hf hi e))⟩

set_option maxRecDepth 100000 in
set_option maxHeartbeats 1000000 in
theorem drain_some (L : Lay) (N : Nat) (l : List Int) (qs : List (List (Int × Int))) (i : Nat) (a b : Int) (t : List (Int × Int)) (w : World) (r : BusAt w L N l qs) (hq : qs[i]? = some ((a, b) :: t)) :
    Calls Try.prog 54 #[ptr L.g, ptr (L.gf i)] w (BusP L N (fillL l a 1 b) (qs.set i t) (.bool true) w) := by
  have hi := lt_of_at hq
  have k := Lib.hid (bdrain_some (L.gf i) (L.hf i) N a b t w (r.buf i _ hq))
  have ha : ∀ p ∈ t, p.1 < l.length := fun p hp => r.adr i _ hq p (List.mem_cons_of_mem _ hp)
  have R := Lib.hid r
  have HA := Lib.hid ha
  clear r hq ha
  unfold ptr at k ⊢
  go_enter Try.func54, Try.ntmps54
  go_wp2_with (first
    | (go_at_call 81
       refine k.out.mono ?_
       rintro e w1 ⟨h', rfl, hb, ho, hh⟩
       have r1 := R.out.putBuf hi hb ho hh HA.out
       have hc1 : w1.cell? ⟨L.g, 0, none⟩ = some (.pointer (some ⟨L.rg, 0, none⟩)) := r1.top.cell 0
       have R1 := Lib.hid r1
       have HO1 := Lib.hid ho
       have HH := Lib.hid hh
       clear r1 hb ho hh)
    | (go_at_call 74; refine (store_any L.rg L.rh l a b w1 R1.out.ram).mono ?_; rintro e w2 ⟨rfl, hr2, hg2⟩))
  go_ret
  have h2 := R1.out.putRam hr2 (Only.of_gr hg2 rfl) (fillL_len _ _ _ _)
  refine ⟨_, rfl, h2, Ext.one HH.out, ?_⟩
  rw [List.length_set]
  exact (HO1.out.mono (fun b _ hb => hb.elim (fun e => e ▸ L.fp_gf hi) (fun e => L.fp_hf hi e))).trans (Only.of_gr hg2 (L.fp_rh _))

theorem drain_any (L : Lay) (N : Nat) (l : List Int) (qs : List (List (Int × Int))) (i : Nat) (q : List (Int × Int)) (w : World) (r : BusAt w L N l qs) (hq : qs[i]? = some q) :
    Calls Try.prog 54 #[ptr L.g, ptr (L.gf i)] w (BusP L N (drs l (q.take 1)) (qs.set i (q.drop 1)) (.bool (anyB q)) w) := by
  cases q with
  | nil =>
    have := drain_none L N l qs i w r hq
    simpa [anyB, drs_nil, set_same hq] using this
  | cons p t => exact drain_some L N l qs i p.1 p.2 t w r hq

set_option maxRecDepth 100000 in
set_option maxHeartbeats 1000000 in
theorem drainAll_any (L : Lay) (N : Nat) (l : List Int) (qs : List (List (Int × Int))) (i : Nat) (q : List (Int × Int)) (w : World) (r : BusAt w L N l qs) (hq : qs[i]? = some q) :
    Calls Try.prog 60 #[ptr L.g, ptr (L.gf i)] w (BusP L N (drs l q) (qs.set i []) (.int .i64 q.length) w) := by
  have hi := lt_of_at hq
  obtain ⟨n, hn⟩ : ∃ n, q.length = n := ⟨_, rfl⟩
  have hn16 : n ≤ 16 := by have := (r.buf i _ hq).fit; omega
  have R := Lib.hid r
  have HQ := Lib.hid hq
  have HN := Lib.hid hn
  clear r hq
  rw [hn]
  clear hn
  unfold ptr
  go_enter Try.func60, Try.ntmps60
  go_wp2
  go_loopw [5] (fun c wr => ∃ k : Nat, k ≤ n ∧ c = .int .i64 k ∧ Hid (∃ f, BusAt wr (L.up f) N (drs l (q.take k)) (qs.set i (q.drop k)) ∧ Ext L f w ∧ Only (L.fp qs.length) w wr)) (fun c _ => n - (intOf c).toNat)
  case atStart => exact ⟨0, Nat.zero_le _, rfl, Lib.hid ⟨L.hf, by rw [List.take_zero, drs_nil, List.drop_zero, set_same HQ.out]; exact R.out, Ext.refl _ _, Only.refl _ _⟩⟩
  case round =>
    obtain ⟨k, hk, rfl, hs⟩ := hrel
    obtain ⟨f, hr, he, ho⟩ := hs.out
    have hqk : (qs.set i (q.drop k))[i]? = some (q.drop k) := set_at _ hi
    have dr := drain_any (L.up f) N _ _ i _ wr hr hqk
    unfold ptr at dr
    have DR := Lib.hid dr
    have HE := Lib.hid he
    have HO := Lib.hid ho
    have HS := Lib.hid hr.most
    clear dr hr he ho hs hqk
    by_cases hlt : k < n
    · have hb : anyB (q.drop k) = true := by
        have : (q.drop k).length ≠ 0 := by rw [List.length_drop, HN.out]; omega
        cases h : q.drop k with
        | nil => rw [h] at this; simp at this
        | cons p t => rfl
      go_wp2_with (go_at_call 54; refine DR.out.mono ?_; rintro e w1 ⟨f1, rfl, hr1, he1, ho1⟩)
      go_roundw
      case rel =>
        refine ⟨k + 1, by omega, by go_num, Lib.hid ⟨f1, ?_, HE.out.trans he1 HO.out.size, ?_⟩⟩
        · rw [drs_more, List.set_set, List.drop_drop] at hr1
          exact hr1
        · rw [List.length_set, List.length_set] at ho1
          exact HO.out.up HE.out ho1
      case measure => simp [intOf]; omega
    · obtain rfl : k = n := by omega
      have hd : q.drop k = [] := List.drop_eq_nil_of_le (by rw [HN.out]; exact Nat.le_refl _)
      have hb : anyB (q.drop k) = false := by rw [hd]; rfl
      have HD := Lib.hid hd
      clear hd
      go_wp2_with (go_at_call 54; refine DR.out.mono ?_; rintro e w1 ⟨f1, rfl, hr1, he1, ho1⟩)
      go_ret
      rw [drs_more, List.set_set, List.drop_drop, List.take_of_length_le (by rw [HN.out]; omega), List.drop_eq_nil_of_le (by rw [HN.out]; omega)] at hr1
      refine ⟨f1, rfl, hr1, HE.out.trans he1 HO.out.size, ?_⟩
      rw [List.length_set, List.length_set] at ho1
      rw [List.length_set]
      exact HO.out.up HE.out ho1

#print axioms check6_any
#print axioms drainAll_any
end Go.Proofs.Ytgoogclcpnfmkaa
