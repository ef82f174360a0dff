/-
  Layer 19 (diary): numbers as texts, of the program and of the reference.
  Conditions: those that each theorem states.
-/
import Derived.Test.YtikjokhpombjjaaDoorDi11
import Derived.Test.YtikjokhpombjjaaDoorDiO
namespace Go.Proofs.YtikjokhpombjjaaDoor
open Go.ChangeShapes Go.WideShapes Go.ChangeAt Go.RowKit

theorem ba19 (a b : List UInt8) : (⟨a.toArray⟩ : ByteArray) ++ (⟨b.toArray⟩ : ByteArray) = ⟨(a ++ b).toArray⟩ := by
  apply ByteArray.ext
  simp

theorem cut19 (w : World) (k : Nat) (h : k < 10) :
    Sem.run Tryd.prog (Instr.slice 9 (.string ⟨#[48, 49, 50, 51, 52, 53, 54, 55, 56, 57]⟩) (some (.int .i64 (k : Int))) (some (.int .i64 ((k : Int) + 1))) none) w = .ok (.string ⟨[UInt8.ofNat (48 + k)].toArray⟩) w := by
  rw [run_slice_string w 9 _ .i64 .i64 (k : Int) ((k : Int) + 1) (by kernel_rfl) (by omega) (by omega) (by simp [ByteArray.size]; omega)]
  have : ∀ j : Fin 10, (⟨#[48, 49, 50, 51, 52, 53, 54, 55, 56, 57]⟩ : ByteArray).extract j.val (j.val + 1) = ⟨[UInt8.ofNat (48 + j.val)].toArray⟩ := by decide +kernel
  have h1 := this ⟨k, h⟩
  simp only [Int.toNat_natCast, show ((k : Int) + 1).toNat = k + 1 by omega]
  rw [h1]

theorem dec_step (a : Nat) (h : ¬ a < 10) (s : List UInt8) : Lib.decDigits a ++ s = Lib.decDigits (a / 10) ++ (UInt8.ofNat (48 + a % 10) :: s) := by
  rw [Lib.decDigits, dif_neg h, List.append_assoc]
  rfl

theorem str19 (c : UInt8) (s : List UInt8) : Value.string ((⟨#[c]⟩ : ByteArray) ++ (⟨s.toArray⟩ : ByteArray)) = .string ⟨(c :: s).toArray⟩ := by rw [show (⟨#[c]⟩ : ByteArray) = ⟨[c].toArray⟩ from rfl, ba19]; rfl
theorem fin19_pos (c : UInt8) (s : List UInt8) : Ending.returned (.string ((⟨#[c]⟩ : ByteArray) ++ (⟨s.toArray⟩ : ByteArray))) = Ending.returned (.string ⟨(c :: s).toArray⟩) := by rw [str19]
theorem fin19_neg (c : UInt8) (s : List UInt8) : Ending.returned (.string ((⟨#[45]⟩ : ByteArray) ++ ((⟨#[c]⟩ : ByteArray) ++ (⟨s.toArray⟩ : ByteArray)))) = Ending.returned (.string ⟨(45 :: c :: s).toArray⟩) := by
  have h1 : (⟨#[c]⟩ : ByteArray) ++ (⟨s.toArray⟩ : ByteArray) = ⟨(c :: s).toArray⟩ := ba19 [c] s
  have h2 : (⟨#[45]⟩ : ByteArray) ++ (⟨(c :: s).toArray⟩ : ByteArray) = ⟨(45 :: c :: s).toArray⟩ := ba19 [45] (c :: s)
  rw [h1, h2]
theorem nDigits_small19 : ∀ (j u : Nat), u < 10 ^ (j + 1) → Lib.nDigits u ≤ j + 1
  | 0, u, h => by rw [Lib.nDigits_small (by omega)]; omega
  | j + 1, u, h => by
    by_cases h10 : u < 10
    · rw [Lib.nDigits_small h10]; omega
    · rw [Lib.nDigits_big h10]
      have := nDigits_small19 j (u / 10) (by rw [Nat.div_lt_iff_lt_mul (by omega)]; rw [Nat.pow_succ] at h; omega)
      omega
theorem dec_len (n : Int) (h : R64 n) : (Lib.decDigits n.natAbs).length ≤ 20 := by
  rw [Lib.decDigits_length]
  have := h.1
  have := h.2
  exact Nat.le_trans (nDigits_small19 18 n.natAbs (by rw [show (10 ^ (18 + 1) : Nat) = 10000000000000000000 from rfl]; omega)) (by omega)

set_option maxRecDepth 100000 in
set_option maxHeartbeats 4000000 in
theorem rdigits19_any (n : Int) (hn : R64 n) (w : World) : Calls Tryd.prog 29 #[.int .i64 n] w fun e w' => e = .returned (.string ⟨(Lib.itoa n).toArray⟩) ∧ w = w' := by
  have HC := fun (k : Nat) (h : k < 10) => cut19 w k h
  have HN := Lib.hid hn
  clear hn
  go_enter Tryd.func29, Tryd.ntmps29
  go_wp2
  go_loopw [4, 5] (fun sv lv wr => ∃ (m : Int) (s : List UInt8), lv = .int .i64 m ∧ sv = .string ⟨s.toArray⟩ ∧ Hid (R64 m) ∧ Hid (Lib.decDigits n.natAbs = Lib.decDigits m.natAbs ++ s) ∧ w = wr) (fun _ lv _ => (intOf lv).natAbs)
  case atStart => exact ⟨n, [], rfl, rfl, HN, Lib.hid (by simp), rfl⟩
  case round =>
    obtain ⟨m, s, rfl, rfl, HM, HD, rfl⟩ := hrel
    obtain ⟨b0, b1⟩ := HM.out
    obtain ⟨q, hq⟩ : ∃ q, m.tdiv 10 = q := ⟨_, rfl⟩
    obtain ⟨r, hr⟩ : ∃ r, m.tmod 10 = r := ⟨_, rfl⟩
    have ha : q.natAbs = m.natAbs / 10 := by rw [← hq, Int.natAbs_tdiv]; rfl
    have hb : r.natAbs = m.natAbs % 10 := by rw [← hr, Int.natAbs_tmod]; rfl
    have hk : m.natAbs % 10 < 10 := Nat.mod_lt _ (by omega)
    have HA := Lib.hid ha
    have hsl : s.length ≤ 20 := by
      have h1 := congrArg List.length HD.out
      rw [List.length_append] at h1
      have h2 := dec_len n HN.out
      omega
    have HQ64 : Hid (R64 q) := Lib.hid ⟨by omega, by omega⟩
    obtain ⟨q0, q1⟩ := HQ64.out
    have HCk := HC (m.natAbs % 10) hk
    have HE1 : Hid (¬ q = 0 → Lib.decDigits n.natAbs = Lib.decDigits q.natAbs ++ (UInt8.ofNat (48 + m.natAbs % 10) :: s)) := Lib.hid (fun h => by
      rw [HD.out, dec_step m.natAbs (by omega) s, ha])
    have HE0 : Hid (q = 0 → Lib.decDigits n.natAbs = UInt8.ofNat (48 + m.natAbs % 10) :: s) := Lib.hid (fun h => by
      have h1 : m.natAbs < 10 := by rw [h] at ha; simp at ha; omega
      rw [HD.out, Lib.decDigits_one h1, Nat.mod_eq_of_lt h1]
      rfl)
    have HLT : Hid (¬ q = 0 → q.natAbs < m.natAbs) := Lib.hid (fun h => by omega)
    obtain ⟨k, hkk⟩ : ∃ k, m.natAbs % 10 = k := ⟨_, rfl⟩
    rw [hkk] at hk hb HCk HE1 HE0
    obtain ⟨c, hc⟩ : ∃ c, UInt8.ofNat (48 + k) = c := ⟨_, rfl⟩
    rw [hc] at HCk HE1 HE0
    have hsg : 0 ≤ r ∧ r = (k : Int) ∨ r < 0 ∧ 0 - r = (k : Int) := by omega
    have HB := Lib.hid hb
    have HKK := Lib.hid hkk
    clear ha hb hkk HC
    by_cases h0 : q = 0
    · have t0 : (q == 0) = true := by simpa using h0
      have HS := Lib.hid (HE0.out h0)
      clear h0
      by_cases hneg : n < 0
      · have HF : Hid (Lib.itoa n = 45 :: (c :: s)) := Lib.hid (by rw [Lib.itoa, if_pos hneg, HS.out])
        rcases hsg with ⟨h1, h2⟩ | ⟨h1, h2⟩
        · have h3 : ¬ r < 0 := by omega
          subst h2
          clear h1
          go_wp2
          go_ret
          exact ⟨by rw [HF.out]; exact fin19_neg c s, rfl⟩
        · go_wp2
          go_ret
          exact ⟨by rw [HF.out]; exact fin19_neg c s, rfl⟩
      · have HF : Hid (Lib.itoa n = c :: s) := Lib.hid (by rw [Lib.itoa, if_neg hneg, ← HS.out, show n.toNat = n.natAbs by omega])
        rcases hsg with ⟨h1, h2⟩ | ⟨h1, h2⟩
        · have h3 : ¬ r < 0 := by omega
          subst h2
          clear h1
          go_wp2
          go_ret
          exact ⟨by rw [HF.out]; exact fin19_pos c s, rfl⟩
        · go_wp2
          go_ret
          exact ⟨by rw [HF.out]; exact fin19_pos c s, rfl⟩
    · have t0 : (q == 0) = false := by simpa using h0
      have HS := Lib.hid (HE1.out h0)
      have HL := Lib.hid (HLT.out h0)
      clear h0
      rcases hsg with ⟨h1, h2⟩ | ⟨h1, h2⟩
      · have h3 : ¬ r < 0 := by omega
        subst h2
        clear h1
        go_wp2
        go_roundw
        case rel => exact ⟨q, c :: s, rfl, str19 c s, HQ64, HS, trivial⟩
        case measure => exact HL.out
      · go_wp2
        go_roundw
        case rel => exact ⟨q, c :: s, rfl, str19 c s, HQ64, HS, trivial⟩
        case measure => exact HL.out

#print axioms rdigits19_any
end Go.Proofs.YtikjokhpombjjaaDoor
