/-
  Whole numbers as floating-point numbers: what the bits of float64(n) stand for, for |n| < 2^53: they compare as the numbers do, and converting back gives n.
  Conditions: none besides the bounds.
-/
import Derived.Laws.FloatArith
import Derived.Laws.ComplexArith
namespace Go.Proofs.Ytgoogclcpnfmkaa
open Ieee Go

set_option maxRecDepth 20000 in
theorem word_pos (n : Nat) (k : Nat) (hk : k ≤ 1074) (h0 : n ≠ 0) (hn : n < 2 ^ 53) (s : Bool) :
    double.nearest s (n * 2 ^ k) (-(k : Int)) = double.word s ((n.log2 + 1022) * 2 ^ 52 + n * 2 ^ (52 - n.log2)) := by
  have hl : n.log2 < 53 := (Nat.log2_lt h0).2 hn
  have hl1 : 2 ^ n.log2 ≤ n := Nat.log2_self_le h0
  have hl2 : n < 2 ^ (n.log2 + 1) := Nat.lt_log2_self
  have hp : 0 < 2 ^ k := Nat.two_pow_pos k
  have hm : n * 2 ^ k ≠ 0 := by intro h; rcases Nat.mul_eq_zero.1 h with h | h <;> omega
  have hlog : (n * 2 ^ k).log2 = n.log2 + k := by
    rw [Nat.log2_eq_iff hm]
    constructor
    · rw [Nat.pow_add]; exact Nat.mul_le_mul_right _ hl1
    · rw [show n.log2 + k + 1 = (n.log2 + 1) + k by omega, Nat.pow_add 2 (n.log2 + 1) k]; exact Nat.mul_lt_mul_of_pos_right hl2 hp
  unfold Format.nearest
  rw [if_neg hm, hlog]
  have e1 : max (-(k : Int) + ((n.log2 + k : Nat) : Int) - (double.fractionBits : Nat)) double.leastPlace = (n.log2 : Int) - 52 := by
    have : double.leastPlace = -1074 := by decide
    rw [this]; show max (-(k : Int) + ((n.log2 + k : Nat) : Int) - ((52 : Nat) : Int)) (-1074) = _
    omega
  simp only [e1]
  have e2 : ((n.log2 : Int) - 52 - double.leastPlace).toNat = n.log2 + 1022 := by
    have : double.leastPlace = -1074 := by decide
    rw [this]; omega
  rw [e2]
  have e3 : Toward.even.cut s ((n * 2 ^ k) <<< (-(k : Int) - ((n.log2 : Int) - 52)).toNat) ((n.log2 : Int) - 52 - -(k : Int)).toNat = n * 2 ^ (52 - n.log2) := by
    by_cases hc : k ≤ 52 - n.log2
    · have a1 : (-(k : Int) - ((n.log2 : Int) - 52)).toNat = 52 - n.log2 - k := by omega
      have a2 : ((n.log2 : Int) - 52 - -(k : Int)).toNat = 0 := by omega
      have a3 : (n * 2 ^ k) <<< (52 - n.log2 - k) = n * 2 ^ (52 - n.log2) := by
        rw [Nat.shiftLeft_eq, Nat.mul_assoc, ← Nat.pow_add, show k + (52 - n.log2 - k) = 52 - n.log2 by omega]
      rw [a1, a2, a3]
      unfold Toward.cut
      simp [Nat.mod_one]
    · have a1 : (-(k : Int) - ((n.log2 : Int) - 52)).toNat = 0 := by omega
      have a2 : ((n.log2 : Int) - 52 - -(k : Int)).toNat = k - (52 - n.log2) := by omega
      rw [a1, a2]
      unfold Toward.cut
      rw [Nat.shiftLeft_zero, hlog, Nat.min_eq_left (by omega)]
      have e : n * 2 ^ k = n * 2 ^ (52 - n.log2) * 2 ^ (k - (52 - n.log2)) := by
        rw [Nat.mul_assoc, ← Nat.pow_add, show 52 - n.log2 + (k - (52 - n.log2)) = k by omega]
      have hq : 0 < 2 ^ (k - (52 - n.log2)) := Nat.two_pow_pos _
      rw [e]
      simp only [Nat.shiftLeft_eq, Nat.one_mul]
      rw [Nat.mul_div_cancel _ hq, Nat.mul_mod_left]
      have : ¬ (2 ^ (k - (52 - n.log2)) < 2 * 0) := by omega
      simp [this]
  rw [e3]
  have hb : n * 2 ^ (52 - n.log2) < 2 ^ 53 := by
    have := Nat.mul_lt_mul_of_pos_right hl2 (Nat.two_pow_pos (52 - n.log2))
    rw [← Nat.pow_add, show n.log2 + 1 + (52 - n.log2) = 53 by omega] at this
    exact this
  have hi : double.infRung = 2047 * 2 ^ 52 := by decide
  have hbin : double.binade = 2 ^ 52 := by decide
  rw [hi, hbin, Nat.min_eq_left]
  generalize n * 2 ^ (52 - n.log2) = x at hb ⊢
  generalize n.log2 = l at hl ⊢
  clear hl1 hl2 hm hlog e1 e2 e3 hi hbin hn hp
  have h53 : (2 : Nat) ^ 53 = 9007199254740992 := by decide
  have h52 : (2 : Nat) ^ 52 = 4503599627370496 := by decide
  rw [h53] at hb
  rw [h52]
  omega

/-- The bits of a whole number. -/
def fw (s : Bool) (n : Nat) : Nat := if n = 0 then double.word s 0 else double.word s ((n.log2 + 1022) * 2 ^ 52 + n * 2 ^ (52 - n.log2))

theorem near_eq (n k : Nat) (hk : k ≤ 1074) (hn : n < 2 ^ 53) (s : Bool) : double.nearest s (n * 2 ^ k) (-(k : Int)) = fw s n := by
  by_cases h0 : n = 0
  · subst h0; simp [Format.nearest, fw]
  · rw [word_pos n k hk h0 hn s, fw, if_neg h0]

theorem read_fw (n : Nat) (hn : n < 2 ^ 53) (s : Bool) : ∃ k : Nat, k ≤ 1074 ∧ double.read (fw s n) = .number s (n * 2 ^ k) (-(k : Int)) := by
  by_cases h0 : n = 0
  · subst h0
    refine ⟨1074, Nat.le_refl _, ?_⟩
    cases s <;> decide +kernel
  · have hl : n.log2 < 53 := (Nat.log2_lt h0).2 hn
    have hl1 : 2 ^ n.log2 ≤ n := Nat.log2_self_le h0
    have hl2 : n < 2 ^ (n.log2 + 1) := Nat.lt_log2_self
    refine ⟨52 - n.log2, by omega, ?_⟩
    have hb : n * 2 ^ (52 - n.log2) < 2 ^ 53 := by
      have := Nat.mul_lt_mul_of_pos_right hl2 (Nat.two_pow_pos (52 - n.log2))
      rw [← Nat.pow_add, show n.log2 + 1 + (52 - n.log2) = 53 by omega] at this
      exact this
    have hb2 : 2 ^ 52 ≤ n * 2 ^ (52 - n.log2) := by
      have := Nat.mul_le_mul_right (2 ^ (52 - n.log2)) hl1
      rw [← Nat.pow_add, show n.log2 + (52 - n.log2) = 52 by omega] at this
      exact this
    obtain ⟨x, hx⟩ : ∃ x, n * 2 ^ (52 - n.log2) = x := ⟨_, rfl⟩
    obtain ⟨l, hll⟩ : ∃ l, n.log2 = l := ⟨_, rfl⟩
    rw [fw, if_neg h0]
    rw [hx] at hb hb2 ⊢
    rw [hll] at hl ⊢
    clear hx hll hl1 hl2
    have hsw : double.signWeight = 2 ^ 63 := by decide
    have hi : double.infRung = 2047 * 2 ^ 52 := by decide
    have hbin : double.binade = 2 ^ 52 := by decide
    have hlp : double.leastPlace = -1074 := by decide
    unfold Format.read Format.word
    rw [hsw, hi, hbin, hlp]
    have d1 : ((l + 1022) * 2 ^ 52 + x) % 2 ^ 63 = (l + 1022) * 2 ^ 52 + x := by omega
    cases s
    · simp only [Bool.false_eq_true, if_false]
      rw [d1, if_neg (by omega), if_pos (by omega)]
      have f1 : ((l + 1022) * 2 ^ 52 + x) / 2 ^ 63 % 2 = 0 := by omega
      rw [f1]
      congr 1 <;> omega
    · simp only [if_true]
      have d2 : (2 ^ 63 + ((l + 1022) * 2 ^ 52 + x)) % 2 ^ 63 = (l + 1022) * 2 ^ 52 + x := by rw [Nat.add_mod_left]; exact d1
      rw [d2, if_neg (by omega), if_pos (by omega)]
      have f1 : (2 ^ 63 + ((l + 1022) * 2 ^ 52 + x)) / 2 ^ 63 % 2 = 1 := by
        rw [Nat.add_div_left _ (by omega), Nat.div_eq_of_lt (by omega)]
      rw [f1]
      congr 1 <;> omega

set_option maxRecDepth 20000 in
theorem fl_fw (n : Int) (h : n.natAbs < 2 ^ 53) : floatOfInt .f64 n = fw (n < 0) n.natAbs := by
  have := near_eq n.natAbs 0 (by omega) h (decide (n < 0))
  rw [Nat.pow_zero, Nat.mul_one] at this
  rw [← this]
  rfl

theorem order_fw (a b : Nat) (ha : a < 2 ^ 53) (hb : b < 2 ^ 53) : double.order (fw false a) (fw false b) = some (compare a b) := by
  obtain ⟨i, hi, ea⟩ := read_fw a ha false
  obtain ⟨j, hj, eb⟩ := read_fw b hb false
  unfold Format.order
  rw [ea, eb]
  show some (compare (signed false (a * 2 ^ i) _) (signed false (b * 2 ^ j) _)) = _
  have m1 : (-(i : Int) - min (-(i : Int)) (-(j : Int))).toNat = max i j - i := by omega
  have m2 : (-(j : Int) - min (-(i : Int)) (-(j : Int))).toNat = max i j - j := by omega
  rw [m1, m2]
  unfold signed
  simp only [Bool.false_eq_true, if_false, Nat.shiftLeft_eq]
  rw [Nat.mul_assoc, Nat.mul_assoc, ← Nat.pow_add, ← Nat.pow_add, show i + (max i j - i) = max i j by omega, show j + (max i j - j) = max i j by omega]
  have hp : 0 < 2 ^ (max i j) := Nat.two_pow_pos _
  congr 1
  rcases Nat.lt_trichotomy a b with h | h | h
  · have := Nat.mul_lt_mul_of_pos_right h hp
    rw [Nat.compare_eq_lt.2 h]
    exact Int.compare_eq_lt.2 (by exact_mod_cast this)
  · subst h; simp
  · have := Nat.mul_lt_mul_of_pos_right h hp
    rw [Nat.compare_eq_gt.2 h]
    exact Int.compare_eq_gt.2 (by exact_mod_cast this)

theorem toInt_fw (n : Nat) (hn : n < 2 ^ 53) (s : Bool) : (double.read (fw s n)).toInt .zero = some (if s then -(n : Int) else n) := by
  obtain ⟨k, hk, e⟩ := read_fw n hn s
  rw [e]
  unfold Datum.toInt Datum.integral
  have z : (-(k : Int)).toNat = 0 := by omega
  have z2 : (- -(k : Int)).toNat = k := by omega
  simp only [z, z2, Nat.shiftLeft_zero]
  have hc : Toward.zero.cut s (n * 2 ^ k) k = n := by
    unfold Toward.cut
    by_cases h0 : n = 0
    · subst h0; simp
    · have hp : 0 < 2 ^ k := Nat.two_pow_pos k
      have hm : n * 2 ^ k ≠ 0 := by intro h; rcases Nat.mul_eq_zero.1 h with h | h <;> omega
      have : k ≤ (n * 2 ^ k).log2 := by
        rw [Nat.le_log2 hm]; exact Nat.le_mul_of_pos_left _ (by omega)
      rw [Nat.min_eq_left (by omega)]
      simp [Nat.shiftLeft_eq, Nat.mul_div_cancel _ hp]
  rw [hc]
  unfold signed
  cases s <;> simp

theorem fl_order (a b : Int) (ha : 0 ≤ a) (ha' : a ≤ 65535) (hb : 0 ≤ b) (hb' : b ≤ 65535) :
    FloatKind.f64.format.order (floatOfInt .f64 a) (floatOfInt .f64 b) = some (compare a.toNat b.toNat) := by
  have h53 : (2 : Nat) ^ 53 = 9007199254740992 := by decide
  rw [fl_fw a (by rw [h53]; omega), fl_fw b (by rw [h53]; omega)]
  have da : decide (a < 0) = false := by simp; omega
  have db : decide (b < 0) = false := by simp; omega
  rw [da, db, show a.natAbs = a.toNat by omega, show b.natAbs = b.toNat by omega]
  exact order_fw _ _ (by rw [h53]; omega) (by rw [h53]; omega)

theorem fl_eq (a b : Int) (ha : 0 ≤ a) (ha' : a ≤ 65535) (hb : 0 ≤ b) (hb' : b ≤ 65535) :
    (FloatKind.f64.format.order (floatOfInt .f64 a) (floatOfInt .f64 b) == some .eq) = decide (a = b) := by
  rw [fl_order a b ha ha' hb hb']
  by_cases h : a = b
  · subst h; simp
  · have : ¬ compare a.toNat b.toNat = .eq := by rw [Nat.compare_eq_eq]; omega
    simp [h, this]

theorem fl_self (a : Int) (ha : 0 ≤ a) (ha' : a ≤ 65535) : (FloatKind.f64.format.order (floatOfInt .f64 a) (floatOfInt .f64 a) == some .eq) = true := by
  rw [fl_eq a a ha ha' ha ha']; simp

theorem fl_zero : floatOfInt .f64 0 = 0 := by decide +kernel
theorem fl_last : floatOfInt .f64 65535 = 4679239875398991872 := by decide +kernel

theorem fl_low (a : Int) (ha : 0 ≤ a) (ha' : a ≤ 65535) :
    (FloatKind.f64.format.order 0 (floatOfInt .f64 a) == some .lt || FloatKind.f64.format.order 0 (floatOfInt .f64 a) == some .eq) = true := by
  have h := fl_order 0 a (by omega) (by omega) ha ha'
  rw [fl_zero] at h
  rw [h]
  by_cases e : a = 0
  · subst e; decide
  · have : compare (0 : Int).toNat a.toNat = .lt := by rw [Nat.compare_eq_lt]; omega
    rw [this]; decide

theorem fl_high (a : Int) (ha : 0 ≤ a) (ha' : a ≤ 65535) :
    (FloatKind.f64.format.order (floatOfInt .f64 a) 4679239875398991872 == some .lt || FloatKind.f64.format.order (floatOfInt .f64 a) 4679239875398991872 == some .eq) = true := by
  have h := fl_order a 65535 ha ha' (by omega) (by omega)
  rw [fl_last] at h
  rw [h]
  by_cases e : a = 65535
  · subst e; decide
  · have : compare a.toNat (65535 : Int).toNat = .lt := by rw [Nat.compare_eq_lt]; omega
    rw [this]; decide

theorem fl_back (a : Int) (ha : 0 ≤ a) (ha' : a ≤ 65535) : floatToIntVal .f64 (floatOfInt .f64 a) .i64 = some a := by
  have h53 : (2 : Nat) ^ 53 = 9007199254740992 := by decide
  have h := toInt_fw a.natAbs (by rw [h53]; omega) (decide (a < 0))
  have e : (FloatKind.f64.decode (floatOfInt .f64 a)).toInt .zero = some a := by
    rw [fl_fw a (by rw [h53]; omega)]
    show (double.read _).toInt .zero = _
    rw [h]
    have da : decide (a < 0) = false := by simp; omega
    rw [da]
    simp
    omega
  unfold floatToIntVal
  rw [e]
  clear h e
  have h1 : IntKind.i64.min ≤ a := by show (-9223372036854775808 : Int) ≤ a; omega
  have h2 : a ≤ IntKind.i64.max := by show a ≤ (9223372036854775807 : Int); omega
  exact if_pos ⟨h1, h2⟩

#print axioms fl_order
#print axioms fl_back
end Go.Proofs.Ytgoogclcpnfmkaa
