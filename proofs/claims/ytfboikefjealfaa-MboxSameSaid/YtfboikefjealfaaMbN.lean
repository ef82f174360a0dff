/-
  Layer 9 (mbox), no program: the bits of a mailbox as a number, the words with their senders as numbers.
  Conditions: those that each theorem states.
-/
import Derived.Test.YtfboikefjealfaaWords
namespace Go.Proofs.Ytfboikefjealfaa
open Go.ChangeShapes Go.WideShapes Go.ChangeAt Go.RowKit

/-- Bits as a number, the first one the lowest. -/
def maskN : List Bool → Nat
  | [] => 0
  | b :: t => (if b then 1 else 0) + 2 * maskN t
def maskB (l : List Bool) : Int := (maskN l : Int)

theorem maskN_bit : ∀ (l : List Bool) (i : Nat), (maskN l).testBit i = l.getD i false
  | [], i => by simp [maskN]
  | b :: t, 0 => by
    rw [Nat.testBit_zero]
    unfold maskN
    cases b <;> simp
  | b :: t, i + 1 => by
    rw [Nat.testBit_succ]
    have e0 : maskN (b :: t) = (if b then 1 else 0) + 2 * maskN t := rfl
    have e : maskN (b :: t) / 2 = maskN t := by rw [e0]; cases b <;> simp <;> omega
    rw [e, maskN_bit t i]
    simp

theorem maskN_lt : ∀ l : List Bool, maskN l < 2 ^ l.length
  | [] => by simp [maskN]
  | b :: t => by
    have := maskN_lt t
    unfold maskN
    rw [List.length_cons, Nat.pow_succ]
    cases b <;> simp <;> omega

theorem maskB_bd {l : List Bool} (h : l.length = 8) : 0 ≤ maskB l ∧ maskB l < 256 := by
  have := maskN_lt l
  rw [h] at this
  unfold maskB
  omega

theorem maskN_inj {a b : List Bool} (hl : a.length = b.length) (h : maskN a = maskN b) : a = b := by
  apply List.ext_getElem? 
  intro i
  have := congrArg (fun n => n.testBit i) h
  simp only [maskN_bit] at this
  by_cases hi : i < a.length
  · rw [List.getD_eq_getElem?_getD, List.getD_eq_getElem?_getD, List.getElem?_eq_getElem hi, List.getElem?_eq_getElem (by omega)] at this
    rw [List.getElem?_eq_getElem hi, List.getElem?_eq_getElem (by omega)]
    exact congrArg some this
  · rw [List.getElem?_eq_none (by omega), List.getElem?_eq_none (by omega)]

theorem maskB_inj {a b : List Bool} (hl : a.length = b.length) (h : maskB a = maskB b) : a = b := maskN_inj hl (by unfold maskB at h; omega)

/-- Bit number i of a mask. -/
def mbit (m : Int) (i : Nat) : Bool := decide (m / 2 ^ i % 2 = 1)
/-- Without the bits of a mask. -/
def clrB (l : List Bool) (m : Int) : List Bool := l.mapIdx fun i b => b && !mbit m i
theorem clrB_len (l : List Bool) (m : Int) : (clrB l m).length = l.length := by simp [clrB]
theorem clrB_at (l : List Bool) (m : Int) (i : Nat) : (clrB l m).getD i false = (l.getD i false && !mbit m i) := by
  simp only [clrB, List.getD_eq_getElem?_getD, List.getElem?_mapIdx]
  cases l[i]? <;> simp

theorem wrap_small {n : Nat} (h : n < 256) : IntKind.i64.wrap (n : Int) = n := by rw [IntKind.wrap_i64]; omega

theorem bits_or_set {l : List Bool} (hl : l.length = 8) {c : Nat} (hc : c < 8) : bits .or .i64 (maskB l) (2 ^ c) = maskB (l.set c true) := by
  have h1 := maskN_lt l
  rw [hl] at h1
  have h2 := maskN_lt (l.set c true)
  rw [List.length_set, hl] at h2
  have e1 : (BitVec.ofInt 64 (maskB l)) = BitVec.ofNat 64 (maskN l) := by unfold maskB; exact BitVec.ofInt_natCast _ _
  have e2 : (BitVec.ofInt 64 ((2 : Int) ^ c)) = BitVec.ofNat 64 (2 ^ c) := by
    have : ((2 : Int) ^ c) = ((2 ^ c : Nat) : Int) := by simp
    rw [this]; exact BitVec.ofInt_natCast _ _
  show IntKind.i64.wrap ((BitVec.ofInt 64 (maskB l) ||| BitVec.ofInt 64 ((2 : Int) ^ c)).toNat : Nat) = _
  have hp : 2 ^ c < 2 ^ 8 := Nat.pow_lt_pow_right (by decide) hc
  have key : (BitVec.ofInt 64 (maskB l) ||| BitVec.ofInt 64 ((2 : Int) ^ c)).toNat = maskN (l.set c true) := by
    rw [e1, e2, BitVec.toNat_or, BitVec.toNat_ofNat, BitVec.toNat_ofNat, Nat.mod_eq_of_lt (by omega), Nat.mod_eq_of_lt (by omega)]
    apply Nat.eq_of_testBit_eq
    intro i
    rw [Nat.testBit_or, maskN_bit, maskN_bit, Nat.testBit_two_pow]
    simp only [List.getD_eq_getElem?_getD, List.getElem?_set]
    by_cases h : c = i
    · subst h
      rw [if_pos rfl, if_pos (by omega)]
      simp
    · rw [if_neg h]
      simp [h]
  rw [key, wrap_small h2]
  rfl

theorem mbit_nat (m : Int) {i : Nat} (hi : i < 8) : ((m % 18446744073709551616).toNat).testBit i = mbit m i := by
  rw [Nat.testBit_eq_decide_div_mod_eq]
  unfold mbit
  have : i = 0 ∨ i = 1 ∨ i = 2 ∨ i = 3 ∨ i = 4 ∨ i = 5 ∨ i = 6 ∨ i = 7 := by omega
  rcases this with rfl | rfl | rfl | rfl | rfl | rfl | rfl | rfl <;> (simp only [Nat.reducePow, Int.reducePow]; congr 1; apply propext; omega)

theorem bits_clr {l : List Bool} (hl : l.length = 8) (m : Int) : bits .andNot .i64 (maskB l) m = maskB (clrB l m) := by
  have h1 := maskN_lt l
  rw [hl] at h1
  have h2 := maskN_lt (clrB l m)
  rw [clrB_len, hl] at h2
  have e1 : (BitVec.ofInt 64 (maskB l)) = BitVec.ofNat 64 (maskN l) := by unfold maskB; exact BitVec.ofInt_natCast _ _
  show IntKind.i64.wrap ((BitVec.ofInt 64 (maskB l) &&& ~~~ BitVec.ofInt 64 m).toNat : Nat) = _
  have key : (BitVec.ofInt 64 (maskB l) &&& ~~~ BitVec.ofInt 64 m).toNat = maskN (clrB l m) := by
    apply Nat.eq_of_testBit_eq
    intro i
    rw [maskN_bit, clrB_at, BitVec.testBit_toNat, BitVec.getLsbD_and, BitVec.getLsbD_not, e1, BitVec.getLsbD_ofNat, maskN_bit]
    by_cases hi : i < 8
    · have : (BitVec.ofInt 64 m).getLsbD i = mbit m i := by
        rw [← BitVec.testBit_toNat, BitVec.toNat_ofInt]
        exact mbit_nat m hi
      rw [this]
      have h64 : i < 64 := by omega
      simp [h64]
    · rw [List.getD_eq_getElem?_getD, List.getElem?_eq_none (by omega)]
      simp
  rw [key, wrap_small h2]
  rfl

/-- A word and its sender as one number. -/
def jn (p : Int × Int) : Int := p.1 * 65536 + p.2
theorem jn_inj {p q : Int × Int} (hp : 0 ≤ p.2 ∧ p.2 ≤ 65535) (hq : 0 ≤ q.2 ∧ q.2 ≤ 65535) (h : jn p = jn q) : p = q := by
  unfold jn at h
  have h1 : p.1 = q.1 := by omega
  have h2 : p.2 = q.2 := by omega
  exact Prod.ext h1 h2

theorem jn_div {p : Int × Int} (h0 : 0 ≤ p.1) (hp : 0 ≤ p.2 ∧ p.2 ≤ 65535) : (jn p).tdiv 65536 = p.1 ∧ jn p % 65536 = p.2 := by
  unfold jn
  rw [Int.tdiv_eq_ediv_of_nonneg (by omega)]
  omega

/-- A mailbox: its bits, and the words with their senders. -/
abbrev Mail := List Bool × List (Int × Int)
structure MailOk (m : Mail) : Prop where
  len : m.1.length = 8
  fit : m.2.length ≤ 16
  low : ∀ p ∈ m.2, 0 ≤ p.1 ∧ p.1 < 8 ∧ 0 ≤ p.2 ∧ p.2 ≤ 65535

def jns (l : List (Int × Int)) : List Int := l.map jn
theorem jns_len (l : List (Int × Int)) : (jns l).length = l.length := by simp [jns]
theorem jns_inj : ∀ {a b : List (Int × Int)}, (∀ p ∈ a, 0 ≤ p.2 ∧ p.2 ≤ 65535) → (∀ p ∈ b, 0 ≤ p.2 ∧ p.2 ≤ 65535) → jns a = jns b → a = b
  | [], [], _, _, _ => rfl
  | [], _ :: _, _, _, h => by simp [jns] at h
  | _ :: _, [], _, _, h => by simp [jns] at h
  | x :: a, y :: b, ha, hb, h => by
    simp only [jns, List.map_cons, List.cons.injEq] at h
    rw [jn_inj (ha x List.mem_cons_self) (hb y List.mem_cons_self) h.1, jns_inj (fun p hp => ha p (List.mem_cons_of_mem _ hp)) (fun p hp => hb p (List.mem_cons_of_mem _ hp)) h.2]

def mail0 : Mail := (List.replicate 8 false, [])
theorem mail0_ok : MailOk mail0 := ⟨by simp [mail0], by simp [mail0], by simp [mail0]⟩
theorem maskB_mail0 : maskB mail0.1 = 0 := by decide

#print axioms bits_or_set
#print axioms bits_clr
#print axioms jns_inj
end Go.Proofs.Ytfboikefjealfaa
