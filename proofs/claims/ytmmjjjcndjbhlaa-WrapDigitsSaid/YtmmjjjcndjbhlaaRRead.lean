/-
  The contract of the reference's Read of layer 1: for every string it gives the number that four hexadecimal digits in lower case stand for and true, or 0 and false; nothing that was there changes.
  Conditions: none.
-/
import Derived.Test.YtmmjjjcndjbhlaaRead
import Derived.Test.YtmmjjjcndjbhlaaHex
import Derived.WalkSmall
namespace Go.Proofs.Ytmmjjjcndjbhlaa
open Go.ChangeShapes Go.WideShapes Go.ChangeAt Go.RowKit

/-- The last place among the first k of the table at which the digit c stands, or -1. -/
def di (c : UInt8) : Nat → Int
  | 0 => -1
  | k + 1 => if hexB (k : Int) = c then (k : Int) else di c k
theorem di_bd (c : UInt8) (k : Nat) : -1 ≤ di c k ∧ di c k < k := by
  induction k with
  | zero => simp [di]
  | succ k ih => unfold di; split <;> omega
theorem di_all : ∀ n : Fin 256, di (UInt8.ofNat n.val) 16 = if db (n.val : Int) then dv (n.val : Int) else -1 := by decide +kernel
theorem di_end (c : UInt8) : di c 16 = if db (c.toNat : Int) then dv (c.toNat : Int) else -1 := by
  have h := di_all ⟨c.toNat, c.toNat_lt⟩
  simpa using h

set_option maxHeartbeats 1000000 in
theorem rread_any (s : ByteArray) (w : World) :
    Calls Try.prog 22 #[.string s] w fun e w' => e = .returned (.tuple #[.int .i64 (readS s).1, .bool (readS s).2]) ∧ Below w.heap.size w w' := by
  by_cases h4 : s.size = 4
  · have HR := Lib.hid (show readS s = readL 0 s.data.toList from if_pos h4)
    have hne : ((s.size : Int) != 4) = false := by simp; omega
    have H4 := Lib.hid h4
    clear h4
    go_enter Try.func22, Try.ntmps22
    go_wp2
    go_loopw [5, 6] (fun v i wr => ∃ (k : Nat) (x : Int), k ≤ 4 ∧ Below w.heap.size w wr ∧ i = .int .i64 k ∧ v = .int .i64 x ∧ 0 ≤ x ∧ x < 16 ^ k ∧ Hid (readL x (s.data.toList.drop k) = readL 0 s.data.toList)) (fun _ i _ => 4 - (intOf i).toNat)
    case atStart => exact ⟨0, 0, Nat.zero_le _, Below.refl _ _, rfl, rfl, by omega, by decide, rfl⟩
    case round =>
      obtain ⟨k, x, hk, hb, rfl, rfl, hx0, hx1, HS⟩ := hrel
      by_cases hp : k < 4
      · have hks : k < s.size := by have := H4.out; omega
        have hpw := pow16 k hp
        have hx2 : x ≤ 4095 := by omega
        have HP := Lib.hid hpw.2
        have HX := Lib.hid hx1
        clear hpw hx1
        have HD := Lib.hid (drop_at s k hks)
        have HC := Lib.hid (di_end s[k])
        have hc8 : (s[k]).toNat < 256 := (s[k]).toNat_lt
        have hd := dv_bd ((s[k]).toNat : Int)
        have hk4 : decide ((k : Int) < 4) = true := by simp; omega
        go_wp2
        go_loopw [7, 8] (fun d q wr2 => ∃ (j : Nat), j ≤ 16 ∧ Below w.heap.size w wr2 ∧ q = .int .i64 j ∧ d = .int .i64 (di s[k] j)) (fun _ q _ => 16 - (intOf q).toNat)
        case atStart => exact ⟨0, by omega, hb, rfl, rfl⟩
        case round =>
          obtain ⟨j, hj, hb2, rfl, rfl⟩ := hrel
          by_cases hj2 : j < 16
          · have HT := Lib.hid (tab_fin ⟨j, hj2⟩)
            by_cases hh : hexB (j : Int) = s[k]
            · have HE := Lib.hid (show di s[k] (j + 1) = j from if_pos hh)
              have ht : ((((⟨#[48, 49, 50, 51, 52, 53, 54, 55, 56, 57, 97, 98, 99, 100, 101, 102]⟩ : ByteArray)[j]'hj2).toNat : Int) == (s[k].toNat : Int)) = true := by
                have h := HT.out
                simp only at h
                rw [h, hh]; simp
              clear hh
              go_wp2
              go_quiet (fail)
              go_wp2
              go_roundw
              case rel => exact ⟨j + 1, by omega, below_drewN hb2 _, by go_num, by rw [HE.out]⟩
              case measure => simp [intOf]; omega
            · have HE := Lib.hid (show di s[k] (j + 1) = di s[k] j from if_neg hh)
              have ht : ((((⟨#[48, 49, 50, 51, 52, 53, 54, 55, 56, 57, 97, 98, 99, 100, 101, 102]⟩ : ByteArray)[j]'hj2).toNat : Int) == (s[k].toNat : Int)) = false := by
                have h := HT.out
                simp only at h
                rw [h, beq_eq_false_iff_ne]
                intro hc
                exact hh (UInt8.toNat.inj (by omega))
              clear hh
              go_wp2
              go_quiet (fail)
              go_wp2
              go_roundw
              case rel => exact ⟨j + 1, by omega, below_drewN hb2 _, by go_num, by rw [HE.out]⟩
              case measure => simp [intOf]; omega
          · obtain rfl : j = 16 := by omega
            have hb3 := hb2
            by_cases hok : db ((s[k]).toNat : Int) = true
            · have HB := Lib.hid hok
              have HE := Lib.hid (show di s[k] 16 = dv ((s[k]).toNat : Int) from by rw [HC.out, if_pos hok])
              clear hok
              rw [HE.out]
              go_wp2
              go_roundw
              case rel =>
                refine ⟨k + 1, _, by omega, hb3, by go_num, rfl, by omega, ?_, ?_⟩
                · rw [HP.out]; have := HX.out; omega
                · have h := HS.out
                  rw [HD.out, readL_cons, if_pos HB.out, Int.mul_comm] at h
                  exact h
              case measure => simp [intOf]; omega
            · have HE := Lib.hid (show di s[k] 16 = -1 from by rw [HC.out, if_neg hok])
              have HF : Hid (readL 0 s.data.toList = (0, false)) := by
                have h := HS.out
                rw [HD.out, readL_cons, if_neg hok] at h
                exact h.symm
              clear hok
              rw [HE.out]
              go_wp2
              go_ret2
              refine ⟨?_, hb3⟩
              rw [HR.out, HF.out]
              rfl
      · go_wp2
        go_ret2
        refine ⟨?_, hb⟩
        have he : s.data.toList.drop k = [] := List.drop_eq_nil_of_le (by have := H4.out; simp; omega)
        have h := HS.out
        rw [he] at h
        rw [HR.out, ← h]
        rfl
  · have HR := Lib.hid (show readS s = (0, false) from if_neg h4)
    have hne : ((s.size : Int) != 4) = true := by simp; omega
    clear h4
    go_enter Try.func22, Try.ntmps22
    go_wp2
    go_ret2
    refine ⟨?_, by go_grown⟩
    rw [HR.out]
    rfl
#print axioms rread_any
end Go.Proofs.Ytmmjjjcndjbhlaa
