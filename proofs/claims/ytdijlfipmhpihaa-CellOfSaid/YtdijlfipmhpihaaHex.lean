/-
  Contracts of Hex of layer 1, of the program and of the reference: each returns the four hexadecimal digits in lower case of the word of its argument, for every argument; at most new memory is made.
  Conditions: none.
-/
import Derived.Test.YtdijlfipmhpihaaWords
import Derived.Laws.BytesString
namespace Go.Proofs.Ytdijlfipmhpihaa
open Go.ChangeShapes Go.WideShapes Go.ChangeAt Go.RowKit

/-- The hexadecimal digit of k. -/
def hexB (k : Int) : UInt8 := if k < 10 then UInt8.ofNat (48 + k.toNat) else UInt8.ofNat (87 + k.toNat)
/-- The four hexadecimal digits of m. -/
def hexL (m : Int) : List UInt8 := [hexB (m / 16 / 16 / 16 % 16), hexB (m / 16 / 16 % 16), hexB (m / 16 % 16), hexB (m % 16)]

theorem tab_fin : ∀ j : Fin 16, ((⟨#[48, 49, 50, 51, 52, 53, 54, 55, 56, 57, 97, 98, 99, 100, 101, 102]⟩ : ByteArray)[j.val]'(j.isLt)) = hexB (j.val : Int) := by decide +kernel

theorem tab_get (k : Int) (h0 : 0 ≤ k) (h1 : k < 16) (hh : k.toNat < (⟨#[48, 49, 50, 51, 52, 53, 54, 55, 56, 57, 97, 98, 99, 100, 101, 102]⟩ : ByteArray).size) :
    (⟨#[48, 49, 50, 51, 52, 53, 54, 55, 56, 57, 97, 98, 99, 100, 101, 102]⟩ : ByteArray)[k.toNat]'hh = hexB k := by
  have h := tab_fin ⟨k.toNat, by omega⟩
  have e : ((k.toNat : Nat) : Int) = k := Int.toNat_of_nonneg h0
  rw [e] at h
  exact h

theorem run_four (w : World) (a b c d : UInt8) :
    Sem.run Try.prog (convert 46 9 (.slice (some ⟨w.heap.size, 0, none⟩) 4 4)) (w.alloc (.cells #[.int .u8 a.toNat, .int .u8 b.toNat, .int .u8 c.toNat, .int .u8 d.toNat] 45))
      = .ok (.string ⟨#[a, b, c, d]⟩) (w.alloc (.cells #[.int .u8 a.toNat, .int .u8 b.toNat, .int .u8 c.toNat, .int .u8 d.toNat] 45)) := by
  rw [run_convert_bytes_string _ 46 9 5 _ _ _ (by kernel_rfl) (by kernel_rfl) (by kernel_rfl)]
  rw [run_bytesToString _ _ _ _ [(a.toNat : Int), (b.toNat : Int), (c.toNat : Int), (d.toNat : Int)] (by simp [go_sem])]
  simp
  rfl

set_option maxHeartbeats 400000 in
theorem hex_any (n : Int) (w : World) :
    Calls Try.prog 16 #[.int .i64 n] w fun e w' => e = .returned (.string ⟨(hexL (n % 65536)).toArray⟩) ∧ Below w.heap.size w w' := by
  obtain ⟨m, hm0, hm1, hm⟩ : ∃ m : Int, 0 ≤ m ∧ m ≤ 65535 ∧ n % 65536 = m := ⟨_, by omega, by omega, rfl⟩
  have HM := Lib.hid hm; clear hm
  have h1 : 0 ≤ m % 16 ∧ m % 16 < 16 := by omega
  have h2 : 0 ≤ m / 16 % 16 ∧ m / 16 % 16 < 16 := by omega
  have h3 : 0 ≤ m / 16 / 16 % 16 ∧ m / 16 / 16 % 16 < 16 := by omega
  have h4 : 0 ≤ m / 16 / 16 / 16 % 16 ∧ m / 16 / 16 / 16 % 16 < 16 := by omega
  go_enter Try.func16, Try.ntmps16
  go_wp2_with (go_at_call 18; refine (word_any _ _).mono ?_; rintro e w' ⟨rfl, rfl⟩; rw [HM.out])
  go_rounds 5
  rw [tab_get _ h1.1 h1.2, tab_get _ h2.1 h2.2, tab_get _ h3.1 h3.2, tab_get _ h4.1 h4.2]
  rw [run_four]
  go_wp2
  go_ret
  refine ⟨?_, by go_grown⟩
  rw [HM.out]
  rfl

theorem tab_cut (k : Int) (h0 : 0 ≤ k) (h1 : k < 16) :
    (⟨#[48, 49, 50, 51, 52, 53, 54, 55, 56, 57, 97, 98, 99, 100, 101, 102]⟩ : ByteArray).extract k.toNat (k + 1).toNat = ⟨#[hexB k]⟩ := by
  have h : ∀ j : Fin 16, (⟨#[48, 49, 50, 51, 52, 53, 54, 55, 56, 57, 97, 98, 99, 100, 101, 102]⟩ : ByteArray).extract j.val (j.val + 1) = ⟨#[hexB (j.val : Int)]⟩ := by decide +kernel
  have hk := h ⟨k.toNat, by omega⟩
  have e : ((k.toNat : Nat) : Int) = k := Int.toNat_of_nonneg h0
  have e1 : (k + 1).toNat = k.toNat + 1 := by omega
  rw [e] at hk
  rw [e1]
  exact hk

theorem run_cut (w : World) (k : Int) (h0 : 0 ≤ k) (h1 : k < 16) :
    Sem.run Try.prog (Instr.slice 9 (.string ⟨#[48, 49, 50, 51, 52, 53, 54, 55, 56, 57, 97, 98, 99, 100, 101, 102]⟩) (some (.int .i64 k)) (some (.int .i64 (k + 1))) none) w = .ok (.string ⟨#[hexB k]⟩) w := by
  rw [run_slice_string w 9 _ .i64 .i64 k (k + 1) (by kernel_rfl) (by omega) (by omega) (by simp [ByteArray.size]; omega)]
  rw [tab_cut k h0 h1]

#print axioms hex_any
end Go.Proofs.Ytdijlfipmhpihaa
