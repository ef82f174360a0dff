/-
  Contracts of Hex of layer 1, of the program and of the reference: each returns the four hexadecimal digits in lower case of the word of its argument, for every argument; at most new memory is made.
  Conditions: none.
-/
import Derived.Test.YtgoogclcpnfmkaaWords
import Derived.Laws.BytesString
namespace Go.Proofs.Ytgoogclcpnfmkaa
open Go.ChangeShapes Go.WideShapes Go.ChangeAt Go.RowKit

/-- The hexadecimal digit of k. -/
def hexB (k : Int) : UInt8 := if k < 10 then UInt8.ofNat (48 + k.toNat) else UInt8.ofNat (87 + k.toNat)
/-- The four hexadecimal digits of m. -/
def hexL (m : Int) : List UInt8 := [hexB (m / 16 / 16 / 16 % 16), hexB (m / 16 / 16 % 16), hexB (m / 16 % 16), hexB (m % 16)]

theorem tab_fin : ∀ j : Fin 16, ((⟨#[48, 49, 50, 51, 52, 53, 54, 55, 56, 57, 97, 98, 99, 100, 101, 102]⟩ : ByteArray)[j.val]'(j.isLt)) = hexB (j.val : Int) := by decide +kernel

theorem tab_get (k : Int) (h0 : 0 ≤ k) (h1 : k < 16) (hh : k.toNat < (⟨#[48, 49, 50, 51, 52, 53, 54, 55, 56, 57, 97, 98, 99, 100, 101, 102]⟩ : ByteArray).size) :
    (⟨#[48, 49, 50, 51, 52, 53, 54, 55, 56, 57, 97, 98, 99, 100, 101, 102]⟩ : ByteArray)[k.toNat]'hh = hexB k := by
  have h := tab_fin ⟨k.toNat, by omega⟩
  have e : ((k.toNat : Nat) : Int) = k := Int.toNat_of_nonneg h0
  rw [e] at h
  exact h

theorem tab_cut (k : Int) (h0 : 0 ≤ k) (h1 : k < 16) :
    (⟨#[48, 49, 50, 51, 52, 53, 54, 55, 56, 57, 97, 98, 99, 100, 101, 102]⟩ : ByteArray).extract k.toNat (k + 1).toNat = ⟨#[hexB k]⟩ := by
  have h : ∀ j : Fin 16, (⟨#[48, 49, 50, 51, 52, 53, 54, 55, 56, 57, 97, 98, 99, 100, 101, 102]⟩ : ByteArray).extract j.val (j.val + 1) = ⟨#[hexB (j.val : Int)]⟩ := by decide +kernel
  have hk := h ⟨k.toNat, by omega⟩
  have e : ((k.toNat : Nat) : Int) = k := Int.toNat_of_nonneg h0
  have e1 : (k + 1).toNat = k.toNat + 1 := by omega
  rw [e] at hk
  rw [e1]
  exact hk

theorem run_cut (w : World) (k : Int) (h0 : 0 ≤ k) (h1 : k < 16) :
    Sem.run Try.prog (Instr.slice 9 (.string ⟨#[48, 49, 50, 51, 52, 53, 54, 55, 56, 57, 97, 98, 99, 100, 101, 102]⟩) (some (.int .i64 k)) (some (.int .i64 (k + 1))) none) w = .ok (.string ⟨#[hexB k]⟩) w := by
  rw [run_slice_string w 9 _ .i64 .i64 k (k + 1) (by kernel_rfl) (by omega) (by omega) (by simp [ByteArray.size]; omega)]
  rw [tab_cut k h0 h1]

end Go.Proofs.Ytgoogclcpnfmkaa
