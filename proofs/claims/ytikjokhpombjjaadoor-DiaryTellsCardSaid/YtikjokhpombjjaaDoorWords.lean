/-
  Contracts of the number functions of layer 1 (Word, Add, Sub, Ahead, In), of the program and of the reference, for every argument: each returns the number that modular arithmetic gives and leaves the world as it is.
  Conditions: none.
-/
import Derived.Test.YtikjokhpombjjaaDoorRows
import Derived.WalkKit
import Derived.ProofKit
import Derived.OpenShut
import Derived.Handy
import Derived.Lib.Hide
import Derived.Laws.BitsLemmas
namespace Go.Proofs.YtikjokhpombjjaaDoor
open Go.ChangeShapes Go.WideShapes Go.ChangeAt Go.RowKit

theorem and_mask16 (n : Int) : bits .and .i64 n 65535 = n % 65536 := by
  have hm : (BitVec.ofInt 64 65535).toNat = 2 ^ 16 - 1 := by decide
  have key : (BitVec.ofInt 64 n &&& BitVec.ofInt 64 65535).toNat = (n % ((2 ^ 64 : Nat) : Int)).toNat % 2 ^ 16 := by
    rw [BitVec.toNat_and, BitVec.toNat_ofInt, hm, Nat.and_two_pow_sub_one_eq_mod]
  show IntKind.i64.wrap ((BitVec.ofInt 64 n &&& BitVec.ofInt 64 65535).toNat : Nat) = n % 65536
  rw [key, IntKind.wrap_i64]
  omega

theorem below_tr {a b c : World} (h : Below a.heap.size a b) (h' : Below b.heap.size b c) : Below a.heap.size a c := h.trans (h'.mono h.size)

theorem ret_int {k : IntKind} {a b : Int} (h : a = b) : Ending.returned (.int k a) = .returned (.int k b) := by rw [h]

set_option maxRecDepth 100000 in
set_option maxHeartbeats 400000 in
theorem word_any (n : Int) (w : World) :
    Calls Tryd.prog 40 #[.int .i64 n] w fun e w' => e = .returned (.int .i64 (n % 65536)) ∧ w = w' := by
  go_enter Tryd.func40, Tryd.ntmps40
  go_wp2
  go_ret
  exact ⟨ret_int (and_mask16 n), rfl⟩

def addW (a b : Int) : Int := (a + b) % 65536
def subW (a b : Int) : Int := (a - b) % 65536
def aheadW (a b : Int) : Int := if 32768 ≤ subW b a then subW b a - 65536 else subW b a
theorem addW_bd (a b : Int) : 0 ≤ addW a b ∧ addW a b ≤ 65535 := by unfold addW; omega
theorem subW_bd (a b : Int) : 0 ≤ subW a b ∧ subW a b ≤ 65535 := by unfold subW; omega
theorem aheadW_bd (a b : Int) : -32768 ≤ aheadW a b ∧ aheadW a b ≤ 32767 := by have := subW_bd b a; unfold aheadW; split <;> omega

end Go.Proofs.YtikjokhpombjjaaDoor
