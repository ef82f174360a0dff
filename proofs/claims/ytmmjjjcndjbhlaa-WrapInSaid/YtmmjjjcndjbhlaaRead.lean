/-
  Contracts of Read and digit of layer 1, of the program and of the reference: for every string, both give the number that four hexadecimal digits in lower case stand for and true, or 0 and false; at most new memory is made.
  Conditions: none.
-/
import Derived.Test.YtmmjjjcndjbhlaaWords
import Derived.Deep.QuietTactic
import Derived.BigQuiet
namespace Go.Proofs.Ytmmjjjcndjbhlaa
open Go.ChangeShapes Go.WideShapes Go.ChangeAt Go.RowKit

/-- The value of a hexadecimal digit, 0 if it is none. -/
def dv (r : Int) : Int := if 48 ≤ r ∧ r ≤ 57 then r - 48 else if 97 ≤ r ∧ r ≤ 102 then r - 87 else 0
/-- Is it a hexadecimal digit in lower case? -/
def db (r : Int) : Bool := decide (48 ≤ r ∧ r ≤ 57) || decide (97 ≤ r ∧ r ≤ 102)
/-- What the digits stand for, behind v. -/
def readL : Int → List UInt8 → Int × Bool
  | v, [] => (v, true)
  | v, c :: r => if db (c.toNat : Int) then readL (v * 16 + dv (c.toNat : Int)) r else (0, false)
/-- What Read gives for a text. -/
def readS (s : ByteArray) : Int × Bool := if s.size = 4 then readL 0 s.data.toList else (0, false)

theorem readL_cons (v : Int) (c : UInt8) (r : List UInt8) : readL v (c :: r) = if db (c.toNat : Int) then readL (v * 16 + dv (c.toNat : Int)) r else (0, false) := rfl

theorem dv_bd (r : Int) : 0 ≤ dv r ∧ dv r ≤ 15 := by unfold dv; split <;> (try split) <;> omega

theorem ret_pair {a b : Int} {c d : Bool} (h : a = b) (h' : c = d) : Ending.returned (.tuple #[.int .i64 a, .bool c]) = .returned (.tuple #[.int .i64 b, .bool d]) := by rw [h, h']

set_option maxHeartbeats 400000 in
theorem digit_yes (r : Int) (w : World) (h : db r = true) :
    Calls Try.prog 25 #[.int .i32 r] w fun e w' => e = .returned (.tuple #[.int .i64 (dv r), .bool true]) ∧ w = w' := by
  have h' : (48 ≤ r ∧ r ≤ 57) ∨ (97 ≤ r ∧ r ≤ 102) := by simpa [db] using h
  clear h
  rcases h' with ⟨h1, h2⟩ | ⟨h1, h2⟩
  · have HV := Lib.hid (show dv r = r - 48 from if_pos ⟨h1, h2⟩)
    go_enter Try.func25, Try.ntmps25
    go_wp2
    go_ret2
    exact ⟨ret_pair HV.out.symm rfl, rfl⟩
  · have HV := Lib.hid (show dv r = r - 87 from by unfold dv; rw [if_neg (by omega), if_pos ⟨h1, h2⟩])
    have hn : decide (r ≤ 57) = false := by simp; omega
    have hp : decide (48 ≤ r) = true := by simp; omega
    go_enter Try.func25, Try.ntmps25
    go_wp2
    go_ret2
    exact ⟨ret_pair (by rw [HV.out]; omega) rfl, rfl⟩

set_option maxHeartbeats 400000 in
theorem digit_no (r : Int) (w : World) (h : db r = false) :
    Calls Try.prog 25 #[.int .i32 r] w fun e w' => e = .returned (.tuple #[.int .i64 0, .bool false]) ∧ w = w' := by
  have h' : ¬ (48 ≤ r ∧ r ≤ 57) ∧ ¬ (97 ≤ r ∧ r ≤ 102) := by simpa [db] using h
  clear h
  have h'' : r < 48 ∨ (57 < r ∧ r < 97) ∨ 102 < r := by omega
  clear h'
  rcases h'' with h | ⟨h1, h2⟩ | h
  all_goals
    go_enter Try.func25, Try.ntmps25
    go_wp2
    go_ret2
    exact ⟨rfl, rfl⟩

theorem drop_at (s : ByteArray) (k : Nat) (h : k < s.size) : s.data.toList.drop k = s[k] :: s.data.toList.drop (k + 1) := by
  rw [List.drop_eq_getElem_cons (by simpa using h)]; rfl
theorem db_high (r : Int) (h : 128 ≤ r) : db r = false := by unfold db; simp; omega
theorem pow16 (k : Nat) (h : k < 4) : (16 : Int) ^ k ≤ 4096 ∧ (16 : Int) ^ (k + 1) = 16 * 16 ^ k := by
  refine ⟨?_, by rw [Int.pow_succ]; omega⟩
  rcases k with _ | _ | _ | _ | k
  · decide
  · decide
  · decide
  · decide
  · omega

set_option maxHeartbeats 1000000 in
theorem read_any (s : ByteArray) (w : World) :
    Calls Try.prog 21 #[.string s] w fun e w' => e = .returned (.tuple #[.int .i64 (readS s).1, .bool (readS s).2]) ∧ Below w.heap.size w w' := by
  by_cases h4 : s.size = 4
  · have HR := Lib.hid (show readS s = readL 0 s.data.toList from if_pos h4)
    have hne : ((s.size : Int) != 4) = false := by simp; omega
    have H4 := Lib.hid h4
    clear h4
    go_enter Try.func21, Try.ntmps21
    go_wp2
    go_loopw [4] (fun v wr => ∃ (k : Nat) (x : Int), k ≤ s.size ∧ wr = w.iter s k ∧ v = .int .i64 x ∧ 0 ≤ x ∧ x < 16 ^ k ∧ Hid (readL x (s.data.toList.drop k) = readL 0 s.data.toList)) (fun _ wr => s.size - wr.iterPos w.heap.size)
    case atStart => exact ⟨0, 0, Nat.zero_le _, rfl, rfl, by omega, by decide, rfl⟩
    case round =>
      obtain ⟨k, x, hk, rfl, rfl, hx0, hx1, HS⟩ := hrel
      by_cases hp : k < s.size
      · have hpw := pow16 k (by have := H4.out; omega)
        have hx2 : x ≤ 4095 := by omega
        have HP := Lib.hid hpw.2
        have HX := Lib.hid hx1
        clear hpw hx1
        have HD := Lib.hid (drop_at s k hp)
        have hc8 : (s[k]).toNat < 256 := (s[k]).toNat_lt
        have hd := dv_bd ((s[k]).toNat : Int)
        by_cases hok : db ((s[k]).toNat : Int) = true
        · have HB := Lib.hid hok
          have ha : (s[k]).toNat < 128 := by
            by_cases hlt : (s[k]).toNat < 128
            · exact hlt
            · rw [db_high _ (by omega)] at hok; exact absurd hok (by decide)
          clear hok
          have hnx : ∀ ty, (Instr.next (.pointer (some ⟨w.heap.size, 0, none⟩)) true ty).run Try.prog (w.iter s k) = _ := fun ty => run_next_ascii w s k ty hp ha
          go_wp2_with (go_at_call 25; refine (digit_yes _ _ HB.out).mono ?_; rintro e w' ⟨rfl, rfl⟩)
          go_roundw
          case rel =>
            refine ⟨k + 1, _, by omega, rfl, rfl, by omega, ?_, ?_⟩
            · rw [HP.out]; have := HX.out; omega
            · have h := HS.out
              rw [HD.out] at h
              rw [readL_cons] at h
              rw [if_pos HB.out] at h
              exact h
          case measure => simp; omega
        · have HB := Lib.hid (Bool.eq_false_iff.2 hok)
          have HF : Hid (readL 0 s.data.toList = (0, false)) := by
            have h := HS.out
            rw [HD.out] at h
            rw [readL_cons] at h
            rw [if_neg hok] at h
            exact h.symm
          clear hok
          by_cases ha : (s[k]).toNat < 128
          · have hnx : ∀ ty, (Instr.next (.pointer (some ⟨w.heap.size, 0, none⟩)) true ty).run Try.prog (w.iter s k) = _ := fun ty => run_next_ascii w s k ty hp ha
            go_wp2_with (go_at_call 25; refine (digit_no _ _ HB.out).mono ?_; rintro e w' ⟨rfl, rfl⟩)
            go_ret2
            refine ⟨?_, by unfold World.iter; go_grown⟩
            rw [HR.out, HF.out]
            rfl
          · have hnx : ∀ ty, (Instr.next (.pointer (some ⟨w.heap.size, 0, none⟩)) true ty).run Try.prog (w.iter s k) = _ := fun ty => run_next_any w s k ty hp
            have HQ := Lib.hid (db_high ((Utf8.decode s k).1 : Int) (by have := (decode_high s k hp (by omega)).1; omega))
            go_wp2_with (go_at_call 25; refine (digit_no _ _ HQ.out).mono ?_; rintro e w' ⟨rfl, rfl⟩)
            go_ret2
            refine ⟨?_, by unfold World.iter; go_grown⟩
            rw [HR.out, HF.out]
            rfl
      · have hnx : ∀ ty, (Instr.next (.pointer (some ⟨w.heap.size, 0, none⟩)) true ty).run Try.prog (w.iter s k) = _ := fun ty => run_next_end w s k ty hp
        go_wp2
        go_ret2
        refine ⟨?_, by unfold World.iter; go_grown⟩
        have he : s.data.toList.drop k = [] := List.drop_eq_nil_of_le (by simp; omega)
        have h := HS.out
        rw [he] at h
        rw [HR.out, ← h]
        rfl
  · have HR := Lib.hid (show readS s = (0, false) from if_neg h4)
    have hne : ((s.size : Int) != 4) = true := by simp; omega
    clear h4
    go_enter Try.func21, Try.ntmps21
    go_wp2
    go_ret2
    refine ⟨?_, by go_grown⟩
    rw [HR.out]
    rfl

#print axioms digit_yes
#print axioms digit_no
#print axioms read_any
end Go.Proofs.Ytmmjjjcndjbhlaa
