/-
  The walks of the laws of layer 1: WrapWords, WrapRuns, WrapDigits, WrapBack and WrapIn return true for every input, and nothing that was there before the call changes.
  Conditions: none.
-/
import Derived.Test.YtmmjjjcndjbhlaaRRead
import Derived.Test.YtmmjjjcndjbhlaaLog
namespace Go.Proofs.Ytmmjjjcndjbhlaa
open Go.ChangeShapes Go.WideShapes Go.ChangeAt Go.RowKit

theorem sub35 : subW 3 5 = 65534 := by decide
theorem ahead5 : aheadW 65534 3 = 5 := by decide
theorem hexm1 : hexL (-1 % 65536) = [102, 102, 102, 102] := by decide

set_option maxHeartbeats 400000 in
theorem alive_any (w : World) :
    Calls Try.prog 16 #[] w fun e w' => e = .returned (.bool true) ∧ Below w.heap.size w w' := by
  go_enter Try.func16, Try.ntmps16
  go_wp2_with (first
    | (go_at_call 12; refine (sub_any _ _ _).mono ?_; rintro e w' ⟨rfl, rfl⟩; rw [sub35])
    | (go_at_call 14; refine (ahead_any _ _ _).mono ?_; rintro e w' ⟨rfl, rfl⟩; rw [ahead5])
    | (go_at_call 23; refine (hex_any _ _).mono ?_; rintro e w1 ⟨rfl, hb⟩; rw [hexm1]))
  go_ret
  exact ⟨rfl, hb⟩

set_option maxHeartbeats 1000000 in
theorem words_any (a b : Int) (w : World) :
    Calls Try.prog 3 #[.int .i64 a, .int .i64 b] w fun e w' => e = .returned (.bool true) ∧ Below w.heap.size w w' := by
  go_enter Try.func3, Try.ntmps3
  go_wp2_with (first
    | (go_at_call 8; refine (word_any _ _).mono ?_; rintro e w' ⟨rfl, rfl⟩)
    | (go_at_call 9; refine (rword_any _ _).mono ?_; rintro e w' ⟨rfl, rfl⟩)
    | (go_at_call 10; refine (add_any _ _ _).mono ?_; rintro e w' ⟨rfl, rfl⟩)
    | (go_at_call 11; refine (radd_any _ _ _).mono ?_; rintro e w' ⟨rfl, rfl⟩)
    | (go_at_call 12; refine (sub_any _ _ _).mono ?_; rintro e w' ⟨rfl, rfl⟩)
    | (go_at_call 13; refine (rsub_any _ _ _).mono ?_; rintro e w' ⟨rfl, rfl⟩)
    | (go_at_call 14; refine (ahead_any _ _ _).mono ?_; rintro e w' ⟨rfl, rfl⟩)
    | (go_at_call 15; refine (rahead_any _ _ _).mono ?_; rintro e w' ⟨rfl, rfl⟩)
    | (go_at_call 16; refine (alive_any _).mono ?_; rintro e w1 ⟨rfl, hb⟩))
  go_ret
  exact ⟨rfl, hb⟩

set_option maxHeartbeats 1000000 in
theorem runs_any (f n x : Int) (w : World) :
    Calls Try.prog 4 #[.int .i64 f, .int .i64 n, .int .i64 x] w fun e w' => e = .returned (.bool true) ∧ Below w.heap.size w w' := by
  go_enter Try.func4, Try.ntmps4
  go_wp2_with fail
  refine (log_any _ _).mono ?_
  rintro e w1 ⟨r, b, h1, rfl, rfl⟩
  have H1 := Lib.hid h1
  clear h1
  go_wp2_with fail
  refine (rlog_any _ _).mono ?_
  rintro e w1 ⟨r', b', h2, rfl, rfl⟩
  obtain ⟨rfl, rfl⟩ := logIs_one H1.out h2
  clear h2 H1
  go_wp2_with (first
    | (go_at_call 19; refine (in_any _ _ _ _).mono ?_; rintro e w' ⟨rfl, rfl⟩)
    | (go_at_call 20; refine (rin_any _ _ _ _).mono ?_; rintro e w' ⟨rfl, rfl⟩)
    | (go_at_call 16; refine (alive_any _).mono ?_; rintro e w1 ⟨rfl, hb⟩))
  go_ret
  exact ⟨rfl, hb⟩

theorem below_tr {a b c : World} (h : Below a.heap.size a b) (h' : Below b.heap.size b c) : Below a.heap.size a c := h.trans (h'.mono h.size)

set_option maxHeartbeats 1000000 in
theorem digits_any (n : Int) (s : ByteArray) (w : World) :
    Calls Try.prog 5 #[.int .i64 n, .string s] w fun e w' => e = .returned (.bool true) ∧ Below w.heap.size w w' := by
  by_cases hl : s.size > 200
  · have hg : decide ((200 : Int) < (s.size : Int)) = true := by simp; omega
    go_enter Try.func5, Try.ntmps5
    go_wp2_with (go_at_call 16; refine (alive_any _).mono ?_; rintro e w1 ⟨rfl, hb⟩)
    go_ret
    exact ⟨rfl, hb⟩
  · have hg : decide ((200 : Int) < (s.size : Int)) = false := by simp; omega
    obtain ⟨r, hr⟩ : ∃ r, readS s = r := ⟨_, rfl⟩
    have HR := Lib.hid hr
    clear hr
    go_enter Try.func5, Try.ntmps5
    go_wp2_with fail
    refine (read_any _ _).mono ?_
    rintro e w1 ⟨rfl, hb1⟩
    rw [HR.out]
    go_wp2_with fail
    refine (rread_any _ _).mono ?_
    rintro e w2 ⟨rfl, hb2⟩
    rw [HR.out]
    go_wp2_with fail
    refine (hex_any _ _).mono ?_
    rintro e w3 ⟨rfl, hb3⟩
    go_wp2_with fail
    refine (rhex_any _ _).mono ?_
    rintro e w3' ⟨rfl, rfl⟩
    go_wp2_with fail
    refine (alive_any _).mono ?_
    rintro e w4 ⟨rfl, hb4⟩
    go_wp2
    go_ret
    exact ⟨rfl, below_tr (below_tr (below_tr hb1 hb2) hb3) hb4⟩

theorem dig_fin : ∀ k : Fin 16, db ((hexB (k.val : Int)).toNat : Int) = true ∧ dv ((hexB (k.val : Int)).toNat : Int) = (k.val : Int) := by decide +kernel
theorem dig_of (k : Int) (h0 : 0 ≤ k) (h1 : k < 16) : db ((hexB k).toNat : Int) = true ∧ dv ((hexB k).toNat : Int) = k := by
  have h := dig_fin ⟨k.toNat, by omega⟩
  have e : ((k.toNat : Nat) : Int) = k := Int.toNat_of_nonneg h0
  simp only [e] at h
  exact h
theorem hex_fin : ∀ c : Fin 256, db (c.val : Int) = true → hexB (dv (c.val : Int)) = UInt8.ofNat c.val := by decide +kernel
theorem hex_of (c : UInt8) (h : db (c.toNat : Int) = true) : hexB (dv (c.toNat : Int)) = c := by
  have := hex_fin ⟨c.toNat, c.toNat_lt⟩ h
  simpa using this
theorem read_hex (m : Int) (h0 : 0 ≤ m) (h1 : m ≤ 65535) : readS ⟨(hexL m).toArray⟩ = (m, true) := by
  have d3 := dig_of (m / 16 / 16 / 16 % 16) (by omega) (by omega)
  have d2 := dig_of (m / 16 / 16 % 16) (by omega) (by omega)
  have d1 := dig_of (m / 16 % 16) (by omega) (by omega)
  have d0 := dig_of (m % 16) (by omega) (by omega)
  unfold readS
  rw [if_pos (by rfl)]
  show readL 0 (hexL m) = _
  unfold hexL
  rw [readL_cons, if_pos d3.1, readL_cons, if_pos d2.1, readL_cons, if_pos d1.1, readL_cons, if_pos d0.1]
  rw [d3.2, d2.2, d1.2, d0.2]
  show ((((0 * 16 + _) * 16 + _) * 16 + _) * 16 + _, true) = (m, true)
  congr 1
  omega
theorem readL_true {v : Int} {c : UInt8} {r : List UInt8} (h : (readL v (c :: r)).2 = true) : db (c.toNat : Int) = true ∧ (readL (v * 16 + dv (c.toNat : Int)) r).2 = true ∧ (readL v (c :: r)).1 = (readL (v * 16 + dv (c.toNat : Int)) r).1 := by
  by_cases hd : db (c.toNat : Int) = true
  · rw [readL_cons, if_pos hd] at h
    exact ⟨hd, h, by rw [readL_cons, if_pos hd]⟩
  · rw [readL_cons, if_neg hd] at h
    exact absurd h (by decide)
theorem hex_read (s : ByteArray) (h : (readS s).2 = true) : hexL ((readS s).1 % 65536) = s.data.toList := by
  by_cases h4 : s.size = 4
  · have e : readS s = readL 0 s.data.toList := if_pos h4
    rw [e] at h ⊢
    have hl : s.data.toList.length = 4 := by simpa using h4
    obtain ⟨l, el⟩ : ∃ l, s.data.toList = l := ⟨_, rfl⟩
    rw [el] at h hl ⊢
    clear el e h4
    match l, hl with
    | [a, b, c, d], _ =>
      obtain ⟨da, h1, e1⟩ := readL_true h
      obtain ⟨dB, h2, e2⟩ := readL_true h1
      obtain ⟨dc, h3, e3⟩ := readL_true h2
      obtain ⟨dd, h4, e4⟩ := readL_true h3
      rw [e1, e2, e3, e4]
      have ba := dv_bd (a.toNat : Int)
      have bb := dv_bd (b.toNat : Int)
      have bc := dv_bd (c.toNat : Int)
      have bd := dv_bd (d.toNat : Int)
      have ha := hex_of a da
      have hb := hex_of b dB
      have hc := hex_of c dc
      have hd := hex_of d dd
      unfold readL
      generalize dv (a.toNat : Int) = va at *
      generalize dv (b.toNat : Int) = vb at *
      generalize dv (c.toNat : Int) = vc at *
      generalize dv (d.toNat : Int) = vd at *
      have q3 : ((((0 * 16 + va) * 16 + vb) * 16 + vc) * 16 + vd) % 65536 / 16 / 16 / 16 % 16 = va := by omega
      have q2 : ((((0 * 16 + va) * 16 + vb) * 16 + vc) * 16 + vd) % 65536 / 16 / 16 % 16 = vb := by omega
      have q1 : ((((0 * 16 + va) * 16 + vb) * 16 + vc) * 16 + vd) % 65536 / 16 % 16 = vc := by omega
      have q0 : ((((0 * 16 + va) * 16 + vb) * 16 + vc) * 16 + vd) % 65536 % 16 = vd := by omega
      unfold hexL
      simp only [q3, q2, q1, q0, ha, hb, hc, hd]
  · have e : readS s = (0, false) := if_neg h4
    rw [e] at h
    exact absurd h (by decide)
theorem sub_add (a b : Int) : subW (addW a b) b = a % 65536 := by unfold subW addW; omega
theorem add_sub (a b : Int) : addW (subW a b) b = a % 65536 := by unfold subW addW; omega
theorem add_ahead (a b : Int) : addW a (aheadW a b) = b % 65536 := by unfold addW aheadW subW; split <;> omega

#print axioms alive_any
#print axioms words_any
#print axioms runs_any
#print axioms digits_any
#print axioms read_hex
#print axioms hex_read
#print axioms add_ahead
end Go.Proofs.Ytmmjjjcndjbhlaa
