/-
  Layer 16 (giver): the law GiverLinks, for every argument.
  Conditions: those that each theorem states.
-/
import Derived.Test.YtbahnnlenaoomaaDoorGv24
import Derived.Test.YtbahnnlenaoomaaDoorPrg3
namespace Go.Proofs.YtbahnnlenaoomaaDoor
open Go.ChangeShapes Go.WideShapes Go.ChangeAt Go.RowKit Go.Deep Go.Joins

set_option maxRecDepth 100000 in
set_option maxHeartbeats 8000000 in
theorem links16_no (R : Int) (v : Value) (l : List Int) (ep mk : Int) (w : World) (hT : TabAt w) (hv : Lies w (fun _ => True) v (ints l)) (hno : ¬ (okRing R ∧ R ≤ 16 ∧ 1 ≤ ep ∧ ep ≤ 65535 ∧ 0 ≤ mk ∧ mk ≤ 65535 ∧ mk ≠ ep ∧ l.length ≤ 8)) :
    Calls Tryd.prog 7 #[.int .i64 R, v, .int .i64 ep, .int .i64 mk] w fun e w' => e = .returned (.bool true) ∧ Below w.heap.size w w' := by
  obtain ⟨A, n, c, rfl, HN, HV⟩ := lies_open hv
  have hn := HN.out
  have KR := Lib.hid (fun W => rring13_any R W)
  have B0 := Lib.hid (below_al w (.cells #[.int .i64 R] 3))
  have KA := Lib.hid (alive16 _ (hT.below B0.out))
  have q0 := (Row.new w 3 #[.int .i64 R]).cell 0
  simp only [List.getElem?_cons_zero] at q0
  clear hT hv HV
  by_cases c0 : okRing R
  rotate_left
  · have e0 : decide (okRing R) = false := by simp [c0]
    rw [e0] at KR
    clear c0
    go_enter Tryd.func7, Tryd.ntmps7
    go_wp2_with (go_at_call 32; refine (KR.out _).mono ?_; rintro e w' ⟨rfl, rfl⟩)
    refine KA.out.mono ?_
    rintro e w2 ⟨rfl, b2⟩
    have B2 := Lib.hid (below_on B0.out b2)
    clear b2
    go_wp2
    go_ret
    exact ⟨rfl, B2.out⟩
  by_cases c1 : R ≤ 16
  rotate_left
  · have e0 : decide (okRing R) = true := by simp [c0]
    rw [e0] at KR
    have f1 : decide ((16 : Int) < R) = true := by simp; omega
    clear c0
    go_enter Tryd.func7, Tryd.ntmps7
    go_wp2_with (go_at_call 32; refine (KR.out _).mono ?_; rintro e w' ⟨rfl, rfl⟩)
    refine KA.out.mono ?_
    rintro e w2 ⟨rfl, b2⟩
    have B2 := Lib.hid (below_on B0.out b2)
    clear b2
    go_wp2
    go_ret
    exact ⟨rfl, B2.out⟩
  by_cases c2 : 1 ≤ ep
  rotate_left
  · have e0 : decide (okRing R) = true := by simp [c0]
    rw [e0] at KR
    have f1 : decide ((16 : Int) < R) = false := by simp; omega
    have f2 : decide (ep < 1) = true := by simp; omega
    clear c0
    go_enter Tryd.func7, Tryd.ntmps7
    go_wp2_with (go_at_call 32; refine (KR.out _).mono ?_; rintro e w' ⟨rfl, rfl⟩)
    refine KA.out.mono ?_
    rintro e w2 ⟨rfl, b2⟩
    have B2 := Lib.hid (below_on B0.out b2)
    clear b2
    go_wp2
    go_ret
    exact ⟨rfl, B2.out⟩
  by_cases c3 : ep ≤ 65535
  rotate_left
  · have e0 : decide (okRing R) = true := by simp [c0]
    rw [e0] at KR
    have f1 : decide ((16 : Int) < R) = false := by simp; omega
    have f2 : decide (ep < 1) = false := by simp; omega
    have f3 : decide ((65535 : Int) < ep) = true := by simp; omega
    clear c0
    go_enter Tryd.func7, Tryd.ntmps7
    go_wp2_with (go_at_call 32; refine (KR.out _).mono ?_; rintro e w' ⟨rfl, rfl⟩)
    refine KA.out.mono ?_
    rintro e w2 ⟨rfl, b2⟩
    have B2 := Lib.hid (below_on B0.out b2)
    clear b2
    go_wp2
    go_ret
    exact ⟨rfl, B2.out⟩
  by_cases c4 : 0 ≤ mk
  rotate_left
  · have e0 : decide (okRing R) = true := by simp [c0]
    rw [e0] at KR
    have f1 : decide ((16 : Int) < R) = false := by simp; omega
    have f2 : decide (ep < 1) = false := by simp; omega
    have f3 : decide ((65535 : Int) < ep) = false := by simp; omega
    have f4 : decide (mk < 0) = true := by simp; omega
    clear c0
    go_enter Tryd.func7, Tryd.ntmps7
    go_wp2_with (go_at_call 32; refine (KR.out _).mono ?_; rintro e w' ⟨rfl, rfl⟩)
    refine KA.out.mono ?_
    rintro e w2 ⟨rfl, b2⟩
    have B2 := Lib.hid (below_on B0.out b2)
    clear b2
    go_wp2
    go_ret
    exact ⟨rfl, B2.out⟩
  by_cases c5 : mk ≤ 65535
  rotate_left
  · have e0 : decide (okRing R) = true := by simp [c0]
    rw [e0] at KR
    have f1 : decide ((16 : Int) < R) = false := by simp; omega
    have f2 : decide (ep < 1) = false := by simp; omega
    have f3 : decide ((65535 : Int) < ep) = false := by simp; omega
    have f4 : decide (mk < 0) = false := by simp; omega
    have f5 : decide ((65535 : Int) < mk) = true := by simp; omega
    clear c0
    go_enter Tryd.func7, Tryd.ntmps7
    go_wp2_with (go_at_call 32; refine (KR.out _).mono ?_; rintro e w' ⟨rfl, rfl⟩)
    refine KA.out.mono ?_
    rintro e w2 ⟨rfl, b2⟩
    have B2 := Lib.hid (below_on B0.out b2)
    clear b2
    go_wp2
    go_ret
    exact ⟨rfl, B2.out⟩
  by_cases c6 : mk ≠ ep
  rotate_left
  · have e0 : decide (okRing R) = true := by simp [c0]
    rw [e0] at KR
    have f1 : decide ((16 : Int) < R) = false := by simp; omega
    have f2 : decide (ep < 1) = false := by simp; omega
    have f3 : decide ((65535 : Int) < ep) = false := by simp; omega
    have f4 : decide (mk < 0) = false := by simp; omega
    have f5 : decide ((65535 : Int) < mk) = false := by simp; omega
    have f6 : (mk == ep) = true := by simpa using c6
    clear c0
    go_enter Tryd.func7, Tryd.ntmps7
    go_wp2_with (go_at_call 32; refine (KR.out _).mono ?_; rintro e w' ⟨rfl, rfl⟩)
    refine KA.out.mono ?_
    rintro e w2 ⟨rfl, b2⟩
    have B2 := Lib.hid (below_on B0.out b2)
    clear b2
    go_wp2
    go_ret
    exact ⟨rfl, B2.out⟩
  by_cases c7 : (n : Int) ≤ 8
  rotate_left
  · have e0 : decide (okRing R) = true := by simp [c0]
    rw [e0] at KR
    have f1 : decide ((16 : Int) < R) = false := by simp; omega
    have f2 : decide (ep < 1) = false := by simp; omega
    have f3 : decide ((65535 : Int) < ep) = false := by simp; omega
    have f4 : decide (mk < 0) = false := by simp; omega
    have f5 : decide ((65535 : Int) < mk) = false := by simp; omega
    have f6 : (mk == ep) = false := by simpa using c6
    have f7 : decide ((8 : Int) < (n : Int)) = true := by simp; omega
    clear c0
    go_enter Tryd.func7, Tryd.ntmps7
    go_wp2_with (go_at_call 32; refine (KR.out _).mono ?_; rintro e w' ⟨rfl, rfl⟩)
    refine KA.out.mono ?_
    rintro e w2 ⟨rfl, b2⟩
    have B2 := Lib.hid (below_on B0.out b2)
    clear b2
    go_wp2
    go_ret
    exact ⟨rfl, B2.out⟩
  exact absurd ⟨c0, c1, c2, c3, c4, c5, c6, by omega⟩ hno

theorem giverLinks_any (R : Int) (v : Value) (l : List Int) (ep mk : Int) (w : World) (hT : TabAt w) (hv : Lies w (fun _ => True) v (ints l)) (hcap : CapOk v) :
    Calls Tryd.prog 7 #[.int .i64 R, v, .int .i64 ep, .int .i64 mk] w fun e w' => e = .returned (.bool true) ∧ Below w.heap.size w w' := by
  by_cases h : okRing R ∧ R ≤ 16 ∧ 1 ≤ ep ∧ ep ≤ 65535 ∧ 0 ≤ mk ∧ mk ≤ 65535 ∧ mk ≠ ep ∧ l.length ≤ 8
  · obtain ⟨hR, h16, h1, h2, h3, h4, h5, h6⟩ := h
    obtain ⟨r, rfl⟩ := Int.eq_ofNat_of_zero_le (show 0 ≤ R by have := hR.bd; omega)
    exact links16_yes r v l ep mk w hR (by omega) hT hv hcap h6 h1 h2 h3 h4 h5
  · exact links16_no R v l ep mk w hT hv h

section
variable {H : Type} {enc : TypeId × Value → H} {P : Program} {w : World} {base : Nat} {spare : Nat → Bool} {held : Bool}
/-- A list that came in has no more places than its row. -/
theorem cap_list {r : Go.Reach} {b0 : Nat} {t e : TypeId} {v : Value} {d : DataW H} {p : List MemPlace} (ht : P.underlying t = some (.slice e)) (hv : Value.okWide P w r b0 t v) (h : DataW.Trod enc P w base spare held t v d p) : CapOk v := by
  obtain ⟨A, len, cap, rfl⟩ := okWide_slice ht hv
  obtain ⟨fuel, hf⟩ := h
  rcases open_slice ht hf with ⟨hcs, _⟩ | ⟨a, len', cap', m, n, D, Pl, hcs, _, hl, hm, hmm, hd, hi⟩
  · simp [Value.cells] at hcs
    obtain ⟨rfl, rfl, rfl⟩ := hcs
    exact rfl
  · simp [Value.cells] at hcs
    obtain ⟨rfl, rfl, rfl⟩ := hcs
    exact hl
end

#print axioms giverLinks_any
#print axioms cap_list
end Go.Proofs.YtbahnnlenaoomaaDoor
