/-
  Layer 19 (diary): what the program asks of one entry.
  Conditions: those that each theorem states.
-/
import Derived.Test.YtikjokhpombjjaaDoorDiA
namespace Go.Proofs.YtikjokhpombjjaaDoor
open Go.ChangeShapes Go.WideShapes Go.ChangeAt Go.RowKit

/-- A word. -/
def okW19 (x : Int) : Bool := decide (0 ≤ x ∧ x < 65536)

theorem lies19_open {w : World} {v : Value} {q : List Int} (h : Lies w (fun _ => True) v (ints q)) : ∃ A n c, v = .slice A n c ∧ Hid (q.length = n) ∧ Hid (Lies w (fun _ => True) (.slice A n c) (ints q)) := by
  have h0 := h
  obtain ⟨A, c, rfl, _⟩ := h
  exact ⟨A, _, c, rfl, Lib.hid (ints_len q).symm, Lib.hid h0⟩
theorem lies19_at {w : World} {A : Option Addr} {n c k : Nat} {q : List Int} {x : Int} (h : Lies w (fun _ => True) (.slice A n c) (ints q)) (hk : q[k]? = some x) : ∃ g o, A = some ⟨g, o, none⟩ ∧ True ∧ g < w.heap.size ∧ w.cell? ⟨g, o + k, none⟩ = some (.int .i64 x) := by
  obtain ⟨A', c', hv, hA⟩ := h
  injection hv with e1 e2 e3
  subst e1
  have hlt := lt_of_at hk
  obtain ⟨g, o, rfl, _, hg, hc⟩ := hA (by rw [ints_len]; omega)
  exact ⟨g, o, rfl, trivial, hg, hc k _ (ints_some hk)⟩

set_option maxRecDepth 100000 in
set_option maxHeartbeats 400000 in
theorem core19_any (n : Int) (w : World) :
    Calls Tryd.prog 33 #[.int .i64 n] w fun e w' => e = .returned (.bool (decide (0 ≤ n ∧ n < 8))) ∧ w = w' := by
  by_cases h0 : 0 ≤ n
  · by_cases h1 : n < 8
    · have t0 : decide (0 ≤ n) = true := by simpa using h0
      have t1 : decide (n < 8) = true := by simpa using h1
      rw [decide_eq_true (⟨h0, h1⟩ : 0 ≤ n ∧ n < 8)]
      go_enter Tryd.func33, Tryd.ntmps33
      go_wp2
      go_ret
      exact ⟨rfl, rfl⟩
    · have t0 : decide (0 ≤ n) = true := by simpa using h0
      have t1 : decide (n < 8) = false := by simpa using h1
      rw [decide_eq_false (show ¬ (0 ≤ n ∧ n < 8) from fun h => h1 h.2)]
      go_enter Tryd.func33, Tryd.ntmps33
      go_wp2
      go_ret
      exact ⟨rfl, rfl⟩
  · have t0 : decide (0 ≤ n) = false := by simpa using h0
    rw [decide_eq_false (show ¬ (0 ≤ n ∧ n < 8) from fun h => h0 h.1)]
    go_enter Tryd.func33, Tryd.ntmps33
    go_wp2
    go_ret
    exact ⟨rfl, rfl⟩

set_option maxRecDepth 100000 in
set_option maxHeartbeats 400000 in
theorem wide19_any (n : Int) (w : World) :
    Calls Tryd.prog 36 #[.int .i64 n] w fun e w' => e = .returned (.bool (!okW19 n)) ∧ w = w' := by
  have HB := Lib.hid (word_any n w)
  cases h : okW19 n with
  | true =>
    have h1 : (n % 65536 != n) = false := by
      have := of_decide_eq_true h
      simp; omega
    clear h
    go_enter Tryd.func36, Tryd.ntmps36
    go_wp2_with fail
    refine HB.out.mono ?_
    rintro e w' ⟨rfl, rfl⟩
    go_wp2
    go_ret
    exact ⟨rfl, rfl⟩
  | false =>
    have h1 : (n % 65536 != n) = true := by
      have := of_decide_eq_false h
      simp; omega
    clear h
    go_enter Tryd.func36, Tryd.ntmps36
    go_wp2_with fail
    refine HB.out.mono ?_
    rintro e w' ⟨rfl, rfl⟩
    go_wp2
    go_ret
    exact ⟨rfl, rfl⟩

set_option maxRecDepth 100000 in
set_option maxHeartbeats 1000000 in
theorem index19_any (l : List Int) (v : Value) (w : World) (hv : Lies w (fun _ => True) v (ints l)) (hl : l.length ≤ 65536) :
    Calls Tryd.prog 39 #[v, .func (.func 36) #[] #[]] w fun e w' => (∃ n : Int, e = .returned (.int .i64 n) ∧ decide (0 ≤ n) = !(l.all okW19)) ∧ w = w' := by
  obtain ⟨A, n, c, rfl, HN, HV⟩ := lies19_open hv
  have hn : n ≤ 65536 := by rw [← HN.out]; exact hl
  clear hv hl
  go_enter Tryd.func39, Tryd.ntmps39
  go_wp2
  go_loopw [8] (fun i wr => ∃ k : Nat, k ≤ n ∧ i = .int .i64 k ∧ Hid ((l.take k).all okW19 = true) ∧ w = wr) (fun i _ => n - (intOf i).toNat)
  case atStart => exact ⟨0, Nat.zero_le _, rfl, Lib.hid (by simp), rfl⟩
  case round =>
    obtain ⟨k, hk, rfl, HT, rfl⟩ := hrel
    by_cases hlt : k < n
    · obtain ⟨a, ha⟩ : ∃ a, l[k]? = some a := ⟨_, List.getElem?_eq_getElem (by rw [HN.out]; exact hlt)⟩
      obtain ⟨g, o, rfl, hP, hg, hc⟩ := lies19_at HV.out ha
      have hkn : (k : Int) < (n : Int) := by omega
      have A1 := Lib.hid ha; clear ha
      have HR := Lib.hid (wide19_any a w)
      cases ho : okW19 a with
      | false =>
        rw [ho] at HR
        have HO := Lib.hid ho; clear ho
        go_wp2_with fail
        refine HR.out.mono ?_
        rintro e w' ⟨rfl, rfl⟩
        go_wp2
        go_ret
        refine ⟨⟨_, rfl, ?_⟩, rfl⟩
        have : l.all okW19 = false := by
          rw [List.all_eq_false]
          exact ⟨a, List.mem_of_getElem? A1.out, by rw [HO.out]; decide⟩
        rw [this]
        simp
      | true =>
        rw [ho] at HR
        have HO := Lib.hid ho; clear ho
        go_wp2_with fail
        refine HR.out.mono ?_
        rintro e w' ⟨rfl, rfl⟩
        go_wp2
        go_roundw
        case rel =>
          refine ⟨k + 1, by omega, by go_num, Lib.hid ?_, trivial⟩
          rw [List.take_add_one, A1.out]
          simp only [Option.toList_some, List.all_append, HT.out, List.all_cons, HO.out, List.all_nil]
          rfl
        case measure => simp [intOf]; omega
    · obtain rfl : k = n := by omega
      go_wp2
      go_ret
      refine ⟨⟨_, rfl, ?_⟩, rfl⟩
      have := HT.out
      rw [← HN.out, List.take_length] at this
      rw [this]
      rfl

set_option maxRecDepth 100000 in
set_option maxHeartbeats 1000000 in
theorem contains19_any (l : List Int) (v : Value) (w : World) (hv : Lies w (fun _ => True) v (ints l)) (hl : l.length ≤ 65536) :
    Calls Tryd.prog 35 #[v, .func (.func 36) #[] #[]] w fun e w' => e = .returned (.bool (!(l.all okW19))) ∧ w = w' := by
  have HK := Lib.hid (index19_any l v w hv hl)
  obtain ⟨A, n, c, rfl, HN, HV⟩ := lies19_open hv
  clear hv hl
  obtain ⟨o, ho⟩ : ∃ o, (!(l.all okW19)) = o := ⟨_, rfl⟩
  rw [ho] at HK ⊢
  clear ho
  go_enter Tryd.func35, Tryd.ntmps35
  go_wp2_with fail
  refine HK.out.mono ?_
  rintro e w' ⟨⟨n, rfl, h0⟩, rfl⟩
  go_wp2
  go_ret
  exact ⟨rfl, rfl⟩

set_option maxRecDepth 100000 in
set_option maxHeartbeats 400000 in
theorem ended19_any (x : En) (u : Value) (w : World) :
    Calls Tryd.prog 28 #[.agg (row19 x u).toArray] w fun e w' => e = .returned (.bool (x.fin != 0)) ∧ Below w.heap.size w w' := by
  have BB := Lib.hid (below_al w (.cells (row19 x u).toArray 38))
  simp only [row19] at BB ⊢
  go_enter Tryd.func28, Tryd.ntmps28
  go_wp2
  go_ret
  exact ⟨rfl, BB.out⟩

/-- Whether an entry's times and result fit. -/
def time19 (x : En) : Bool := if x.fin = 0 then decide (x.err = 0) else decide (x.beg ≤ x.fin)

set_option maxRecDepth 100000 in
set_option maxHeartbeats 1000000 in
theorem timely19_any (x : En) (u : Value) (w : World) (hu : ∃ A n c, u = .slice A n c) :
    Calls Tryd.prog 34 #[.agg (row19 x u).toArray] w fun e w' => e = .returned (.bool (time19 x)) ∧ Below w.heap.size w w' := by
  obtain ⟨A, n, c, rfl⟩ := hu
  have BB := Lib.hid (below_al w (.cells (row19 x (.slice A n c)).toArray 38))
  have R := Lib.hid (Row.new w 38 (row19 x (.slice A n c)).toArray)
  have KE := Lib.hid (fun W => ended19_any x (.slice A n c) W)
  simp only [row19] at BB R KE ⊢
  by_cases h : x.fin = 0
  · have n0 : (x.fin != 0) = false := by simpa using h
    by_cases h1 : x.err = 0
    · have n1 : (x.err == 0) = true := by simpa using h1
      have HF : Hid (time19 x = true) := Lib.hid (by unfold time19; rw [if_pos h, decide_eq_true h1])
      clear h h1
      go_enter Tryd.func34, Tryd.ntmps34
      go_wp2_with (go_at_call 28; refine (KE.out _).mono ?_; rintro e w1 ⟨rfl, b1⟩; rw [n0]; have B1 := Lib.hid (below_on BB.out b1); have q5 := (R.out.below b1).cell 5; simp only [List.getElem?_cons_zero, List.getElem?_cons_succ] at q5; clear b1)
      go_ret
      exact ⟨by rw [HF.out]; rfl, B1.out⟩
    · have n1 : (x.err == 0) = false := by simpa using h1
      have HF : Hid (time19 x = false) := Lib.hid (by unfold time19; rw [if_pos h, decide_eq_false h1])
      clear h h1
      go_enter Tryd.func34, Tryd.ntmps34
      go_wp2_with (go_at_call 28; refine (KE.out _).mono ?_; rintro e w1 ⟨rfl, b1⟩; rw [n0]; have B1 := Lib.hid (below_on BB.out b1); have q5 := (R.out.below b1).cell 5; simp only [List.getElem?_cons_zero, List.getElem?_cons_succ] at q5; clear b1)
      go_ret
      exact ⟨by rw [HF.out]; rfl, B1.out⟩
  · have n0 : (x.fin != 0) = true := by simpa using h
    by_cases h1 : x.beg ≤ x.fin
    · have HF : Hid (time19 x = true) := Lib.hid (by unfold time19; rw [if_neg h, decide_eq_true h1])
      have n1 : decide (x.fin ≥ x.beg) = true := by simpa using h1
      clear h h1
      go_enter Tryd.func34, Tryd.ntmps34
      go_wp2_with (go_at_call 28; refine (KE.out _).mono ?_; rintro e w1 ⟨rfl, b1⟩; rw [n0]; have B1 := Lib.hid (below_on BB.out b1); have q3 := (R.out.below b1).cell 3; have q4 := (R.out.below b1).cell 4; simp only [List.getElem?_cons_zero, List.getElem?_cons_succ] at q3 q4; clear b1)
      go_ret
      exact ⟨by rw [HF.out]; simp, B1.out⟩
    · have HF : Hid (time19 x = false) := Lib.hid (by unfold time19; rw [if_neg h, decide_eq_false h1])
      have n1 : decide (x.fin ≥ x.beg) = false := by simpa using h1
      clear h h1
      go_enter Tryd.func34, Tryd.ntmps34
      go_wp2_with (go_at_call 28; refine (KE.out _).mono ?_; rintro e w1 ⟨rfl, b1⟩; rw [n0]; have B1 := Lib.hid (below_on BB.out b1); have q3 := (R.out.below b1).cell 3; have q4 := (R.out.below b1).cell 4; simp only [List.getElem?_cons_zero, List.getElem?_cons_succ] at q3 q4; clear b1)
      go_ret
      exact ⟨by rw [HF.out]; simp, B1.out⟩

/-- What the program asks of one entry. -/
def ok19 (x : En) : Bool := decide (0 ≤ x.core ∧ x.core < 8) && decide (0 ≤ x.peer ∧ x.peer < 8) && !(x.core == x.peer) && (x.kind == 1 || x.kind == 2 || x.kind == 3) && time19 x && decide (x.load.length ≤ 8) && x.load.all okW19

set_option maxRecDepth 100000 in
set_option maxHeartbeats 4000000 in
theorem right19_any (x : En) (u : Value) (w : World) (hu : Ld w x u) (hl : x.load.length ≤ 65536) :
    Calls Tryd.prog 23 #[.agg (row19 x u).toArray] w fun e w' => e = .returned (.bool (ok19 x)) ∧ Below w.heap.size w w' := by
  obtain ⟨A, n, c, rfl, HN, HU⟩ := ld_open hu
  rw [HN.out] at hl
  have BB := Lib.hid (below_al w (.cells (row19 x (.slice A n c)).toArray 38))
  have R := Lib.hid (Row.new w 38 (row19 x (.slice A n c)).toArray)
  have KT := Lib.hid (fun W => timely19_any x (.slice A n c) W ⟨_, _, _, rfl⟩)
  have KC := Lib.hid (fun W (hb : Below w.heap.size w W) => contains19_any x.load (.slice A n c) W (hu.below hb).1 (by rw [HN.out]; exact hl))
  have K1 := Lib.hid (fun W => core19_any x.core W)
  have K2 := Lib.hid (fun W => core19_any x.peer W)
  clear hu
  simp only [row19] at BB R KT ⊢
  obtain h | c1 : decide (0 ≤ x.core ∧ x.core < 8) = false ∨ decide (0 ≤ x.core ∧ x.core < 8) = true := by cases decide (0 ≤ x.core ∧ x.core < 8) <;> simp
  · have c1 := h
    have HF : Hid (ok19 x = false) := Lib.hid (by simp [ok19, h])
    clear h
    go_enter Tryd.func23, Tryd.ntmps23
    go_wp2_with (first | (go_at_call 33; (with_reducible refine (K1.out _).mono ?_); rintro e w1 ⟨rfl, rfl⟩; rw [c1]))
    go_ret
    exact ⟨by rw [HF.out]; rfl, BB.out⟩
  obtain h | c2 : decide (0 ≤ x.peer ∧ x.peer < 8) = false ∨ decide (0 ≤ x.peer ∧ x.peer < 8) = true := by cases decide (0 ≤ x.peer ∧ x.peer < 8) <;> simp
  · have c2 := h
    have HF : Hid (ok19 x = false) := Lib.hid (by simp [ok19, h])
    clear h
    go_enter Tryd.func23, Tryd.ntmps23
    go_wp2_with (first | (go_at_call 33; (with_reducible refine (K1.out _).mono ?_); rintro e w1 ⟨rfl, rfl⟩; rw [c1]) | (go_at_call 33; (with_reducible refine (K2.out _).mono ?_); rintro e w1 ⟨rfl, rfl⟩; rw [c2]))
    go_ret
    exact ⟨by rw [HF.out]; rfl, BB.out⟩
  obtain h | c3 : (x.core == x.peer) = true ∨ (x.core == x.peer) = false := by cases (x.core == x.peer) <;> simp
  · have c3 := h
    have HF : Hid (ok19 x = false) := Lib.hid (by simp [ok19, h])
    clear h
    go_enter Tryd.func23, Tryd.ntmps23
    go_wp2_with (first | (go_at_call 33; (with_reducible refine (K1.out _).mono ?_); rintro e w1 ⟨rfl, rfl⟩; rw [c1]) | (go_at_call 33; (with_reducible refine (K2.out _).mono ?_); rintro e w1 ⟨rfl, rfl⟩; rw [c2]))
    go_ret
    exact ⟨by rw [HF.out]; rfl, BB.out⟩
  by_cases hk : x.kind = 1 ∨ x.kind = 2 ∨ x.kind = 3
  case neg =>
    have k1 : (x.kind != 1) = true := by simp; omega
    have k2 : (x.kind != 2) = true := by simp; omega
    have k3 : (x.kind != 3) = true := by simp; omega
    have HF : Hid (ok19 x = false) := Lib.hid (by
      have e1 : (x.kind == 1) = false := by simp; omega
      have e2 : (x.kind == 2) = false := by simp; omega
      have e3 : (x.kind == 3) = false := by simp; omega
      simp [ok19, e1, e2, e3])
    clear hk
    go_enter Tryd.func23, Tryd.ntmps23
    go_wp2_with (first | (go_at_call 33; (with_reducible refine (K1.out _).mono ?_); rintro e w1 ⟨rfl, rfl⟩; rw [c1]) | (go_at_call 33; (with_reducible refine (K2.out _).mono ?_); rintro e w1 ⟨rfl, rfl⟩; rw [c2]))
    go_ret
    exact ⟨by rw [HF.out]; rfl, BB.out⟩
  have HK : Hid ((x.kind == 1 || x.kind == 2 || x.kind == 3) = true) := Lib.hid (by rcases hk with h | h | h <;> simp [h])
  have k0 : ((x.kind != 1) = true ∧ (x.kind != 2) = true ∧ (x.kind != 3) = false) ∨ ((x.kind != 1) = true ∧ (x.kind != 2) = false) ∨ (x.kind != 1) = false := by
    by_cases h1 : x.kind = 1
    · exact .inr (.inr (by simp [h1]))
    · by_cases h2 : x.kind = 2
      · exact .inr (.inl ⟨by simp [h1], by simp [h2]⟩)
      · have h3 : x.kind = 3 := by omega
        exact .inl ⟨by simp [h1], by simp [h2], by simp [h3]⟩
  clear hk
  obtain h | ct : time19 x = false ∨ time19 x = true := by cases time19 x <;> simp
  · have ct := h
    have HF : Hid (ok19 x = false) := Lib.hid (by simp [ok19, h])
    clear h
    rcases k0 with ⟨k1, k2, k3⟩ | ⟨k1, k2⟩ | k1
    · go_enter Tryd.func23, Tryd.ntmps23
      go_wp2_with (first | (go_at_call 33; (with_reducible refine (K1.out _).mono ?_); rintro e w1 ⟨rfl, rfl⟩; rw [c1]) | (go_at_call 33; (with_reducible refine (K2.out _).mono ?_); rintro e w1 ⟨rfl, rfl⟩; rw [c2]) | (go_at_call 34; refine (KT.out _).mono ?_; rintro e w1 ⟨rfl, b1⟩; rw [ct]; have B1 := Lib.hid (below_on BB.out b1); have q6 := (R.out.below b1).cell 6; simp only [List.getElem?_cons_zero, List.getElem?_cons_succ] at q6; clear b1))
      go_ret
      exact ⟨by rw [HF.out]; rfl, B1.out⟩
    · go_enter Tryd.func23, Tryd.ntmps23
      go_wp2_with (first | (go_at_call 33; (with_reducible refine (K1.out _).mono ?_); rintro e w1 ⟨rfl, rfl⟩; rw [c1]) | (go_at_call 33; (with_reducible refine (K2.out _).mono ?_); rintro e w1 ⟨rfl, rfl⟩; rw [c2]) | (go_at_call 34; refine (KT.out _).mono ?_; rintro e w1 ⟨rfl, b1⟩; rw [ct]; have B1 := Lib.hid (below_on BB.out b1); have q6 := (R.out.below b1).cell 6; simp only [List.getElem?_cons_zero, List.getElem?_cons_succ] at q6; clear b1))
      go_ret
      exact ⟨by rw [HF.out]; rfl, B1.out⟩
    · go_enter Tryd.func23, Tryd.ntmps23
      go_wp2_with (first | (go_at_call 33; (with_reducible refine (K1.out _).mono ?_); rintro e w1 ⟨rfl, rfl⟩; rw [c1]) | (go_at_call 33; (with_reducible refine (K2.out _).mono ?_); rintro e w1 ⟨rfl, rfl⟩; rw [c2]) | (go_at_call 34; refine (KT.out _).mono ?_; rintro e w1 ⟨rfl, b1⟩; rw [ct]; have B1 := Lib.hid (below_on BB.out b1); have q6 := (R.out.below b1).cell 6; simp only [List.getElem?_cons_zero, List.getElem?_cons_succ] at q6; clear b1))
      go_ret
      exact ⟨by rw [HF.out]; rfl, B1.out⟩
  by_cases h8 : n ≤ 8
  case neg =>
    have HF : Hid (ok19 x = false) := Lib.hid (by
      have : ¬ x.load.length ≤ 8 := by rw [HN.out]; exact h8
      simp [ok19, this])
    have g8 : ¬ (n : Int) ≤ 8 := by omega
    clear h8
    rcases k0 with ⟨k1, k2, k3⟩ | ⟨k1, k2⟩ | k1
    · go_enter Tryd.func23, Tryd.ntmps23
      go_wp2_with (first | (go_at_call 33; (with_reducible refine (K1.out _).mono ?_); rintro e w1 ⟨rfl, rfl⟩; rw [c1]) | (go_at_call 33; (with_reducible refine (K2.out _).mono ?_); rintro e w1 ⟨rfl, rfl⟩; rw [c2]) | (go_at_call 34; refine (KT.out _).mono ?_; rintro e w1 ⟨rfl, b1⟩; rw [ct]; have B1 := Lib.hid (below_on BB.out b1); have q6 := (R.out.below b1).cell 6; simp only [List.getElem?_cons_zero, List.getElem?_cons_succ] at q6; clear b1))
      go_ret
      exact ⟨by rw [HF.out]; rfl, B1.out⟩
    · go_enter Tryd.func23, Tryd.ntmps23
      go_wp2_with (first | (go_at_call 33; (with_reducible refine (K1.out _).mono ?_); rintro e w1 ⟨rfl, rfl⟩; rw [c1]) | (go_at_call 33; (with_reducible refine (K2.out _).mono ?_); rintro e w1 ⟨rfl, rfl⟩; rw [c2]) | (go_at_call 34; refine (KT.out _).mono ?_; rintro e w1 ⟨rfl, b1⟩; rw [ct]; have B1 := Lib.hid (below_on BB.out b1); have q6 := (R.out.below b1).cell 6; simp only [List.getElem?_cons_zero, List.getElem?_cons_succ] at q6; clear b1))
      go_ret
      exact ⟨by rw [HF.out]; rfl, B1.out⟩
    · go_enter Tryd.func23, Tryd.ntmps23
      go_wp2_with (first | (go_at_call 33; (with_reducible refine (K1.out _).mono ?_); rintro e w1 ⟨rfl, rfl⟩; rw [c1]) | (go_at_call 33; (with_reducible refine (K2.out _).mono ?_); rintro e w1 ⟨rfl, rfl⟩; rw [c2]) | (go_at_call 34; refine (KT.out _).mono ?_; rintro e w1 ⟨rfl, b1⟩; rw [ct]; have B1 := Lib.hid (below_on BB.out b1); have q6 := (R.out.below b1).cell 6; simp only [List.getElem?_cons_zero, List.getElem?_cons_succ] at q6; clear b1))
      go_ret
      exact ⟨by rw [HF.out]; rfl, B1.out⟩
  have g8 : (n : Int) ≤ 8 := by omega
  have HL8 : Hid (decide (x.load.length ≤ 8) = true) := Lib.hid (by rw [HN.out]; simpa using h8)
  clear h8
  obtain h | ca : (!x.load.all okW19) = true ∨ (!x.load.all okW19) = false := by cases (x.load.all okW19) <;> simp
  · have ca := h
    have HF : Hid (ok19 x = false) := Lib.hid (by
      have h' : x.load.all okW19 = false := by simpa only [Bool.not_eq_true'] using h
      simp only [ok19, h', Bool.and_false])
    clear h
    rcases k0 with ⟨k1, k2, k3⟩ | ⟨k1, k2⟩ | k1
    · go_enter Tryd.func23, Tryd.ntmps23
      go_wp2_with (first | (go_at_call 33; (with_reducible refine (K1.out _).mono ?_); rintro e w1 ⟨rfl, rfl⟩; rw [c1]) | (go_at_call 33; (with_reducible refine (K2.out _).mono ?_); rintro e w1 ⟨rfl, rfl⟩; rw [c2]) | (go_at_call 34; refine (KT.out _).mono ?_; rintro e w1 ⟨rfl, b1⟩; rw [ct]; have B1 := Lib.hid (below_on BB.out b1); have q6 := (R.out.below b1).cell 6; simp only [List.getElem?_cons_zero, List.getElem?_cons_succ] at q6; clear b1) | (go_at_call 35; refine (KC.out _ B1.out).mono ?_; rintro e w2 ⟨rfl, rfl⟩; rw [ca]))
      go_ret
      exact ⟨by rw [HF.out]; rfl, B1.out⟩
    · go_enter Tryd.func23, Tryd.ntmps23
      go_wp2_with (first | (go_at_call 33; (with_reducible refine (K1.out _).mono ?_); rintro e w1 ⟨rfl, rfl⟩; rw [c1]) | (go_at_call 33; (with_reducible refine (K2.out _).mono ?_); rintro e w1 ⟨rfl, rfl⟩; rw [c2]) | (go_at_call 34; refine (KT.out _).mono ?_; rintro e w1 ⟨rfl, b1⟩; rw [ct]; have B1 := Lib.hid (below_on BB.out b1); have q6 := (R.out.below b1).cell 6; simp only [List.getElem?_cons_zero, List.getElem?_cons_succ] at q6; clear b1) | (go_at_call 35; refine (KC.out _ B1.out).mono ?_; rintro e w2 ⟨rfl, rfl⟩; rw [ca]))
      go_ret
      exact ⟨by rw [HF.out]; rfl, B1.out⟩
    · go_enter Tryd.func23, Tryd.ntmps23
      go_wp2_with (first | (go_at_call 33; (with_reducible refine (K1.out _).mono ?_); rintro e w1 ⟨rfl, rfl⟩; rw [c1]) | (go_at_call 33; (with_reducible refine (K2.out _).mono ?_); rintro e w1 ⟨rfl, rfl⟩; rw [c2]) | (go_at_call 34; refine (KT.out _).mono ?_; rintro e w1 ⟨rfl, b1⟩; rw [ct]; have B1 := Lib.hid (below_on BB.out b1); have q6 := (R.out.below b1).cell 6; simp only [List.getElem?_cons_zero, List.getElem?_cons_succ] at q6; clear b1) | (go_at_call 35; refine (KC.out _ B1.out).mono ?_; rintro e w2 ⟨rfl, rfl⟩; rw [ca]))
      go_ret
      exact ⟨by rw [HF.out]; rfl, B1.out⟩
  have HF : Hid (ok19 x = true) := Lib.hid (by
    have h' : x.load.all okW19 = true := by simpa only [Bool.not_eq_false'] using ca
    simp only [ok19, c1, c2, c3, HK.out, ct, HL8.out, h', Bool.not_false, Bool.and_true])
  rcases k0 with ⟨k1, k2, k3⟩ | ⟨k1, k2⟩ | k1
  · go_enter Tryd.func23, Tryd.ntmps23
    go_wp2_with (first | (go_at_call 33; (with_reducible refine (K1.out _).mono ?_); rintro e w1 ⟨rfl, rfl⟩; rw [c1]) | (go_at_call 33; (with_reducible refine (K2.out _).mono ?_); rintro e w1 ⟨rfl, rfl⟩; rw [c2]) | (go_at_call 34; refine (KT.out _).mono ?_; rintro e w1 ⟨rfl, b1⟩; rw [ct]; have B1 := Lib.hid (below_on BB.out b1); have q6 := (R.out.below b1).cell 6; simp only [List.getElem?_cons_zero, List.getElem?_cons_succ] at q6; clear b1) | (go_at_call 35; refine (KC.out _ B1.out).mono ?_; rintro e w2 ⟨rfl, rfl⟩; rw [ca]))
    go_ret
    exact ⟨by rw [HF.out]; rfl, B1.out⟩
  · go_enter Tryd.func23, Tryd.ntmps23
    go_wp2_with (first | (go_at_call 33; (with_reducible refine (K1.out _).mono ?_); rintro e w1 ⟨rfl, rfl⟩; rw [c1]) | (go_at_call 33; (with_reducible refine (K2.out _).mono ?_); rintro e w1 ⟨rfl, rfl⟩; rw [c2]) | (go_at_call 34; refine (KT.out _).mono ?_; rintro e w1 ⟨rfl, b1⟩; rw [ct]; have B1 := Lib.hid (below_on BB.out b1); have q6 := (R.out.below b1).cell 6; simp only [List.getElem?_cons_zero, List.getElem?_cons_succ] at q6; clear b1) | (go_at_call 35; refine (KC.out _ B1.out).mono ?_; rintro e w2 ⟨rfl, rfl⟩; rw [ca]))
    go_ret
    exact ⟨by rw [HF.out]; rfl, B1.out⟩
  · go_enter Tryd.func23, Tryd.ntmps23
    go_wp2_with (first | (go_at_call 33; (with_reducible refine (K1.out _).mono ?_); rintro e w1 ⟨rfl, rfl⟩; rw [c1]) | (go_at_call 33; (with_reducible refine (K2.out _).mono ?_); rintro e w1 ⟨rfl, rfl⟩; rw [c2]) | (go_at_call 34; refine (KT.out _).mono ?_; rintro e w1 ⟨rfl, b1⟩; rw [ct]; have B1 := Lib.hid (below_on BB.out b1); have q6 := (R.out.below b1).cell 6; simp only [List.getElem?_cons_zero, List.getElem?_cons_succ] at q6; clear b1) | (go_at_call 35; refine (KC.out _ B1.out).mono ?_; rintro e w2 ⟨rfl, rfl⟩; rw [ca]))
    go_ret
    exact ⟨by rw [HF.out]; rfl, B1.out⟩

#print axioms right19_any
end Go.Proofs.YtikjokhpombjjaaDoor
