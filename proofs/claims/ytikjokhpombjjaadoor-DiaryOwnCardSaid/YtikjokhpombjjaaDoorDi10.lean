/-
  Layer 19 (diary): the reference's one, Right.
  Conditions: those that each theorem states.
-/
import Derived.Test.YtikjokhpombjjaaDoorDi8
import Derived.Test.YtikjokhpombjjaaDoorDrv
namespace Go.Proofs.YtikjokhpombjjaaDoor
open Go.ChangeShapes Go.WideShapes Go.ChangeAt Go.RowKit

/-- What the reference asks of one entry. -/
def one19 (x : En) : Bool := ok19 x && decide (1 ≤ x.beg)

theorem one19_no {x : En} (h : x.core < 0 ∨ 7 < x.core ∨ x.peer < 0 ∨ 7 < x.peer ∨ x.core = x.peer ∨ x.kind < 1 ∨ 3 < x.kind ∨ x.beg < 1 ∨ 8 < x.load.length ∨ time19 x = false ∨ x.load.all okW19 = false) : one19 x = false := by
  cases h' : one19 x with
  | false => rfl
  | true =>
    exfalso
    simp only [one19, ok19, Bool.and_eq_true, decide_eq_true_eq, Bool.or_eq_true, beq_iff_eq, Bool.not_eq_true', beq_eq_false_iff_ne] at h'
    obtain ⟨⟨⟨⟨⟨⟨⟨h0, h1⟩, h2⟩, h3⟩, h4⟩, h5⟩, h6⟩, h7⟩ := h'
    rcases h with h | h | h | h | h | h | h | h | h | h | h
    all_goals first | omega | (rw [h] at h4; cases h4) | (rw [h] at h6; cases h6) | exact h2 h
theorem one19_word {x : En} (h : x.load.all okW19 = false) : one19 x = false := one19_no (.inr (.inr (.inr (.inr (.inr (.inr (.inr (.inr (.inr (.inr h))))))))))
theorem one19_time {x : En} (h : time19 x = false) : one19 x = false := one19_no (.inr (.inr (.inr (.inr (.inr (.inr (.inr (.inr (.inr (.inl h))))))))))
theorem one19_len {x : En} (h : 8 < x.load.length) : one19 x = false := one19_no (.inr (.inr (.inr (.inr (.inr (.inr (.inr (.inr (.inl h)))))))))
theorem one19_yes {x : En} (h0 : ¬ x.core < 0) (h1 : ¬ 7 < x.core) (h2 : ¬ x.peer < 0) (h3 : ¬ 7 < x.peer) (h4 : ¬ x.core = x.peer) (h5 : ¬ x.kind < 1) (h6 : ¬ 3 < x.kind) (h7 : ¬ x.beg < 1) (h8 : ¬ 8 < x.load.length) (h9 : time19 x = true) (h10 : x.load.all okW19 = true) : one19 x = true := by
  simp only [one19, ok19, Bool.and_eq_true, decide_eq_true_eq, Bool.or_eq_true, beq_iff_eq, Bool.not_eq_true', beq_eq_false_iff_ne]
  refine ⟨⟨⟨⟨⟨⟨⟨by omega, by omega⟩, h4⟩, by omega⟩, h9⟩, by omega⟩, h10⟩, by omega⟩

set_option maxRecDepth 100000 in
set_option maxHeartbeats 4000000 in
theorem rone19_any (x : En) (u : Value) (w : World) (hu : Ld w x u) (hx : x.load.length ≤ 65536) :
    Calls Tryd.prog 24 #[.agg (row19 x u).toArray] w fun e w' => e = .returned (.bool (one19 x)) ∧ Below w.heap.size w w' := by
  obtain ⟨A, n, c, rfl, HN, HU⟩ := ld_open hu
  rw [HN.out] at hx
  clear hu
  have R1 := Lib.hid (Row.new w 41 (row19 x (.slice A n c)).toArray)
  have BB := Lib.hid (below_al w (.cells (row19 x (.slice A n c)).toArray 41))
  simp only [row19] at R1 BB ⊢
  by_cases h0 : x.core < 0
  case pos =>
    have HF := Lib.hid (one19_no (x := x) (.inl h0))
    go_enter Tryd.func24, Tryd.ntmps24
    go_wp2
    go_ret
    exact ⟨by rw [HF.out]; rfl, BB.out⟩
  have H0 := Lib.hid h0
  by_cases h1 : 7 < x.core
  case pos =>
    have HF := Lib.hid (one19_no (x := x) (.inr (.inl h1)))
    go_enter Tryd.func24, Tryd.ntmps24
    go_wp2
    go_ret
    exact ⟨by rw [HF.out]; rfl, BB.out⟩
  have H1 := Lib.hid h1
  by_cases h2 : x.peer < 0
  case pos =>
    have HF := Lib.hid (one19_no (x := x) (.inr (.inr (.inl h2))))
    go_enter Tryd.func24, Tryd.ntmps24
    go_wp2
    go_ret
    exact ⟨by rw [HF.out]; rfl, BB.out⟩
  have H2 := Lib.hid h2
  by_cases h3 : 7 < x.peer
  case pos =>
    have HF := Lib.hid (one19_no (x := x) (.inr (.inr (.inr (.inl h3)))))
    go_enter Tryd.func24, Tryd.ntmps24
    go_wp2
    go_ret
    exact ⟨by rw [HF.out]; rfl, BB.out⟩
  have H3 := Lib.hid h3
  by_cases h4 : x.core = x.peer
  case pos =>
    have HF := Lib.hid (one19_no (x := x) (.inr (.inr (.inr (.inr (.inl h4))))))
    have e4 : (x.core == x.peer) = true := by simpa using h4
    clear h4
    go_enter Tryd.func24, Tryd.ntmps24
    go_wp2
    go_ret
    exact ⟨by rw [HF.out]; rfl, BB.out⟩
  have H4 := Lib.hid h4
  have e4 : (x.core == x.peer) = false := by simpa using h4
  clear h4
  by_cases h5 : x.kind < 1
  case pos =>
    have HF := Lib.hid (one19_no (x := x) (.inr (.inr (.inr (.inr (.inr (.inl h5)))))))
    go_enter Tryd.func24, Tryd.ntmps24
    go_wp2
    go_ret
    exact ⟨by rw [HF.out]; rfl, BB.out⟩
  have H5 := Lib.hid h5
  by_cases h6 : 3 < x.kind
  case pos =>
    have HF := Lib.hid (one19_no (x := x) (.inr (.inr (.inr (.inr (.inr (.inr (.inl h6))))))))
    go_enter Tryd.func24, Tryd.ntmps24
    go_wp2
    go_ret
    exact ⟨by rw [HF.out]; rfl, BB.out⟩
  have H6 := Lib.hid h6
  by_cases h7 : x.beg < 1
  case pos =>
    have HF := Lib.hid (one19_no (x := x) (.inr (.inr (.inr (.inr (.inr (.inr (.inr (.inl h7)))))))))
    go_enter Tryd.func24, Tryd.ntmps24
    go_wp2
    go_ret
    exact ⟨by rw [HF.out]; rfl, BB.out⟩
  have H7 := Lib.hid h7
  by_cases h8 : 8 < n
  case pos =>
    have HF := Lib.hid (one19_len (x := x) (by rw [HN.out]; exact h8))
    have g8 : (8 : Int) < (n : Int) := by omega
    clear h8
    go_enter Tryd.func24, Tryd.ntmps24
    go_wp2
    go_ret
    exact ⟨by rw [HF.out]; rfl, BB.out⟩
  have g8 : ¬ (8 : Int) < (n : Int) := by omega
  have H8 : Hid (¬ 8 < x.load.length) := Lib.hid (by rw [HN.out]; exact h8)
  clear h8
  have ht : (time19 x = false ∧ (((x.fin == 0) = true ∧ (x.err != 0) = true) ∨ ((x.fin == 0) = false ∧ (x.fin != 0) = true ∧ x.fin < x.beg))) ∨ (time19 x = true ∧ (((x.fin == 0) = true ∧ (x.err != 0) = false ∧ (x.fin != 0) = false) ∨ ((x.fin == 0) = false ∧ (x.fin != 0) = true ∧ ¬ x.fin < x.beg))) := by
    unfold time19
    by_cases hf : x.fin = 0
    · by_cases he : x.err = 0
      · exact .inr ⟨by simp [hf, he], .inl ⟨by simp [hf], by simp [he], by simp [hf]⟩⟩
      · exact .inl ⟨by simp [hf, he], .inl ⟨by simp [hf], by simp [he]⟩⟩
    · by_cases he : x.fin < x.beg
      · exact .inl ⟨by simp [hf]; omega, .inr ⟨by simp [hf], by simp [hf], he⟩⟩
      · exact .inr ⟨by simp [hf]; omega, .inr ⟨by simp [hf], by simp [hf], he⟩⟩
  rcases ht with ⟨ht, hc⟩ | ⟨ht, hc⟩
  · have HF := Lib.hid (one19_time (x := x) ht)
    clear ht
    rcases hc with ⟨t0, t1⟩ | ⟨t0, t1, t2⟩
    · go_enter Tryd.func24, Tryd.ntmps24
      go_wp2
      go_ret
      exact ⟨by rw [HF.out]; rfl, BB.out⟩
    · go_enter Tryd.func24, Tryd.ntmps24
      go_wp2
      go_ret
      exact ⟨by rw [HF.out]; rfl, BB.out⟩
  · have H9 := Lib.hid ht
    clear ht
    rcases hc with ⟨t0, t1, t2⟩ | ⟨t0, t1, t2⟩
    · go_enter Tryd.func24, Tryd.ntmps24
      go_wp2
      go_loopw [3] (fun iv wr => ∃ k : Nat, k ≤ n ∧ iv = .int .i64 k ∧ Hid ((x.load.take k).all okW19 = true) ∧ Hid (Row wr w.heap.size 41 (row19 x (.slice A n c))) ∧ Hid (Below w.heap.size w wr)) (fun iv _ => n - (intOf iv).toNat)
      case atStart => exact ⟨0, Nat.zero_le _, rfl, by unfold Hid; simp, R1, BB⟩
      case round =>
        obtain ⟨k, hk, rfl, HT, Q1, HB⟩ := hrel
        have q1 := Q1.out.cell 6
        simp only [row19, List.getElem?_cons_zero, List.getElem?_cons_succ] at q1
        by_cases hlt : k < n
        · obtain ⟨y, hy⟩ : ∃ y, x.load[k]? = some y := ⟨_, List.getElem?_eq_getElem (by rw [HN.out]; exact hlt)⟩
          obtain ⟨g, o, rfl, hg, c1⟩ := ld_at (HU.out.below HB.out) hy
          have hkn : (k : Int) < (n : Int) := by omega
          have A1 := Lib.hid hy
          clear hy
          by_cases w0 : y < 0
          · have HF := Lib.hid (one19_word (x := x) (by
              rw [List.all_eq_false]
              exact ⟨y, List.mem_of_getElem? A1.out, by simp [okW19]; omega⟩))
            go_wp2
            go_ret
            exact ⟨by rw [HF.out]; rfl, HB.out⟩
          · by_cases w1 : (65535 : Int) < y
            · have HF := Lib.hid (one19_word (x := x) (by
                rw [List.all_eq_false]
                exact ⟨y, List.mem_of_getElem? A1.out, by simp [okW19]; omega⟩))
              go_wp2
              go_ret
              exact ⟨by rw [HF.out]; rfl, HB.out⟩
            · have HO : Hid (okW19 y = true) := Lib.hid (by simp [okW19]; omega)
              go_wp2
              go_roundw
              case rel => exact ⟨k + 1, by omega, by go_num, Lib.hid (by rw [List.take_add_one, A1.out]; simp only [Option.toList_some, List.all_append, HT.out, List.all_cons, HO.out, List.all_nil]; rfl), Q1, HB⟩
              case measure => simp [intOf]; omega
        · obtain rfl : k = n := by omega
          have HF := Lib.hid (one19_yes (by have := H0.out; omega) (by have := H1.out; omega) (by have := H2.out; omega) (by have := H3.out; omega) H4.out (by have := H5.out; omega) (by have := H6.out; omega) (by have := H7.out; omega) (by have := H8.out; omega) H9.out (by have := HT.out; rwa [← HN.out, List.take_length] at this))
          go_wp2
          go_ret
          exact ⟨by rw [HF.out]; rfl, HB.out⟩
    · go_enter Tryd.func24, Tryd.ntmps24
      go_wp2
      go_loopw [3] (fun iv wr => ∃ k : Nat, k ≤ n ∧ iv = .int .i64 k ∧ Hid ((x.load.take k).all okW19 = true) ∧ Hid (Row wr w.heap.size 41 (row19 x (.slice A n c))) ∧ Hid (Below w.heap.size w wr)) (fun iv _ => n - (intOf iv).toNat)
      case atStart => exact ⟨0, Nat.zero_le _, rfl, by unfold Hid; simp, R1, BB⟩
      case round =>
        obtain ⟨k, hk, rfl, HT, Q1, HB⟩ := hrel
        have q1 := Q1.out.cell 6
        simp only [row19, List.getElem?_cons_zero, List.getElem?_cons_succ] at q1
        by_cases hlt : k < n
        · obtain ⟨y, hy⟩ : ∃ y, x.load[k]? = some y := ⟨_, List.getElem?_eq_getElem (by rw [HN.out]; exact hlt)⟩
          obtain ⟨g, o, rfl, hg, c1⟩ := ld_at (HU.out.below HB.out) hy
          have hkn : (k : Int) < (n : Int) := by omega
          have A1 := Lib.hid hy
          clear hy
          by_cases w0 : y < 0
          · have HF := Lib.hid (one19_word (x := x) (by
              rw [List.all_eq_false]
              exact ⟨y, List.mem_of_getElem? A1.out, by simp [okW19]; omega⟩))
            go_wp2
            go_ret
            exact ⟨by rw [HF.out]; rfl, HB.out⟩
          · by_cases w1 : (65535 : Int) < y
            · have HF := Lib.hid (one19_word (x := x) (by
                rw [List.all_eq_false]
                exact ⟨y, List.mem_of_getElem? A1.out, by simp [okW19]; omega⟩))
              go_wp2
              go_ret
              exact ⟨by rw [HF.out]; rfl, HB.out⟩
            · have HO : Hid (okW19 y = true) := Lib.hid (by simp [okW19]; omega)
              go_wp2
              go_roundw
              case rel => exact ⟨k + 1, by omega, by go_num, Lib.hid (by rw [List.take_add_one, A1.out]; simp only [Option.toList_some, List.all_append, HT.out, List.all_cons, HO.out, List.all_nil]; rfl), Q1, HB⟩
              case measure => simp [intOf]; omega
        · obtain rfl : k = n := by omega
          have HF := Lib.hid (one19_yes (by have := H0.out; omega) (by have := H1.out; omega) (by have := H2.out; omega) (by have := H3.out; omega) H4.out (by have := H5.out; omega) (by have := H6.out; omega) (by have := H7.out; omega) (by have := H8.out; omega) H9.out (by have := HT.out; rwa [← HN.out, List.take_length] at this))
          go_wp2
          go_ret
          exact ⟨by rw [HF.out]; rfl, HB.out⟩

/-- Whether the later one of two entries begins late enough. -/
def pair19 (y x : En) : Bool := !(y.core == x.core) || (decide (y.beg < x.beg) && (y.fin == 0 || decide (y.fin < x.beg)))
/-- What the reference's Right answers. -/
def rr19 : List En → Bool
  | [] => true
  | x :: r => one19 x && r.all (pair19 x) && rr19 r
/-- The first i entries are right. -/
def Okto (l : List En) (i : Nat) : Prop := ∀ j, j < i → ∀ x, l[j]? = some x → one19 x = true ∧ ∀ k, k < j → ∀ y, l[k]? = some y → pair19 y x = true

theorem rr19_iff : ∀ l : List En, rr19 l = true ↔ ∀ (j : Nat) (x : En), l[j]? = some x → one19 x = true ∧ ∀ k, k < j → ∀ y, l[k]? = some y → pair19 y x = true
  | [] => by simp [rr19]
  | a :: r => by
    simp only [rr19, Bool.and_eq_true, List.all_eq_true, rr19_iff r]
    constructor
    · rintro ⟨⟨h1, h2⟩, h3⟩ j x hj
      match j, hj with
      | 0, hj =>
        simp only [List.getElem?_cons_zero, Option.some.injEq] at hj
        subst hj
        exact ⟨h1, fun k hk => absurd hk (Nat.not_lt_zero _)⟩
      | j + 1, hj =>
        have hj' : r[j]? = some x := by simpa using hj
        refine ⟨(h3 j x hj').1, fun k hk y hy => ?_⟩
        match k, hk, hy with
        | 0, _, hy =>
          simp only [List.getElem?_cons_zero, Option.some.injEq] at hy
          subst hy
          exact h2 x (List.mem_of_getElem? hj')
        | k + 1, hk, hy => exact (h3 j x hj').2 k (by omega) y (by simpa using hy)
    · intro h
      refine ⟨⟨(h 0 a rfl).1, fun x hx => ?_⟩, fun j x hj => ?_⟩
      · obtain ⟨j, hj⟩ := List.mem_iff_getElem?.1 hx
        exact (h (j + 1) x (by simpa using hj)).2 0 (by omega) a rfl
      · have := h (j + 1) x (by simpa using hj)
        exact ⟨this.1, fun k hk y hy => this.2 (k + 1) (by omega) y (by simpa using hy)⟩

theorem okto_all {l : List En} {n : Nat} (hn : l.length = n) (h : Okto l n) : rr19 l = true := (rr19_iff l).2 (fun j x hj => h j (by have := lt_of_at hj; omega) x hj)
theorem okto_no {l : List En} {j : Nat} {x : En} (hj : l[j]? = some x) (h : one19 x = false ∨ ∃ k y, k < j ∧ l[k]? = some y ∧ pair19 y x = false) : rr19 l = false := by
  cases h' : rr19 l with
  | false => rfl
  | true =>
    have h2 := (rr19_iff l).1 h' j x hj
    rcases h with h | ⟨k, y, hk, hy, hp⟩
    · rw [h] at h2
      exact absurd h2.1 (by decide)
    · rw [h2.2 k hk y hy] at hp
      cases hp

set_option maxRecDepth 100000 in
set_option maxHeartbeats 8000000 in
theorem rright19_any (v : Value) (l : List En) (w : World) (hv : Ens w v l) (hm : l.length ≤ 1000) (hload : ∀ x ∈ l, x.load.length ≤ 65536) :
    Calls Tryd.prog 13 #[v] w fun e w' => e = .returned (.bool (rr19 l)) ∧ Below w.heap.size w w' := by
  obtain ⟨A, n, c, rfl, HN, HV⟩ := hv.open_
  rw [HN.out] at hm
  have HL := Lib.hid hload
  clear hv hload
  go_enter Tryd.func13, Tryd.ntmps13
  go_wp2
  go_loopw [3] (fun iv wr => ∃ i : Nat, i ≤ n ∧ iv = .int .i64 i ∧ Hid (Okto l i) ∧ Hid (Below w.heap.size w wr)) (fun iv _ => n - (intOf iv).toNat)
  case atStart => exact ⟨0, Nat.zero_le _, rfl, Lib.hid (fun j hj => absurd hj (Nat.not_lt_zero _)), Lib.hid (Below.refl _ _)⟩
  case round =>
    obtain ⟨i, hi, rfl, HO, HB⟩ := hrel
    by_cases hlt : i < n
    · obtain ⟨x, hx⟩ : ∃ x, l[i]? = some x := ⟨_, List.getElem?_eq_getElem (by rw [HN.out]; exact hlt)⟩
      obtain ⟨g, o, u, rfl, hg, hl, c0, c1, c2, c3, c4, c5, c6, c7⟩ := (HV.out.below HB.out).cells hx
      have KR := Lib.hid (rone19_any x u wr hl (HL.out x (List.mem_of_getElem? hx)))
      have hin : (i : Int) < (n : Int) := by omega
      have HX := Lib.hid hx
      obtain ⟨Au, nu, cu, rfl, _, _⟩ := ld_open hl
      clear hl hx
      simp only [row19] at KR
      cases hone : one19 x with
      | false =>
        have HF := Lib.hid (okto_no HX.out (.inl hone))
        rw [hone] at KR
        clear hone
        go_wp2_with (go_at_call 24; refine KR.out.mono ?_; rintro e w1 ⟨rfl, b1⟩; have B1 := Lib.hid (below_on HB.out b1); clear b1)
        go_ret
        exact ⟨by rw [HF.out]; rfl, B1.out⟩
      | true =>
        have H1 := Lib.hid hone
        rw [hone] at KR
        clear hone
        go_wp2_with (go_at_call 24; refine KR.out.mono ?_; rintro e w1 ⟨rfl, b1⟩; have B1 := Lib.hid (below_on HB.out b1); clear b1)
        clear KR c0 c1 c2 c3 c4 c5 c6 c7
        go_loopw [4] (fun kv wt => ∃ k : Nat, k ≤ i ∧ kv = .int .i64 k ∧ Hid (∀ j, j < k → ∀ y, l[j]? = some y → pair19 y x = true) ∧ Hid (Below w.heap.size w wt)) (fun kv _ => i - (intOf kv).toNat)
        case atStart => exact ⟨0, Nat.zero_le _, rfl, Lib.hid (fun j hj => absurd hj (Nat.not_lt_zero _)), B1⟩
        case round =>
          obtain ⟨k, hk, rfl, HP, HB2⟩ := hrel
          by_cases hlt2 : k < i
          · obtain ⟨y, hy⟩ : ∃ y, l[k]? = some y := ⟨_, List.getElem?_eq_getElem (by rw [HN.out]; omega)⟩
            obtain ⟨g1, o1, u1, e1, _, _, d0, _, _, d3, d4, _, _, _⟩ := (HV.out.below HB2.out).cells hy
            injection e1 with e1
            injection e1 with e1 e2
            subst e1 e2
            obtain ⟨g2, o2, u2, e1, _, _, f0, _, _, f3, f4, _, _, _⟩ := (HV.out.below HB2.out).cells HX.out
            injection e1 with e1
            injection e1 with e1 e2
            subst e1 e2
            have hki : (k : Int) < (i : Int) := by omega
            have hkn : (k : Int) < (n : Int) := by omega
            have HY := Lib.hid hy
            clear hy
            by_cases hc : y.core = x.core
            case neg =>
              have e0 : (y.core != x.core) = true := by simpa using hc
              have HPP : Hid (pair19 y x = true) := Lib.hid (by simp [pair19, hc])
              clear hc
              go_wp2
              go_quiet (fail)
              go_wp2
              go_roundw
              case rel => exact ⟨k + 1, by omega, by go_num, Lib.hid (fun j hj z hz => by
                rcases Nat.lt_succ_iff_lt_or_eq.1 hj with h | h
                · exact HP.out j h z hz
                · subst h
                  rw [HY.out] at hz
                  injection hz with hz
                  subst hz
                  exact HPP.out), Lib.hid (by first | exact below_dn HB2.out _ | exact HB2.out)⟩
              case measure => simp [intOf]; omega
            have e0 : (y.core != x.core) = false := by simpa using hc
            have HC := Lib.hid hc
            clear hc
            by_cases hb : x.beg ≤ y.beg
            case pos =>
              have HF := Lib.hid (okto_no HX.out (.inr ⟨k, y, hlt2, HY.out, by simp [pair19, HC.out]; omega⟩))
              go_wp2
              go_quiet (fail)
              go_wp2
              refine wp_region_held_drew (S := fun W => W.cell? ⟨g, o + i * 8 + 3, none⟩ = some (.int .i64 x.beg) ∧ W.cell? ⟨g, o + k * 8 + 3, none⟩ = some (.int .i64 y.beg) ∧ W.cell? ⟨g, o + k * 8 + 4, none⟩ = some (.int .i64 y.fin)) (by kernel_rfl) ⟨f3, d3, d4⟩ (fun hHeld => ?_)
              refine' wpAnyH_take (i := 0) (oi := ⟨some 33, .move (.tmp 0), 27, "ref.go:41", #[], none⟩) (v := _) rfl (by kernel_rfl) (by kernel_rfl) (by kernel_rfl) (fun _ _ _ h => h) (Or.inl ⟨by rfl, ?hy1⟩) (by assumption) ?rest1
              case hy1 => (intro w hSw; (try dsimp only at hSw); go_simp; try with_reducible rfl)
              try simp only [Act.put, List.setIfInBounds_toArray, List.set_cons_zero, List.set_cons_succ]
              refine' wpAnyH_take (i := 1) (oi := ⟨some 34, .move (.tmp 3), 3, "ref.go:41", #[], none⟩) (v := _) rfl (by kernel_rfl) (by kernel_rfl) (by kernel_rfl) (fun _ _ _ h => h) (Or.inl ⟨by rfl, ?hy2⟩) (by assumption) ?rest2
              case hy2 => (intro w hSw; (try dsimp only at hSw); go_simp; try with_reducible rfl)
              try simp only [Act.put, List.setIfInBounds_toArray, List.set_cons_zero, List.set_cons_succ]
              refine' wpAnyH_take (i := 2) (oi := ⟨some 35, .indexAddr 27 (.tmp 33) (.tmp 34), 0, "ref.go:41", #[⟨0, .data⟩, ⟨1, .data⟩], none⟩) (v := _) rfl (by kernel_rfl) (by kernel_rfl) (by kernel_rfl) (fun _ _ _ h => h) (Or.inl ⟨by rfl, ?hy3⟩) (by assumption) ?rest3
              case hy3 => (intro w hSw; (try dsimp only at hSw); go_simp; try with_reducible rfl)
              try simp only [Act.put, List.setIfInBounds_toArray, List.set_cons_zero, List.set_cons_succ]
              refine' wpAnyH_take (i := 3) (oi := ⟨some 36, .fieldAddr 41 (.tmp 35) 3, 0, "ref.go:41", #[⟨2, .data⟩], none⟩) (v := _) rfl (by kernel_rfl) (by kernel_rfl) (by kernel_rfl) (fun _ _ _ h => h) (Or.inl ⟨by rfl, ?hy4⟩) (by assumption) ?rest4
              case hy4 => (intro w hSw; (try dsimp only at hSw); go_simp; try with_reducible rfl)
              try simp only [Act.put, List.setIfInBounds_toArray, List.set_cons_zero, List.set_cons_succ]
              refine' wpAnyH_take (i := 4) (oi := ⟨some 37, .load 3 (.tmp 36), 3, "ref.go:41", #[⟨3, .data⟩], none⟩) (v := _) rfl (by kernel_rfl) (by kernel_rfl) (by kernel_rfl) (fun _ _ _ h => h) (Or.inl ⟨by rfl, ?hy5⟩) (by assumption) ?rest5
              case hy5 => (intro w hSw; (try dsimp only at hSw); go_simp; try with_reducible rfl)
              try simp only [Act.put, List.setIfInBounds_toArray, List.set_cons_zero, List.set_cons_succ]
              refine' wpAnyH_take (i := 5) (oi := ⟨some 38, .move (.tmp 0), 27, "ref.go:41", #[], none⟩) (v := _) rfl (by kernel_rfl) (by kernel_rfl) (by kernel_rfl) (fun _ _ _ h => h) (Or.inl ⟨by rfl, ?hy6⟩) (by assumption) ?rest6
              case hy6 => (intro w hSw; (try dsimp only at hSw); go_simp; try with_reducible rfl)
              try simp only [Act.put, List.setIfInBounds_toArray, List.set_cons_zero, List.set_cons_succ]
              refine' wpAnyH_take (i := 6) (oi := ⟨some 39, .move (.tmp 4), 3, "ref.go:41", #[], none⟩) (v := _) rfl (by kernel_rfl) (by kernel_rfl) (by kernel_rfl) (fun _ _ _ h => h) (Or.inl ⟨by rfl, ?hy7⟩) (by assumption) ?rest7
              case hy7 => (intro w hSw; (try dsimp only at hSw); go_simp; try with_reducible rfl)
              try simp only [Act.put, List.setIfInBounds_toArray, List.set_cons_zero, List.set_cons_succ]
              refine' wpAnyH_take (i := 7) (oi := ⟨some 40, .indexAddr 27 (.tmp 38) (.tmp 39), 0, "ref.go:41", #[⟨5, .data⟩, ⟨6, .data⟩], none⟩) (v := _) rfl (by kernel_rfl) (by kernel_rfl) (by kernel_rfl) (fun _ _ _ h => h) (Or.inl ⟨by rfl, ?hy8⟩) (by assumption) ?rest8
              case hy8 => (intro w hSw; (try dsimp only at hSw); go_simp; try with_reducible rfl)
              try simp only [Act.put, List.setIfInBounds_toArray, List.set_cons_zero, List.set_cons_succ]
              refine' wpAnyH_take (i := 8) (oi := ⟨some 41, .fieldAddr 41 (.tmp 40) 3, 0, "ref.go:41", #[⟨7, .data⟩], none⟩) (v := _) rfl (by kernel_rfl) (by kernel_rfl) (by kernel_rfl) (fun _ _ _ h => h) (Or.inl ⟨by rfl, ?hy9⟩) (by assumption) ?rest9
              case hy9 => (intro w hSw; (try dsimp only at hSw); go_simp; try with_reducible rfl)
              try simp only [Act.put, List.setIfInBounds_toArray, List.set_cons_zero, List.set_cons_succ]
              refine' wpAnyH_take (i := 9) (oi := ⟨some 42, .load 3 (.tmp 41), 3, "ref.go:41", #[⟨8, .data⟩], none⟩) (v := _) rfl (by kernel_rfl) (by kernel_rfl) (by kernel_rfl) (fun _ _ _ h => h) (Or.inl ⟨by rfl, ?hy10⟩) (by assumption) ?rest10
              case hy10 => (intro w hSw; (try dsimp only at hSw); go_simp; try with_reducible rfl)
              try simp only [Act.put, List.setIfInBounds_toArray, List.set_cons_zero, List.set_cons_succ]
              refine' wpAnyH_take (i := 10) (oi := ⟨some 43, .binOp .leq 3 (.tmp 37) (.tmp 42) 3, 4, "ref.go:41", #[⟨4, .data⟩, ⟨9, .data⟩], none⟩) (v := .bool true) rfl (by kernel_rfl) (by kernel_rfl) (by kernel_rfl) (fun _ _ _ h => h) (Or.inl ⟨by rfl, ?hy11⟩) (by assumption) ?rest11
              case hy11 => (intro w hSw; (try dsimp only at hSw); go_simp; skip)
              try simp only [Act.put, List.setIfInBounds_toArray, List.set_cons_zero, List.set_cons_succ]
              refine' wpAnyH_take (i := 11) (oi := ⟨some 44, .move (.tmp 43), 4, "ref.go:41", #[⟨10, .data⟩], none⟩) (v := _) rfl (by kernel_rfl) (by kernel_rfl) (by kernel_rfl) (fun _ _ _ h => h) (Or.inl ⟨by rfl, ?hy12⟩) (by assumption) ?rest12
              case hy12 => (intro w hSw; (try dsimp only at hSw); go_simp; try with_reducible rfl)
              try simp only [Act.put, List.setIfInBounds_toArray, List.set_cons_zero, List.set_cons_succ]
              refine' wpAnyH_take (i := 12) (oi := ⟨some 45, .move (.tmp 0), 27, "ref.go:41", #[⟨11, .guard⟩], some (11, false)⟩) (v := undef) rfl (by kernel_rfl) (by kernel_rfl) (by kernel_rfl) (fun _ _ _ h => h) (Or.inr ⟨by rfl, rfl⟩) (by assumption) ?rest13
              try simp only [Act.put, List.setIfInBounds_toArray, List.set_cons_zero, List.set_cons_succ]
              refine' wpAnyH_take (i := 13) (oi := ⟨some 46, .move (.tmp 4), 3, "ref.go:41", #[⟨11, .guard⟩], some (11, false)⟩) (v := undef) rfl (by kernel_rfl) (by kernel_rfl) (by kernel_rfl) (fun _ _ _ h => h) (Or.inr ⟨by rfl, rfl⟩) (by assumption) ?rest14
              try simp only [Act.put, List.setIfInBounds_toArray, List.set_cons_zero, List.set_cons_succ]
              refine' wpAnyH_take (i := 14) (oi := ⟨some 47, .indexAddr 27 (.tmp 45) (.tmp 46), 0, "ref.go:41", #[⟨12, .data⟩, ⟨13, .data⟩, ⟨11, .guard⟩], some (11, false)⟩) (v := undef) rfl (by kernel_rfl) (by kernel_rfl) (by kernel_rfl) (fun _ _ _ h => h) (Or.inr ⟨by rfl, rfl⟩) (by assumption) ?rest15
              try simp only [Act.put, List.setIfInBounds_toArray, List.set_cons_zero, List.set_cons_succ]
              refine' wpAnyH_take (i := 15) (oi := ⟨some 48, .fieldAddr 41 (.tmp 47) 4, 0, "ref.go:41", #[⟨14, .data⟩, ⟨11, .guard⟩], some (11, false)⟩) (v := undef) rfl (by kernel_rfl) (by kernel_rfl) (by kernel_rfl) (fun _ _ _ h => h) (Or.inr ⟨by rfl, rfl⟩) (by assumption) ?rest16
              try simp only [Act.put, List.setIfInBounds_toArray, List.set_cons_zero, List.set_cons_succ]
              refine' wpAnyH_take (i := 16) (oi := ⟨some 49, .load 3 (.tmp 48), 3, "ref.go:41", #[⟨15, .data⟩, ⟨11, .guard⟩], some (11, false)⟩) (v := undef) rfl (by kernel_rfl) (by kernel_rfl) (by kernel_rfl) (fun _ _ _ h => h) (Or.inr ⟨by rfl, rfl⟩) (by assumption) ?rest17
              try simp only [Act.put, List.setIfInBounds_toArray, List.set_cons_zero, List.set_cons_succ]
              refine' wpAnyH_take (i := 17) (oi := ⟨some 50, .binOp .neq 3 (.tmp 49) (.const (.int .i64 0)) 3, 4, "ref.go:41", #[⟨16, .data⟩, ⟨11, .guard⟩], some (11, false)⟩) (v := undef) rfl (by kernel_rfl) (by kernel_rfl) (by kernel_rfl) (fun _ _ _ h => h) (Or.inr ⟨by rfl, rfl⟩) (by assumption) ?rest18
              try simp only [Act.put, List.setIfInBounds_toArray, List.set_cons_zero, List.set_cons_succ]
              refine' wpAnyH_take (i := 18) (oi := ⟨some 51, .move (.tmp 50), 4, "ref.go:41", #[⟨17, .data⟩, ⟨11, .chain⟩, ⟨11, .guard⟩], some (11, false)⟩) (v := undef) rfl (by kernel_rfl) (by kernel_rfl) (by kernel_rfl) (fun _ _ _ h => h) (Or.inr ⟨by rfl, rfl⟩) (by assumption) ?rest19
              try simp only [Act.put, List.setIfInBounds_toArray, List.set_cons_zero, List.set_cons_succ]
              refine' wpAnyH_take (i := 19) (oi := ⟨some 52, .move (.tmp 0), 27, "ref.go:41", #[⟨18, .guard⟩], some (18, true)⟩) (v := undef) rfl (by kernel_rfl) (by kernel_rfl) (by kernel_rfl) (fun _ _ _ h => h) (Or.inr ⟨by rfl, rfl⟩) (by assumption) ?rest20
              try simp only [Act.put, List.setIfInBounds_toArray, List.set_cons_zero, List.set_cons_succ]
              refine' wpAnyH_take (i := 20) (oi := ⟨some 53, .move (.tmp 3), 3, "ref.go:41", #[⟨18, .guard⟩], some (18, true)⟩) (v := undef) rfl (by kernel_rfl) (by kernel_rfl) (by kernel_rfl) (fun _ _ _ h => h) (Or.inr ⟨by rfl, rfl⟩) (by assumption) ?rest21
              try simp only [Act.put, List.setIfInBounds_toArray, List.set_cons_zero, List.set_cons_succ]
              refine' wpAnyH_take (i := 21) (oi := ⟨some 54, .indexAddr 27 (.tmp 52) (.tmp 53), 0, "ref.go:41", #[⟨19, .data⟩, ⟨20, .data⟩, ⟨18, .guard⟩], some (18, true)⟩) (v := undef) rfl (by kernel_rfl) (by kernel_rfl) (by kernel_rfl) (fun _ _ _ h => h) (Or.inr ⟨by rfl, rfl⟩) (by assumption) ?rest22
              try simp only [Act.put, List.setIfInBounds_toArray, List.set_cons_zero, List.set_cons_succ]
              refine' wpAnyH_take (i := 22) (oi := ⟨some 55, .fieldAddr 41 (.tmp 54) 3, 0, "ref.go:41", #[⟨21, .data⟩, ⟨18, .guard⟩], some (18, true)⟩) (v := undef) rfl (by kernel_rfl) (by kernel_rfl) (by kernel_rfl) (fun _ _ _ h => h) (Or.inr ⟨by rfl, rfl⟩) (by assumption) ?rest23
              try simp only [Act.put, List.setIfInBounds_toArray, List.set_cons_zero, List.set_cons_succ]
              refine' wpAnyH_take (i := 23) (oi := ⟨some 56, .load 3 (.tmp 55), 3, "ref.go:41", #[⟨22, .data⟩, ⟨18, .guard⟩], some (18, true)⟩) (v := undef) rfl (by kernel_rfl) (by kernel_rfl) (by kernel_rfl) (fun _ _ _ h => h) (Or.inr ⟨by rfl, rfl⟩) (by assumption) ?rest24
              try simp only [Act.put, List.setIfInBounds_toArray, List.set_cons_zero, List.set_cons_succ]
              refine' wpAnyH_take (i := 24) (oi := ⟨some 57, .move (.tmp 0), 27, "ref.go:41", #[⟨18, .guard⟩], some (18, true)⟩) (v := undef) rfl (by kernel_rfl) (by kernel_rfl) (by kernel_rfl) (fun _ _ _ h => h) (Or.inr ⟨by rfl, rfl⟩) (by assumption) ?rest25
              try simp only [Act.put, List.setIfInBounds_toArray, List.set_cons_zero, List.set_cons_succ]
              refine' wpAnyH_take (i := 25) (oi := ⟨some 58, .move (.tmp 4), 3, "ref.go:41", #[⟨18, .guard⟩], some (18, true)⟩) (v := undef) rfl (by kernel_rfl) (by kernel_rfl) (by kernel_rfl) (fun _ _ _ h => h) (Or.inr ⟨by rfl, rfl⟩) (by assumption) ?rest26
              try simp only [Act.put, List.setIfInBounds_toArray, List.set_cons_zero, List.set_cons_succ]
              refine' wpAnyH_take (i := 26) (oi := ⟨some 59, .indexAddr 27 (.tmp 57) (.tmp 58), 0, "ref.go:41", #[⟨24, .data⟩, ⟨25, .data⟩, ⟨18, .guard⟩], some (18, true)⟩) (v := undef) rfl (by kernel_rfl) (by kernel_rfl) (by kernel_rfl) (fun _ _ _ h => h) (Or.inr ⟨by rfl, rfl⟩) (by assumption) ?rest27
              try simp only [Act.put, List.setIfInBounds_toArray, List.set_cons_zero, List.set_cons_succ]
              refine' wpAnyH_take (i := 27) (oi := ⟨some 60, .fieldAddr 41 (.tmp 59) 4, 0, "ref.go:41", #[⟨26, .data⟩, ⟨18, .guard⟩], some (18, true)⟩) (v := undef) rfl (by kernel_rfl) (by kernel_rfl) (by kernel_rfl) (fun _ _ _ h => h) (Or.inr ⟨by rfl, rfl⟩) (by assumption) ?rest28
              try simp only [Act.put, List.setIfInBounds_toArray, List.set_cons_zero, List.set_cons_succ]
              refine' wpAnyH_take (i := 28) (oi := ⟨some 61, .load 3 (.tmp 60), 3, "ref.go:41", #[⟨27, .data⟩, ⟨18, .guard⟩], some (18, true)⟩) (v := undef) rfl (by kernel_rfl) (by kernel_rfl) (by kernel_rfl) (fun _ _ _ h => h) (Or.inr ⟨by rfl, rfl⟩) (by assumption) ?rest29
              try simp only [Act.put, List.setIfInBounds_toArray, List.set_cons_zero, List.set_cons_succ]
              refine' wpAnyH_take (i := 29) (oi := ⟨some 62, .binOp .leq 3 (.tmp 56) (.tmp 61) 3, 4, "ref.go:41", #[⟨23, .data⟩, ⟨28, .data⟩, ⟨18, .guard⟩], some (18, true)⟩) (v := undef) rfl (by kernel_rfl) (by kernel_rfl) (by kernel_rfl) (fun _ _ _ h => h) (Or.inr ⟨by rfl, rfl⟩) (by assumption) ?rest30
              try simp only [Act.put, List.setIfInBounds_toArray, List.set_cons_zero, List.set_cons_succ]
              refine' wpAnyH_take (i := 30) (oi := ⟨some 63, .pick (.tmp 51) (.tmp 62) (.const (.bool false)), 4, "ref.go:41", #[⟨18, .data⟩, ⟨29, .data⟩, ⟨11, .guard⟩], some (11, false)⟩) (v := undef) rfl (by kernel_rfl) (by kernel_rfl) (by kernel_rfl) (fun _ _ _ h => h) (Or.inr ⟨by rfl, rfl⟩) (by assumption) ?rest31
              try simp only [Act.put, List.setIfInBounds_toArray, List.set_cons_zero, List.set_cons_succ]
              refine' wpAnyH_take (i := 31) (oi := ⟨some 64, .pick (.tmp 44) (.const (.bool true)) (.tmp 63), 4, "ref.go:41", #[⟨11, .data⟩, ⟨30, .data⟩], none⟩) (v := _) rfl (by kernel_rfl) (by kernel_rfl) (by kernel_rfl) (fun _ _ _ h => h) (Or.inl ⟨by rfl, ?hy32⟩) (by assumption) ?rest32
              case hy32 => (intro w hSw; (try dsimp only at hSw); go_simp; try with_reducible rfl)
              try simp only [Act.put, List.setIfInBounds_toArray, List.set_cons_zero, List.set_cons_succ]
              refine wpAnyH_done (by kernel_rfl) ?_ _
              go_wp2
              go_ret
              exact ⟨by rw [HF.out]; rfl, by first | exact below_dn (below_dn HB2.out _) _ | exact below_dn HB2.out _⟩
            by_cases hf : y.fin = 0
            case pos =>
              have e4 : (y.fin != 0) = false := by simpa using hf
              have HPP : Hid (pair19 y x = true) := Lib.hid (by simp [pair19, hf]; omega)
              clear hf
              go_wp2
              go_quiet (fail)
              go_wp2
              refine wp_region_held_drew (S := fun W => W.cell? ⟨g, o + i * 8 + 3, none⟩ = some (.int .i64 x.beg) ∧ W.cell? ⟨g, o + k * 8 + 3, none⟩ = some (.int .i64 y.beg) ∧ W.cell? ⟨g, o + k * 8 + 4, none⟩ = some (.int .i64 y.fin)) (by kernel_rfl) ⟨f3, d3, d4⟩ (fun hHeld => ?_)
              refine' wpAnyH_take (i := 0) (oi := ⟨some 33, .move (.tmp 0), 27, "ref.go:41", #[], none⟩) (v := _) rfl (by kernel_rfl) (by kernel_rfl) (by kernel_rfl) (fun _ _ _ h => h) (Or.inl ⟨by rfl, ?hy33⟩) (by assumption) ?rest33
              case hy33 => (intro w hSw; (try dsimp only at hSw); go_simp; try with_reducible rfl)
              try simp only [Act.put, List.setIfInBounds_toArray, List.set_cons_zero, List.set_cons_succ]
              refine' wpAnyH_take (i := 1) (oi := ⟨some 34, .move (.tmp 3), 3, "ref.go:41", #[], none⟩) (v := _) rfl (by kernel_rfl) (by kernel_rfl) (by kernel_rfl) (fun _ _ _ h => h) (Or.inl ⟨by rfl, ?hy34⟩) (by assumption) ?rest34
              case hy34 => (intro w hSw; (try dsimp only at hSw); go_simp; try with_reducible rfl)
              try simp only [Act.put, List.setIfInBounds_toArray, List.set_cons_zero, List.set_cons_succ]
              refine' wpAnyH_take (i := 2) (oi := ⟨some 35, .indexAddr 27 (.tmp 33) (.tmp 34), 0, "ref.go:41", #[⟨0, .data⟩, ⟨1, .data⟩], none⟩) (v := _) rfl (by kernel_rfl) (by kernel_rfl) (by kernel_rfl) (fun _ _ _ h => h) (Or.inl ⟨by rfl, ?hy35⟩) (by assumption) ?rest35
              case hy35 => (intro w hSw; (try dsimp only at hSw); go_simp; try with_reducible rfl)
              try simp only [Act.put, List.setIfInBounds_toArray, List.set_cons_zero, List.set_cons_succ]
              refine' wpAnyH_take (i := 3) (oi := ⟨some 36, .fieldAddr 41 (.tmp 35) 3, 0, "ref.go:41", #[⟨2, .data⟩], none⟩) (v := _) rfl (by kernel_rfl) (by kernel_rfl) (by kernel_rfl) (fun _ _ _ h => h) (Or.inl ⟨by rfl, ?hy36⟩) (by assumption) ?rest36
              case hy36 => (intro w hSw; (try dsimp only at hSw); go_simp; try with_reducible rfl)
              try simp only [Act.put, List.setIfInBounds_toArray, List.set_cons_zero, List.set_cons_succ]
              refine' wpAnyH_take (i := 4) (oi := ⟨some 37, .load 3 (.tmp 36), 3, "ref.go:41", #[⟨3, .data⟩], none⟩) (v := _) rfl (by kernel_rfl) (by kernel_rfl) (by kernel_rfl) (fun _ _ _ h => h) (Or.inl ⟨by rfl, ?hy37⟩) (by assumption) ?rest37
              case hy37 => (intro w hSw; (try dsimp only at hSw); go_simp; try with_reducible rfl)
              try simp only [Act.put, List.setIfInBounds_toArray, List.set_cons_zero, List.set_cons_succ]
              refine' wpAnyH_take (i := 5) (oi := ⟨some 38, .move (.tmp 0), 27, "ref.go:41", #[], none⟩) (v := _) rfl (by kernel_rfl) (by kernel_rfl) (by kernel_rfl) (fun _ _ _ h => h) (Or.inl ⟨by rfl, ?hy38⟩) (by assumption) ?rest38
              case hy38 => (intro w hSw; (try dsimp only at hSw); go_simp; try with_reducible rfl)
              try simp only [Act.put, List.setIfInBounds_toArray, List.set_cons_zero, List.set_cons_succ]
              refine' wpAnyH_take (i := 6) (oi := ⟨some 39, .move (.tmp 4), 3, "ref.go:41", #[], none⟩) (v := _) rfl (by kernel_rfl) (by kernel_rfl) (by kernel_rfl) (fun _ _ _ h => h) (Or.inl ⟨by rfl, ?hy39⟩) (by assumption) ?rest39
              case hy39 => (intro w hSw; (try dsimp only at hSw); go_simp; try with_reducible rfl)
              try simp only [Act.put, List.setIfInBounds_toArray, List.set_cons_zero, List.set_cons_succ]
              refine' wpAnyH_take (i := 7) (oi := ⟨some 40, .indexAddr 27 (.tmp 38) (.tmp 39), 0, "ref.go:41", #[⟨5, .data⟩, ⟨6, .data⟩], none⟩) (v := _) rfl (by kernel_rfl) (by kernel_rfl) (by kernel_rfl) (fun _ _ _ h => h) (Or.inl ⟨by rfl, ?hy40⟩) (by assumption) ?rest40
              case hy40 => (intro w hSw; (try dsimp only at hSw); go_simp; try with_reducible rfl)
              try simp only [Act.put, List.setIfInBounds_toArray, List.set_cons_zero, List.set_cons_succ]
              refine' wpAnyH_take (i := 8) (oi := ⟨some 41, .fieldAddr 41 (.tmp 40) 3, 0, "ref.go:41", #[⟨7, .data⟩], none⟩) (v := _) rfl (by kernel_rfl) (by kernel_rfl) (by kernel_rfl) (fun _ _ _ h => h) (Or.inl ⟨by rfl, ?hy41⟩) (by assumption) ?rest41
              case hy41 => (intro w hSw; (try dsimp only at hSw); go_simp; try with_reducible rfl)
              try simp only [Act.put, List.setIfInBounds_toArray, List.set_cons_zero, List.set_cons_succ]
              refine' wpAnyH_take (i := 9) (oi := ⟨some 42, .load 3 (.tmp 41), 3, "ref.go:41", #[⟨8, .data⟩], none⟩) (v := _) rfl (by kernel_rfl) (by kernel_rfl) (by kernel_rfl) (fun _ _ _ h => h) (Or.inl ⟨by rfl, ?hy42⟩) (by assumption) ?rest42
              case hy42 => (intro w hSw; (try dsimp only at hSw); go_simp; try with_reducible rfl)
              try simp only [Act.put, List.setIfInBounds_toArray, List.set_cons_zero, List.set_cons_succ]
              refine' wpAnyH_take (i := 10) (oi := ⟨some 43, .binOp .leq 3 (.tmp 37) (.tmp 42) 3, 4, "ref.go:41", #[⟨4, .data⟩, ⟨9, .data⟩], none⟩) (v := .bool false) rfl (by kernel_rfl) (by kernel_rfl) (by kernel_rfl) (fun _ _ _ h => h) (Or.inl ⟨by rfl, ?hy43⟩) (by assumption) ?rest43
              case hy43 => (intro w hSw; (try dsimp only at hSw); go_simp; skip)
              try simp only [Act.put, List.setIfInBounds_toArray, List.set_cons_zero, List.set_cons_succ]
              refine' wpAnyH_take (i := 11) (oi := ⟨some 44, .move (.tmp 43), 4, "ref.go:41", #[⟨10, .data⟩], none⟩) (v := _) rfl (by kernel_rfl) (by kernel_rfl) (by kernel_rfl) (fun _ _ _ h => h) (Or.inl ⟨by rfl, ?hy44⟩) (by assumption) ?rest44
              case hy44 => (intro w hSw; (try dsimp only at hSw); go_simp; try with_reducible rfl)
              try simp only [Act.put, List.setIfInBounds_toArray, List.set_cons_zero, List.set_cons_succ]
              refine' wpAnyH_take (i := 12) (oi := ⟨some 45, .move (.tmp 0), 27, "ref.go:41", #[⟨11, .guard⟩], some (11, false)⟩) (v := _) rfl (by kernel_rfl) (by kernel_rfl) (by kernel_rfl) (fun _ _ _ h => h) (Or.inl ⟨by rfl, ?hy45⟩) (by assumption) ?rest45
              case hy45 => (intro w hSw; (try dsimp only at hSw); go_simp; try with_reducible rfl)
              try simp only [Act.put, List.setIfInBounds_toArray, List.set_cons_zero, List.set_cons_succ]
              refine' wpAnyH_take (i := 13) (oi := ⟨some 46, .move (.tmp 4), 3, "ref.go:41", #[⟨11, .guard⟩], some (11, false)⟩) (v := _) rfl (by kernel_rfl) (by kernel_rfl) (by kernel_rfl) (fun _ _ _ h => h) (Or.inl ⟨by rfl, ?hy46⟩) (by assumption) ?rest46
              case hy46 => (intro w hSw; (try dsimp only at hSw); go_simp; try with_reducible rfl)
              try simp only [Act.put, List.setIfInBounds_toArray, List.set_cons_zero, List.set_cons_succ]
              refine' wpAnyH_take (i := 14) (oi := ⟨some 47, .indexAddr 27 (.tmp 45) (.tmp 46), 0, "ref.go:41", #[⟨12, .data⟩, ⟨13, .data⟩, ⟨11, .guard⟩], some (11, false)⟩) (v := _) rfl (by kernel_rfl) (by kernel_rfl) (by kernel_rfl) (fun _ _ _ h => h) (Or.inl ⟨by rfl, ?hy47⟩) (by assumption) ?rest47
              case hy47 => (intro w hSw; (try dsimp only at hSw); go_simp; try with_reducible rfl)
              try simp only [Act.put, List.setIfInBounds_toArray, List.set_cons_zero, List.set_cons_succ]
              refine' wpAnyH_take (i := 15) (oi := ⟨some 48, .fieldAddr 41 (.tmp 47) 4, 0, "ref.go:41", #[⟨14, .data⟩, ⟨11, .guard⟩], some (11, false)⟩) (v := _) rfl (by kernel_rfl) (by kernel_rfl) (by kernel_rfl) (fun _ _ _ h => h) (Or.inl ⟨by rfl, ?hy48⟩) (by assumption) ?rest48
              case hy48 => (intro w hSw; (try dsimp only at hSw); go_simp; try with_reducible rfl)
              try simp only [Act.put, List.setIfInBounds_toArray, List.set_cons_zero, List.set_cons_succ]
              refine' wpAnyH_take (i := 16) (oi := ⟨some 49, .load 3 (.tmp 48), 3, "ref.go:41", #[⟨15, .data⟩, ⟨11, .guard⟩], some (11, false)⟩) (v := _) rfl (by kernel_rfl) (by kernel_rfl) (by kernel_rfl) (fun _ _ _ h => h) (Or.inl ⟨by rfl, ?hy49⟩) (by assumption) ?rest49
              case hy49 => (intro w hSw; (try dsimp only at hSw); go_simp; try with_reducible rfl)
              try simp only [Act.put, List.setIfInBounds_toArray, List.set_cons_zero, List.set_cons_succ]
              refine' wpAnyH_take (i := 17) (oi := ⟨some 50, .binOp .neq 3 (.tmp 49) (.const (.int .i64 0)) 3, 4, "ref.go:41", #[⟨16, .data⟩, ⟨11, .guard⟩], some (11, false)⟩) (v := .bool false) rfl (by kernel_rfl) (by kernel_rfl) (by kernel_rfl) (fun _ _ _ h => h) (Or.inl ⟨by rfl, ?hy50⟩) (by assumption) ?rest50
              case hy50 => (intro w hSw; (try dsimp only at hSw); go_simp; skip)
              try simp only [Act.put, List.setIfInBounds_toArray, List.set_cons_zero, List.set_cons_succ]
              refine' wpAnyH_take (i := 18) (oi := ⟨some 51, .move (.tmp 50), 4, "ref.go:41", #[⟨17, .data⟩, ⟨11, .chain⟩, ⟨11, .guard⟩], some (11, false)⟩) (v := _) rfl (by kernel_rfl) (by kernel_rfl) (by kernel_rfl) (fun _ _ _ h => h) (Or.inl ⟨by rfl, ?hy51⟩) (by assumption) ?rest51
              case hy51 => (intro w hSw; (try dsimp only at hSw); go_simp; try with_reducible rfl)
              try simp only [Act.put, List.setIfInBounds_toArray, List.set_cons_zero, List.set_cons_succ]
              refine' wpAnyH_take (i := 19) (oi := ⟨some 52, .move (.tmp 0), 27, "ref.go:41", #[⟨18, .guard⟩], some (18, true)⟩) (v := undef) rfl (by kernel_rfl) (by kernel_rfl) (by kernel_rfl) (fun _ _ _ h => h) (Or.inr ⟨by rfl, rfl⟩) (by assumption) ?rest52
              try simp only [Act.put, List.setIfInBounds_toArray, List.set_cons_zero, List.set_cons_succ]
              refine' wpAnyH_take (i := 20) (oi := ⟨some 53, .move (.tmp 3), 3, "ref.go:41", #[⟨18, .guard⟩], some (18, true)⟩) (v := undef) rfl (by kernel_rfl) (by kernel_rfl) (by kernel_rfl) (fun _ _ _ h => h) (Or.inr ⟨by rfl, rfl⟩) (by assumption) ?rest53
              try simp only [Act.put, List.setIfInBounds_toArray, List.set_cons_zero, List.set_cons_succ]
              refine' wpAnyH_take (i := 21) (oi := ⟨some 54, .indexAddr 27 (.tmp 52) (.tmp 53), 0, "ref.go:41", #[⟨19, .data⟩, ⟨20, .data⟩, ⟨18, .guard⟩], some (18, true)⟩) (v := undef) rfl (by kernel_rfl) (by kernel_rfl) (by kernel_rfl) (fun _ _ _ h => h) (Or.inr ⟨by rfl, rfl⟩) (by assumption) ?rest54
              try simp only [Act.put, List.setIfInBounds_toArray, List.set_cons_zero, List.set_cons_succ]
              refine' wpAnyH_take (i := 22) (oi := ⟨some 55, .fieldAddr 41 (.tmp 54) 3, 0, "ref.go:41", #[⟨21, .data⟩, ⟨18, .guard⟩], some (18, true)⟩) (v := undef) rfl (by kernel_rfl) (by kernel_rfl) (by kernel_rfl) (fun _ _ _ h => h) (Or.inr ⟨by rfl, rfl⟩) (by assumption) ?rest55
              try simp only [Act.put, List.setIfInBounds_toArray, List.set_cons_zero, List.set_cons_succ]
              refine' wpAnyH_take (i := 23) (oi := ⟨some 56, .load 3 (.tmp 55), 3, "ref.go:41", #[⟨22, .data⟩, ⟨18, .guard⟩], some (18, true)⟩) (v := undef) rfl (by kernel_rfl) (by kernel_rfl) (by kernel_rfl) (fun _ _ _ h => h) (Or.inr ⟨by rfl, rfl⟩) (by assumption) ?rest56
              try simp only [Act.put, List.setIfInBounds_toArray, List.set_cons_zero, List.set_cons_succ]
              refine' wpAnyH_take (i := 24) (oi := ⟨some 57, .move (.tmp 0), 27, "ref.go:41", #[⟨18, .guard⟩], some (18, true)⟩) (v := undef) rfl (by kernel_rfl) (by kernel_rfl) (by kernel_rfl) (fun _ _ _ h => h) (Or.inr ⟨by rfl, rfl⟩) (by assumption) ?rest57
              try simp only [Act.put, List.setIfInBounds_toArray, List.set_cons_zero, List.set_cons_succ]
              refine' wpAnyH_take (i := 25) (oi := ⟨some 58, .move (.tmp 4), 3, "ref.go:41", #[⟨18, .guard⟩], some (18, true)⟩) (v := undef) rfl (by kernel_rfl) (by kernel_rfl) (by kernel_rfl) (fun _ _ _ h => h) (Or.inr ⟨by rfl, rfl⟩) (by assumption) ?rest58
              try simp only [Act.put, List.setIfInBounds_toArray, List.set_cons_zero, List.set_cons_succ]
              refine' wpAnyH_take (i := 26) (oi := ⟨some 59, .indexAddr 27 (.tmp 57) (.tmp 58), 0, "ref.go:41", #[⟨24, .data⟩, ⟨25, .data⟩, ⟨18, .guard⟩], some (18, true)⟩) (v := undef) rfl (by kernel_rfl) (by kernel_rfl) (by kernel_rfl) (fun _ _ _ h => h) (Or.inr ⟨by rfl, rfl⟩) (by assumption) ?rest59
              try simp only [Act.put, List.setIfInBounds_toArray, List.set_cons_zero, List.set_cons_succ]
              refine' wpAnyH_take (i := 27) (oi := ⟨some 60, .fieldAddr 41 (.tmp 59) 4, 0, "ref.go:41", #[⟨26, .data⟩, ⟨18, .guard⟩], some (18, true)⟩) (v := undef) rfl (by kernel_rfl) (by kernel_rfl) (by kernel_rfl) (fun _ _ _ h => h) (Or.inr ⟨by rfl, rfl⟩) (by assumption) ?rest60
              try simp only [Act.put, List.setIfInBounds_toArray, List.set_cons_zero, List.set_cons_succ]
              refine' wpAnyH_take (i := 28) (oi := ⟨some 61, .load 3 (.tmp 60), 3, "ref.go:41", #[⟨27, .data⟩, ⟨18, .guard⟩], some (18, true)⟩) (v := undef) rfl (by kernel_rfl) (by kernel_rfl) (by kernel_rfl) (fun _ _ _ h => h) (Or.inr ⟨by rfl, rfl⟩) (by assumption) ?rest61
              try simp only [Act.put, List.setIfInBounds_toArray, List.set_cons_zero, List.set_cons_succ]
              refine' wpAnyH_take (i := 29) (oi := ⟨some 62, .binOp .leq 3 (.tmp 56) (.tmp 61) 3, 4, "ref.go:41", #[⟨23, .data⟩, ⟨28, .data⟩, ⟨18, .guard⟩], some (18, true)⟩) (v := undef) rfl (by kernel_rfl) (by kernel_rfl) (by kernel_rfl) (fun _ _ _ h => h) (Or.inr ⟨by rfl, rfl⟩) (by assumption) ?rest62
              try simp only [Act.put, List.setIfInBounds_toArray, List.set_cons_zero, List.set_cons_succ]
              refine' wpAnyH_take (i := 30) (oi := ⟨some 63, .pick (.tmp 51) (.tmp 62) (.const (.bool false)), 4, "ref.go:41", #[⟨18, .data⟩, ⟨29, .data⟩, ⟨11, .guard⟩], some (11, false)⟩) (v := _) rfl (by kernel_rfl) (by kernel_rfl) (by kernel_rfl) (fun _ _ _ h => h) (Or.inl ⟨by rfl, ?hy63⟩) (by assumption) ?rest63
              case hy63 => (intro w hSw; (try dsimp only at hSw); go_simp; try with_reducible rfl)
              try simp only [Act.put, List.setIfInBounds_toArray, List.set_cons_zero, List.set_cons_succ]
              refine' wpAnyH_take (i := 31) (oi := ⟨some 64, .pick (.tmp 44) (.const (.bool true)) (.tmp 63), 4, "ref.go:41", #[⟨11, .data⟩, ⟨30, .data⟩], none⟩) (v := _) rfl (by kernel_rfl) (by kernel_rfl) (by kernel_rfl) (fun _ _ _ h => h) (Or.inl ⟨by rfl, ?hy64⟩) (by assumption) ?rest64
              case hy64 => (intro w hSw; (try dsimp only at hSw); go_simp; try with_reducible rfl)
              try simp only [Act.put, List.setIfInBounds_toArray, List.set_cons_zero, List.set_cons_succ]
              refine wpAnyH_done (by kernel_rfl) ?_ _
              go_wp2
              go_roundw
              case rel => exact ⟨k + 1, by omega, by go_num, Lib.hid (fun j hj z hz => by
                rcases Nat.lt_succ_iff_lt_or_eq.1 hj with h | h
                · exact HP.out j h z hz
                · subst h
                  rw [HY.out] at hz
                  injection hz with hz
                  subst hz
                  exact HPP.out), Lib.hid (by first | exact below_dn (below_dn HB2.out _) _ | exact below_dn HB2.out _)⟩
              case measure => simp [intOf]; omega
            have e4 : (y.fin != 0) = true := by simpa using hf
            have HF4 := Lib.hid hf
            clear hf
            by_cases hd : x.beg ≤ y.fin
            · have HF := Lib.hid (okto_no HX.out (.inr ⟨k, y, hlt2, HY.out, by simp [pair19, HC.out, HF4.out]; omega⟩))
              go_wp2
              go_quiet (fail)
              go_wp2
              refine wp_region_held_drew (S := fun W => W.cell? ⟨g, o + i * 8 + 3, none⟩ = some (.int .i64 x.beg) ∧ W.cell? ⟨g, o + k * 8 + 3, none⟩ = some (.int .i64 y.beg) ∧ W.cell? ⟨g, o + k * 8 + 4, none⟩ = some (.int .i64 y.fin)) (by kernel_rfl) ⟨f3, d3, d4⟩ (fun hHeld => ?_)
              refine' wpAnyH_take (i := 0) (oi := ⟨some 33, .move (.tmp 0), 27, "ref.go:41", #[], none⟩) (v := _) rfl (by kernel_rfl) (by kernel_rfl) (by kernel_rfl) (fun _ _ _ h => h) (Or.inl ⟨by rfl, ?hy65⟩) (by assumption) ?rest65
              case hy65 => (intro w hSw; (try dsimp only at hSw); go_simp; try with_reducible rfl)
              try simp only [Act.put, List.setIfInBounds_toArray, List.set_cons_zero, List.set_cons_succ]
              refine' wpAnyH_take (i := 1) (oi := ⟨some 34, .move (.tmp 3), 3, "ref.go:41", #[], none⟩) (v := _) rfl (by kernel_rfl) (by kernel_rfl) (by kernel_rfl) (fun _ _ _ h => h) (Or.inl ⟨by rfl, ?hy66⟩) (by assumption) ?rest66
              case hy66 => (intro w hSw; (try dsimp only at hSw); go_simp; try with_reducible rfl)
              try simp only [Act.put, List.setIfInBounds_toArray, List.set_cons_zero, List.set_cons_succ]
              refine' wpAnyH_take (i := 2) (oi := ⟨some 35, .indexAddr 27 (.tmp 33) (.tmp 34), 0, "ref.go:41", #[⟨0, .data⟩, ⟨1, .data⟩], none⟩) (v := _) rfl (by kernel_rfl) (by kernel_rfl) (by kernel_rfl) (fun _ _ _ h => h) (Or.inl ⟨by rfl, ?hy67⟩) (by assumption) ?rest67
              case hy67 => (intro w hSw; (try dsimp only at hSw); go_simp; try with_reducible rfl)
              try simp only [Act.put, List.setIfInBounds_toArray, List.set_cons_zero, List.set_cons_succ]
              refine' wpAnyH_take (i := 3) (oi := ⟨some 36, .fieldAddr 41 (.tmp 35) 3, 0, "ref.go:41", #[⟨2, .data⟩], none⟩) (v := _) rfl (by kernel_rfl) (by kernel_rfl) (by kernel_rfl) (fun _ _ _ h => h) (Or.inl ⟨by rfl, ?hy68⟩) (by assumption) ?rest68
              case hy68 => (intro w hSw; (try dsimp only at hSw); go_simp; try with_reducible rfl)
              try simp only [Act.put, List.setIfInBounds_toArray, List.set_cons_zero, List.set_cons_succ]
              refine' wpAnyH_take (i := 4) (oi := ⟨some 37, .load 3 (.tmp 36), 3, "ref.go:41", #[⟨3, .data⟩], none⟩) (v := _) rfl (by kernel_rfl) (by kernel_rfl) (by kernel_rfl) (fun _ _ _ h => h) (Or.inl ⟨by rfl, ?hy69⟩) (by assumption) ?rest69
              case hy69 => (intro w hSw; (try dsimp only at hSw); go_simp; try with_reducible rfl)
              try simp only [Act.put, List.setIfInBounds_toArray, List.set_cons_zero, List.set_cons_succ]
              refine' wpAnyH_take (i := 5) (oi := ⟨some 38, .move (.tmp 0), 27, "ref.go:41", #[], none⟩) (v := _) rfl (by kernel_rfl) (by kernel_rfl) (by kernel_rfl) (fun _ _ _ h => h) (Or.inl ⟨by rfl, ?hy70⟩) (by assumption) ?rest70
              case hy70 => (intro w hSw; (try dsimp only at hSw); go_simp; try with_reducible rfl)
              try simp only [Act.put, List.setIfInBounds_toArray, List.set_cons_zero, List.set_cons_succ]
              refine' wpAnyH_take (i := 6) (oi := ⟨some 39, .move (.tmp 4), 3, "ref.go:41", #[], none⟩) (v := _) rfl (by kernel_rfl) (by kernel_rfl) (by kernel_rfl) (fun _ _ _ h => h) (Or.inl ⟨by rfl, ?hy71⟩) (by assumption) ?rest71
              case hy71 => (intro w hSw; (try dsimp only at hSw); go_simp; try with_reducible rfl)
              try simp only [Act.put, List.setIfInBounds_toArray, List.set_cons_zero, List.set_cons_succ]
              refine' wpAnyH_take (i := 7) (oi := ⟨some 40, .indexAddr 27 (.tmp 38) (.tmp 39), 0, "ref.go:41", #[⟨5, .data⟩, ⟨6, .data⟩], none⟩) (v := _) rfl (by kernel_rfl) (by kernel_rfl) (by kernel_rfl) (fun _ _ _ h => h) (Or.inl ⟨by rfl, ?hy72⟩) (by assumption) ?rest72
              case hy72 => (intro w hSw; (try dsimp only at hSw); go_simp; try with_reducible rfl)
              try simp only [Act.put, List.setIfInBounds_toArray, List.set_cons_zero, List.set_cons_succ]
              refine' wpAnyH_take (i := 8) (oi := ⟨some 41, .fieldAddr 41 (.tmp 40) 3, 0, "ref.go:41", #[⟨7, .data⟩], none⟩) (v := _) rfl (by kernel_rfl) (by kernel_rfl) (by kernel_rfl) (fun _ _ _ h => h) (Or.inl ⟨by rfl, ?hy73⟩) (by assumption) ?rest73
              case hy73 => (intro w hSw; (try dsimp only at hSw); go_simp; try with_reducible rfl)
              try simp only [Act.put, List.setIfInBounds_toArray, List.set_cons_zero, List.set_cons_succ]
              refine' wpAnyH_take (i := 9) (oi := ⟨some 42, .load 3 (.tmp 41), 3, "ref.go:41", #[⟨8, .data⟩], none⟩) (v := _) rfl (by kernel_rfl) (by kernel_rfl) (by kernel_rfl) (fun _ _ _ h => h) (Or.inl ⟨by rfl, ?hy74⟩) (by assumption) ?rest74
              case hy74 => (intro w hSw; (try dsimp only at hSw); go_simp; try with_reducible rfl)
              try simp only [Act.put, List.setIfInBounds_toArray, List.set_cons_zero, List.set_cons_succ]
              refine' wpAnyH_take (i := 10) (oi := ⟨some 43, .binOp .leq 3 (.tmp 37) (.tmp 42) 3, 4, "ref.go:41", #[⟨4, .data⟩, ⟨9, .data⟩], none⟩) (v := .bool false) rfl (by kernel_rfl) (by kernel_rfl) (by kernel_rfl) (fun _ _ _ h => h) (Or.inl ⟨by rfl, ?hy75⟩) (by assumption) ?rest75
              case hy75 => (intro w hSw; (try dsimp only at hSw); go_simp; skip)
              try simp only [Act.put, List.setIfInBounds_toArray, List.set_cons_zero, List.set_cons_succ]
              refine' wpAnyH_take (i := 11) (oi := ⟨some 44, .move (.tmp 43), 4, "ref.go:41", #[⟨10, .data⟩], none⟩) (v := _) rfl (by kernel_rfl) (by kernel_rfl) (by kernel_rfl) (fun _ _ _ h => h) (Or.inl ⟨by rfl, ?hy76⟩) (by assumption) ?rest76
              case hy76 => (intro w hSw; (try dsimp only at hSw); go_simp; try with_reducible rfl)
              try simp only [Act.put, List.setIfInBounds_toArray, List.set_cons_zero, List.set_cons_succ]
              refine' wpAnyH_take (i := 12) (oi := ⟨some 45, .move (.tmp 0), 27, "ref.go:41", #[⟨11, .guard⟩], some (11, false)⟩) (v := _) rfl (by kernel_rfl) (by kernel_rfl) (by kernel_rfl) (fun _ _ _ h => h) (Or.inl ⟨by rfl, ?hy77⟩) (by assumption) ?rest77
              case hy77 => (intro w hSw; (try dsimp only at hSw); go_simp; try with_reducible rfl)
              try simp only [Act.put, List.setIfInBounds_toArray, List.set_cons_zero, List.set_cons_succ]
              refine' wpAnyH_take (i := 13) (oi := ⟨some 46, .move (.tmp 4), 3, "ref.go:41", #[⟨11, .guard⟩], some (11, false)⟩) (v := _) rfl (by kernel_rfl) (by kernel_rfl) (by kernel_rfl) (fun _ _ _ h => h) (Or.inl ⟨by rfl, ?hy78⟩) (by assumption) ?rest78
              case hy78 => (intro w hSw; (try dsimp only at hSw); go_simp; try with_reducible rfl)
              try simp only [Act.put, List.setIfInBounds_toArray, List.set_cons_zero, List.set_cons_succ]
              refine' wpAnyH_take (i := 14) (oi := ⟨some 47, .indexAddr 27 (.tmp 45) (.tmp 46), 0, "ref.go:41", #[⟨12, .data⟩, ⟨13, .data⟩, ⟨11, .guard⟩], some (11, false)⟩) (v := _) rfl (by kernel_rfl) (by kernel_rfl) (by kernel_rfl) (fun _ _ _ h => h) (Or.inl ⟨by rfl, ?hy79⟩) (by assumption) ?rest79
              case hy79 => (intro w hSw; (try dsimp only at hSw); go_simp; try with_reducible rfl)
              try simp only [Act.put, List.setIfInBounds_toArray, List.set_cons_zero, List.set_cons_succ]
              refine' wpAnyH_take (i := 15) (oi := ⟨some 48, .fieldAddr 41 (.tmp 47) 4, 0, "ref.go:41", #[⟨14, .data⟩, ⟨11, .guard⟩], some (11, false)⟩) (v := _) rfl (by kernel_rfl) (by kernel_rfl) (by kernel_rfl) (fun _ _ _ h => h) (Or.inl ⟨by rfl, ?hy80⟩) (by assumption) ?rest80
              case hy80 => (intro w hSw; (try dsimp only at hSw); go_simp; try with_reducible rfl)
              try simp only [Act.put, List.setIfInBounds_toArray, List.set_cons_zero, List.set_cons_succ]
              refine' wpAnyH_take (i := 16) (oi := ⟨some 49, .load 3 (.tmp 48), 3, "ref.go:41", #[⟨15, .data⟩, ⟨11, .guard⟩], some (11, false)⟩) (v := _) rfl (by kernel_rfl) (by kernel_rfl) (by kernel_rfl) (fun _ _ _ h => h) (Or.inl ⟨by rfl, ?hy81⟩) (by assumption) ?rest81
              case hy81 => (intro w hSw; (try dsimp only at hSw); go_simp; try with_reducible rfl)
              try simp only [Act.put, List.setIfInBounds_toArray, List.set_cons_zero, List.set_cons_succ]
              refine' wpAnyH_take (i := 17) (oi := ⟨some 50, .binOp .neq 3 (.tmp 49) (.const (.int .i64 0)) 3, 4, "ref.go:41", #[⟨16, .data⟩, ⟨11, .guard⟩], some (11, false)⟩) (v := .bool true) rfl (by kernel_rfl) (by kernel_rfl) (by kernel_rfl) (fun _ _ _ h => h) (Or.inl ⟨by rfl, ?hy82⟩) (by assumption) ?rest82
              case hy82 => (intro w hSw; (try dsimp only at hSw); go_simp; skip)
              try simp only [Act.put, List.setIfInBounds_toArray, List.set_cons_zero, List.set_cons_succ]
              refine' wpAnyH_take (i := 18) (oi := ⟨some 51, .move (.tmp 50), 4, "ref.go:41", #[⟨17, .data⟩, ⟨11, .chain⟩, ⟨11, .guard⟩], some (11, false)⟩) (v := _) rfl (by kernel_rfl) (by kernel_rfl) (by kernel_rfl) (fun _ _ _ h => h) (Or.inl ⟨by rfl, ?hy83⟩) (by assumption) ?rest83
              case hy83 => (intro w hSw; (try dsimp only at hSw); go_simp; try with_reducible rfl)
              try simp only [Act.put, List.setIfInBounds_toArray, List.set_cons_zero, List.set_cons_succ]
              refine' wpAnyH_take (i := 19) (oi := ⟨some 52, .move (.tmp 0), 27, "ref.go:41", #[⟨18, .guard⟩], some (18, true)⟩) (v := _) rfl (by kernel_rfl) (by kernel_rfl) (by kernel_rfl) (fun _ _ _ h => h) (Or.inl ⟨by rfl, ?hy84⟩) (by assumption) ?rest84
              case hy84 => (intro w hSw; (try dsimp only at hSw); go_simp; try with_reducible rfl)
              try simp only [Act.put, List.setIfInBounds_toArray, List.set_cons_zero, List.set_cons_succ]
              refine' wpAnyH_take (i := 20) (oi := ⟨some 53, .move (.tmp 3), 3, "ref.go:41", #[⟨18, .guard⟩], some (18, true)⟩) (v := _) rfl (by kernel_rfl) (by kernel_rfl) (by kernel_rfl) (fun _ _ _ h => h) (Or.inl ⟨by rfl, ?hy85⟩) (by assumption) ?rest85
              case hy85 => (intro w hSw; (try dsimp only at hSw); go_simp; try with_reducible rfl)
              try simp only [Act.put, List.setIfInBounds_toArray, List.set_cons_zero, List.set_cons_succ]
              refine' wpAnyH_take (i := 21) (oi := ⟨some 54, .indexAddr 27 (.tmp 52) (.tmp 53), 0, "ref.go:41", #[⟨19, .data⟩, ⟨20, .data⟩, ⟨18, .guard⟩], some (18, true)⟩) (v := _) rfl (by kernel_rfl) (by kernel_rfl) (by kernel_rfl) (fun _ _ _ h => h) (Or.inl ⟨by rfl, ?hy86⟩) (by assumption) ?rest86
              case hy86 => (intro w hSw; (try dsimp only at hSw); go_simp; try with_reducible rfl)
              try simp only [Act.put, List.setIfInBounds_toArray, List.set_cons_zero, List.set_cons_succ]
              refine' wpAnyH_take (i := 22) (oi := ⟨some 55, .fieldAddr 41 (.tmp 54) 3, 0, "ref.go:41", #[⟨21, .data⟩, ⟨18, .guard⟩], some (18, true)⟩) (v := _) rfl (by kernel_rfl) (by kernel_rfl) (by kernel_rfl) (fun _ _ _ h => h) (Or.inl ⟨by rfl, ?hy87⟩) (by assumption) ?rest87
              case hy87 => (intro w hSw; (try dsimp only at hSw); go_simp; try with_reducible rfl)
              try simp only [Act.put, List.setIfInBounds_toArray, List.set_cons_zero, List.set_cons_succ]
              refine' wpAnyH_take (i := 23) (oi := ⟨some 56, .load 3 (.tmp 55), 3, "ref.go:41", #[⟨22, .data⟩, ⟨18, .guard⟩], some (18, true)⟩) (v := _) rfl (by kernel_rfl) (by kernel_rfl) (by kernel_rfl) (fun _ _ _ h => h) (Or.inl ⟨by rfl, ?hy88⟩) (by assumption) ?rest88
              case hy88 => (intro w hSw; (try dsimp only at hSw); go_simp; try with_reducible rfl)
              try simp only [Act.put, List.setIfInBounds_toArray, List.set_cons_zero, List.set_cons_succ]
              refine' wpAnyH_take (i := 24) (oi := ⟨some 57, .move (.tmp 0), 27, "ref.go:41", #[⟨18, .guard⟩], some (18, true)⟩) (v := _) rfl (by kernel_rfl) (by kernel_rfl) (by kernel_rfl) (fun _ _ _ h => h) (Or.inl ⟨by rfl, ?hy89⟩) (by assumption) ?rest89
              case hy89 => (intro w hSw; (try dsimp only at hSw); go_simp; try with_reducible rfl)
              try simp only [Act.put, List.setIfInBounds_toArray, List.set_cons_zero, List.set_cons_succ]
              refine' wpAnyH_take (i := 25) (oi := ⟨some 58, .move (.tmp 4), 3, "ref.go:41", #[⟨18, .guard⟩], some (18, true)⟩) (v := _) rfl (by kernel_rfl) (by kernel_rfl) (by kernel_rfl) (fun _ _ _ h => h) (Or.inl ⟨by rfl, ?hy90⟩) (by assumption) ?rest90
              case hy90 => (intro w hSw; (try dsimp only at hSw); go_simp; try with_reducible rfl)
              try simp only [Act.put, List.setIfInBounds_toArray, List.set_cons_zero, List.set_cons_succ]
              refine' wpAnyH_take (i := 26) (oi := ⟨some 59, .indexAddr 27 (.tmp 57) (.tmp 58), 0, "ref.go:41", #[⟨24, .data⟩, ⟨25, .data⟩, ⟨18, .guard⟩], some (18, true)⟩) (v := _) rfl (by kernel_rfl) (by kernel_rfl) (by kernel_rfl) (fun _ _ _ h => h) (Or.inl ⟨by rfl, ?hy91⟩) (by assumption) ?rest91
              case hy91 => (intro w hSw; (try dsimp only at hSw); go_simp; try with_reducible rfl)
              try simp only [Act.put, List.setIfInBounds_toArray, List.set_cons_zero, List.set_cons_succ]
              refine' wpAnyH_take (i := 27) (oi := ⟨some 60, .fieldAddr 41 (.tmp 59) 4, 0, "ref.go:41", #[⟨26, .data⟩, ⟨18, .guard⟩], some (18, true)⟩) (v := _) rfl (by kernel_rfl) (by kernel_rfl) (by kernel_rfl) (fun _ _ _ h => h) (Or.inl ⟨by rfl, ?hy92⟩) (by assumption) ?rest92
              case hy92 => (intro w hSw; (try dsimp only at hSw); go_simp; try with_reducible rfl)
              try simp only [Act.put, List.setIfInBounds_toArray, List.set_cons_zero, List.set_cons_succ]
              refine' wpAnyH_take (i := 28) (oi := ⟨some 61, .load 3 (.tmp 60), 3, "ref.go:41", #[⟨27, .data⟩, ⟨18, .guard⟩], some (18, true)⟩) (v := _) rfl (by kernel_rfl) (by kernel_rfl) (by kernel_rfl) (fun _ _ _ h => h) (Or.inl ⟨by rfl, ?hy93⟩) (by assumption) ?rest93
              case hy93 => (intro w hSw; (try dsimp only at hSw); go_simp; try with_reducible rfl)
              try simp only [Act.put, List.setIfInBounds_toArray, List.set_cons_zero, List.set_cons_succ]
              refine' wpAnyH_take (i := 29) (oi := ⟨some 62, .binOp .leq 3 (.tmp 56) (.tmp 61) 3, 4, "ref.go:41", #[⟨23, .data⟩, ⟨28, .data⟩, ⟨18, .guard⟩], some (18, true)⟩) (v := _) rfl (by kernel_rfl) (by kernel_rfl) (by kernel_rfl) (fun _ _ _ h => h) (Or.inl ⟨by rfl, ?hy94⟩) (by assumption) ?rest94
              case hy94 => (intro w hSw; (try dsimp only at hSw); go_simp; try with_reducible rfl)
              try simp only [Act.put, List.setIfInBounds_toArray, List.set_cons_zero, List.set_cons_succ]
              refine' wpAnyH_take (i := 30) (oi := ⟨some 63, .pick (.tmp 51) (.tmp 62) (.const (.bool false)), 4, "ref.go:41", #[⟨18, .data⟩, ⟨29, .data⟩, ⟨11, .guard⟩], some (11, false)⟩) (v := _) rfl (by kernel_rfl) (by kernel_rfl) (by kernel_rfl) (fun _ _ _ h => h) (Or.inl ⟨by rfl, ?hy95⟩) (by assumption) ?rest95
              case hy95 => (intro w hSw; (try dsimp only at hSw); go_simp; try with_reducible rfl)
              try simp only [Act.put, List.setIfInBounds_toArray, List.set_cons_zero, List.set_cons_succ]
              refine' wpAnyH_take (i := 31) (oi := ⟨some 64, .pick (.tmp 44) (.const (.bool true)) (.tmp 63), 4, "ref.go:41", #[⟨11, .data⟩, ⟨30, .data⟩], none⟩) (v := _) rfl (by kernel_rfl) (by kernel_rfl) (by kernel_rfl) (fun _ _ _ h => h) (Or.inl ⟨by rfl, ?hy96⟩) (by assumption) ?rest96
              case hy96 => (intro w hSw; (try dsimp only at hSw); go_simp; try with_reducible rfl)
              try simp only [Act.put, List.setIfInBounds_toArray, List.set_cons_zero, List.set_cons_succ]
              refine wpAnyH_done (by kernel_rfl) ?_ _
              go_wp2
              go_ret
              exact ⟨by rw [HF.out]; rfl, by first | exact below_dn (below_dn HB2.out _) _ | exact below_dn HB2.out _⟩
            · have HPP : Hid (pair19 y x = true) := Lib.hid (by simp [pair19]; omega)
              go_wp2
              go_quiet (fail)
              go_wp2
              refine wp_region_held_drew (S := fun W => W.cell? ⟨g, o + i * 8 + 3, none⟩ = some (.int .i64 x.beg) ∧ W.cell? ⟨g, o + k * 8 + 3, none⟩ = some (.int .i64 y.beg) ∧ W.cell? ⟨g, o + k * 8 + 4, none⟩ = some (.int .i64 y.fin)) (by kernel_rfl) ⟨f3, d3, d4⟩ (fun hHeld => ?_)
              refine' wpAnyH_take (i := 0) (oi := ⟨some 33, .move (.tmp 0), 27, "ref.go:41", #[], none⟩) (v := _) rfl (by kernel_rfl) (by kernel_rfl) (by kernel_rfl) (fun _ _ _ h => h) (Or.inl ⟨by rfl, ?hy97⟩) (by assumption) ?rest97
              case hy97 => (intro w hSw; (try dsimp only at hSw); go_simp; try with_reducible rfl)
              try simp only [Act.put, List.setIfInBounds_toArray, List.set_cons_zero, List.set_cons_succ]
              refine' wpAnyH_take (i := 1) (oi := ⟨some 34, .move (.tmp 3), 3, "ref.go:41", #[], none⟩) (v := _) rfl (by kernel_rfl) (by kernel_rfl) (by kernel_rfl) (fun _ _ _ h => h) (Or.inl ⟨by rfl, ?hy98⟩) (by assumption) ?rest98
              case hy98 => (intro w hSw; (try dsimp only at hSw); go_simp; try with_reducible rfl)
              try simp only [Act.put, List.setIfInBounds_toArray, List.set_cons_zero, List.set_cons_succ]
              refine' wpAnyH_take (i := 2) (oi := ⟨some 35, .indexAddr 27 (.tmp 33) (.tmp 34), 0, "ref.go:41", #[⟨0, .data⟩, ⟨1, .data⟩], none⟩) (v := _) rfl (by kernel_rfl) (by kernel_rfl) (by kernel_rfl) (fun _ _ _ h => h) (Or.inl ⟨by rfl, ?hy99⟩) (by assumption) ?rest99
              case hy99 => (intro w hSw; (try dsimp only at hSw); go_simp; try with_reducible rfl)
              try simp only [Act.put, List.setIfInBounds_toArray, List.set_cons_zero, List.set_cons_succ]
              refine' wpAnyH_take (i := 3) (oi := ⟨some 36, .fieldAddr 41 (.tmp 35) 3, 0, "ref.go:41", #[⟨2, .data⟩], none⟩) (v := _) rfl (by kernel_rfl) (by kernel_rfl) (by kernel_rfl) (fun _ _ _ h => h) (Or.inl ⟨by rfl, ?hy100⟩) (by assumption) ?rest100
              case hy100 => (intro w hSw; (try dsimp only at hSw); go_simp; try with_reducible rfl)
              try simp only [Act.put, List.setIfInBounds_toArray, List.set_cons_zero, List.set_cons_succ]
              refine' wpAnyH_take (i := 4) (oi := ⟨some 37, .load 3 (.tmp 36), 3, "ref.go:41", #[⟨3, .data⟩], none⟩) (v := _) rfl (by kernel_rfl) (by kernel_rfl) (by kernel_rfl) (fun _ _ _ h => h) (Or.inl ⟨by rfl, ?hy101⟩) (by assumption) ?rest101
              case hy101 => (intro w hSw; (try dsimp only at hSw); go_simp; try with_reducible rfl)
              try simp only [Act.put, List.setIfInBounds_toArray, List.set_cons_zero, List.set_cons_succ]
              refine' wpAnyH_take (i := 5) (oi := ⟨some 38, .move (.tmp 0), 27, "ref.go:41", #[], none⟩) (v := _) rfl (by kernel_rfl) (by kernel_rfl) (by kernel_rfl) (fun _ _ _ h => h) (Or.inl ⟨by rfl, ?hy102⟩) (by assumption) ?rest102
              case hy102 => (intro w hSw; (try dsimp only at hSw); go_simp; try with_reducible rfl)
              try simp only [Act.put, List.setIfInBounds_toArray, List.set_cons_zero, List.set_cons_succ]
              refine' wpAnyH_take (i := 6) (oi := ⟨some 39, .move (.tmp 4), 3, "ref.go:41", #[], none⟩) (v := _) rfl (by kernel_rfl) (by kernel_rfl) (by kernel_rfl) (fun _ _ _ h => h) (Or.inl ⟨by rfl, ?hy103⟩) (by assumption) ?rest103
              case hy103 => (intro w hSw; (try dsimp only at hSw); go_simp; try with_reducible rfl)
              try simp only [Act.put, List.setIfInBounds_toArray, List.set_cons_zero, List.set_cons_succ]
              refine' wpAnyH_take (i := 7) (oi := ⟨some 40, .indexAddr 27 (.tmp 38) (.tmp 39), 0, "ref.go:41", #[⟨5, .data⟩, ⟨6, .data⟩], none⟩) (v := _) rfl (by kernel_rfl) (by kernel_rfl) (by kernel_rfl) (fun _ _ _ h => h) (Or.inl ⟨by rfl, ?hy104⟩) (by assumption) ?rest104
              case hy104 => (intro w hSw; (try dsimp only at hSw); go_simp; try with_reducible rfl)
              try simp only [Act.put, List.setIfInBounds_toArray, List.set_cons_zero, List.set_cons_succ]
              refine' wpAnyH_take (i := 8) (oi := ⟨some 41, .fieldAddr 41 (.tmp 40) 3, 0, "ref.go:41", #[⟨7, .data⟩], none⟩) (v := _) rfl (by kernel_rfl) (by kernel_rfl) (by kernel_rfl) (fun _ _ _ h => h) (Or.inl ⟨by rfl, ?hy105⟩) (by assumption) ?rest105
              case hy105 => (intro w hSw; (try dsimp only at hSw); go_simp; try with_reducible rfl)
              try simp only [Act.put, List.setIfInBounds_toArray, List.set_cons_zero, List.set_cons_succ]
              refine' wpAnyH_take (i := 9) (oi := ⟨some 42, .load 3 (.tmp 41), 3, "ref.go:41", #[⟨8, .data⟩], none⟩) (v := _) rfl (by kernel_rfl) (by kernel_rfl) (by kernel_rfl) (fun _ _ _ h => h) (Or.inl ⟨by rfl, ?hy106⟩) (by assumption) ?rest106
              case hy106 => (intro w hSw; (try dsimp only at hSw); go_simp; try with_reducible rfl)
              try simp only [Act.put, List.setIfInBounds_toArray, List.set_cons_zero, List.set_cons_succ]
              refine' wpAnyH_take (i := 10) (oi := ⟨some 43, .binOp .leq 3 (.tmp 37) (.tmp 42) 3, 4, "ref.go:41", #[⟨4, .data⟩, ⟨9, .data⟩], none⟩) (v := .bool false) rfl (by kernel_rfl) (by kernel_rfl) (by kernel_rfl) (fun _ _ _ h => h) (Or.inl ⟨by rfl, ?hy107⟩) (by assumption) ?rest107
              case hy107 => (intro w hSw; (try dsimp only at hSw); go_simp; skip)
              try simp only [Act.put, List.setIfInBounds_toArray, List.set_cons_zero, List.set_cons_succ]
              refine' wpAnyH_take (i := 11) (oi := ⟨some 44, .move (.tmp 43), 4, "ref.go:41", #[⟨10, .data⟩], none⟩) (v := _) rfl (by kernel_rfl) (by kernel_rfl) (by kernel_rfl) (fun _ _ _ h => h) (Or.inl ⟨by rfl, ?hy108⟩) (by assumption) ?rest108
              case hy108 => (intro w hSw; (try dsimp only at hSw); go_simp; try with_reducible rfl)
              try simp only [Act.put, List.setIfInBounds_toArray, List.set_cons_zero, List.set_cons_succ]
              refine' wpAnyH_take (i := 12) (oi := ⟨some 45, .move (.tmp 0), 27, "ref.go:41", #[⟨11, .guard⟩], some (11, false)⟩) (v := _) rfl (by kernel_rfl) (by kernel_rfl) (by kernel_rfl) (fun _ _ _ h => h) (Or.inl ⟨by rfl, ?hy109⟩) (by assumption) ?rest109
              case hy109 => (intro w hSw; (try dsimp only at hSw); go_simp; try with_reducible rfl)
              try simp only [Act.put, List.setIfInBounds_toArray, List.set_cons_zero, List.set_cons_succ]
              refine' wpAnyH_take (i := 13) (oi := ⟨some 46, .move (.tmp 4), 3, "ref.go:41", #[⟨11, .guard⟩], some (11, false)⟩) (v := _) rfl (by kernel_rfl) (by kernel_rfl) (by kernel_rfl) (fun _ _ _ h => h) (Or.inl ⟨by rfl, ?hy110⟩) (by assumption) ?rest110
              case hy110 => (intro w hSw; (try dsimp only at hSw); go_simp; try with_reducible rfl)
              try simp only [Act.put, List.setIfInBounds_toArray, List.set_cons_zero, List.set_cons_succ]
              refine' wpAnyH_take (i := 14) (oi := ⟨some 47, .indexAddr 27 (.tmp 45) (.tmp 46), 0, "ref.go:41", #[⟨12, .data⟩, ⟨13, .data⟩, ⟨11, .guard⟩], some (11, false)⟩) (v := _) rfl (by kernel_rfl) (by kernel_rfl) (by kernel_rfl) (fun _ _ _ h => h) (Or.inl ⟨by rfl, ?hy111⟩) (by assumption) ?rest111
              case hy111 => (intro w hSw; (try dsimp only at hSw); go_simp; try with_reducible rfl)
              try simp only [Act.put, List.setIfInBounds_toArray, List.set_cons_zero, List.set_cons_succ]
              refine' wpAnyH_take (i := 15) (oi := ⟨some 48, .fieldAddr 41 (.tmp 47) 4, 0, "ref.go:41", #[⟨14, .data⟩, ⟨11, .guard⟩], some (11, false)⟩) (v := _) rfl (by kernel_rfl) (by kernel_rfl) (by kernel_rfl) (fun _ _ _ h => h) (Or.inl ⟨by rfl, ?hy112⟩) (by assumption) ?rest112
              case hy112 => (intro w hSw; (try dsimp only at hSw); go_simp; try with_reducible rfl)
              try simp only [Act.put, List.setIfInBounds_toArray, List.set_cons_zero, List.set_cons_succ]
              refine' wpAnyH_take (i := 16) (oi := ⟨some 49, .load 3 (.tmp 48), 3, "ref.go:41", #[⟨15, .data⟩, ⟨11, .guard⟩], some (11, false)⟩) (v := _) rfl (by kernel_rfl) (by kernel_rfl) (by kernel_rfl) (fun _ _ _ h => h) (Or.inl ⟨by rfl, ?hy113⟩) (by assumption) ?rest113
              case hy113 => (intro w hSw; (try dsimp only at hSw); go_simp; try with_reducible rfl)
              try simp only [Act.put, List.setIfInBounds_toArray, List.set_cons_zero, List.set_cons_succ]
              refine' wpAnyH_take (i := 17) (oi := ⟨some 50, .binOp .neq 3 (.tmp 49) (.const (.int .i64 0)) 3, 4, "ref.go:41", #[⟨16, .data⟩, ⟨11, .guard⟩], some (11, false)⟩) (v := .bool true) rfl (by kernel_rfl) (by kernel_rfl) (by kernel_rfl) (fun _ _ _ h => h) (Or.inl ⟨by rfl, ?hy114⟩) (by assumption) ?rest114
              case hy114 => (intro w hSw; (try dsimp only at hSw); go_simp; skip)
              try simp only [Act.put, List.setIfInBounds_toArray, List.set_cons_zero, List.set_cons_succ]
              refine' wpAnyH_take (i := 18) (oi := ⟨some 51, .move (.tmp 50), 4, "ref.go:41", #[⟨17, .data⟩, ⟨11, .chain⟩, ⟨11, .guard⟩], some (11, false)⟩) (v := _) rfl (by kernel_rfl) (by kernel_rfl) (by kernel_rfl) (fun _ _ _ h => h) (Or.inl ⟨by rfl, ?hy115⟩) (by assumption) ?rest115
              case hy115 => (intro w hSw; (try dsimp only at hSw); go_simp; try with_reducible rfl)
              try simp only [Act.put, List.setIfInBounds_toArray, List.set_cons_zero, List.set_cons_succ]
              refine' wpAnyH_take (i := 19) (oi := ⟨some 52, .move (.tmp 0), 27, "ref.go:41", #[⟨18, .guard⟩], some (18, true)⟩) (v := _) rfl (by kernel_rfl) (by kernel_rfl) (by kernel_rfl) (fun _ _ _ h => h) (Or.inl ⟨by rfl, ?hy116⟩) (by assumption) ?rest116
              case hy116 => (intro w hSw; (try dsimp only at hSw); go_simp; try with_reducible rfl)
              try simp only [Act.put, List.setIfInBounds_toArray, List.set_cons_zero, List.set_cons_succ]
              refine' wpAnyH_take (i := 20) (oi := ⟨some 53, .move (.tmp 3), 3, "ref.go:41", #[⟨18, .guard⟩], some (18, true)⟩) (v := _) rfl (by kernel_rfl) (by kernel_rfl) (by kernel_rfl) (fun _ _ _ h => h) (Or.inl ⟨by rfl, ?hy117⟩) (by assumption) ?rest117
              case hy117 => (intro w hSw; (try dsimp only at hSw); go_simp; try with_reducible rfl)
              try simp only [Act.put, List.setIfInBounds_toArray, List.set_cons_zero, List.set_cons_succ]
              refine' wpAnyH_take (i := 21) (oi := ⟨some 54, .indexAddr 27 (.tmp 52) (.tmp 53), 0, "ref.go:41", #[⟨19, .data⟩, ⟨20, .data⟩, ⟨18, .guard⟩], some (18, true)⟩) (v := _) rfl (by kernel_rfl) (by kernel_rfl) (by kernel_rfl) (fun _ _ _ h => h) (Or.inl ⟨by rfl, ?hy118⟩) (by assumption) ?rest118
              case hy118 => (intro w hSw; (try dsimp only at hSw); go_simp; try with_reducible rfl)
              try simp only [Act.put, List.setIfInBounds_toArray, List.set_cons_zero, List.set_cons_succ]
              refine' wpAnyH_take (i := 22) (oi := ⟨some 55, .fieldAddr 41 (.tmp 54) 3, 0, "ref.go:41", #[⟨21, .data⟩, ⟨18, .guard⟩], some (18, true)⟩) (v := _) rfl (by kernel_rfl) (by kernel_rfl) (by kernel_rfl) (fun _ _ _ h => h) (Or.inl ⟨by rfl, ?hy119⟩) (by assumption) ?rest119
              case hy119 => (intro w hSw; (try dsimp only at hSw); go_simp; try with_reducible rfl)
              try simp only [Act.put, List.setIfInBounds_toArray, List.set_cons_zero, List.set_cons_succ]
              refine' wpAnyH_take (i := 23) (oi := ⟨some 56, .load 3 (.tmp 55), 3, "ref.go:41", #[⟨22, .data⟩, ⟨18, .guard⟩], some (18, true)⟩) (v := _) rfl (by kernel_rfl) (by kernel_rfl) (by kernel_rfl) (fun _ _ _ h => h) (Or.inl ⟨by rfl, ?hy120⟩) (by assumption) ?rest120
              case hy120 => (intro w hSw; (try dsimp only at hSw); go_simp; try with_reducible rfl)
              try simp only [Act.put, List.setIfInBounds_toArray, List.set_cons_zero, List.set_cons_succ]
              refine' wpAnyH_take (i := 24) (oi := ⟨some 57, .move (.tmp 0), 27, "ref.go:41", #[⟨18, .guard⟩], some (18, true)⟩) (v := _) rfl (by kernel_rfl) (by kernel_rfl) (by kernel_rfl) (fun _ _ _ h => h) (Or.inl ⟨by rfl, ?hy121⟩) (by assumption) ?rest121
              case hy121 => (intro w hSw; (try dsimp only at hSw); go_simp; try with_reducible rfl)
              try simp only [Act.put, List.setIfInBounds_toArray, List.set_cons_zero, List.set_cons_succ]
              refine' wpAnyH_take (i := 25) (oi := ⟨some 58, .move (.tmp 4), 3, "ref.go:41", #[⟨18, .guard⟩], some (18, true)⟩) (v := _) rfl (by kernel_rfl) (by kernel_rfl) (by kernel_rfl) (fun _ _ _ h => h) (Or.inl ⟨by rfl, ?hy122⟩) (by assumption) ?rest122
              case hy122 => (intro w hSw; (try dsimp only at hSw); go_simp; try with_reducible rfl)
              try simp only [Act.put, List.setIfInBounds_toArray, List.set_cons_zero, List.set_cons_succ]
              refine' wpAnyH_take (i := 26) (oi := ⟨some 59, .indexAddr 27 (.tmp 57) (.tmp 58), 0, "ref.go:41", #[⟨24, .data⟩, ⟨25, .data⟩, ⟨18, .guard⟩], some (18, true)⟩) (v := _) rfl (by kernel_rfl) (by kernel_rfl) (by kernel_rfl) (fun _ _ _ h => h) (Or.inl ⟨by rfl, ?hy123⟩) (by assumption) ?rest123
              case hy123 => (intro w hSw; (try dsimp only at hSw); go_simp; try with_reducible rfl)
              try simp only [Act.put, List.setIfInBounds_toArray, List.set_cons_zero, List.set_cons_succ]
              refine' wpAnyH_take (i := 27) (oi := ⟨some 60, .fieldAddr 41 (.tmp 59) 4, 0, "ref.go:41", #[⟨26, .data⟩, ⟨18, .guard⟩], some (18, true)⟩) (v := _) rfl (by kernel_rfl) (by kernel_rfl) (by kernel_rfl) (fun _ _ _ h => h) (Or.inl ⟨by rfl, ?hy124⟩) (by assumption) ?rest124
              case hy124 => (intro w hSw; (try dsimp only at hSw); go_simp; try with_reducible rfl)
              try simp only [Act.put, List.setIfInBounds_toArray, List.set_cons_zero, List.set_cons_succ]
              refine' wpAnyH_take (i := 28) (oi := ⟨some 61, .load 3 (.tmp 60), 3, "ref.go:41", #[⟨27, .data⟩, ⟨18, .guard⟩], some (18, true)⟩) (v := _) rfl (by kernel_rfl) (by kernel_rfl) (by kernel_rfl) (fun _ _ _ h => h) (Or.inl ⟨by rfl, ?hy125⟩) (by assumption) ?rest125
              case hy125 => (intro w hSw; (try dsimp only at hSw); go_simp; try with_reducible rfl)
              try simp only [Act.put, List.setIfInBounds_toArray, List.set_cons_zero, List.set_cons_succ]
              refine' wpAnyH_take (i := 29) (oi := ⟨some 62, .binOp .leq 3 (.tmp 56) (.tmp 61) 3, 4, "ref.go:41", #[⟨23, .data⟩, ⟨28, .data⟩, ⟨18, .guard⟩], some (18, true)⟩) (v := _) rfl (by kernel_rfl) (by kernel_rfl) (by kernel_rfl) (fun _ _ _ h => h) (Or.inl ⟨by rfl, ?hy126⟩) (by assumption) ?rest126
              case hy126 => (intro w hSw; (try dsimp only at hSw); go_simp; try with_reducible rfl)
              try simp only [Act.put, List.setIfInBounds_toArray, List.set_cons_zero, List.set_cons_succ]
              refine' wpAnyH_take (i := 30) (oi := ⟨some 63, .pick (.tmp 51) (.tmp 62) (.const (.bool false)), 4, "ref.go:41", #[⟨18, .data⟩, ⟨29, .data⟩, ⟨11, .guard⟩], some (11, false)⟩) (v := _) rfl (by kernel_rfl) (by kernel_rfl) (by kernel_rfl) (fun _ _ _ h => h) (Or.inl ⟨by rfl, ?hy127⟩) (by assumption) ?rest127
              case hy127 => (intro w hSw; (try dsimp only at hSw); go_simp; try with_reducible rfl)
              try simp only [Act.put, List.setIfInBounds_toArray, List.set_cons_zero, List.set_cons_succ]
              refine' wpAnyH_take (i := 31) (oi := ⟨some 64, .pick (.tmp 44) (.const (.bool true)) (.tmp 63), 4, "ref.go:41", #[⟨11, .data⟩, ⟨30, .data⟩], none⟩) (v := _) rfl (by kernel_rfl) (by kernel_rfl) (by kernel_rfl) (fun _ _ _ h => h) (Or.inl ⟨by rfl, ?hy128⟩) (by assumption) ?rest128
              case hy128 => (intro w hSw; (try dsimp only at hSw); go_simp; try with_reducible rfl)
              try simp only [Act.put, List.setIfInBounds_toArray, List.set_cons_zero, List.set_cons_succ]
              refine wpAnyH_done (by kernel_rfl) ?_ _
              go_wp2
              go_roundw
              case rel => exact ⟨k + 1, by omega, by go_num, Lib.hid (fun j hj z hz => by
                rcases Nat.lt_succ_iff_lt_or_eq.1 hj with h | h
                · exact HP.out j h z hz
                · subst h
                  rw [HY.out] at hz
                  injection hz with hz
                  subst hz
                  exact HPP.out), Lib.hid (by first | exact below_dn (below_dn HB2.out _) _ | exact below_dn HB2.out _)⟩
              case measure => simp [intOf]; omega
          · obtain rfl : i = k := by omega
            go_wp2
            go_roundw
            case rel => exact ⟨i + 1, by omega, by go_num, Lib.hid (fun j hj z hz => by
              rcases Nat.lt_succ_iff_lt_or_eq.1 hj with h | h
              · exact HO.out j h z hz
              · subst h
                rw [HX.out] at hz
                injection hz with hz
                subst hz
                exact ⟨H1.out, HP.out⟩), HB2⟩
            case measure => simp [intOf]; omega
    · obtain rfl : i = n := by omega
      have HF := Lib.hid (okto_all HN.out HO.out)
      go_wp2
      go_ret
      exact ⟨by rw [HF.out]; rfl, HB.out⟩

#print axioms rone19_any
#print axioms rright19_any
end Go.Proofs.YtikjokhpombjjaaDoor
