/-
  Layer 7 (litmus): slices.ContainsFunc over operations, Right.
  Conditions: those that each theorem states.
-/
import Derived.Test.YtgljgpllooehkaaLit14
namespace Go.Proofs.Ytgljgpllooehkaa
open Go.ChangeShapes Go.WideShapes Go.ChangeAt Go.RowKit

theorem first_bad {l : List Opn} (h : l.all okB = false) : ∃ i, i < l.length ∧ (∀ k o, l[k]? = some o → k < i → okB o = true) ∧ ∀ o, l[i]? = some o → okB o = false := by
  induction l with
  | nil => simp at h
  | cons o l ih =>
    by_cases ho : okB o = true
    · have h' : l.all okB = false := by simpa [ho] using h
      obtain ⟨i, hi, h1, h2⟩ := ih h'
      refine ⟨i + 1, by simp; omega, ?_, ?_⟩
      · intro k x hk hlt
        match k, hk with
        | 0, hk => obtain rfl : o = x := by simpa using hk
                   exact ho
        | k + 1, hk => exact h1 k x (by simpa using hk) (by omega)
      · intro x hx
        exact h2 x (by simpa using hx)
    · refine ⟨0, by simp, fun k x _ hlt => by omega, fun x hx => ?_⟩
      obtain rfl : o = x := by simpa using hx
      simpa using ho

set_option maxRecDepth 100000 in
set_option maxHeartbeats 400000 in
theorem contains_any (v : Value) (l : List Opn) (w : World) (hr : Recs w 4 v (l.map opL)) (hl : l.length ≤ 1000) :
    Calls Try.prog 26 #[v, .func (.func 27) #[] #[]] w fun e w' => e = .returned (.bool (!l.all okB)) ∧ Below w.heap.size w w' := by
  cases h : l.all okB with
  | true =>
    have IX := Lib.hid (index_yes v l w hr hl (fun o ho => List.all_eq_true.1 h o ho))
    clear h hr
    go_enter Try.func26, Try.ntmps26
    go_wp2_with (go_at_call 40; refine IX.out.mono ?_; rintro e w1 ⟨rfl, hb1⟩)
    go_ret
    exact ⟨rfl, hb1⟩
  | false =>
    obtain ⟨i, hi, h1, h2⟩ := first_bad h
    have IX := Lib.hid (index_no v l w hr hl i hi h1 h2)
    have i0 : (0 : Int) ≤ (i : Int) := by omega
    clear h hr h1 h2
    go_enter Try.func26, Try.ntmps26
    go_wp2_with (go_at_call 40; refine IX.out.mono ?_; rintro e w1 ⟨rfl, hb1⟩)
    go_ret
    exact ⟨by simp, hb1⟩

def lenS (p : List (List Opn)) : Nat := (p.map (·.length)).sum
def rightB (p : List (List Opn)) (buf : Int) : Bool := decide (1 ≤ p.length ∧ p.length ≤ 3 ∧ 0 ≤ buf ∧ buf ≤ 4) && p.all (fun l => decide (l.length ≤ 4) && l.all okB) && decide (lenS p ≤ 6)

theorem rightB_iff (p : List (List Opn)) (buf : Int) : rightB p buf = true ↔ RightS p buf := by
  unfold rightB
  simp only [Bool.and_eq_true, decide_eq_true_eq, List.all_eq_true]
  constructor
  · rintro ⟨⟨⟨h1, h2, h3, h4⟩, h5⟩, h6⟩
    exact ⟨h1, h2, h3, h4, fun l hl => ⟨(h5 l hl).1, fun o ho => (okB_iff o).1 ((h5 l hl).2 o ho)⟩, h6⟩
  · rintro ⟨h1, h2, h3, h4, h5, h6⟩
    exact ⟨⟨⟨h1, h2, h3, h4⟩, fun l hl => ⟨(h5 l hl).1, fun o ho => (okB_iff o).2 ((h5 l hl).2 o ho)⟩⟩, h6⟩

theorem lenS_more {p : List (List Opn)} {k : Nat} {l : List Opn} (h : p[k]? = some l) : lenS (p.take (k + 1)) = lenS (p.take k) + l.length := by
  unfold lenS
  rw [List.take_add_one, h]
  simp

theorem lenS_small {q : List (List Opn)} (h : ∀ l ∈ q, l.length ≤ 4) : lenS q ≤ 4 * q.length := by
  induction q with
  | nil => simp [lenS]
  | cons l q ih =>
    have := ih (fun x hx => h x (by simp [hx]))
    have := h l (by simp)
    simp only [lenS, List.map_cons, List.sum_cons, List.length_cons] at *
    omega

set_option maxRecDepth 100000 in
set_option maxHeartbeats 2000000 in
theorem right_any (buf : Int) (v : Value) (p : List (List Opn)) (w : World) (hp : Prg w v p) (hm : p.length ≤ 1000000) :
    Calls Try.prog 14 #[v, .int .i64 buf] w fun e w' => e = .returned (.bool (rightB p buf)) ∧ Below w.heap.size w w' := by
  have HP := Lib.hid hp
  obtain ⟨A, cc, rfl, hA⟩ := hp
  clear hA
  obtain ⟨m, hme⟩ : ∃ m, p.length = m := ⟨_, rfl⟩
  have rb : rightB p buf = (decide (1 ≤ m ∧ m ≤ 3 ∧ 0 ≤ buf ∧ buf ≤ 4) && p.all (fun l => decide (l.length ≤ 4) && l.all okB) && decide (lenS p ≤ 6)) := by unfold rightB; rw [hme]
  rw [hme] at hm HP ⊢
  have HM := Lib.hid hme
  have RB := Lib.hid rb
  clear hme rb
  by_cases hg : 1 ≤ m ∧ m ≤ 3 ∧ 0 ≤ buf ∧ buf ≤ 4
  · obtain ⟨g1, g2, g3, g4⟩ := hg
    have rb : rightB p buf = (p.all (fun l => decide (l.length ≤ 4) && l.all okB) && decide (lenS p ≤ 6)) := by rw [RB.out]; simp [g1, g2, g3, g4]
    clear RB
    have RB := Lib.hid rb
    clear rb
    have t1 : decide (m < 1) = false := by simp; omega
    have t1' : decide (m = 0) = false := by simp; omega
    have t2 : decide (3 < m) = false := by simp; omega
    have t3 : decide (buf < 0) = false := by simp; omega
    have t4 : decide (4 < buf) = false := by simp; omega
    go_enter Try.func14, Try.ntmps14
    go_wp2
    go_loopw [5, 26] (fun all idx wr => ∃ (k s : Nat), k ≤ m ∧ idx = .int .i64 k ∧ all = .int .i64 (s : Int) ∧ s ≤ 4 * k ∧ Hid (lenS (p.take k) = s ∧ ∀ l ∈ p.take k, l.length ≤ 4 ∧ l.all okB = true) ∧ Below w.heap.size w wr) (fun _ idx _ => m - (intOf idx).toNat)
    case atStart => exact ⟨0, 0, Nat.zero_le _, rfl, rfl, Nat.zero_le _, Lib.hid ⟨rfl, fun l hl => by simp at hl⟩, Below.refl _ _⟩
    case round =>
      obtain ⟨k, s, hk, rfl, rfl, hs4, HK, hb⟩ := hrel
      by_cases hlt : k < m
      · obtain ⟨l, hl⟩ : ∃ l, p[k]? = some l := ⟨_, List.getElem?_eq_getElem (by rw [HM.out]; exact hlt)⟩
        obtain ⟨ad, cv, A', c', hv', q1, hrec⟩ := (HP.out.below hb).at_ hl
        rw [HM.out] at hv'
        injection hv' with eA _ eC
        subst eA eC
        have HL := Lib.hid hl
        have HB := Lib.hid hb
        have lm := lenS_more hl
        have CO := Lib.hid (contains_any _ l wr hrec)
        have bad : (decide (l.length ≤ 4) && l.all okB) = false → rightB p buf = false := fun hbad => by
          rw [RB.out]
          have : p.all (fun l => decide (l.length ≤ 4) && l.all okB) = false := by
            rw [List.all_eq_false]
            exact ⟨l, List.mem_of_getElem? hl, by rw [hbad]; simp⟩
          rw [this]; rfl
        obtain ⟨n, hn⟩ : ∃ n, l.length = n := ⟨_, rfl⟩
        rw [hn] at q1 CO bad lm
        have LM := Lib.hid lm
        have BAD := Lib.hid bad
        have HN := Lib.hid hn
        clear hl hrec lm bad hn hb
        by_cases h4 : n ≤ 4
        · have t5 : decide (4 < n) = false := by simp; omega
          have CO := Lib.hid (CO.out (by omega))
          cases hall : l.all okB with
          | true =>
            rw [hall] at CO
            have HALL := Lib.hid hall
            clear hall
            go_wp2_with (go_at_call 26; refine CO.out.mono ?_; rintro e w1 ⟨rfl, hb1⟩)
            go_roundw
            case rel =>
              refine ⟨k + 1, s + n, by omega, by go_num, by go_num, by omega, Lib.hid ⟨by rw [LM.out, HK.out.1], fun x hx => ?_⟩, HB.out.trans (hb1.mono HB.out.size)⟩
              rcases take_succ_mem HL.out hx with hx | rfl
              · exact HK.out.2 x hx
              · exact ⟨by rw [HN.out]; exact h4, HALL.out⟩
            case measure => simp [intOf]; omega
          | false =>
            rw [hall] at CO BAD
            have RF := Lib.hid (BAD.out (by simp))
            clear hall
            go_wp2_with (go_at_call 26; refine CO.out.mono ?_; rintro e w1 ⟨rfl, hb1⟩)
            go_ret
            exact ⟨by rw [RF.out]; rfl, HB.out.trans (hb1.mono HB.out.size)⟩
        · have t5 : decide (4 < n) = true := by simp; omega
          have RF := Lib.hid (BAD.out (by simp [h4]))
          go_wp2
          go_ret
          exact ⟨by rw [RF.out]; rfl, HB.out⟩
      · obtain rfl : k = m := by omega
        have hx : rightB p buf = decide (s ≤ 6) := by
          rw [RB.out]
          have h1 := HK.out
          rw [List.take_of_length_le (by rw [HM.out]; exact Nat.le_refl _)] at h1
          have : p.all (fun l => decide (l.length ≤ 4) && l.all okB) = true := by
            rw [List.all_eq_true]
            intro l hl
            have := h1.2 l hl
            simp [this.1, this.2]
          rw [this, h1.1]; rfl
        have HX := Lib.hid hx
        clear hx
        go_wp2
        go_ret
        refine ⟨?_, hb⟩
        rw [HX.out]
        simp
        omega
  · have rf : rightB p buf = false := by rw [RB.out]; simp only [decide_eq_false hg, Bool.false_and]
    have RF := Lib.hid rf
    clear rf
    by_cases c1 : m < 1
    · have t1 : decide (m < 1) = true := by simpa using c1
      have t1' : decide (m = 0) = true := by simp; omega
      clear hg
      go_enter Try.func14, Try.ntmps14
      go_wp2
      go_ret
      exact ⟨by rw [RF.out]; rfl, Below.refl _ _⟩
    have t1 : decide (m < 1) = false := by simpa using c1
    have t1' : decide (m = 0) = false := by simp; omega
    by_cases c2 : 3 < m
    · have t2 : decide (3 < m) = true := by simpa using c2
      clear hg
      go_enter Try.func14, Try.ntmps14
      go_wp2
      go_ret
      exact ⟨by rw [RF.out]; rfl, Below.refl _ _⟩
    have t2 : decide (3 < m) = false := by simpa using c2
    by_cases c3 : buf < 0
    · have t3 : decide (buf < 0) = true := by simpa using c3
      clear hg
      go_enter Try.func14, Try.ntmps14
      go_wp2
      go_ret
      exact ⟨by rw [RF.out]; rfl, Below.refl _ _⟩
    have t3 : decide (buf < 0) = false := by simpa using c3
    have c4 : 4 < buf := by omega
    have t4 : decide (4 < buf) = true := by simpa using c4
    clear hg
    go_enter Try.func14, Try.ntmps14
    go_wp2
    go_ret
    exact ⟨by rw [RF.out]; rfl, Below.refl _ _⟩

#print axioms right_any
end Go.Proofs.Ytgljgpllooehkaa
