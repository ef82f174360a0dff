/-
  Layer 7 (litmus): count, of lists that lie in memory; the programs with fences, made in memory (no program in the second part).
  Conditions: those that each theorem states.
-/
import Derived.Test.YtgljgpllooehkaaLit33
namespace Go.Proofs.Ytgljgpllooehkaa
open Go.ChangeShapes Go.WideShapes Go.ChangeAt Go.RowKit

/-- What count answers. -/
def CountI (p : List (List Opn)) (w : World) (e : Ending) (w' : World) : Prop := ∃ z : Nat, e = .returned (.int .i64 (z : Int)) ∧ w = w' ∧ (z ≤ 100 → lenS p = z) ∧ (100 < z → 100 < lenS p)

theorem lenS_take (p : List (List Opn)) (k : Nat) : lenS (p.take k) ≤ lenS p := by
  have e : lenS p = lenS (p.take k) + lenS (p.drop k) := by
    unfold lenS
    rw [← List.sum_append, ← List.map_append, List.take_append_drop]
  omega

theorem len_lenS {p : List (List Opn)} {l : List Opn} (h : l ∈ p) : l.length ≤ lenS p := by
  induction p with
  | nil => simp at h
  | cons x p ih =>
    have e : lenS (x :: p) = x.length + lenS p := by simp [lenS]
    rcases List.mem_cons.1 h with rfl | h
    · omega
    · have := ih h; omega

set_option maxRecDepth 100000 in
set_option maxHeartbeats 1000000 in
theorem count_sized (v : Value) (p : List (List Opn)) (w : World) (hp : Prg w v p) (hm : p.length ≤ 1000) (hs : ∀ l ∈ p, l.length ≤ 4398046511104) : Calls Try.prog 9 #[v] w (CountI p w) := by
  have HP := Lib.hid hp
  have HS := Lib.hid hs
  obtain ⟨A, cc, rfl, hA⟩ := hp
  clear hA hs
  obtain ⟨m, hme⟩ : ∃ m, p.length = m := ⟨_, rfl⟩
  rw [hme] at hm HP ⊢
  have HM := Lib.hid hme
  clear hme
  go_enter Try.func9, Try.ntmps9
  go_wp2
  go_loop [3, 8] (fun n idx => ∃ (k z : Nat), k ≤ m ∧ idx = .int .i64 k ∧ n = .int .i64 (z : Int) ∧ z ≤ 100 ∧ Hid (lenS (p.take k) = z)) (fun _ idx => m - (intOf idx).toNat)
  case atStart => exact ⟨0, 0, Nat.zero_le _, rfl, rfl, by omega, Lib.hid rfl⟩
  case round =>
    obtain ⟨k, z, hk, rfl, rfl, hz, HZ⟩ := hrel
    by_cases hlt : k < m
    · obtain ⟨l, hl⟩ : ∃ l, p[k]? = some l := ⟨_, List.getElem?_eq_getElem (by rw [HM.out]; exact hlt)⟩
      obtain ⟨ad, cv, A', c', hv', q1, hrec⟩ := HP.out.at_ hl
      rw [HM.out] at hv'
      injection hv' with eA _ eC
      subst eA eC
      have hn1 := HS.out l (List.mem_of_getElem? hl)
      have hmore := lenS_more hl
      rw [HZ.out] at hmore
      clear hl hrec
      obtain ⟨n, hn⟩ : ∃ n, l.length = n := ⟨_, rfl⟩
      rw [hn] at q1 hn1 hmore
      have HMO := Lib.hid hmore
      clear hn hmore
      by_cases h100 : 100 < z + n
      · go_wp2
        go_ret
        exact ⟨z + n, by simp, rfl, fun h => by omega, fun _ => by have := lenS_take p (k + 1); have := HMO.out; omega⟩
      · go_wp2
        go_round
        case rel => exact ⟨k + 1, z + n, by omega, by go_num, by go_num, by omega, HMO⟩
        case measure => simp [intOf]; omega
    · obtain rfl : k = m := by omega
      go_wp2
      go_ret
      refine ⟨z, rfl, rfl, fun _ => ?_, fun h => by omega⟩
      have := HZ.out
      rwa [List.take_of_length_le (by rw [HM.out]; exact Nat.le_refl _)] at this

theorem fenceL_more {l : List Opn} {j : Nat} {o : Opn} (h : l[j]? = some o) : fenceL (l.take (j + 1)) = fenceL (l.take j) ++ [o, fnc] := by
  rw [List.take_add_one, h]
  simp [fenceL]

theorem opsL_two (o : Opn) : opsL [o, fnc] = [o.kind, o.addr, o.word, o.reg, 3, 0, 0, 0] := rfl

theorem fenceP_more {p : List (List Opn)} {k : Nat} {l : List Opn} (h : p[k]? = some l) : fenceP (p.take (k + 1)) = fenceP (p.take k) ++ [fenceL l] := by
  rw [List.take_add_one, h]
  simp [fenceP]

theorem prg_small {w : World} {v : Value} {p : List (List Opn)} (h : Prg w v p) : ∀ l ∈ p, Small l := by
  intro l hl o ho z hz
  obtain ⟨k, hk⟩ := List.getElem?_of_mem hl
  obtain ⟨ad, c, A, c', _, _, hrec⟩ := h.at_ hk
  obtain ⟨A2, c2, _, hr⟩ := hrec
  obtain ⟨j, hj⟩ := List.getElem?_of_mem ho
  obtain ⟨ad2, _, _, hall⟩ := hr (by have := (List.getElem?_eq_some_iff.1 hj).1; simp; omega)
  exact (hall j (opL o) (by rw [List.getElem?_map, hj]; rfl)).2.1 z hz

theorem fence_small {p : List (List Opn)} (h : ∀ l ∈ p, Small l) : ∀ l ∈ fenceP p, Small l := by
  intro l hl o ho z hz
  obtain ⟨l0, hl0, rfl⟩ := List.mem_map.1 hl
  obtain ⟨o0, ho0, hm⟩ := List.mem_flatMap.1 ho
  simp only [List.mem_cons, List.not_mem_nil, or_false] at hm
  rcases hm with rfl | rfl
  · exact h l0 hl0 o ho0 z hz
  · simp [opL, fnc] at hz; omega

theorem fence_right {p : List (List Opn)} {buf : Int} (h2 : ∀ l ∈ p, l.length ≤ 2) (h3 : lenS p ≤ 3) : RightS (fenceP p) buf ↔ RightS p buf := by
  have hl : (fenceP p).length = p.length := by simp [fenceP]
  constructor
  · intro h
    refine ⟨by rw [← hl]; exact h.lo, by rw [← hl]; exact h.hi, h.b0, h.b4, fun l hm => ⟨by have := h2 l hm; omega, fun o ho => ?_⟩, by show lenS p ≤ 6; omega⟩
    exact (h.each (fenceL l) (List.mem_map.2 ⟨l, hm, rfl⟩)).2 o (List.mem_flatMap.2 ⟨o, ho, by simp⟩)
  · intro h
    refine ⟨by rw [hl]; exact h.lo, by rw [hl]; exact h.hi, h.b0, h.b4, fun l hm => ?_, ?_⟩
    · obtain ⟨l0, hl0, rfl⟩ := List.mem_map.1 hm
      refine ⟨by rw [fenceL_len]; have := h2 l0 hl0; omega, fun o ho => ?_⟩
      obtain ⟨o0, ho0, hm⟩ := List.mem_flatMap.1 ho
      simp only [List.mem_cons, List.not_mem_nil, or_false] at hm
      rcases hm with rfl | rfl
      · exact (h.each l0 hl0).2 o ho0
      · unfold okOp fnc; simp
    · have : ∀ q : List (List Opn), ((fenceP q).map (·.length)).sum = 2 * lenS q := by
        intro q
        induction q with
        | nil => rfl
        | cons x q ih =>
          have e : fenceP (x :: q) = fenceL x :: fenceP q := rfl
          have e2 : lenS (x :: q) = x.length + lenS q := by simp [lenS]
          rw [e, List.map_cons, List.sum_cons, ih, e2, fenceL_len]; omega
      rw [this]; omega

/-- The fenced programs have the outcomes of capacity 0. -/
theorem outs_fenced {p : List (List Opn)} {N : Nat} {L M : List (List Int)} (hR : RightS p (N : Int)) (hF : RightS (fenceP p) (N : Int)) (h : Outs (fenceP p) N L) (k : Outs p 0 M) : L = M :=
  Outs.eq (p := p) (N := 0) ⟨h.rising, fun x => (h.iff x).trans (out_fenced hR hF x)⟩ k

theorem OwnP.push {w w' : World} {base : Nat} {t e : TypeId} {v v' u : Value} {vs : List Value} {p : List (List Opn)} {l : List Opn} (hte : t ≠ e) (h : OwnP w base t e v vs p) (hu : w.ownsRow base e 4 u l.length (ints (opsL l))) (hs : w'.ownsRow base t 1 v' (vs.length + 1) (vs ++ [u])) (hg : w.grownBy w' v.ownBlock) : OwnP w' base t e v' (vs ++ [u]) (p ++ [l]) where
  own := by rw [List.length_append, List.length_singleton]; exact hs
  len := by simp [h.len]
  each i x y hx hy := by
    have keep : ∀ {x : Value} {y : List Opn}, w.ownsRow base e 4 x y.length (ints (opsL y)) → w'.ownsRow base e 4 x y.length (ints (opsL y)) := fun hr =>
      own_grown hr hg (fun k hk e => own_types hr h.own (Ne.symm hte) k hk e)
    by_cases hi : i < vs.length
    · rw [List.getElem?_append_left hi] at hx
      rw [List.getElem?_append_left (by rw [← h.len]; exact hi)] at hy
      exact keep (h.each i x y hx hy)
    · rw [List.getElem?_append_right (by omega)] at hx
      rw [List.getElem?_append_right (by rw [← h.len]; omega), ← h.len] at hy
      have : i - vs.length = 0 := by
        cases hd : i - vs.length with
        | zero => rfl
        | succ n => rw [hd] at hx; simp at hx
      rw [this] at hx hy
      simp at hx hy
      subst hx hy
      exact keep hu

theorem own_rebase {w : World} {base base' : Nat} {e : TypeId} {size n : Nat} {v : Value} {xs : List Value} (h : w.ownsRow base e size v n xs) (hb : base' ≤ base) : w.ownsRow base' e size v n xs :=
  ⟨h.1, h.2.imp id (fun ⟨g, cap, cur, e, hg, r⟩ => ⟨g, cap, cur, e, Nat.le_trans hb hg, r⟩)⟩

#print axioms count_sized
#print axioms outs_fenced
end Go.Proofs.Ytgljgpllooehkaa
