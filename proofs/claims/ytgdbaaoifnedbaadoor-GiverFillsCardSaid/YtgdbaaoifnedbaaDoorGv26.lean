/-
  Layer 16 (giver): the calls of the law GiverFills, in numbers.
  Conditions: those that each theorem states.
-/
import Derived.Test.YtgdbaaoifnedbaaDoorGv22
namespace Go.Proofs.YtgdbaaoifnedbaaDoor
open Go.ChangeShapes Go.WideShapes Go.ChangeAt Go.RowKit

theorem roo16_st (G : Gv) (a : Nat) : roo16 { G with st := a } = roo16 G := by
  unfold roo16
  by_cases h : 0 < G.ret
  · simp [h]
  · cases hf : G.free with
    | nil => simp [h, takB16, fin16, hf]
    | cons d fs =>
      simp [h, takB16, takG16, wri16, hf]
      rfl

theorem upto16_drop {R k : Nat} (h : k < R) : (upto16 R).drop k = (k : Int) :: (upto16 R).drop (k + 1) := by
  rw [List.drop_eq_getElem_cons (by rw [upto16_len]; exact h)]
  simp [upto16]
theorem upto16_succ (k : Nat) : upto16 k ++ [(k : Int)] = upto16 (k + 1) := by simp [upto16, List.range_succ]
theorem upto16_erase {R k : Nat} (h : k < R) : ((upto16 R).drop k).erase (k : Int) = (upto16 R).drop (k + 1) := by rw [upto16_drop h, List.erase_cons_head]
theorem upto16_end (R : Nat) : (upto16 R).drop R = [] := List.drop_of_length_le (by rw [upto16_len]; exact Nat.le_refl _)

/-- The words and what follows them, from the first word on. -/
theorem rest16 {E : List Int} {s : Run16} {n : Nat} {G3 : Gv} {V K : List Int} (a4 : Rch16 E s n (wri16 { G3 with sto := 0 }) V K) (ho : Ok16 s.G) (h0 : s.G.st ≠ 0) (hld : G3.load.length ≤ 8) (hR : okRing (G3.R : Int)) (hk : G3.knows = true) (he : nth14 E G3.peer = G3.known) (hr : G3.res = 0) (hd : 0 ≤ tk16 G3 ∧ tk16 G3 < (G3.R : Int)) :
    ∃ V', Over16 E s 0 (idle16 { G3 with next := addW G3.next 1 }) V' (K ++ [G3.peer]) ∧ V'.length = V.length ∧ ∀ f, 1 ≤ f ∧ f ≤ 4 → f ≠ 3 → nth14 V' (ad16 G3 f 0 0) = nth14 V (ad16 G3 f 0 0) := by
  have hb := hR.bd
  obtain ⟨n5, V5, a5, hl5, hp5⟩ := a4.words hld G3.load.length 0 n V (by omega)
  have a6 := a5.send ho h0 rfl hk he hr
  have m1 := Int.emod_nonneg G3.next (show (G3.R : Int) ≠ 0 by omega)
  have m2 := Int.emod_lt_of_pos G3.next (show (0 : Int) < (G3.R : Int) by omega)
  have w5 : okWord (G3.R : Int) 5 (G3.next % (G3.R : Int)) 0 := .inr (.inl ⟨by omega, by omega, m1, m2, rfl⟩)
  have w7 : okWord (G3.R : Int) 7 (tk16 G3) 0 := .inr (.inl ⟨by omega, by omega, hd.1, hd.2, rfl⟩)
  have w3 : okWord (G3.R : Int) 3 0 0 := w_ok 3 (by omega)
  refine ⟨put14 (put14 (put14 V5 (ad16 G3 7 (tk16 G3) 0) ((G3.load.length : Int) % 65536)) (ad16 G3 5 (G3.next % (G3.R : Int)) 0) (tk16 G3 % 65536)) (ad16 G3 3 0 0) (addW G3.next 1), a6, by rw [put14_len, put14_len, put14_len, hl5], fun f hf1 hf3 => ?_⟩
  have wf : okWord (G3.R : Int) f 0 0 := w_ok f hf1
  rw [nth14_put, if_neg (fun h => ad16_ne hR wf w3 hf3 h.1), nth14_put, if_neg (fun h => ad16_ne hR wf w5 (by omega) h.1), nth14_put, if_neg (fun h => ad16_ne hR wf w7 (by omega) h.1)]
  exact hp5 _ (fun i hi => ad16_ne hR wf (.inr (.inr ⟨rfl, hd.1, hd.2, by omega, by omega⟩)) (by omega))

/-- A call that finds no room. -/
theorem full16_call {E : List Int} {s : Run16} (ho : Ok16 s.G) (h1 : s.G.st = 1) (hk : s.G.knows = true) (he : nth14 E s.G.peer = s.G.known) (hl : s.G.linked = true) (hu : nth14 s.V (ad16 s.G 4 0 0) = s.G.tail) (hf : s.G.free = []) : Over16 E s 5 (idle16 s.G) s.V s.K := by
  have h0 : s.G.st ≠ 0 := by omega
  have a1 := (Rch16.zero (E := E) s).ask h1 hk he
  rw [if_pos hl] at a1
  have a2 := a1.full rfl hu hf
  exact a2.over ho h0 rfl hk he (show (5 : Int) ≠ 0 by omega)

def fl16 (R k : Nat) : Gv := { li0 R with linked := decide (0 < k), free := (upto16 R).drop k, out := upto16 k, next := (k : Int) }
def fb16 (R m i : Nat) : Gv := { li0 R with linked := true, free := (upto16 m).drop i, out := (upto16 R).drop m ++ upto16 i, next := ((R + i : Nat) : Int), tail := (m : Int) }
def fh16 (R m j : Nat) (G : Gv) : Gv := { G with ret := ((m - j : Nat) : Int), out := (upto16 R).drop j, free := upto16 j, tail := (j : Int) }

section
variable {R m k i : Nat} {l V K : List Int}

theorem fl16_zero (R : Nat) : fl16 R 0 = li0 R := rfl

theorem back16 {E : List Int} {s : Run16} {n : Nat} {G : Gv} (hGR : G.R = R) (hmR : m ≤ R) (hR2 : R ≤ 64) (hw : ∀ j : Nat, j < m → nth14 V (ad16 G 6 (j : Int) 0) = (j : Int)) (h : Rch16 E s n (roo16 (fh16 R m 0 G)) V K) : ∀ j, j ≤ m → Rch16 E s (n + j) (roo16 (fh16 R m j G)) V K
  | 0, _ => h
  | j + 1, hj => by
    have a := back16 hGR hmR hR2 hw h j (by omega)
    have e0 : roo16 (fh16 R m j G) = { fh16 R m j G with st := 7 } := if_pos (show 0 < ((m - j : Nat) : Int) by omega)
    rw [e0] at a
    have em : (j : Int) % (R : Int) = (j : Int) := Int.emod_eq_of_lt (by omega) (by omega)
    have ht : tch16 { fh16 R m j G with st := 7 } = (1, ad16 G 6 (j : Int) 0, 0) := by
      have : tch16 { fh16 R m j G with st := 7 } = (1, ad16 G 6 ((j : Int) % (G.R : Int)) 0, 0) := by
        unfold tch16
        simp [fh16]
        rfl
      rw [this, hGR, em]
    have hx : (j : Int) ∈ (upto16 R).drop j := by rw [upto16_drop (by omega)]; exact List.mem_cons_self
    refine a.to ?_ ?_ ?_
    · have e1 : aN16 V E (tch16 { fh16 R m j G with st := 7 }) = (j : Int) := by
        rw [ht]
        simp only [aN16, dN14]
        exact hw j (by omega)
      rw [e1]
      have e2 : aft16 { fh16 R m j G with st := 7 } (j : Int) = (roo16 { regG16 { fh16 R m j G with st := 7 } (j : Int) with ret := ((m - j : Nat) : Int) - 1 }, none) := by
        unfold aft16
        simp [fh16, hx]
      rw [e2]
      have e3 : ({ regG16 { fh16 R m j G with st := 7 } (j : Int) with ret := ((m - j : Nat) : Int) - 1 } : Gv) = { fh16 R m (j + 1) G with st := 7 } := by
        have x1 : ((m - j : Nat) : Int) - 1 = ((m - (j + 1) : Nat) : Int) := by omega
        have x2 : addW (j : Int) 1 = ((j + 1 : Nat) : Int) := by unfold addW; omega
        show ({ G with st := 7, ret := ((m - j : Nat) : Int) - 1, out := ((upto16 R).drop j).erase (j : Int), free := upto16 j ++ [(j : Int)], tail := addW (j : Int) 1 } : Gv) = { G with st := 7, ret := ((m - (j + 1) : Nat) : Int), out := (upto16 R).drop (j + 1), free := upto16 (j + 1), tail := ((j + 1 : Nat) : Int) }
        rw [x1, x2, upto16_erase (by omega), upto16_succ]
      rw [e3, roo16_st]
    · rw [ht]; simp [aV16, dV14]
    · rw [ht]; simp [aK16, dK14]

theorem sendG16_ok {G : Gv} (hs : sendE16 G l = 0) : sendG16 G l = { G with st := 1, load := l, sto := 0, ret := 0, res := 0 } := by unfold sendG16; rw [if_pos hs]

/-- Message number k is sent. -/
theorem fl_call (h16 : R ≤ 16) (hk : k < R) (hs : sendE16 (li0 R) l = 0) (ho : Ok16 (fl16 R k)) (hV : V.length = 4 + 11 * R) (h2 : nth14 V 1 = 0) (h4 : nth14 V 3 = 0) :
    ∃ V', Over16 [0, 0, 0] ⟨sendG16 (fl16 R k) l, V, K, []⟩ 0 (fl16 R (k + 1)) V' (K ++ [1]) ∧ V'.length = 4 + 11 * R ∧ nth14 V' 1 = 0 ∧ nth14 V' 3 = 0 := by
  have hs1 : sendE16 (fl16 R k) l = 0 := by rw [sendE16_idle (G' := li0 R) rfl rfl]; exact hs
  have hG := sendG16_ok hs1
  have hoo := ok16_send ho l
  rw [hG] at hoo ⊢
  have a2 : ad16 { fl16 R k with st := 1, load := l, sto := 0, ret := 0, res := 0 } 2 0 0 = 1 := li_ad _ rfl 2 (by omega)
  have a4 : ad16 { fl16 R k with st := 1, load := l, sto := 0, ret := 0, res := 0 } 4 0 0 = 3 := li_ad _ rfl 4 (by omega)
  obtain ⟨V', h, hl, -, -, hp⟩ := ok16_call (E := [0, 0, 0]) (s := ⟨{ fl16 R k with st := 1, load := l, sto := 0, ret := 0, res := 0 }, V, K, []⟩) hoo rfl rfl rfl (.inr (by show nth14 V (ad16 _ 2 0 0) = _; rw [a2, h2]; rfl)) (by show nth14 V (ad16 _ 4 0 0) = _; rw [a4, h4]; rfl) (d := (k : Int)) (fs := (upto16 R).drop (k + 1)) (upto16_drop hk) rfl (by show (0 : Int) + 4 + 11 * (R : Int) ≤ (V.length : Int); omega)
  refine ⟨V', ?_, hl.trans hV, ?_, ?_⟩
  · have e : fl16 R (k + 1) = idle16 { fl16 R k with linked := true, free := (upto16 R).drop (k + 1), out := upto16 k ++ [(k : Int)], next := addW (k : Int) 1 } := by
      rw [upto16_succ, show addW (k : Int) 1 = ((k + 1 : Nat) : Int) by unfold addW; omega]
      unfold fl16
      rw [show decide (0 < k + 1) = true by simp]
      rfl
    rw [e]
    exact h
  · have := hp 2 (by omega) (by omega)
    exact (by rw [← a2]; exact this.trans (by show nth14 V (ad16 _ 2 0 0) = 0; rw [a2, h2]))
  · have := hp 4 (by omega) (by omega)
    exact (by rw [← a4]; exact this.trans (by show nth14 V (ad16 _ 4 0 0) = 0; rw [a4, h4]))

/-- Then there is no room. -/
theorem fl_full (hR : okRing (R : Int)) (hs : sendE16 (li0 R) l = 0) (ho : Ok16 (fl16 R R)) (h4 : nth14 V 3 = 0) :
    Over16 [0, 0, 0] ⟨sendG16 (fl16 R R) l, V, K, []⟩ 5 (fl16 R R) V K := by
  have hb := hR.bd
  have hs1 : sendE16 (fl16 R R) l = 0 := by rw [sendE16_idle (G' := li0 R) rfl rfl]; exact hs
  have hG := sendG16_ok hs1
  have hoo := ok16_send ho l
  rw [hG] at hoo ⊢
  have a4 : ad16 { fl16 R R with st := 1, load := l, sto := 0, ret := 0, res := 0 } 4 0 0 = 3 := li_ad _ rfl 4 (by omega)
  exact full16_call (E := [0, 0, 0]) (s := ⟨{ fl16 R R with st := 1, load := l, sto := 0, ret := 0, res := 0 }, V, K, []⟩) hoo rfl rfl rfl (by show decide (0 < R) = true; simp; omega) (by show nth14 V (ad16 _ 4 0 0) = _; rw [a4, h4]; rfl) (upto16_end R)

/-- The first call behind the return of m slots. -/
theorem fb_first (hR : okRing (R : Int)) (h16 : R ≤ 16) (hm : 1 ≤ m ∧ m ≤ R) (hs : sendE16 (li0 R) l = 0) (ho : Ok16 (fl16 R R)) (hV : V.length = 4 + 11 * R) (hu : nth14 V 3 = (m : Int)) (hw : ∀ j : Nat, j < m → nth14 V (atV13 0 (R : Int) 6 (j : Int) 0) = (j : Int)) :
    ∃ V', Over16 [0, 0, 0] ⟨sendG16 (fl16 R R) l, V, K, []⟩ 0 (fb16 R m 1) V' (K ++ [1]) ∧ V'.length = 4 + 11 * R ∧ nth14 V' 3 = (m : Int) := by
  have hb := hR.bd
  have hs1 : sendE16 (fl16 R R) l = 0 := by rw [sendE16_idle (G' := li0 R) rfl rfl]; exact hs
  have hG := sendG16_ok hs1
  have hoo := ok16_send ho l
  rw [hG] at hoo ⊢
  obtain ⟨S, hS⟩ : ∃ S : Gv, S = { fl16 R R with st := 1, load := l, sto := 0, ret := 0, res := 0 } := ⟨_, rfl⟩
  rw [← hS] at hoo ⊢
  have hlk : S.linked = true := by rw [hS]; show decide (0 < R) = true; simp; omega
  have a1 := (Rch16.zero (E := [0, 0, 0]) ⟨S, V, K, []⟩).ask (by rw [hS]) (by rw [hS]; rfl) (by rw [hS]; rfl)
  have e1 : (if S.linked then 6 else 5) = 6 := if_pos hlk
  have a1' : Rch16 [0, 0, 0] ⟨S, V, K, []⟩ 1 { S with st := 6 } V K := by
    have := a1
    rw [show (if (Run16.mk S V K []).G.linked = true then 6 else 5) = 6 from if_pos hlk] at this
    exact this
  have a4 : ad16 { S with st := 6 } 4 0 0 = 3 := li_ad _ (by rw [hS]; rfl) 4 (by omega)
  have hf : S.free = [] := by rw [hS]; exact upto16_end R
  have hout : S.out = upto16 R := by rw [hS]; rfl
  have htl : S.tail = 0 := by rw [hS]; rfl
  have hSR : S.R = R := by rw [hS]; rfl
  have hx : nth14 V (ad16 { S with st := 6 } 4 0 0) = (m : Int) := by rw [a4, hu]
  have a2 : Rch16 [0, 0, 0] ⟨S, V, K, []⟩ 2 (roo16 (fh16 R m 0 { S with st := 6 })) V K := by
    refine a1'.to ?_ ?_ ?_
    · have e2 : aN16 V [0, 0, 0] (tch16 { S with st := 6 }) = (m : Int) := by
        have : tch16 { S with st := 6 } = (1, ad16 { S with st := 6 } 4 0 0, 0) := by unfold tch16; simp
        rw [this]
        simp only [aN16, dN14]
        exact hx
      rw [e2]
      have e3 : subW (m : Int) S.tail = (m : Int) := by rw [htl]; unfold subW; omega
      have e4 : ¬ ((S.out.length : Int) < (m : Int)) := by rw [hout, upto16_len]; omega
      unfold aft16
      simp only [e3, e4, if_false, if_true, show ¬ (6 : Nat) = 1 by omega, show ¬ (6 : Nat) = 4 by omega, show ¬ (6 : Nat) = 5 by omega]
      have e5 : ({ S with st := 6, ret := (m : Int) } : Gv) = fh16 R m 0 { S with st := 6 } := by
        show ({ S with st := 6, ret := (m : Int), out := S.out, free := S.free, tail := S.tail } : Gv) = { S with st := 6, ret := ((m - 0 : Nat) : Int), out := (upto16 R).drop 0, free := upto16 0, tail := ((0 : Nat) : Int) }
        rw [hout, hf, htl]
        rfl
      rw [e5]
    · simp [aV16, dV14, tch16]
    · simp [aK16, dK14, tch16]
  have a3 := back16 (G := { S with st := 6 }) (R := R) hSR hm.2 (by omega) (fun j hj => by
    have : ad16 { S with st := 6 } 6 (j : Int) 0 = atV13 0 (R : Int) 6 (j : Int) 0 := by rw [hS]; rfl
    rw [this]; exact hw j hj) a2 m (Nat.le_refl _)
  obtain ⟨G3, hG3⟩ : ∃ G3 : Gv, G3 = { S with st := 6, ret := 0, free := (upto16 m).drop 1, out := (upto16 R).drop m ++ [0], tail := (m : Int) } := ⟨_, rfl⟩
  have e6 : roo16 (fh16 R m m { S with st := 6 }) = wri16 { G3 with sto := 0 } := by
    have hu0 : upto16 m = 0 :: (upto16 m).drop 1 := upto16_drop (k := 0) (by omega)
    have hsto : S.sto = 0 := by rw [hS]
    have e7 : fh16 R m m { S with st := 6 } = { S with st := 6, ret := 0, out := (upto16 R).drop m, free := 0 :: (upto16 m).drop 1, tail := (m : Int) } := by
      rw [← hu0]
      show ({ S with st := 6, ret := ((m - m : Nat) : Int), out := _, free := _, tail := _ } : Gv) = _
      rw [Nat.sub_self]
      rfl
    rw [e7]
    unfold roo16
    rw [if_neg (show ¬ (0 : Int) < 0 by omega)]
    simp only [takB16, List.isEmpty_cons, Bool.not_false, if_true, takG16]
    rw [hG3]
    show wri16 _ = wri16 { S with st := 6, ret := 0, free := _, out := _, tail := _, sto := 0 }
    rw [← hsto]
  rw [e6] at a3
  have htk : tk16 G3 = 0 := by rw [hG3]; simp [tk16]
  have g1 : G3.R = R := by rw [hG3]; exact hSR
  have hB3 : G3.B = 0 := by rw [hG3, hS]; rfl
  obtain ⟨V', h, hl, hp⟩ := rest16 a3 hoo (by show S.st ≠ 0; rw [hS]; simp) (by rw [hG3]; exact hoo.load) (by rw [g1]; exact hR) (by rw [hG3, hS]; rfl) (by rw [hG3, hS]; rfl) (by rw [hG3, hS]) (by rw [htk, g1]; omega)
  have b4 : ad16 G3 4 0 0 = 3 := li_ad _ hB3 4 (by omega)
  refine ⟨V', ?_, hl.trans hV, ?_⟩
  · have e : fb16 R m 1 = idle16 { G3 with next := addW G3.next 1 } := by
      have x2 : addW G3.next 1 = ((R + 1 : Nat) : Int) := by
        rw [hG3, hS]
        show addW (R : Int) 1 = _
        unfold addW
        omega
      rw [x2, hG3, hS]
      unfold fl16
      rw [show decide (0 < R) = true by simp; omega]
      rfl
    have e8 : G3.peer = 1 := by rw [hG3, hS]; rfl
    have e9 : K ++ [G3.peer] = K ++ [1] := by rw [e8]
    rw [e9] at h
    rw [e]
    exact h
  · have := hp 4 (by omega) (by omega)
    rw [b4] at this
    rw [this]
    exact hu

/-- Then one for each of the others. -/
theorem fb_call (h16 : R ≤ 16) (hm : m ≤ R) (hi : 1 ≤ i ∧ i < m) (hs : sendE16 (li0 R) l = 0) (ho : Ok16 (fb16 R m i)) (hV : V.length = 4 + 11 * R) (hu : nth14 V 3 = (m : Int)) :
    ∃ V', Over16 [0, 0, 0] ⟨sendG16 (fb16 R m i) l, V, K, []⟩ 0 (fb16 R m (i + 1)) V' (K ++ [1]) ∧ V'.length = 4 + 11 * R ∧ nth14 V' 3 = (m : Int) := by
  have hs1 : sendE16 (fb16 R m i) l = 0 := by rw [sendE16_idle (G' := li0 R) rfl rfl]; exact hs
  have hG := sendG16_ok hs1
  have hoo := ok16_send ho l
  rw [hG] at hoo ⊢
  have a4 : ad16 { fb16 R m i with st := 1, load := l, sto := 0, ret := 0, res := 0 } 4 0 0 = 3 := li_ad _ rfl 4 (by omega)
  obtain ⟨V', h, hl, -, -, hp⟩ := ok16_call (E := [0, 0, 0]) (s := ⟨{ fb16 R m i with st := 1, load := l, sto := 0, ret := 0, res := 0 }, V, K, []⟩) hoo rfl rfl rfl (.inl rfl) (by show nth14 V (ad16 _ 4 0 0) = _; rw [a4, hu]; rfl) (d := (i : Int)) (fs := (upto16 m).drop (i + 1)) (upto16_drop hi.2) rfl (by show (0 : Int) + 4 + 11 * (R : Int) ≤ (V.length : Int); omega)
  refine ⟨V', ?_, hl.trans hV, ?_⟩
  · have e : fb16 R m (i + 1) = idle16 { fb16 R m i with linked := true, free := (upto16 m).drop (i + 1), out := ((upto16 R).drop m ++ upto16 i) ++ [(i : Int)], next := addW ((R + i : Nat) : Int) 1 } := by
      rw [List.append_assoc, upto16_succ, show addW ((R + i : Nat) : Int) 1 = ((R + (i + 1) : Nat) : Int) by unfold addW; omega]
      rfl
    rw [e]
    exact h
  · have := hp 4 (by omega) (by omega)
    exact (by rw [← a4]; exact this.trans (by show nth14 V (ad16 _ 4 0 0) = _; rw [a4, hu]))

theorem fb_full (hs : sendE16 (li0 R) l = 0) (ho : Ok16 (fb16 R m m)) (hu : nth14 V 3 = (m : Int)) :
    Over16 [0, 0, 0] ⟨sendG16 (fb16 R m m) l, V, K, []⟩ 5 (fb16 R m m) V K := by
  have hs1 : sendE16 (fb16 R m m) l = 0 := by rw [sendE16_idle (G' := li0 R) rfl rfl]; exact hs
  have hG := sendG16_ok hs1
  have hoo := ok16_send ho l
  rw [hG] at hoo ⊢
  have a4 : ad16 { fb16 R m m with st := 1, load := l, sto := 0, ret := 0, res := 0 } 4 0 0 = 3 := li_ad _ rfl 4 (by omega)
  exact full16_call (E := [0, 0, 0]) (s := ⟨{ fb16 R m m with st := 1, load := l, sto := 0, ret := 0, res := 0 }, V, K, []⟩) hoo rfl rfl rfl rfl (by show nth14 V (ad16 _ 4 0 0) = _; rw [a4, hu]; rfl) (upto16_end m)
end

/-- The giver ahead of call number i behind the return of m slots. -/
def fi16 (R m i : Nat) : Gv := if i = 0 then fl16 R R else fb16 R m i
theorem fi16_st (R m i : Nat) : (fi16 R m i).st = 0 := by unfold fi16; split <;> rfl
theorem fi16_free (R m : Nat) : (fi16 R m m).free = [] := by
  unfold fi16
  split
  · exact upto16_end R
  · exact upto16_end m

theorem fi_call {R m i : Nat} {l V K : List Int} (hR : okRing (R : Int)) (h16 : R ≤ 16) (hm : m ≤ R) (hi : i < m) (hs : sendE16 (li0 R) l = 0) (ho : Ok16 (fi16 R m i)) (hV : V.length = 4 + 11 * R) (hu : nth14 V 3 = (m : Int)) (hw : i = 0 → ∀ j : Nat, j < m → nth14 V (atV13 0 (R : Int) 6 (j : Int) 0) = (j : Int)) :
    ∃ V', Over16 [0, 0, 0] ⟨sendG16 (fi16 R m i) l, V, K, []⟩ 0 (fi16 R m (i + 1)) V' (K ++ [1]) ∧ V'.length = 4 + 11 * R ∧ nth14 V' 3 = (m : Int) := by
  have e1 : fi16 R m (i + 1) = fb16 R m (i + 1) := by unfold fi16; rw [if_neg (by omega)]
  rw [e1]
  by_cases h : i = 0
  · have e0 : fi16 R m i = fl16 R R := by unfold fi16; rw [if_pos h]
    rw [e0] at ho ⊢
    subst h
    exact fb_first hR h16 ⟨by omega, hm⟩ hs ho hV hu (hw rfl)
  · have e0 : fi16 R m i = fb16 R m i := by unfold fi16; rw [if_neg h]
    rw [e0] at ho ⊢
    exact fb_call h16 hm ⟨by omega, hi⟩ hs ho hV hu

theorem fi_full {R m : Nat} {l V K : List Int} (hR : okRing (R : Int)) (hs : sendE16 (li0 R) l = 0) (ho : Ok16 (fi16 R m m)) (hu : nth14 V 3 = (m : Int)) :
    Over16 [0, 0, 0] ⟨sendG16 (fi16 R m m) l, V, K, []⟩ 5 (fi16 R m m) V K := by
  by_cases h : m = 0
  · have e0 : fi16 R m m = fl16 R R := by unfold fi16; rw [if_pos h]
    rw [e0] at ho ⊢
    exact fl_full hR hs ho (by rw [hu, h]; rfl)
  · have e0 : fi16 R m m = fb16 R m m := by unfold fi16; rw [if_neg h]
    rw [e0] at ho ⊢
    exact fb_full hs ho hu

#print axioms fi_call
#print axioms fi_full
end Go.Proofs.YtgdbaaoifnedbaaDoor
