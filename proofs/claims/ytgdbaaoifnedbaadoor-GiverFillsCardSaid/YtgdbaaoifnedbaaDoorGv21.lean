/-
  Layer 16 (giver): a call that ends well; the four calls of the law GiverLinks in numbers.
  Conditions: those that each theorem states.
-/
import Derived.Test.YtgdbaaoifnedbaaDoorGv20
import Derived.Test.YtgdbaaoifnedbaaDoorPl4
namespace Go.Proofs.YtgdbaaoifnedbaaDoor
open Go.ChangeShapes Go.WideShapes Go.ChangeAt Go.RowKit

theorem upto16_in {n : Nat} {x : Int} : x ∈ upto16 n ↔ 0 ≤ x ∧ x < (n : Int) := by
  unfold upto16
  simp only [List.mem_map, List.mem_range]
  constructor
  · rintro ⟨k, hk, rfl⟩; omega
  · intro h; exact ⟨x.toNat, by omega, by omega⟩

theorem ad16_ok {G : Gv} {f s i : Int} (h : okWord (G.R : Int) f s i) : ad16 G f s i = G.B + offP (G.R : Int) f s i := by
  unfold ad16 atV13
  rw [if_pos h]

theorem ad16_ne {G : Gv} (hR : okRing (G.R : Int)) {f s i f' s' i' : Int} (h : okWord (G.R : Int) f s i) (h' : okWord (G.R : Int) f' s' i') (hne : f ≠ f') : ad16 G f s i ≠ ad16 G f' s' i' := by
  rw [ad16_ok h, ad16_ok h']
  intro e
  exact hne (off_inj hR h h' (by omega)).1

theorem ad16_in {G : Gv} (hB : 0 ≤ G.B) (hR : okRing (G.R : Int)) {f s i : Int} (h : okWord (G.R : Int) f s i) {V : List Int} (hV : G.B + 4 + 11 * (G.R : Int) ≤ (V.length : Int)) : in14 V (ad16 G f s i) = true := by
  rw [ad16_ok h]
  have := off_bd hR h
  simp [in14]
  omega

theorem w_ok {R : Int} (f : Int) (h : 1 ≤ f ∧ f ≤ 4) : okWord R f 0 0 := .inl ⟨h.1, h.2, rfl, rfl⟩

set_option maxHeartbeats 1000000 in
theorem ok16_call {E : List Int} {s : Run16} (ho : Ok16 s.G) (h1 : s.G.st = 1) (hk : s.G.knows = true) (he : nth14 E s.G.peer = s.G.known) (hl : s.G.linked = true ∨ nth14 s.V (ad16 s.G 2 0 0) = ep16 s.G) (hu : nth14 s.V (ad16 s.G 4 0 0) = s.G.tail) {d : Int} {fs : List Int} (hf : s.G.free = d :: fs) (hr : s.G.res = 0) (hV : s.G.B + 4 + 11 * (s.G.R : Int) ≤ (s.V.length : Int)) :
    ∃ V', Over16 E s 0 (idle16 { s.G with linked := true, free := fs, out := s.G.out ++ [d], next := addW s.G.next 1 }) V' (s.K ++ [s.G.peer]) ∧ V'.length = s.V.length ∧ nth14 V' (ad16 s.G 3 0 0) = addW s.G.next 1 ∧ nth14 V' (ad16 s.G 5 (s.G.next % (s.G.R : Int)) 0) = d ∧
      ∀ f, 1 ≤ f ∧ f ≤ 4 → f ≠ 3 → nth14 V' (ad16 s.G f 0 0) = nth14 s.V (ad16 s.G f 0 0) := by
  have h0 : s.G.st ≠ 0 := by omega
  have hsto : s.G.sto = 0 := ho.fresh (by omega)
  have hd : 0 ≤ d ∧ d < (s.G.R : Int) := upto16_in.1 (ho.perm.mem_iff.1 (List.mem_append_left _ (by rw [hf]; exact List.mem_cons_self)))
  have hR := ho.R64
  -- to the look
  have a2 : ∃ n, Rch16 E s n { s.G with linked := true, st := 6 } s.V s.K := by
    have a1 := (Rch16.zero (E := E) s).ask h1 hk he
    by_cases hlk : s.G.linked = true
    · refine ⟨1, ?_⟩
      rw [if_pos hlk] at a1
      have e : ({ s.G with linked := true, st := 6 } : Gv) = { s.G with st := 6 } := by rw [← hlk]
      rw [e]
      exact a1
    · rw [if_neg hlk] at a1
      exact ⟨2, a1.link rfl (hl.resolve_left hlk)⟩
  obtain ⟨n, a2⟩ := a2
  have a3 := a2.look rfl hu hf
  obtain ⟨G3, hG3⟩ : ∃ G3 : Gv, G3 = { s.G with linked := true, st := 6, ret := 0, free := fs, out := s.G.out ++ [d] } := ⟨_, rfl⟩
  have e3 : ({ { s.G with linked := true, st := 6 } with ret := 0, free := fs, out := s.G.out ++ [d] } : Gv) = { G3 with sto := 0 } := by rw [hG3, ← hsto]
  have a4 : Rch16 E s (n + 1) (wri16 { G3 with sto := 0 }) s.V s.K := by rw [← e3]; exact a3
  have htk : tk16 G3 = d := by rw [hG3]; simp [tk16]
  obtain ⟨n5, V5, a5, hl5, hp5⟩ := a4.words (by rw [hG3]; exact ho.load) G3.load.length 0 (n + 1) s.V (by omega)
  have a6 := a5.send ho h0 rfl (by rw [hG3]; exact hk) (by rw [hG3]; exact he) (by rw [hG3]; exact hr)
  have had : ∀ f s' i, ad16 { G3 with st := 9, sto := G3.load.length } f s' i = ad16 s.G f s' i := fun f s' i => by rw [hG3]; rfl
  have had3 : ∀ f s' i, ad16 G3 f s' i = ad16 s.G f s' i := fun f s' i => by rw [hG3]; rfl
  have htk' : tk16 { G3 with st := 9, sto := G3.load.length } = d := htk
  rw [had, had, had, htk'] at a6
  have m1 := Int.emod_nonneg s.G.next (show (s.G.R : Int) ≠ 0 by omega)
  have m2 := Int.emod_lt_of_pos s.G.next (show (0 : Int) < (s.G.R : Int) by omega)
  have w5 : okWord (s.G.R : Int) 5 (s.G.next % (s.G.R : Int)) 0 := .inr (.inl ⟨by omega, by omega, m1, m2, rfl⟩)
  have w7 : okWord (s.G.R : Int) 7 d 0 := .inr (.inl ⟨by omega, by omega, hd.1, hd.2, rfl⟩)
  have w3 : okWord (s.G.R : Int) 3 0 0 := w_ok 3 (by omega)
  have i5 : in14 V5 (ad16 s.G 5 (s.G.next % (s.G.R : Int)) 0) = true := ad16_in ho.B.1 ho.R w5 (by rw [hl5]; exact hV)
  have i3 : in14 V5 (ad16 s.G 3 0 0) = true := ad16_in ho.B.1 ho.R w3 (by rw [hl5]; exact hV)
  have ip : ∀ (W : List Int) i x a, in14 (put14 W i x) a = in14 W a := fun W i x a => by simp [in14, put14_len]
  have hnext : ({ G3 with st := 9, sto := G3.load.length } : Gv).next = s.G.next := by rw [hG3]
  have hRR : ({ G3 with st := 9, sto := G3.load.length } : Gv).R = s.G.R := by rw [hG3]
  rw [hnext, hRR] at a6
  refine ⟨put14 (put14 (put14 V5 (ad16 s.G 7 d 0) ((s.G.load.length : Int) % 65536)) (ad16 s.G 5 (s.G.next % (s.G.R : Int)) 0) (d % 65536)) (ad16 s.G 3 0 0) (addW s.G.next 1), ?_, ?_, ?_, ?_, ?_⟩
  · rw [hG3] at a6
    exact a6
  · rw [put14_len, put14_len, put14_len, hl5]
  · rw [nth14_put, if_pos ⟨rfl, by rw [ip, ip]; exact i3⟩]
  · rw [nth14_put, if_neg (fun h => ad16_ne ho.R w5 w3 (by omega) h.1), nth14_put, if_pos ⟨rfl, by rw [ip]; exact i5⟩]
    exact Int.emod_eq_of_lt hd.1 (by omega)
  · intro f hf1 hf3
    have wf : okWord (s.G.R : Int) f 0 0 := w_ok f hf1
    rw [nth14_put, if_neg (fun h => ad16_ne ho.R wf w3 hf3 h.1), nth14_put, if_neg (fun h => ad16_ne ho.R wf w5 (by omega) h.1), nth14_put, if_neg (fun h => ad16_ne ho.R wf w7 (by omega) h.1)]
    refine hp5 _ (fun i hi => ?_)
    rw [had3, htk]
    exact ad16_ne ho.R wf (.inr (.inr ⟨rfl, hd.1, hd.2, by omega, by omega⟩)) (by omega)

#print axioms ok16_call
end Go.Proofs.YtgdbaaoifnedbaaDoor
