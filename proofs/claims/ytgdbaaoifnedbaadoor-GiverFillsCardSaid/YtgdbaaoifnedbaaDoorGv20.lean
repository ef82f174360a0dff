/-
  Layer 16 (giver): whole calls in numbers.
  Conditions: those that each theorem states.
-/
import Derived.Test.YtgdbaaoifnedbaaDoorGv19
namespace Go.Proofs.YtgdbaaoifnedbaaDoor
open Go.ChangeShapes Go.WideShapes Go.ChangeAt Go.RowKit

theorem nth14_put (V : List Int) (i x a : Int) : nth14 (put14 V i x) a = if a = i ∧ in14 V i = true then x else nth14 V a := by
  by_cases hi : in14 V i = true
  · have h1 : 0 ≤ i ∧ i < V.length := by simpa [in14] using hi
    by_cases ha : a = i
    · subst ha
      rw [if_pos ⟨rfl, hi⟩]
      unfold nth14 put14
      rw [if_pos hi]
      have h2 : in14 (V.set a.toNat x) a = true := by simpa [in14] using h1
      rw [if_pos h2]
      have h3 : a.toNat < V.length := by omega
      simp [List.getD, h3]
    · rw [if_neg (fun h => ha h.1)]
      unfold nth14 put14
      rw [if_pos hi]
      have h2 : in14 (V.set i.toNat x) a = in14 V a := by simp [in14]
      rw [h2]
      by_cases hA : in14 V a = true
      · have h4 : 0 ≤ a ∧ a < V.length := by simpa [in14] using hA
        rw [if_pos hA, if_pos hA]
        have h5 : i.toNat ≠ a.toNat := by omega
        simp [List.getD, List.getElem?_set_ne h5]
      · rw [if_neg hA, if_neg hA]
  · rw [if_neg (fun h => hi h.2), put14_out x (by simpa using hi)]

/-- The run from s has come to these, and the call is not over. -/
def Rch16 (E : List Int) (s : Run16) (n : Nat) (G : Gv) (V K : List Int) : Prop :=
  (∀ k, k < n → ra16 E (it16 E s k) = none) ∧ (it16 E s n).G = G ∧ (it16 E s n).V = V ∧ (it16 E s n).K = K
/-- The call is over, with the answer e, and has left these. -/
def Over16 (E : List Int) (s : Run16) (e : Int) (G : Gv) (V K : List Int) : Prop :=
  ∃ n, Ends16 E s n e ∧ n < pot16 s.G ∧ (it16 E s (n + 1)).G = G ∧ (it16 E s (n + 1)).V = V ∧ (it16 E s (n + 1)).K = K

section
variable {E : List Int} {s : Run16} {n : Nat} {G : Gv} {V K : List Int}

theorem Rch16.zero (s : Run16) : Rch16 E s 0 s.G s.V s.K := ⟨fun k h => by omega, rfl, rfl, rfl⟩

theorem Rch16.step (h : Rch16 E s n G V K) (hn : (aft16 G (aN16 V E (tch16 G))).2 = none) : Rch16 E s (n + 1) (aft16 G (aN16 V E (tch16 G))).1 (aV16 V (tch16 G)) (aK16 K (tch16 G)) := by
  obtain ⟨h1, rfl, rfl, rfl⟩ := h
  refine ⟨fun k hk => ?_, rfl, rfl, rfl⟩
  by_cases hkn : k = n
  · rw [hkn]; exact hn
  · exact h1 k (by omega)

theorem Rch16.to (h : Rch16 E s n G V K) {G' : Gv} {V' K' : List Int} (ha : aft16 G (aN16 V E (tch16 G)) = (G', none)) (hV : aV16 V (tch16 G) = V') (hK : aK16 K (tch16 G) = K') : Rch16 E s (n + 1) G' V' K' := by
  have h1 := h.step (by rw [ha])
  rw [ha, hV, hK] at h1
  exact h1

theorem Rch16.fin (h : Rch16 E s n G V K) (ho : Ok16 s.G) (h0 : s.G.st ≠ 0) {G' : Gv} {V' K' : List Int} {e : Int} (ha : aft16 G (aN16 V E (tch16 G)) = (G', some e)) (hV : aV16 V (tch16 G) = V') (hK : aK16 K (tch16 G) = K') : Over16 E s e G' V' K' := by
  obtain ⟨h1, rfl, rfl, rfl⟩ := h
  have he : ra16 E (it16 E s n) = some e := congrArg Prod.snd ha
  have hE : Ends16 E s n e := ⟨h1, he, ho, h0⟩
  refine ⟨n, hE, ?_, ?_, hV, hK⟩
  · obtain ⟨a1, a2⟩ := it16_pot ho h0 n h1
    have hp := (pot16_aft (it16_ok ho n (E := E)) a1 (rn16 E (it16 E s n))).1
    omega
  · exact congrArg Prod.fst ha

/-- The epoch of the peer is the known one. -/
theorem Rch16.ask (h : Rch16 E s n G V K) (h1 : G.st = 1) (hk : G.knows = true) (he : nth14 E G.peer = G.known) : Rch16 E s (n + 1) { G with st := if G.linked then 6 else 5 } V K := by
  refine h.to ?_ ?_ ?_
  · simp [aft16, tch16, aN16, dN14, h1, askG16, askN16, askS16, hk, he]
  · simp [aV16, dV14, tch16, h1]
  · simp [aK16, dK14, tch16, h1]

/-- The epoch of the peer is another one: a new link. -/
theorem Rch16.reset (h : Rch16 E s n G V K) (ho : Ok16 s.G) (h0 : s.G.st ≠ 0) (h1 : G.st = 1) (he : nth14 E G.peer ≠ G.known) :
    Over16 E s 8 (idle16 { G with known := nth14 E G.peer, knows := true, linked := false, free := upto16 G.R, out := [], next := 0, tail := 0 }) (put14 (put14 V (ad16 G 3 0 0) 0) (ad16 G 1 0 0) (addW G.own (nth14 E G.peer))) K := by
  have a1 := h.to (G' := { G with known := nth14 E G.peer, knows := true, st := 2 }) (V' := V) (K' := K) (by simp [aft16, tch16, aN16, dN14, h1, askG16, askN16, askS16, he]) (by simp [aV16, dV14, tch16, h1]) (by simp [aK16, dK14, tch16, h1])
  have a2 := a1.to (G' := { G with known := nth14 E G.peer, knows := true, st := 3 }) (V' := put14 V (ad16 G 3 0 0) 0) (K' := K) (by simp [aft16]) (by simp [aV16, dV14, tch16, ad16]) (by simp [aK16, dK14, tch16])
  have hep := addW_bd G.own (nth14 E G.peer)
  have a3 := a2.to (G' := { G with known := nth14 E G.peer, knows := true, st := 4 }) (V' := put14 (put14 V (ad16 G 3 0 0) 0) (ad16 G 1 0 0) (addW G.own (nth14 E G.peer))) (K' := K) (by simp [aft16]) (by simp [aV16, dV14, tch16, ad16, ep16]; rw [Int.emod_eq_of_lt hep.1 (by omega)]) (by simp [aK16, dK14, tch16])
  exact a3.fin ho h0 (by simp [aft16, idle16]) (by simp [aV16, dV14, tch16]) (by simp [aK16, dK14, tch16])

/-- The mark at Ce is the link epoch. -/
theorem Rch16.link (h : Rch16 E s n G V K) (h1 : G.st = 5) (he : nth14 V (ad16 G 2 0 0) = ep16 G) : Rch16 E s (n + 1) { G with linked := true, st := 6 } V K := by
  refine h.to ?_ ?_ ?_
  · simp [aft16, tch16, aN16, dN14, h1, he]
  · simp [aV16, dV14, tch16, h1]
  · simp [aK16, dK14, tch16, h1]

/-- It is another one. -/
theorem Rch16.down (h : Rch16 E s n G V K) (ho : Ok16 s.G) (h0 : s.G.st ≠ 0) (h1 : G.st = 5) (he : nth14 V (ad16 G 2 0 0) ≠ ep16 G) : Over16 E s 9 (idle16 G) V K := by
  refine h.fin ho h0 ?_ ?_ ?_
  · simp [aft16, tch16, aN16, dN14, h1, he]
  · simp [aV16, dV14, tch16, h1]
  · simp [aK16, dK14, tch16, h1]

/-- No slot has come back, and one is free. -/
theorem Rch16.look (h : Rch16 E s n G V K) (h1 : G.st = 6) (hu : nth14 V (ad16 G 4 0 0) = G.tail) {d : Int} {fs : List Int} (hf : G.free = d :: fs) :
    Rch16 E s (n + 1) (wri16 { G with ret := 0, free := fs, out := G.out ++ [d] }) V K := by
  refine h.to ?_ ?_ ?_
  · have e1 : subW G.tail G.tail = 0 := by unfold subW; omega
    have e2 : ¬ ((G.out.length : Int) < 0) := by omega
    simp [aft16, tch16, aN16, dN14, h1, hu, e1, e2, roo16, takB16, takG16, hf]
  · simp [aV16, dV14, tch16, h1]
  · simp [aK16, dK14, tch16, h1]

/-- No slot has come back, and none is free. -/
theorem Rch16.full (h : Rch16 E s n G V K) (h1 : G.st = 6) (hu : nth14 V (ad16 G 4 0 0) = G.tail) (hf : G.free = []) :
    Rch16 E s (n + 1) (fin16 { G with ret := 0 } 5) V K := by
  refine h.to ?_ ?_ ?_
  · have e1 : subW G.tail G.tail = 0 := by unfold subW; omega
    have e2 : ¬ ((G.out.length : Int) < 0) := by omega
    simp [aft16, tch16, aN16, dN14, h1, hu, e1, e2, roo16, takB16, hf]
  · simp [aV16, dV14, tch16, h1]
  · simp [aK16, dK14, tch16, h1]

/-- The words are written. -/
theorem Rch16.words (hsz : G.load.length ≤ 8) : ∀ (m : Nat) (j : Nat) (n : Nat) (V : List Int), G.load.length = j + m → Rch16 E s n (wri16 { G with sto := j }) V K →
    ∃ n' V', Rch16 E s n' { G with st := 9, sto := G.load.length } V' K ∧ V'.length = V.length ∧ ∀ a, (∀ i : Nat, i < 8 → a ≠ ad16 G 8 (tk16 G) i) → nth14 V' a = nth14 V a := by
  intro m
  induction m with
  | zero =>
    intro j n V hj h
    obtain rfl : j = G.load.length := by omega
    refine ⟨n, V, ?_, rfl, fun _ _ => rfl⟩
    simpa [wri16] using h
  | succ m ih =>
    intro j n V hj h
    have hne : ¬ j = G.load.length := by omega
    have hw : wri16 { G with sto := j } = { G with sto := j, st := 8 } := by simp [wri16, hne]
    rw [hw] at h
    have h2 := h.to (G' := wri16 { G with sto := j + 1 }) (V' := put14 V (ad16 G 8 (tk16 G) (j : Int)) (G.load.getD j 0 % 65536)) (K' := K) (by simp [aft16, wri16]) (by simp [aV16, dV14, tch16, ad16, tk16]) (by simp [aK16, dK14, tch16])
    obtain ⟨n', V', r, hl, hp⟩ := ih (j + 1) (n + 1) _ (by omega) h2
    refine ⟨n', V', r, by rw [hl, put14_len], fun a ha => ?_⟩
    rw [hp a ha, nth14_put, if_neg (fun e => ha j (by omega) e.1)]

/-- Behind the words: the length, the slot's number, the count, the bell; the epoch is the known one. -/
theorem Rch16.send (h : Rch16 E s n G V K) (ho : Ok16 s.G) (h0 : s.G.st ≠ 0) (h1 : G.st = 9) (hk : G.knows = true) (he : nth14 E G.peer = G.known) (hr : G.res = 0) :
    Over16 E s 0 (idle16 { G with next := addW G.next 1 }) (put14 (put14 (put14 V (ad16 G 7 (tk16 G) 0) ((G.load.length : Int) % 65536)) (ad16 G 5 (G.next % (G.R : Int)) 0) (tk16 G % 65536)) (ad16 G 3 0 0) (addW G.next 1)) (K ++ [G.peer]) := by
  have hep := addW_bd G.next 1
  have a1 := h.to (G' := { G with st := 10 }) (V' := put14 V (ad16 G 7 (tk16 G) 0) ((G.load.length : Int) % 65536)) (K' := K) (by simp [aft16, h1]) (by simp [aV16, dV14, tch16, h1]) (by simp [aK16, dK14, tch16, h1])
  have a2 := a1.to (G' := { G with st := 11 }) (V' := put14 (put14 V (ad16 G 7 (tk16 G) 0) ((G.load.length : Int) % 65536)) (ad16 G 5 (G.next % (G.R : Int)) 0) (tk16 G % 65536)) (K' := K) (by simp [aft16]) (by simp [aV16, dV14, tch16, ad16, tk16]) (by simp [aK16, dK14, tch16])
  have a3 := a2.to (G' := { G with st := 12 }) (V' := put14 (put14 V (ad16 G 7 (tk16 G) 0) ((G.load.length : Int) % 65536)) (ad16 G 5 (G.next % (G.R : Int)) 0) (tk16 G % 65536)) (K' := K) (by simp [aft16]) (by simp [aV16, dV14, tch16]) (by simp [aK16, dK14, tch16])
  have a4 := a3.to (G' := { G with st := 13 }) (V' := put14 (put14 (put14 V (ad16 G 7 (tk16 G) 0) ((G.load.length : Int) % 65536)) (ad16 G 5 (G.next % (G.R : Int)) 0) (tk16 G % 65536)) (ad16 G 3 0 0) (addW G.next 1)) (K' := K) (by simp [aft16]) (by simp [aV16, dV14, tch16, ad16]; rw [Int.emod_eq_of_lt hep.1 (by omega)]) (by simp [aK16, dK14, tch16])
  have a5 := a4.to (G' := { G with st := 14 }) (V' := put14 (put14 (put14 V (ad16 G 7 (tk16 G) 0) ((G.load.length : Int) % 65536)) (ad16 G 5 (G.next % (G.R : Int)) 0) (tk16 G % 65536)) (ad16 G 3 0 0) (addW G.next 1)) (K' := K) (by simp [aft16]) (by simp [aV16, dV14, tch16]) (by simp [aK16, dK14, tch16])
  have a6 := a5.to (G' := { G with st := 15 }) (V' := put14 (put14 (put14 V (ad16 G 7 (tk16 G) 0) ((G.load.length : Int) % 65536)) (ad16 G 5 (G.next % (G.R : Int)) 0) (tk16 G % 65536)) (ad16 G 3 0 0) (addW G.next 1)) (K' := K ++ [G.peer]) (by simp [aft16]) (by simp [aV16, dV14, tch16]) (by simp [aK16, dK14, tch16])
  refine a6.fin ho h0 (e := 0) ?_ ?_ ?_
  · simp [aft16, tch16, aN16, dN14, hk, he, hr, judG16, judE16, idle16]
  · simp [aV16, dV14, tch16]
  · simp [aK16, dK14, tch16]

/-- The call that is full is over. -/
theorem Rch16.over (h : Rch16 E s n G V K) (ho : Ok16 s.G) (h0 : s.G.st ≠ 0) (h1 : G.st = 15) (hk : G.knows = true) (he : nth14 E G.peer = G.known) (hr : G.res ≠ 0) : Over16 E s G.res (idle16 G) V K := by
  refine h.fin ho h0 ?_ ?_ ?_
  · simp [aft16, tch16, aN16, dN14, h1, hk, he, hr, judG16, judE16, idle16]
  · simp [aV16, dV14, tch16, h1]
  · simp [aK16, dK14, tch16, h1]
end

#print axioms Rch16.send
#print axioms Rch16.reset
end Go.Proofs.YtgdbaaoifnedbaaDoor
