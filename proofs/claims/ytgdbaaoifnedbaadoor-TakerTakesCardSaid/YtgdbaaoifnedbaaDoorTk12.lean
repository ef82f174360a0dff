/-
  Layer 17 (taker): whole calls in numbers.
  Conditions: those that each theorem states.
-/
import Derived.Test.YtgdbaaoifnedbaaDoorTk11
import Derived.Test.YtgdbaaoifnedbaaDoorPl4
namespace Go.Proofs.YtgdbaaoifnedbaaDoor
open Go.ChangeShapes Go.WideShapes Go.ChangeAt Go.RowKit

theorem nth17_put (V : List Int) (i x a : Int) : nth14 (put14 V i x) a = if a = i ∧ in14 V i = true then x else nth14 V a := by
  by_cases hi : in14 V i = true
  · have h1 : 0 ≤ i ∧ i < V.length := by simpa [in14] using hi
    by_cases ha : a = i
    · subst ha
      rw [if_pos ⟨rfl, hi⟩]
      unfold nth14 put14
      rw [if_pos hi]
      have h2 : in14 (V.set a.toNat x) a = true := by simpa [in14] using h1
      rw [if_pos h2]
      have h3 : a.toNat < V.length := by omega
      simp [List.getD, h3]
    · rw [if_neg (fun h => ha h.1)]
      unfold nth14 put14
      rw [if_pos hi]
      have h2 : in14 (V.set i.toNat x) a = in14 V a := by simp [in14]
      rw [h2]
      by_cases hA : in14 V a = true
      · have h4 : 0 ≤ a ∧ a < V.length := by simpa [in14] using hA
        rw [if_pos hA, if_pos hA]
        have h5 : i.toNat ≠ a.toNat := by omega
        simp [List.getD, List.getElem?_set_ne h5]
      · rw [if_neg hA, if_neg hA]
  · rw [if_neg (fun h => hi h.2), put14_out x (by simpa using hi)]

/-- The run from s has come to these, and the call is not over. -/
def Rch17 (E : List Int) (s : Run17) (n : Nat) (G : Tk) (V K : List Int) : Prop :=
  (∀ k, k < n → ra17 E (it17 E s k) = none) ∧ (it17 E s n).G = G ∧ (it17 E s n).V = V ∧ (it17 E s n).K = K
/-- The call is over, with the answer e, and has left these. -/
def Over17 (E : List Int) (s : Run17) (e : Int) (G : Tk) (V K : List Int) : Prop :=
  ∃ n, Ends17 E s n e ∧ n < pot17 s.G ∧ (it17 E s (n + 1)).G = G ∧ (it17 E s (n + 1)).V = V ∧ (it17 E s (n + 1)).K = K

theorem Over17.ok {E : List Int} {s : Run17} {e : Int} {G : Tk} {V K : List Int} (h : Over17 E s e G V K) (ho : Ok17 s.G) : Ok17 G := by
  obtain ⟨n, _, _, rfl, _, _⟩ := h
  exact it17_ok ho (n + 1)

section
variable {E : List Int} {s : Run17} {n : Nat} {G : Tk} {V K : List Int}

theorem Rch17.zero (s : Run17) : Rch17 E s 0 s.G s.V s.K := ⟨fun k h => by omega, rfl, rfl, rfl⟩

theorem Rch17.to (h : Rch17 E s n G V K) {G' : Tk} {V' K' : List Int} (ha : aft17 G (aN17 V E (tch17 G)) = (G', none)) (hV : aV17 V (tch17 G) = V') (hK : aK17 K (tch17 G) = K') : Rch17 E s (n + 1) G' V' K' := by
  have hn : (aft17 G (aN17 V E (tch17 G))).2 = none := by rw [ha]
  have hg : (aft17 G (aN17 V E (tch17 G))).1 = G' := by rw [ha]
  obtain ⟨h1, rfl, rfl, rfl⟩ := h
  refine ⟨fun k hk => ?_, hg, hV, hK⟩
  by_cases hkn : k = n
  · rw [hkn]; exact hn
  · exact h1 k (by omega)

theorem Rch17.fin (h : Rch17 E s n G V K) (ho : Ok17 s.G) (h0 : s.G.st ≠ 0) {G' : Tk} {V' K' : List Int} {e : Int} (ha : aft17 G (aN17 V E (tch17 G)) = (G', some e)) (hV : aV17 V (tch17 G) = V') (hK : aK17 K (tch17 G) = K') : Over17 E s e G' V' K' := by
  obtain ⟨h1, rfl, rfl, rfl⟩ := h
  have he : ra17 E (it17 E s n) = some e := congrArg Prod.snd ha
  have hE : Ends17 E s n e := ⟨h1, he, ho, h0⟩
  refine ⟨n, hE, ?_, ?_, hV, hK⟩
  · obtain ⟨a1, a2⟩ := it17_pot ho h0 n h1
    have hp := (pot17_aft (it17_ok ho n (E := E)) a1 (rn17 E (it17 E s n))).1
    omega
  · exact congrArg Prod.fst ha

/-- The epoch of the peer is the known one. -/
theorem Rch17.ask (h : Rch17 E s n G V K) (h1 : G.st = 1) (hk : G.knows = true) (he : nth14 E G.peer = G.known) : Rch17 E s (n + 1) { G with st := if G.linked then (if G.rel then 10 else 6) else 5 } V K := by
  refine h.to ?_ ?_ ?_
  · simp [aft17, tch17, aN17, dN14, h1, askT17, askN17, askS17, hk, he]
  · simp [aV17, dV14, tch17, h1]
  · simp [aK17, dK14, tch17, h1]

/-- The epoch of the peer is another one: a new link. -/
theorem Rch17.reset (h : Rch17 E s n G V K) (ho : Ok17 s.G) (h0 : s.G.st ≠ 0) (h1 : G.st = 1) (he : nth14 E G.peer ≠ G.known) :
    Over17 E s 8 (idle17 { G with known := nth14 E G.peer, knows := true, tab := clearL15 G.tab, linked := false, head := 0, used := 0 }) (put14 (put14 V (ad17 G 4 0 0) 0) (ad17 G 2 0 0) (addW G.own (nth14 E G.peer))) K := by
  have a1 := h.to (G' := { G with known := nth14 E G.peer, knows := true, st := 2 }) (V' := V) (K' := K) (by simp [aft17, tch17, aN17, dN14, h1, askT17, askN17, askS17, he]) (by simp [aV17, dV14, tch17, h1]) (by simp [aK17, dK14, tch17, h1])
  have a2 := a1.to (G' := { G with known := nth14 E G.peer, knows := true, st := 3 }) (V' := put14 V (ad17 G 4 0 0) 0) (K' := K) (by simp [aft17]) (by simp [aV17, dV14, tch17, ad17]) (by simp [aK17, dK14, tch17])
  have hep := addW_bd G.own (nth14 E G.peer)
  have a3 := a2.to (G' := { G with known := nth14 E G.peer, knows := true, st := 4 }) (V' := put14 (put14 V (ad17 G 4 0 0) 0) (ad17 G 2 0 0) (addW G.own (nth14 E G.peer))) (K' := K) (by simp [aft17]) (by simp [aV17, dV14, tch17, ad17, ep17]; rw [Int.emod_eq_of_lt hep.1 (by omega)]) (by simp [aK17, dK14, tch17])
  exact a3.fin ho h0 (by simp [aft17, idle17]) (by simp [aV17, dV14, tch17]) (by simp [aK17, dK14, tch17])

/-- The mark at Pe is the link epoch. -/
theorem Rch17.link (h : Rch17 E s n G V K) (h1 : G.st = 5) (he : nth14 V (ad17 G 1 0 0) = ep17 G) : Rch17 E s (n + 1) { G with linked := true, st := 6 } V K := by
  refine h.to ?_ ?_ ?_
  · simp [aft17, tch17, aN17, dN14, h1, he]
  · simp [aV17, dV14, tch17, h1]
  · simp [aK17, dK14, tch17, h1]

/-- It is another one. -/
theorem Rch17.down (h : Rch17 E s n G V K) (ho : Ok17 s.G) (h0 : s.G.st ≠ 0) (h1 : G.st = 5) (he : nth14 V (ad17 G 1 0 0) ≠ ep17 G) : Over17 E s 9 (idle17 G) V K := by
  refine h.fin ho h0 ?_ ?_ ?_
  · simp [aft17, tch17, aN17, dN14, h1, he]
  · simp [aV17, dV14, tch17, h1]
  · simp [aK17, dK14, tch17, h1]

/-- What looked answers. -/
theorem Rch17.look (h : Rch17 E s n G V K) (h1 : G.st = 6) {e : Int} (hl : looE17 G (subW (nth14 V (ad17 G 3 0 0)) G.head) = e) :
    Rch17 E s (n + 1) (if e = 0 then { G with res := 0, st := 7 } else fin17 G e) V K := by
  refine h.to ?_ ?_ ?_
  · simp [aft17, tch17, aN17, dN14, h1, hl]
  · simp [aV17, dV14, tch17, h1]
  · simp [aK17, dK14, tch17, h1]

/-- The slot's number. -/
theorem Rch17.avail (h : Rch17 E s n G V K) (h1 : G.st = 7) {d : Int} (hd : nth14 V (ad17 G 5 (G.head % (G.R : Int)) 0) = d) (hr : 0 ≤ d ∧ d < (G.R : Int)) (hn : d ∉ hs17 G) :
    Rch17 E s (n + 1) { G with slot := d, st := 8 } V K := by
  refine h.to ?_ ?_ ?_
  · simp [aft17, tch17, aN17, dN14, h1, hd, hr, hn]
  · simp [aV17, dV14, tch17, h1]
  · simp [aK17, dK14, tch17, h1]

/-- The number of words. -/
theorem Rch17.len (h : Rch17 E s n G V K) (h1 : G.st = 8) {c : Int} (hc : nth14 V (ad17 G 7 G.slot 0) = c) (h8 : c ≤ 8) :
    Rch17 E s (n + 1) (wor17 { G with cnt := c }) V K := by
  refine h.to ?_ ?_ ?_
  · have : ¬ (8 < c) := by omega
    simp [aft17, tch17, aN17, dN14, h1, hc, this]
  · simp [aV17, dV14, tch17, h1]
  · simp [aK17, dK14, tch17, h1]

/-- The words of a slot. -/
def wds17 (V : List Int) (G : Tk) (c : Nat) : List Int := (List.range c).map (fun (i : Nat) => nth14 V (ad17 G 8 G.slot (i : Int)))
theorem wds17_len (V : List Int) (G : Tk) (c : Nat) : (wds17 V G c).length = c := by simp [wds17]
theorem wds17_more (V : List Int) (G : Tk) (c : Nat) : wds17 V G (c + 1) = wds17 V G c ++ [nth14 V (ad17 G 8 G.slot (c : Int))] := by simp [wds17, List.range_succ]

/-- The words are read. -/
theorem Rch17.words {c : Nat} (hc : G.cnt = (c : Int)) : ∀ (m : Nat) (j : Nat) (n : Nat), c = j + m → Rch17 E s n (wor17 { G with load := wds17 V G j }) V K →
    ∃ n', Rch17 E s n' { G with st := 14, load := wds17 V G c } V K := by
  intro m
  induction m with
  | zero =>
    intro j n hj h
    obtain rfl : j = c := by omega
    have hw : wor17 { G with load := wds17 V G j } = { G with st := 14, load := wds17 V G j } := by
      unfold wor17
      rw [if_neg (by show ¬ (((wds17 V G j).length : Int) < G.cnt); rw [wds17_len, hc]; omega)]
    exact ⟨n, by rw [← hw]; exact h⟩
  | succ m ih =>
    intro j n hj h
    have hw : wor17 { G with load := wds17 V G j } = { G with load := wds17 V G j, st := 9 } := by
      unfold wor17
      rw [if_pos (by show ((wds17 V G j).length : Int) < G.cnt; rw [wds17_len, hc]; omega)]
    rw [hw] at h
    have h2 := h.to (G' := wor17 { G with load := wds17 V G (j + 1) }) (V' := V) (K' := K) (by simp [aft17, wor17, tch17, aN17, dN14, ad17, wds17_more, wds17_len]) (by simp [aV17, dV14, tch17]) (by simp [aK17, dK14, tch17])
    exact ih (j + 1) (n + 1) (by omega) h2

/-- The call is over; the epoch is the known one. -/
theorem Rch17.took (h : Rch17 E s n G V K) (ho : Ok17 s.G) (h0 : s.G.st ≠ 0) (h1 : G.st = 14) (he : nth14 E G.peer = G.known) (hr : G.res = 0) (hl : G.rel = false) :
    Over17 E s 0 (idle17 { G with head := addW G.head 1, tab := giveL15 G.tab G.slot, gl := G.load, gh := giveV15 G.tab G.slot }) V K := by
  refine h.fin ho h0 ?_ ?_ ?_
  · simp [aft17, tch17, aN17, dN14, h1, he, hr, hl, judT17, judE17, idle17]
  · simp [aV17, dV14, tch17, h1]
  · simp [aK17, dK14, tch17, h1]
theorem Rch17.over (h : Rch17 E s n G V K) (ho : Ok17 s.G) (h0 : s.G.st ≠ 0) (h1 : G.st = 14) (he : nth14 E G.peer = G.known) (hr : G.res ≠ 0) : Over17 E s G.res (idle17 G) V K := by
  refine h.fin ho h0 ?_ ?_ ?_
  · simp [aft17, tch17, aN17, dN14, h1, he, hr, judT17, judE17, idle17]
  · simp [aV17, dV14, tch17, h1]
  · simp [aK17, dK14, tch17, h1]

/-- A slot is returned. -/
theorem Rch17.back (h : Rch17 E s n G V K) (ho : Ok17 s.G) (h0 : s.G.st ≠ 0) (h1 : G.st = 10) (he : nth14 E G.peer = G.known) (hr : G.res = 0) (hl : G.rel = true) :
    Over17 E s 0 (idle17 { G with used := addW G.used 1 }) (put14 (put14 V (ad17 G 6 (G.used % (G.R : Int)) 0) (G.slot % 65536)) (ad17 G 4 0 0) (addW G.used 1)) K := by
  have hep := addW_bd G.used 1
  have a1 := h.to (G' := { G with st := 11 }) (V' := put14 V (ad17 G 6 (G.used % (G.R : Int)) 0) (G.slot % 65536)) (K' := K) (by simp [aft17, h1]) (by simp [aV17, dV14, tch17, h1]) (by simp [aK17, dK14, tch17, h1])
  have a2 := a1.to (G' := { G with st := 12 }) (V' := put14 V (ad17 G 6 (G.used % (G.R : Int)) 0) (G.slot % 65536)) (K' := K) (by simp [aft17]) (by simp [aV17, dV14, tch17]) (by simp [aK17, dK14, tch17])
  have a3 := a2.to (G' := { G with st := 13 }) (V' := put14 (put14 V (ad17 G 6 (G.used % (G.R : Int)) 0) (G.slot % 65536)) (ad17 G 4 0 0) (addW G.used 1)) (K' := K) (by simp [aft17]) (by simp [aV17, dV14, tch17, ad17]; rw [Int.emod_eq_of_lt hep.1 (by omega)]) (by simp [aK17, dK14, tch17])
  have a4 := a3.to (G' := { G with st := 14 }) (V' := put14 (put14 V (ad17 G 6 (G.used % (G.R : Int)) 0) (G.slot % 65536)) (ad17 G 4 0 0) (addW G.used 1)) (K' := K) (by simp [aft17]) (by simp [aV17, dV14, tch17]) (by simp [aK17, dK14, tch17])
  refine a4.fin ho h0 ?_ ?_ ?_
  · simp [aft17, tch17, aN17, dN14, he, hr, hl, judT17, judE17, idle17]
  · simp [aV17, dV14, tch17]
  · simp [aK17, dK14, tch17]
end

/-- A call that looks: to the look. -/
theorem look17 {E : List Int} {s : Run17} (h1 : s.G.st = 1) (hk : s.G.knows = true) (he : nth14 E s.G.peer = s.G.known) (hr : s.G.rel = false) (hl : s.G.linked = true ∨ nth14 s.V (ad17 s.G 1 0 0) = ep17 s.G) :
    ∃ n, Rch17 E s n { s.G with linked := true, st := 6 } s.V s.K := by
  have a1 := (Rch17.zero (E := E) s).ask h1 hk he
  by_cases hlk : s.G.linked = true
  · refine ⟨1, ?_⟩
    rw [if_pos hlk, if_neg (by rw [hr]; decide)] at a1
    have e : ({ s.G with linked := true, st := 6 } : Tk) = { s.G with st := 6 } := by rw [← hlk]
    rw [e]
    exact a1
  · rw [if_neg hlk] at a1
    exact ⟨2, a1.link rfl (hl.resolve_left hlk)⟩

/-- A Recv that ends well. -/
theorem recv17_call {E : List Int} {s : Run17} (ho : Ok17 s.G) (h1 : s.G.st = 1) (hk : s.G.knows = true) (he : nth14 E s.G.peer = s.G.known) (hr : s.G.rel = false) (hl : s.G.linked = true ∨ nth14 s.V (ad17 s.G 1 0 0) = ep17 s.G)
    (hL0 : s.G.load = []) (hu : looE17 s.G (subW (nth14 s.V (ad17 s.G 3 0 0)) s.G.head) = 0) {d : Int} (hd : nth14 s.V (ad17 s.G 5 (s.G.head % (s.G.R : Int)) 0) = d) (hdr : 0 ≤ d ∧ d < (s.G.R : Int)) (hdn : d ∉ hs17 s.G) {c : Nat} (hc : nth14 s.V (ad17 s.G 7 d 0) = (c : Int)) (hc8 : c ≤ 8) :
    Over17 E s 0 (idle17 { s.G with linked := true, head := addW s.G.head 1, tab := giveL15 s.G.tab d, gl := wds17 s.V { s.G with slot := d } c, gh := giveV15 s.G.tab d }) s.V s.K := by
  have h0 : s.G.st ≠ 0 := by omega
  obtain ⟨n, a2⟩ := look17 h1 hk he hr hl
  have a3 := a2.look rfl (e := 0) hu
  rw [if_pos rfl] at a3
  have a4 := a3.avail rfl (d := d) hd hdr hdn
  have a5 := a4.len rfl (c := (c : Int)) hc (by omega)
  obtain ⟨G6, hG6⟩ : ∃ G6 : Tk, G6 = { s.G with linked := true, st := 8, res := 0, slot := d, cnt := (c : Int) } := ⟨_, rfl⟩
  have hw : ∀ m, wds17 s.V G6 m = wds17 s.V { s.G with slot := d } m := fun m => by rw [hG6]; rfl
  have a6 : Rch17 E s (n + 1 + 1 + 1) (wor17 { G6 with load := wds17 s.V G6 0 }) s.V s.K := by
    have e : ({ G6 with load := wds17 s.V G6 0 } : Tk) = { s.G with linked := true, st := 8, res := 0, slot := d, cnt := (c : Int) } := by
      rw [hG6]
      show ({ s.G with linked := true, st := 8, res := 0, slot := d, cnt := (c : Int), load := [] } : Tk) = _
      rw [← hL0]
    rw [e]
    exact a5
  obtain ⟨n7, a7⟩ := a6.words (c := c) (by rw [hG6]) c 0 _ (by omega)
  have a8 := a7.took ho h0 rfl (by rw [hG6]; exact he) (by rw [hG6]) (by rw [hG6]; exact hr)
  rw [hw] at a8
  rw [hG6] at a8
  exact a8

/-- A Recv that finds nothing. -/
theorem recv17_empty {E : List Int} {s : Run17} (ho : Ok17 s.G) (h1 : s.G.st = 1) (hk : s.G.knows = true) (he : nth14 E s.G.peer = s.G.known) (hr : s.G.rel = false) (hl : s.G.linked = true ∨ nth14 s.V (ad17 s.G 1 0 0) = ep17 s.G)
    (hu : nth14 s.V (ad17 s.G 3 0 0) = s.G.head) :
    Over17 E s 6 (idle17 { s.G with linked := true }) s.V s.K := by
  have h0 : s.G.st ≠ 0 := by omega
  obtain ⟨n, a2⟩ := look17 h1 hk he hr hl
  have e0 : subW s.G.head s.G.head = 0 := by unfold subW; omega
  have a3 := a2.look rfl (e := 6) (by
    show looE17 _ (subW (nth14 s.V (ad17 s.G 3 0 0)) s.G.head) = 6
    rw [hu, e0]
    exact if_pos rfl)
  rw [if_neg (by omega)] at a3
  exact a3.over ho h0 rfl he (by show (6 : Int) ≠ 0; omega)

/-- A Release that ends well. -/
theorem rel17_call {E : List Int} {s : Run17} (ho : Ok17 s.G) (h1 : s.G.st = 1) (hk : s.G.knows = true) (he : nth14 E s.G.peer = s.G.known) (hr : s.G.rel = true) (hl : s.G.linked = true) (hs : s.G.res = 0) :
    Over17 E s 0 (idle17 { s.G with used := addW s.G.used 1 }) (put14 (put14 s.V (ad17 s.G 6 (s.G.used % (s.G.R : Int)) 0) (s.G.slot % 65536)) (ad17 s.G 4 0 0) (addW s.G.used 1)) s.K := by
  have h0 : s.G.st ≠ 0 := by omega
  have a1 := (Rch17.zero (E := E) s).ask h1 hk he
  rw [if_pos hl, if_pos hr] at a1
  exact a1.back ho h0 rfl he hs hr

#print axioms recv17_call
#print axioms recv17_empty
#print axioms rel17_call
end Go.Proofs.YtgdbaaoifnedbaaDoor
