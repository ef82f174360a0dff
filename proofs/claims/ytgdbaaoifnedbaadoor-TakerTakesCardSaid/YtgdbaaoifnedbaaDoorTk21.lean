/-
  Layer 17 (taker): the calls of the law TakerTakes, in numbers.
  Conditions: those that each theorem states.
-/
import Derived.Test.YtgdbaaoifnedbaaDoorTk13
namespace Go.Proofs.YtgdbaaoifnedbaaDoor
open Go.ChangeShapes Go.WideShapes Go.ChangeAt Go.RowKit

/-- The table behind k messages: the last k slots are held. -/
def tt17 (R k : Nat) : List (Int × Bool) := (List.range R).map fun s => if R - 1 - s < k then (1, true) else (0, false)
theorem tt17_len (R k : Nat) : (tt17 R k).length = R := by simp [tt17]
theorem tt17_at {R k s : Nat} (h : s < R) : (tt17 R k)[s]? = some (if R - 1 - s < k then (1, true) else (0, false)) := by
  simp [tt17, h]
theorem tt17_zero (R : Nat) : tt17 R 0 = new15 R := by
  refine List.ext_getElem? fun i => ?_
  by_cases h : i < R
  · rw [tt17_at h]
    simp [new15, h]
  · rw [List.getElem?_eq_none (by rw [tt17_len]; omega), List.getElem?_eq_none (by simp [new15]; omega)]
theorem tt17_give {R k : Nat} (h : k < R) : giveL15 (tt17 R k) ((R - 1 - k : Nat) : Int) = tt17 R (k + 1) ∧ giveV15 (tt17 R k) ((R - 1 - k : Nat) : Int) = 64 + ((R - 1 - k : Nat) : Int) := by
  have e : at15 (tt17 R k) ((R - 1 - k : Nat) : Int) = some (0, false) := by
    rw [at15_nat, tt17_at (by omega), if_neg (by omega)]
  unfold giveL15 giveV15
  rw [e]
  refine ⟨?_, by show addW 0 1 * 64 + _ = _; rw [show addW 0 1 = 1 by decide]; omega⟩
  show (tt17 R k).set ((R - 1 - k : Nat) : Int).toNat (addW 0 1, true) = _
  rw [Int.toNat_natCast, show addW 0 1 = 1 by decide]
  refine List.ext_getElem? fun i => ?_
  by_cases hi : i < R
  · rw [tt17_at hi, List.getElem?_set]
    by_cases he : R - 1 - k = i
    · rw [if_pos he, if_pos (by rw [tt17_len]; omega), if_pos (by omega)]
    · rw [if_neg he, tt17_at hi]
      by_cases hk : R - 1 - i < k
      · rw [if_pos hk, if_pos (by omega)]
      · rw [if_neg hk, if_neg (by omega)]
  · rw [List.getElem?_eq_none (by rw [List.length_set, tt17_len]; omega), List.getElem?_eq_none (by rw [tt17_len]; omega)]
theorem tt17_on {R k : Nat} (hk : k ≤ R) : ∀ m, m ≤ R → (onN15 (tt17 R k) m).length = m - (R - k)
  | 0, _ => by simp [onN15]
  | m + 1, hm => by
    have ih := tt17_on hk m (by omega)
    rw [onN15, List.length_append, ih, tt17_at (by omega)]
    by_cases h : R - 1 - m < k
    · rw [if_pos h]
      simp
      omega
    · rw [if_neg h]
      simp
      omega
theorem tt17_held {R k : Nat} (hk : k ≤ R) : (onL15 (tt17 R k) (tt17 R k).length).length = k := by
  rw [tt17_len]
  unfold onL15
  rw [List.length_map, tt17_on hk R (Nat.le_refl _)]
  omega
theorem tt17_off {R k : Nat} (hk : k < R) : ((R - 1 - k : Nat) : Int) ∉ onL15 (tt17 R k) (tt17 R k).length := by
  intro h
  unfold onL15 at h
  obtain ⟨i, hi, he⟩ := List.mem_map.1 h
  obtain ⟨h1, e, h2⟩ := onN15_mem hi
  obtain rfl : i = R - 1 - k := by omega
  rw [tt17_at (by omega), if_neg (by omega)] at h2
  injection h2 with h2
  injection h2 with _ h2
  cases h2

/-- What holds of the taker's numbers between two calls of the law. -/
structure Tak17 (R : Nat) (G : Tk) : Prop where
  ok : Ok17 G
  st : G.st = 0
  B : G.B = 0
  R : G.R = R
  peer : G.peer = 1
  own : G.own = 0
  knows : G.knows = true
  known : G.known = 0

/-- A word's place in the channel. -/
def of17 (R : Nat) (f s i : Int) : Int := offP (R : Int) f s i
theorem Tak17.ad {R : Nat} {G : Tk} (t : Tak17 R G) {f s i : Int} (h : okWord (R : Int) f s i) : ad17 G f s i = of17 R f s i := by
  rw [ad17_ok (by rw [t.R]; exact h), t.B, t.R]
  unfold of17
  omega
theorem nth17_of {R : Nat} (hR : okRing (R : Int)) {V : List Int} (hV : V.length = 4 + 11 * R) {f s i : Int} (h : okWord (R : Int) f s i) {f' s' i' : Int} (h' : okWord (R : Int) f' s' i') (y : Int) :
    nth14 (put14 V (of17 R f s i) y) (of17 R f' s' i') = if f' = f ∧ s' = s ∧ i' = i then y else nth14 V (of17 R f' s' i') := by
  rw [nth17_put]
  have hb := off_bd hR h
  have hin : in14 V (of17 R f s i) = true := by
    unfold of17
    simp [in14, hV]
    omega
  by_cases e : f' = f ∧ s' = s ∧ i' = i
  · obtain ⟨rfl, rfl, rfl⟩ := e
    rw [if_pos ⟨rfl, hin⟩, if_pos ⟨rfl, rfl, rfl⟩]
  · rw [if_neg (fun k => e (off_inj hR h' h k.1)), if_neg e]

/-- Message number i lies in the memory: its slot's number, its length, its words. -/
structure Msg17 (R : Nat) (V : List Int) (X : Nat → Nat → Int) (i : Nat) : Prop where
  avail : nth14 V (of17 R 5 (i : Int) 0) = ((R - 1 - i : Nat) : Int)
  len : nth14 V (of17 R 7 ((R - 1 - i : Nat) : Int) 0) = ((1 + i % 8 : Nat) : Int)
  word : ∀ j : Nat, j ≤ i % 8 → nth14 V (of17 R 8 ((R - 1 - i : Nat) : Int) (j : Int)) = X i j

theorem w17_5 {R i : Nat} (h : i < R) : okWord (R : Int) 5 (i : Int) 0 := .inr (.inl ⟨by omega, by omega, by omega, by omega, rfl⟩)
theorem w17_6 {R i : Nat} (h : i < R) : okWord (R : Int) 6 (i : Int) 0 := .inr (.inl ⟨by omega, by omega, by omega, by omega, rfl⟩)
theorem w17_7 {R i : Nat} (h : i < R) : okWord (R : Int) 7 (i : Int) 0 := .inr (.inl ⟨by omega, by omega, by omega, by omega, rfl⟩)
theorem w17_8 {R i j : Nat} (h : i < R) (hj : j < 8) : okWord (R : Int) 8 (i : Int) (j : Int) := .inr (.inr ⟨rfl, by omega, by omega, by omega, by omega⟩)
theorem of17_low (R : Nat) (f : Int) (h : 1 ≤ f ∧ f ≤ 4) : of17 R f 0 0 = f - 1 := by
  unfold of17 offP
  rw [if_pos h.2]

section
variable {R n k : Nat} {G : Tk} {V K : List Int} {X : Nat → Nat → Int}

/-- The next message is received. -/
theorem take17_recv (hR : okRing (R : Int)) (hn : n ≤ R) (hk : k < n) (t : Tak17 R G) (hh : G.head = (k : Int)) (ht : G.tab = tt17 R k) (hu : G.used = 0) (h0 : nth14 V 0 = 0) (h2 : nth14 V 2 = (n : Int)) (hm : Msg17 R V X k) :
    ∃ G', Over17 [0, 0, 0] ⟨recT17 G, V, K, []⟩ 0 G' V K ∧ Tak17 R G' ∧ G'.head = ((k + 1 : Nat) : Int) ∧ G'.tab = tt17 R (k + 1) ∧ G'.used = 0 ∧ G'.linked = true ∧ G'.gl = (List.range (1 + k % 8)).map (X k) ∧ G'.gh = 64 + ((R - 1 - k : Nat) : Int) := by
  have hb := hR.bd
  have hG : recT17 G = begin17 G false 0 := (lk_rec t.st).1
  have hoo := ok17_rec t.ok
  rw [hG] at hoo ⊢
  have tb : Tak17 R { begin17 G false 0 with st := 0 } := ⟨⟨hoo.ins, hoo.B, hoo.R, by show 0 ≤ 14; omega, hoo.head, hoo.used, hoo.tab, hoo.slot, hoo.load, fun h => absurd h (by show ¬ (0 = 9); omega), hoo.gl⟩, rfl, t.B, t.R, t.peer, t.own, t.knows, t.known⟩
  have had : ∀ {f s i : Int}, okWord (R : Int) f s i → ad17 (begin17 G false 0) f s i = of17 R f s i := fun h => tb.ad h
  have hw1 : okWord (R : Int) 1 0 0 := w17_ok 1 (by omega)
  have hw3 : okWord (R : Int) 3 0 0 := w17_ok 3 (by omega)
  have hd : k < R := by omega
  have hc := recv17_call (E := [0, 0, 0]) (s := ⟨begin17 G false 0, V, K, []⟩) hoo rfl t.knows (by show nth14 [0, 0, 0] G.peer = G.known; rw [t.peer, t.known]; rfl) rfl
    (.inr (by show nth14 V (ad17 (begin17 G false 0) 1 0 0) = addW G.own G.known; rw [had hw1, of17_low R 1 (by omega), t.own, t.known]; exact h0)) rfl
    (by
      show looE17 (begin17 G false 0) (subW (nth14 V (ad17 (begin17 G false 0) 3 0 0)) G.head) = 0
      rw [had hw3, of17_low R 3 (by omega), show (3 : Int) - 1 = 2 by omega, h2, hh]
      have hs : subW (n : Int) (k : Int) = ((n - k : Nat) : Int) := by unfold subW; omega
      rw [hs]
      unfold looE17
      rw [if_neg (by omega), if_neg]
      have e1 : (hs17 (begin17 G false 0)).length = k := by
        show (onL15 G.tab G.tab.length).length = k
        rw [ht]
        exact tt17_held (by omega)
      rw [e1]
      have e2 : (begin17 G false 0).R = R := t.R
      rw [e2]
      omega)
    (d := ((R - 1 - k : Nat) : Int)) (by
      show nth14 V (ad17 (begin17 G false 0) 5 (G.head % (G.R : Int)) 0) = _
      rw [hh, t.R, show ((k : Int) % (R : Int)) = (k : Int) from Int.emod_eq_of_lt (by omega) (by omega), had (w17_5 hd)]
      exact hm.avail)
    (by show (0 : Int) ≤ _ ∧ _ < (G.R : Int); rw [t.R]; omega)
    (by
      show _ ∉ onL15 G.tab G.tab.length
      rw [ht]
      exact tt17_off hd)
    (c := 1 + k % 8) (by
      show nth14 V (ad17 (begin17 G false 0) 7 ((R - 1 - k : Nat) : Int) 0) = _
      rw [had (w17_7 (by omega))]
      exact hm.len) (by omega)
  obtain ⟨g1, g2⟩ := tt17_give hd
  have ht' : (begin17 G false 0).tab = tt17 R k := ht
  have hh' : (begin17 G false 0).head = (k : Int) := hh
  have hadd : addW (k : Int) 1 = ((k + 1 : Nat) : Int) := by unfold addW; omega
  have hwd : wds17 V { begin17 G false 0 with slot := ((R - 1 - k : Nat) : Int) } (1 + k % 8) = (List.range (1 + k % 8)).map (X k) := by
    unfold wds17
    refine List.map_congr_left fun j hj => ?_
    have hj8 : j < 1 + k % 8 := List.mem_range.1 hj
    show nth14 V (ad17 (begin17 G false 0) 8 ((R - 1 - k : Nat) : Int) (j : Int)) = _
    rw [had (w17_8 (by omega) (by omega))]
    exact hm.word j (by omega)
  simp only [ht', hh', g1, g2, hadd] at hc
  exact ⟨_, hc, ⟨hc.ok hoo, rfl, t.B, t.R, t.peer, t.own, t.knows, t.known⟩, rfl, rfl, hu, rfl, hwd, rfl⟩

/-- There is none. -/
theorem take17_none (t : Tak17 R G) (hh : G.head = (n : Int)) (h0 : nth14 V 0 = 0) (h2 : nth14 V 2 = (n : Int)) :
    ∃ G', Over17 [0, 0, 0] ⟨recT17 G, V, K, []⟩ 6 G' V K ∧ Tak17 R G' ∧ G'.tab = G.tab ∧ G'.used = G.used ∧ G'.linked = true ∧ gotL17 G' = [] ∧ G'.gh = 0 ∧ G'.gl = [] := by
  have hG : recT17 G = begin17 G false 0 := (lk_rec t.st).1
  have hoo := ok17_rec t.ok
  rw [hG] at hoo ⊢
  have tb : Tak17 R { begin17 G false 0 with st := 0 } := ⟨⟨hoo.ins, hoo.B, hoo.R, by show 0 ≤ 14; omega, hoo.head, hoo.used, hoo.tab, hoo.slot, hoo.load, fun h => absurd h (by show ¬ (0 = 9); omega), hoo.gl⟩, rfl, t.B, t.R, t.peer, t.own, t.knows, t.known⟩
  have had : ∀ {f s i : Int}, okWord (R : Int) f s i → ad17 (begin17 G false 0) f s i = of17 R f s i := fun h => tb.ad h
  have hw1 : okWord (R : Int) 1 0 0 := w17_ok 1 (by omega)
  have hw3 : okWord (R : Int) 3 0 0 := w17_ok 3 (by omega)
  have hc := recv17_empty (E := [0, 0, 0]) (s := ⟨begin17 G false 0, V, K, []⟩) hoo rfl t.knows (by show nth14 [0, 0, 0] G.peer = G.known; rw [t.peer, t.known]; rfl) rfl
    (.inr (by show nth14 V (ad17 (begin17 G false 0) 1 0 0) = addW G.own G.known; rw [had hw1, of17_low R 1 (by omega), t.own, t.known]; exact h0))
    (by show nth14 V (ad17 (begin17 G false 0) 3 0 0) = G.head; rw [had hw3, of17_low R 3 (by omega), hh]; exact h2)
  exact ⟨_, hc, ⟨hc.ok hoo, rfl, t.B, t.R, t.peer, t.own, t.knows, t.known⟩, rfl, rfl, rfl, if_pos rfl, rfl, rfl⟩

/-- Just the slots of S are held, each with the generation 1. -/
structure Tab17 (R : Nat) (l : List (Int × Bool)) (S : List Nat) : Prop where
  nodup : S.Nodup
  mem : ∀ s, s ∈ S → s < R ∧ l[s]? = some (1, true)
  off : ∀ s, s ∉ S → ∀ e, l[s]? ≠ some (e, true)

theorem Tab17.new (hn : n ≤ R) : Tab17 R (tt17 R n) ((List.range n).map fun i => R - 1 - i) := by
  refine ⟨?_, fun s hs => ?_, fun s hs e h => ?_⟩
  · show List.Pairwise (· ≠ ·) _
    rw [List.pairwise_map]
    exact List.Pairwise.imp_of_mem (fun ha hb hab e => hab (by have := List.mem_range.1 ha; have := List.mem_range.1 hb; omega)) (List.nodup_range (n := n))
  · obtain ⟨i, hi, rfl⟩ := List.mem_map.1 hs
    have := List.mem_range.1 hi
    exact ⟨by omega, by rw [tt17_at (by omega), if_pos (by omega)]⟩
  · by_cases hR : s < R
    · rw [tt17_at hR] at h
      by_cases hk : R - 1 - s < n
      · exact hs (List.mem_map.2 ⟨R - 1 - s, List.mem_range.2 hk, by omega⟩)
      · rw [if_neg hk] at h
        injection h with h
        injection h with _ h
        cases h
    · rw [List.getElem?_eq_none (by rw [tt17_len]; omega)] at h
      cases h

/-- A slot is returned. -/
theorem take17_back {i : Nat} {A B : List Nat} {s : Nat} (hR : okRing (R : Int)) (hV : V.length = 4 + 11 * R) (hi : i < R) (t : Tak17 R G) (hlk : G.linked = true) (hu : G.used = (i : Int)) (ht : Tab17 R G.tab (A ++ s :: B)) :
    slotV15 G.tab (64 + (s : Int)) = (s : Int) ∧ slotB15 G.tab (64 + (s : Int)) = true ∧ relE17 G (64 + (s : Int)) = 0 ∧ pot17 (relT17 G (64 + (s : Int))) ≤ 100 ∧
    ∃ G' V', Over17 [0, 0, 0] ⟨relT17 G (64 + (s : Int)), V, K, []⟩ 0 G' V' K ∧ Tak17 R G' ∧ G'.linked = true ∧ G'.used = ((i + 1 : Nat) : Int) ∧ Tab17 R G'.tab (A ++ B) ∧ V'.length = 4 + 11 * R ∧ nth14 V' (of17 R 6 (i : Int) 0) = (s : Int) ∧ nth14 V' 3 = ((i + 1 : Nat) : Int) ∧ relE17 G' (64 + (s : Int)) = 7 ∧ relT17 G' (64 + (s : Int)) = G' := by
  have hb := hR.bd
  obtain ⟨hs, hx⟩ := ht.mem s (by simp)
  have hso : slotO15 G.tab (64 + (s : Int)) = some s := by
    have := slotO15_yes hx (by omega) (by omega)
    rw [show (1 : Int) * 64 + (s : Int) = 64 + (s : Int) by omega] at this
    exact this
  have hde : dropE15 G.tab (64 + (s : Int)) = 0 := by unfold dropE15; rw [hso]
  have hdl : dropL15 G.tab (64 + (s : Int)) = G.tab.set s (1, false) := by
    unfold dropL15
    rw [hso]
    show offL15 G.tab s = _
    unfold offL15
    rw [hx]
  have hsv : slotV15 G.tab (64 + (s : Int)) = (s : Int) := by unfold slotV15; rw [hso]
  have hre : relE17 G (64 + (s : Int)) = 0 := by unfold relE17; rw [if_pos t.st, hde]
  have hrt : relT17 G (64 + (s : Int)) = begin17 { G with tab := G.tab.set s (1, false) } true (s : Int) := by
    unfold relT17
    rw [if_pos ⟨t.st, hde⟩, hdl, hsv]
  have hoo := ok17_rel t.ok (64 + (s : Int))
  refine ⟨hsv, by unfold slotB15; rw [hso]; rfl, hre, by rw [hrt]; show 14 ≤ 100; omega, ?_⟩
  rw [hrt] at hoo ⊢
  have hc := rel17_call (E := [0, 0, 0]) (s := ⟨begin17 { G with tab := G.tab.set s (1, false) } true (s : Int), V, K, []⟩) hoo rfl t.knows (by show nth14 [0, 0, 0] G.peer = G.known; rw [t.peer, t.known]; rfl) rfl hlk rfl
  have tb : Tak17 R { begin17 { G with tab := G.tab.set s (1, false) } true (s : Int) with st := 0 } := ⟨⟨hoo.ins, hoo.B, hoo.R, by show 0 ≤ 14; omega, hoo.head, hoo.used, hoo.tab, hoo.slot, hoo.load, fun h => absurd h (by show ¬ (0 = 9); omega), hoo.gl⟩, rfl, t.B, t.R, t.peer, t.own, t.knows, t.known⟩
  have had : ∀ {f s' i' : Int}, okWord (R : Int) f s' i' → ad17 (begin17 { G with tab := G.tab.set s (1, false) } true (s : Int)) f s' i' = of17 R f s' i' := fun h => tb.ad h
  have hus : (begin17 { G with tab := G.tab.set s (1, false) } true (s : Int)).used = (i : Int) := hu
  have hRR : (begin17 { G with tab := G.tab.set s (1, false) } true (s : Int)).R = R := t.R
  have hsl : (begin17 { G with tab := G.tab.set s (1, false) } true (s : Int)).slot = (s : Int) := rfl
  have hadd : addW (i : Int) 1 = ((i + 1 : Nat) : Int) := by unfold addW; omega
  have hmod : ((i : Int) % (R : Int)) = (i : Int) := Int.emod_eq_of_lt (by omega) (by omega)
  have hsm : (s : Int) % 65536 = (s : Int) := Int.emod_eq_of_lt (by omega) (by omega)
  have hw4 : okWord (R : Int) 4 0 0 := w17_ok 4 (by omega)
  have h6 := w17_6 (R := R) hi
  simp only [hus, hRR, hsl, hadd, hmod, hsm, had h6, had hw4] at hc
  have hT : Tab17 R (G.tab.set s (1, false)) (A ++ B) := by
    have hnd := (List.perm_middle (l₁ := A) (l₂ := B) (a := s)).nodup_iff.1 ht.nodup
    have hnd' := List.nodup_cons.1 hnd
    refine ⟨hnd'.2, fun s' hs' => ?_, fun s' hs' e h => ?_⟩
    · have hne : s' ≠ s := fun e => hnd'.1 (by rw [← e]; exact hs')
      obtain ⟨h1, h2⟩ := ht.mem s' (by
        rcases List.mem_append.1 hs' with h | h
        · exact List.mem_append_left _ h
        · exact List.mem_append_right _ (List.mem_cons_of_mem _ h))
      exact ⟨h1, by rw [List.getElem?_set_ne (by omega)]; exact h2⟩
    · by_cases he : s' = s
      · subst he
        rw [List.getElem?_set] at h
        simp only [if_true] at h
        split at h
        · injection h with h; injection h with _ h; cases h
        · cases h
      · rw [List.getElem?_set_ne (by omega)] at h
        refine ht.off s' (fun hm => ?_) e h
        rcases List.mem_append.1 hm with hm | hm
        · exact hs' (List.mem_append_left _ hm)
        · rcases List.mem_cons.1 hm with hm | hm
          · exact he hm
          · exact hs' (List.mem_append_right _ hm)
  have hag : dropE15 (G.tab.set s (1, false)) (64 + (s : Int)) = 7 := by
    unfold dropE15
    cases hq : slotO15 (G.tab.set s (1, false)) (64 + (s : Int)) with
    | none => rfl
    | some q =>
      exfalso
      obtain ⟨e, h1, h2⟩ := slotO15_is hq
      have hql : q < R := by have := lt_of_at h1; rw [List.length_set, t.ok.tab, t.R] at this; exact this
      by_cases hqs : q = s
      · subst hqs
        rw [List.getElem?_set] at h1
        simp only [if_true] at h1
        split at h1
        · injection h1 with h1; injection h1 with _ h1; cases h1
        · cases h1
      · omega
  refine ⟨_, _, hc, ⟨hc.ok hoo, rfl, t.B, rfl, t.peer, t.own, t.knows, t.known⟩, hlk, rfl, hT, ?_, ?_, ?_, ?_, ?_⟩
  · rw [put14_len, put14_len, hV]
  · rw [nth17_of hR (by rw [put14_len, hV]) hw4 h6, if_neg (by omega), nth17_of hR hV h6 h6, if_pos ⟨rfl, rfl, rfl⟩]
  · have := nth17_of hR (V := put14 V (of17 R 6 (i : Int) 0) (s : Int)) (by rw [put14_len, hV]) hw4 hw4 ((i + 1 : Nat) : Int)
    rw [if_pos ⟨rfl, rfl, rfl⟩] at this
    exact this
  · show (if (0 : Nat) = 0 then dropE15 (G.tab.set s (1, false)) (64 + (s : Int)) else 11) = 7
    rw [if_pos rfl, hag]
  · refine rel17_no ?_
    show (if (0 : Nat) = 0 then dropE15 (G.tab.set s (1, false)) (64 + (s : Int)) else 11) ≠ 0
    rw [if_pos rfl, hag]
    omega

/-- In the end nothing is held. -/
theorem Tab17.none_ {l : List (Int × Bool)} (h : Tab17 R l []) (k : Nat) : onL15 l k = [] := by
  unfold onL15
  rw [onN15_none (fun i e => h.off i (by simp) e)]
  rfl
end

#print axioms take17_recv
#print axioms take17_none
#print axioms take17_back
end Go.Proofs.YtgdbaaoifnedbaaDoor
