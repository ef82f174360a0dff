/-
  Layer 17 (taker): the four calls of the law TakerLinks, in numbers.
  Conditions: those that each theorem states.
-/
import Derived.Test.YtgdbaaoifnedbaaDoorTk12
namespace Go.Proofs.YtgdbaaoifnedbaaDoor
open Go.ChangeShapes Go.WideShapes Go.ChangeAt Go.RowKit

theorem ad17_ok {G : Tk} {f s i : Int} (h : okWord (G.R : Int) f s i) : ad17 G f s i = G.B + offP (G.R : Int) f s i := by
  unfold ad17 atV13
  rw [if_pos h]
theorem w17_ok {R : Int} (f : Int) (h : 1 ≤ f ∧ f ≤ 4) : okWord R f 0 0 := .inl ⟨h.1, h.2, rfl, rfl⟩
theorem lj_ad (G : Tk) (hB : G.B = 0) (f : Int) (h : 1 ≤ f ∧ f ≤ 4) : ad17 G f 0 0 = f - 1 := by
  rw [ad17_ok (w17_ok f h), hB]
  unfold offP
  rw [if_pos h.2]
  omega
theorem lj_ad5 (G : Tk) (hB : G.B = 0) (hR : 1 ≤ G.R) : ad17 G 5 0 0 = 4 := by
  rw [ad17_ok (.inr (.inl ⟨by omega, by omega, by omega, by omega, rfl⟩)), hB]
  unfold offP
  simp
theorem lj_ad7 (G : Tk) (hB : G.B = 0) (hR : 1 ≤ G.R) : 5 ≤ ad17 G 7 0 0 := by
  rw [ad17_ok (.inr (.inl ⟨by omega, by omega, by omega, by omega, rfl⟩)), hB]
  unfold offP
  simp
  omega

/-- No slot is held. -/
theorem onN15_none {l : List (Int × Bool)} (h : ∀ (i : Nat) (e : Int), l[i]? ≠ some (e, true)) : ∀ k, onN15 l k = []
  | 0 => rfl
  | k + 1 => by
    have h1 := onN15_none h k
    have h2 : ¬ (l[k]?).map (·.2) = some true := by
      intro e
      cases hx : l[k]? with
      | none => rw [hx] at e; cases e
      | some x =>
        obtain ⟨a, b⟩ := x
        rw [hx] at e
        simp only [Option.map_some, Option.some.injEq] at e
        subst e
        exact h k a hx
    simp only [onN15, h1, if_neg h2, List.append_nil]

/-- A table whose slot 0 alone was ever given. -/
def tb17 (R : Nat) (n : Int) (b : Bool) : List (Int × Bool) := (new15 R).set 0 (n, b)
section
variable {R : Nat} {n : Int} {b : Bool}
theorem tb17_len : (tb17 R n b).length = R := by simp [tb17, new15]
theorem tb17_at (h : 1 ≤ R) : (tb17 R n b)[0]? = some (n, b) := by
  have : 0 < (new15 R).length := by simp [new15]; omega
  simp [tb17, this]
theorem tb17_far {k : Nat} (h : k ≠ 0) (e : Int) : (tb17 R n b)[k]? ≠ some (e, true) := by
  intro hx
  unfold tb17 at hx
  rw [List.getElem?_set_ne (by omega)] at hx
  unfold new15 at hx
  rw [List.getElem?_replicate] at hx
  split at hx
  · injection hx with hx; injection hx with _ hx; cases hx
  · cases hx
theorem tb17_new (h : 1 ≤ R) : new15 R = tb17 R 0 false := by
  unfold tb17
  rw [set_same]
  unfold new15
  rw [List.getElem?_replicate, if_pos (by omega)]
theorem tb17_give (h : 1 ≤ R) : giveL15 (tb17 R n false) 0 = tb17 R (addW n 1) true ∧ giveV15 (tb17 R n false) 0 = addW n 1 * 64 := by
  have e : at15 (tb17 R n false) 0 = some (n, false) := by
    have := at15_nat (tb17 R n false) 0
    rw [tb17_at h] at this
    exact this
  unfold giveL15 giveV15
  rw [e]
  refine ⟨?_, by simp⟩
  show (tb17 R n false).set 0 (addW n 1, true) = _
  unfold tb17
  rw [List.set_set]
theorem tb17_slot (h : 1 ≤ R) (hn : 0 ≤ n) : slotO15 (tb17 R n true) (n * 64) = some 0 := by
  have := slotO15_yes (tb17_at (R := R) (n := n) (b := true) h) (by omega) hn
  simpa using this
theorem tb17_drop (h : 1 ≤ R) (hn : 0 ≤ n) : dropE15 (tb17 R n true) (n * 64) = 0 ∧ dropL15 (tb17 R n true) (n * 64) = tb17 R n false ∧ slotV15 (tb17 R n true) (n * 64) = 0 ∧ slotB15 (tb17 R n true) (n * 64) = true := by
  unfold dropE15 dropL15 slotV15 slotB15
  rw [tb17_slot h hn]
  refine ⟨rfl, ?_, rfl, rfl⟩
  show offL15 (tb17 R n true) 0 = _
  unfold offL15
  rw [tb17_at h]
  show (tb17 R n true).set 0 (n, false) = _
  unfold tb17
  rw [List.set_set]
theorem tb17_none (h : 1 ≤ R) (x : Int) : dropE15 (tb17 R n false) x = 7 := by
  unfold dropE15
  cases hs : slotO15 (tb17 R n false) x with
  | none => rfl
  | some k =>
    exfalso
    obtain ⟨e, hk, _⟩ := slotO15_is hs
    by_cases h0 : k = 0
    · rw [h0, tb17_at h] at hk
      injection hk with hk; injection hk with _ hk; cases hk
    · exact tb17_far h0 e hk
theorem tb17_clear : clearL15 (tb17 R n b) = tb17 R n false := by
  unfold clearL15 tb17
  rw [List.map_set]
  congr 1
  unfold new15
  simp
theorem tb17_off (h : 1 ≤ R) (k : Nat) : onL15 (tb17 R n false) k = [] := by
  unfold onL15
  rw [onN15_none (fun i e => ?_)]
  · rfl
  · by_cases h0 : i = 0
    · rw [h0, tb17_at h]
      simp
    · exact tb17_far h0 e
theorem tb17_on (h : 1 ≤ R) : ∀ k, onN15 (tb17 R n true) (k + 1) = [0]
  | 0 => by simp [onN15, tb17_at h]
  | k + 1 => by
    have h1 := tb17_on h k
    have h2 : ¬ ((tb17 R n true)[k + 1]?).map (·.2) = some true := by
      intro e
      cases hx : (tb17 R n true)[k + 1]? with
      | none => rw [hx] at e; cases e
      | some x =>
        obtain ⟨a, c⟩ := x
        rw [hx] at e
        simp only [Option.map_some, Option.some.injEq] at e
        subst e
        exact tb17_far (by omega) a hx
    rw [onN15, h1, if_neg h2]
    rfl
theorem tb17_held (h : 1 ≤ R) : onL15 (tb17 R n true) R = [0] := by
  obtain ⟨m, rfl⟩ : ∃ m, R = m + 1 := ⟨R - 1, by omega⟩
  unfold onL15
  rw [tb17_on h]
  rfl
end

def lk0 (R : Nat) : Tk := new17 0 R 1 0
def lk1 (R : Nat) : Tk := { lk0 R with linked := true, head := 1, tab := tb17 R 1 true, gl := [], gh := 64 }
def lk2 (R : Nat) (e : Int) : Tk := { lk0 R with known := e, tab := tb17 R 1 false }
def lk4 (R : Nat) (e : Int) : Tk := { lk2 R e with linked := true, head := 1, tab := tb17 R 2 true, gl := [], gh := 128 }

theorem nth17_mod (V : List Int) (i : Int) : nth14 (mod14 V) i = nth14 V i % 65536 := by
  unfold nth14
  have h : in14 (mod14 V) i = in14 V i := by simp [in14, mod14_len]
  rw [h]
  split
  · simp [mod14, List.getD]
    cases V[i.toNat]? <;> simp
  · rfl
theorem nth17_zeros (N : Nat) (i : Int) : nth14 (List.replicate N 0) i = 0 := by
  unfold nth14
  split
  · simp [List.getD, List.getElem?_replicate]
    split <;> rfl
  · rfl

section
variable {R : Nat} {e : Int}
theorem lk0_ok (hR : okRing (R : Int)) : Ok17 (lk0 R) := ok17_new (self := 2) ⟨hR, by omega, by omega, by omega, by omega, by omega⟩
theorem lk_rec {G : Tk} (h : G.st = 0) : recT17 G = begin17 G false 0 ∧ recE17 G = 0 := ⟨if_pos h, if_pos h⟩

theorem lk_loo {G : Tk} (hR : 2 ≤ G.R) (hh : hs17 G = []) : looE17 G 1 = 0 := by
  unfold looE17
  rw [if_neg (by omega), hh, if_neg (by simp; omega)]

/-- A Recv of a message without words in slot 0. -/
theorem lk_recv {E V K : List Int} (hR : 2 ≤ R) {G : Tk} (h0 : G.st = 0) (hGR : G.R = R) (hGB : G.B = 0) (hp : G.peer = 1) (ho : Ok17 G) (hk : G.knows = true) (hown : G.own = 0) {n : Int} (ht : G.tab = tb17 R n false) (hhd : G.head = 0) (hli : nth14 V 0 = addW 0 G.known)
    (he : nth14 E 1 = G.known) (h2 : nth14 V 2 = 1) (h4 : nth14 V 4 = 0) (h5 : ∀ i, 5 ≤ i → nth14 V i = 0) :
    Over17 E ⟨recT17 G, V, K, []⟩ 0 (idle17 { begin17 G false 0 with linked := true, head := 1, tab := tb17 R (addW n 1) true, gl := [], gh := addW n 1 * 64 }) V K := by
  have hG : recT17 G = begin17 G false 0 := (lk_rec h0).1
  have hoo := ok17_rec ho
  rw [hG] at hoo ⊢
  have hh : hs17 (begin17 G false 0) = [] := by
    show onL15 G.tab G.tab.length = []
    rw [ht]
    exact tb17_off (by omega) _
  have e1 : ad17 (begin17 G false 0) 1 0 0 = 0 := lj_ad (begin17 G false 0) hGB 1 (by omega)
  have e3 : ad17 (begin17 G false 0) 3 0 0 = 2 := lj_ad (begin17 G false 0) hGB 3 (by omega)
  have e5 : ad17 (begin17 G false 0) 5 0 0 = 4 := lj_ad5 (begin17 G false 0) hGB (by show 1 ≤ G.R; omega)
  have e7 : 5 ≤ ad17 (begin17 G false 0) 7 0 0 := lj_ad7 (begin17 G false 0) hGB (by show 1 ≤ G.R; omega)
  have hc := recv17_call (E := E) (s := ⟨begin17 G false 0, V, K, []⟩) hoo rfl hk (by show nth14 E G.peer = G.known; rw [hp]; exact he) rfl
    (.inr (by show nth14 V (ad17 (begin17 G false 0) 1 0 0) = addW G.own G.known; rw [e1, hown]; exact hli)) rfl
    (by
      show looE17 (begin17 G false 0) (subW (nth14 V (ad17 (begin17 G false 0) 3 0 0)) G.head) = 0
      rw [e3, h2, hhd, show subW 1 0 = 1 by decide]
      exact lk_loo (by show 2 ≤ G.R; omega) hh)
    (d := 0) (by
      show nth14 V (ad17 (begin17 G false 0) 5 (G.head % (G.R : Int)) 0) = 0
      rw [hhd, Int.zero_emod, e5, h4])
    (by show (0 : Int) ≤ 0 ∧ (0 : Int) < (G.R : Int); omega) (by show (0 : Int) ∉ hs17 (begin17 G false 0); rw [hh]; simp)
    (c := 0) (h5 _ e7) (by omega)
  have hg := tb17_give (R := R) (n := n) (by omega)
  have ht' : (begin17 G false 0).tab = tb17 R n false := ht
  have hh' : (begin17 G false 0).head = 0 := hhd
  simp only [ht', hh', hg.1, hg.2] at hc
  exact hc

theorem lk_call1 (hR : okRing (R : Int)) (N : Nat) {K : List Int} (hN : 5 ≤ N) : Over17 [0, 0, 0] ⟨recT17 (lk0 R), put14 (List.replicate N 0) 2 1, K, []⟩ 0 (lk1 R) (put14 (List.replicate N 0) 2 1) K := by
  have hb := hR.bd
  have h2 : ∀ i, nth14 (put14 (List.replicate N 0) 2 1) i = if i = 2 then 1 else 0 := fun i => by
    rw [nth17_put, nth17_zeros]
    have : in14 (List.replicate N (0 : Int)) 2 = true := by simp [in14]; omega
    rw [this]
    simp
  have h := lk_recv (R := R) (E := [0, 0, 0]) (V := put14 (List.replicate N 0) 2 1) (K := K) (by omega) (G := lk0 R) rfl rfl rfl rfl (lk0_ok hR) rfl rfl (n := 0) (tb17_new (by omega)) rfl (by rw [h2]; rfl) (show nth14 [0, 0, 0] 1 = 0 by decide) (by rw [h2]; rfl) (by rw [h2]; rfl) (fun i hi => by rw [h2, if_neg (by omega)])
  exact h

theorem lk_rel (hR : okRing (R : Int)) : relE17 (lk1 R) 64 = 0 ∧ relT17 (lk1 R) 64 = begin17 { lk1 R with tab := tb17 R 1 false } true 0 := by
  have hb := hR.bd
  obtain ⟨h1, h2, h3, -⟩ := tb17_drop (R := R) (n := 1) (by omega) (by omega)
  have e : dropE15 (lk1 R).tab 64 = 0 := h1
  have e2 : dropL15 (lk1 R).tab 64 = tb17 R 1 false := h2
  have e3 : slotV15 (lk1 R).tab 64 = 0 := h3
  refine ⟨?_, ?_⟩
  · show (if (0 : Nat) = 0 then dropE15 (lk1 R).tab 64 else 11) = 0
    rw [if_pos rfl, e]
  · unfold relT17
    rw [if_pos ⟨rfl, e⟩, e2, e3]

theorem lk_call2 (hR : okRing (R : Int)) (h1 : Ok17 (relT17 (lk1 R) 64)) (he : e ≠ 0) (he2 : 0 ≤ e ∧ e ≤ 65535) {V K : List Int} : Over17 [0, e, 0] ⟨relT17 (lk1 R) 64, V, K, []⟩ 8 (lk2 R e) (put14 (put14 V 3 0) 1 e) K := by
  have hG := (lk_rel hR).2
  rw [hG] at h1 ⊢
  have hx : nth14 [0, e, 0] 1 = e := by simp [nth14, in14]
  have hadd : addW 0 e = e := by unfold addW; omega
  have h := (Rch17.zero (E := [0, e, 0]) ⟨begin17 { lk1 R with tab := tb17 R 1 false } true 0, V, K, []⟩).reset h1 (by show 1 ≠ 0; omega) rfl (by show nth14 [0, e, 0] 1 ≠ 0; rw [hx]; exact he)
  have e4 : ad17 (begin17 { lk1 R with tab := tb17 R 1 false } true 0) 4 0 0 = 3 := lj_ad _ rfl 4 (by omega)
  have e2 : ad17 (begin17 { lk1 R with tab := tb17 R 1 false } true 0) 2 0 0 = 1 := lj_ad _ rfl 2 (by omega)
  have hp : (begin17 { lk1 R with tab := tb17 R 1 false } true 0).peer = 1 := rfl
  have ho : (begin17 { lk1 R with tab := tb17 R 1 false } true 0).own = 0 := rfl
  have ht : clearL15 (begin17 { lk1 R with tab := tb17 R 1 false } true 0).tab = tb17 R 1 false := tb17_clear
  simp only [e4, e2, hp, ho, hx, hadd, ht] at h
  exact h

theorem lk_again (hR : okRing (R : Int)) : relE17 (lk2 R e) 64 = 7 ∧ relT17 (lk2 R e) 64 = lk2 R e := by
  have hb := hR.bd
  have h1 : dropE15 (lk2 R e).tab 64 = 7 := tb17_none (by omega) _
  have h2 : relE17 (lk2 R e) 64 = 7 := by
    show (if (0 : Nat) = 0 then dropE15 (lk2 R e).tab 64 else 11) = 7
    rw [if_pos rfl, h1]
  exact ⟨h2, rel17_no (by rw [h2]; omega)⟩

theorem lk_call3 (h2 : Ok17 (lk2 R e)) (he2 : 0 ≤ e ∧ e ≤ 65535) {V K : List Int} {m : Int} (hm : m ≠ e) (h1 : nth14 V 0 = m) : Over17 [0, e, 0] ⟨recT17 (lk2 R e), V, K, []⟩ 9 (lk2 R e) V K := by
  have hG : recT17 (lk2 R e) = begin17 (lk2 R e) false 0 := (lk_rec rfl).1
  have ho := ok17_rec h2
  rw [hG] at ho ⊢
  have hx : nth14 [0, e, 0] 1 = e := by simp [nth14, in14]
  have hadd : addW 0 e = e := by unfold addW; omega
  have e1 : ad17 (begin17 (lk2 R e) false 0) 1 0 0 = 0 := lj_ad _ rfl 1 (by omega)
  have a1 := (Rch17.zero (E := [0, e, 0]) ⟨begin17 (lk2 R e) false 0, V, K, []⟩).ask rfl rfl hx
  have a2 := a1.down ho (by show 1 ≠ 0; omega) rfl (by
    show nth14 V (ad17 (begin17 (lk2 R e) false 0) 1 0 0) ≠ addW 0 e
    rw [e1, h1, hadd]
    exact hm)
  exact a2

theorem lk_call4 (hR : okRing (R : Int)) (h2 : Ok17 (lk2 R e)) (he2 : 0 ≤ e ∧ e ≤ 65535) {V K : List Int} (h0 : nth14 V 0 = e) (hv2 : nth14 V 2 = 1) (h4 : nth14 V 4 = 0) (h5 : ∀ i, 5 ≤ i → nth14 V i = 0) : Over17 [0, e, 0] ⟨recT17 (lk2 R e), V, K, []⟩ 0 (lk4 R e) V K := by
  have hb := hR.bd
  have hx : nth14 [0, e, 0] 1 = e := by simp [nth14, in14]
  have hadd : addW 0 e = e := by unfold addW; omega
  have h := lk_recv (R := R) (E := [0, e, 0]) (V := V) (K := K) (by omega) (G := lk2 R e) rfl rfl rfl rfl h2 rfl rfl (n := 1) rfl rfl (by show nth14 V 0 = addW 0 e; rw [hadd]; exact h0) hx hv2 h4 h5
  exact h

theorem lk_last (hR : okRing (R : Int)) : slotV15 (lk4 R e).tab 128 = 0 ∧ slotB15 (lk4 R e).tab 128 = true ∧ hs17 (lk4 R e) = [0] := by
  have hb := hR.bd
  obtain ⟨-, -, h3, h4⟩ := tb17_drop (R := R) (n := 2) (by omega) (by omega)
  refine ⟨h3, h4, ?_⟩
  show onL15 (tb17 R 2 true) (tb17 R 2 true).length = [0]
  rw [tb17_len]
  exact tb17_held (by omega)
end

#print axioms lk_call1
#print axioms lk_call4
end Go.Proofs.YtgdbaaoifnedbaaDoor
