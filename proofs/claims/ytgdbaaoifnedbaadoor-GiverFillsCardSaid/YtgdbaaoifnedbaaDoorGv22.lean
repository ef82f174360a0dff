/-
  Layer 16 (giver): the four calls of the law GiverLinks, in numbers.
  Conditions: those that each theorem states.
-/
import Derived.Test.YtgdbaaoifnedbaaDoorGv21
namespace Go.Proofs.YtgdbaaoifnedbaaDoor
open Go.ChangeShapes Go.WideShapes Go.ChangeAt Go.RowKit

theorem Over16.ok {E : List Int} {s : Run16} {e : Int} {G : Gv} {V K : List Int} (h : Over16 E s e G V K) (ho : Ok16 s.G) : Ok16 G := by
  obtain ⟨n, _, _, rfl, _, _⟩ := h
  exact it16_ok ho (n + 1)

theorem sendE16_idle {G G' : Gv} (h : G.st = 0) (h' : G'.st = 0) (l : List Int) : sendE16 G l = sendE16 G' l := by
  unfold sendE16
  rw [h, h']

def li0 (R : Nat) : Gv := new16 0 R 1 0
def li1 (R : Nat) : Gv := { li0 R with linked := true, free := (upto16 R).tail, out := [0], next := 1 }
def li2 (R : Nat) (e : Int) : Gv := { li0 R with known := e }
def li4 (R : Nat) (e : Int) : Gv := { li2 R e with linked := true, free := (upto16 R).tail, out := [0], next := 1 }

section
variable {R : Nat} {l : List Int} {e : Int}

theorem upto16_cons (h : 1 ≤ R) : upto16 R = 0 :: (upto16 R).tail := by
  obtain ⟨m, rfl⟩ : ∃ m, R = m + 1 := ⟨R - 1, by omega⟩
  simp [upto16, List.range_succ_eq_map]

theorem li_ad (G : Gv) (hB : G.B = 0) (f : Int) (h : 1 ≤ f ∧ f ≤ 4) : ad16 G f 0 0 = f - 1 := by
  rw [ad16_ok (w_ok f h), hB]
  unfold offP
  rw [if_pos h.2]
  omega
theorem li_ad5 (G : Gv) (hB : G.B = 0) (hR : 1 ≤ G.R) : ad16 G 5 0 0 = 4 := by
  rw [ad16_ok (.inr (.inl ⟨by omega, by omega, by omega, by omega, rfl⟩)), hB]
  unfold offP
  simp

theorem li0_ok (hR : okRing (R : Int)) : Ok16 (li0 R) := ok16_new (self := 2) ⟨hR, by omega, by omega, by omega, by omega, by omega⟩

theorem li_call1 (hR : okRing (R : Int)) (hs : sendE16 (li0 R) l = 0) :
    ∃ V1, Over16 [0, 0, 0] ⟨sendG16 (li0 R) l, List.replicate (4 + 11 * R) 0, [], []⟩ 0 (li1 R) V1 [1] ∧ V1.length = 4 + 11 * R ∧ nth14 V1 3 = 0 := by
  have ho := ok16_send (li0_ok hR) l
  have hR2 := (li0_ok hR).R64
  have hR2' : 2 ≤ R := hR2.1
  have hG : sendG16 (li0 R) l = { li0 R with st := 1, load := l, sto := 0, ret := 0, res := 0 } := by unfold sendG16; rw [if_pos hs]
  have hz : ∀ f : Int, 1 ≤ f ∧ f ≤ 4 → nth14 (List.replicate (4 + 11 * R) 0) (ad16 (sendG16 (li0 R) l) f 0 0) = 0 := fun f _ => by
    unfold nth14
    split
    · simp [List.getD, List.getElem?_replicate]
      split <;> rfl
    · rfl
  obtain ⟨V1, h, hl, h3, h5, hp⟩ := ok16_call (E := [0, 0, 0]) (s := ⟨sendG16 (li0 R) l, List.replicate (4 + 11 * R) 0, [], []⟩) ho (by rw [hG]) (by rw [hG]; rfl) (by rw [hG]; rfl) (.inr (by rw [hz 2 (by omega)]; rw [hG]; rfl)) (by rw [hz 4 (by omega)]; rw [hG]; rfl) (d := 0) (fs := (upto16 R).tail) (by rw [hG]; exact upto16_cons (by omega)) (by rw [hG]) (by rw [hG]; simp [li0, new16])
  refine ⟨V1, ?_, by rw [hl, List.length_replicate], ?_⟩
  · rw [hG] at h
    rw [hG]
    exact h
  · have := hp 4 (by omega) (by omega)
    rw [hz 4 (by omega), li_ad _ (by rw [hG]; rfl) 4 (by omega)] at this
    exact this

theorem li_call2 (h1 : Ok16 (li1 R)) (hs : sendE16 (li0 R) l = 0) (he : e ≠ 0) (he2 : 0 ≤ e ∧ e ≤ 65535) (V : List Int) (hV : V.length = 4 + 11 * R) (h3 : nth14 V 3 = 0) :
    ∃ V2, Over16 [0, e, 0] ⟨sendG16 (li1 R) l, V, [], []⟩ 8 (li2 R e) V2 [] ∧ V2.length = 4 + 11 * R ∧ nth14 V2 2 = 0 ∧ nth14 V2 0 = e ∧ nth14 V2 3 = 0 := by
  have hs1 : sendE16 (li1 R) l = 0 := by rw [sendE16_idle (G' := li0 R) rfl rfl]; exact hs
  have hG : sendG16 (li1 R) l = { li1 R with st := 1, load := l, sto := 0, ret := 0, res := 0 } := by unfold sendG16; rw [if_pos hs1]
  have ho := ok16_send h1 l
  have hx : nth14 [0, e, 0] 1 = e := by simp [nth14, in14]
  have hrs := (Rch16.zero (E := [0, e, 0]) ⟨sendG16 (li1 R) l, V, [], []⟩).reset ho (by rw [hG]; simp) (by rw [hG]) (by rw [hG]; show nth14 [0, e, 0] 1 ≠ 0; rw [hx]; exact he)
  rw [li_ad _ (by rw [hG]; rfl) 3 (by omega), li_ad _ (by rw [hG]; rfl) 1 (by omega)] at hrs
  have hp : (sendG16 (li1 R) l).peer = 1 := by rw [hG]; rfl
  have hown : (sendG16 (li1 R) l).own = 0 := by rw [hG]; rfl
  simp only [hp, hown] at hrs
  rw [hx] at hrs
  have hadd : addW 0 e = e := by unfold addW; omega
  rw [hadd] at hrs
  have ip : ∀ (W : List Int) i x a, in14 (put14 W i x) a = in14 W a := fun W i x a => by simp [in14, put14_len]
  refine ⟨put14 (put14 V (3 - 1) 0) (1 - 1) e, ?_, ?_, ?_, ?_, ?_⟩
  · rw [hG] at hrs
    rw [hG]
    exact hrs
  · rw [put14_len, put14_len, hV]
  · rw [nth14_put, if_neg (fun h => by have := h.1; omega), nth14_put, if_pos ⟨by omega, by simp [in14]; omega⟩]
  · rw [nth14_put, if_pos ⟨by omega, by rw [ip]; simp [in14]; omega⟩]
  · rw [nth14_put, if_neg (fun h => by have := h.1; omega), nth14_put, if_neg (fun h => by have := h.1; omega), h3]

theorem li_call3 (h2 : Ok16 (li2 R e)) (hs : sendE16 (li0 R) l = 0) (he2 : 0 ≤ e ∧ e ≤ 65535) (V : List Int) {m : Int} (hm : m ≠ e) (h1 : nth14 V 1 = m) :
    Over16 [0, e, 0] ⟨sendG16 (li2 R e) l, V, [], []⟩ 9 (li2 R e) V [] := by
  have hs1 : sendE16 (li2 R e) l = 0 := by rw [sendE16_idle (G' := li0 R) rfl rfl]; exact hs
  have hG : sendG16 (li2 R e) l = { li2 R e with st := 1, load := l, sto := 0, ret := 0, res := 0 } := by unfold sendG16; rw [if_pos hs1]
  have ho := ok16_send h2 l
  have hx : nth14 [0, e, 0] 1 = e := by simp [nth14, in14]
  have hadd : addW 0 e = e := by unfold addW; omega
  have a1 := (Rch16.zero (E := [0, e, 0]) ⟨sendG16 (li2 R e) l, V, [], []⟩).ask (by rw [hG]) (by rw [hG]; rfl) (by rw [hG]; exact hx)
  have hlk : ¬ (sendG16 (li2 R e) l).linked = true := by rw [hG]; simp [li2, li0, new16]
  have a2 := a1.down ho (by rw [hG]; simp) (if_neg hlk) (by
    rw [li_ad _ (by rw [hG]; rfl) 2 (by omega)]
    show nth14 V (2 - 1) ≠ ep16 _
    rw [show (2 : Int) - 1 = 1 by omega, h1]
    have : ep16 (sendG16 (li2 R e) l) = e := by rw [hG]; exact hadd
    show m ≠ ep16 (sendG16 (li2 R e) l)
    rw [this]
    exact hm)
  rw [hG] at a2
  rw [hG]
  exact a2

theorem li_call4 (h2 : Ok16 (li2 R e)) (hs : sendE16 (li0 R) l = 0) (he2 : 0 ≤ e ∧ e ≤ 65535) (V : List Int) (hV : V.length = 4 + 11 * R) (h1 : nth14 V 1 = e) (h3 : nth14 V 3 = 0) :
    ∃ V4, Over16 [0, e, 0] ⟨sendG16 (li2 R e) l, V, [], []⟩ 0 (li4 R e) V4 [1] ∧ V4.length = 4 + 11 * R ∧ nth14 V4 2 = 1 ∧ nth14 V4 4 = 0 := by
  have hs1 : sendE16 (li2 R e) l = 0 := by rw [sendE16_idle (G' := li0 R) rfl rfl]; exact hs
  have hG : sendG16 (li2 R e) l = { li2 R e with st := 1, load := l, sto := 0, ret := 0, res := 0 } := by unfold sendG16; rw [if_pos hs1]
  have ho := ok16_send h2 l
  have hR2 : 2 ≤ R := h2.R64.1
  have hx : nth14 [0, e, 0] 1 = e := by simp [nth14, in14]
  have hadd : addW 0 e = e := by unfold addW; omega
  obtain ⟨V4, h, hl, k3, k5, hp⟩ := ok16_call (E := [0, e, 0]) (s := ⟨sendG16 (li2 R e) l, V, [], []⟩) ho (by rw [hG]) (by rw [hG]; rfl) (by rw [hG]; exact hx) (.inr (by rw [li_ad _ (by rw [hG]; rfl) 2 (by omega)]; show nth14 V (2 - 1) = _; rw [show (2 : Int) - 1 = 1 by omega, h1, hG]; exact hadd.symm)) (by rw [li_ad _ (by rw [hG]; rfl) 4 (by omega)]; show nth14 V (4 - 1) = _; rw [show (4 : Int) - 1 = 3 by omega, h3, hG]; rfl) (d := 0) (fs := (upto16 R).tail) (by rw [hG]; exact upto16_cons (by omega)) (by rw [hG]) (by rw [hG]; show (0 : Int) + 4 + 11 * (R : Int) ≤ (V.length : Int); omega)
  refine ⟨V4, ?_, by rw [hl, hV], ?_, ?_⟩
  · rw [hG] at h
    rw [hG]
    exact h
  · rw [li_ad _ (by rw [hG]; rfl) 3 (by omega)] at k3
    have : addW (sendG16 (li2 R e) l).next 1 = 1 := by rw [hG]; rfl
    rw [show (3 : Int) - 1 = 2 by omega] at k3
    exact k3.trans this
  · have hn : (sendG16 (li2 R e) l).next = 0 := by rw [hG]; rfl
    have k5' : nth14 V4 (ad16 (sendG16 (li2 R e) l) 5 0 0) = 0 := by
      have := k5
      simp only [hn, Int.zero_emod] at this
      exact this
    rw [li_ad5 _ (by rw [hG]; rfl) (by rw [hG]; show 1 ≤ R; omega)] at k5'
    exact k5'
end

#print axioms li_call1
#print axioms li_call4
end Go.Proofs.YtgdbaaoifnedbaaDoor
