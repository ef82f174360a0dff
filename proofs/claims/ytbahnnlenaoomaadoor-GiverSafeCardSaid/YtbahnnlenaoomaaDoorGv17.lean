/-
  Layer 16 (giver): the walk of the law GiverSafe.
  Conditions: those that each theorem states.
-/
import Derived.Test.YtbahnnlenaoomaaDoorGv16
import Derived.Deep.RegionHeld3
namespace Go.Proofs.YtbahnnlenaoomaaDoor
open Go.ChangeShapes Go.WideShapes Go.ChangeAt Go.RowKit

section
variable {w wr : World} {g ob : Nat} {bs : List Value} {B : Int} {G : Gv} {V E : List Int} {v1 v2 : Value} {U P : Nat → Prop}

/-- Behind a Step, and behind the words that the port then holds. -/
theorem Lp16.port (L : Lp16 w wr g ob bs B G V E v1 v2 U P) {w5 w6 w7 w8 : World} {t p n c : Nat} {A : Option Addr} {G' : Gv} {V6 E6 K6 V7 : List Int} {T6 : List Tch} (b5 : Below wr.heap.size wr w5) (s6 : Sys16 w6 (fun x => (U x ∨ wr.heap.size ≤ x) ∨ w5.heap.size ≤ x) g t p G' V6 E6 K6 T6)
    (o6 : Only (fun x => U x ∨ wr.heap.size ≤ x) w5 w6) (b7 : Below w6.heap.size w6 w7) (own7 : w7.ownsRow w6.heap.size 3 1 (.slice A n c) n (ints V7)) (o8 : Only (· = ob) w7 w8) (r8 : Row w8 ob 38 [.slice A n c, v2, .int .i64 B]) :
    Lp16 w w8 g ob bs B G' V7 E (.slice A n c) v2 (fun x => (U x ∨ wr.heap.size ≤ x) ∧ x < w6.heap.size) (fun x => (P x ∧ x < wr.heap.size) ∨ w6.heap.size ≤ x) ∧
    Sys16 w8 (fun x => (U x ∨ wr.heap.size ≤ x) ∧ x < w6.heap.size) g t p G' V6 E6 K6 T6 := by
  have hlt := L.obj.lt
  have hs := L.below.size
  have hbl := L.base.lt
  have hog := L.ob_gt
  have hs5 := b5.size
  have hs6 := o6.size
  have hs7 := b7.size
  have s6' : Sys16 w6 (fun x => (U x ∨ wr.heap.size ≤ x) ∧ x < w6.heap.size) g t p G' V6 E6 K6 T6 := s6.weak (fun x hx h => ⟨by rcases h with h | h; exact h; exact .inr (by omega), hx⟩)
  have s8 := (s6'.below b7).only o8 (fun x _ hu h => by
    subst h
    rcases hu.1 with h | h
    · exact (L.hU _ h).2 rfl
    · omega)
  have hnU : ∀ x, x < wr.heap.size → ¬ U x → ¬ (U x ∨ wr.heap.size ≤ x) := fun x h1 h2 h => h.elim h2 (by omega)
  refine ⟨⟨(((L.base.below b5).only o6 (hnU _ hbl (fun h => by have := L.hU _ h; omega))).below b7).only o8 (fun h => by omega), r8, s8.gis, ⟨?_, ?_, CapOk.of_own own7, L.wld.c2⟩, fun x hx hp => ?_, fun x hx => ?_, fun x hx => ?_, L.ob_gt, ?_⟩, s8⟩
  · refine ((Lies.of_own own7).weak (fun x _ h => .inr h)).only o8 (fun x hx hp => ?_)
    subst hx
    rcases hp with hp | hp
    · exact (L.hP _ hp.1).2 rfl
    · omega
  · refine ((((L.wld.epochs.weak (Q := fun x => P x ∧ x < wr.heap.size) (fun x hx hp => ⟨hp, hx⟩)).below b5).only o6 (fun x hx hp => hnU x hp.2 (fun h => L.disj x h hp.1) hx)).below b7 |>.weak (fun x _ h => .inl h)).only o8 (fun x hx hp => ?_)
    subst hx
    rcases hp with hp | hp
    · exact (L.hP _ hp.1).2 rfl
    · omega
  · rcases hp with hp | hp
    · rcases hx.1 with h | h
      · exact L.disj x h hp.1
      · omega
    · omega
  · rcases hx.1 with h | h
    · exact L.hU x h
    · omega
  · rcases hx with h | h
    · exact L.hP x h.1
    · omega
  · refine Only.below ((Only.below (L.below.trans (b5.mono hs)) o6 (by omega) (fun x hx h => ?_)).trans (b7.mono (by omega))) o8 (by omega) (fun x hx h => by omega)
    rcases h with h | h
    · have := L.hU x h; omega
    · omega

/-- The invariant of the law's loop. -/
def Inv16 (w wr : World) (g ob : Nat) (bs : List Value) (B : Int) (G0 : Gv) (N Z : Nat) : Prop :=
  ∃ G V E A1 n1 c1 A2 n2 c2 U P, Ok16 G ∧ Same16 G0 G ∧ V.length = N ∧ E.length = 8 ∧ (G.st ≠ 0 → Z + pot16 G ≤ G0.R + 18) ∧ Lp16 w wr g ob bs B G V E (.slice A1 n1 c1) (.slice A2 n2 c2) U P
end

set_option maxRecDepth 100000 in
set_option maxHeartbeats 8000000 in
theorem safe16_loop (B self peer own : Int) (r : Nat) (v : Value) (l : List Ev16) (w : World) (hok : ok16 B (r : Int) self peer own) (hT : TabAt w) (hv : Evs w v l) (hm : l.length ≤ maxLen) (hfew : few16B B l = true) :
    Calls Tryd.prog 4 #[baseV B (r : Int) self peer own, v] w fun e w' => e = .returned (.bool true) ∧ Below w.heap.size w w' := by
  obtain ⟨h150, h500, h50⟩ := few16_yes hfew
  obtain ⟨A, n, c, rfl, hn, HV⟩ := hv.open_
  have HEV := Lib.hid (fun W (hb : Below w.heap.size w W) (k : Nat) (x : Ev16) (hk : l[k]? = some x) => (HV.at_ hk).imp fun g => Exists.imp fun o h => (⟨h.1, h.2.2.below hb⟩ : A = some ⟨g, o, none⟩ ∧ EvAt W g (o + k * 4) x))
  have HT := Lib.hid (fun W (hb : Below w.heap.size w W) => hT.below hb)
  obtain ⟨bs, hbs⟩ : ∃ bs : List Value, bs = [.int .i64 B, .int .i64 (r : Int), .int .i64 self, .int .i64 peer, .int .i64 own] := ⟨_, rfl⟩
  obtain ⟨G0, hG0⟩ : ∃ G0, G0 = new16 B r peer own := ⟨_, rfl⟩
  have HG0 : Hid (G0.B = B ∧ G0.peer = peer) := Lib.hid (by rw [hG0]; exact ⟨rfl, rfl⟩)
  have HR0 : Hid (G0.R = r) := Lib.hid (by rw [hG0]; rfl)
  have HOK0 : Hid (Ok16 G0) := Lib.hid (by rw [hG0]; exact ok16_new hok)
  have HS0 : Hid (G0.st = 0) := Lib.hid (by rw [hG0]; rfl)
  have r0 := Row.new w 25 #[.int .i64 B, .int .i64 (r : Int), .int .i64 self, .int .i64 peer, .int .i64 own]
  have R0 : Hid (Row (w.alloc (.cells #[.int .i64 B, .int .i64 (r : Int), .int .i64 self, .int .i64 peer, .int .i64 own] 25)) w.heap.size 25 bs) := Lib.hid (by rw [hbs]; exact r0)
  have B0 := Lib.hid (below_al w (.cells #[.int .i64 B, .int .i64 (r : Int), .int .i64 self, .int .i64 peer, .int .i64 own] 25))
  have KM := Lib.hid (fun W => made16_yes hok W)
  rw [← hG0] at KM
  have KF := Lib.hid (fun W (hb : Below w.heap.size w W) => few16_any B (r : Int) self peer own (.slice A n c) l W (by
    obtain ⟨A', c', e, hx⟩ := HV
    exact ⟨A', c', e, fun hp => by obtain ⟨g, o, h1, h2, h3⟩ := hx hp; exact ⟨g, o, h1, Nat.lt_of_lt_of_le h2 hb.size, fun k x hk => (h3 k x hk).below hb⟩⟩) hm)
  rw [hfew] at KF
  have hBB : 0 ≤ B ∧ B ≤ 65535 := by have := hok.2.1; omega
  have KB0 := Lib.hid (fun W => born16_any B r hok.1 ⟨hBB.1, h500⟩ W)
  have HN := Lib.hid hn
  rw [hn] at h150
  have HBSV : Hid (bs = [.int .i64 B, .int .i64 (G0.R : Int), .int .i64 self, .int .i64 peer, .int .i64 own]) := Lib.hid (by rw [hbs, hG0]; rfl)
  obtain ⟨N, hN⟩ : ∃ N, B.toNat + (4 + 11 * r) = N := ⟨_, rfl⟩
  have hN2 : N ≤ 2000 := by have := hok.1.bd; omega
  rw [hN] at KB0
  unfold baseV plV at *
  clear hv HV hT hm hfew hok hn hbs hG0 r0 h50 hN
  go_enter Tryd.func4, Tryd.ntmps4
  go_wp2_with fail
  refine (KM.out _).mono ?_
  rintro e w1 ⟨g, rfl, s1, b1⟩
  have S1 := Lib.hid s1
  have R1 := Lib.hid (R0.out.below b1)
  have B1 := Lib.hid (below_on B0.out b1)
  have q0 := R1.out.cell 0
  have q1 := R1.out.cell 1
  have q2 := R1.out.cell 2
  have q3 := R1.out.cell 3
  have q4 := R1.out.cell 4
  rw [HBSV.out, HR0.out] at q0 q1 q2 q3 q4
  simp only [List.getElem?_cons_zero, List.getElem?_cons_succ] at q0 q1 q2 q3 q4
  clear s1 b1 KM
  unfold ptr
  go_wp2_with fail
  refine (KF.out _ B1.out).mono ?_
  rintro e w2 ⟨rfl, b2⟩
  have S2 := Lib.hid (S1.out.below b2)
  have R2 := Lib.hid (R1.out.below b2)
  have B2 := Lib.hid (below_on B1.out b2)
  have p0 := R2.out.cell 0
  have p1 := R2.out.cell 1
  rw [HBSV.out, HR0.out] at p0 p1
  simp only [List.getElem?_cons_zero, List.getElem?_cons_succ] at p0 p1
  clear b2 KF q0 q1 q2 q3 q4
  go_wp2_with fail
  refine (KB0.out _).mono ?_
  rintro e w3 ⟨X1, y1, d1, X2, y2, d2, rfl, h3, b3⟩
  have HI0 : Hid (Inv16 w (w3.alloc (.cells #[.slice X1 y1 d1, .slice X2 y2 d2, .int .i64 B] 38)) g w3.heap.size bs B G0 N 0) := Lib.hid (by
    have ba := below_al w3 (.cells #[.slice X1 y1 d1, .slice X2 y2 d2, .int .i64 B] 38)
    have hs1 := (below_al w (.cells #[.int .i64 B, .int .i64 (r : Int), .int .i64 self, .int .i64 peer, .int .i64 own] 25)).size
    have hs := B2.out.size
    have hs3 := b3.size
    have hsw := R2.out.lt
    refine ⟨G0, _, _, X1, y1, d1, X2, y2, d2, (fun x => w.heap.size < x ∧ x < w2.heap.size), (fun x => w2.heap.size ≤ x ∧ x < w3.heap.size), HOK0.out, ⟨rfl, rfl, rfl, rfl⟩, List.length_replicate, List.length_replicate, fun h => absurd HS0.out h, ⟨(R2.out.below b3).below ba, Row.new w3 _ #[.slice X1 y1 d1, .slice X2 y2 d2, .int .i64 B], ?_, (h3.weak (fun x hx h => ⟨by rcases h with h | h; exact h.elim; exact h, hx⟩)).below ba, fun x h1 h2 => by omega, fun x hx => ⟨hx.1, by omega⟩, fun x hx => ⟨by omega, by omega⟩, by omega, below_on (below_on B2.out b3) ba⟩⟩
    exact ((S2.out.weak (fun x hx h => ⟨by simp at h; omega, hx⟩)).below b3).below ba)
  clear b3 h3 S1 S2 R1 R2 p0 p1 KB0 B2 B1 B0 R0
  unfold wldV
  go_wp2
  obtain ⟨ob, hob⟩ : ∃ ob, w3.heap.size = ob := ⟨_, rfl⟩
  rw [hob] at HI0 ⊢
  go_loopw [7, 31] (fun sv iv wr => ∃ k Z : Nat, k ≤ n ∧ Z ≤ k ∧ iv = .int .i64 k ∧ sv = .int .i64 (Z : Int) ∧ Hid (Inv16 w wr g ob bs B G0 N Z)) (fun _ iv _ => n - (intOf iv).toNat)
  case atStart => exact ⟨0, 0, Nat.zero_le _, Nat.le_refl _, rfl, rfl, HI0⟩
  case round =>
    clear HI0 hob HOK0 HS0
    obtain ⟨k, Z, hk, hZ, rfl, rfl, HI⟩ := hrel
    obtain ⟨G, V, E, A1, n1, c1, A2, n2, c2, U, P, hOK, hSM, hVN, hE8, hPT, L⟩ := HI.out
    have hbw := L.below
    by_cases hlt : k < n
    · obtain ⟨x, hx⟩ : ∃ x, l[k]? = some x := ⟨_, List.getElem?_eq_getElem (by rw [HN.out]; exact hlt)⟩
      obtain ⟨ge, oe, rfl, u, x0, x1, x2, x3, hxl, hcap⟩ := HEV.out wr hbw k x hx
      obtain ⟨Au, nu, cu, rfl, HNU, HU⟩ := lies_open hxl
      have hkn : (k : Int) < (n : Int) := by omega
      have bx := below_al wr (.cells #[.int .i64 x.kind, .int .i64 x.at_, .int .i64 x.word, .slice Au nu cu] 41)
      have lx := L.quiet bx
      have o0 := L.obj.cell 0
      have o1 := L.obj.cell 1
      have o2 := L.obj.cell 2
      have of0 := L.obj.soft 0
      have of1 := L.obj.soft 1
      have of2 := L.obj.soft 2
      have hobl := L.obj.lt
      have b1 := L.base.cell 1
      rw [HBSV.out] at b1
      simp only [List.getElem?_cons_zero, List.getElem?_cons_succ] at o0 o1 o2 b1
      obtain ⟨wx, hwx⟩ : ∃ wx, wx = wr.alloc (.cells #[.int .i64 x.kind, .int .i64 x.at_, .int .i64 x.word, .slice Au nu cu] 41) := ⟨_, rfl⟩
      rw [← hwx] at lx bx
      have LX := Lib.hid lx
      have BX := Lib.hid bx
      have HOK := Lib.hid hOK
      have HSM := Lib.hid hSM
      have HLN := Lib.hid (And.intro hVN hE8)
      have HPT := Lib.hid hPT
      clear hx hxl L bx lx hOK hSM hVN hE8 hPT hbw HI HEV HN
      have L : True := trivial
      by_cases hk1 : x.kind = 1
      · rw [hk1] at x0 hwx
        have KS := Lib.hid (sendS16 (fun _ => True) x.load (.slice Au nu cu) _ LX.out.gis (HU.out.below BX.out) hcap)
        by_cases hE : sendE16 G x.load = 0
        · rw [hE] at KS
          have hps := pot16_send HOK.out hE
          have HI : Hid (∀ w6, GIs w6 (fun y => U y ∨ wx.heap.size ≤ y) g (sendG16 G x.load) → Only U wx w6 → Inv16 w w6 g ob bs B G0 N 0) := Lib.hid (fun w6 s6 o6 => ⟨_, _, _, _, _, _, _, _, _, _, _, ok16_send HOK.out _, HSM.out.trans (same16_send _ _), HLN.out.1, HLN.out.2, fun _ => by have := HSM.out.1; have := hps.1; omega, LX.out.giver s6 o6⟩)
          clear hE hps LX L HOK HSM HLN HPT
          go_wp2_with fail
          rw [← hwx]
          clear hwx
          refine KS.out.mono ?_
          rintro e w6 ⟨rfl, s6, o6⟩
          have I6 := Lib.hid (HI.out w6 s6 o6)
          clear s6 o6 KS
          go_wp2
          go_roundw
          case rel => exact ⟨k + 1, 0, by omega, by omega, by go_num, rfl, I6⟩
          case measure => simp [intOf]; omega
        · have hG : sendG16 G x.load = G := by unfold sendG16; rw [if_neg hE]
          have hEz : (sendE16 G x.load == 0) = false := by simpa using hE
          have HI : Hid (∀ w6, GIs w6 (fun y => U y ∨ wx.heap.size ≤ y) g (sendG16 G x.load) → Only U wx w6 → Inv16 w w6 g ob bs B G0 N Z) := Lib.hid (fun w6 s6 o6 => ⟨_, _, _, _, _, _, _, _, _, _, _, HOK.out, HSM.out, HLN.out.1, HLN.out.2, HPT.out, LX.out.giver (by rw [← hG]; exact s6) o6⟩)
          clear hE hG LX L HOK HSM HLN HPT
          go_wp2_with fail
          rw [← hwx]
          clear hwx
          refine KS.out.mono ?_
          rintro e w6 ⟨rfl, s6, o6⟩
          have I6 := Lib.hid (HI.out w6 s6 o6)
          clear s6 o6 KS
          go_wp2
          go_roundw
          case rel => exact ⟨k + 1, Z, by omega, by omega, by go_num, rfl, I6⟩
          case measure => simp [intOf]; omega

      · by_cases hk2 : x.kind = 2
        · have hK := hk2
          rw [hk2] at x0 hwx
          have KH := Lib.hid (happens16_any P V E (.slice A1 n1 c1) (.slice A2 n2 c2) (.slice Au nu cu) B x _ LX.out.wld (by have := HLN.out; omega) (by have := HLN.out; omega) hBB ⟨_, _, _, rfl⟩)
          unfold wldV at KH
          rw [hK] at KH
          have HI : Hid (∀ w6 w7 u1 u2, Below wx.heap.size wx w6 → Wld w6 (fun y => P y ∨ wx.heap.size ≤ y) (hapV16 B V x) (hapE16 E x) u1 u2 → Row w7 ob 38 [u1, u2, .int .i64 B] → Only (· = ob) w6 w7 → ∀ a b c d e f, u1 = .slice a b c → u2 = .slice d e f → Inv16 w w7 g ob bs B G0 N Z) := Lib.hid (fun w6 w7 u1 u2 b6 h6 r7 o7 a b c d e f e1 e2 => by
            subst e1 e2
            exact ⟨_, _, _, _, _, _, _, _, _, _, _, HOK.out, HSM.out, by rw [hapV16_len]; exact HLN.out.1, by rw [hapE16_len]; exact HLN.out.2, HPT.out, LX.out.world b6 h6 r7 o7⟩)
          have HOB := Lib.hid LX.out.obj
          clear LX L HOK HSM HLN HPT
          go_wp2_with fail
          rw [← hwx]
          clear hwx
          refine KH.out.mono ?_
          rintro e w6 ⟨X1, y1, d1, X2, y2, d2, rfl, h6, b6⟩
          have R6 := Lib.hid (HOB.out.below b6)
          have q0 := R6.out.cell 0
          have q1 := R6.out.cell 1
          have q2 := R6.out.cell 2
          have f0 := R6.out.soft 0
          have f1 := R6.out.soft 1
          have f2 := R6.out.soft 2
          simp only [List.getElem?_cons_zero, List.getElem?_cons_succ] at q0 q1 q2
          have H6 := Lib.hid h6
          have B6 := Lib.hid b6
          clear h6 b6 KH
          unfold wldV
          go_wp2
          go_roundw
          case rel =>
            refine ⟨k + 1, Z, by omega, by omega, by go_num, rfl, Lib.hid (HI.out w6 _ _ _ B6.out H6.out (((R6.out.put 0 (.slice X1 y1 d1)).put 1 (.slice X2 y2 d2)).put 2 (.int .i64 B)) ?_ _ _ _ _ _ _ rfl rfl)⟩
            exact (((Only.refl (· = ob) w6).setCell (p := ⟨ob, 0, none⟩) (.inl rfl) _).setCell (p := ⟨ob, 1, none⟩) (.inl rfl) _).setCell (p := ⟨ob, 2, none⟩) (.inl rfl) _
          case measure => simp [intOf]; omega

        · by_cases hk3 : x.kind = 3
          · have hK := hk3
            rw [hk3] at x0 hwx
            have KH := Lib.hid (happens16_any P V E (.slice A1 n1 c1) (.slice A2 n2 c2) (.slice Au nu cu) B x _ LX.out.wld (by have := HLN.out; omega) (by have := HLN.out; omega) hBB ⟨_, _, _, rfl⟩)
            unfold wldV at KH
            rw [hK] at KH
            have HI : Hid (∀ w6 w7 u1 u2, Below wx.heap.size wx w6 → Wld w6 (fun y => P y ∨ wx.heap.size ≤ y) (hapV16 B V x) (hapE16 E x) u1 u2 → Row w7 ob 38 [u1, u2, .int .i64 B] → Only (· = ob) w6 w7 → ∀ a b c d e f, u1 = .slice a b c → u2 = .slice d e f → Inv16 w w7 g ob bs B G0 N Z) := Lib.hid (fun w6 w7 u1 u2 b6 h6 r7 o7 a b c d e f e1 e2 => by
              subst e1 e2
              exact ⟨_, _, _, _, _, _, _, _, _, _, _, HOK.out, HSM.out, by rw [hapV16_len]; exact HLN.out.1, by rw [hapE16_len]; exact HLN.out.2, HPT.out, LX.out.world b6 h6 r7 o7⟩)
            have HOB := Lib.hid LX.out.obj
            clear LX L HOK HSM HLN HPT
            go_wp2_with fail
            rw [← hwx]
            clear hwx
            refine KH.out.mono ?_
            rintro e w6 ⟨X1, y1, d1, X2, y2, d2, rfl, h6, b6⟩
            have R6 := Lib.hid (HOB.out.below b6)
            have q0 := R6.out.cell 0
            have q1 := R6.out.cell 1
            have q2 := R6.out.cell 2
            have f0 := R6.out.soft 0
            have f1 := R6.out.soft 1
            have f2 := R6.out.soft 2
            simp only [List.getElem?_cons_zero, List.getElem?_cons_succ] at q0 q1 q2
            have H6 := Lib.hid h6
            have B6 := Lib.hid b6
            clear h6 b6 KH
            unfold wldV
            go_wp2
            go_roundw
            case rel =>
              refine ⟨k + 1, Z, by omega, by omega, by go_num, rfl, Lib.hid (HI.out w6 _ _ _ B6.out H6.out (((R6.out.put 0 (.slice X1 y1 d1)).put 1 (.slice X2 y2 d2)).put 2 (.int .i64 B)) ?_ _ _ _ _ _ _ rfl rfl)⟩
              exact (((Only.refl (· = ob) w6).setCell (p := ⟨ob, 0, none⟩) (.inl rfl) _).setCell (p := ⟨ob, 1, none⟩) (.inl rfl) _).setCell (p := ⟨ob, 2, none⟩) (.inl rfl) _
            case measure => simp [intOf]; omega

          · have g1 : (x.kind == 1) = false := by simpa using hk1
            have g2 : (x.kind == 2) = false := by simpa using hk2
            have g3 : (x.kind == 3) = false := by simpa using hk3
            by_cases hst : G.st = 0
            ·
              have KB := Lib.hid (fun W (hb : Below wx.heap.size wx W) => by
                obtain ⟨vf, vo, vl, rg, _⟩ := LX.out.gis
                exact busy16_any W (rg.below hb))
              have KO := Lib.hid (ofWords14_any P P V E (.slice A1 n1 c1) (.slice A2 n2 c2) wx LX.out.wld.words LX.out.wld.epochs (by have := HLN.out; omega) (by have := HLN.out; omega))
              rw [hst] at KB
              go_wp2_with fail
              rw [← hwx]
              clear hwx
              have o0 := LX.out.obj.cell 0
              have o1 := LX.out.obj.cell 1
              have o2 := LX.out.obj.cell 2
              simp only [List.getElem?_cons_zero, List.getElem?_cons_succ] at o0 o1 o2
              refine (KB.out wx (Below.refl _ _)).mono ?_
              rintro e w' ⟨rfl, rfl⟩
              go_wp2_with fail
              refine KO.out.mono ?_
              rintro e w4 ⟨p, a, b, rfl, rp, ha, hp, b4⟩
              have hab := rp.ne
              have RP := Lib.hid rp
              have B4 := Lib.hid b4
              have HAB := Lib.hid (And.intro ha (And.intro hp hab))
              clear rp b4 ha hp hab KO
              unfold ptr
              go_wp2_with fail
              refine (traced14_any p w4).mono ?_
              rintro e w5 ⟨t, rfl, rt, ht, b5⟩
              have B5 := Lib.hid (below_on B4.out b5)
              have hpt := PtAt.mk (RP.out.below b5) rt
              have hnew : ∀ y, own14 t p a (.slice none 0 0) (.slice none 0 0) y ∨ y = b → wx.heap.size ≤ y := fun y hy => by
                have := B4.out.size
                have := HAB.out
                rcases hy with hy | rfl
                · rcases hy with rfl | rfl | rfl | hy | hy
                  · omega
                  · omega
                  · omega
                  · cases hy
                  · cases hy
                · omega
              have PT := Lib.hid hpt
              have HNEW := Lib.hid hnew
              clear rt ht b5 hpt hnew RP B4 HAB
              unfold ptr
              have KS := Lib.hid (step16_idle (tface14 t) w5 (LX.out.gis.below B5.out) hst)
              unfold tface14 at KS
              go_wp2_with fail
              refine KS.out.mono ?_
              rintro e w' ⟨rfl, rfl⟩
              go_wp2_with fail
              refine (words14_any w5 PT.out.plain).mono ?_
              rintro e w7 ⟨v7, rfl, own7, b7⟩
              rw [mod14_len, HLN.out.1] at own7
              obtain ⟨A7, c7, rfl⟩ := own_open14 own7
              have R7 := Lib.hid (LX.out.obj.below (below_on B5.out b7))
              have q0 := R7.out.cell 0
              have q1 := R7.out.cell 1
              have f0 := R7.out.soft 0
              simp only [List.getElem?_cons_zero, List.getElem?_cons_succ] at q0 q1
              obtain ⟨w8, hw8⟩ : ∃ w8, w8 = w7.setCell ⟨ob, 0, none⟩ (.slice A7 N c7) := ⟨_, rfl⟩
              have o8 : Only (· = ob) w7 w8 := by rw [hw8]; exact (Only.refl (· = ob) w7).setCell (p := ⟨ob, 0, none⟩) (.inl rfl) _
              have r8 : Row w8 ob 38 [.slice A7 N c7, .slice A2 n2 c2, .int .i64 B] := by rw [hw8]; exact R7.out.put 0 _
              have L8 := LX.out.world (V' := mod14 V) (E' := E) (below_on B5.out b7) ⟨(Lies.of_own own7).weak (fun y _ h => .inr (by have := B5.out.size; omega)), (LX.out.wld.epochs.below (below_on B5.out b7)).weak (fun y _ h => .inl h), CapOk.of_own own7, LX.out.wld.c2⟩ r8 o8
              have I8 : Hid (∀ w9, Below w8.heap.size w8 w9 → Inv16 w w9 g ob bs B G0 N (Z + 1)) := Lib.hid (fun w9 hb => ⟨_, _, _, _, _, _, _, _, _, _, _, HOK.out, HSM.out, by rw [mod14_len]; exact HLN.out.1, HLN.out.2, fun h => absurd hst h, L8.quiet hb⟩)
              have T8 := (PT.out.trace.below b7).only o8 (fun e => by have := HNEW.out t (.inl (.inl rfl)); have := LX.out.obj.lt; omega) (fun y hy => by cases hy)
              have KT := Lib.hid (touches14_any w8 T8 (by decide))
              have HW8 := Lib.hid hw8
              clear own7 b7 o8 r8 L8 T8 KS hst hw8 L LX HOK HSM HLN HPT
              go_wp2_with fail
              rw [← HW8.out]
              refine KT.out.mono ?_
              rintro e w9 ⟨v9, rfl, own9, b9⟩
              obtain ⟨A9, c9, rfl⟩ := own_open14 own9
              have I9 := Lib.hid (I8.out w9 b9)
              clear own9 b9 KT HW8
              go_wp2
              go_roundw
              case rel => exact ⟨k + 1, Z + 1, by omega, by omega, by go_num, by go_num, I9⟩
              case measure => simp [intOf]; omega

            ·
              have KB := Lib.hid (fun W (hb : Below wx.heap.size wx W) => by
                obtain ⟨vf, vo, vl, rg, _⟩ := LX.out.gis
                exact busy16_any W (rg.below hb))
              have KO := Lib.hid (ofWords14_any P P V E (.slice A1 n1 c1) (.slice A2 n2 c2) wx LX.out.wld.words LX.out.wld.epochs (by have := HLN.out; omega) (by have := HLN.out; omega))
              have e0 : ((G.st : Int) != 0) = true := by simp; omega
              rw [e0] at KB
              go_wp2_with fail
              rw [← hwx]
              clear hwx
              have o0 := LX.out.obj.cell 0
              have o1 := LX.out.obj.cell 1
              have o2 := LX.out.obj.cell 2
              simp only [List.getElem?_cons_zero, List.getElem?_cons_succ] at o0 o1 o2
              refine (KB.out wx (Below.refl _ _)).mono ?_
              rintro e w' ⟨rfl, rfl⟩
              go_wp2_with fail
              refine KO.out.mono ?_
              rintro e w4 ⟨p, a, b, rfl, rp, ha, hp, b4⟩
              have hab := rp.ne
              have RP := Lib.hid rp
              have B4 := Lib.hid b4
              have HAB := Lib.hid (And.intro ha (And.intro hp hab))
              clear rp b4 ha hp hab KO
              unfold ptr
              go_wp2_with fail
              refine (traced14_any p w4).mono ?_
              rintro e w5 ⟨t, rfl, rt, ht, b5⟩
              have B5 := Lib.hid (below_on B4.out b5)
              have hpt := PtAt.mk (RP.out.below b5) rt
              have hnew : ∀ y, own14 t p a (.slice none 0 0) (.slice none 0 0) y ∨ y = b → wx.heap.size ≤ y := fun y hy => by
                have := B4.out.size
                have := HAB.out
                rcases hy with hy | rfl
                · rcases hy with rfl | rfl | rfl | hy | hy
                  · omega
                  · omega
                  · omega
                  · cases hy
                  · cases hy
                · omega
              have PT := Lib.hid hpt
              have HNEW := Lib.hid hnew
              clear rt ht b5 hpt hnew RP B4 HAB
              unfold ptr
              have HT5 := HT.out w5 (LX.out.below.trans (B5.out.mono LX.out.below.size))
              obtain ⟨xT, hxT, hmay⟩ := mayT16 HOK.out hst (mod14 V) (mod14 E)
              have hpot := pot16_aft HOK.out hst (rn16 (mod14 E) ⟨G, mod14 V, [], []⟩)
              have S5 := Lib.hid (sys16_of LX.out.gis B5.out PT.out HNEW.out)
              have KS := Lib.hid (stT16 (⟨G, mod14 V, [], []⟩ : Run16) w5 S5.out HOK.out hst HT5 (by simp) (by simp))
              obtain ⟨S2, hS2⟩ : ∃ S2, rs16 (mod14 E) ⟨G, mod14 V, [], []⟩ = S2 := ⟨_, rfl⟩
              have hT2 : S2.T = [xT] := by rw [← hS2]; show [] ++ aT16 (mod14 V) (mod14 E) (tch16 G) = [xT]; rw [hxT]; rfl
              have hV2 : S2.V.length = N := by rw [← hS2]; show (dV14 (mod14 V) _ _ _).length = N; rw [dV14_len, mod14_len]; exact HLN.out.1
              have hG2 : (aft16 G (rn16 (mod14 E) ⟨G, mod14 V, [], []⟩)).1 = S2.G := by rw [← hS2]; rfl
              have hO2 : Ok16 S2.G := by rw [← hG2]; exact ok16_aft HOK.out _
              have hM2 : Same16 G0 S2.G := by rw [← hG2]; exact HSM.out.trans (same16_aft _ _)
              have hA2 : (aft16 G (rn16 (mod14 E) ⟨G, mod14 V, [], []⟩)).2 = ra16 (mod14 E) ⟨G, mod14 V, [], []⟩ := rfl
              rw [hG2, hA2] at hpot
              rw [hS2] at KS
              have hpt := HPT.out hst
              cases hans : ra16 (mod14 E) ⟨G, mod14 V, [], []⟩ with
              | none =>
                rw [hans] at KS hpot
                unfold ansV16 tface14 at KS
                have hb2 : S2.G.st ≠ 0 ∧ Z + 1 + pot16 S2.G ≤ G0.R + 18 ∧ Z + 1 < G0.R + 18 := by have h1 := hpot.2.1 rfl; have h2 := hpot.1; exact ⟨h1.2, by omega, by omega⟩
                have HB2 := Lib.hid hb2
                have HT2 := Lib.hid hT2
                have HV2 := Lib.hid hV2
                have HO2 := Lib.hid hO2
                have HM2 := Lib.hid hM2
                have HMAY := Lib.hid hmay
                clear hpot hxT hS2 hT2 hV2 hG2 hO2 hM2 hA2 hpt hans hmay hb2 HT5 e0 hst
                go_wp2_with fail
                refine KS.out.mono ?_
                rintro e w6 ⟨rfl, s6, o6⟩
                obtain ⟨vf, vo, vl, a', b', k', v', rg, rpt, hd, hu1, hu2⟩ := id s6
                have KW := Lib.hid (words14_any w6 rpt.plain)
                have S6 := Lib.hid s6
                have O6 := Lib.hid o6
                clear s6 o6 KS rg rpt hd hu1 hu2
                go_wp2_with fail
                refine KW.out.mono ?_
                rintro e w7 ⟨v7, rfl, own7, b7⟩
                rw [HV2.out] at own7
                obtain ⟨A7, c7, rfl⟩ := own_open14 own7
                have R7 := Lib.hid (((LX.out.obj.below B5.out).only O6.out (fun h => by
                  rcases h with h | h
                  · exact (LX.out.hU _ h).2 rfl
                  · have := LX.out.obj.lt; omega)).below b7)
                have q0 := R7.out.cell 0
                have q1 := R7.out.cell 1
                have f0 := R7.out.soft 0
                simp only [List.getElem?_cons_zero, List.getElem?_cons_succ] at q0 q1
                obtain ⟨w8, hw8⟩ : ∃ w8, w8 = w7.setCell ⟨ob, 0, none⟩ (.slice A7 N c7) := ⟨_, rfl⟩
                have o8 : Only (· = ob) w7 w8 := by rw [hw8]; exact (Only.refl (· = ob) w7).setCell (p := ⟨ob, 0, none⟩) (.inl rfl) _
                have r8 : Row w8 ob 38 [.slice A7 N c7, .slice A2 n2 c2, .int .i64 B] := by rw [hw8]; exact R7.out.put 0 _
                obtain ⟨L8, S8⟩ := LX.out.port B5.out S6.out O6.out b7 own7 o8 r8
                have I8 : Hid (∀ w9, Below w8.heap.size w8 w9 → Inv16 w w9 g ob bs B G0 N (Z + 1)) := Lib.hid (fun w9 hb => ⟨_, _, _, _, _, _, _, _, _, _, _, HO2.out, HM2.out, HV2.out, HLN.out.2, fun _ => HB2.out.2.1, L8.quiet hb⟩)
                have LB := Lib.hid L8.base
                obtain ⟨vf8, vo8, vl8, a8, b8, k8, v8, rg8, rpt8, -, -, -⟩ := id S8
                have trace8 := rpt8.trace
                rw [HT2.out] at trace8
                have KT := Lib.hid (fun W (hb : Below w8.heap.size w8 W) => (touches14_any W (trace8.below hb) (by simp)).mono (R' := fun e w' => ∃ gT cT, e = .returned (.slice (some ⟨gT, 0, none⟩) 1 cT) ∧ w'.cell? ⟨gT, 0, none⟩ = some (.int .i64 xT.1) ∧ w'.cell? ⟨gT, 1, none⟩ = some (.int .i64 xT.2.1) ∧ w'.cell? ⟨gT, 2, none⟩ = some (.int .i64 xT.2.2) ∧ Below w8.heap.size w8 w') (fun e w' ⟨v', he, ho, hb'⟩ => by
                  obtain ⟨gT, cT, rfl, _, _⟩ := ho.form (by simp)
                  exact ⟨gT, cT, he, (ho.cellAt 0 (by exact (by decide : 0 < 3))).trans rfl, (ho.cellAt 1 (by exact (by decide : 1 < 3))).trans rfl, (ho.cellAt 2 (by exact (by decide : 2 < 3))).trans rfl, below_on hb hb'⟩))
                have KBU := Lib.hid (fun W (hb : Below w8.heap.size w8 W) => (busy16_any W (rg8.below hb)).mono (R' := fun e w' => e = .returned (.bool true) ∧ Below w8.heap.size w8 w') (fun e w' ⟨he, hw⟩ => ⟨by rw [he]; simp [HB2.out.1], by rw [← hw]; exact hb⟩))
                have KBO := Lib.hid (fun W (hb : Below w8.heap.size w8 W) => (bound16_any W (rg8.below hb) HO2.out.R64.2).mono (R' := fun e w' => e = .returned (.int .i64 ((G0.R : Int) + 18)) ∧ Below w8.heap.size w8 w') (fun e w' ⟨he, hw⟩ => ⟨by rw [he, HM2.out.1], by rw [← hw]; exact hb⟩))
                have KMY := Lib.hid (fun W (hb : Below w8.heap.size w8 W) => (may16_any B self peer own G0.R xT W (by rw [← HM2.out.1]; exact HO2.out.R) (by rw [← HG0.out.1, ← HM2.out.2.1]; exact HO2.out.B) (by have := HMAY.out; rw [HSM.out.1, HSM.out.2.1, HSM.out.2.2.1, HG0.out.1, HG0.out.2] at this; exact this)).mono (R' := fun e w' => e = .returned (.bool true) ∧ Below w8.heap.size w8 w') (fun e w' ⟨he, hb'⟩ => ⟨he, below_on hb hb'⟩))
                unfold baseV at KMY
                have KON := Lib.hid (fun W (hb : Below w8.heap.size w8 W) => once16_any W (S8.gis.below hb) HO2.out)
                rw [HM2.out.1] at KON
                have HBS : Hid (∀ W, Below w8.heap.size w8 W → W.cell? ⟨w.heap.size, 0, none⟩ = some (.int .i64 B) ∧ W.cell? ⟨w.heap.size, 1, none⟩ = some (.int .i64 (G0.R : Int)) ∧ W.cell? ⟨w.heap.size, 2, none⟩ = some (.int .i64 self) ∧ W.cell? ⟨w.heap.size, 3, none⟩ = some (.int .i64 peer) ∧ W.cell? ⟨w.heap.size, 4, none⟩ = some (.int .i64 own)) := Lib.hid (fun W hb => by
                  have r := LB.out.below hb
                  have a0 := r.cell 0
                  have a1 := r.cell 1
                  have a2 := r.cell 2
                  have a3 := r.cell 3
                  have a4 := r.cell 4
                  rw [HBSV.out] at a0 a1 a2 a3 a4
                  exact ⟨a0, a1, a2, a3, a4⟩)
                have HW8 := Lib.hid hw8
                have hzb : ¬ ((G0.R : Int) + 18 ≤ (Z : Int) + 1) := by have := HB2.out.2.2; omega
                have hB1 := HBS.out w8 (Below.refl _ _)
                have hBP := below_q w8 1
                clear own7 b7 o8 r8 L8 S8 rg8 rpt8 trace8 hw8 KW S6 R7 LX L HOK HSM HLN HPT S5 PT HNEW O6
                go_wp2
                rw [← HW8.out]
                clear HW8
                have hD0 : Below w8.heap.size w8 w8.drew := (Below.refl _ _).drew
                have hS0 := HBS.out _ hD0
                generalize hQ : w.heap.size = Q at *
                refine wp_region_held_drew (S := fun W => W.cell? ⟨Q, 0, none⟩ = some (.int .i64 B) ∧ W.cell? ⟨Q, 1, none⟩ = some (.int .i64 (G0.R : Int)) ∧ W.cell? ⟨Q, 2, none⟩ = some (.int .i64 self) ∧ W.cell? ⟨Q, 3, none⟩ = some (.int .i64 peer) ∧ W.cell? ⟨Q, 4, none⟩ = some (.int .i64 own)) (by kernel_rfl) hS0 (fun hHeld => ?_)
                refine' wpAnyH_take (i := 0) (oi := { dst := some 86, op := Go.Op.move (Go.Operand.tmp 12), type := 56, pos := "law.go:166", after := #[], guard := none }) (v := _) rfl (by kernel_rfl) (by kernel_rfl) (by kernel_rfl) (fun _ _ _ h => h) (Or.inl ⟨by rfl, ?hyn0⟩) (by assumption) ?restn0
                case hyn0 => (intro w hSw; (try dsimp only at hSw); go_simp; try with_reducible rfl)
                try simp only [Act.put, List.setIfInBounds_toArray, List.set_cons_zero, List.set_cons_succ]
                refine wpAnyH_ready (rs := [1]) (by kernel_rfl) (by simp) ?_
                refine AllReadyH.cons (o := { dst := some 87, op := Go.Op.call { callee := Go.Callee.value (Go.Operand.func 23), args := #[Go.Operand.tmp 86], argTypes := #[56] }, type := 60, pos := "law.go:166", after := #[{ on := 0, ground := Go.Ground.data }], guard := none }) rfl (fun K hK => ?_) AllReadyH.nil
                go_simp
                refine (KT.out _ (by first | assumption)).mono ?_
                rintro e wT ⟨gT, cT, rfl, t0, t1, t2, bT⟩
                have hST := HBS.out _ bT
                go_wp2_with fail
                refine hK.out _ _ hST (fun _ => ?_)
                clear hK K
                try simp only [Act.put, List.setIfInBounds_toArray, List.set_cons_zero, List.set_cons_succ]
                refine' wpAnyH_take (i := 2) (oi := { dst := some 88, op := Go.Op.call { callee := Go.Callee.builtin Go.Builtin.len, args := #[Go.Operand.tmp 87], argTypes := #[60] }, type := 3, pos := "law.go:166", after := #[{ on := 1, ground := Go.Ground.data }], guard := none }) (v := _) rfl (by kernel_rfl) (by kernel_rfl) (by kernel_rfl) (fun _ _ _ h => h) (Or.inl ⟨by rfl, ?hyn2⟩) (by assumption) ?restn2
                case hyn2 => (intro w hSw; (try dsimp only at hSw); go_simp; try with_reducible rfl)
                try simp only [Act.put, List.setIfInBounds_toArray, List.set_cons_zero, List.set_cons_succ]
                refine' wpAnyH_take (i := 3) (oi := { dst := some 89, op := Go.Op.binOp Go.BinOp.neq 3 (Go.Operand.tmp 88) (Go.Operand.const (Go.Value.int Go.IntKind.i64 1)) 3, type := 4, pos := "law.go:166", after := #[{ on := 2, ground := Go.Ground.data }], guard := none }) (v := _) rfl (by kernel_rfl) (by kernel_rfl) (by kernel_rfl) (fun _ _ _ h => h) (Or.inl ⟨by rfl, ?hyn3⟩) (by assumption) ?restn3
                case hyn3 => (intro w hSw; (try dsimp only at hSw); go_simp; try with_reducible rfl)
                try simp only [Act.put, List.setIfInBounds_toArray, List.set_cons_zero, List.set_cons_succ]
                refine' wpAnyH_take (i := 4) (oi := { dst := some 90, op := Go.Op.move (Go.Operand.tmp 89), type := 4, pos := "law.go:166", after := #[{ on := 3, ground := Go.Ground.data }, { on := 1, ground := Go.Ground.chain }], guard := none }) (v := _) rfl (by kernel_rfl) (by kernel_rfl) (by kernel_rfl) (fun _ _ _ h => h) (Or.inl ⟨by rfl, ?hyn4⟩) (by assumption) ?restn4
                case hyn4 => (intro w hSw; (try dsimp only at hSw); go_simp; try with_reducible rfl)
                try simp only [Act.put, List.setIfInBounds_toArray, List.set_cons_zero, List.set_cons_succ]
                refine' wpAnyH_take (i := 5) (oi := { dst := some 91, op := Go.Op.load 25 (Go.Operand.tmp 2), type := 25, pos := "law.go:166", after := #[{ on := 4, ground := Go.Ground.guard }], guard := some (4, false) }) (v := _) rfl (by kernel_rfl) (by kernel_rfl) (by kernel_rfl) (fun _ _ _ h => h) (Or.inl ⟨by rfl, ?hyn5⟩) (by assumption) ?restn5
                case hyn5 => (intro w hSw; (try dsimp only at hSw); go_simp; try with_reducible rfl)
                try simp only [Act.put, List.setIfInBounds_toArray, List.set_cons_zero, List.set_cons_succ]
                refine' wpAnyH_take (i := 6) (oi := { dst := some 92, op := Go.Op.move (Go.Operand.tmp 12), type := 56, pos := "law.go:166", after := #[{ on := 4, ground := Go.Ground.guard }], guard := some (4, false) }) (v := _) rfl (by kernel_rfl) (by kernel_rfl) (by kernel_rfl) (fun _ _ _ h => h) (Or.inl ⟨by rfl, ?hyn6⟩) (by assumption) ?restn6
                case hyn6 => (intro w hSw; (try dsimp only at hSw); go_simp; try with_reducible rfl)
                try simp only [Act.put, List.setIfInBounds_toArray, List.set_cons_zero, List.set_cons_succ]
                refine wpAnyH_ready (rs := [7]) (by kernel_rfl) (by simp) ?_
                refine AllReadyH.cons (o := { dst := some 93, op := Go.Op.call { callee := Go.Callee.value (Go.Operand.func 23), args := #[Go.Operand.tmp 92], argTypes := #[56] }, type := 60, pos := "law.go:166", after := #[{ on := 6, ground := Go.Ground.data }, { on := 4, ground := Go.Ground.chain }, { on := 4, ground := Go.Ground.guard }], guard := some (4, false) }) rfl (fun K hK => ?_) AllReadyH.nil
                go_simp
                refine (KT.out _ (by first | assumption)).mono ?_
                rintro e wT ⟨gT, cT, rfl, t0, t1, t2, bT⟩
                have hST := HBS.out _ bT
                go_wp2_with fail
                refine hK.out _ _ hST (fun _ => ?_)
                clear hK K
                try simp only [Act.put, List.setIfInBounds_toArray, List.set_cons_zero, List.set_cons_succ]
                refine' wpAnyH_take (i := 8) (oi := { dst := some 94, op := Go.Op.indexAddr 60 (Go.Operand.tmp 93) (Go.Operand.const (Go.Value.int Go.IntKind.i64 0)), type := 0, pos := "law.go:166", after := #[{ on := 7, ground := Go.Ground.data }, { on := 4, ground := Go.Ground.guard }], guard := some (4, false) }) (v := _) rfl (by kernel_rfl) (by kernel_rfl) (by kernel_rfl) (fun _ _ _ h => h) (Or.inl ⟨by rfl, ?hyn8⟩) (by assumption) ?restn8
                case hyn8 => (intro w hSw; (try dsimp only at hSw); go_simp; try with_reducible rfl)
                try simp only [Act.put, List.setIfInBounds_toArray, List.set_cons_zero, List.set_cons_succ]
                refine wpAnyH_ready (rs := [9]) (by kernel_rfl) (by simp) ?_
                refine AllReadyH.cons (o := { dst := some 95, op := Go.Op.load 64 (Go.Operand.tmp 94), type := 64, pos := "law.go:166", after := #[{ on := 8, ground := Go.Ground.data }, { on := 4, ground := Go.Ground.guard }], guard := some (4, false) }) rfl (fun K hK => ?_) AllReadyH.nil
                go_simp
                refine hK.out _ _ (by assumption) (fun _ => ?_)
                clear hK K
                try simp only [Act.put, List.setIfInBounds_toArray, List.set_cons_zero, List.set_cons_succ]
                refine wpAnyH_ready (rs := [10]) (by kernel_rfl) (by simp) ?_
                refine AllReadyH.cons (o := { dst := some 96, op := Go.Op.call { callee := Go.Callee.value (Go.Operand.func 30), args := #[Go.Operand.tmp 91, Go.Operand.tmp 95], argTypes := #[25, 64] }, type := 4, pos := "law.go:166", after := #[{ on := 5, ground := Go.Ground.data }, { on := 9, ground := Go.Ground.data }, { on := 7, ground := Go.Ground.chain }, { on := 4, ground := Go.Ground.guard }], guard := some (4, false) }) rfl (fun K hK => ?_) AllReadyH.nil
                go_simp
                refine (KMY.out _ (by first | assumption)).mono ?_
                rintro e wM ⟨rfl, bM⟩
                have hSM := HBS.out _ bM
                go_wp2_with fail
                refine hK.out _ _ hSM (fun _ => ?_)
                clear hK K
                try simp only [Act.put, List.setIfInBounds_toArray, List.set_cons_zero, List.set_cons_succ]
                refine' wpAnyH_take (i := 11) (oi := { dst := some 97, op := Go.Op.unOp Go.UnOp.not 4 (Go.Operand.tmp 96), type := 4, pos := "law.go:166", after := #[{ on := 10, ground := Go.Ground.data }, { on := 4, ground := Go.Ground.guard }], guard := some (4, false) }) (v := _) rfl (by kernel_rfl) (by kernel_rfl) (by kernel_rfl) (fun _ _ _ h => h) (Or.inl ⟨by rfl, ?hyn11⟩) (by assumption) ?restn11
                case hyn11 => (intro w hSw; (try dsimp only at hSw); go_simp; try with_reducible rfl)
                try simp only [Act.put, List.setIfInBounds_toArray, List.set_cons_zero, List.set_cons_succ]
                refine' wpAnyH_take (i := 12) (oi := { dst := some 98, op := Go.Op.pick (Go.Operand.tmp 90) (Go.Operand.const (Go.Value.bool true)) (Go.Operand.tmp 97), type := 4, pos := "law.go:166", after := #[{ on := 4, ground := Go.Ground.data }, { on := 11, ground := Go.Ground.data }], guard := none }) (v := _) rfl (by kernel_rfl) (by kernel_rfl) (by kernel_rfl) (fun _ _ _ h => h) (Or.inl ⟨by rfl, ?hyn12⟩) (by assumption) ?restn12
                case hyn12 => (intro w hSw; (try dsimp only at hSw); go_simp; try with_reducible rfl)
                try simp only [Act.put, List.setIfInBounds_toArray, List.set_cons_zero, List.set_cons_succ]
                refine' wpAnyH_take (i := 13) (oi := { dst := some 99, op := Go.Op.move (Go.Operand.tmp 98), type := 4, pos := "law.go:166", after := #[{ on := 12, ground := Go.Ground.data }, { on := 10, ground := Go.Ground.chain }], guard := none }) (v := _) rfl (by kernel_rfl) (by kernel_rfl) (by kernel_rfl) (fun _ _ _ h => h) (Or.inl ⟨by rfl, ?hyn13⟩) (by assumption) ?restn13
                case hyn13 => (intro w hSw; (try dsimp only at hSw); go_simp; try with_reducible rfl)
                try simp only [Act.put, List.setIfInBounds_toArray, List.set_cons_zero, List.set_cons_succ]
                refine' wpAnyH_take (i := 14) (oi := { dst := some 100, op := Go.Op.move (Go.Operand.tmp 13), type := 4, pos := "law.go:166", after := #[{ on := 13, ground := Go.Ground.guard }], guard := some (13, false) }) (v := _) rfl (by kernel_rfl) (by kernel_rfl) (by kernel_rfl) (fun _ _ _ h => h) (Or.inl ⟨by rfl, ?hyn14⟩) (by assumption) ?restn14
                case hyn14 => (intro w hSw; (try dsimp only at hSw); go_simp; try with_reducible rfl)
                try simp only [Act.put, List.setIfInBounds_toArray, List.set_cons_zero, List.set_cons_succ]
                refine' wpAnyH_take (i := 15) (oi := { dst := some 101, op := Go.Op.move (Go.Operand.tmp 5), type := 29, pos := "law.go:166", after := #[{ on := 13, ground := Go.Ground.guard }], guard := some (13, false) }) (v := _) rfl (by kernel_rfl) (by kernel_rfl) (by kernel_rfl) (fun _ _ _ h => h) (Or.inl ⟨by rfl, ?hyn15⟩) (by assumption) ?restn15
                case hyn15 => (intro w hSw; (try dsimp only at hSw); go_simp; try with_reducible rfl)
                try simp only [Act.put, List.setIfInBounds_toArray, List.set_cons_zero, List.set_cons_succ]
                refine wpAnyH_ready (rs := [16]) (by kernel_rfl) (by simp) ?_
                refine AllReadyH.cons (o := { dst := some 102, op := Go.Op.call { callee := Go.Callee.value (Go.Operand.func 26), args := #[Go.Operand.tmp 101], argTypes := #[29] }, type := 4, pos := "law.go:166", after := #[{ on := 15, ground := Go.Ground.data }, { on := 13, ground := Go.Ground.chain }, { on := 13, ground := Go.Ground.guard }], guard := some (13, false) }) rfl (fun K hK => ?_) AllReadyH.nil
                go_simp
                refine (KBU.out _ (by first | assumption)).mono ?_
                rintro e wB ⟨rfl, bB⟩
                have hSB := HBS.out _ bB
                go_wp2_with fail
                refine hK.out _ _ hSB (fun _ => ?_)
                clear hK K
                try simp only [Act.put, List.setIfInBounds_toArray, List.set_cons_zero, List.set_cons_succ]
                refine' wpAnyH_take (i := 17) (oi := { dst := some 103, op := Go.Op.binOp Go.BinOp.eql 4 (Go.Operand.tmp 100) (Go.Operand.tmp 102) 4, type := 4, pos := "law.go:166", after := #[{ on := 14, ground := Go.Ground.data }, { on := 16, ground := Go.Ground.data }, { on := 13, ground := Go.Ground.guard }], guard := some (13, false) }) (v := _) rfl (by kernel_rfl) (by kernel_rfl) (by kernel_rfl) (fun _ _ _ h => h) (Or.inl ⟨by rfl, ?hyn17⟩) (by assumption) ?restn17
                case hyn17 => (intro w hSw; (try dsimp only at hSw); go_simp; try with_reducible rfl)
                try simp only [Act.put, List.setIfInBounds_toArray, List.set_cons_zero, List.set_cons_succ]
                refine' wpAnyH_take (i := 18) (oi := { dst := some 104, op := Go.Op.pick (Go.Operand.tmp 99) (Go.Operand.const (Go.Value.bool true)) (Go.Operand.tmp 103), type := 4, pos := "law.go:166", after := #[{ on := 13, ground := Go.Ground.data }, { on := 17, ground := Go.Ground.data }], guard := none }) (v := _) rfl (by kernel_rfl) (by kernel_rfl) (by kernel_rfl) (fun _ _ _ h => h) (Or.inl ⟨by rfl, ?hyn18⟩) (by assumption) ?restn18
                case hyn18 => (intro w hSw; (try dsimp only at hSw); go_simp; try with_reducible rfl)
                try simp only [Act.put, List.setIfInBounds_toArray, List.set_cons_zero, List.set_cons_succ]
                refine' wpAnyH_take (i := 19) (oi := { dst := some 105, op := Go.Op.move (Go.Operand.tmp 104), type := 4, pos := "law.go:166", after := #[{ on := 18, ground := Go.Ground.data }, { on := 16, ground := Go.Ground.chain }], guard := none }) (v := _) rfl (by kernel_rfl) (by kernel_rfl) (by kernel_rfl) (fun _ _ _ h => h) (Or.inl ⟨by rfl, ?hyn19⟩) (by assumption) ?restn19
                case hyn19 => (intro w hSw; (try dsimp only at hSw); go_simp; try with_reducible rfl)
                try simp only [Act.put, List.setIfInBounds_toArray, List.set_cons_zero, List.set_cons_succ]
                refine' wpAnyH_take (i := 20) (oi := { dst := some 106, op := Go.Op.move (Go.Operand.tmp 13), type := 4, pos := "law.go:166", after := #[{ on := 19, ground := Go.Ground.guard }], guard := some (19, false) }) (v := _) rfl (by kernel_rfl) (by kernel_rfl) (by kernel_rfl) (fun _ _ _ h => h) (Or.inl ⟨by rfl, ?hyn20⟩) (by assumption) ?restn20
                case hyn20 => (intro w hSw; (try dsimp only at hSw); go_simp; try with_reducible rfl)
                try simp only [Act.put, List.setIfInBounds_toArray, List.set_cons_zero, List.set_cons_succ]
                refine' wpAnyH_take (i := 21) (oi := { dst := some 107, op := Go.Op.unOp Go.UnOp.not 4 (Go.Operand.tmp 106), type := 4, pos := "law.go:166", after := #[{ on := 20, ground := Go.Ground.data }, { on := 19, ground := Go.Ground.guard }], guard := some (19, false) }) (v := _) rfl (by kernel_rfl) (by kernel_rfl) (by kernel_rfl) (fun _ _ _ h => h) (Or.inl ⟨by rfl, ?hyn21⟩) (by assumption) ?restn21
                case hyn21 => (intro w hSw; (try dsimp only at hSw); go_simp; try with_reducible rfl)
                try simp only [Act.put, List.setIfInBounds_toArray, List.set_cons_zero, List.set_cons_succ]
                refine' wpAnyH_take (i := 22) (oi := { dst := some 108, op := Go.Op.move (Go.Operand.tmp 107), type := 4, pos := "law.go:166", after := #[{ on := 21, ground := Go.Ground.data }, { on := 19, ground := Go.Ground.chain }, { on := 19, ground := Go.Ground.guard }], guard := some (19, false) }) (v := _) rfl (by kernel_rfl) (by kernel_rfl) (by kernel_rfl) (fun _ _ _ h => h) (Or.inl ⟨by rfl, ?hyn22⟩) (by assumption) ?restn22
                case hyn22 => (intro w hSw; (try dsimp only at hSw); go_simp; try with_reducible rfl)
                try simp only [Act.put, List.setIfInBounds_toArray, List.set_cons_zero, List.set_cons_succ]
                refine' wpAnyH_take (i := 23) (oi := { dst := some 109, op := Go.Op.move (Go.Operand.tmp 14), type := 44, pos := "law.go:166", after := #[{ on := 22, ground := Go.Ground.guard }], guard := some (22, true) }) (v := _) rfl (by kernel_rfl) (by kernel_rfl) (by kernel_rfl) (fun _ _ _ h => h) (Or.inl ⟨by rfl, ?hyn23⟩) (by assumption) ?restn23
                case hyn23 => (intro w hSw; (try dsimp only at hSw); go_simp; try with_reducible rfl)
                try simp only [Act.put, List.setIfInBounds_toArray, List.set_cons_zero, List.set_cons_succ]
                refine' wpAnyH_take (i := 24) (oi := { dst := some 110, op := Go.Op.binOp Go.BinOp.neq 44 (Go.Operand.tmp 109) (Go.Operand.const (Go.Value.int Go.IntKind.i64 0)) 44, type := 4, pos := "law.go:166", after := #[{ on := 23, ground := Go.Ground.data }, { on := 22, ground := Go.Ground.guard }], guard := some (22, true) }) (v := _) rfl (by kernel_rfl) (by kernel_rfl) (by kernel_rfl) (fun _ _ _ h => h) (Or.inl ⟨by rfl, ?hyn24⟩) (by assumption) ?restn24
                case hyn24 => (intro w hSw; (try dsimp only at hSw); go_simp; try with_reducible rfl)
                try simp only [Act.put, List.setIfInBounds_toArray, List.set_cons_zero, List.set_cons_succ]
                refine' wpAnyH_take (i := 25) (oi := { dst := some 111, op := Go.Op.move (Go.Operand.tmp 110), type := 4, pos := "law.go:166", after := #[{ on := 24, ground := Go.Ground.data }, { on := 22, ground := Go.Ground.chain }, { on := 22, ground := Go.Ground.guard }], guard := some (22, true) }) (v := _) rfl (by kernel_rfl) (by kernel_rfl) (by kernel_rfl) (fun _ _ _ h => h) (Or.inl ⟨by rfl, ?hyn25⟩) (by assumption) ?restn25
                case hyn25 => (intro w hSw; (try dsimp only at hSw); go_simp; try with_reducible rfl)
                try simp only [Act.put, List.setIfInBounds_toArray, List.set_cons_zero, List.set_cons_succ]
                refine' wpAnyH_take (i := 26) (oi := { dst := some 112, op := Go.Op.move (Go.Operand.tmp 7), type := 3, pos := "law.go:166", after := #[{ on := 25, ground := Go.Ground.guard }], guard := some (25, false) }) (v := _) rfl (by kernel_rfl) (by kernel_rfl) (by kernel_rfl) (fun _ _ _ h => h) (Or.inl ⟨by rfl, ?hyn26⟩) (by assumption) ?restn26
                case hyn26 => (intro w hSw; (try dsimp only at hSw); go_simp; try with_reducible rfl)
                try simp only [Act.put, List.setIfInBounds_toArray, List.set_cons_zero, List.set_cons_succ]
                refine' wpAnyH_take (i := 27) (oi := { dst := some 113, op := Go.Op.move (Go.Operand.tmp 5), type := 29, pos := "law.go:166", after := #[{ on := 25, ground := Go.Ground.guard }], guard := some (25, false) }) (v := _) rfl (by kernel_rfl) (by kernel_rfl) (by kernel_rfl) (fun _ _ _ h => h) (Or.inl ⟨by rfl, ?hyn27⟩) (by assumption) ?restn27
                case hyn27 => (intro w hSw; (try dsimp only at hSw); go_simp; try with_reducible rfl)
                try simp only [Act.put, List.setIfInBounds_toArray, List.set_cons_zero, List.set_cons_succ]
                refine wpAnyH_ready (rs := [28]) (by kernel_rfl) (by simp) ?_
                refine AllReadyH.cons (o := { dst := some 114, op := Go.Op.call { callee := Go.Callee.value (Go.Operand.func 12), args := #[Go.Operand.tmp 113], argTypes := #[29] }, type := 3, pos := "law.go:166", after := #[{ on := 27, ground := Go.Ground.data }, { on := 25, ground := Go.Ground.chain }, { on := 25, ground := Go.Ground.guard }], guard := some (25, false) }) rfl (fun K hK => ?_) AllReadyH.nil
                go_simp
                refine (KBO.out _ (by first | assumption)).mono ?_
                rintro e wO ⟨rfl, bO⟩
                have hSO := HBS.out _ bO
                go_wp2_with fail
                refine hK.out _ _ hSO (fun _ => ?_)
                clear hK K
                try simp only [Act.put, List.setIfInBounds_toArray, List.set_cons_zero, List.set_cons_succ]
                refine' wpAnyH_take (i := 29) (oi := { dst := some 115, op := Go.Op.binOp Go.BinOp.geq 3 (Go.Operand.tmp 112) (Go.Operand.tmp 114) 3, type := 4, pos := "law.go:166", after := #[{ on := 26, ground := Go.Ground.data }, { on := 28, ground := Go.Ground.data }, { on := 25, ground := Go.Ground.guard }], guard := some (25, false) }) (v := _) rfl (by kernel_rfl) (by kernel_rfl) (by kernel_rfl) (fun _ _ _ h => h) (Or.inl ⟨by rfl, ?hyn29⟩) (by assumption) ?restn29
                case hyn29 => (intro w hSw; (try dsimp only at hSw); go_simp; try with_reducible rfl)
                try simp only [Act.put, List.setIfInBounds_toArray, List.set_cons_zero, List.set_cons_succ]
                refine' wpAnyH_take (i := 30) (oi := { dst := some 116, op := Go.Op.pick (Go.Operand.tmp 111) (Go.Operand.const (Go.Value.bool true)) (Go.Operand.tmp 115), type := 4, pos := "law.go:166", after := #[{ on := 25, ground := Go.Ground.data }, { on := 29, ground := Go.Ground.data }, { on := 22, ground := Go.Ground.guard }], guard := some (22, true) }) (v := _) rfl (by kernel_rfl) (by kernel_rfl) (by kernel_rfl) (fun _ _ _ h => h) (Or.inl ⟨by rfl, ?hyn30⟩) (by assumption) ?restn30
                case hyn30 => (intro w hSw; (try dsimp only at hSw); go_simp; try with_reducible rfl)
                try simp only [Act.put, List.setIfInBounds_toArray, List.set_cons_zero, List.set_cons_succ]
                refine' wpAnyH_take (i := 31) (oi := { dst := some 117, op := Go.Op.pick (Go.Operand.tmp 108) (Go.Operand.tmp 116) (Go.Operand.const (Go.Value.bool false)), type := 4, pos := "law.go:166", after := #[{ on := 22, ground := Go.Ground.data }, { on := 30, ground := Go.Ground.data }, { on := 19, ground := Go.Ground.guard }], guard := some (19, false) }) (v := _) rfl (by kernel_rfl) (by kernel_rfl) (by kernel_rfl) (fun _ _ _ h => h) (Or.inl ⟨by rfl, ?hyn31⟩) (by assumption) ?restn31
                case hyn31 => (intro w hSw; (try dsimp only at hSw); go_simp; try with_reducible rfl)
                try simp only [Act.put, List.setIfInBounds_toArray, List.set_cons_zero, List.set_cons_succ]
                refine' wpAnyH_take (i := 32) (oi := { dst := some 118, op := Go.Op.pick (Go.Operand.tmp 105) (Go.Operand.const (Go.Value.bool true)) (Go.Operand.tmp 117), type := 4, pos := "law.go:166", after := #[{ on := 19, ground := Go.Ground.data }, { on := 31, ground := Go.Ground.data }], guard := none }) (v := _) rfl (by kernel_rfl) (by kernel_rfl) (by kernel_rfl) (fun _ _ _ h => h) (Or.inl ⟨by rfl, ?hyn32⟩) (by assumption) ?restn32
                case hyn32 => (intro w hSw; (try dsimp only at hSw); go_simp; try with_reducible rfl)
                try simp only [Act.put, List.setIfInBounds_toArray, List.set_cons_zero, List.set_cons_succ]
                refine wpAnyH_done (by kernel_rfl) ?_ _
                obtain ⟨s0, s1, s2, s3, s4⟩ := hSO
                go_wp2_with fail
                refine (KON.out _ (by first | assumption)).mono ?_
                rintro e w9 ⟨rfl, b9⟩
                have I9 := Lib.hid (I8.out w9 (below_on bO b9))
                clear b9
                subst hQ
                go_wp2
                go_roundw
                case rel => exact ⟨k + 1, Z + 1, by omega, by omega, by go_num, by go_num, I9⟩
                case measure => simp [intOf]; omega

              | some ee =>
                rw [hans] at KS hpot
                unfold ansV16 tface14 at KS
                have hb2 : S2.G.st = 0 := hpot.2.2 (by simp)
                have HB2 := Lib.hid hb2
                have HT2 := Lib.hid hT2
                have HV2 := Lib.hid hV2
                have HO2 := Lib.hid hO2
                have HM2 := Lib.hid hM2
                have HMAY := Lib.hid hmay
                clear hpot hxT hS2 hT2 hV2 hG2 hO2 hM2 hA2 hpt hans hmay hb2 HT5 e0 hst
                go_wp2_with fail
                refine KS.out.mono ?_
                rintro e w6 ⟨rfl, s6, o6⟩
                obtain ⟨vf, vo, vl, a', b', k', v', rg, rpt, hd, hu1, hu2⟩ := id s6
                have KW := Lib.hid (words14_any w6 rpt.plain)
                have S6 := Lib.hid s6
                have O6 := Lib.hid o6
                clear s6 o6 KS rg rpt hd hu1 hu2
                go_wp2_with fail
                refine KW.out.mono ?_
                rintro e w7 ⟨v7, rfl, own7, b7⟩
                rw [HV2.out] at own7
                obtain ⟨A7, c7, rfl⟩ := own_open14 own7
                have R7 := Lib.hid (((LX.out.obj.below B5.out).only O6.out (fun h => by
                  rcases h with h | h
                  · exact (LX.out.hU _ h).2 rfl
                  · have := LX.out.obj.lt; omega)).below b7)
                have q0 := R7.out.cell 0
                have q1 := R7.out.cell 1
                have f0 := R7.out.soft 0
                simp only [List.getElem?_cons_zero, List.getElem?_cons_succ] at q0 q1
                obtain ⟨w8, hw8⟩ : ∃ w8, w8 = w7.setCell ⟨ob, 0, none⟩ (.slice A7 N c7) := ⟨_, rfl⟩
                have o8 : Only (· = ob) w7 w8 := by rw [hw8]; exact (Only.refl (· = ob) w7).setCell (p := ⟨ob, 0, none⟩) (.inl rfl) _
                have r8 : Row w8 ob 38 [.slice A7 N c7, .slice A2 n2 c2, .int .i64 B] := by rw [hw8]; exact R7.out.put 0 _
                obtain ⟨L8, S8⟩ := LX.out.port B5.out S6.out O6.out b7 own7 o8 r8
                have I8 : Hid (∀ w9, Below w8.heap.size w8 w9 → Inv16 w w9 g ob bs B G0 N (Z + 1)) := Lib.hid (fun w9 hb => ⟨_, _, _, _, _, _, _, _, _, _, _, HO2.out, HM2.out, HV2.out, HLN.out.2, fun h => absurd HB2.out h, L8.quiet hb⟩)
                have LB := Lib.hid L8.base
                obtain ⟨vf8, vo8, vl8, a8, b8, k8, v8, rg8, rpt8, -, -, -⟩ := id S8
                have trace8 := rpt8.trace
                rw [HT2.out] at trace8
                have KT := Lib.hid (fun W (hb : Below w8.heap.size w8 W) => (touches14_any W (trace8.below hb) (by simp)).mono (R' := fun e w' => ∃ gT cT, e = .returned (.slice (some ⟨gT, 0, none⟩) 1 cT) ∧ w'.cell? ⟨gT, 0, none⟩ = some (.int .i64 xT.1) ∧ w'.cell? ⟨gT, 1, none⟩ = some (.int .i64 xT.2.1) ∧ w'.cell? ⟨gT, 2, none⟩ = some (.int .i64 xT.2.2) ∧ Below w8.heap.size w8 w') (fun e w' ⟨v', he, ho, hb'⟩ => by
                  obtain ⟨gT, cT, rfl, _, _⟩ := ho.form (by simp)
                  exact ⟨gT, cT, he, (ho.cellAt 0 (by exact (by decide : 0 < 3))).trans rfl, (ho.cellAt 1 (by exact (by decide : 1 < 3))).trans rfl, (ho.cellAt 2 (by exact (by decide : 2 < 3))).trans rfl, below_on hb hb'⟩))
                have KBU := Lib.hid (fun W (hb : Below w8.heap.size w8 W) => (busy16_any W (rg8.below hb)).mono (R' := fun e w' => e = .returned (.bool false) ∧ Below w8.heap.size w8 w') (fun e w' ⟨he, hw⟩ => ⟨by rw [he]; simp [HB2.out], by rw [← hw]; exact hb⟩))
                have KMY := Lib.hid (fun W (hb : Below w8.heap.size w8 W) => (may16_any B self peer own G0.R xT W (by rw [← HM2.out.1]; exact HO2.out.R) (by rw [← HG0.out.1, ← HM2.out.2.1]; exact HO2.out.B) (by have := HMAY.out; rw [HSM.out.1, HSM.out.2.1, HSM.out.2.2.1, HG0.out.1, HG0.out.2] at this; exact this)).mono (R' := fun e w' => e = .returned (.bool true) ∧ Below w8.heap.size w8 w') (fun e w' ⟨he, hb'⟩ => ⟨he, below_on hb hb'⟩))
                unfold baseV at KMY
                have KON := Lib.hid (fun W (hb : Below w8.heap.size w8 W) => once16_any W (S8.gis.below hb) HO2.out)
                rw [HM2.out.1] at KON
                have HBS : Hid (∀ W, Below w8.heap.size w8 W → W.cell? ⟨w.heap.size, 0, none⟩ = some (.int .i64 B) ∧ W.cell? ⟨w.heap.size, 1, none⟩ = some (.int .i64 (G0.R : Int)) ∧ W.cell? ⟨w.heap.size, 2, none⟩ = some (.int .i64 self) ∧ W.cell? ⟨w.heap.size, 3, none⟩ = some (.int .i64 peer) ∧ W.cell? ⟨w.heap.size, 4, none⟩ = some (.int .i64 own)) := Lib.hid (fun W hb => by
                  have r := LB.out.below hb
                  have a0 := r.cell 0
                  have a1 := r.cell 1
                  have a2 := r.cell 2
                  have a3 := r.cell 3
                  have a4 := r.cell 4
                  rw [HBSV.out] at a0 a1 a2 a3 a4
                  exact ⟨a0, a1, a2, a3, a4⟩)
                have HW8 := Lib.hid hw8
                have hzb : True := trivial
                have hB1 := HBS.out w8 (Below.refl _ _)
                have hBP := below_q w8 1
                clear own7 b7 o8 r8 L8 S8 rg8 rpt8 trace8 hw8 KW S6 R7 LX L HOK HSM HLN HPT S5 PT HNEW O6
                go_wp2
                rw [← HW8.out]
                clear HW8
                have hD0 : Below w8.heap.size w8 w8.drew := (Below.refl _ _).drew
                have hS0 := HBS.out _ hD0
                generalize hQ : w.heap.size = Q at *
                refine wp_region_held_drew (S := fun W => W.cell? ⟨Q, 0, none⟩ = some (.int .i64 B) ∧ W.cell? ⟨Q, 1, none⟩ = some (.int .i64 (G0.R : Int)) ∧ W.cell? ⟨Q, 2, none⟩ = some (.int .i64 self) ∧ W.cell? ⟨Q, 3, none⟩ = some (.int .i64 peer) ∧ W.cell? ⟨Q, 4, none⟩ = some (.int .i64 own)) (by kernel_rfl) hS0 (fun hHeld => ?_)
                refine' wpAnyH_take (i := 0) (oi := { dst := some 86, op := Go.Op.move (Go.Operand.tmp 12), type := 56, pos := "law.go:166", after := #[], guard := none }) (v := _) rfl (by kernel_rfl) (by kernel_rfl) (by kernel_rfl) (fun _ _ _ h => h) (Or.inl ⟨by rfl, ?hys0⟩) (by assumption) ?rests0
                case hys0 => (intro w hSw; (try dsimp only at hSw); go_simp; try with_reducible rfl)
                try simp only [Act.put, List.setIfInBounds_toArray, List.set_cons_zero, List.set_cons_succ]
                refine wpAnyH_ready (rs := [1]) (by kernel_rfl) (by simp) ?_
                refine AllReadyH.cons (o := { dst := some 87, op := Go.Op.call { callee := Go.Callee.value (Go.Operand.func 23), args := #[Go.Operand.tmp 86], argTypes := #[56] }, type := 60, pos := "law.go:166", after := #[{ on := 0, ground := Go.Ground.data }], guard := none }) rfl (fun K hK => ?_) AllReadyH.nil
                go_simp
                refine (KT.out _ (by first | assumption)).mono ?_
                rintro e wT ⟨gT, cT, rfl, t0, t1, t2, bT⟩
                have hST := HBS.out _ bT
                go_wp2_with fail
                refine hK.out _ _ hST (fun _ => ?_)
                clear hK K
                try simp only [Act.put, List.setIfInBounds_toArray, List.set_cons_zero, List.set_cons_succ]
                refine' wpAnyH_take (i := 2) (oi := { dst := some 88, op := Go.Op.call { callee := Go.Callee.builtin Go.Builtin.len, args := #[Go.Operand.tmp 87], argTypes := #[60] }, type := 3, pos := "law.go:166", after := #[{ on := 1, ground := Go.Ground.data }], guard := none }) (v := _) rfl (by kernel_rfl) (by kernel_rfl) (by kernel_rfl) (fun _ _ _ h => h) (Or.inl ⟨by rfl, ?hys2⟩) (by assumption) ?rests2
                case hys2 => (intro w hSw; (try dsimp only at hSw); go_simp; try with_reducible rfl)
                try simp only [Act.put, List.setIfInBounds_toArray, List.set_cons_zero, List.set_cons_succ]
                refine' wpAnyH_take (i := 3) (oi := { dst := some 89, op := Go.Op.binOp Go.BinOp.neq 3 (Go.Operand.tmp 88) (Go.Operand.const (Go.Value.int Go.IntKind.i64 1)) 3, type := 4, pos := "law.go:166", after := #[{ on := 2, ground := Go.Ground.data }], guard := none }) (v := _) rfl (by kernel_rfl) (by kernel_rfl) (by kernel_rfl) (fun _ _ _ h => h) (Or.inl ⟨by rfl, ?hys3⟩) (by assumption) ?rests3
                case hys3 => (intro w hSw; (try dsimp only at hSw); go_simp; try with_reducible rfl)
                try simp only [Act.put, List.setIfInBounds_toArray, List.set_cons_zero, List.set_cons_succ]
                refine' wpAnyH_take (i := 4) (oi := { dst := some 90, op := Go.Op.move (Go.Operand.tmp 89), type := 4, pos := "law.go:166", after := #[{ on := 3, ground := Go.Ground.data }, { on := 1, ground := Go.Ground.chain }], guard := none }) (v := _) rfl (by kernel_rfl) (by kernel_rfl) (by kernel_rfl) (fun _ _ _ h => h) (Or.inl ⟨by rfl, ?hys4⟩) (by assumption) ?rests4
                case hys4 => (intro w hSw; (try dsimp only at hSw); go_simp; try with_reducible rfl)
                try simp only [Act.put, List.setIfInBounds_toArray, List.set_cons_zero, List.set_cons_succ]
                refine' wpAnyH_take (i := 5) (oi := { dst := some 91, op := Go.Op.load 25 (Go.Operand.tmp 2), type := 25, pos := "law.go:166", after := #[{ on := 4, ground := Go.Ground.guard }], guard := some (4, false) }) (v := _) rfl (by kernel_rfl) (by kernel_rfl) (by kernel_rfl) (fun _ _ _ h => h) (Or.inl ⟨by rfl, ?hys5⟩) (by assumption) ?rests5
                case hys5 => (intro w hSw; (try dsimp only at hSw); go_simp; try with_reducible rfl)
                try simp only [Act.put, List.setIfInBounds_toArray, List.set_cons_zero, List.set_cons_succ]
                refine' wpAnyH_take (i := 6) (oi := { dst := some 92, op := Go.Op.move (Go.Operand.tmp 12), type := 56, pos := "law.go:166", after := #[{ on := 4, ground := Go.Ground.guard }], guard := some (4, false) }) (v := _) rfl (by kernel_rfl) (by kernel_rfl) (by kernel_rfl) (fun _ _ _ h => h) (Or.inl ⟨by rfl, ?hys6⟩) (by assumption) ?rests6
                case hys6 => (intro w hSw; (try dsimp only at hSw); go_simp; try with_reducible rfl)
                try simp only [Act.put, List.setIfInBounds_toArray, List.set_cons_zero, List.set_cons_succ]
                refine wpAnyH_ready (rs := [7]) (by kernel_rfl) (by simp) ?_
                refine AllReadyH.cons (o := { dst := some 93, op := Go.Op.call { callee := Go.Callee.value (Go.Operand.func 23), args := #[Go.Operand.tmp 92], argTypes := #[56] }, type := 60, pos := "law.go:166", after := #[{ on := 6, ground := Go.Ground.data }, { on := 4, ground := Go.Ground.chain }, { on := 4, ground := Go.Ground.guard }], guard := some (4, false) }) rfl (fun K hK => ?_) AllReadyH.nil
                go_simp
                refine (KT.out _ (by first | assumption)).mono ?_
                rintro e wT ⟨gT, cT, rfl, t0, t1, t2, bT⟩
                have hST := HBS.out _ bT
                go_wp2_with fail
                refine hK.out _ _ hST (fun _ => ?_)
                clear hK K
                try simp only [Act.put, List.setIfInBounds_toArray, List.set_cons_zero, List.set_cons_succ]
                refine' wpAnyH_take (i := 8) (oi := { dst := some 94, op := Go.Op.indexAddr 60 (Go.Operand.tmp 93) (Go.Operand.const (Go.Value.int Go.IntKind.i64 0)), type := 0, pos := "law.go:166", after := #[{ on := 7, ground := Go.Ground.data }, { on := 4, ground := Go.Ground.guard }], guard := some (4, false) }) (v := _) rfl (by kernel_rfl) (by kernel_rfl) (by kernel_rfl) (fun _ _ _ h => h) (Or.inl ⟨by rfl, ?hys8⟩) (by assumption) ?rests8
                case hys8 => (intro w hSw; (try dsimp only at hSw); go_simp; try with_reducible rfl)
                try simp only [Act.put, List.setIfInBounds_toArray, List.set_cons_zero, List.set_cons_succ]
                refine wpAnyH_ready (rs := [9]) (by kernel_rfl) (by simp) ?_
                refine AllReadyH.cons (o := { dst := some 95, op := Go.Op.load 64 (Go.Operand.tmp 94), type := 64, pos := "law.go:166", after := #[{ on := 8, ground := Go.Ground.data }, { on := 4, ground := Go.Ground.guard }], guard := some (4, false) }) rfl (fun K hK => ?_) AllReadyH.nil
                go_simp
                refine hK.out _ _ (by assumption) (fun _ => ?_)
                clear hK K
                try simp only [Act.put, List.setIfInBounds_toArray, List.set_cons_zero, List.set_cons_succ]
                refine wpAnyH_ready (rs := [10]) (by kernel_rfl) (by simp) ?_
                refine AllReadyH.cons (o := { dst := some 96, op := Go.Op.call { callee := Go.Callee.value (Go.Operand.func 30), args := #[Go.Operand.tmp 91, Go.Operand.tmp 95], argTypes := #[25, 64] }, type := 4, pos := "law.go:166", after := #[{ on := 5, ground := Go.Ground.data }, { on := 9, ground := Go.Ground.data }, { on := 7, ground := Go.Ground.chain }, { on := 4, ground := Go.Ground.guard }], guard := some (4, false) }) rfl (fun K hK => ?_) AllReadyH.nil
                go_simp
                refine (KMY.out _ (by first | assumption)).mono ?_
                rintro e wM ⟨rfl, bM⟩
                have hSM := HBS.out _ bM
                go_wp2_with fail
                refine hK.out _ _ hSM (fun _ => ?_)
                clear hK K
                try simp only [Act.put, List.setIfInBounds_toArray, List.set_cons_zero, List.set_cons_succ]
                refine' wpAnyH_take (i := 11) (oi := { dst := some 97, op := Go.Op.unOp Go.UnOp.not 4 (Go.Operand.tmp 96), type := 4, pos := "law.go:166", after := #[{ on := 10, ground := Go.Ground.data }, { on := 4, ground := Go.Ground.guard }], guard := some (4, false) }) (v := _) rfl (by kernel_rfl) (by kernel_rfl) (by kernel_rfl) (fun _ _ _ h => h) (Or.inl ⟨by rfl, ?hys11⟩) (by assumption) ?rests11
                case hys11 => (intro w hSw; (try dsimp only at hSw); go_simp; try with_reducible rfl)
                try simp only [Act.put, List.setIfInBounds_toArray, List.set_cons_zero, List.set_cons_succ]
                refine' wpAnyH_take (i := 12) (oi := { dst := some 98, op := Go.Op.pick (Go.Operand.tmp 90) (Go.Operand.const (Go.Value.bool true)) (Go.Operand.tmp 97), type := 4, pos := "law.go:166", after := #[{ on := 4, ground := Go.Ground.data }, { on := 11, ground := Go.Ground.data }], guard := none }) (v := _) rfl (by kernel_rfl) (by kernel_rfl) (by kernel_rfl) (fun _ _ _ h => h) (Or.inl ⟨by rfl, ?hys12⟩) (by assumption) ?rests12
                case hys12 => (intro w hSw; (try dsimp only at hSw); go_simp; try with_reducible rfl)
                try simp only [Act.put, List.setIfInBounds_toArray, List.set_cons_zero, List.set_cons_succ]
                refine' wpAnyH_take (i := 13) (oi := { dst := some 99, op := Go.Op.move (Go.Operand.tmp 98), type := 4, pos := "law.go:166", after := #[{ on := 12, ground := Go.Ground.data }, { on := 10, ground := Go.Ground.chain }], guard := none }) (v := _) rfl (by kernel_rfl) (by kernel_rfl) (by kernel_rfl) (fun _ _ _ h => h) (Or.inl ⟨by rfl, ?hys13⟩) (by assumption) ?rests13
                case hys13 => (intro w hSw; (try dsimp only at hSw); go_simp; try with_reducible rfl)
                try simp only [Act.put, List.setIfInBounds_toArray, List.set_cons_zero, List.set_cons_succ]
                refine' wpAnyH_take (i := 14) (oi := { dst := some 100, op := Go.Op.move (Go.Operand.tmp 13), type := 4, pos := "law.go:166", after := #[{ on := 13, ground := Go.Ground.guard }], guard := some (13, false) }) (v := _) rfl (by kernel_rfl) (by kernel_rfl) (by kernel_rfl) (fun _ _ _ h => h) (Or.inl ⟨by rfl, ?hys14⟩) (by assumption) ?rests14
                case hys14 => (intro w hSw; (try dsimp only at hSw); go_simp; try with_reducible rfl)
                try simp only [Act.put, List.setIfInBounds_toArray, List.set_cons_zero, List.set_cons_succ]
                refine' wpAnyH_take (i := 15) (oi := { dst := some 101, op := Go.Op.move (Go.Operand.tmp 5), type := 29, pos := "law.go:166", after := #[{ on := 13, ground := Go.Ground.guard }], guard := some (13, false) }) (v := _) rfl (by kernel_rfl) (by kernel_rfl) (by kernel_rfl) (fun _ _ _ h => h) (Or.inl ⟨by rfl, ?hys15⟩) (by assumption) ?rests15
                case hys15 => (intro w hSw; (try dsimp only at hSw); go_simp; try with_reducible rfl)
                try simp only [Act.put, List.setIfInBounds_toArray, List.set_cons_zero, List.set_cons_succ]
                refine wpAnyH_ready (rs := [16]) (by kernel_rfl) (by simp) ?_
                refine AllReadyH.cons (o := { dst := some 102, op := Go.Op.call { callee := Go.Callee.value (Go.Operand.func 26), args := #[Go.Operand.tmp 101], argTypes := #[29] }, type := 4, pos := "law.go:166", after := #[{ on := 15, ground := Go.Ground.data }, { on := 13, ground := Go.Ground.chain }, { on := 13, ground := Go.Ground.guard }], guard := some (13, false) }) rfl (fun K hK => ?_) AllReadyH.nil
                go_simp
                refine (KBU.out _ (by first | assumption)).mono ?_
                rintro e wB ⟨rfl, bB⟩
                have hSB := HBS.out _ bB
                go_wp2_with fail
                refine hK.out _ _ hSB (fun _ => ?_)
                clear hK K
                try simp only [Act.put, List.setIfInBounds_toArray, List.set_cons_zero, List.set_cons_succ]
                refine' wpAnyH_take (i := 17) (oi := { dst := some 103, op := Go.Op.binOp Go.BinOp.eql 4 (Go.Operand.tmp 100) (Go.Operand.tmp 102) 4, type := 4, pos := "law.go:166", after := #[{ on := 14, ground := Go.Ground.data }, { on := 16, ground := Go.Ground.data }, { on := 13, ground := Go.Ground.guard }], guard := some (13, false) }) (v := _) rfl (by kernel_rfl) (by kernel_rfl) (by kernel_rfl) (fun _ _ _ h => h) (Or.inl ⟨by rfl, ?hys17⟩) (by assumption) ?rests17
                case hys17 => (intro w hSw; (try dsimp only at hSw); go_simp; try with_reducible rfl)
                try simp only [Act.put, List.setIfInBounds_toArray, List.set_cons_zero, List.set_cons_succ]
                refine' wpAnyH_take (i := 18) (oi := { dst := some 104, op := Go.Op.pick (Go.Operand.tmp 99) (Go.Operand.const (Go.Value.bool true)) (Go.Operand.tmp 103), type := 4, pos := "law.go:166", after := #[{ on := 13, ground := Go.Ground.data }, { on := 17, ground := Go.Ground.data }], guard := none }) (v := _) rfl (by kernel_rfl) (by kernel_rfl) (by kernel_rfl) (fun _ _ _ h => h) (Or.inl ⟨by rfl, ?hys18⟩) (by assumption) ?rests18
                case hys18 => (intro w hSw; (try dsimp only at hSw); go_simp; try with_reducible rfl)
                try simp only [Act.put, List.setIfInBounds_toArray, List.set_cons_zero, List.set_cons_succ]
                refine' wpAnyH_take (i := 19) (oi := { dst := some 105, op := Go.Op.move (Go.Operand.tmp 104), type := 4, pos := "law.go:166", after := #[{ on := 18, ground := Go.Ground.data }, { on := 16, ground := Go.Ground.chain }], guard := none }) (v := _) rfl (by kernel_rfl) (by kernel_rfl) (by kernel_rfl) (fun _ _ _ h => h) (Or.inl ⟨by rfl, ?hys19⟩) (by assumption) ?rests19
                case hys19 => (intro w hSw; (try dsimp only at hSw); go_simp; try with_reducible rfl)
                try simp only [Act.put, List.setIfInBounds_toArray, List.set_cons_zero, List.set_cons_succ]
                refine' wpAnyH_take (i := 20) (oi := { dst := some 106, op := Go.Op.move (Go.Operand.tmp 13), type := 4, pos := "law.go:166", after := #[{ on := 19, ground := Go.Ground.guard }], guard := some (19, false) }) (v := _) rfl (by kernel_rfl) (by kernel_rfl) (by kernel_rfl) (fun _ _ _ h => h) (Or.inl ⟨by rfl, ?hys20⟩) (by assumption) ?rests20
                case hys20 => (intro w hSw; (try dsimp only at hSw); go_simp; try with_reducible rfl)
                try simp only [Act.put, List.setIfInBounds_toArray, List.set_cons_zero, List.set_cons_succ]
                refine' wpAnyH_take (i := 21) (oi := { dst := some 107, op := Go.Op.unOp Go.UnOp.not 4 (Go.Operand.tmp 106), type := 4, pos := "law.go:166", after := #[{ on := 20, ground := Go.Ground.data }, { on := 19, ground := Go.Ground.guard }], guard := some (19, false) }) (v := _) rfl (by kernel_rfl) (by kernel_rfl) (by kernel_rfl) (fun _ _ _ h => h) (Or.inl ⟨by rfl, ?hys21⟩) (by assumption) ?rests21
                case hys21 => (intro w hSw; (try dsimp only at hSw); go_simp; try with_reducible rfl)
                try simp only [Act.put, List.setIfInBounds_toArray, List.set_cons_zero, List.set_cons_succ]
                refine' wpAnyH_take (i := 22) (oi := { dst := some 108, op := Go.Op.move (Go.Operand.tmp 107), type := 4, pos := "law.go:166", after := #[{ on := 21, ground := Go.Ground.data }, { on := 19, ground := Go.Ground.chain }, { on := 19, ground := Go.Ground.guard }], guard := some (19, false) }) (v := _) rfl (by kernel_rfl) (by kernel_rfl) (by kernel_rfl) (fun _ _ _ h => h) (Or.inl ⟨by rfl, ?hys22⟩) (by assumption) ?rests22
                case hys22 => (intro w hSw; (try dsimp only at hSw); go_simp; try with_reducible rfl)
                try simp only [Act.put, List.setIfInBounds_toArray, List.set_cons_zero, List.set_cons_succ]
                refine' wpAnyH_take (i := 23) (oi := { dst := some 109, op := Go.Op.move (Go.Operand.tmp 14), type := 44, pos := "law.go:166", after := #[{ on := 22, ground := Go.Ground.guard }], guard := some (22, true) }) (v := undef) rfl (by kernel_rfl) (by kernel_rfl) (by kernel_rfl) (fun _ _ _ h => h) (Or.inr ⟨by rfl, rfl⟩) (by assumption) ?rests23
                try simp only [Act.put, List.setIfInBounds_toArray, List.set_cons_zero, List.set_cons_succ]
                refine' wpAnyH_take (i := 24) (oi := { dst := some 110, op := Go.Op.binOp Go.BinOp.neq 44 (Go.Operand.tmp 109) (Go.Operand.const (Go.Value.int Go.IntKind.i64 0)) 44, type := 4, pos := "law.go:166", after := #[{ on := 23, ground := Go.Ground.data }, { on := 22, ground := Go.Ground.guard }], guard := some (22, true) }) (v := undef) rfl (by kernel_rfl) (by kernel_rfl) (by kernel_rfl) (fun _ _ _ h => h) (Or.inr ⟨by rfl, rfl⟩) (by assumption) ?rests24
                try simp only [Act.put, List.setIfInBounds_toArray, List.set_cons_zero, List.set_cons_succ]
                refine' wpAnyH_take (i := 25) (oi := { dst := some 111, op := Go.Op.move (Go.Operand.tmp 110), type := 4, pos := "law.go:166", after := #[{ on := 24, ground := Go.Ground.data }, { on := 22, ground := Go.Ground.chain }, { on := 22, ground := Go.Ground.guard }], guard := some (22, true) }) (v := undef) rfl (by kernel_rfl) (by kernel_rfl) (by kernel_rfl) (fun _ _ _ h => h) (Or.inr ⟨by rfl, rfl⟩) (by assumption) ?rests25
                try simp only [Act.put, List.setIfInBounds_toArray, List.set_cons_zero, List.set_cons_succ]
                refine' wpAnyH_take (i := 26) (oi := { dst := some 112, op := Go.Op.move (Go.Operand.tmp 7), type := 3, pos := "law.go:166", after := #[{ on := 25, ground := Go.Ground.guard }], guard := some (25, false) }) (v := undef) rfl (by kernel_rfl) (by kernel_rfl) (by kernel_rfl) (fun _ _ _ h => h) (Or.inr ⟨by rfl, rfl⟩) (by assumption) ?rests26
                try simp only [Act.put, List.setIfInBounds_toArray, List.set_cons_zero, List.set_cons_succ]
                refine' wpAnyH_take (i := 27) (oi := { dst := some 113, op := Go.Op.move (Go.Operand.tmp 5), type := 29, pos := "law.go:166", after := #[{ on := 25, ground := Go.Ground.guard }], guard := some (25, false) }) (v := undef) rfl (by kernel_rfl) (by kernel_rfl) (by kernel_rfl) (fun _ _ _ h => h) (Or.inr ⟨by rfl, rfl⟩) (by assumption) ?rests27
                try simp only [Act.put, List.setIfInBounds_toArray, List.set_cons_zero, List.set_cons_succ]
                refine' wpAnyH_take (i := 28) (oi := { dst := some 114, op := Go.Op.call { callee := Go.Callee.value (Go.Operand.func 12), args := #[Go.Operand.tmp 113], argTypes := #[29] }, type := 3, pos := "law.go:166", after := #[{ on := 27, ground := Go.Ground.data }, { on := 25, ground := Go.Ground.chain }, { on := 25, ground := Go.Ground.guard }], guard := some (25, false) }) (v := undef) rfl (by kernel_rfl) (by kernel_rfl) (by kernel_rfl) (fun _ _ _ h => h) (Or.inr ⟨by rfl, rfl⟩) (by assumption) ?rests28
                try simp only [Act.put, List.setIfInBounds_toArray, List.set_cons_zero, List.set_cons_succ]
                refine' wpAnyH_take (i := 29) (oi := { dst := some 115, op := Go.Op.binOp Go.BinOp.geq 3 (Go.Operand.tmp 112) (Go.Operand.tmp 114) 3, type := 4, pos := "law.go:166", after := #[{ on := 26, ground := Go.Ground.data }, { on := 28, ground := Go.Ground.data }, { on := 25, ground := Go.Ground.guard }], guard := some (25, false) }) (v := undef) rfl (by kernel_rfl) (by kernel_rfl) (by kernel_rfl) (fun _ _ _ h => h) (Or.inr ⟨by rfl, rfl⟩) (by assumption) ?rests29
                try simp only [Act.put, List.setIfInBounds_toArray, List.set_cons_zero, List.set_cons_succ]
                refine' wpAnyH_take (i := 30) (oi := { dst := some 116, op := Go.Op.pick (Go.Operand.tmp 111) (Go.Operand.const (Go.Value.bool true)) (Go.Operand.tmp 115), type := 4, pos := "law.go:166", after := #[{ on := 25, ground := Go.Ground.data }, { on := 29, ground := Go.Ground.data }, { on := 22, ground := Go.Ground.guard }], guard := some (22, true) }) (v := undef) rfl (by kernel_rfl) (by kernel_rfl) (by kernel_rfl) (fun _ _ _ h => h) (Or.inr ⟨by rfl, rfl⟩) (by assumption) ?rests30
                try simp only [Act.put, List.setIfInBounds_toArray, List.set_cons_zero, List.set_cons_succ]
                refine' wpAnyH_take (i := 31) (oi := { dst := some 117, op := Go.Op.pick (Go.Operand.tmp 108) (Go.Operand.tmp 116) (Go.Operand.const (Go.Value.bool false)), type := 4, pos := "law.go:166", after := #[{ on := 22, ground := Go.Ground.data }, { on := 30, ground := Go.Ground.data }, { on := 19, ground := Go.Ground.guard }], guard := some (19, false) }) (v := _) rfl (by kernel_rfl) (by kernel_rfl) (by kernel_rfl) (fun _ _ _ h => h) (Or.inl ⟨by rfl, ?hys31⟩) (by assumption) ?rests31
                case hys31 => (intro w hSw; (try dsimp only at hSw); go_simp; try with_reducible rfl)
                try simp only [Act.put, List.setIfInBounds_toArray, List.set_cons_zero, List.set_cons_succ]
                refine' wpAnyH_take (i := 32) (oi := { dst := some 118, op := Go.Op.pick (Go.Operand.tmp 105) (Go.Operand.const (Go.Value.bool true)) (Go.Operand.tmp 117), type := 4, pos := "law.go:166", after := #[{ on := 19, ground := Go.Ground.data }, { on := 31, ground := Go.Ground.data }], guard := none }) (v := _) rfl (by kernel_rfl) (by kernel_rfl) (by kernel_rfl) (fun _ _ _ h => h) (Or.inl ⟨by rfl, ?hys32⟩) (by assumption) ?rests32
                case hys32 => (intro w hSw; (try dsimp only at hSw); go_simp; try with_reducible rfl)
                try simp only [Act.put, List.setIfInBounds_toArray, List.set_cons_zero, List.set_cons_succ]
                refine wpAnyH_done (by kernel_rfl) ?_ _
                obtain ⟨s0, s1, s2, s3, s4⟩ := hSB
                go_wp2_with fail
                refine (KON.out _ (by first | assumption)).mono ?_
                rintro e w9 ⟨rfl, b9⟩
                have I9 := Lib.hid (I8.out w9 (below_on bB b9))
                clear b9
                subst hQ
                go_wp2
                go_roundw
                case rel => exact ⟨k + 1, Z + 1, by omega, by omega, by go_num, by go_num, I9⟩
                case measure => simp [intOf]; omega

    · obtain rfl : n = k := by omega
      have KA := Lib.hid (alive16 wr (HT.out wr hbw))
      have BW := Lib.hid hbw
      clear L hOK hSM hVN hE8 hPT hbw HI HEV
      go_wp2_with fail
      refine KA.out.mono ?_
      rintro e w9 ⟨rfl, b9⟩
      have B9 := Lib.hid (below_on BW.out b9)
      clear b9
      go_wp2
      go_ret
      exact ⟨rfl, B9.out⟩

#print axioms safe16_loop
end Go.Proofs.YtbahnnlenaoomaaDoor
