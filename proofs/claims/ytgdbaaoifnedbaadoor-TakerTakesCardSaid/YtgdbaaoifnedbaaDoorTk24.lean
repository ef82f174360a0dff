/-
  Layer 17 (taker): the walk of the law TakerTakes.
  Conditions: those that each theorem states.
-/
import Derived.Test.YtgdbaaoifnedbaaDoorTk23
import Derived.Deep.RegionHeld3
import Derived.Lib.MinMax
namespace Go.Proofs.YtgdbaaoifnedbaaDoor
open Go.ChangeShapes Go.WideShapes Go.ChangeAt Go.RowKit

theorem at17_of {R : Nat} {f s i : Int} (h : okWord (R : Int) f s i) : atV13 0 (R : Int) f s i = of17 R f s i := by
  unfold atV13 of17
  rw [if_pos h]
  omega

theorem Msg17.keep {R : Nat} (hR : okRing (R : Int)) {V : List Int} {X : Nat → Nat → Int} {k : Nat} (hm : Msg17 R V X k) (hV : V.length = 4 + 11 * R) (hk : k < R) {f s i : Int} (h : okWord (R : Int) f s i) (h5 : ¬ (f = 5 ∧ s = (k : Int))) (h7 : ¬ (f = 7 ∧ s = ((R - 1 - k : Nat) : Int))) (h8 : ¬ (f = 8 ∧ s = ((R - 1 - k : Nat) : Int))) (y : Int) : Msg17 R (put14 V (of17 R f s i) y) X k := by
  refine ⟨?_, ?_, fun j hj => ?_⟩
  · rw [nth17_of hR hV h (w17_5 hk), if_neg (fun e => h5 ⟨e.1.symm, e.2.1.symm⟩)]
    exact hm.avail
  · rw [nth17_of hR hV h (w17_7 (by omega)), if_neg (fun e => h7 ⟨e.1.symm, e.2.1.symm⟩)]
    exact hm.len
  · rw [nth17_of hR hV h (w17_8 (by omega) (by omega)), if_neg (fun e => h8 ⟨e.1.symm, e.2.1.symm⟩)]
    exact hm.word j hj

/-- The memory while message number i is laid: its slot's number, its length, the first j of its words (as a says). -/
structure Pz17 (w0 wr : World) (qb g p R i a j : Nat) (Y : Nat → Nat → Int) (V : List Int) (U : Nat → Prop) : Prop where
  mem : Lr17 w0 wr (· = qb) g p (.slice none 0 0) [] (lk0 R) V [0, 0, 0] [] U
  qv : Row wr qb 54 [.pointer (some ⟨p, 0, none⟩)]
  len : V.length = 4 + 11 * R
  z0 : nth14 V 0 = 0
  msg : ∀ k, k < i → Msg17 R V Y k
  av : 1 ≤ a → nth14 V (of17 R 5 (i : Int) 0) = ((R - 1 - i : Nat) : Int)
  ln : 2 ≤ a → nth14 V (of17 R 7 ((R - 1 - i : Nat) : Int) 0) = ((1 + i % 8 : Nat) : Int)
  wd : ∀ k, k < j → nth14 V (of17 R 8 ((R - 1 - i : Nat) : Int) (k : Int)) = Y i k

section
variable {w0 wr w1 : World} {qb g p R i a j : Nat} {Y : Nat → Nat → Int} {V : List Int} {U : Nat → Prop}

theorem of17_z (R : Nat) : of17 R 1 0 0 = 0 := by rw [of17_low R 1 (by omega)]; rfl

theorem Pz17.avail (Z : Pz17 w0 wr qb g p R i 0 0 Y V U) (hR : okRing (R : Int)) (hi : i < R) (n : Nx17 w0 wr (· = qb) g p (.slice none 0 0) [] (lk0 R) (put14 V (of17 R 5 (i : Int) 0) ((R - 1 - i : Nat) : Int)) [0, 0, 0] [] w1) : ∃ V' U', Pz17 w0 w1 qb g p R i 1 0 Y V' U' := by
  obtain ⟨⟨U', l⟩, hk⟩ := n
  have h5 := w17_5 (R := R) hi
  refine ⟨_, U', l, hk _ _ _ rfl Z.qv, by rw [put14_len]; exact Z.len, ?_, fun k h => (Z.msg k h).keep hR Z.len (by omega) h5 (by omega) (by omega) (by omega) _, fun _ => ?_, fun h => by omega, fun k h => by omega⟩
  · have := nth17_of hR Z.len h5 (w17_ok (R := R) 1 (by omega)) ((R - 1 - i : Nat) : Int)
    rw [of17_z, if_neg (by omega)] at this
    rw [this]
    exact Z.z0
  · rw [nth17_of hR Z.len h5 h5, if_pos ⟨rfl, rfl, rfl⟩]

theorem Pz17.length (Z : Pz17 w0 wr qb g p R i 1 0 Y V U) (hR : okRing (R : Int)) (hi : i < R) (n : Nx17 w0 wr (· = qb) g p (.slice none 0 0) [] (lk0 R) (put14 V (of17 R 7 ((R - 1 - i : Nat) : Int) 0) ((1 + i % 8 : Nat) : Int)) [0, 0, 0] [] w1) : ∃ V' U', Pz17 w0 w1 qb g p R i 2 0 Y V' U' := by
  obtain ⟨⟨U', l⟩, hk⟩ := n
  have h5 := w17_5 (R := R) hi
  have h7 := w17_7 (R := R) (i := R - 1 - i) (by omega)
  refine ⟨_, U', l, hk _ _ _ rfl Z.qv, by rw [put14_len]; exact Z.len, ?_, fun k h => (Z.msg k h).keep hR Z.len (by omega) h7 (by omega) (by omega) (by omega) _, fun _ => ?_, fun _ => ?_, fun k h => by omega⟩
  · have := nth17_of hR Z.len h7 (w17_ok (R := R) 1 (by omega)) ((1 + i % 8 : Nat) : Int)
    rw [of17_z, if_neg (by omega)] at this
    rw [this]
    exact Z.z0
  · rw [nth17_of hR Z.len h7 h5, if_neg (by omega)]
    exact Z.av (by omega)
  · rw [nth17_of hR Z.len h7 h7, if_pos ⟨rfl, rfl, rfl⟩]

theorem Pz17.word (Z : Pz17 w0 wr qb g p R i 2 j Y V U) (hR : okRing (R : Int)) (hi : i < R) (hj : j < 8) (n : Nx17 w0 wr (· = qb) g p (.slice none 0 0) [] (lk0 R) (put14 V (of17 R 8 ((R - 1 - i : Nat) : Int) (j : Int)) (Y i j)) [0, 0, 0] [] w1) : ∃ V' U', Pz17 w0 w1 qb g p R i 2 (j + 1) Y V' U' := by
  obtain ⟨⟨U', l⟩, hk⟩ := n
  have h5 := w17_5 (R := R) hi
  have h7 := w17_7 (R := R) (i := R - 1 - i) (by omega)
  have h8 := w17_8 (R := R) (i := R - 1 - i) (j := j) (by omega) hj
  refine ⟨_, U', l, hk _ _ _ rfl Z.qv, by rw [put14_len]; exact Z.len, ?_, fun k h => (Z.msg k h).keep hR Z.len (by omega) h8 (by omega) (by omega) (by omega) _, fun _ => ?_, fun _ => ?_, fun k h => ?_⟩
  · have := nth17_of hR Z.len h8 (w17_ok (R := R) 1 (by omega)) (Y i j)
    rw [of17_z, if_neg (by omega)] at this
    rw [this]
    exact Z.z0
  · rw [nth17_of hR Z.len h8 h5, if_neg (by omega)]
    exact Z.av (by omega)
  · rw [nth17_of hR Z.len h8 h7, if_neg (by omega)]
    exact Z.ln (by omega)
  · rw [nth17_of hR Z.len h8 (w17_8 (R := R) (i := R - 1 - i) (j := k) (by omega) (by omega))]
    by_cases e : k = j
    · rw [if_pos ⟨rfl, rfl, by omega⟩, e]
    · rw [if_neg (by omega)]
      exact Z.wd k (by omega)

theorem Pz17.next (Z : Pz17 w0 wr qb g p R i 2 (i % 8 + 1) Y V U) : Pz17 w0 wr qb g p R (i + 1) 0 0 Y V U :=
  ⟨Z.mem, Z.qv, Z.len, Z.z0, fun k h => by
    by_cases e : k = i
    · subst e
      exact ⟨Z.av (by omega), Z.ln (by omega), fun j hj => Z.wd j (by omega)⟩
    · exact Z.msg k (by omega), fun h => by omega, fun h => by omega, fun k h => by omega⟩
end

/-- The memory while the messages are received. -/
structure Py17 (w0 wr : World) (qb g p R n i : Nat) (Y : Nat → Nat → Int) (V : List Int) (v : Value) (G : Tk) (U : Nat → Prop) : Prop where
  mem : Lr17 w0 wr (· = qb) g p v (hn17 ((List.range i).map fun k => R - 1 - k)) G V [0, 0, 0] [] U
  qv : Row wr qb 54 [.pointer (some ⟨p, 0, none⟩)]
  len : V.length = 4 + 11 * R
  z0 : nth14 V 0 = 0
  z2 : nth14 V 2 = (n : Int)
  msg : ∀ k, k < n → Msg17 R V Y k
  tak : Tak17 R G
  head : G.head = (i : Int)
  tab : G.tab = tt17 R i
  used : G.used = 0

set_option maxRecDepth 100000 in
set_option maxHeartbeats 8000000 in
theorem takes17_yes (R : Nat) (v1 v2 : Value) (ws os : List Int) (w : World) (hR : okRing (R : Int)) (h16 : R ≤ 16) (hT : TabAt w) (hv1 : Lies w (fun _ => True) v1 (kints .u16 ws)) (hv2 : Lies w (fun _ => True) v2 (kints .u8 os)) (hwm : ws.length ≤ maxLen) (hw : ∀ z ∈ ws, 0 ≤ z ∧ z ≤ 65535) (ho : ∀ z ∈ os, 0 ≤ z ∧ z ≤ 255) :
    Calls Tryd.prog 6 #[.int .i64 (R : Int), v1, v2] w fun e w' => e = .returned (.bool true) ∧ Below w.heap.size w w' := by
  obtain ⟨i0, hi0, hz0, hz1, hz2⟩ := info_parts int_info
  have n16 : decide ((16 : Int) < (R : Int)) = false := by simp; omega
  have KR := Lib.hid (fun W => rring13_any (R : Int) W)
  have e0 : decide (okRing (R : Int)) = true := decide_eq_true hR
  rw [e0] at KR
  have HT := Lib.hid hT
  have KM := Lib.hid (fun W => made17_yes (B := 0) (r := R) (self := 2) (peer := 1) (own := 0) ⟨hR, by omega, by omega, by omega, by omega, by omega⟩ W)
  unfold baseV17 at KM
  obtain ⟨N, hN⟩ : ∃ N, 4 + 11 * R = N := ⟨_, rfl⟩
  have hb64 := hR.bd
  have hN2 : 20 ≤ N ∧ N ≤ 2000 := by omega
  have KZ := Lib.hid (fun W => size13_any (R : Int) W)
  have ez : sizeP (R : Int) = (N : Int) := by unfold sizeP; rw [if_pos hR]; omega
  rw [ez] at KZ
  have hmk : ∀ W : World, (Instr.makeSlice 33 (.int .i64 (N : Int)) (.int .i64 (N : Int))).run Tryd.prog W = .ok (.slice (some ⟨W.heap.size, 0, none⟩) N N) (W.alloc (.cells (madeCells #[.int .i64 0] N) 3)) := fun W => run_make_row' (P := Tryd.prog) 33 3 (.int .i64 0) 8 Tryd.underlying33 int_info rfl .i64 .i64 N (by omega) (by omega) W
  have hR2 : 2 ≤ R ∧ R ≤ 16 := by omega
  have HR := Lib.hid hR
  have HN := Lib.hid (And.intro hN hN2)
  obtain ⟨A1, c1, hva1, -⟩ := id hv1
  rw [kints_len] at hva1
  obtain ⟨nw, hnw⟩ : ∃ n, ws.length = n := ⟨_, rfl⟩
  rw [hnw] at hva1 hwm
  subst hva1
  obtain ⟨A2, c2, hva2, -⟩ := id hv2
  subst hva2
  have HNW := Lib.hid hnw
  have HWB := Lib.hid hw
  have HOB := Lib.hid ho
  unfold maxLen at hwm
  obtain ⟨n, hn, hnR, hnw2⟩ : ∃ n : Nat, n = min nw R ∧ n ≤ R ∧ n ≤ nw := ⟨_, rfl, Nat.min_le_right _ _, Nat.min_le_left _ _⟩
  have hmin2 : min (nw : Int) (R : Int) = (n : Int) := by omega
  have HNN := Lib.hid hn
  have r0 := Row.new w 3 #[.int .i64 (R : Int)]
  have q0 := r0.cell 0
  simp only [List.getElem?_cons_zero] at q0
  obtain ⟨w0, hw0⟩ : ∃ w0, w0 = w.alloc (.cells #[.int .i64 (R : Int)] 3) := ⟨_, rfl⟩
  rw [← hw0] at r0
  have B0 : Hid (Below w.heap.size w w0) := Lib.hid (by rw [hw0]; exact below_al _ _)
  have R0 := Lib.hid r0
  have T0 : Hid (TabAt w0) := Lib.hid (hT.below B0.out)
  have HV1 := Lib.hid (fun wr (hb : Below w0.heap.size w0 wr) => (hv1.below B0.out).below hb)
  have HV2 := Lib.hid (fun wr (hb : Below w0.heap.size w0 wr) => (hv2.below B0.out).below hb)
  clear hv1 hv2 hT hR e0 ez hw ho hn hb64 hnw r0
  go_enter Tryd.func6, Tryd.ntmps6
  go_wp2_with (go_at_call 31; refine (KR.out _).mono ?_; rintro e w' ⟨rfl, rfl⟩)
  rw [← hw0]
  refine (KM.out _).mono ?_
  rintro e w1 ⟨g, rfl, s1, b1⟩
  have S1 := Lib.hid s1
  have B1 := Lib.hid b1
  have q1 := (R0.out.below b1).cell 0
  simp only [List.getElem?_cons_zero] at q1
  clear s1 b1 KM KR hw0
  unfold ptr
  go_wp2_with fail
  refine (KZ.out _).mono ?_
  rintro e w' ⟨rfl, rfl⟩
  go_wp2_with fail
  have hz := Row.new w1 3 (madeCells #[Value.int .i64 0] N)
  rw [ints_zeros] at hz
  have hz2' := hz.below (below_al (w1.alloc (.cells (madeCells #[Value.int .i64 0] N) 3)) (.cells #[.int .i64 0, .int .i64 0, .int .i64 0] 3))
  have he2 := Row.new (w1.alloc (.cells (madeCells #[Value.int .i64 0] N) 3)) 3 #[.int .i64 0, .int .i64 0, .int .i64 0]
  rw [size_al] at he2
  have hb3 := below_on (below_al w1 (.cells (madeCells #[Value.int .i64 0] N) 3)) (below_al (w1.alloc (.cells (madeCells #[Value.int .i64 0] N) 3)) (.cells #[.int .i64 0, .int .i64 0, .int .i64 0] 3))
  have hlz := Lies.of_row (P := fun _ => True) hz2' trivial N
  rw [show (ints (List.replicate N (0 : Int))).length = N by simp [ints]] at hlz
  refine (ofWords14_any (fun _ => True) (fun _ => True) (List.replicate N 0) [0, 0, 0] _ _ _ hlz (Lies.of_row he2 trivial 3) (by simp; omega) (by simp)).mono ?_
  rintro e w4 ⟨p, a, b, rfl, rp, ha, hp, hb4⟩
  have e1 : mod14 (List.replicate N 0) = List.replicate N 0 := by simp [mod14]
  rw [e1, show mod14 [0, 0, 0] = [0, 0, 0] by decide] at rp
  have q4 := ((((R0.out.below B1.out).below hb3).below hb4)).cell 0
  simp only [List.getElem?_cons_zero] at q4
  have hlt4 : w.heap.size < w4.heap.size := (((R0.out.below B1.out).below hb3).below hb4).lt
  have hne4 : w.heap.size ≠ w4.heap.size := by omega
  obtain ⟨qb, hqb⟩ : ∃ qb, w4.heap.size = qb := ⟨_, rfl⟩
  obtain ⟨Y, hY⟩ : ∃ Y : Nat → Nat → Int, Y = fun (i j : Nat) => bits .xor .i64 (ws.getD i 0) (j : Int) := ⟨_, rfl⟩
  have HY := Lib.hid hY
  have Z5 : Hid (∃ U, Pz17 w0 (w4.alloc (.cells #[.pointer (some ⟨p, 0, none⟩)] 54)) qb g p R 0 0 0 Y (List.replicate N 0) U) := Lib.hid (by
    have hab := rp.ne
    have hs3 := hb3.size
    have hs4 := hb4.size
    have hs1 := B1.out.size
    have hsys := sysP17_of S1.out (below_on hb3 hb4) rp (fun x hx => by
      rcases hx with hx | rfl
      · rcases hx with rfl | rfl | hx
        · omega
        · omega
        · cases hx
      · omega)
    have ba := below_al w4 (.cells #[.pointer (some ⟨p, 0, none⟩)] 54)
    have hsys' := (hsys.weak (U' := fun x => w0.heap.size ≤ x ∧ x < w4.heap.size) (fun x hx h => ⟨by rcases h with h | h; exact h; omega, hx⟩)).below ba
    refine ⟨_, ⟨hsys', World.ownsRow_nil _ _ _ _, fun x hx h => (by cases h), fun x hx => ⟨hx.1, fun h => (by subst h; omega)⟩, fun x h => (by cases h), fun x hx => (by subst hx; rw [size_al]; omega), below_on (below_on (below_on B1.out hb3) hb4) ba⟩, ?_, by rw [List.length_replicate]; exact HN.out.1.symm, nth17_zeros _ _, fun k h => by omega, fun h => by omega, fun h => by omega, fun k h => by omega⟩
    rw [← hqb]
    exact Row.new w4 _ #[.pointer (some ⟨p, 0, none⟩)])
  have q5 := (((((R0.out.below B1.out).below hb3).below hb4)).below (below_al w4 (.cells #[.pointer (some ⟨p, 0, none⟩)] 54))).cell 0
  simp only [List.getElem?_cons_zero] at q5
  clear hlz hz hz2' he2 hb3 hb4 rp ha hp e1 hmk S1 q0 q1 KZ hY
  unfold ptr
  go_wp2
  obtain ⟨w5, hw5⟩ : ∃ w5, w5 = w4.alloc (.cells #[.pointer (some ⟨p, 0, none⟩)] 54) := ⟨_, rfl⟩
  rw [← hw5] at Z5 ⊢
  clear hw5 q4 q5 hlt4 hne4 hqb
  go_loopw [11] (fun iv wr => ∃ i : Nat, i ≤ n ∧ iv = .int .i64 i ∧ ∃ V U, Hid (Pz17 w0 wr qb g p R i 0 0 Y V U)) (fun iv _ => n + 1 - (intOf iv).toNat)
  case atStart =>
    obtain ⟨U, z⟩ := Z5.out
    exact ⟨0, Nat.zero_le _, rfl, _, U, Lib.hid z⟩
  case round =>
    clear Z5
    obtain ⟨i, hi, rfl, V, U, Z⟩ := hrel
    have q5 := (R0.out.below Z.out.mem.below).cell 0
    simp only [List.getElem?_cons_zero] at q5
    by_cases hlt : i < n
    · have hin : decide ((i : Int) < (n : Int)) = true := by simp; omega
      have hiR : i < R := by omega
      obtain ⟨D, hD⟩ : ∃ D, R - 1 - i = D := ⟨_, rfl⟩
      obtain ⟨R1, hR1⟩ : ∃ R1, R - 1 = R1 := ⟨_, rfl⟩
      have d1 : (R : Int) - 1 = (R1 : Int) := by omega
      have d2 : (R1 : Int) - (i : Int) = (D : Int) := by omega
      have d3 : IntKind.i64.wrap (R1 : Int) = (R1 : Int) := IntWalk.i64_in _ (by omega)
      have d4 : IntKind.i64.wrap (D : Int) = (D : Int) := IntWalk.i64_in _ (by omega)
      obtain ⟨e8, he8⟩ : ∃ e8, i % 8 = e8 := ⟨_, rfl⟩
      have h8 : e8 < 8 := by omega
      have d5 : (i : Int).tmod 8 = (e8 : Int) := by rw [Int.tmod_eq_emod_of_nonneg (by omega)]; omega
      have d5' : (i : Int) % 8 = (e8 : Int) := by omega
      obtain ⟨M1, hM1⟩ : ∃ M1, 1 + e8 = M1 := ⟨_, rfl⟩
      have d6 : (1 : Int) + (e8 : Int) = (M1 : Int) := by omega
      have d7 : IntKind.i64.wrap (M1 : Int) = (M1 : Int) := IntWalk.i64_in _ (by omega)
      have d8 : IntKind.i64.wrap (e8 : Int) = (e8 : Int) := IntWalk.i64_in _ (by omega)
      have HM1 := Lib.hid hM1
      have HD := Lib.hid hD
      have HE8 := Lib.hid he8
      have KP1 := Lib.hid (Z.out.mem.put 5 (i : Int) 0 (D : Int) (R : Int) w.heap.size qb (by omega) (R0.out.below Z.out.mem.below) Z.out.qv)
      rw [at17_of (w17_5 hiR), show (D : Int) % 65536 = (D : Int) from Int.emod_eq_of_lt (by omega) (by omega)] at KP1
      clear hD hR1 hM1
      go_wp2_with fail
      refine KP1.out.mono ?_
      rintro e w6 ⟨rfl, n6⟩
      obtain ⟨V6, U6, z6⟩ := Z.out.avail HR.out hiR (by rw [HD.out]; exact n6)
      have Z6 := Lib.hid z6
      have q6 := (R0.out.below z6.mem.below).cell 0
      simp only [List.getElem?_cons_zero] at q6
      have KP2 := Lib.hid (z6.mem.put 7 (D : Int) 0 (M1 : Int) (R : Int) w.heap.size qb (by omega) (R0.out.below z6.mem.below) z6.qv)
      rw [at17_of (w17_7 (by have := HD.out; omega)), show (M1 : Int) % 65536 = (M1 : Int) from Int.emod_eq_of_lt (by omega) (by omega)] at KP2
      clear n6 z6 KP1
      go_wp2_with fail
      refine KP2.out.mono ?_
      rintro e w7 ⟨rfl, n7⟩
      obtain ⟨V7, U7, z7⟩ := Z6.out.length HR.out hiR (by rw [HD.out, HE8.out, HM1.out]; exact n7)
      have Z7 := Lib.hid z7
      have q7 := (R0.out.below z7.mem.below).cell 0
      simp only [List.getElem?_cons_zero] at q7
      clear n7 z7 KP2 Z6 q5 q6
      go_wp2
      go_loopw [13] (fun jv wq => ∃ j : Nat, j ≤ e8 + 1 ∧ jv = .int .i64 j ∧ ∃ V U, Hid (Pz17 w0 wq qb g p R i 2 j Y V U)) (fun jv _ => e8 + 2 - (intOf jv).toNat)
      case atStart => exact ⟨0, Nat.zero_le _, rfl, V7, U7, Z7⟩
      case round =>
        clear Z7
        obtain ⟨j, hj, rfl, Vj, Uj, Zj⟩ := hrel
        have qj := (R0.out.below Zj.out.mem.below).cell 0
        simp only [List.getElem?_cons_zero] at qj
        by_cases hje : j ≤ e8
        · have hjd : decide ((j : Int) ≤ (e8 : Int)) = true := by simp; omega
          have hjd2 : decide (j ≤ e8) = true := by simpa using hje
          obtain ⟨z, hz⟩ : ∃ z, ws[i]? = some z := ⟨_, List.getElem?_eq_getElem (by rw [HNW.out]; omega)⟩
          obtain ⟨zz0, zz1⟩ := HWB.out z (List.mem_of_getElem? hz)
          obtain ⟨gw, ow, rfl, -, hgw, hzc⟩ := kind_at (HV1.out _ Zj.out.mem.below) hz
          have hinw : (i : Int) < (nw : Int) := by omega
          have hzw : IntKind.i64.wrap z = z := IntWalk.i64_in _ (by omega)
          have hYv : Y i j = bits .xor .i64 z (j : Int) := by
            rw [HY.out]
            show bits .xor .i64 (ws.getD i 0) (j : Int) = _
            rw [List.getD_eq_getElem?_getD, hz]
            rfl
          have HYV := Lib.hid hYv
          obtain ⟨xo, hxo⟩ : ∃ x, bits .xor .i64 z (j : Int) = x := ⟨_, rfl⟩
          have HXO := Lib.hid hxo
          have hxb : 0 ≤ xo ∧ xo < 65536 := by rw [← hxo]; exact xor17 zz0 zz1 (by omega)
          have KP3 := Lib.hid (Zj.out.mem.put 8 (D : Int) (j : Int) xo (R : Int) w.heap.size qb (by omega) (R0.out.below Zj.out.mem.below) Zj.out.qv)
          rw [at17_of (w17_8 (by have := HD.out; omega) (by omega)), show xo % 65536 = xo from Int.emod_eq_of_lt hxb.1 hxb.2] at KP3
          clear hz hYv
          go_wp2_with fail
          refine KP3.out.mono ?_
          rintro e w8 ⟨rfl, n8⟩
          obtain ⟨V8, U8, z8⟩ := Zj.out.word HR.out hiR (by omega) (by rw [HD.out, HYV.out, HXO.out]; exact n8)
          have Z8 := Lib.hid z8
          have q8 := (R0.out.below Z8.out.mem.below).cell 0
          simp only [List.getElem?_cons_zero] at q8
          clear n8 z8 KP3 Zj qj
          go_wp2
          go_roundw
          case rel => exact ⟨j + 1, by omega, by go_num, V8, U8, Z8⟩
          case measure => simp [intOf]; omega
        · have hjd : decide ((j : Int) ≤ (e8 : Int)) = false := by simp; omega
          have hjd2 : decide (j ≤ e8) = false := by simpa using hje
          obtain rfl : j = e8 + 1 := by omega
          have Zn : Hid (Pz17 w0 _ qb g p R (i + 1) 0 0 Y Vj Uj) := Lib.hid (Pz17.next (by rw [HE8.out]; exact Zj.out))
          clear Zj
          go_wp2
          go_roundw
          case rel => exact ⟨i + 1, by omega, by go_num, Vj, Uj, Zn⟩
          case measure => simp [intOf]; omega

    · have hin : decide ((i : Int) < (n : Int)) = false := by simp; omega
      obtain rfl : n = i := by omega
      have KP := Lib.hid (Z.out.mem.put 3 0 0 (n : Int) (R : Int) w.heap.size qb (by omega) (R0.out.below Z.out.mem.below) Z.out.qv)
      rw [at17_of (w17_ok 3 (by omega)), show (n : Int) % 65536 = (n : Int) from Int.emod_eq_of_lt (by omega) (by omega)] at KP
      go_wp2_with fail
      refine KP.out.mono ?_
      rintro e w6 ⟨rfl, n6⟩
      have Y6 : Hid (∃ V G U, Py17 w0 w6 qb g p R n 0 Y V (.slice none 0 0) G U) := Lib.hid (by
        obtain ⟨⟨U', l⟩, hk⟩ := n6
        have h3 := w17_ok (R := (R : Int)) 3 (by omega)
        refine ⟨_, lk0 R, U', l, hk _ _ _ rfl Z.out.qv, by rw [put14_len]; exact Z.out.len, ?_, ?_, fun k h => (Z.out.msg k h).keep HR.out Z.out.len (by omega) h3 (by omega) (by omega) (by omega) _, ⟨lk0_ok HR.out, rfl, rfl, rfl, rfl, rfl, rfl, rfl⟩, rfl, (tt17_zero R).symm, rfl⟩
        · have := nth17_of HR.out Z.out.len h3 (w17_ok (R := R) 1 (by omega)) (n : Int)
          rw [of17_z, if_neg (by omega)] at this
          rw [this]
          exact Z.out.z0
        · have := nth17_of HR.out Z.out.len h3 h3 (n : Int)
          rw [if_pos ⟨rfl, rfl, rfl⟩] at this
          have e2 : of17 R 3 0 0 = 2 := by rw [of17_low R 3 (by omega)]; rfl
          rw [e2] at this ⊢
          exact this)
      clear n6 KP Z q5
      go_wp2
      go_loopw [14, 15] (fun hv iv wr => ∃ (i : Nat) (A : Option Addr) (c : Nat), i ≤ n ∧ iv = .int .i64 i ∧ hv = .slice A i c ∧ ∃ V G U, Hid (Py17 w0 wr qb g p R n i Y V (.slice A i c) G U)) (fun _ iv _ => n + 1 - (intOf iv).toNat)
      case atStart =>
        obtain ⟨V, G, U, y⟩ := Y6.out
        exact ⟨0, none, 0, Nat.zero_le _, rfl, rfl, V, G, U, Lib.hid y⟩
      case round =>
        clear Y6
        obtain ⟨i, A, c, hi, rfl, rfl, V, G, U, Z⟩ := hrel
        have hin : decide ((i : Int) ≤ (n : Int)) = true := by simp; omega
        have hin2 : decide (i ≤ n) = true := by simpa using hi
        have q5 := (R0.out.below Z.out.mem.below).cell 0
        have q6 := Z.out.qv.cell 0
        simp only [List.getElem?_cons_zero] at q5 q6
        have KS := Lib.hid Z.out.mem.recv
        rw [(lk_rec Z.out.tak.st).2] at KS
        have HPO : Hid (pot17 (recT17 G) ≤ 100) := Lib.hid (by rw [(lk_rec Z.out.tak.st).1]; show 14 ≤ 100; omega)
        go_wp2_with fail
        refine KS.out.mono ?_
        rintro e w7 ⟨rfl, n7⟩
        have Q7 := Lib.hid (n7.2 qb _ _ rfl Z.out.qv)
        obtain ⟨U7, l7⟩ := n7.1
        have L7 := Lib.hid l7
        have q7 := Q7.out.cell 0
        simp only [List.getElem?_cons_zero] at q7
        clear n7 l7 KS q6
        by_cases hlt : i < n
        ·
          obtain ⟨G', ov, tk, hd, tb, us, lk, gl, gh⟩ := take17_recv (K := []) HR.out hnR hlt Z.out.tak Z.out.head Z.out.tab Z.out.used Z.out.z0 Z.out.z2 (Z.out.msg i hlt)
          have KU := Lib.hid (L7.out.run T0.out ov HPO.out)
          unfold face14 at KU
          have HG := Lib.hid (And.intro tk (And.intro hd (And.intro tb (And.intro us (And.intro lk (And.intro gl gh))))))
          obtain ⟨e8, he8⟩ : ∃ e8, i % 8 = e8 := ⟨_, rfl⟩
          obtain ⟨D, hD⟩ : ∃ D, R - 1 - i = D := ⟨_, rfl⟩
          have hgt : gotL17 G' = (List.range (1 + e8)).map (Y i) := by
            unfold gotL17
            rw [if_neg (by rw [gh]; omega), gl, he8]
          have HGT := Lib.hid hgt
          have h8 : e8 < 8 := by omega
          have d5 : (i : Int).tmod 8 = (e8 : Int) := by rw [Int.tmod_eq_emod_of_nonneg (by omega)]; omega
          have d5' : (i : Int) % 8 = (e8 : Int) := by omega
          have d6 : (1 : Int) + (e8 : Int) = ((1 + e8 : Nat) : Int) := by omega
          have d7 : IntKind.i64.wrap ((1 + e8 : Nat) : Int) = ((1 + e8 : Nat) : Int) := IntWalk.i64_in _ (by omega)
          have d8 : IntKind.i64.wrap (e8 : Int) = (e8 : Int) := IntWalk.i64_in _ (by omega)
          have d9 : (((1 + e8 : Nat) : Int) != ((1 + e8 : Nat) : Int)) = false := by simp
          have hne : ((i : Int) == (n : Int)) = false := by simp; omega
          rw [hD] at HG
          have HD := Lib.hid hD
          clear ov tk hd tb us lk gl gh hgt hD
          go_wp2_with fail
          refine KU.out.mono ?_
          rintro e w8 ⟨rfl, n8⟩
          have Q8 := Lib.hid (n8.2 qb _ _ rfl Q7.out)
          obtain ⟨U8, l8⟩ := n8.1
          have L8 := Lib.hid l8
          have KG := Lib.hid (l8.got (by have := HG.out.1.ok.gl; omega))
          rw [HGT.out, HG.out.2.2.2.2.2.2, List.length_map, List.length_range] at KG
          obtain ⟨hh, hhe⟩ : ∃ hh, 64 + (D : Int) = hh := ⟨_, rfl⟩
          rw [hhe] at KG
          have HHE := Lib.hid hhe
          obtain ⟨M, hM⟩ : ∃ M, 1 + e8 = M := ⟨_, rfl⟩
          rw [hM] at KG d6 d7 d9
          have HM := Lib.hid hM
          clear n8 l8 KU L7 Q7 q7 hM hhe
          go_wp2_with fail
          refine KG.out.mono ?_
          rintro e w9 ⟨A9, c9, rfl, h9, b9⟩
          have Q9 := Lib.hid (Q8.out.below b9)
          have L9 := Lib.hid (L8.out.quiet b9)
          have H9 := Lib.hid h9
          clear b9 KG L8 Q8 h9
          go_wp2
          go_loopw [127] (fun jv wq => ∃ j : Nat, j ≤ M ∧ jv = .int .i64 j ∧ w9 = wq) (fun jv _ => M + 1 - (intOf jv).toNat)
          case atStart => exact ⟨0, Nat.zero_le _, rfl, rfl⟩
          case round =>
            obtain ⟨j, hj, rfl, rfl⟩ := hrel
            by_cases hjM : j < M
            · have hjd : decide ((j : Int) < (M : Int)) = true := by simp; omega
              have hjd3 : (j : Int) < (M : Int) := by omega
              have hjd2 : decide (j < M) = true := by simpa using hjM
              obtain ⟨z, hz⟩ : ∃ z, ws[i]? = some z := ⟨_, List.getElem?_eq_getElem (by rw [HNW.out]; omega)⟩
              obtain ⟨zz0, zz1⟩ := HWB.out z (List.mem_of_getElem? hz)
              obtain ⟨gw, ow, rfl, -, hgw, hzc⟩ := kind_at (HV1.out _ L9.out.below) hz
              have hinw : (i : Int) < (nw : Int) := by omega
              have hzw : IntKind.i64.wrap z = z := IntWalk.i64_in _ (by omega)
              obtain ⟨gl9, ol9, rfl, -, hgl9, hlc⟩ := lies_at (x := Y i j) (k := j) H9.out (by rw [List.getElem?_map, List.getElem?_range hjM]; rfl)
              have hYv : Y i j = bits .xor .i64 z (j : Int) := by
                rw [HY.out]
                show bits .xor .i64 (ws.getD i 0) (j : Int) = _
                rw [List.getD_eq_getElem?_getD, hz]
                rfl
              rw [hYv] at hlc
              obtain ⟨xo, hxo⟩ : ∃ x, bits .xor .i64 z (j : Int) = x := ⟨_, rfl⟩
              rw [hxo] at hlc
              have hxx : (xo != xo) = false := by simp
              clear hz hYv
              go_wp2
              go_roundw
              case rel => exact ⟨j + 1, by omega, by go_num, trivial⟩
              case measure => simp [intOf]; omega
            · have hjd : decide ((j : Int) < (M : Int)) = false := by simp; omega
              have hjd2 : decide (j < M) = false := by simpa using hjM
              have hlo := L9.out.hl
              rw [hn17_len, List.length_map, List.length_range] at hlo
              have HLO := Lib.hid hlo
              have hs9 := L9.out.below.size
              clear hlo
              go_wp2_with (at_builtin; go_must ((refine app14_walk rfl (.tmp 142) (.tmp 144) 33 rfl w0.heap.size 3 i0 _ 1 8 Tryd.underlying33 hi0 hz0 hz1 hz2 rfl (by omega) _ _ _ rfl (HLO.out.alloc _) ⟨_, 0, none⟩ 1 1 [.int .i64 hh] rfl rfl (cells_new14 _ _ _ _ (by simp)) (by intro u hu; simp at hu; subst hu; rfl) (by unfold maxLen; omega) (by omega) (by simp; omega) ?_); intro v3 w3 hown3 hg3 hat3; obtain ⟨g', cap', rfl, hbg, hlt'⟩ := hown3.form (by omega); have S3 := Lib.hid (L9.out.more (v' := .slice (some ⟨g', 0, none⟩) (i + 1) cap') (H' := hn17 ((List.range (i + 1)).map fun k => R - 1 - k)) ((Only.of_below (below_al w9 (.cells #[.int .i64 hh] 3)) _).trans (Only.of_own hg3)) (by rw [hn17_len, List.length_map, List.length_range]; rw [show ints (hn17 ((List.range (i + 1)).map fun k => R - 1 - k)) = ints (hn17 ((List.range i).map fun k => R - 1 - k)) ++ [.int .i64 hh] by rw [List.range_succ]; simp [hn17, ints, HD.out, HHE.out]]; exact hown3) (hat3.imp id (fun e => ⟨_, e, by simp⟩))); have QX := Lib.hid ((Q9.out.below (below_al w9 (.cells #[.int .i64 hh] 3))).of_grown hg3 (fun e => L9.out.hv qb e.symm rfl)); clear hown3 hg3 hat3))
              have Z4 : Hid (Py17 w0 w3 qb g p R n (i + 1) Y V (.slice (some ⟨g', 0, none⟩) (i + 1) cap') G' (fun x => U8 x ∧ x < w9.heap.size)) := Lib.hid ⟨S3.out, QX.out, Z.out.len, Z.out.z0, Z.out.z2, Z.out.msg, HG.out.1, HG.out.2.1, HG.out.2.2.1, HG.out.2.2.2.1⟩
              clear S3 QX
              go_roundw
              case rel => exact ⟨i + 1, some ⟨g', 0, none⟩, cap', by omega, by go_num, rfl, V, G', _, Z4⟩
              case measure => simp [intOf]; omega

        · obtain rfl : n = i := by omega
          obtain ⟨G', ov, tk, tb, us, lk, gl, gh, gl2⟩ := take17_none (K := []) Z.out.tak Z.out.head Z.out.z0 Z.out.z2
          have KU := Lib.hid (L7.out.run T0.out ov HPO.out)
          unfold face14 at KU
          have HG := Lib.hid (And.intro tk (And.intro tb (And.intro us (And.intro lk (And.intro gl (And.intro gh gl2))))))
          clear ov tk tb us lk gl gh gl2
          go_wp2_with fail
          refine KU.out.mono ?_
          rintro e w8 ⟨rfl, n8⟩
          have Q8 := Lib.hid (n8.2 qb _ _ rfl Q7.out)
          obtain ⟨U8, l8⟩ := n8.1
          have L8 := Lib.hid l8
          have KG := Lib.hid (l8.got (by rw [HG.out.2.2.2.2.2.2]; simp))
          rw [HG.out.2.2.2.2.1, HG.out.2.2.2.2.2.1] at KG
          clear n8 l8 KU L7 Q7 q7
          have hnn : ((n : Int) == (n : Int)) = true := by simp
          go_wp2_with fail
          refine KG.out.mono ?_
          rintro e w9 ⟨A9, c9, rfl, -, b9⟩
          have Q9 := Lib.hid (Q8.out.below b9)
          have L9 := Lib.hid (L8.out.quiet b9)
          have q9 := Q9.out.cell 0
          have r9 := (R0.out.below L9.out.below).cell 0
          simp only [List.getElem?_cons_zero] at q9 r9
          have KRL := Lib.hid (released17_any (R := R) (n0 := n) (S0 := (List.range n).map fun k => R - 1 - k) T0.out HR.out ⟨L9.out, HG.out.1, HG.out.2.2.2.1, by rw [HG.out.2.2.1, Z.out.used]; rfl, by rw [HG.out.2.1, Z.out.tab]; exact Tab17.new hnR, Z.out.len, by simp⟩ hnR _ os HV2.out HOB.out)
          clear b9 KG L8 Q8 Z
          go_wp2_with fail
          refine KRL.out.mono ?_
          rintro e w10 ⟨rfl, b10⟩
          have B10 := Lib.hid b10
          clear b10 KRL
          have KA := Lib.hid (alive17 w10 (T0.out.below B10.out))
          go_wp2_with fail
          refine KA.out.mono ?_
          rintro e w11 ⟨rfl, b11⟩
          have B11 := Lib.hid (B0.out.trans ((below_on B10.out b11).mono B0.out.size))
          clear b11
          go_wp2
          go_ret
          exact ⟨rfl, B11.out⟩

#print axioms takes17_yes
end Go.Proofs.YtgdbaaoifnedbaaDoor
