/-
  Layer 8 (site): the walks of the laws SiteDecodes and SiteEncodes.
  Conditions: none.
-/
import Derived.Test.YtbjmekedlmoolaaSite8
import Derived.Test.YtbjmekedlmoolaaSite9
import Derived.Deep.RegionHeld3
namespace Go.Proofs.Ytbjmekedlmoolaa
open Go.ChangeShapes Go.WideShapes Go.ChangeAt Go.RowKit

theorem since8 {f : Nat} {args : Array Value} {v : Value} (h : ∀ W, Calls Try.prog f args W fun e w' => e = .returned v ∧ Below W.heap.size W w') (w0 W : World) (hb : Below w0.heap.size w0 W) :
    Calls Try.prog f args W fun e w' => e = .returned v ∧ Below w0.heap.size w0 w' :=
  (h W).mono fun _ _ ⟨he, hb'⟩ => ⟨he, below_on hb hb'⟩

/-- What SiteDecodes holds ahead of its last statement. -/
def SD (w W : World) (p s t : Nat) (c n l K i r : Int) : Prop :=
  Row W p 23 [.int .i64 c, .int .i64 n, .int .i64 l] ∧ Row W s 25 [.int .i64 K, .int .i64 i, .int .i64 r] ∧ Row W t 28 [.int .i64 K, .int .i64 i, .int .i64 r] ∧ Below w.heap.size w W

theorem SD.below {w W W' : World} {p s t : Nat} {c n l K i r : Int} (h : SD w W p s t c n l K i r) (hb : Below W.heap.size W W') : SD w W' p s t c n l K i r :=
  ⟨h.1.below hb, h.2.1.below hb, h.2.2.1.below hb, below_on h.2.2.2 hb⟩

/-- The cells that the last statement loads. -/
def SDc (W : World) (p s t : Nat) (c n l K i r : Int) : Prop :=
  W.cell? ⟨p, 0, none⟩ = some (.int .i64 c) ∧ W.cell? ⟨p, 1, none⟩ = some (.int .i64 n) ∧ W.cell? ⟨p, 2, none⟩ = some (.int .i64 l) ∧ W.cell? ⟨s, 0, none⟩ = some (.int .i64 K) ∧ W.cell? ⟨s, 1, none⟩ = some (.int .i64 i) ∧ W.cell? ⟨s, 2, none⟩ = some (.int .i64 r) ∧ W.cell? ⟨t, 0, none⟩ = some (.int .i64 K) ∧ W.cell? ⟨t, 1, none⟩ = some (.int .i64 i) ∧ W.cell? ⟨t, 2, none⟩ = some (.int .i64 r)

theorem SD.cells {w W : World} {p s t : Nat} {c n l K i r : Int} (h : SD w W p s t c n l K i r) : SDc W p s t c n l K i r :=
  ⟨h.1.cell 0, h.1.cell 1, h.1.cell 2, h.2.1.cell 0, h.2.1.cell 1, h.2.1.cell 2, h.2.2.1.cell 0, h.2.2.1.cell 1, h.2.2.1.cell 2⟩

set_option maxRecDepth 100000 in
set_option maxHeartbeats 2000000 in
theorem siteDecodes_any (c n l a : Int) (w : World) (ha : a ≤ 9223372036854775807) :
    Calls Try.prog 3 #[v3 c n l, .int .i64 a] w fun e w' => e = .returned (.bool true) ∧ Below w.heap.size w w' := by
  have HD := Lib.hid (fun W => decode8_any c n l a W ha)
  have HR := Lib.hid (rdecode_any c n l a)
  have HPL := Lib.hid (plan_any c n l)
  unfold v3 at HD HR HPL ⊢
  go_enter Try.func3, Try.ntmps3
  go_wp2_with fail
  refine (HD.out _).mono ?_
  rintro e w1 ⟨⟨K, i, r, b, rfl, hd⟩, hb1⟩
  have P1 := Lib.hid ((row3 w 23 c n l).below hb1)
  have B1 := Lib.hid (below_on (below_al w _) hb1)
  have HDEC := Lib.hid hd
  clear hd hb1
  have q0 := P1.out.cell 0
  have q1 := P1.out.cell 1
  have q2 := P1.out.cell 2
  have hl1 := P1.out.lt
  simp only [List.getElem?_cons_zero, List.getElem?_cons_succ] at q0 q1 q2
  try unfold v3
  go_wp2_with fail
  refine (HPL.out _).mono ?_
  rintro e w2 ⟨rfl, hb2⟩
  have P2 := Lib.hid ((P1.out.below (below_al _ _)).below hb2)
  have S2 := Lib.hid ((row3 w1 25 K i r).below hb2)
  have B2 := Lib.hid (below_on (below_on B1.out (below_al _ _)) hb2)
  clear hb2 q0 q1 q2
  go_wp2_with fail
  refine (HR.out _).mono ?_
  rintro e w3 ⟨⟨K', i', r', b', rfl, hd'⟩, hb3⟩
  obtain ⟨rfl, rfl, rfl, rfl⟩ := hd'.eq HDEC.out
  have H3 := Lib.hid (show SD w (w3.alloc (.cells #[.int .i64 K', .int .i64 i', .int .i64 r'] 28)) w.heap.size w1.heap.size w3.heap.size c n l K' i' r' from
    ⟨(P2.out.below hb3).below (below_al _ _), (S2.out.below hb3).below (below_al _ _), row3 _ _ _ _ _, below_on (below_on B2.out hb3) (below_al _ _)⟩)
  try unfold v3
  clear hd' hb3 P2 S2 B2 P1 B1 HDEC HD HR
  have RT := Lib.hid (right8_any c n l)
  have RR := Lib.hid (rright8_any c n l)
  have CT := Lib.hid (count8_any c n l)
  have RC := Lib.hid (rcount8_any c n l)
  obtain ⟨o, ho⟩ : ∃ o, decide (okPlan c n l) = o := ⟨_, rfl⟩
  obtain ⟨z, hz⟩ : ∃ z, cntP c n l = z := ⟨_, rfl⟩
  rw [ho] at RT RR
  rw [hz] at CT RC
  unfold v3 at RT RR CT RC
  clear ho hz
  go_wp2
  generalize w3.alloc (.cells #[.int .i64 K', .int .i64 i', .int .i64 r'] 28) = w4 at H3 ⊢
  generalize w3.heap.size = T at H3 ⊢
  generalize w1.heap.size = S at H3 ⊢
  generalize hP : w.heap.size = P at H3 ⊢
  have KK := Lib.hid (fun (W : World) (hb : Below w4.heap.size w4 W) => (show W.cell? ⟨P, 0, none⟩ = some (.int .i64 c) ∧ W.cell? ⟨P, 1, none⟩ = some (.int .i64 n) ∧ W.cell? ⟨P, 2, none⟩ = some (.int .i64 l) ∧ W.cell? ⟨S, 0, none⟩ = some (.int .i64 K') ∧ W.cell? ⟨S, 1, none⟩ = some (.int .i64 i') ∧ W.cell? ⟨S, 2, none⟩ = some (.int .i64 r') ∧ W.cell? ⟨T, 0, none⟩ = some (.int .i64 K') ∧ W.cell? ⟨T, 1, none⟩ = some (.int .i64 i') ∧ W.cell? ⟨T, 2, none⟩ = some (.int .i64 r') ∧ Below w4.heap.size w4 W from
    ⟨(H3.out.1.below hb).cell 0, (H3.out.1.below hb).cell 1, (H3.out.1.below hb).cell 2, (H3.out.2.1.below hb).cell 0, (H3.out.2.1.below hb).cell 1, (H3.out.2.1.below hb).cell 2, (H3.out.2.2.1.below hb).cell 0, (H3.out.2.2.1.below hb).cell 1, (H3.out.2.2.1.below hb).cell 2, hb⟩))
  have hb0 : Below w4.heap.size w4 w4 := Below.refl _ _
  have hE := Lib.hid H3.out.2.2.2
  clear hP H3
  obtain ⟨c0, c1, c2, c3, c4, c5, c6, c7, c8, -⟩ := KK.out _ hb0
  go_region_held3 (fun W => W.cell? ⟨P, 0, none⟩ = some (.int .i64 c) ∧ W.cell? ⟨P, 1, none⟩ = some (.int .i64 n) ∧ W.cell? ⟨P, 2, none⟩ = some (.int .i64 l) ∧ W.cell? ⟨S, 0, none⟩ = some (.int .i64 K') ∧ W.cell? ⟨S, 1, none⟩ = some (.int .i64 i') ∧ W.cell? ⟨S, 2, none⟩ = some (.int .i64 r') ∧ W.cell? ⟨T, 0, none⟩ = some (.int .i64 K') ∧ W.cell? ⟨T, 1, none⟩ = some (.int .i64 i') ∧ W.cell? ⟨T, 2, none⟩ = some (.int .i64 r') ∧ Below w4.heap.size w4 W)
    (first | exact KK.out _ hb10 | exact KK.out _ hb9 | exact KK.out _ hb8 | exact KK.out _ hb7 | exact KK.out _ hb6 | exact KK.out _ hb5 | exact KK.out _ hb0.drew | exact KK.out _ hb0 | go_keep)
    (first
      | (go_at_call 9; refine (since8 RT.out w4 _ ?_).mono ?_; (go_split_ands; assumption); rintro e w5 ⟨rfl, hb5⟩)
      | (go_at_call 8; refine (since8 HPL.out w4 _ ?_).mono ?_; (go_split_ands; assumption); rintro e w6 ⟨rfl, hb6⟩)
      | (go_at_call 10; refine (since8 RR.out w4 _ ?_).mono ?_; (go_split_ands; assumption); rintro e w7 ⟨rfl, hb7⟩)
      | (go_at_call 11; refine (since8 CT.out w4 _ ?_).mono ?_; (go_split_ands; assumption); rintro e w8 ⟨rfl, hb8⟩)
      | (go_at_call 12; refine (since8 RC.out w4 _ ?_).mono ?_; (go_split_ands; assumption); rintro e w9 ⟨rfl, hb9⟩)
      | (go_at_call 13; refine (since8 alive8 w4 _ ?_).mono ?_; (go_split_ands; assumption); rintro e w10 ⟨rfl, hb10⟩))
  go_wp2
  go_ret
  exact ⟨rfl, below_on hE.out hb10⟩

theorem enc_is {c n l k i r : Int} (w : World) (A : Int) (B : Bool) (h : Enc c n l k i r A B) :
    Calls Try.prog 14 #[v3 c n l, v3 k i r] w fun e w' => e = .returned (.tuple #[.int .i64 A, .bool B]) ∧ Below w.heap.size w w' := by
  refine (encode8_any c n l k i r w).mono ?_
  rintro e w' ⟨⟨a', b', rfl, h'⟩, hb⟩
  obtain ⟨rfl, rfl⟩ := h'.eq h
  exact ⟨rfl, hb⟩

theorem renc_is {c n l k i r : Int} (w : World) (A : Int) (B : Bool) (h : Enc c n l k i r A B) :
    Calls Try.prog 15 #[v3 c n l, v3 k i r] w fun e w' => e = .returned (.tuple #[.int .i64 A, .bool B]) ∧ Below w.heap.size w w' := by
  refine (rencode_any c n l k i r w).mono ?_
  rintro e w' ⟨⟨a', b', rfl, h'⟩, hb⟩
  obtain ⟨rfl, rfl⟩ := h'.eq h
  exact ⟨rfl, hb⟩

theorem two_boxes (w : World) (c n l k i r : Int) :
    Row ((w.alloc (.cells #[.int .i64 c, .int .i64 n, .int .i64 l] 23)).alloc (.cells #[.int .i64 k, .int .i64 i, .int .i64 r] 25)) w.heap.size 23 [.int .i64 c, .int .i64 n, .int .i64 l] ∧
    Row ((w.alloc (.cells #[.int .i64 c, .int .i64 n, .int .i64 l] 23)).alloc (.cells #[.int .i64 k, .int .i64 i, .int .i64 r] 25)) (w.heap.size + 1) 25 [.int .i64 k, .int .i64 i, .int .i64 r] ∧
    Below w.heap.size w ((w.alloc (.cells #[.int .i64 c, .int .i64 n, .int .i64 l] 23)).alloc (.cells #[.int .i64 k, .int .i64 i, .int .i64 r] 25)) :=
  ⟨(row3 _ _ _ _ _).below (below_al _ _), by simpa using row3 (w.alloc (.cells #[.int .i64 c, .int .i64 n, .int .i64 l] 23)) 25 k i r, below_on (below_al _ _) (below_al _ _)⟩

set_option maxRecDepth 100000 in
set_option maxHeartbeats 2000000 in
theorem siteEncodes_any (c n l k i r : Int) (w : World) :
    Calls Try.prog 4 #[v3 c n l, v3 k i r] w fun e w' => e = .returned (.bool true) ∧ Below w.heap.size w w' := by
  have HE := Lib.hid (encode8_any c n l k i r)
  have HPL := Lib.hid (plan_any c n l)
  have HT := Lib.hid (two_boxes w c n l k i r)
  have HRI := Lib.hid (fun A B W => renc_is (c := c) (n := n) (l := l) (k := k) (i := i) (r := r) W A B)
  unfold v3 at HE HPL HRI ⊢
  go_enter Try.func4, Try.ntmps4
  go_wp2_with fail
  refine (HE.out _).mono ?_
  rintro e w1 ⟨⟨A, B, rfl, he⟩, hb1⟩
  have RI := Lib.hid (fun W => HRI.out A B W he)
  have KK := Lib.hid (fun (W : World) (hb : Below w1.heap.size w1 W) => (show W.cell? ⟨w.heap.size, 0, none⟩ = some (.int .i64 c) ∧ W.cell? ⟨w.heap.size, 1, none⟩ = some (.int .i64 n) ∧ W.cell? ⟨w.heap.size, 2, none⟩ = some (.int .i64 l) ∧ W.cell? ⟨w.heap.size + 1, 0, none⟩ = some (.int .i64 k) ∧ W.cell? ⟨w.heap.size + 1, 1, none⟩ = some (.int .i64 i) ∧ W.cell? ⟨w.heap.size + 1, 2, none⟩ = some (.int .i64 r) ∧ Below w1.heap.size w1 W from
    ⟨((HT.out.1.below hb1).below hb).cell 0, ((HT.out.1.below hb1).below hb).cell 1, ((HT.out.1.below hb1).below hb).cell 2, ((HT.out.2.1.below hb1).below hb).cell 0, ((HT.out.2.1.below hb1).below hb).cell 1, ((HT.out.2.1.below hb1).below hb).cell 2, hb⟩))
  have hE := Lib.hid (below_on HT.out.2.2 hb1)
  have hb0 : Below w1.heap.size w1 w1 := Below.refl _ _
  obtain ⟨c0, c1, c2, c3, c4, c5, -⟩ := KK.out _ hb0
  clear hb1 he HT HRI HE
  go_wp2
  go_region_held3 (fun W => W.cell? ⟨w.heap.size, 0, none⟩ = some (.int .i64 c) ∧ W.cell? ⟨w.heap.size, 1, none⟩ = some (.int .i64 n) ∧ W.cell? ⟨w.heap.size, 2, none⟩ = some (.int .i64 l) ∧ W.cell? ⟨w.heap.size + 1, 0, none⟩ = some (.int .i64 k) ∧ W.cell? ⟨w.heap.size + 1, 1, none⟩ = some (.int .i64 i) ∧ W.cell? ⟨w.heap.size + 1, 2, none⟩ = some (.int .i64 r) ∧ Below w1.heap.size w1 W)
    (first | exact KK.out _ hb7 | exact KK.out _ hb6 | exact KK.out _ hb0.drew | exact KK.out _ hb0 | go_keep)
    (first
      | (go_at_call 8; refine (since8 HPL.out w1 _ ?_).mono ?_; (go_split_ands; assumption); rintro e w6 ⟨rfl, hb6⟩)
      | (go_at_call 15; refine (since8 RI.out w1 _ ?_).mono ?_; (go_split_ands; assumption); rintro e w7 ⟨rfl, hb7⟩))
  have hb := Lib.hid (below_on hE.out hb7)
  clear c0 c1 c2 c3 c4 c5 hb0 KK hb6 hb7
  go_wp2_with fail
  refine (alive8 _).mono ?_
  rintro e w8 ⟨rfl, hb8⟩
  go_wp2
  go_ret
  exact ⟨rfl, below_on hb.out hb8⟩

#print axioms siteDecodes_any
#print axioms siteEncodes_any
end Go.Proofs.Ytbjmekedlmoolaa
