/-
  The walk of the law GateCounts: it returns true for every input, and nothing that was there before the call changes.
  Conditions: none.
-/
import Derived.Test.YtaimhaokielhgaaGt5
import Derived.Test.YtaimhaokielhgaaArgs2
namespace Go.Proofs.Ytaimhaokielhgaa
open Go.ChangeShapes Go.WideShapes Go.ChangeAt Go.RowKit

theorem Recs.two11 {w wr : World} {v : Value} {recs : List (List Int)} {k : Nat} (h : Recs w 2 v recs) (hb : Below w.heap.size w wr) (hk : k < recs.length) :
    ∃ (ad : Addr) (c : Nat) (K x : Int), recs[k]? = some [K, x] ∧ v = .slice (some ad) recs.length c ∧
      wr.cell? (ad.add (k * 2)) = some (.int .i64 K) ∧ wr.cell? ⟨(ad.add (k * 2)).block, (ad.add (k * 2)).off + 1, none⟩ = some (.int .i64 x) ∧ ad.block < wr.heap.size := by
  obtain ⟨A, c, rfl, hA⟩ := h.below hb
  obtain ⟨ad, rfl, hlt, hc⟩ := hA (by omega)
  obtain ⟨zs, hzs⟩ : ∃ z, recs[k]? = some z := ⟨_, List.getElem?_eq_getElem hk⟩
  obtain ⟨h2, hz, hcell⟩ := hc k zs hzs
  obtain ⟨K, x, rfl⟩ := list2 h2
  have c0 := hcell 0 (.int .i64 K) rfl
  have c1 := hcell 1 (.int .i64 x) rfl
  refine ⟨ad, c, K, x, hzs, rfl, ?_, ?_, hlt⟩
  · rw [← c0]
    congr 1
  · rw [← c1]
    congr 1

theorem link_of {l : List (Int × Bool)} {i j : Nat} {x y : Int} {p q : Bool} (h1 : l[i]? = some (x, p)) (h2 : l[j]? = some (y, q)) (hij : i ≠ j) : linkV l i j = addW x y ∧ linkE l i j = 0 := by
  have hn : ¬ ((i : Int) = (j : Int)) := by omega
  constructor
  · unfold linkV; rw [cr_nat, cr_nat, h1, h2]; simp only [if_neg hn]
  · unfold linkE; rw [cr_nat, cr_nat, h1, h2]; simp only [if_neg hn]

theorem link_inv {l : List (Int × Bool)} {a b : Int} (h : linkE l a b = 0) : ∃ (i j : Nat) (x y : Int) (p q : Bool), a = i ∧ b = j ∧ i ≠ j ∧ l[i]? = some (x, p) ∧ l[j]? = some (y, q) := by
  rcases cr_cases l a with ⟨h1, _⟩ | ⟨i, x, p, rfl, hi, h1⟩
  · unfold linkE at h; rw [h1] at h; simp at h
  · rcases cr_cases l b with ⟨h2, _⟩ | ⟨j, y, q, rfl, hj, h2⟩
    · unfold linkE at h; rw [cr_nat, h1, h2] at h; simp at h
    · refine ⟨i, j, x, y, p, q, rfl, rfl, ?_, h1, h2⟩
      rintro rfl
      unfold linkE at h
      rw [cr_nat, h1] at h
      simp at h

theorem addW_comm (x y : Int) : addW x y = addW y x := by unfold addW; omega

/-- What a Hold and a Start of core c make of the link of a and b. -/
theorem counts_cases {l : List (Int × Bool)} {a b : Int} (c : Int) (h : linkE l a b = 0) :
    ∃ (l2 l3 : List (Int × Bool)) (N : Int), linkV l2 a b = linkV l a b ∧ linkE l2 a b = 0 ∧ startL l2 c = l3 ∧ linkV l3 a b = N ∧ linkE l3 a b = 0 ∧ linkV l3 b a = N ∧ linkE l3 b a = 0 ∧
      ((upB l c = false ∧ l2 = l) ∨ (upB l c = true ∧ holdE l c = 0 ∧ holdL l c = l2 ∧ 0 ≤ c)) ∧
      ((startE l2 c = 3 ∧ (c < 0 ∨ (l.length : Int) ≤ c) ∧ upB l c = false ∧ N = addW (linkV l a b) 0) ∨ (startE l2 c = 0 ∧ 0 ≤ c ∧ c < l.length ∧ c = a ∧ N = addW (linkV l a b) 1) ∨
        (startE l2 c = 0 ∧ 0 ≤ c ∧ c < l.length ∧ c ≠ a ∧ c = b ∧ N = addW (linkV l a b) 1) ∨ (startE l2 c = 0 ∧ 0 ≤ c ∧ c < l.length ∧ c ≠ a ∧ c ≠ b ∧ N = addW (linkV l a b) 0)) := by
  obtain ⟨i, j, x, y, p, q, rfl, rfl, hij, h1, h2⟩ := link_inv h
  obtain ⟨v1, v2⟩ := link_of h1 h2 hij
  obtain ⟨v3, v4⟩ := link_of h2 h1 (Ne.symm hij)
  rw [v1]
  rcases cr_cases l c with ⟨hc, h0⟩ | ⟨k, e, d, rfl, hk, hc⟩
  · have hu : upB l c = false := by unfold upB; rw [hc]
    have hs : startE l c = 3 := by unfold startE; rw [hc]
    have hl : startL l c = l := by unfold startL; rw [hc]
    refine ⟨l, l, addW x y, v1, v2, hl, v1, v2, v3.trans (addW_comm _ _), v4, .inl ⟨hu, rfl⟩, .inl ⟨hs, h0, hu, ?_⟩⟩
    unfold addW; omega
  · -- the core is held when it is started
    have key : ∀ l2 : List (Int × Bool), l2[k]? = some (e, true) → (∀ n, n ≠ k → l2[n]? = l[n]?) → ∃ (l3 : List (Int × Bool)) (N : Int), linkV l2 i j = addW x y ∧ linkE l2 i j = 0 ∧ startL l2 k = l3 ∧ linkV l3 i j = N ∧ linkE l3 i j = 0 ∧ linkV l3 j i = N ∧ linkE l3 j i = 0 ∧ startE l2 k = 0 ∧
        (((k : Int) = i ∧ N = addW (addW x y) 1) ∨ ((k : Int) ≠ i ∧ (k : Int) = j ∧ N = addW (addW x y) 1) ∨ ((k : Int) ≠ i ∧ (k : Int) ≠ j ∧ N = addW (addW x y) 0)) := by
      intro l2 hk2 hf
      have hk2l := (List.getElem?_eq_some_iff.1 hk2).1
      have at2 : ∀ (n : Nat) (z : Int) (r : Bool), l[n]? = some (z, r) → ∃ r', l2[n]? = some (z, r') := by
        intro n z r hz
        by_cases en : n = k
        · subst en
          have := hc.symm.trans hz
          injection this with this
          injection this with this _
          subst this
          exact ⟨true, hk2⟩
        · exact ⟨r, (hf n en).trans hz⟩
      obtain ⟨p2, h12⟩ := at2 i x p h1
      obtain ⟨q2, h22⟩ := at2 j y q h2
      obtain ⟨u1, u2⟩ := link_of h12 h22 hij
      have hl : startL l2 k = l2.set k (addW e 1, false) := by unfold startL; rw [cr_nat, hk2]; rfl
      have hs : startE l2 k = 0 := by unfold startE; rw [cr_nat, hk2]
      have at3 : ∀ (n : Nat) (z : Int) (r : Bool), l2[n]? = some (z, r) → ∃ r', (l2.set k (addW e 1, false))[n]? = some (if n = k then addW z 1 else z, r') := by
        intro n z r hz
        rw [List.getElem?_set]
        by_cases en : n = k
        · subst en
          have := hk2.symm.trans hz
          injection this with this
          injection this with this _
          subst this
          rw [if_pos rfl, if_pos hk2l, if_pos rfl]
          exact ⟨_, rfl⟩
        · rw [if_neg (fun e => en e.symm), if_neg en]
          exact ⟨r, hz⟩
      obtain ⟨p3, h13⟩ := at3 i x p2 h12
      obtain ⟨q3, h23⟩ := at3 j y q2 h22
      obtain ⟨t1, t2⟩ := link_of h13 h23 hij
      obtain ⟨t3, t4⟩ := link_of h23 h13 (Ne.symm hij)
      refine ⟨_, addW (if i = k then addW x 1 else x) (if j = k then addW y 1 else y), u1, u2, hl, t1, t2, t3.trans (addW_comm _ _), t4, hs, ?_⟩
      by_cases ei : i = k
      · subst ei
        rw [if_pos rfl, if_neg (Ne.symm hij)]
        exact .inl ⟨rfl, by unfold addW; omega⟩
      · by_cases ej : j = k
        · subst ej
          rw [if_neg ei, if_pos rfl]
          exact .inr (.inl ⟨by omega, rfl, by unfold addW; omega⟩)
        · rw [if_neg ei, if_neg ej]
          exact .inr (.inr ⟨by omega, by omega, by unfold addW; omega⟩)
    cases d with
    | true =>
      have hu : upB l k = false := by unfold upB; rw [cr_nat, hc]; rfl
      obtain ⟨l3, N, g1, g2, g3, g4, g5, g6, g7, g8, g9⟩ := key l hc (fun _ _ => rfl)
      refine ⟨l, l3, N, g1, g2, g3, g4, g5, g6, g7, .inl ⟨hu, rfl⟩, ?_⟩
      rcases g9 with ⟨m1, m2⟩ | ⟨m1, m2, m3⟩ | ⟨m1, m2, m3⟩
      · exact .inr (.inl ⟨g8, by omega, by omega, m1, m2⟩)
      · exact .inr (.inr (.inl ⟨g8, by omega, by omega, m1, m2, m3⟩))
      · exact .inr (.inr (.inr ⟨g8, by omega, by omega, m1, m2, m3⟩))
    | false =>
      have hu : upB l k = true := by unfold upB; rw [cr_nat, hc]; rfl
      have hh : holdE l k = 0 := by unfold holdE; rw [cr_nat, hc]
      have hl : holdL l k = l.set k (e, true) := by unfold holdL; rw [cr_nat, hc]; rfl
      obtain ⟨l3, N, g1, g2, g3, g4, g5, g6, g7, g8, g9⟩ := key (l.set k (e, true)) (by simp [hk]) (fun n hn => by rw [List.getElem?_set, if_neg (Ne.symm hn)])
      refine ⟨_, l3, N, g1, g2, g3, g4, g5, g6, g7, .inr ⟨hu, hh, hl, by omega⟩, ?_⟩
      rcases g9 with ⟨m1, m2⟩ | ⟨m1, m2, m3⟩ | ⟨m1, m2, m3⟩
      · exact .inr (.inl ⟨g8, by omega, by omega, m1, m2⟩)
      · exact .inr (.inr (.inl ⟨g8, by omega, by omega, m1, m2, m3⟩))
      · exact .inr (.inr (.inr ⟨g8, by omega, by omega, m1, m2, m3⟩))

/-- The law's memory: the gate, and its argument 'at' in block B. -/
structure Cnt11 (w wr : World) (g B : Nat) (l : List (Int × Bool)) (a b c : Int) : Prop where
  gate : GateAt wr g l
  row : Row wr B 51 [.int .i64 a, .int .i64 b, .int .i64 c]
  below : Below w.heap.size w wr
  new : w.heap.size ≤ g ∧ B ≠ g
theorem Cnt11.quiet {w wr w2 : World} {g B : Nat} {l : List (Int × Bool)} {a b c : Int} (s : Cnt11 w wr g B l a b c) (hb : Below wr.heap.size wr w2) : Cnt11 w w2 g B l a b c :=
  ⟨s.gate.below hb, s.row.below hb, below_on s.below hb, s.new⟩
theorem Cnt11.step {w wr w2 : World} {g B : Nat} {l l' : List (Int × Bool)} {a b c : Int} (s : Cnt11 w wr g B l a b c) (r : GateAt w2 g l') (ho : Only (· = g) wr w2) : Cnt11 w w2 g B l' a b c :=
  ⟨r, s.row.only ho s.new.2, below_gate s.below s.new.1 ho, s.new⟩
theorem Cnt11.x0 {w wr : World} {g B : Nat} {l : List (Int × Bool)} {a b c : Int} (s : Cnt11 w wr g B l a b c) : wr.cell? ⟨B, 0, none⟩ = some (.int .i64 a) := s.row.cell 0
theorem Cnt11.x1 {w wr : World} {g B : Nat} {l : List (Int × Bool)} {a b c : Int} (s : Cnt11 w wr g B l a b c) : wr.cell? ⟨B, 1, none⟩ = some (.int .i64 b) := s.row.cell 1
theorem Cnt11.x2 {w wr : World} {g B : Nat} {l : List (Int × Bool)} {a b c : Int} (s : Cnt11 w wr g B l a b c) : wr.cell? ⟨B, 2, none⟩ = some (.int .i64 c) := s.row.cell 2

theorem link_b {w wr : World} {g B : Nat} {l : List (Int × Bool)} {a b c : Int} (s : Cnt11 w wr g B l a b c) (x y : Int) {V E : Int} (hV : linkV l x y = V) (hE : linkE l x y = E) :
    Calls Try.prog 17 #[.pointer (some ⟨g, 0, none⟩), .int .i64 x, .int .i64 y] wr fun e w' => e = .returned (.tuple #[.int .i64 V, .int .i64 E]) ∧ Cnt11 w w' g B l a b c :=
  (link11_any g l x y wr s.gate).mono fun _ _ ⟨he, n, hn⟩ => ⟨by rw [he, hV, hE], by rw [hn]; exact s.quiet (below_q _ _)⟩
theorem up_b {w wr : World} {g B : Nat} {l : List (Int × Bool)} {a b c : Int} (s : Cnt11 w wr g B l a b c) (x : Int) {u : Bool} (hu : upB l x = u) :
    Calls Try.prog 16 #[.pointer (some ⟨g, 0, none⟩), .int .i64 x] wr fun e w' => e = .returned (.bool u) ∧ Cnt11 w w' g B l a b c :=
  (up11_any g l x wr s.gate).mono fun _ _ ⟨he, hn⟩ => ⟨by rw [he, hu], by rw [← hn]; exact s⟩
theorem hold_b {w wr : World} {g B : Nat} {l l' : List (Int × Bool)} {a b c : Int} (s : Cnt11 w wr g B l a b c) (x : Int) {E : Int} (hE : holdE l x = E) (hl : holdL l x = l') :
    Calls Try.prog 22 #[.pointer (some ⟨g, 0, none⟩), .int .i64 x] wr fun e w' => e = .returned (.int .i64 E) ∧ Cnt11 w w' g B l' a b c :=
  (hold11_any g l x wr s.gate).mono fun _ _ ⟨he, hr, ho⟩ => ⟨by rw [he, hE], by rw [← hl]; exact s.step hr ho⟩
theorem start_b {w wr : World} {g B : Nat} {l l' : List (Int × Bool)} {a b c : Int} (s : Cnt11 w wr g B l a b c) (x : Int) {E : Int} (hE : startE l x = E) (hl : startL l x = l') :
    Calls Try.prog 23 #[.pointer (some ⟨g, 0, none⟩), .int .i64 x] wr fun e w' => e = .returned (.int .i64 E) ∧ Cnt11 w w' g B l' a b c :=
  (start11_any g l x wr s.gate).mono fun _ _ ⟨he, hr, ho⟩ => ⟨by rw [he, hE], by rw [← hl]; exact s.step hr ho⟩

set_option maxRecDepth 100000 in
set_option maxHeartbeats 16000000 in
theorem gateCounts_main (C : Nat) (v : Value) (R : List (List Int)) (a b c : Int) (w : World) (c0 : 1 ≤ C) (c8 : C ≤ 8) (hR : Recs w 2 v R) (hm : R.length ≤ 60) :
    Calls Try.prog 4 #[.int .i64 (C : Int), v, .agg #[.int .i64 a, .int .i64 b, .int .i64 c]] w fun e w' => e = .returned (.bool true) ∧ Below w.heap.size w w' := by
  have HR := Lib.hid hR
  obtain ⟨A, d, rfl, hA⟩ := hR
  clear hA
  obtain ⟨m, hm'⟩ : ∃ m, R.length = m := ⟨_, rfl⟩
  rw [hm'] at hm HR ⊢
  have HM := Lib.hid hm'; clear hm'
  have g3 : ¬ (60 < (m : Int)) := by omega
  have q1 : decide ((60 : Int) < (m : Int)) = false := by simp; omega
  have nw := Lib.hid (fun W => new11_yes C W c0 c8)
  go_enter Try.func4, Try.ntmps4
  go_wp2_with fail
  refine (nw.out _).mono ?_
  rintro e w1 ⟨g, rfl, r1, hg1, hb1⟩
  have hg2 : w.heap.size + 1 ≤ g := by simpa using hg1
  have s0 : Cnt11 w w1 g w.heap.size (newG C) a b c := ⟨r1, (Row.new w 51 #[.int .i64 a, .int .i64 b, .int .i64 c]).below hb1, below_on (below_al _ _) hb1, by omega, by omega⟩
  have S0 := Lib.hid s0
  have HL0 : Hid ((newG C).length = C) := Lib.hid (by simp [newG])
  clear s0 r1 hg1 hb1 nw
  unfold ptr
  go_wp2
  go_loopw [33] (fun i wr => ∃ (k : Nat) (l : List (Int × Bool)), k ≤ m ∧ i = .int .i64 k ∧ Hid (l.length = C) ∧ Hid (Cnt11 w wr g w.heap.size l a b c)) (fun i _ => m - (intOf i).toNat)
  case atStart => exact ⟨0, _, Nat.zero_le _, rfl, HL0, S0⟩
  case round =>
    clear S0 HL0
    obtain ⟨k, l, hk, rfl, HL, S⟩ := hrel
    by_cases hlt : k < m
    · obtain ⟨ad, c', K, x, hzs, hv', z0, z1, hadl⟩ := Recs.two11 HR.out S.out.below (by rw [HM.out]; exact hlt)
      rw [HM.out] at hv'
      injection hv' with hv' _ hv2
      subst hv' hv2
      clear hzs
      have S1 := Lib.hid (S.out.quiet (below_al wr (.cells #[.int .i64 K, .int .i64 x] 24)))
      have dd := do11_any g l K x _ S1.out.gate
      have dl := dG_len l K x
      rw [HL.out] at dl
      obtain ⟨E, hE⟩ : ∃ E, dE11 l K x = E := ⟨_, rfl⟩
      obtain ⟨l', hl'⟩ : ∃ l', dG l K x = l' := ⟨_, rfl⟩
      rw [hE, hl'] at dd
      rw [hl'] at dl
      have DD := Lib.hid dd
      have DL := Lib.hid dl
      clear dd dl hE hl'
      unfold ptr opV11 at DD
      go_wp2_with fail
      refine DD.out.mono ?_
      rintro e w2 ⟨rfl, hr2, ho2⟩
      have S2 := Lib.hid (S1.out.step hr2 ho2)
      clear hr2 ho2
      go_wp2
      go_roundw
      case rel => exact ⟨k + 1, l', by omega, by go_num, DL, S2⟩
      case measure => simp [intOf]; omega
    · obtain rfl : k = m := by omega
      have x0 := S.out.x0
      have x1 := S.out.x1
      obtain ⟨V, hV⟩ : ∃ V, linkV l a b = V := ⟨_, rfl⟩
      by_cases hq : linkE l a b = 0
      · obtain ⟨l2, l3, N, f1, f2, f3, f4, f5, f6, f7, fu, fc⟩ := counts_cases c hq
        rw [hV] at f1 fc
        rw [HL.out] at fc
        have F1 := Lib.hid f1
        have F2 := Lib.hid f2
        have F3 := Lib.hid f3
        have F4 := Lib.hid f4
        have F5 := Lib.hid f5
        have F6 := Lib.hid f6
        have F7 := Lib.hid f7
        have k1 := Lib.hid (link_b S.out a b hV hq)
        have AL := Lib.hid (fun W => alive11 W)
        clear f1 f2 f3 f4 f5 f6 f7 hV hq
        rcases fc with ⟨hs, h0, hu, rfl⟩ | ⟨hs, h0, h1, rfl, rfl⟩ | ⟨hs, h0, h1, h2, rfl, rfl⟩ | ⟨hs, h0, h1, h2, h3, rfl⟩
        · have e2 : l2 = l := by
            rcases fu with ⟨_, h⟩ | ⟨h, _⟩
            · exact h
            · rw [hu] at h; cases h
          subst e2
          have HU := Lib.hid hu
          have HS := Lib.hid hs
          clear hu hs fu
          by_cases hc : c < 0
          · have d1 : decide (0 ≤ c) = false := by simp; omega
            go_wp2_with fail
            refine k1.out.mono ?_
            rintro e u1 ⟨rfl, t1⟩
            have T1 := Lib.hid t1
            have x0 := T1.out.x0
            have x1 := T1.out.x1
            have x2 := T1.out.x2
            clear t1
            have k2 := Lib.hid (up_b T1.out c HU.out)
            go_wp2_with fail
            refine k2.out.mono ?_
            rintro e u2 ⟨rfl, t2⟩
            have T2 := Lib.hid t2
            have x0 := T2.out.x0
            have x1 := T2.out.x1
            have x2 := T2.out.x2
            clear t2
            have k4 := Lib.hid (link_b T2.out a b F1.out F2.out)
            go_wp2_with fail
            refine k4.out.mono ?_
            rintro e u4 ⟨rfl, t4⟩
            have T4 := Lib.hid t4
            have x0 := T4.out.x0
            have x1 := T4.out.x1
            have x2 := T4.out.x2
            clear t4
            have k5 := Lib.hid (start_b T4.out c HS.out F3.out)
            go_wp2_with fail
            refine k5.out.mono ?_
            rintro e u5 ⟨rfl, t5⟩
            have T5 := Lib.hid t5
            have x0 := T5.out.x0
            have x1 := T5.out.x1
            have x2 := T5.out.x2
            clear t5
            have k6 := Lib.hid (link_b T5.out a b F4.out F5.out)
            go_wp2_with fail
            refine k6.out.mono ?_
            rintro e u6 ⟨rfl, t6⟩
            have T6 := Lib.hid t6
            have x0 := T6.out.x0
            have x1 := T6.out.x1
            have x2 := T6.out.x2
            clear t6
            have k7 := Lib.hid (link_b T6.out b a F6.out F7.out)
            go_wp2_with fail
            refine k7.out.mono ?_
            rintro e u7 ⟨rfl, t7⟩
            have T7 := Lib.hid t7
            have x0 := T7.out.x0
            have x1 := T7.out.x1
            have x2 := T7.out.x2
            clear t7
            have AD := Lib.hid (add_any V 0 u7)
            go_wp2_with fail
            refine AD.out.mono ?_
            rintro e w' ⟨rfl, rfl⟩
            go_wp2_with fail
            refine (AL.out _).mono ?_
            rintro e u8 ⟨rfl, hb8⟩
            go_wp2
            go_ret
            exact ⟨rfl, below_on T7.out.below hb8⟩
          · have d1 : 0 ≤ c := by omega
            have d2 : decide (c < (C : Int)) = false := by simp; omega
            go_wp2_with fail
            refine k1.out.mono ?_
            rintro e u1 ⟨rfl, t1⟩
            have T1 := Lib.hid t1
            have x0 := T1.out.x0
            have x1 := T1.out.x1
            have x2 := T1.out.x2
            clear t1
            have k2 := Lib.hid (up_b T1.out c HU.out)
            go_wp2_with fail
            refine k2.out.mono ?_
            rintro e u2 ⟨rfl, t2⟩
            have T2 := Lib.hid t2
            have x0 := T2.out.x0
            have x1 := T2.out.x1
            have x2 := T2.out.x2
            clear t2
            have k4 := Lib.hid (link_b T2.out a b F1.out F2.out)
            go_wp2_with fail
            refine k4.out.mono ?_
            rintro e u4 ⟨rfl, t4⟩
            have T4 := Lib.hid t4
            have x0 := T4.out.x0
            have x1 := T4.out.x1
            have x2 := T4.out.x2
            clear t4
            have k5 := Lib.hid (start_b T4.out c HS.out F3.out)
            go_wp2_with fail
            refine k5.out.mono ?_
            rintro e u5 ⟨rfl, t5⟩
            have T5 := Lib.hid t5
            have x0 := T5.out.x0
            have x1 := T5.out.x1
            have x2 := T5.out.x2
            clear t5
            have k6 := Lib.hid (link_b T5.out a b F4.out F5.out)
            go_wp2_with fail
            refine k6.out.mono ?_
            rintro e u6 ⟨rfl, t6⟩
            have T6 := Lib.hid t6
            have x0 := T6.out.x0
            have x1 := T6.out.x1
            have x2 := T6.out.x2
            clear t6
            have k7 := Lib.hid (link_b T6.out b a F6.out F7.out)
            go_wp2_with fail
            refine k7.out.mono ?_
            rintro e u7 ⟨rfl, t7⟩
            have T7 := Lib.hid t7
            have x0 := T7.out.x0
            have x1 := T7.out.x1
            have x2 := T7.out.x2
            clear t7
            have AD := Lib.hid (add_any V 0 u7)
            go_wp2_with fail
            refine AD.out.mono ?_
            rintro e w' ⟨rfl, rfl⟩
            go_wp2_with fail
            refine (AL.out _).mono ?_
            rintro e u8 ⟨rfl, hb8⟩
            go_wp2
            go_ret
            exact ⟨rfl, below_on T7.out.below hb8⟩
        · have HS := Lib.hid hs
          clear hs
          rcases fu with ⟨hu, rfl⟩ | ⟨hu, hh, hhl, _⟩
          · have HU := Lib.hid hu
            clear hu
            go_wp2_with fail
            refine k1.out.mono ?_
            rintro e u1 ⟨rfl, t1⟩
            have T1 := Lib.hid t1
            have x0 := T1.out.x0
            have x1 := T1.out.x1
            have x2 := T1.out.x2
            clear t1
            have k2 := Lib.hid (up_b T1.out c HU.out)
            go_wp2_with fail
            refine k2.out.mono ?_
            rintro e u2 ⟨rfl, t2⟩
            have T2 := Lib.hid t2
            have x0 := T2.out.x0
            have x1 := T2.out.x1
            have x2 := T2.out.x2
            clear t2
            have k4 := Lib.hid (link_b T2.out c b F1.out F2.out)
            go_wp2_with fail
            refine k4.out.mono ?_
            rintro e u4 ⟨rfl, t4⟩
            have T4 := Lib.hid t4
            have x0 := T4.out.x0
            have x1 := T4.out.x1
            have x2 := T4.out.x2
            clear t4
            have k5 := Lib.hid (start_b T4.out c HS.out F3.out)
            go_wp2_with fail
            refine k5.out.mono ?_
            rintro e u5 ⟨rfl, t5⟩
            have T5 := Lib.hid t5
            have x0 := T5.out.x0
            have x1 := T5.out.x1
            have x2 := T5.out.x2
            clear t5
            have k6 := Lib.hid (link_b T5.out c b F4.out F5.out)
            go_wp2_with fail
            refine k6.out.mono ?_
            rintro e u6 ⟨rfl, t6⟩
            have T6 := Lib.hid t6
            have x0 := T6.out.x0
            have x1 := T6.out.x1
            have x2 := T6.out.x2
            clear t6
            have k7 := Lib.hid (link_b T6.out b c F6.out F7.out)
            go_wp2_with fail
            refine k7.out.mono ?_
            rintro e u7 ⟨rfl, t7⟩
            have T7 := Lib.hid t7
            have x0 := T7.out.x0
            have x1 := T7.out.x1
            have x2 := T7.out.x2
            clear t7
            have AD := Lib.hid (add_any V 1 u7)
            go_wp2_with fail
            refine AD.out.mono ?_
            rintro e w' ⟨rfl, rfl⟩
            go_wp2_with fail
            refine (AL.out _).mono ?_
            rintro e u8 ⟨rfl, hb8⟩
            go_wp2
            go_ret
            exact ⟨rfl, below_on T7.out.below hb8⟩
          · have HU := Lib.hid hu
            have HH := Lib.hid hh
            have HHL := Lib.hid hhl
            clear hu hh hhl
            go_wp2_with fail
            refine k1.out.mono ?_
            rintro e u1 ⟨rfl, t1⟩
            have T1 := Lib.hid t1
            have x0 := T1.out.x0
            have x1 := T1.out.x1
            have x2 := T1.out.x2
            clear t1
            have k2 := Lib.hid (up_b T1.out c HU.out)
            go_wp2_with fail
            refine k2.out.mono ?_
            rintro e u2 ⟨rfl, t2⟩
            have T2 := Lib.hid t2
            have x0 := T2.out.x0
            have x1 := T2.out.x1
            have x2 := T2.out.x2
            clear t2
            have k3 := Lib.hid (hold_b T2.out c HH.out HHL.out)
            go_wp2_with fail
            refine k3.out.mono ?_
            rintro e u3 ⟨rfl, t3⟩
            have T3 := Lib.hid t3
            have x0 := T3.out.x0
            have x1 := T3.out.x1
            have x2 := T3.out.x2
            clear t3
            have k4 := Lib.hid (link_b T3.out c b F1.out F2.out)
            go_wp2_with fail
            refine k4.out.mono ?_
            rintro e u4 ⟨rfl, t4⟩
            have T4 := Lib.hid t4
            have x0 := T4.out.x0
            have x1 := T4.out.x1
            have x2 := T4.out.x2
            clear t4
            have k5 := Lib.hid (start_b T4.out c HS.out F3.out)
            go_wp2_with fail
            refine k5.out.mono ?_
            rintro e u5 ⟨rfl, t5⟩
            have T5 := Lib.hid t5
            have x0 := T5.out.x0
            have x1 := T5.out.x1
            have x2 := T5.out.x2
            clear t5
            have k6 := Lib.hid (link_b T5.out c b F4.out F5.out)
            go_wp2_with fail
            refine k6.out.mono ?_
            rintro e u6 ⟨rfl, t6⟩
            have T6 := Lib.hid t6
            have x0 := T6.out.x0
            have x1 := T6.out.x1
            have x2 := T6.out.x2
            clear t6
            have k7 := Lib.hid (link_b T6.out b c F6.out F7.out)
            go_wp2_with fail
            refine k7.out.mono ?_
            rintro e u7 ⟨rfl, t7⟩
            have T7 := Lib.hid t7
            have x0 := T7.out.x0
            have x1 := T7.out.x1
            have x2 := T7.out.x2
            clear t7
            have AD := Lib.hid (add_any V 1 u7)
            go_wp2_with fail
            refine AD.out.mono ?_
            rintro e w' ⟨rfl, rfl⟩
            go_wp2_with fail
            refine (AL.out _).mono ?_
            rintro e u8 ⟨rfl, hb8⟩
            go_wp2
            go_ret
            exact ⟨rfl, below_on T7.out.below hb8⟩
        · have HS := Lib.hid hs
          have hn : (c == a) = false := by simpa using h2
          clear h2
          clear hs
          rcases fu with ⟨hu, rfl⟩ | ⟨hu, hh, hhl, _⟩
          · have HU := Lib.hid hu
            clear hu
            go_wp2_with fail
            refine k1.out.mono ?_
            rintro e u1 ⟨rfl, t1⟩
            have T1 := Lib.hid t1
            have x0 := T1.out.x0
            have x1 := T1.out.x1
            have x2 := T1.out.x2
            clear t1
            have k2 := Lib.hid (up_b T1.out c HU.out)
            go_wp2_with fail
            refine k2.out.mono ?_
            rintro e u2 ⟨rfl, t2⟩
            have T2 := Lib.hid t2
            have x0 := T2.out.x0
            have x1 := T2.out.x1
            have x2 := T2.out.x2
            clear t2
            have k4 := Lib.hid (link_b T2.out a c F1.out F2.out)
            go_wp2_with fail
            refine k4.out.mono ?_
            rintro e u4 ⟨rfl, t4⟩
            have T4 := Lib.hid t4
            have x0 := T4.out.x0
            have x1 := T4.out.x1
            have x2 := T4.out.x2
            clear t4
            have k5 := Lib.hid (start_b T4.out c HS.out F3.out)
            go_wp2_with fail
            refine k5.out.mono ?_
            rintro e u5 ⟨rfl, t5⟩
            have T5 := Lib.hid t5
            have x0 := T5.out.x0
            have x1 := T5.out.x1
            have x2 := T5.out.x2
            clear t5
            have k6 := Lib.hid (link_b T5.out a c F4.out F5.out)
            go_wp2_with fail
            refine k6.out.mono ?_
            rintro e u6 ⟨rfl, t6⟩
            have T6 := Lib.hid t6
            have x0 := T6.out.x0
            have x1 := T6.out.x1
            have x2 := T6.out.x2
            clear t6
            have k7 := Lib.hid (link_b T6.out c a F6.out F7.out)
            go_wp2_with fail
            refine k7.out.mono ?_
            rintro e u7 ⟨rfl, t7⟩
            have T7 := Lib.hid t7
            have x0 := T7.out.x0
            have x1 := T7.out.x1
            have x2 := T7.out.x2
            clear t7
            have AD := Lib.hid (add_any V 1 u7)
            go_wp2_with fail
            refine AD.out.mono ?_
            rintro e w' ⟨rfl, rfl⟩
            go_wp2_with fail
            refine (AL.out _).mono ?_
            rintro e u8 ⟨rfl, hb8⟩
            go_wp2
            go_ret
            exact ⟨rfl, below_on T7.out.below hb8⟩
          · have HU := Lib.hid hu
            have HH := Lib.hid hh
            have HHL := Lib.hid hhl
            clear hu hh hhl
            go_wp2_with fail
            refine k1.out.mono ?_
            rintro e u1 ⟨rfl, t1⟩
            have T1 := Lib.hid t1
            have x0 := T1.out.x0
            have x1 := T1.out.x1
            have x2 := T1.out.x2
            clear t1
            have k2 := Lib.hid (up_b T1.out c HU.out)
            go_wp2_with fail
            refine k2.out.mono ?_
            rintro e u2 ⟨rfl, t2⟩
            have T2 := Lib.hid t2
            have x0 := T2.out.x0
            have x1 := T2.out.x1
            have x2 := T2.out.x2
            clear t2
            have k3 := Lib.hid (hold_b T2.out c HH.out HHL.out)
            go_wp2_with fail
            refine k3.out.mono ?_
            rintro e u3 ⟨rfl, t3⟩
            have T3 := Lib.hid t3
            have x0 := T3.out.x0
            have x1 := T3.out.x1
            have x2 := T3.out.x2
            clear t3
            have k4 := Lib.hid (link_b T3.out a c F1.out F2.out)
            go_wp2_with fail
            refine k4.out.mono ?_
            rintro e u4 ⟨rfl, t4⟩
            have T4 := Lib.hid t4
            have x0 := T4.out.x0
            have x1 := T4.out.x1
            have x2 := T4.out.x2
            clear t4
            have k5 := Lib.hid (start_b T4.out c HS.out F3.out)
            go_wp2_with fail
            refine k5.out.mono ?_
            rintro e u5 ⟨rfl, t5⟩
            have T5 := Lib.hid t5
            have x0 := T5.out.x0
            have x1 := T5.out.x1
            have x2 := T5.out.x2
            clear t5
            have k6 := Lib.hid (link_b T5.out a c F4.out F5.out)
            go_wp2_with fail
            refine k6.out.mono ?_
            rintro e u6 ⟨rfl, t6⟩
            have T6 := Lib.hid t6
            have x0 := T6.out.x0
            have x1 := T6.out.x1
            have x2 := T6.out.x2
            clear t6
            have k7 := Lib.hid (link_b T6.out c a F6.out F7.out)
            go_wp2_with fail
            refine k7.out.mono ?_
            rintro e u7 ⟨rfl, t7⟩
            have T7 := Lib.hid t7
            have x0 := T7.out.x0
            have x1 := T7.out.x1
            have x2 := T7.out.x2
            clear t7
            have AD := Lib.hid (add_any V 1 u7)
            go_wp2_with fail
            refine AD.out.mono ?_
            rintro e w' ⟨rfl, rfl⟩
            go_wp2_with fail
            refine (AL.out _).mono ?_
            rintro e u8 ⟨rfl, hb8⟩
            go_wp2
            go_ret
            exact ⟨rfl, below_on T7.out.below hb8⟩
        · have HS := Lib.hid hs
          have hn : (c == a) = false := by simpa using h2
          have hn2 : (c == b) = false := by simpa using h3
          clear h2 h3
          clear hs
          rcases fu with ⟨hu, rfl⟩ | ⟨hu, hh, hhl, _⟩
          · have HU := Lib.hid hu
            clear hu
            go_wp2_with fail
            refine k1.out.mono ?_
            rintro e u1 ⟨rfl, t1⟩
            have T1 := Lib.hid t1
            have x0 := T1.out.x0
            have x1 := T1.out.x1
            have x2 := T1.out.x2
            clear t1
            have k2 := Lib.hid (up_b T1.out c HU.out)
            go_wp2_with fail
            refine k2.out.mono ?_
            rintro e u2 ⟨rfl, t2⟩
            have T2 := Lib.hid t2
            have x0 := T2.out.x0
            have x1 := T2.out.x1
            have x2 := T2.out.x2
            clear t2
            have k4 := Lib.hid (link_b T2.out a b F1.out F2.out)
            go_wp2_with fail
            refine k4.out.mono ?_
            rintro e u4 ⟨rfl, t4⟩
            have T4 := Lib.hid t4
            have x0 := T4.out.x0
            have x1 := T4.out.x1
            have x2 := T4.out.x2
            clear t4
            have k5 := Lib.hid (start_b T4.out c HS.out F3.out)
            go_wp2_with fail
            refine k5.out.mono ?_
            rintro e u5 ⟨rfl, t5⟩
            have T5 := Lib.hid t5
            have x0 := T5.out.x0
            have x1 := T5.out.x1
            have x2 := T5.out.x2
            clear t5
            have k6 := Lib.hid (link_b T5.out a b F4.out F5.out)
            go_wp2_with fail
            refine k6.out.mono ?_
            rintro e u6 ⟨rfl, t6⟩
            have T6 := Lib.hid t6
            have x0 := T6.out.x0
            have x1 := T6.out.x1
            have x2 := T6.out.x2
            clear t6
            have k7 := Lib.hid (link_b T6.out b a F6.out F7.out)
            go_wp2_with fail
            refine k7.out.mono ?_
            rintro e u7 ⟨rfl, t7⟩
            have T7 := Lib.hid t7
            have x0 := T7.out.x0
            have x1 := T7.out.x1
            have x2 := T7.out.x2
            clear t7
            have AD := Lib.hid (add_any V 0 u7)
            go_wp2_with fail
            refine AD.out.mono ?_
            rintro e w' ⟨rfl, rfl⟩
            go_wp2_with fail
            refine (AL.out _).mono ?_
            rintro e u8 ⟨rfl, hb8⟩
            go_wp2
            go_ret
            exact ⟨rfl, below_on T7.out.below hb8⟩
          · have HU := Lib.hid hu
            have HH := Lib.hid hh
            have HHL := Lib.hid hhl
            clear hu hh hhl
            go_wp2_with fail
            refine k1.out.mono ?_
            rintro e u1 ⟨rfl, t1⟩
            have T1 := Lib.hid t1
            have x0 := T1.out.x0
            have x1 := T1.out.x1
            have x2 := T1.out.x2
            clear t1
            have k2 := Lib.hid (up_b T1.out c HU.out)
            go_wp2_with fail
            refine k2.out.mono ?_
            rintro e u2 ⟨rfl, t2⟩
            have T2 := Lib.hid t2
            have x0 := T2.out.x0
            have x1 := T2.out.x1
            have x2 := T2.out.x2
            clear t2
            have k3 := Lib.hid (hold_b T2.out c HH.out HHL.out)
            go_wp2_with fail
            refine k3.out.mono ?_
            rintro e u3 ⟨rfl, t3⟩
            have T3 := Lib.hid t3
            have x0 := T3.out.x0
            have x1 := T3.out.x1
            have x2 := T3.out.x2
            clear t3
            have k4 := Lib.hid (link_b T3.out a b F1.out F2.out)
            go_wp2_with fail
            refine k4.out.mono ?_
            rintro e u4 ⟨rfl, t4⟩
            have T4 := Lib.hid t4
            have x0 := T4.out.x0
            have x1 := T4.out.x1
            have x2 := T4.out.x2
            clear t4
            have k5 := Lib.hid (start_b T4.out c HS.out F3.out)
            go_wp2_with fail
            refine k5.out.mono ?_
            rintro e u5 ⟨rfl, t5⟩
            have T5 := Lib.hid t5
            have x0 := T5.out.x0
            have x1 := T5.out.x1
            have x2 := T5.out.x2
            clear t5
            have k6 := Lib.hid (link_b T5.out a b F4.out F5.out)
            go_wp2_with fail
            refine k6.out.mono ?_
            rintro e u6 ⟨rfl, t6⟩
            have T6 := Lib.hid t6
            have x0 := T6.out.x0
            have x1 := T6.out.x1
            have x2 := T6.out.x2
            clear t6
            have k7 := Lib.hid (link_b T6.out b a F6.out F7.out)
            go_wp2_with fail
            refine k7.out.mono ?_
            rintro e u7 ⟨rfl, t7⟩
            have T7 := Lib.hid t7
            have x0 := T7.out.x0
            have x1 := T7.out.x1
            have x2 := T7.out.x2
            clear t7
            have AD := Lib.hid (add_any V 0 u7)
            go_wp2_with fail
            refine AD.out.mono ?_
            rintro e w' ⟨rfl, rfl⟩
            go_wp2_with fail
            refine (AL.out _).mono ?_
            rintro e u8 ⟨rfl, hb8⟩
            go_wp2
            go_ret
            exact ⟨rfl, below_on T7.out.below hb8⟩
      · obtain ⟨E, hE⟩ : ∃ E, linkE l a b = E := ⟨_, rfl⟩
        rw [hE] at hq
        have hb : (E != 0) = true := by simpa using hq
        have k1 := Lib.hid (link_b S.out a b hV hE)
        have AL := Lib.hid (fun W => alive11 W)
        clear hV hE hq
        go_wp2_with fail
        refine k1.out.mono ?_
        rintro e w1 ⟨rfl, s1⟩
        have S1 := Lib.hid s1
        clear s1
        go_wp2_with fail
        refine (AL.out _).mono ?_
        rintro e w2 ⟨rfl, hb2⟩
        go_wp2
        go_ret
        exact ⟨rfl, below_on S1.out.below hb2⟩

set_option maxRecDepth 100000 in
set_option maxHeartbeats 2000000 in
theorem gateCounts_any (n : Int) (v : Value) (R : List (List Int)) (a b c : Int) (w : World) (hR : Recs w 2 v R) (hm : R.length ≤ maxLen) :
    Calls Try.prog 4 #[.int .i64 n, v, .agg #[.int .i64 a, .int .i64 b, .int .i64 c]] w fun e w' => e = .returned (.bool true) ∧ Below w.heap.size w w' := by
  unfold maxLen at hm
  have al := Lib.hid (fun W => alive11 W)
  by_cases h1 : n < 1 ∨ 8 < n
  · obtain ⟨A, cc, rfl, hA⟩ := hR
    clear hA
    have nw := Lib.hid (fun W => new11_no n W h1)
    clear h1
    go_enter Try.func4, Try.ntmps4
    go_wp2_with fail
    refine (nw.out _).mono ?_
    rintro e w' ⟨rfl, rfl⟩
    go_wp2_with fail
    refine (al.out _).mono ?_
    rintro e w3 ⟨rfl, hb3⟩
    go_wp2
    go_ret
    exact ⟨rfl, below_on (below_al _ _) hb3⟩
  · obtain ⟨C, rfl⟩ := Int.eq_ofNat_of_zero_le (show 0 ≤ n by omega)
    by_cases h2 : R.length ≤ 60
    · exact gateCounts_main C v R a b c w (by omega) (by omega) hR h2
    · have nw := Lib.hid (fun W => new11_yes C W (by omega) (by omega))
      obtain ⟨A, cc, rfl, hA⟩ := hR
      clear hA
      have h3 : (60 : Int) < (R.length : Int) := by omega
      clear h1 h2
      go_enter Try.func4, Try.ntmps4
      go_wp2_with fail
      refine (nw.out _).mono ?_
      rintro e w1 ⟨g, rfl, r1, hg1, hb1⟩
      unfold ptr
      go_wp2_with fail
      refine (al.out _).mono ?_
      rintro e w3 ⟨rfl, hb3⟩
      go_wp2
      go_ret
      exact ⟨rfl, below_on (below_on (below_al _ _) hb1) hb3⟩

#print axioms gateCounts_any
end Go.Proofs.Ytaimhaokielhgaa
