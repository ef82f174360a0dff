/-
  The walk of the law LaneOrder: it returns true for every input, and nothing that was there before the call changes.
  Conditions: none.
-/
import Derived.Test.YteknnofeichmlaaLane5
import Derived.Test.YteknnofeichmlaaSame
import Derived.Test.YteknnofeichmlaaArgs
namespace Go.Proofs.Yteknnofeichmlaa
open Go.ChangeShapes Go.WideShapes Go.ChangeAt Go.RowKit

/-- The cells of a record of two, as a walk meets them. -/
theorem cells2 {w : World} {ad : Addr} {a b : Int} (h : ∀ j u, (ints [a, b])[j]? = some u → w.cell? (ad.add j) = some u) :
    w.cell? ad = some (.int .i64 a) ∧ w.cell? ⟨ad.block, ad.off + 1, none⟩ = some (.int .i64 b) :=
  ⟨by simpa [Addr.add] using h 0 _ rfl, by simpa [Addr.add] using h 1 _ rfl⟩

/-- Record number k of a slice of records of two, in a world in which what was there has not changed. -/
theorem Recs.two {w wr : World} {v : Value} {recs : List (List Int)} {k : Nat} (h : Recs w 2 v recs) (hb : Below w.heap.size w wr) (hk : k < recs.length) :
    ∃ (ad : Addr) (c : Nat) (K x : Int), recs[k]? = some [K, x] ∧ v = .slice (some ad) recs.length c ∧ (∀ z ∈ [K, x], -9223372036854775808 ≤ z ∧ z ≤ 9223372036854775807) ∧
      wr.cell? (ad.add (k * 2)) = some (.int .i64 K) ∧ wr.cell? ⟨(ad.add (k * 2)).block, (ad.add (k * 2)).off + 1, none⟩ = some (.int .i64 x) := by
  obtain ⟨A, c, rfl, hA⟩ := h.below hb
  obtain ⟨ad, rfl, hlt, hc⟩ := hA (by omega)
  obtain ⟨zs, hzs⟩ : ∃ z, recs[k]? = some z := ⟨_, List.getElem?_eq_getElem hk⟩
  obtain ⟨h2, hz, hcell⟩ := hc k zs hzs
  obtain ⟨K, x, rfl⟩ := list2 h2
  obtain ⟨c0, c1⟩ := cells2 hcell
  exact ⟨ad, c, K, x, hzs, rfl, hz, c0, c1⟩

theorem own_only {S : Nat → Prop} {w w' : World} {base : Nat} {e : TypeId} {size : Nat} {v : Value} {n : Nat} {xs : List Value} (h : w.ownsRow base e size v n xs) (ho : Only S w w') (hn : ∀ k, v.ownBlock = some k → ¬ S k) : w'.ownsRow base e size v n xs := by
  refine ⟨h.1, ?_⟩
  rcases h.2 with h2 | ⟨g, cap, cur, rfl, hb, hg, r⟩
  · exact .inl h2
  · exact .inr ⟨g, cap, cur, rfl, hb, (ho.block g (Array.getElem?_eq_some_iff.1 hg).1 (hn g rfl)).trans hg, r⟩

theorem Only.of_own {w w' : World} {v : Value} (h : w.grownBy w' v.ownBlock) : Only (fun b => v.ownBlock = some b) w w' :=
  ⟨h.os, h.tape, h.output, h.size, fun k hk hn => h.block k hk (fun e => hn e.symm)⟩

/-- The state of the law's loop: the queue, the two lists, and that they lie apart. -/
structure OrdAt (w wr : World) (g h N : Nat) (q p t : List Int) (vp vt : Value) : Prop where
  lane : LaneQ wr g h N q
  put : wr.ownsRow w.heap.size 3 1 vp p.length (ints p)
  tak : wr.ownsRow w.heap.size 3 1 vt t.length (ints t)
  apart : ∀ k, vp.ownBlock = some k → k ≠ g ∧ k ≠ h ∧ vt.ownBlock ≠ some k
  apart' : ∀ k, vt.ownBlock = some k → k ≠ g ∧ k ≠ h
  sum : p = t ++ q
  below : Below w.heap.size w wr
  hg : w.heap.size ≤ g
  hh : w.heap.size ≤ h

section
variable {w wr w2 : World} {g h N : Nat} {q q' p t : List Int} {vp vt : Value}

theorem OrdAt.quiet (s : OrdAt w wr g h N q p t vp vt) (hb : Below wr.heap.size wr w2) : OrdAt w w2 g h N q p t vp vt :=
  ⟨s.lane.below hb, own_only s.put (Only.of_below hb (fun _ => False)) (fun _ _ h => h), own_only s.tak (Only.of_below hb (fun _ => False)) (fun _ _ h => h), s.apart, s.apart', s.sum, below_on s.below hb, s.hg, s.hh⟩

/-- What a call on the queue leaves of it, whatever became of the elements. -/
theorem OrdAt.step (s : OrdAt w wr g h N q p t vp vt) (ho : Only (fun b => b = g ∨ b = h) wr w2) :
    w2.ownsRow w.heap.size 3 1 vp p.length (ints p) ∧ w2.ownsRow w.heap.size 3 1 vt t.length (ints t) ∧ Below w.heap.size w w2 :=
  ⟨own_only s.put ho (fun k hk hn => hn.elim (s.apart k hk).1 (s.apart k hk).2.1),
   own_only s.tak ho (fun k hk hn => hn.elim (s.apart' k hk).1 (s.apart' k hk).2),
   Only.below s.below ho s.below.size (fun k hk hn => by have := s.hg; have := s.hh; omega)⟩

theorem OrdAt.same (s : OrdAt w wr g h N q p t vp vt) (ho : Only (fun b => b = g ∨ b = h) wr w2) (r : LaneQ w2 g h N q) : OrdAt w w2 g h N q p t vp vt := by
  obtain ⟨a, b, c⟩ := s.step ho
  exact ⟨r, a, b, s.apart, s.apart', s.sum, c, s.hg, s.hh⟩

theorem OrdAt.more {w3 : World} {x : Int} {v3 : Value} {o : Obj} (s : OrdAt w wr g h N q p t vp vt) (ho : Only (fun b => b = g ∨ b = h) wr w2) (r : LaneQ w2 g h N (q ++ [x])) (hg3 : (w2.alloc o).grownBy w3 vp.ownBlock)
    (hown : w3.ownsRow w.heap.size 3 1 v3 (p.length + 1) (ints p ++ [.int .i64 x])) (hat : v3.ownBlock = vp.ownBlock ∨ v3.ownBlock = some (w2.alloc o).heap.size) : OrdAt w w3 g h N (q ++ [x]) (p ++ [x]) t v3 vt := by
  obtain ⟨a, b, c⟩ := s.step ho
  have hO := Only.of_own hg3
  have hf := r.fit
  refine ⟨(r.below (below_al _ o)).only hO (fun e => (s.apart g e).1 rfl) (fun e => (s.apart h e).2.1 rfl), ?_, own_only (b.alloc o) hO (fun k hk e => (s.apart k e).2.2 hk), ?_, s.apart', by rw [s.sum, List.append_assoc], ?_, s.hg, s.hh⟩
  · rw [List.length_append, ints_append]; exact hown
  · intro k hk
    rcases hat with e | e
    · exact s.apart k (by rw [← e]; exact hk)
    · rw [e] at hk
      injection hk with hk
      simp at hk
      refine ⟨by omega, by omega, fun e2 => ?_⟩
      have := (b.lt k e2).2
      omega
  · exact Only.below (below_on c (below_al _ o)) hO (by have := c.size; simp; omega) (fun k hk e => by have := (a.lt k e).1; omega)

theorem OrdAt.less {w3 : World} {y : Int} {v3 : Value} {o : Obj} (s : OrdAt w wr g h N (y :: q) p t vp vt) (ho : Only (fun b => b = g ∨ b = h) wr w2) (r : LaneQ w2 g h N q) (hg3 : (w2.alloc o).grownBy w3 vt.ownBlock)
    (hown : w3.ownsRow w.heap.size 3 1 v3 (t.length + 1) (ints t ++ [.int .i64 y])) (hat : v3.ownBlock = vt.ownBlock ∨ v3.ownBlock = some (w2.alloc o).heap.size) : OrdAt w w3 g h N q p (t ++ [y]) vp v3 := by
  obtain ⟨a, b, c⟩ := s.step ho
  have hO := Only.of_own hg3
  have hf := r.fit
  refine ⟨(r.below (below_al _ o)).only hO (fun e => (s.apart' g e).1 rfl) (fun e => (s.apart' h e).2 rfl), own_only (a.alloc o) hO (fun k hk e => (s.apart k hk).2.2 e), ?_, ?_, ?_, by rw [s.sum, List.append_assoc]; rfl, ?_, s.hg, s.hh⟩
  · rw [List.length_append, ints_append]; exact hown
  · intro k hk
    refine ⟨(s.apart k hk).1, (s.apart k hk).2.1, fun e2 => ?_⟩
    rcases hat with e | e
    · exact (s.apart k hk).2.2 (by rw [← e]; exact e2)
    · rw [e] at e2
      injection e2 with e2
      simp at e2
      have := (a.lt k hk).2
      omega
  · intro k hk
    rcases hat with e | e
    · exact s.apart' k (by rw [← e]; exact hk)
    · rw [e] at hk
      injection hk with hk
      simp at hk
      exact ⟨by omega, by omega⟩
  · exact Only.below (below_on c (below_al _ o)) hO (by have := c.size; simp; omega) (fun k hk e => by have := (b.lt k e).1; omega)
end

theorem cell_gh {g h N : Nat} {q : List Int} {w w2 : World} {o : Obj} {i : Nat} {u : Value} (r : LaneQ w g h N q) (ho : Only (fun b => b = g ∨ b = h) (w.alloc o) w2) (hc : (w.alloc o).cell? ⟨w.heap.size, i, none⟩ = some u) : w2.cell? ⟨w.heap.size, i, none⟩ = some u := by
  have hf := r.fit
  rw [← hc]
  exact World.cell?_of_block (w := w.alloc o) (ho.block w.heap.size (by simp) (by omega))

section
variable (g h N : Nat) (q : List Int) (x : Int) (w : World)

theorem do4_room (r : LaneQ w g h N q) (hq : q.length < N) : Calls Try.prog 11 #[ptr g, opV4 0 x] w (LaneP g h N (q ++ [x]) (.tuple #[.int .i64 0, .int .i64 0]) w) := by
  have k := do4_any g h N q 0 x w r
  have e1 : doQ N q 0 x = q ++ [x] := by unfold doQ putQ; rw [if_pos rfl, if_neg (by omega)]
  have e2 : doF N q 0 x = 0 := by unfold doF putE; rw [if_pos rfl, if_neg (by omega)]
  rwa [e1, e2] at k

theorem do4_full (r : LaneQ w g h N q) (hq : q.length = N) : Calls Try.prog 11 #[ptr g, opV4 0 x] w (LaneP g h N q (.tuple #[.int .i64 0, .int .i64 5]) w) := by
  have k := do4_any g h N q 0 x w r
  have e1 : doQ N q 0 x = q := by unfold doQ putQ; rw [if_pos rfl, if_pos hq]
  have e2 : doF N q 0 x = 5 := by unfold doF putE; rw [if_pos rfl, if_pos hq]
  rwa [e1, e2] at k

theorem do4_take (y : Int) (t : List Int) (r : LaneQ w g h N (y :: t)) : Calls Try.prog 11 #[ptr g, opV4 1 x] w (LaneP g h N t (.tuple #[.int .i64 y, .int .i64 0]) w) :=
  do4_any g h N (y :: t) 1 x w r

theorem do4_none (r : LaneQ w g h N []) : Calls Try.prog 11 #[ptr g, opV4 1 x] w (LaneP g h N [] (.tuple #[.int .i64 0, .int .i64 6]) w) :=
  do4_any g h N [] 1 x w r

theorem do4_else (K : Int) (h0 : K ≠ 0) (h1 : K ≠ 1) (h2 : K ≠ 2) (r : LaneQ w g h N q) : Calls Try.prog 11 #[ptr g, opV4 K x] w (LaneP g h N q (.tuple #[.int .i64 (doX q K x), .int .i64 (doF N q K x)]) w) := by
  have k := do4_any g h N q K x w r
  have e1 : doQ N q K x = q := by unfold doQ; rw [if_neg h0, if_neg h1, if_neg h2]
  rwa [e1] at k
end

set_option maxHeartbeats 2000000 in
theorem laneOrder_main (N : Nat) (v : Value) (R : List (List Int)) (w : World) (hN0 : 1 ≤ N) (hN1 : N ≤ 64) (hR : Recs w 2 v R) (hm : R.length ≤ 150) :
    Calls Try.prog 4 #[.int .i64 (N : Int), v] w fun e w' => e = .returned (.bool true) ∧ Below w.heap.size w w' := by
  obtain ⟨i0, hi0, hz0, hz1, hz2⟩ := info_parts int_info
  have HR := Lib.hid hR
  obtain ⟨A, c, rfl, hA⟩ := hR
  clear hA
  obtain ⟨m, hm'⟩ : ∃ m, R.length = m := ⟨_, rfl⟩
  rw [hm'] at hm HR ⊢
  have HM := Lib.hid hm'; clear hm'
  have g3 : ¬ (150 < (m : Int)) := by omega
  go_enter Try.func4, Try.ntmps4
  go_wp2_with fail
  refine (laneNew_yes N _ hN0 hN1).mono ?_
  rintro e w1 ⟨g, h, rfl, r1, hg1, hh1, hb1⟩
  unfold ptr
  have h0 : OrdAt w w1 g h N [] [] [] (.slice none 0 0) (.slice none 0 0) := ⟨r1, World.ownsRow_nil _ _ _ _, World.ownsRow_nil _ _ _ _, (fun k hk => by cases hk), (fun k hk => by cases hk), rfl, hb1, hg1, hh1⟩
  have H0 := Lib.hid h0
  clear h0 r1 hg1 hh1 hb1
  go_wp2
  go_loopw [6, 7, 24] (fun vp vt i wr => ∃ (k : Nat) (q p t : List Int), k ≤ m ∧ i = .int .i64 k ∧ p.length ≤ k ∧ t.length ≤ k ∧ Hid (OrdAt w wr g h N q p t vp vt)) (fun _ _ i _ => m - (intOf i).toNat)
  case atStart => exact ⟨0, [], [], [], Nat.zero_le _, rfl, by simp, by simp, H0⟩
  case round =>
    clear H0
    obtain ⟨k, q, p, t, hk, rfl, hpk, htk, S⟩ := hrel
    by_cases hlt : k < m
    · obtain ⟨ad, c', K, x, hzs, hv', hz, c0, c1⟩ := Recs.two HR.out S.out.below (by rw [HM.out]; exact hlt)
      rw [HM.out] at hv'
      injection hv' with hv' _ hv2
      subst hv' hv2
      clear hzs hz
      by_cases k2 : K = 2
      · subst k2
        have S1 := Lib.hid (S.out.quiet (below_al wr (.cells #[.int .i64 2, .int .i64 x] 24)))
        go_wp2
        go_roundw
        case rel => exact ⟨k + 1, q, p, t, by omega, by go_num, by omega, by omega, S1⟩
        case measure => simp [intOf]; omega
      · have b2 : (K == 2) = false := by simpa using k2
        have S1 := Lib.hid (S.out.quiet (below_al wr (.cells #[.int .i64 K, .int .i64 x] 24)))
        have hsz := S.out.below.size
        by_cases k0 : K = 0
        · subst k0
          clear k2 b2
          by_cases hq : q.length = N
          · go_wp2_with fail
            refine (do4_full g h N q x _ S1.out.lane hq).mono ?_
            rintro e w2 ⟨rfl, r2, ho2⟩
            have d0 := cell_gh (u := .int .i64 0) (i := 0) S.out.lane ho2 (by simp [go_sem])
            have d1 := cell_gh (u := .int .i64 x) (i := 1) S.out.lane ho2 (by simp [go_sem])
            have S3 := Lib.hid (S1.out.same ho2 r2)
            clear S1 S r2 ho2 c0 c1
            have hfit := S3.out.lane.fit.1
            obtain ⟨n3, hn3⟩ : ∃ n3, (q).length = n3 := ⟨_, rfl⟩
            have ln := Lib.hid (len_any g h N _ _ S3.out.lane)
            have cp := Lib.hid (cap_any g h N _ _ S3.out.lane)
            rw [hn3] at ln hfit
            clear hn3
            unfold ptr at ln cp
            go_wp2_with fail
            refine ln.out.mono ?_
            rintro e w' ⟨rfl, rfl⟩
            go_wp2_with fail
            refine cp.out.mono ?_
            rintro e w' ⟨rfl, rfl⟩
            go_wp2
            go_roundw
            case rel => exact ⟨k + 1, _, _, _, by omega, by go_num, by (try simp); omega, by (try simp); omega, S3⟩
            case measure => simp [intOf]; omega
          · have hql : q.length < N := by have := S.out.lane.fit.1; omega
            go_wp2_with fail
            refine (do4_room g h N q x _ S1.out.lane hql).mono ?_
            rintro e w2 ⟨rfl, r2, ho2⟩
            have d0 := cell_gh (u := .int .i64 0) (i := 0) S.out.lane ho2 (by simp [go_sem])
            have d1 := cell_gh (u := .int .i64 x) (i := 1) S.out.lane ho2 (by simp [go_sem])
            obtain ⟨a2, t2, b2⟩ := S1.out.step ho2
            have hs2 := b2.size
            have O2 := Lib.hid (And.intro ho2 r2)
            clear S r2 ho2 c0 c1 t2 b2
            go_wp2_with (at_builtin
                         refine app_walk _ rfl (.tmp 45) (.tmp 48) 30 rfl w.heap.size 3 i0 _ 8 Try.underlying30 hi0 hz0 hz1 hz2 rfl u6 p.length (ints p) rfl (a2.alloc _) (· = w2.heap.size) (some ⟨w2.heap.size, 0, none⟩) 1 1 [.int .i64 x] rfl (lies_new_one _ _ _ _) (Nat.le_refl _) (by intro u hu; simp at hu; subst hu; rfl) (by unfold maxLen; omega) (by omega) (by simp; omega) ?_
                         intro v3 w3 hown3 hg3 hat3
                         have S3 := Lib.hid (S1.out.more O2.out.1 O2.out.2 hg3 hown3 hat3)
                         clear hown3 hg3 hat3 a2 d0 d1)
            have hfit := S3.out.lane.fit.1
            obtain ⟨n3, hn3⟩ : ∃ n3, (q ++ [x]).length = n3 := ⟨_, rfl⟩
            have ln := Lib.hid (len_any g h N _ _ S3.out.lane)
            have cp := Lib.hid (cap_any g h N _ _ S3.out.lane)
            rw [hn3] at ln hfit
            clear hn3
            unfold ptr at ln cp
            go_wp2_with fail
            refine ln.out.mono ?_
            rintro e w' ⟨rfl, rfl⟩
            go_wp2_with fail
            refine cp.out.mono ?_
            rintro e w' ⟨rfl, rfl⟩
            go_wp2
            go_roundw
            case rel => exact ⟨k + 1, _, _, _, by omega, by go_num, by (try simp); omega, by (try simp); omega, S3⟩
            case measure => simp [intOf]; omega
        · have b0 : (K == 0) = false := by simpa using k0
          by_cases k1 : K = 1
          · subst k1
            clear k2 b2 k0 b0
            cases q with
            | nil =>
              go_wp2_with fail
              refine (do4_none g h N x _ S1.out.lane).mono ?_
              rintro e w2 ⟨rfl, r2, ho2⟩
              have d0 := cell_gh (u := .int .i64 1) (i := 0) S.out.lane ho2 (by simp [go_sem])
              have d1 := cell_gh (u := .int .i64 x) (i := 1) S.out.lane ho2 (by simp [go_sem])
              have S3 := Lib.hid (S1.out.same ho2 r2)
              clear S1 S r2 ho2 c0 c1
              have hfit := S3.out.lane.fit.1
              obtain ⟨n3, hn3⟩ : ∃ n3, ([] : List Int).length = n3 := ⟨_, rfl⟩
              have ln := Lib.hid (len_any g h N _ _ S3.out.lane)
              have cp := Lib.hid (cap_any g h N _ _ S3.out.lane)
              rw [hn3] at ln hfit
              clear hn3
              unfold ptr at ln cp
              go_wp2_with fail
              refine ln.out.mono ?_
              rintro e w' ⟨rfl, rfl⟩
              go_wp2_with fail
              refine cp.out.mono ?_
              rintro e w' ⟨rfl, rfl⟩
              go_wp2
              go_roundw
              case rel => exact ⟨k + 1, _, _, _, by omega, by go_num, by (try simp); omega, by (try simp); omega, S3⟩
              case measure => simp [intOf]; omega
            | cons y q =>
              go_wp2_with fail
              refine (do4_take g h N x _ y q S1.out.lane).mono ?_
              rintro e w2 ⟨rfl, r2, ho2⟩
              have d0 := cell_gh (u := .int .i64 1) (i := 0) S.out.lane ho2 (by simp [go_sem])
              have d1 := cell_gh (u := .int .i64 x) (i := 1) S.out.lane ho2 (by simp [go_sem])
              obtain ⟨a2, t2, b2⟩ := S1.out.step ho2
              have hs2 := b2.size
              have O2 := Lib.hid (And.intro ho2 r2)
              clear S r2 ho2 c0 c1 a2 b2
              go_wp2_with (at_builtin
                           refine app_walk _ rfl (.tmp 58) (.tmp 60) 30 rfl w.heap.size 3 i0 _ 8 Try.underlying30 hi0 hz0 hz1 hz2 rfl u7 t.length (ints t) rfl (t2.alloc _) (· = w2.heap.size) (some ⟨w2.heap.size, 0, none⟩) 1 1 [.int .i64 y] rfl (lies_new_one _ _ _ _) (Nat.le_refl _) (by intro u hu; simp at hu; subst hu; rfl) (by unfold maxLen; omega) (by omega) (by simp; omega) ?_
                           intro v3 w3 hown3 hg3 hat3
                           have S3 := Lib.hid (S1.out.less O2.out.1 O2.out.2 hg3 hown3 hat3)
                           clear hown3 hg3 hat3 t2 d0 d1)
              have hfit := S3.out.lane.fit.1
              obtain ⟨n3, hn3⟩ : ∃ n3, (q).length = n3 := ⟨_, rfl⟩
              have ln := Lib.hid (len_any g h N _ _ S3.out.lane)
              have cp := Lib.hid (cap_any g h N _ _ S3.out.lane)
              rw [hn3] at ln hfit
              clear hn3
              unfold ptr at ln cp
              go_wp2_with fail
              refine ln.out.mono ?_
              rintro e w' ⟨rfl, rfl⟩
              go_wp2_with fail
              refine cp.out.mono ?_
              rintro e w' ⟨rfl, rfl⟩
              go_wp2
              go_roundw
              case rel => exact ⟨k + 1, _, _, _, by omega, by go_num, by (try simp); omega, by (try simp); omega, S3⟩
              case measure => simp [intOf]; omega
          · have b1 : (K == 1) = false := by simpa using k1
            go_wp2_with fail
            refine (do4_else g h N q x _ K k0 k1 k2 S1.out.lane).mono ?_
            rintro e w2 ⟨rfl, r2, ho2⟩
            have d0 := cell_gh (u := .int .i64 K) (i := 0) S.out.lane ho2 (by simp [go_sem])
            have d1 := cell_gh (u := .int .i64 x) (i := 1) S.out.lane ho2 (by simp [go_sem])
            have S3 := Lib.hid (S1.out.same ho2 r2)
            clear S1 S r2 ho2 c0 c1 k0 k1 k2
            have hfit := S3.out.lane.fit.1
            obtain ⟨n3, hn3⟩ : ∃ n3, (q).length = n3 := ⟨_, rfl⟩
            have ln := Lib.hid (len_any g h N _ _ S3.out.lane)
            have cp := Lib.hid (cap_any g h N _ _ S3.out.lane)
            rw [hn3] at ln hfit
            clear hn3
            unfold ptr at ln cp
            go_wp2_with fail
            refine ln.out.mono ?_
            rintro e w' ⟨rfl, rfl⟩
            go_wp2_with fail
            refine cp.out.mono ?_
            rintro e w' ⟨rfl, rfl⟩
            go_wp2
            go_roundw
            case rel => exact ⟨k + 1, _, _, _, by omega, by go_num, by (try simp); omega, by (try simp); omega, S3⟩
            case measure => simp [intOf]; omega
    · obtain rfl : k = m := by omega
      have hf := S.out.lane.fit
      have hsz := S.out.below.size
      have al := Lib.hid (all_any g h N q _ S.out.lane)
      unfold ptr at al
      go_wp2_with fail
      refine al.out.mono ?_
      rintro e w2 ⟨v2, rfl, hv2, hcap2, hb2⟩
      obtain ⟨A2, n2, c2, rfl, HN2, HV2⟩ := hv2.open_
      have S2 := Lib.hid (S.out.quiet hb2)
      have hn2 : n2 ≤ 64 := by have := HN2.out; omega
      have hsz2 := hb2.size
      clear hv2 al
      go_wp2_with (at_builtin
                   refine app_walk _ rfl (.tmp 69) (.tmp 71) 30 rfl w.heap.size 3 i0 _ 8 Try.underlying30 hi0 hz0 hz1 hz2 rfl u7 t.length (ints t) rfl S2.out.tak _ A2 n2 c2 (ints q) rfl HV2.out hcap2 (ints_one q) (by unfold maxLen; omega) (by omega) (by omega) ?_
                   intro v3 w3 hown3 hg3 hat3)
      have hO := Only.of_own hg3
      have hp3 : w3.ownsRow w.heap.size 3 1 u6 p.length (ints p) := own_only S2.out.put hO (fun j hj e => (S2.out.apart j hj).2.2 e)
      have hlp := Lies.of_own hp3
      have hlt := Lies.of_own hown3
      rw [← ints_append, ← S2.out.sum] at hlt
      have hb3 : Below w.heap.size w w3 := Only.below S2.out.below hO (by omega) (fun j hj e => by have := (S2.out.tak.lt j e).1; omega)
      go_wp2_with fail
      refine (rsame_yes _ _ _ _ p w3 hlp hlt (by omega)).mono ?_
      rintro e w4 ⟨rfl, hb4⟩
      go_wp2_with fail
      refine (lane_alive _).mono ?_
      rintro e w5 ⟨rfl, hb5⟩
      go_wp2
      go_ret
      exact ⟨rfl, below_on (below_on hb3 hb4) hb5⟩

set_option maxHeartbeats 800000 in
theorem laneOrder_any (n : Int) (v : Value) (R : List (List Int)) (w : World) (hR : Recs w 2 v R) (hm : R.length ≤ maxLen) :
    Calls Try.prog 4 #[.int .i64 n, v] w fun e w' => e = .returned (.bool true) ∧ Below w.heap.size w w' := by
  unfold maxLen at hm
  have al := fun W => Lib.hid (lane_alive W)
  by_cases h3 : n < 1 ∨ 64 < n
  · obtain ⟨A, c, rfl, hA⟩ := hR
    clear hA
    have nw := Lib.hid (laneNew_no n w h3)
    clear h3
    go_enter Try.func4, Try.ntmps4
    go_wp2_with (first
      | (go_at_call 7; refine nw.out.mono ?_; rintro e w' ⟨rfl, rfl⟩)
      | (go_at_call 6; refine (al _).out.mono ?_; rintro e w3 ⟨rfl, hb3⟩))
    go_ret
    exact ⟨rfl, hb3⟩
  · obtain ⟨N, rfl⟩ := Int.eq_ofNat_of_zero_le (show 0 ≤ n by omega)
    by_cases h1 : 150 < R.length
    · obtain ⟨A, c, rfl, hA⟩ := hR
      clear hA
      have h1' : (150 : Int) < (R.length : Int) := by omega
      have nw := Lib.hid (laneNew_yes N w (by omega) (by omega))
      clear h3
      go_enter Try.func4, Try.ntmps4
      go_wp2_with (first
        | (go_at_call 7; refine nw.out.mono ?_; rintro e w1 ⟨g, h, rfl, r1, hg, hh, hb1⟩; unfold ptr)
        | (go_at_call 6; refine (al _).out.mono ?_; rintro e w3 ⟨rfl, hb3⟩))
      go_ret
      exact ⟨rfl, below_on hb1 hb3⟩
    · exact laneOrder_main N v R w (by omega) (by omega) hR (by omega)

#print axioms laneOrder_any
end Go.Proofs.Yteknnofeichmlaa
