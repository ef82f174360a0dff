/-
  The walk of the law SbufOrder: it returns true for every input, and nothing that was there before the call changes.
  Conditions: none.
-/
import Derived.Test.YtnclocbbngnebaaSbuf9
import Derived.Test.YtnclocbbngnebaaArgs2
namespace Go.Proofs.Ytnclocbbngnebaa
open Go.ChangeShapes Go.WideShapes Go.ChangeAt Go.RowKit

/-- The memory of the law's loop: the buffer, the list of what was put, and that they lie apart. -/
structure OrdM (w wr : World) (g : Nat) (h : Option Nat) (N : Nat) (q p : List (Int × Int)) (vp : Value) : Prop where
  buf : BufQ wr g h N q
  put : wr.ownsRow w.heap.size 24 2 vp p.length (flat (sts p))
  apart : ∀ k, vp.ownBlock = some k → k ≠ g ∧ h ≠ some k
  below : Below w.heap.size w wr
  hg : w.heap.size ≤ g
  hh : ∀ x, h = some x → w.heap.size ≤ x

section
variable {w wr w2 w3 : World} {g : Nat} {h h' : Option Nat} {N : Nat} {q q' p : List (Int × Int)} {vp v3 : Value}

theorem OrdM.quiet (s : OrdM w wr g h N q p vp) (hb : Below wr.heap.size wr w2) : OrdM w w2 g h N q p vp :=
  ⟨s.buf.below hb, own_only s.put (Only.of_below hb (fun _ => False)) (fun _ _ h => h), s.apart, below_on s.below hb, s.hg, s.hh⟩

/-- Behind a call of the buffer. -/
theorem OrdM.step (s : OrdM w wr g h N q p vp) (r : BufQ w2 g h' N q') (ho : Only (fun b => b = g ∨ h = some b) wr w2) (hh : ∀ x, h' = some x → h = some x ∨ wr.heap.size ≤ x) : OrdM w w2 g h' N q' p vp := by
  have hbs := s.below.size
  refine ⟨r, own_only s.put ho (fun k hk hn => hn.elim (s.apart k hk).1 (s.apart k hk).2), fun k hk => ⟨(s.apart k hk).1, fun e => ?_⟩, Only.below s.below ho s.below.size (fun x hx e => ?_), s.hg, fun x hx => ?_⟩
  · rcases hh k e with e | e
    · exact (s.apart k hk).2 e
    · have := (s.put.lt k hk).2
      omega
  · have := s.hg
    rcases e with e | e
    · omega
    · have := s.hh x e
      omega
  · rcases hh x hx with e | e
    · exact s.hh x e
    · omega

/-- Behind the append. -/
theorem OrdM.more {x : Int × Int} (s : OrdM w wr g h N q p vp) (hg3 : wr.grownBy w3 vp.ownBlock) (hown : w3.ownsRow w.heap.size 24 2 v3 (p.length + 1) (flat (sts (p ++ [x]))))
    (hat : v3.ownBlock = vp.ownBlock ∨ v3.ownBlock = some wr.heap.size) : OrdM w w3 g h N q (p ++ [x]) v3 := by
  have hO := Only.of_own hg3
  have hf := s.buf.fit
  refine ⟨s.buf.only hO (fun e => (s.apart g e).1 rfl) (fun y hy e => (s.apart y e).2 hy), by rw [List.length_append]; exact hown, fun k hk => ?_, Only.below s.below hO s.below.size (fun y hy e => by have := (s.put.lt y e).1; omega), s.hg, s.hh⟩
  rcases hat with e | e
  · exact s.apart k (by rw [← e]; exact hk)
  · rw [e] at hk
    injection hk with hk
    exact ⟨by omega, fun e2 => by have := (hf.2.2.2.2.1 k e2).1; omega⟩
end

/-- The list as a slice, written out. -/
theorem own_open {w : World} {base : Nat} {vp : Value} {p : List (Int × Int)} (h : w.ownsRow base 24 2 vp p.length (flat (sts p))) : ∃ A n c, vp = .slice A n c ∧ p.length = n ∧ CapOk (.slice A n c) ∧ Two w (fun b => vp.ownBlock = some b) (.slice A n c) (sts p) := by
  have h1 := Two.of_own h
  have h2 := CapOk.of_own h
  obtain ⟨A, n, c, rfl, HN, HT⟩ := h1.open_
  exact ⟨A, n, c, rfl, by have := HN.out; rwa [sts_len] at this, h2, HT.out⟩

section
variable (g : Nat) (h : Option Nat) (N : Nat) (q : List (Int × Int)) (a b : Int) (w : World)

theorem do5_bad (r : BufQ w g h N q) (hb : okB a b = false) : Calls Try.prog 10 #[ptr g, opV5 0 a b] w (BufP g h N q (.tuple #[stV 0 0, .int .i64 2]) w) := by
  have k := do5_put g h N q a b w r
  unfold bputQ bputE at k
  rwa [if_pos hb, if_pos hb] at k

theorem do5_full (r : BufQ w g h N q) (hb : okB a b = true) (hq : q.length = N) : Calls Try.prog 10 #[ptr g, opV5 0 a b] w (BufP g h N q (.tuple #[stV 0 0, .int .i64 5]) w) := by
  have k := do5_put g h N q a b w r
  unfold bputQ bputE at k
  have e : ¬ (okB a b = false) := by rw [hb]; simp
  rwa [if_neg e, if_neg e, if_pos hq, if_pos hq] at k

theorem do5_room (r : BufQ w g h N q) (hb : okB a b = true) (hq : q.length ≠ N) : Calls Try.prog 10 #[ptr g, opV5 0 a b] w (BufP g h N (q ++ [(a, b)]) (.tuple #[stV 0 0, .int .i64 0]) w) := by
  have k := do5_put g h N q a b w r
  unfold bputQ bputE at k
  have e : ¬ (okB a b = false) := by rw [hb]; simp
  rwa [if_neg e, if_neg e, if_neg hq, if_neg hq] at k

theorem do5_none (r : BufQ w g h N []) : Calls Try.prog 10 #[ptr g, opV5 1 a b] w (BufP g h N [] (.tuple #[stV 0 0, .int .i64 0]) w) := do5_drain g h N [] a b w r

theorem do5_some (y : Int × Int) (t : List (Int × Int)) (r : BufQ w g h N (y :: t)) : Calls Try.prog 10 #[ptr g, opV5 1 a b] w (BufP g h N t (.tuple #[stV y.1 y.2, .int .i64 1]) w) := do5_drain g h N (y :: t) a b w r
end

theorem alive_s {w0 W : World} (hb : Below w0.heap.size w0 W) : Calls Try.prog 6 #[] W fun e w' => e = .returned (.bool true) ∧ Below w0.heap.size w0 w' :=
  (sbuf_alive W).mono fun _ _ ⟨he, hb'⟩ => ⟨he, below_on hb hb'⟩

/-- The call's block behind the call. -/
theorem op_row {w w2 : World} {K a b : Int} {g : Nat} {h : Option Nat} {N : Nat} {q : List (Int × Int)} (r : BufQ w g h N q) (ho : Only (fun b => b = g ∨ h = some b) (w.alloc (.cells #[.int .i64 K, .int .i64 a, .int .i64 b] 26)) w2) : Row w2 w.heap.size 26 [.int .i64 K, .int .i64 a, .int .i64 b] := by
  have hf := r.fit
  refine (Row.new w 26 #[.int .i64 K, .int .i64 a, .int .i64 b]).only ho ?_
  rintro (e | e)
  · omega
  · have := (hf.2.2.2.2.1 _ e).1
    omega

theorem neq_same' (x y : Int) (W : World) : (binOp .neq 24 (.agg #[.int .i64 x, .int .i64 y]) (.agg #[.int .i64 x, .int .i64 y])).run Try.prog W = .ok (.bool false) W := by
  rw [neq_st]; simp

theorem drop_next {p q : List (Int × Int)} {d : Nat} {y : Int × Int} (h : p.drop d = y :: q) : p[d]? = some y ∧ p.drop (d + 1) = q ∧ d < p.length := by
  have hd : d < p.length := by
    have := congrArg List.length h
    simp at this
    omega
  rw [List.drop_eq_getElem_cons hd] at h
  injection h with h1 h2
  exact ⟨by rw [List.getElem?_eq_getElem hd, h1], h2, hd⟩

set_option maxRecDepth 100000 in
set_option maxHeartbeats 4000000 in
theorem sbufOrder_main (N : Nat) (v : Value) (R : List (List Int)) (ax : Int) (w : World) (hN0 : 1 ≤ N) (hN1 : N ≤ 16) (hR : Recs w 3 v R) (hm : R.length ≤ 100) :
    Calls Try.prog 4 #[.int .i64 (N : Int), v, .int .i64 ax] w fun e w' => e = .returned (.bool true) ∧ Below w.heap.size w w' := by
  obtain ⟨i0, hi0, hz0, hz1, hz2⟩ := info_parts st_info
  have HR := Lib.hid hR
  obtain ⟨A, c, rfl, hA⟩ := hR
  clear hA
  obtain ⟨m, hm'⟩ : ∃ m, R.length = m := ⟨_, rfl⟩
  rw [hm'] at hm HR ⊢
  have HM := Lib.hid hm'; clear hm'
  have g3 : ¬ (100 < (m : Int)) := by omega
  go_enter Try.func4, Try.ntmps4
  go_wp2_with fail
  refine (bufNew_yes N _ hN0 hN1).mono ?_
  rintro e w1 ⟨g, rfl, r1, hg1, hb1⟩
  unfold ptr
  have h0 : OrdM w w1 g none N [] [] (.slice none 0 0) := ⟨r1, World.ownsRow_nil _ _ _ _, (fun k hk => by cases hk), hb1, hg1, (fun x hx => by cases hx)⟩
  have H0 := Lib.hid h0
  clear h0 r1 hg1 hb1
  go_wp2
  go_loopw [8, 9, 32] (fun vp dv i wr => ∃ (k d : Nat) (h : Option Nat) (q p : List (Int × Int)), k ≤ m ∧ i = .int .i64 k ∧ dv = .int .i64 d ∧ p.length ≤ k ∧ d ≤ p.length ∧ Hid (p.drop d = q) ∧ Hid (OrdM w wr g h N q p vp)) (fun _ _ i _ => m - (intOf i).toNat)
  case atStart => exact ⟨0, 0, none, [], [], Nat.zero_le _, rfl, rfl, by simp, by simp, Lib.hid rfl, H0⟩
  case round =>
    clear H0
    obtain ⟨k, d, h, q, p, hk, rfl, rfl, hpk, hdp, HD, S⟩ := hrel
    obtain ⟨Ap, np, cp, rfl, hnp, hcapp, htwo⟩ := own_open S.out.put
    obtain ⟨l, hl⟩ : ∃ l, q.length = l := ⟨_, rfl⟩
    have hlq : np = d + l := by
      have h1 : q.length = np - d := by rw [← HD.out, List.length_drop, hnp]
      omega
    rw [hnp] at hpk
    have HNP := Lib.hid hnp; clear hnp hdp
    have HLQ := Lib.hid hl; clear hl
    have HS := Lib.hid hlq
    have hsub : (np : Int) - (d : Int) = (l : Int) := by omega
    clear hlq
    have HVL := Lib.hid (fun x (hx : (Value.slice Ap np cp).ownBlock = some x) => (S.out.put.lt x hx).2)
    clear htwo hcapp
    by_cases hlt : k < m
    · obtain ⟨ad, c', K, a, b, hzs, hv', hz, z0, z1, z2, hadl⟩ := Recs.three HR.out S.out.below (by rw [HM.out]; exact hlt)
      rw [HM.out] at hv'
      injection hv' with hv' _ hv2
      subst hv' hv2
      clear hzs hz
      have S1 := Lib.hid (S.out.quiet (below_al wr (.cells #[.int .i64 K, .int .i64 a, .int .i64 b] 26)))
      by_cases k2 : K = 2
      · subst k2
        go_wp2
        go_roundw
        case rel => exact ⟨k + 1, d, h, q, p, by omega, by go_num, rfl, by rw [HNP.out]; omega, by rw [HNP.out, HS.out]; omega, HD, S1⟩
        case measure => simp [intOf]; omega
      · have b2 : (K == 2) = false := by simpa using k2
        have hsz := S.out.below.size
        have hfit := S.out.buf.fit
        by_cases k0 : K = 0
        · subst k0
          clear k2 b2
          cases hok : okB a b
          · have HC := Lib.hid (do5_bad g h N q a b _ S1.out.buf hok)
            clear hok
            unfold ptr opV5 stV at HC
            go_wp2_with fail
            refine HC.out.mono ?_
            rintro e w2 ⟨h', rfl, r2, ho2, hh2⟩
            have ro := op_row S.out.buf ho2
            have o0 := ro.cell 0
            have o1 := ro.cell 1
            have o2 := ro.cell 2
            have hl2 := ro.lt
            simp only [List.getElem?_cons_zero, List.getElem?_cons_succ] at o0 o1 o2
            have ROW := Lib.hid ro
            have S2 := Lib.hid (S1.out.step r2 ho2 hh2)
            have n2 : w2.heap.size ≠ wr.heap.size := by omega
            have n3 : wr.heap.size ≠ w2.heap.size := by omega
            have S3 := Lib.hid (S2.out.quiet (below_al w2 (.cells #[.int .i64 0, .int .i64 0] 24)))
            clear HC S S1 ro r2 ho2 hh2 z0 z1 z2
            have hfit3 := S3.out.buf.fit
            have ln := Lib.hid (blen_any g _ N _ _ S3.out.buf)
            have cp' := Lib.hid (bcap_any g _ N _ _ S3.out.buf)
            rw [HLQ.out] at ln hfit3
            unfold ptr at ln cp'
            go_wp2_with fail
            refine ln.out.mono ?_
            rintro e w' ⟨rfl, rfl⟩
            go_wp2_with fail
            refine ln.out.mono ?_
            rintro e w' ⟨rfl, rfl⟩
            go_wp2_with fail
            refine cp'.out.mono ?_
            rintro e w' ⟨rfl, rfl⟩
            go_wp2
            go_roundw
            case rel => exact ⟨k + 1, d, _, _, p, by omega, by go_num, rfl, by rw [HNP.out]; omega, by rw [HNP.out, HS.out]; omega, HD, S3⟩
            case measure => simp [intOf]; omega
          · by_cases hq : q.length = N
            · have HC := Lib.hid (do5_full g h N q a b _ S1.out.buf hok hq)
              clear hok hq
              unfold ptr opV5 stV at HC
              go_wp2_with fail
              refine HC.out.mono ?_
              rintro e w2 ⟨h', rfl, r2, ho2, hh2⟩
              have ro := op_row S.out.buf ho2
              have o0 := ro.cell 0
              have o1 := ro.cell 1
              have o2 := ro.cell 2
              have hl2 := ro.lt
              simp only [List.getElem?_cons_zero, List.getElem?_cons_succ] at o0 o1 o2
              have ROW := Lib.hid ro
              have S2 := Lib.hid (S1.out.step r2 ho2 hh2)
              have n2 : w2.heap.size ≠ wr.heap.size := by omega
              have n3 : wr.heap.size ≠ w2.heap.size := by omega
              have S3 := Lib.hid (S2.out.quiet (below_al w2 (.cells #[.int .i64 0, .int .i64 0] 24)))
              clear HC S S1 ro r2 ho2 hh2 z0 z1 z2
              have hfit3 := S3.out.buf.fit
              have ln := Lib.hid (blen_any g _ N _ _ S3.out.buf)
              have cp' := Lib.hid (bcap_any g _ N _ _ S3.out.buf)
              rw [HLQ.out] at ln hfit3
              unfold ptr at ln cp'
              go_wp2_with fail
              refine ln.out.mono ?_
              rintro e w' ⟨rfl, rfl⟩
              go_wp2_with fail
              refine ln.out.mono ?_
              rintro e w' ⟨rfl, rfl⟩
              go_wp2_with fail
              refine cp'.out.mono ?_
              rintro e w' ⟨rfl, rfl⟩
              go_wp2
              go_roundw
              case rel => exact ⟨k + 1, d, _, _, p, by omega, by go_num, rfl, by rw [HNP.out]; omega, by rw [HNP.out, HS.out]; omega, HD, S3⟩
              case measure => simp [intOf]; omega
            · have HC := Lib.hid (do5_room g h N q a b _ S1.out.buf hok hq)
              clear hok hq
              unfold ptr opV5 stV at HC
              go_wp2_with fail
              refine HC.out.mono ?_
              rintro e w2 ⟨h', rfl, r2, ho2, hh2⟩
              have ro := op_row S.out.buf ho2
              have o0 := ro.cell 0
              have o1 := ro.cell 1
              have o2 := ro.cell 2
              have hl2 := ro.lt
              simp only [List.getElem?_cons_zero, List.getElem?_cons_succ] at o0 o1 o2
              have ROW := Lib.hid ro
              have S2 := Lib.hid (S1.out.step r2 ho2 hh2)
              have n2 : w2.heap.size ≠ wr.heap.size := by omega
              have n3 : wr.heap.size ≠ w2.heap.size := by omega
              have S3 := Lib.hid (S2.out.quiet (below_al w2 (.cells #[.int .i64 0, .int .i64 0] 24)))
              clear HC S S1 ro r2 ho2 hh2 z0 z1 z2
              obtain ⟨l3, hl3⟩ : ∃ l3, l3 = l + 1 := ⟨_, rfl⟩
              have hs3 := S3.out.below.size
              have es : flat (sts p) ++ flat [(Value.int .i64 a, Value.int .i64 b)] = flat (sts (p ++ [(a, b)])) := by rw [← flat_append, sts_append]; rfl
              have ES := Lib.hid es; clear es
              have ow := S3.out.put
              rw [HNP.out] at ow
              go_wp2_with (at_builtin
                           refine app2_walk _ rfl (.tmp 52) (.tmp 55) 31 rfl w.heap.size 24 i0 _ 16 Try.underlying31 hi0 hz0 hz1 hz2 rfl (.slice Ap np cp) np (flat (sts p)) rfl (ow.alloc _) (· = w2.heap.size + 1) (some ⟨w2.heap.size + 1, 0, none⟩) 1 1 [(.int .i64 a, .int .i64 b)] rfl (by simpa using Two.one (w2.alloc (.cells #[.int .i64 0, .int .i64 0] 24)) (.int .i64 a) (.int .i64 b) 24 1) (Nat.le_refl _) (st_one _ _) (by unfold maxLen; omega) (by omega) (by simp at hs3; simp; omega) ?_
                           intro v3 w3 hown3 hg3 hat3
                           rw [ES.out] at hown3
                           have hown4 := hown3
                           rw [← HNP.out] at hown4
                           have S4 := Lib.hid ((S3.out.quiet (below_al _ _)).more hg3 hown4 hat3)
                           obtain ⟨A3, n3, c3, rfl, hn3', hcap3, htwo3⟩ := own_open S4.out.put
                           have hn3 : n3 = np + 1 := (by rw [← hn3', List.length_append, HNP.out]; rfl)
                           have hsub3 : (n3 : Int) - (d : Int) = (l3 : Int) := (by have := HS.out; omega)
                           have HS3 := Lib.hid hn3
                           clear hn3
                           have ro3 := ((ROW.out.below (below_al w2 (.cells #[.int .i64 0, .int .i64 0] 24))).below (below_al _ (.cells #[.int .i64 a, .int .i64 b] 24))).of_grown hg3 (fun e => by have := HVL.out _ e.symm; omega)
                           have o3 := ro3.cell 0
                           simp only [List.getElem?_cons_zero] at o3
                           have HN3 := Lib.hid hn3'
                           clear hown3 hown4 hg3 hat3 hcap3 htwo3 ow ro3 hn3')
              have HLQ2 : Hid ((q ++ [(a, b)]).length = l3) := Lib.hid (by rw [List.length_append, HLQ.out, hl3]; rfl)
              clear hl3
              have HD2 : Hid ((p ++ [(a, b)]).drop d = q ++ [(a, b)]) := Lib.hid (by rw [List.drop_append_of_le_length (by rw [HNP.out, HS.out]; omega), HD.out])
              have hfit3 := S4.out.buf.fit
              have ln := Lib.hid (blen_any g _ N _ _ S4.out.buf)
              have cp' := Lib.hid (bcap_any g _ N _ _ S4.out.buf)
              rw [HLQ2.out] at ln hfit3
              unfold ptr at ln cp'
              go_wp2_with fail
              refine ln.out.mono ?_
              rintro e w' ⟨rfl, rfl⟩
              go_wp2_with fail
              refine ln.out.mono ?_
              rintro e w' ⟨rfl, rfl⟩
              go_wp2_with fail
              refine cp'.out.mono ?_
              rintro e w' ⟨rfl, rfl⟩
              go_wp2
              go_roundw
              case rel => exact ⟨k + 1, d, _, _, _, by omega, by go_num, rfl, by rw [HN3.out, HS3.out]; omega, by rw [HN3.out, HS3.out, HS.out]; omega, HD2, S4⟩
              case measure => simp [intOf]; omega
        · have b0 : (K == 0) = false := by simpa using k0
          by_cases k1 : K = 1
          · subst k1
            clear k2 b2 k0 b0
            cases q with
            | nil =>
              have HC := Lib.hid (do5_none g h N a b _ S1.out.buf)
              unfold ptr opV5 stV at HC
              go_wp2_with fail
              refine HC.out.mono ?_
              rintro e w2 ⟨h', rfl, r2, ho2, hh2⟩
              have ro := op_row S.out.buf ho2
              have o0 := ro.cell 0
              have o1 := ro.cell 1
              have o2 := ro.cell 2
              have hl2 := ro.lt
              simp only [List.getElem?_cons_zero, List.getElem?_cons_succ] at o0 o1 o2
              have ROW := Lib.hid ro
              have S2 := Lib.hid (S1.out.step r2 ho2 hh2)
              have n2 : w2.heap.size ≠ wr.heap.size := by omega
              have n3 : wr.heap.size ≠ w2.heap.size := by omega
              have S3 := Lib.hid (S2.out.quiet (below_al w2 (.cells #[.int .i64 0, .int .i64 0] 24)))
              clear HC S S1 ro r2 ho2 hh2 z0 z1 z2
              have hfit3 := S3.out.buf.fit
              have ln := Lib.hid (blen_any g _ N _ _ S3.out.buf)
              have cp' := Lib.hid (bcap_any g _ N _ _ S3.out.buf)
              rw [HLQ.out] at ln hfit3
              unfold ptr at ln cp'
              go_wp2_with fail
              refine ln.out.mono ?_
              rintro e w' ⟨rfl, rfl⟩
              go_wp2_with fail
              refine ln.out.mono ?_
              rintro e w' ⟨rfl, rfl⟩
              go_wp2_with fail
              refine cp'.out.mono ?_
              rintro e w' ⟨rfl, rfl⟩
              go_wp2
              go_roundw
              case rel => exact ⟨k + 1, d, _, _, p, by omega, by go_num, rfl, by rw [HNP.out]; omega, by rw [HNP.out, HS.out]; omega, HD, S3⟩
              case measure => simp [intOf]; omega
            | cons y q =>
              obtain ⟨l', hl'⟩ : ∃ l', q.length = l' := ⟨_, rfl⟩
              have hl1 : l = l' + 1 := by have := HLQ.out; rw [List.length_cons, hl'] at this; omega
              have HLQ' := Lib.hid hl'
              have hge : decide ((np : Int) ≤ (d : Int)) = false := by simp; have := HS.out; omega
              have hi2 : (d : Int) < (np : Int) := by have := HS.out; omega
              have hi3 : d < np := by omega
              have hsub2 : (np : Int) - ((d : Int) + 1) = (l' : Int) := by have := HS.out; omega
              clear hl' hl1
              have HC := Lib.hid (do5_some g h N a b _ y q S1.out.buf)
              unfold ptr opV5 stV at HC
              go_wp2_with fail
              refine HC.out.mono ?_
              rintro e w2 ⟨h', rfl, r2, ho2, hh2⟩
              have ro := op_row S.out.buf ho2
              have o0 := ro.cell 0
              have o1 := ro.cell 1
              have o2 := ro.cell 2
              have hl2 := ro.lt
              simp only [List.getElem?_cons_zero, List.getElem?_cons_succ] at o0 o1 o2
              have ROW := Lib.hid ro
              have S2 := Lib.hid (S1.out.step r2 ho2 hh2)
              have n2 : w2.heap.size ≠ wr.heap.size := by omega
              have n3 : wr.heap.size ≠ w2.heap.size := by omega
              have S3 := Lib.hid (S2.out.quiet (below_al w2 (.cells #[.int .i64 y.1, .int .i64 y.2] 24)))
              clear HC S S1 ro r2 ho2 hh2 z0 z1 z2
              obtain ⟨hpd, hdrop, hdl⟩ := drop_next HD.out
              have ht3 := Two.of_own S3.out.put
              obtain ⟨gp, op, hAp, _, hgl, e1, e2⟩ := ht3.cells (sts_at hpd)
              subst hAp
              simp only at e1 e2
              have HD2 := Lib.hid hdrop
              have ex := neq_same' y.1 y.2
              clear hpd hdrop ht3
              go_wp2
              go_quiet (fail)
              have S4 := Lib.hid (S3.out.quiet (below_q _ nq))
              have hfit3 := S4.out.buf.fit
              have ln := Lib.hid (blen_any g _ N _ _ S4.out.buf)
              have cp' := Lib.hid (bcap_any g _ N _ _ S4.out.buf)
              rw [HLQ'.out] at ln hfit3
              unfold ptr at ln cp'
              go_wp2_with fail
              refine ln.out.mono ?_
              rintro e w' ⟨rfl, rfl⟩
              go_wp2_with fail
              refine ln.out.mono ?_
              rintro e w' ⟨rfl, rfl⟩
              go_wp2_with fail
              refine cp'.out.mono ?_
              rintro e w' ⟨rfl, rfl⟩
              go_wp2
              go_roundw
              case rel => exact ⟨k + 1, d + 1, _, _, p, by omega, by go_num, by go_num, by rw [HNP.out]; omega, by rw [HNP.out]; omega, HD2, S4⟩
              case measure => simp [intOf]; omega
          · have b1 : (K == 1) = false := by simpa using k1
            have HC := do5_find g h N q K a b _ S1.out.buf k0 k1 k2
            obtain ⟨F, hF⟩ : ∃ F : Int, (if fB (fnd q a) then 1 else 0) = F := ⟨_, rfl⟩
            obtain ⟨V, hV⟩ : ∃ V : Int, fV (fnd q a) = V := ⟨_, rfl⟩
            rw [hF, hV] at HC
            replace HC := Lib.hid HC
            clear k0 k1 k2 hF hV
            unfold ptr opV5 stV at HC
            go_wp2_with fail
            refine HC.out.mono ?_
            rintro e w2 ⟨h', rfl, r2, ho2, hh2⟩
            have ro := op_row S.out.buf ho2
            have o0 := ro.cell 0
            have o1 := ro.cell 1
            have o2 := ro.cell 2
            have hl2 := ro.lt
            simp only [List.getElem?_cons_zero, List.getElem?_cons_succ] at o0 o1 o2
            have ROW := Lib.hid ro
            have S2 := Lib.hid (S1.out.step r2 ho2 hh2)
            have n2 : w2.heap.size ≠ wr.heap.size := by omega
            have n3 : wr.heap.size ≠ w2.heap.size := by omega
            have S3 := Lib.hid (S2.out.quiet (below_al w2 (.cells #[.int .i64 0, .int .i64 V] 24)))
            clear HC S S1 ro r2 ho2 hh2 z0 z1 z2
            have hfit3 := S3.out.buf.fit
            have ln := Lib.hid (blen_any g _ N _ _ S3.out.buf)
            have cp' := Lib.hid (bcap_any g _ N _ _ S3.out.buf)
            rw [HLQ.out] at ln hfit3
            unfold ptr at ln cp'
            go_wp2_with fail
            refine ln.out.mono ?_
            rintro e w' ⟨rfl, rfl⟩
            go_wp2_with fail
            refine ln.out.mono ?_
            rintro e w' ⟨rfl, rfl⟩
            go_wp2_with fail
            refine cp'.out.mono ?_
            rintro e w' ⟨rfl, rfl⟩
            go_wp2
            go_roundw
            case rel => exact ⟨k + 1, d, _, _, p, by omega, by go_num, rfl, by rw [HNP.out]; omega, by rw [HNP.out, HS.out]; omega, HD, S3⟩
            case measure => simp [intOf]; omega
    · obtain rfl : k = m := by omega
      obtain ⟨f0, hf0⟩ : ∃ f0, fnd q ax = f0 := ⟨_, rfl⟩
      have fd := bfind_any g h N q ax _ S.out.buf
      rw [hf0] at fd
      have HF0 := Lib.hid hf0
      have FD := Lib.hid fd
      clear hf0 fd
      unfold ptr at FD
      have hfit := S.out.buf.fit
      have hcap := CapOk.of_own S.out.put
      have htw := (Two.of_own S.out.put).from_ (k := d) hcap (by have := HS.out; omega)
      have hsl := fun W => slice_st Ap np cp d (by have := HS.out; omega) W
      have enl : np - d = l := by have := HS.out; omega
      obtain ⟨B, hB⟩ : ∃ B, B = (if cp = d then Ap else Ap.map (·.add (d * 2))) := ⟨_, rfl⟩
      obtain ⟨c5, hc5⟩ : ∃ c5, c5 = cp - d := ⟨_, rfl⟩
      rw [← hB, ← hc5, enl, sts_drop, HD.out] at htw
      rw [← hB, ← hc5, enl] at hsl
      have HL := Lib.hid htw.1
      have HG := Lib.hid hfit.2.2.2.2.2
      have hl16 : l ≤ 16 := by have := hfit.1; rw [HLQ.out] at this; omega
      clear htw hB hc5 enl hcap
      have hi1 : (0 : Int) ≤ (d : Int) := by omega
      have hi2 : (d : Int) ≤ (np : Int) := by have := HS.out; omega
      go_wp2_with fail
      refine FD.out.mono ?_
      rintro e w' ⟨rfl, rfl⟩
      go_wp2
      go_loopw [16, 17, 103] (fun x y i w5 => ∃ (j : Nat) (f : Option Int), j ≤ l ∧ i = .int .i64 j ∧ x = .int .i64 (fV f) ∧ y = .bool (fB f) ∧ Hid (fnd (q.take j) ax = f) ∧ Hid (Below wr.heap.size wr w5)) (fun _ _ i _ => l - (intOf i).toNat)
      case atStart => exact ⟨0, none, Nat.zero_le _, rfl, rfl, rfl, Lib.hid rfl, Lib.hid (Below.refl _ _)⟩
      case round =>
        obtain ⟨j, f, hj, rfl, rfl, rfl, ht, hb⟩ := hrel
        by_cases hjl : j < l
        · obtain ⟨y, hy⟩ : ∃ y, q[j]? = some y := ⟨_, List.getElem?_eq_getElem (by rw [HLQ.out]; exact hjl)⟩
          obtain ⟨gq, oq, hBe, hPq, hgq, e1, e2⟩ := (HL.out.below hb.out).cells (sts_at hy)
          subst hBe
          simp only at e1 e2
          have hb1 := fun o => Lib.hid (below_on hb.out (below_al _ o))
          have HY := Lib.hid hy
          clear hy hb
          by_cases he : y.1 = ax
          · have hbq : (y.1 == ax) = true := by simpa using he
            have HF := Lib.hid (fnd_yes HY.out he)
            clear he
            go_wp2
            go_roundw
            case rel => exact ⟨j + 1, some y.2, by omega, by go_num, rfl, rfl, HF, hb1 _⟩
            case measure => simp [intOf]; omega
          · have hbq : (y.1 == ax) = false := by simpa using he
            have HF := Lib.hid ((fnd_no HY.out he).trans ht.out)
            clear he
            go_wp2
            go_roundw
            case rel => exact ⟨j + 1, f, by omega, by go_num, rfl, rfl, HF, hb1 _⟩
            case measure => simp [intOf]; omega
        · obtain rfl : j = l := by omega
          have hfin : f = f0 := by have h1 := ht.out; rw [← HLQ.out, List.take_length] at h1; exact h1.symm.trans HF0.out
          subst hfin
          have r5 := S.out.buf.below hb.out
          have v5 := HL.out.below hb.out
          have HBW := Lib.hid (below_on S.out.below hb.out)
          have hbb : Below wr.heap.size wr wr := Below.refl _ _
          have al := Lib.hid (all_s r5 HLQ.out)
          have ce := Lib.hid (cells_s v5 HG.out (by rw [HLQ.out]; omega))
          have av := Lib.hid (fun W (hb : Below wr.heap.size wr W) => alive_s hb)
          have q1 : (fV f == fV f) = true := by simp
          have q2 : (fB f == fB f) = true := by simp
          clear r5 v5 S HL hb ht FD hsub
          go_wp2
          go_region_held3 (fun w' => Below wr.heap.size wr w')
            (first
              | exact hb9
              | exact hb8
              | exact hb7
              | exact hb6
              | exact hb5
              | exact hbb.drew
              | exact hbb
              | go_keep)
            (first
              | (go_at_call 18; (with_reducible refine (al.out _ ?_).mono ?_); (go_split_ands; assumption); rintro e w5 ⟨b5, rfl, hr5, hb5, hk5⟩)
              | (go_at_call 17; (with_reducible refine (pairs_s (w0 := wr) hr5.out HLQ.out ?_ (by omega)).mono ?_); (go_split_ands; assumption); rintro e w6 ⟨v6, rfl, hv6, hb6, hk6⟩)
              | (go_at_call 17; (with_reducible refine (pairs_s (w0 := wr) (hr5.out.below hk7.out) HLQ.out ?_ (by omega)).mono ?_); (go_split_ands; assumption); rintro e w6 ⟨v6, rfl, hv6, hb6, hk6⟩)
              | (go_at_call 19; (with_reducible refine (ce.out _ ?_).mono ?_); (go_split_ands; assumption); rintro e w7 ⟨v7, rfl, hv7, hb7, hk7⟩)
              | (go_at_call 16; (with_reducible refine (sameCells_s (w0 := wr) hv6.out (hv7.out.below hk6.out) HG.out (by rw [HLQ.out]; omega) ?_).mono ?_); (go_split_ands; assumption); rintro e w8 ⟨rfl, hb8⟩)
              | (go_at_call 16; (with_reducible refine (sameCells_s (w0 := wr) (hv6.out.below hk7.out) hv7.out HG.out (by rw [HLQ.out]; omega) ?_).mono ?_); (go_split_ands; assumption); rintro e w8 ⟨rfl, hb8⟩)
              | (go_at_call 16; (with_reducible refine (sameCells_s (w0 := wr) hv6.out ((hv7.out.below hk5.out).below hk6.out) HG.out (by rw [HLQ.out]; omega) ?_).mono ?_); (go_split_ands; assumption); rintro e w8 ⟨rfl, hb8⟩)
              | (go_at_call 6; (with_reducible refine (av.out _ ?_).mono ?_); (go_split_ands; assumption); rintro e w9 ⟨rfl, hb9⟩))
          all_goals
            go_wp2
            go_ret
            exact ⟨rfl, below_on HBW.out hb9⟩

set_option maxHeartbeats 800000 in
theorem sbufOrder_any (n : Int) (v : Value) (R : List (List Int)) (ax : Int) (w : World) (hR : Recs w 3 v R) (hm : R.length ≤ maxLen) :
    Calls Try.prog 4 #[.int .i64 n, v, .int .i64 ax] w fun e w' => e = .returned (.bool true) ∧ Below w.heap.size w w' := by
  unfold maxLen at hm
  have al := fun W => Lib.hid (sbuf_alive W)
  by_cases h3 : n < 1 ∨ 16 < n
  · obtain ⟨A, c, rfl, hA⟩ := hR
    clear hA
    have nw := Lib.hid (bufNew_no n w h3)
    clear h3
    go_enter Try.func4, Try.ntmps4
    go_wp2_with (first
      | (go_at_call 7; refine nw.out.mono ?_; rintro e w' ⟨rfl, rfl⟩)
      | (go_at_call 6; refine (al _).out.mono ?_; rintro e w3 ⟨rfl, hb3⟩))
    go_ret
    exact ⟨rfl, hb3⟩
  · obtain ⟨N, rfl⟩ := Int.eq_ofNat_of_zero_le (show 0 ≤ n by omega)
    by_cases h1 : 100 < R.length
    · obtain ⟨A, c, rfl, hA⟩ := hR
      clear hA
      have h1' : (100 : Int) < (R.length : Int) := by omega
      have nw := Lib.hid (bufNew_yes N w (by omega) (by omega))
      clear h3
      go_enter Try.func4, Try.ntmps4
      go_wp2_with (first
        | (go_at_call 7; refine nw.out.mono ?_; rintro e w1 ⟨g, rfl, r1, hg, hb1⟩; unfold ptr)
        | (go_at_call 6; refine (al _).out.mono ?_; rintro e w3 ⟨rfl, hb3⟩))
      go_ret
      exact ⟨rfl, below_on hb1 hb3⟩
    · exact sbufOrder_main N v R ax w (by omega) (by omega) hR (by omega)

#print axioms sbufOrder_any
end Go.Proofs.Ytnclocbbngnebaa
