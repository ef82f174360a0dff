/-
  Layer 7 (litmus): the walk of the law LitmusFenced.
  Conditions: those that each theorem states.
-/
import Derived.Test.YtodmngfddloahaaLit34
namespace Go.Proofs.Ytodmngfddloahaa
open Go.ChangeShapes Go.WideShapes Go.ChangeAt Go.RowKit

theorem op_info : (Try.prog.info? 40).map (fun i => (i.zero, i.size, i.bytes)) = some (some (.agg #[.int .i64 0, .int .i64 0, .int .i64 0, .int .i64 0]), 4, 32) := by kernel_rfl
theorem ops_info : (Try.prog.info? 38).map (fun i => (i.zero, i.size, i.bytes)) = some (some (.slice none 0 0), 1, 24) := by kernel_rfl

/-- The programs with fences, as far as they are made. -/
def FenAt (w wr : World) (p : List (List Opn)) (k : Nat) (fv : Value) : Prop :=
  ∃ vs, OwnP wr w.heap.size 38 40 fv vs (fenceP (p.take k)) ∧ (∀ l ∈ p.take k, l.length ≤ 2) ∧ Below w.heap.size w wr

/-- One list with fences, as far as it is made. -/
def InAt (wr wr2 : World) (l : List Opn) (j : Nat) (ov : Value) : Prop :=
  wr2.ownsRow wr.heap.size 40 4 ov (2 * j) (ints (opsL (fenceL (l.take j)))) ∧ Below wr.heap.size wr wr2

theorem FenAt.start (w : World) (p : List (List Opn)) : FenAt w w p 0 (.slice none 0 0) :=
  ⟨[], ⟨⟨rfl, .inl ⟨rfl, rfl⟩⟩, rfl, fun i u l hu _ => by simp at hu⟩, fun l hl => by simp at hl, Below.refl _ _⟩

theorem InAt.start (w : World) (l : List Opn) : InAt w w l 0 (.slice none 0 0) := ⟨⟨rfl, .inl ⟨rfl, rfl⟩⟩, Below.refl _ _⟩

def op8 (K a x r : Int) : List Int := [K, a, x, r, 3, 0, 0, 0]

/-- What the inner round leaves behind its append. -/
theorem InAt.step {wr wr2 W y4 : World} {l : List Opn} {j : Nat} {ov yv : Value} {K a x r : Int} (h : InAt wr wr2 l j ov) (ho : l[j]? = some ⟨K, a, x, r⟩) (hW : Below wr2.heap.size wr2 W)
    (hs : y4.ownsRow wr.heap.size 40 4 yv (2 * j + 2) (ints (opsL (fenceL (l.take j))) ++ ints (op8 K a x r))) (hg : W.grownBy y4 ov.ownBlock) : InAt wr y4 l (j + 1) yv := by
  have hb4 : Below wr.heap.size wr W := h.2.trans (hW.mono h.2.size)
  refine ⟨?_, hb4.grown hg hb4.size (own_base h.1)⟩
  rw [fenceL_more ho, opsL_append, ints_append]
  exact hs

theorem InAt.row {wr wr2 W : World} {l : List Opn} {j : Nat} {ov : Value} (h : InAt wr wr2 l j ov) (hW : Below wr2.heap.size wr2 W) : W.ownsRow wr.heap.size 40 4 ov (2 * j) (ints (opsL (fenceL (l.take j)))) :=
  own_grown h.1 (gr_below hW none) (fun _ _ => by simp)

theorem new_eight (w : World) (E : TypeId) (K a x r : Int) (o : Obj) : ∀ j u, (ints (op8 K a x r))[j]? = some u → (((w.alloc o).alloc (.cells #[.int .i64 K, .int .i64 a, .int .i64 x, .int .i64 r, .int .i64 3, .int .i64 0, .int .i64 0, .int .i64 0] E)).cell? ((⟨w.heap.size + 1, 0, none⟩ : Addr).add j)) = some u := by
  intro j u hu
  have R : Row ((w.alloc o).alloc (.cells #[.int .i64 K, .int .i64 a, .int .i64 x, .int .i64 r, .int .i64 3, .int .i64 0, .int .i64 0, .int .i64 0] E)) (w.heap.size + 1) E [.int .i64 K, .int .i64 a, .int .i64 x, .int .i64 r, .int .i64 3, .int .i64 0, .int .i64 0, .int .i64 0] := by
    simpa using Row.new (w.alloc o) E #[.int .i64 K, .int .i64 a, .int .i64 x, .int .i64 r, .int .i64 3, .int .i64 0, .int .i64 0, .int .i64 0]
  rw [Addr.add_lit, Nat.zero_add]
  exact (show Row _ _ E (ints (op8 K a x r)) from R).cell j |>.trans hu

/-- What the outer round leaves behind its append. -/
theorem FenAt.step {w wr wr2 W y4 : World} {p : List (List Opn)} {k : Nat} {fv yv ov : Value} {l : List Opn} {vs : List Value} (h : OwnP wr w.heap.size 38 40 fv vs (fenceP (p.take k))) (h2 : ∀ l ∈ p.take k, l.length ≤ 2) (hb : Below w.heap.size w wr)
    (hl : p[k]? = some l) (hl2 : l.length ≤ 2) (hi : InAt wr wr2 l l.length ov) (hW : Below wr2.heap.size wr2 W)
    (hs : y4.ownsRow w.heap.size 38 1 yv (vs.length + 1) (vs ++ [ov])) (hg : W.grownBy y4 fv.ownBlock) : FenAt w y4 p (k + 1) yv := by
  have hb2 : Below wr.heap.size wr W := hi.2.trans (hW.mono hi.2.size)
  have hb4 : Below w.heap.size w W := hb.trans (hb2.mono hb.size)
  refine ⟨vs ++ [ov], ?_, ?_, hb4.grown hg hb4.size (own_base h.own)⟩
  · rw [fenceP_more hl]
    refine (h.below hb2).push (by decide) ?_ hs hg
    have := hi.row hW
    rw [List.take_of_length_le (Nat.le_refl _)] at this
    rw [fenceL_len]
    exact own_rebase this hb.size
  · intro y hy
    rw [List.take_add_one, hl] at hy
    rcases List.mem_append.1 hy with hy | hy
    · exact h2 y hy
    · obtain rfl : y = l := by simpa using hy
      exact hl2

set_option maxRecDepth 100000 in
set_option maxHeartbeats 8000000 in
theorem fenced_main (buf : Int) (v : Value) (p : List (List Opn)) (w : World) (hp : Prg w v p) (hm : p.length ≤ 3) (hs : ∀ l ∈ p, l.length ≤ 4398046511104) (h3 : lenS p ≤ 3) :
    Calls Try.prog 6 #[v, .int .i64 buf] w fun e w' => e = .returned (.bool true) ∧ Below w.heap.size w w' := by
  obtain ⟨i0, a0, a1, a2, a3⟩ := info_parts ops_info
  obtain ⟨i1, b0, b1, b2, b3⟩ := info_parts op_info
  have CT := Lib.hid (count_sized v p w hp (by omega) hs)
  have HP := Lib.hid hp
  have H3 := Lib.hid h3
  obtain ⟨A, cc, rfl, hA⟩ := hp
  clear hA hs
  obtain ⟨m, hme⟩ : ∃ m, p.length = m := ⟨_, rfl⟩
  rw [hme] at hm HP CT ⊢
  have HM := Lib.hid hme
  clear hme
  go_enter Try.func6, Try.ntmps6
  go_wp2_with fail
  refine CT.out.mono ?_
  rintro e w' ⟨z, rfl, rfl, hz1, hz2⟩
  have hz3 : z ≤ 3 := by
    rcases Nat.lt_or_ge 100 z with h | h
    · have := hz2 h; omega
    · have := hz1 h; omega
  clear hz1 hz2 h3 CT
  go_wp2
  go_loopw [5, 26] (fun fv idx wr => ∃ k : Nat, k ≤ m ∧ idx = .int .i64 k ∧ Hid (FenAt w wr p k fv)) (fun _ idx _ => m - (intOf idx).toNat)
  case atStart => exact ⟨0, Nat.zero_le _, rfl, Lib.hid (FenAt.start w p)⟩
  case round =>
    obtain ⟨k, hk, rfl, HF⟩ := hrel
    obtain ⟨vs, hown, h2s, hbw⟩ := HF.out
    have hvl : vs.length ≤ 3 := by rw [hown.len]; simp [fenceP]; omega
    have HOWN := Lib.hid hown
    have H2S := Lib.hid h2s
    have HBW := Lib.hid hbw
    clear hown h2s hbw HF
    by_cases hlt : k < m
    · obtain ⟨wo, rfl⟩ : ∃ wo, wo = wr := ⟨_, rfl⟩
      obtain ⟨l, hl⟩ : ∃ l, p[k]? = some l := ⟨_, List.getElem?_eq_getElem (by rw [HM.out]; exact hlt)⟩
      obtain ⟨ad, cv, A', c', hv', q1, hrec⟩ := (HP.out.below HBW.out).at_ hl
      rw [HM.out] at hv'
      injection hv' with eA _ eC
      subst eA eC
      have hn3 : l.length ≤ 3 := Nat.le_trans (len_lenS (List.mem_of_getElem? hl)) H3.out
      have HL := Lib.hid hl
      obtain ⟨n, hn⟩ : ∃ n, l.length = n := ⟨_, rfl⟩
      rw [hn] at q1 hrec hn3
      have HN := Lib.hid hn
      have HREC := Lib.hid hrec
      clear hl hrec hn
      go_wp2
      go_loopw [8, 32] (fun ov idx wr => ∃ j : Nat, j ≤ n ∧ idx = .int .i64 j ∧ Hid (InAt wo wr l j ov)) (fun _ idx _ => n - (intOf idx).toNat)
      case atStart => exact ⟨0, Nat.zero_le _, rfl, Lib.hid (InAt.start wo l)⟩
      case round =>
        obtain ⟨j, hj, rfl, HI⟩ := hrel
        by_cases hjl : j < n
        · obtain ⟨ad2, c2, K, a, x, r, hzs, hv2, hzb, c0, c1, c2', c3⟩ := Recs.four HREC.out HI.out.2 (by rw [List.length_map, HN.out]; exact hjl)
          rw [List.length_map, HN.out] at hv2
          injection hv2 with f1 _ f3
          subst f1 f3
          have hoj : l[j]? = some ⟨K, a, x, r⟩ := by
            rw [List.getElem?_map, Option.map_eq_some_iff] at hzs
            obtain ⟨⟨oK, oa, ox, orr⟩, ho, e⟩ := hzs
            simp only [opL, List.cons.injEq, and_true] at e
            obtain ⟨rfl, rfl, rfl, rfl⟩ := e
            exact ho
          have HOJ := Lib.hid hoj
          have BW := Lib.hid (below_on (below_al wr (.cells #[.int .i64 K, .int .i64 a, .int .i64 x, .int .i64 r] 40)) (below_al (wr.alloc (.cells #[.int .i64 K, .int .i64 a, .int .i64 x, .int .i64 r] 40)) (.cells #[.int .i64 K, .int .i64 a, .int .i64 x, .int .i64 r, .int .i64 3, .int .i64 0, .int .i64 0, .int .i64 0] 40)))
          have OW := Lib.hid (HI.out.row BW.out)
          have HC := Lib.hid (new_eight wr 40 K a x r (.cells #[.int .i64 K, .int .i64 a, .int .i64 x, .int .i64 r] 40))
          have HBB := Lib.hid (Nat.le_trans HI.out.2.size BW.out.size)
          have i0' : (0 : Int) ≤ (j : Int) := by omega
          have i1' : (j : Int) < (n : Int) := by omega
          clear hzs hzb hoj
          go_wp2_with (at_builtin; go_must (refine appN_walk rfl (.tmp 36) (.tmp 39) 38 rfl wo.heap.size 40 i1 _ 4 32 Try.underlying38 b0 b1 b2 b3 rfl (by decide) u8 (2 * j) _ rfl OW.out ⟨wr.heap.size + 1, 0, none⟩ 2 2 (ints (op8 K a x r)) rfl rfl HC.out (ints_one _) (by unfold maxLen; omega) (by omega) HBB.out ?_; intro yv y4 s4 g4 l4; have S4 := Lib.hid s4; have G4 := Lib.hid g4; clear s4 g4 l4))
          go_roundw
          case rel => exact ⟨j + 1, by omega, by go_num, Lib.hid (HI.out.step HOJ.out BW.out S4.out G4.out)⟩
          case measure => simp [intOf]; omega
        · obtain rfl : j = n := by omega
          by_cases h2 : 2 < j
          · go_wp2_with (go_at_call 10; refine (alive_any _).mono ?_; rintro e w6 ⟨rfl, hb6⟩)
            go_ret
            exact ⟨rfl, below_on (below_on HBW.out HI.out.2) hb6⟩
          · obtain ⟨oA, oc, e8⟩ := own_shape HI.out.1
            subst e8
            have LB := Lib.hid (HOWN.out.below (HI.out.2.trans ((below_al wr (.cells #[.slice oA (2 * j) oc] 38)).mono HI.out.2.size)))
            have LF := Lib.hid (Lies.fresh wr (· = wr.heap.size) 38 [.slice oA (2 * j) oc] wr.heap.size rfl rfl 1)
            have ON : Hid (∀ u ∈ [Value.slice oA (2 * j) oc], u.oneCell' = true) := Lib.hid (by simp [Value.oneCell'])
            have HBB := Lib.hid (Nat.le_trans HBW.out.size (Nat.le_trans HI.out.2.size (below_al wr (.cells #[.slice oA (2 * j) oc] 38)).size))
            go_wp2_with (at_builtin; go_must (refine app_walk _ rfl (.tmp 46) (.tmp 48) 22 rfl w.heap.size 38 i0 _ 24 Try.underlying22 a0 a1 a2 a3 rfl u5 vs.length vs rfl LB.out.own (· = wr.heap.size) (some ⟨wr.heap.size, 0, none⟩) 1 1 [.slice oA (2 * j) oc] rfl LF.out (Nat.le_refl _) ON.out (by unfold maxLen; omega) (by omega) HBB.out ?_; intro yv y4 s4 g4 l4; have S4 := Lib.hid s4; have G4 := Lib.hid g4; clear s4 g4 l4))
            go_roundw
            case rel => exact ⟨k + 1, by omega, by go_num, Lib.hid (FenAt.step HOWN.out H2S.out HBW.out HL.out (by rw [HN.out]; omega) (by rw [HN.out]; exact HI.out) (below_al _ _) S4.out G4.out)⟩
            case measure => simp [intOf]; omega
    · obtain rfl : k = m := by omega
      have hk' : p.take k = p := List.take_of_length_le (by rw [HM.out]; exact Nat.le_refl _)
      rw [hk'] at HOWN H2S
      have PF := Lib.hid (HOWN.out.prg (fence_small (prg_small HP.out)))
      have FR := Lib.hid (fence_right (buf := buf) H2S.out H3.out)
      have hfl : (fenceP p).length ≤ 3 := by simp [fenceP, HM.out]; omega
      have HPW := Lib.hid (HP.out.below HBW.out)
      clear hk' hvl
      by_cases hR : RightS p buf
      · obtain ⟨N, rfl⟩ := Int.eq_ofNat_of_zero_le hR.b0
        have hF := FR.out.2 hR
        have O1 := Lib.hid (outcomes_yes N u5 (fenceP p) wr PF.out hF)
        have O2 : Hid (∀ W, Below wr.heap.size wr W → Calls Try.prog 13 #[.slice A k cc, .int .i64 0] W (OutcomesP p 0 W)) := Lib.hid (fun W hb => outcomes_yes 0 _ p W (HPW.out.below hb) (right_zero hR))
        have RT : Hid (∀ W, Below wr.heap.size wr W → Calls Try.prog 14 #[.slice A k cc, .int .i64 (N : Int)] W fun e w' => e = .returned (.bool true) ∧ Below W.heap.size W w') := Lib.hid (fun W hb => by
          have := right_any (N : Int) _ p W (HPW.out.below hb) (by rw [HM.out]; omega)
          rw [(rightB_iff p N).2 hR] at this
          exact this)
        have HR := Lib.hid hR
        have HF2 := Lib.hid hF
        clear hR hF FR PF
        go_wp2_with fail
        refine O1.out.mono ?_
        rintro e w1 ⟨lv, us, L, rfl, hl1, ho1, hb1, hmost1⟩
        obtain ⟨lA, lc, elv⟩ := own_shape hl1.own
        have B1 := Lib.hid hb1
        have L1 := Lib.hid hl1
        have Q1 := Lib.hid ho1
        have M1 := Lib.hid hmost1
        clear hl1 ho1 hb1 hmost1
        rw [elv] at L1 ⊢
        clear elv
        go_wp2_with fail
        refine (O2.out _ B1.out).mono ?_
        rintro e w2 ⟨mv, xs, M, rfl, hl2, ho2, hb2, hmost2⟩
        obtain ⟨mA, mc, emv⟩ := own_shape hl2.own
        have B2 := Lib.hid hb2
        have L2 := Lib.hid hl2
        have hLM : L = M := outs_fenced HR.out HF2.out Q1.out ho2
        subst hLM
        have SM := Lib.hid (Q1.out.small HF2.out)
        clear hl2 ho2 hb2 hmost2
        rw [emv] at L2 ⊢
        clear emv
        go_wp2_with fail
        refine (RT.out _ (below_on B1.out B2.out)).mono ?_
        rintro e w3 ⟨rfl, hb3⟩
        have L1' := Lib.hid ((L1.out.below B2.out).below hb3)
        have L2' := Lib.hid (L2.out.below hb3)
        have B3 := Lib.hid (below_on (below_on (below_on HBW.out B1.out) B2.out) hb3)
        clear hb3
        go_wp2_with fail
        refine (same_yes _ _ _ _ _ _ L w3 L1'.out L2'.out (fun l hl => by rw [SM.out l hl]; omega) (by have := M1.out; unfold most at this; omega)).mono ?_
        rintro e w4 ⟨rfl, hb4⟩
        have B4 := Lib.hid (below_on B3.out hb4)
        clear hb4
        go_wp2_with (go_at_call 10; refine (alive_any _).mono ?_; rintro e w6 ⟨rfl, hb6⟩)
        go_ret
        exact ⟨rfl, below_on B4.out hb6⟩
      · have hF : ¬ RightS (fenceP p) buf := fun h => hR (FR.out.1 h)
        have O1 := Lib.hid (outcomes_no buf u5 (fenceP p) wr PF.out (by omega) hF)
        have O2 : Hid (∀ W, Below wr.heap.size wr W → Calls Try.prog 13 #[.slice A k cc, .int .i64 0] W fun e w' => (∃ (a : Option Addr × Nat × Nat) (b : Int), e = .returned (.tuple #[.slice a.1 a.2.1 a.2.2, .int .i64 b])) ∧ Below W.heap.size W w') := Lib.hid (fun W hb => by
          by_cases h0 : RightS p ((0 : Nat) : Int)
          · refine (outcomes_yes 0 _ p W (HPW.out.below hb) h0).mono ?_
            rintro e w1 ⟨lv, us, L, rfl, hl1, ho1, hb1, hmost1⟩
            obtain ⟨lA, lc, rfl⟩ := own_shape hl1.own
            exact ⟨⟨⟨lA, _, lc⟩, 0, rfl⟩, hb1⟩
          · refine (outcomes_no 0 _ p W (HPW.out.below hb) (by rw [HM.out]; omega) h0).mono ?_
            rintro e w1 ⟨rfl, hb1⟩
            exact ⟨⟨⟨none, 0, 0⟩, 2, rfl⟩, hb1⟩)
        have RT : Hid (∀ W, Below wr.heap.size wr W → Calls Try.prog 14 #[.slice A k cc, .int .i64 buf] W fun e w' => e = .returned (.bool false) ∧ Below W.heap.size W w') := Lib.hid (fun W hb => by
          have := right_any buf _ p W (HPW.out.below hb) (by rw [HM.out]; omega)
          rw [show rightB p buf = false from by
            cases h : rightB p buf with
            | true => exact absurd ((rightB_iff p buf).1 h) hR
            | false => rfl] at this
          exact this)
        have RT2 : Hid (∀ W, Below wr.heap.size wr W → Calls Try.prog 14 #[u5, .int .i64 buf] W fun e w' => e = .returned (.bool false) ∧ Below W.heap.size W w') := Lib.hid (fun W hb => by
          have := right_any buf _ (fenceP p) W (PF.out.below hb) (by omega)
          rw [show rightB (fenceP p) buf = false from by
            cases h : rightB (fenceP p) buf with
            | true => exact absurd ((rightB_iff (fenceP p) buf).1 h) hF
            | false => rfl] at this
          exact this)
        clear hR hF FR PF
        go_wp2_with fail
        refine O1.out.mono ?_
        rintro e w1 ⟨rfl, hb1⟩
        have B1 := Lib.hid hb1
        clear hb1
        go_wp2_with fail
        refine (O2.out _ B1.out).mono ?_
        rintro e w2 ⟨⟨⟨lA, ln, lc⟩, b, rfl⟩, hb2⟩
        have B2 := Lib.hid (below_on B1.out hb2)
        clear hb2
        go_wp2_with fail
        refine (RT.out _ B2.out).mono ?_
        rintro e w3 ⟨rfl, hb3⟩
        have B3 := Lib.hid (below_on B2.out hb3)
        clear hb3
        go_wp2_with fail
        refine (RT2.out _ B3.out).mono ?_
        rintro e w4 ⟨rfl, hb4⟩
        have B4 := Lib.hid (below_on HBW.out (below_on B3.out hb4))
        clear hb4
        go_wp2_with (go_at_call 10; refine (alive_any _).mono ?_; rintro e w6 ⟨rfl, hb6⟩)
        go_ret
        exact ⟨rfl, below_on B4.out hb6⟩

set_option maxRecDepth 100000 in
set_option maxHeartbeats 1000000 in
theorem fenced_any (buf : Int) (v : Value) (p : List (List Opn)) (w : World) (hp : Prg w v p) (hs : ∀ l ∈ p, l.length ≤ 4398046511104) :
    Calls Try.prog 6 #[v, .int .i64 buf] w fun e w' => e = .returned (.bool true) ∧ Below w.heap.size w w' := by
  by_cases hm : p.length ≤ 3
  · by_cases h3 : lenS p ≤ 3
    · exact fenced_main buf v p w hp hm hs h3
    · have CT := Lib.hid (count_sized v p w hp (by omega) hs)
      obtain ⟨A, cc, rfl, hA⟩ := hp
      clear hA hs
      obtain ⟨m, hme⟩ : ∃ m, p.length = m := ⟨_, rfl⟩
      rw [hme] at hm CT ⊢
      clear hme
      go_enter Try.func6, Try.ntmps6
      go_wp2_with fail
      refine CT.out.mono ?_
      rintro e w' ⟨z, rfl, rfl, hz1, hz2⟩
      have hz3 : 3 < z := by
        rcases Nat.lt_or_ge 100 z with h | h
        · omega
        · have := hz1 h; omega
      clear hz1 hz2 h3 CT
      go_wp2_with (go_at_call 10; refine (alive_any _).mono ?_; rintro e w6 ⟨rfl, hb6⟩)
      go_ret
      exact ⟨rfl, hb6⟩
  · obtain ⟨A, cc, rfl, hA⟩ := hp
    clear hA hs
    obtain ⟨m, hme⟩ : ∃ m, p.length = m := ⟨_, rfl⟩
    rw [hme] at hm ⊢
    clear hme
    have t1 : decide (3 < m) = true := by simp; omega
    go_enter Try.func6, Try.ntmps6
    go_wp2_with (go_at_call 10; refine (alive_any _).mono ?_; rintro e w6 ⟨rfl, hb6⟩)
    go_ret
    exact ⟨rfl, hb6⟩

#print axioms fenced_any
end Go.Proofs.Ytodmngfddloahaa
