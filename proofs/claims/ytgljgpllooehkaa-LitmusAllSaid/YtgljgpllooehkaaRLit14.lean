/-
  Layer 7 (litmus): Plain: programs for the reference.
  Conditions: those that each theorem states.
-/
import Derived.Test.YtgljgpllooehkaaLit34
namespace Go.Proofs.Ytgljgpllooehkaa
open Go.ChangeShapes Go.WideShapes Go.ChangeAt Go.RowKit

theorem rop_info : (Try.prog.info? 48).map (fun i => (i.zero, i.size, i.bytes)) = some (some (.agg #[.int .i64 0, .int .i64 0, .int .i64 0, .int .i64 0]), 4, 32) := by kernel_rfl
theorem rops_info : (Try.prog.info? 47).map (fun i => (i.zero, i.size, i.bytes)) = some (some (.slice none 0 0), 1, 24) := by kernel_rfl

/-- The programs, as far as they are copied. -/
def PlAt (w wr : World) (p : List (List Opn)) (k : Nat) (fv : Value) : Prop :=
  ∃ vs, OwnP wr w.heap.size 47 48 fv vs (p.take k) ∧ Below w.heap.size w wr

/-- One list, as far as it is copied. -/
def PlIn (wr wr2 : World) (l : List Opn) (j : Nat) (ov : Value) : Prop :=
  wr2.ownsRow wr.heap.size 48 4 ov j (ints (opsL (l.take j))) ∧ Below wr.heap.size wr wr2

theorem PlAt.start (w : World) (p : List (List Opn)) : PlAt w w p 0 (.slice none 0 0) :=
  ⟨[], ⟨⟨rfl, .inl ⟨rfl, rfl⟩⟩, rfl, fun i u l hu _ => by simp at hu⟩, Below.refl _ _⟩

theorem PlIn.start (w : World) (l : List Opn) : PlIn w w l 0 (.slice none 0 0) := ⟨⟨rfl, .inl ⟨rfl, rfl⟩⟩, Below.refl _ _⟩

theorem PlIn.step {wr wr2 W y4 : World} {l : List Opn} {j : Nat} {ov yv : Value} {o : Opn} (h : PlIn wr wr2 l j ov) (ho : l[j]? = some o) (hW : Below wr2.heap.size wr2 W)
    (hs : y4.ownsRow wr.heap.size 48 4 yv (j + 1) (ints (opsL (l.take j)) ++ ints (opL o))) (hg : W.grownBy y4 ov.ownBlock) : PlIn wr y4 l (j + 1) yv := by
  have hb4 : Below wr.heap.size wr W := h.2.trans (hW.mono h.2.size)
  refine ⟨?_, hb4.grown hg hb4.size (own_base h.1)⟩
  rw [List.take_add_one, ho]
  show y4.ownsRow _ _ _ _ _ (ints (opsL (l.take j ++ [o])))
  rw [opsL_append, ints_append]
  have e : opsL [o] = opL o := by simp [opsL]
  rw [e]
  exact hs

theorem PlIn.row {wr wr2 W : World} {l : List Opn} {j : Nat} {ov : Value} (h : PlIn wr wr2 l j ov) (hW : Below wr2.heap.size wr2 W) : W.ownsRow wr.heap.size 48 4 ov j (ints (opsL (l.take j))) :=
  own_grown h.1 (gr_below hW none) (fun _ _ => by simp)

theorem new_four7 (w : World) (E : TypeId) (K a x r : Int) (o : Obj) : ∀ j u, (ints (opL ⟨K, a, x, r⟩))[j]? = some u → (((w.alloc o).alloc (.cells #[.int .i64 K, .int .i64 a, .int .i64 x, .int .i64 r] E)).cell? ((⟨w.heap.size + 1, 0, none⟩ : Addr).add j)) = some u := by
  intro j u hu
  have R : Row ((w.alloc o).alloc (.cells #[.int .i64 K, .int .i64 a, .int .i64 x, .int .i64 r] E)) (w.heap.size + 1) E [.int .i64 K, .int .i64 a, .int .i64 x, .int .i64 r] := by
    simpa using Row.new (w.alloc o) E #[.int .i64 K, .int .i64 a, .int .i64 x, .int .i64 r]
  rw [Addr.add_lit, Nat.zero_add]
  exact (show Row _ _ E (ints (opL ⟨K, a, x, r⟩)) from R).cell j |>.trans hu

theorem PlAt.step {w wr wr2 W y4 : World} {p : List (List Opn)} {k : Nat} {fv yv ov : Value} {l : List Opn} {vs : List Value} (h : OwnP wr w.heap.size 47 48 fv vs (p.take k)) (hb : Below w.heap.size w wr)
    (hl : p[k]? = some l) (hi : PlIn wr wr2 l l.length ov) (hW : Below wr2.heap.size wr2 W)
    (hs : y4.ownsRow w.heap.size 47 1 yv (vs.length + 1) (vs ++ [ov])) (hg : W.grownBy y4 fv.ownBlock) : PlAt w y4 p (k + 1) yv := by
  have hb2 : Below wr.heap.size wr W := hi.2.trans (hW.mono hi.2.size)
  have hb4 : Below w.heap.size w W := hb.trans (hb2.mono hb.size)
  refine ⟨vs ++ [ov], ?_, hb4.grown hg hb4.size (own_base h.own)⟩
  rw [List.take_add_one, hl]
  refine (h.below hb2).push (by decide) ?_ hs hg
  have := hi.row hW
  rw [List.take_of_length_le (Nat.le_refl _)] at this
  exact own_rebase this hb.size

/-- What Plain leaves. -/
def PlainP (p : List (List Opn)) (w : World) (e : Ending) (w' : World) : Prop := ∃ v, e = .returned v ∧ Prg w' v p ∧ Below w.heap.size w w'

set_option maxRecDepth 100000 in
set_option maxHeartbeats 8000000 in
theorem plain_any (v : Value) (p : List (List Opn)) (w : World) (hp : Prg w v p) (hm : p.length ≤ 50) (h3 : ∀ l ∈ p, l.length ≤ 100) :
    Calls Try.prog 11 #[v] w (PlainP p w) := by
  obtain ⟨i0, a0, a1, a2, a3⟩ := info_parts rops_info
  obtain ⟨i1, b0, b1, b2, b3⟩ := info_parts rop_info
  have HP := Lib.hid hp
  have H3 := Lib.hid h3
  obtain ⟨A, cc, rfl, hA⟩ := hp
  clear hA h3
  obtain ⟨m, hme⟩ : ∃ m, p.length = m := ⟨_, rfl⟩
  rw [hme] at hm HP ⊢
  have HM := Lib.hid hme
  clear hme
  go_enter Try.func11, Try.ntmps11
  go_wp2
  go_loopw [3, 11] (fun fv idx wr => ∃ k : Nat, k ≤ m ∧ idx = .int .i64 k ∧ Hid (PlAt w wr p k fv)) (fun _ idx _ => m - (intOf idx).toNat)
  case atStart => exact ⟨0, Nat.zero_le _, rfl, Lib.hid (PlAt.start w p)⟩
  case round =>
    obtain ⟨k, hk, rfl, HF⟩ := hrel
    obtain ⟨vs, hown, hbw⟩ := HF.out
    have hvl : vs.length ≤ 50 := by rw [hown.len]; simp; omega
    have HOWN := Lib.hid hown
    have HBW := Lib.hid hbw
    clear hown hbw HF
    by_cases hlt : k < m
    · obtain ⟨wo, rfl⟩ : ∃ wo, wo = wr := ⟨_, rfl⟩
      obtain ⟨l, hl⟩ : ∃ l, p[k]? = some l := ⟨_, List.getElem?_eq_getElem (by rw [HM.out]; exact hlt)⟩
      obtain ⟨ad, cv, A', c', hv', q1, hrec⟩ := (HP.out.below HBW.out).at_ hl
      rw [HM.out] at hv'
      injection hv' with eA _ eC
      subst eA eC
      have hn3 : l.length ≤ 100 := H3.out l (List.mem_of_getElem? hl)
      have HL := Lib.hid hl
      obtain ⟨n, hn⟩ : ∃ n, l.length = n := ⟨_, rfl⟩
      rw [hn] at q1 hrec hn3
      have HN := Lib.hid hn
      have HREC := Lib.hid hrec
      clear hl hrec hn
      go_wp2
      go_loopw [6, 17] (fun ov idx wr => ∃ j : Nat, j ≤ n ∧ idx = .int .i64 j ∧ Hid (PlIn wo wr l j ov)) (fun _ idx _ => n - (intOf idx).toNat)
      case atStart => exact ⟨0, Nat.zero_le _, rfl, Lib.hid (PlIn.start wo l)⟩
      case round =>
        obtain ⟨j, hj, rfl, HI⟩ := hrel
        by_cases hjl : j < n
        · obtain ⟨ad2, c2, K, a, x, r, hzs, hv2, hzb, c0, c1, c2', c3⟩ := Recs.four HREC.out HI.out.2 (by rw [List.length_map, HN.out]; exact hjl)
          rw [List.length_map, HN.out] at hv2
          injection hv2 with f1 _ f3
          subst f1 f3
          have hoj : l[j]? = some ⟨K, a, x, r⟩ := by
            rw [List.getElem?_map, Option.map_eq_some_iff] at hzs
            obtain ⟨⟨oK, oa, ox, orr⟩, ho, e⟩ := hzs
            simp only [opL, List.cons.injEq, and_true] at e
            obtain ⟨rfl, rfl, rfl, rfl⟩ := e
            exact ho
          have HOJ := Lib.hid hoj
          have BW := Lib.hid (below_on (below_al wr (.cells #[.int .i64 K, .int .i64 a, .int .i64 x, .int .i64 r] 40)) (below_al (wr.alloc (.cells #[.int .i64 K, .int .i64 a, .int .i64 x, .int .i64 r] 40)) (.cells #[.int .i64 K, .int .i64 a, .int .i64 x, .int .i64 r] 48)))
          have OW := Lib.hid (HI.out.row BW.out)
          have HC := Lib.hid (new_four7 wr 48 K a x r (.cells #[.int .i64 K, .int .i64 a, .int .i64 x, .int .i64 r] 40))
          have HBB := Lib.hid (Nat.le_trans HI.out.2.size BW.out.size)
          have i0' : (0 : Int) ≤ (j : Int) := by omega
          have i1' : (j : Int) < (n : Int) := by omega
          clear hzs hzb hoj
          go_wp2_with (at_builtin; go_must (refine appN_walk rfl (.tmp 21) (.tmp 31) 47 rfl wo.heap.size 48 i1 _ 4 32 Try.underlying47 b0 b1 b2 b3 rfl (by decide) u6 j _ rfl OW.out ⟨wr.heap.size + 1, 0, none⟩ 1 1 (ints (opL ⟨K, a, x, r⟩)) rfl rfl HC.out (ints_one _) (by unfold maxLen; omega) (by omega) HBB.out ?_; intro yv y4 s4 g4 l4; have S4 := Lib.hid s4; have G4 := Lib.hid g4; clear s4 g4 l4))
          go_roundw
          case rel => exact ⟨j + 1, by omega, by go_num, Lib.hid (HI.out.step HOJ.out BW.out S4.out G4.out)⟩
          case measure => simp [intOf]; omega
        · obtain rfl : j = n := by omega
          obtain ⟨oA, oc, e8⟩ := own_shape HI.out.1
          subst e8
          have LB := Lib.hid (HOWN.out.below (HI.out.2.trans ((below_al wr (.cells #[.slice oA j oc] 47)).mono HI.out.2.size)))
          have LF := Lib.hid (Lies.fresh wr (· = wr.heap.size) 47 [.slice oA j oc] wr.heap.size rfl rfl 1)
          have ON : Hid (∀ u ∈ [Value.slice oA j oc], u.oneCell' = true) := Lib.hid (by simp [Value.oneCell'])
          have HBB := Lib.hid (Nat.le_trans HBW.out.size (Nat.le_trans HI.out.2.size (below_al wr (.cells #[.slice oA j oc] 47)).size))
          go_wp2_with (at_builtin; go_must (refine app_walk _ rfl (.tmp 34) (.tmp 36) 25 rfl w.heap.size 47 i0 _ 24 Try.underlying25 a0 a1 a2 a3 rfl u3 vs.length vs rfl LB.out.own (· = wr.heap.size) (some ⟨wr.heap.size, 0, none⟩) 1 1 [.slice oA j oc] rfl LF.out (Nat.le_refl _) ON.out (by unfold maxLen; omega) (by omega) HBB.out ?_; intro yv y4 s4 g4 l4; have S4 := Lib.hid s4; have G4 := Lib.hid g4; clear s4 g4 l4))
          go_roundw
          case rel => exact ⟨k + 1, by omega, by go_num, Lib.hid (PlAt.step HOWN.out HBW.out HL.out (by rw [HN.out]; exact HI.out) (below_al _ _) S4.out G4.out)⟩
          case measure => simp [intOf]; omega
    · obtain rfl : k = m := by omega
      have hk' : p.take k = p := List.take_of_length_le (by rw [HM.out]; exact Nat.le_refl _)
      rw [hk'] at HOWN
      have PF := Lib.hid (HOWN.out.prg (prg_small HP.out))
      clear hk' hvl
      go_wp2
      go_ret
      exact ⟨_, rfl, PF.out, HBW.out⟩

#print axioms plain_any
end Go.Proofs.Ytgljgpllooehkaa
