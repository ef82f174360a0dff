/-
  Layer 9 (mbox): join, split; the calls (closures) of Take and Ring.
  Conditions: those that each theorem states.
-/
import Derived.Test.YtfboikefjealfaaMb4
import Derived.Deep.RegionWith
namespace Go.Proofs.Ytfboikefjealfaa
open Go.ChangeShapes Go.WideShapes Go.ChangeAt Go.RowKit

set_option maxRecDepth 100000 in
set_option maxHeartbeats 400000 in
theorem join_any (p : Int × Int) (w : World) (h : 0 ≤ p.1 ∧ p.1 < 8 ∧ 0 ≤ p.2 ∧ p.2 ≤ 65535) :
    Calls Try.prog 38 #[.int .i64 p.1, .int .i64 p.2] w fun e w' => e = .returned (.int .i64 (jn p)) ∧ w = w' := by
  obtain ⟨a, b⟩ := p
  simp only at h
  have e1 : IntKind.i64.wrap (a * 65536) = a * 65536 := IntWalk.i64_in _ (by omega)
  have e2 : IntKind.i64.wrap (a * 65536 + b) = a * 65536 + b := IntWalk.i64_in _ (by omega)
  go_enter Try.func38, Try.ntmps38
  go_wp2
  go_ret
  exact ⟨rfl, rfl⟩

set_option maxRecDepth 100000 in
set_option maxHeartbeats 400000 in
theorem split_any (p : Int × Int) (w : World) (h : 0 ≤ p.1 ∧ p.1 < 8 ∧ 0 ≤ p.2 ∧ p.2 ≤ 65535) :
    Calls Try.prog 41 #[.int .i64 (jn p)] w fun e w' => e = .returned (.tuple #[.int .i64 p.1, .int .i64 p.2]) ∧ w = w' := by
  obtain ⟨e1, e2⟩ := jn_div h.1 ⟨h.2.2.1, h.2.2.2⟩
  have wd := Lib.hid (word_any (jn p))
  rw [e2] at wd
  obtain ⟨x, hx⟩ : ∃ x, jn p = x := ⟨_, rfl⟩
  rw [hx] at wd e1 ⊢
  have h1 : IntKind.i64.wrap p.1 = p.1 := IntWalk.i64_in _ (by omega)
  clear e2 hx
  go_enter Try.func41, Try.ntmps41
  go_wp2_with (go_at_call 36; refine (wd.out _).mono ?_; rintro e w' ⟨rfl, rfl⟩)
  go_ret2
  exact ⟨rfl, rfl⟩

/-- What a Take answers: the error, the sender, the word. -/
def tkE (q : List (Int × Int)) : Int := if q = [] then 6 else 0
def tkF (q : List (Int × Int)) : Int := (q.headD (0, 0)).1
def tkW (q : List (Int × Int)) : Int := (q.headD (0, 0)).2

set_option maxRecDepth 100000 in
set_option maxHeartbeats 1000000 in
theorem takeC (L : MLay) (ms : List Mail) (i : Nat) (m : Mail) (c1 c2 : Nat) (w : World) (r : BoxAt w L ms) (hm : ms[i]? = some m) (hc1 : Row w c1 3 [.int .i64 0]) (hc2 : Row w c2 3 [.int .i64 0]) (hn1 : ¬ L.fp ms.length c1) (hn2 : ¬ L.fp ms.length c2) (hne : c1 ≠ c2) :
    Calls Try.prog 39 #[.pointer (some ⟨L.mb, i * 2, none⟩), .pointer (some ⟨c1, 0, none⟩), .pointer (some ⟨c2, 0, none⟩)] w fun e w' => e = .returned (.int .i64 (tkE m.2)) ∧ BoxAt w' L (ms.set i (m.1, m.2.tail)) ∧ Row w' c1 3 [.int .i64 (tkF m.2)] ∧ Row w' c2 3 [.int .i64 (tkW m.2)] ∧ Only (fun b => L.fp ms.length b ∨ b = c1 ∨ b = c2) w w' := by
  have hi := lt_of_at hm
  have h1b : w.cell? ⟨L.mb, i * 2 + 1, none⟩ = some (.pointer (some ⟨L.gf i, 0, none⟩)) := by rw [r.row.cell]; exact (mc_at hm).2
  have tk := take_any (L.gf i) (L.hf i) 16 (jns m.2) w (r.q i m hm)
  have hok := r.ok i m hm
  obtain ⟨bs, q⟩ := m
  simp only at tk hok ⊢
  cases q with
  | nil =>
    have e0 : ms.set i (bs, ([] : List (Int × Int)).tail) = ms := set_same hm
    have TK := Lib.hid tk
    rw [e0]
    have R := Lib.hid r
    have HM := Lib.hid hm
    have C1 := Lib.hid hc1
    have C2 := Lib.hid hc2
    have N1 := Lib.hid hn1
    have N2 := Lib.hid hn2
    clear r hm hc1 hc2 hn1 hn2 tk hok e0
    simp only [jns, takeV, takeE, List.map_nil, List.headD_nil, List.tail_nil, if_true, ptr] at TK
    go_enter Try.func39, Try.ntmps39
    go_wp2_with (go_at_call 40; refine TK.out.mono ?_; rintro e w2 ⟨rfl, hq2, ho2⟩; have HQ2 := Lib.hid hq2; have HO2 := Lib.hid ho2; clear hq2 ho2)
    go_ret
    have b2 := R.out.putQ HM.out (q' := []) HQ2.out HO2.out (R.out.ok i _ HM.out)
    rw [set_same HM.out] at b2
    exact ⟨rfl, b2, C1.out.only HO2.out (fun h => N1.out (h.elim (fun e => e ▸ L.fp_gf hi) (fun e => e ▸ L.fp_hf hi))), C2.out.only HO2.out (fun h => N2.out (h.elim (fun e => e ▸ L.fp_gf hi) (fun e => e ▸ L.fp_hf hi))), HO2.out.mono (fun b _ h => .inl (h.elim (fun e => e ▸ L.fp_gf hi) (fun e => e ▸ L.fp_hf hi)))⟩
  | cons p t =>
    have hp := hok.low p List.mem_cons_self
    have sp := fun W => Lib.hid (split_any p W hp)
    have hok' : MailOk (bs, t) := ⟨hok.len, by have := hok.fit; simp at this ⊢; omega, fun x hx => hok.low x (List.mem_cons_of_mem _ hx)⟩
    have TK := Lib.hid tk
    have R := Lib.hid r
    have HM := Lib.hid hm
    have C1 := Lib.hid hc1
    have C2 := Lib.hid hc2
    have N1 := Lib.hid hn1
    have N2 := Lib.hid hn2
    have HK := Lib.hid hok'
    have e1 : jns (p :: t) = jn p :: jns t := rfl
    rw [e1] at TK
    have e2 : takeV (jn p :: jns t) = jn p := rfl
    have e3 : takeE (jn p :: jns t) = 0 := by simp [takeE]
    have e4 : (jn p :: jns t).tail = jns t := rfl
    rw [e2, e3, e4] at TK
    obtain ⟨x, hx⟩ : ∃ x, jn p = x := ⟨_, rfl⟩
    rw [hx] at TK sp
    unfold ptr at TK
    clear r hm hc1 hc2 hn1 hn2 tk hok hok' e1 e2 e3 e4 hx hp
    have f1 : tkF (p :: t) = p.1 := rfl
    have f2 : tkW (p :: t) = p.2 := rfl
    have f3 : tkE (p :: t) = 0 := by simp [tkE]
    rw [f1, f2, f3, List.tail_cons]
    clear f1 f2 f3
    obtain ⟨p1, p2⟩ := p
    simp only at sp ⊢
    go_enter Try.func39, Try.ntmps39
    go_wp2_with (first
      | (go_at_call 40; refine TK.out.mono ?_; rintro e w2 ⟨rfl, hq2, ho2⟩; have D1 := C1.out.only ho2 (fun h => N1.out (h.elim (fun e => e ▸ L.fp_gf hi) (fun e => e ▸ L.fp_hf hi))); have D2 := C2.out.only ho2 (fun h => N2.out (h.elim (fun e => e ▸ L.fp_gf hi) (fun e => e ▸ L.fp_hf hi))); have x1 := D1.cell 0; have x2 := D1.soft 0; have y1 := D2.cell 0; have y2 := D2.soft 0; simp only [List.getElem?_cons_zero] at x1 y1; have HD1 := Lib.hid D1; have HD2 := Lib.hid D2; have HQ2 := Lib.hid hq2; have HO2 := Lib.hid ho2; clear D1 D2 hq2 ho2)
      | (go_at_call 41; refine (sp _).out.mono ?_; rintro e w' ⟨rfl, rfl⟩))
    go_ret
    have b2 := R.out.putQ HM.out (q' := t) HQ2.out HO2.out HK.out
    have l0 : (ms.set i (bs, t)).length = ms.length := List.length_set
    refine ⟨rfl, (b2.setVar (by rw [l0]; exact N1.out) 0 _).setVar (by rw [l0]; exact N2.out) 0 _, (HD1.out.put 0 _).far (p := ⟨c2, 0, none⟩) hne _, (HD2.out.far (p := ⟨c1, 0, none⟩) (Ne.symm hne) _).put 0 _, ?_⟩
    exact ((HO2.out.mono (fun b _ h => .inl (h.elim (fun e => e ▸ L.fp_gf hi) (fun e => e ▸ L.fp_hf hi)))).setCell (p := ⟨c1, 0, none⟩) (.inl (.inr (.inl rfl))) _).setCell (p := ⟨c2, 0, none⟩) (.inl (.inr (.inr rfl))) _

#print axioms split_any
#print axioms takeC
end Go.Proofs.Ytfboikefjealfaa
