/-
  Layer 7 (litmus): same: equal lists of lists.
  Conditions: those that each theorem states.
-/
import Derived.Test.YtgljgpllooehkaaLit29
namespace Go.Proofs.Ytgljgpllooehkaa
open Go.ChangeShapes Go.WideShapes Go.ChangeAt Go.RowKit

set_option maxRecDepth 100000 in
set_option maxHeartbeats 1000000 in
theorem same_yes (base1 base2 : Nat) (v u : Value) (vs us : List Value) (Ls : List (List Int)) (w : World) (h1 : Lists w base1 v vs Ls) (h2 : Lists w base2 u us Ls) (hl : ∀ l ∈ Ls, l.length ≤ 65536) (hn : Ls.length ≤ 14000000000) :
    Calls Try.prog 15 #[v, u] w fun e w' => e = .returned (.bool true) ∧ Below w.heap.size w w' := by
  have H1 := Lib.hid h1
  have H2 := Lib.hid h2
  have HL := Lib.hid hl
  obtain ⟨A, c, rfl⟩ := own_shape h1.own
  obtain ⟨B, d, rfl⟩ := own_shape h2.own
  obtain ⟨n, hne⟩ : ∃ n, Ls.length = n := ⟨_, rfl⟩
  have N1 := Lib.hid (h1.len.trans hne)
  have N2 := Lib.hid (h2.len.trans hne)
  have HN := Lib.hid hne
  rw [N1.out] at H1
  rw [N2.out] at H2
  rw [N1.out, N2.out]
  rw [hne] at hn
  have t1 : ((n : Int) != (n : Int)) = false := by simp
  clear h1 h2 hl hne
  go_enter Try.func15, Try.ntmps15
  go_wp2
  go_loopw [13] (fun idx wr => ∃ k : Nat, k ≤ n ∧ idx = .int .i64 k ∧ Below w.heap.size w wr) (fun idx _ => n - (intOf idx).toNat)
  case atStart => exact ⟨0, Nat.zero_le _, rfl, Below.refl _ _⟩
  case round =>
    obtain ⟨k, hk, rfl, hb⟩ := hrel
    by_cases hlt : k < n
    · obtain ⟨x, hx⟩ : ∃ x, vs[k]? = some x := ⟨_, List.getElem?_eq_getElem (by rw [N1.out]; exact hlt)⟩
      obtain ⟨y, hy⟩ : ∃ y, us[k]? = some y := ⟨_, List.getElem?_eq_getElem (by rw [N2.out]; exact hlt)⟩
      obtain ⟨l, hlk⟩ : ∃ l, Ls[k]? = some l := ⟨_, List.getElem?_eq_getElem (by rw [HN.out]; exact hlt)⟩
      obtain ⟨g, c', hv, hgl, hcell⟩ := H1.out.at_ hx
      injection hv with e1 e2 e3
      subst e1
      obtain ⟨g', d', hv', hgl', hcell'⟩ := H2.out.at_ hy
      injection hv' with f1 f2 f3
      subst f1
      have c0 : wr.cell? ⟨g, k, none⟩ = some x := (hb.cell (p := ⟨g, k, none⟩) hgl).trans hcell
      have c1 : wr.cell? ⟨g', k, none⟩ = some y := (hb.cell (p := ⟨g', k, none⟩) hgl').trans hcell'
      have SM : Hid (∀ W, Below wr.heap.size wr W → Calls Try.prog 20 #[x, y] W fun e w' => e = .returned (.bool true) ∧ Below wr.heap.size wr w') := Lib.hid (fun W hbW =>
        (rsame_yes _ _ _ _ l W (((Lies.of_own (H1.out.each k x l hx hlk)).below hb).below hbW) (((Lies.of_own (H2.out.each k y l hy hlk)).below hb).below hbW) (HL.out l (List.mem_of_getElem? hlk))).mono fun e w' ⟨he, h'⟩ => ⟨he, below_on hbW h'⟩)
      have K1 : Hid (∀ W, Below wr.heap.size wr W → W.cell? ⟨g, k, none⟩ = some x ∧ W.cell? ⟨g', k, none⟩ = some y ∧ Below wr.heap.size wr W) := Lib.hid (fun W hbW => ⟨(hbW.cell (p := ⟨g, k, none⟩) (Nat.lt_of_lt_of_le hgl hb.size)).trans c0, (hbW.cell (p := ⟨g', k, none⟩) (Nat.lt_of_lt_of_le hgl' hb.size)).trans c1, hbW⟩)
      have BD : Hid (Below wr.heap.size wr wr.drew) := Lib.hid (Below.refl _ _).drew
      have HB := Lib.hid hb
      have i0 : (0 : Int) ≤ (k : Int) := by omega
      have i1 : (k : Int) < (n : Int) := by omega
      clear hx hy hlk hcell hcell' e2 e3 f2 f3 hgl hgl' hb
      go_wp2
      go_region_held3 (fun W => W.cell? ⟨g, k, none⟩ = some x ∧ W.cell? ⟨g', k, none⟩ = some y ∧ Below wr.heap.size wr W)
        (first | exact K1.out _ hb5 | exact K1.out _ BD.out | go_keep)
        (first
          | (go_at_call 20; refine (SM.out _ BD.out).mono ?_; rintro e w5 ⟨rfl, hb5⟩))
      all_goals go_wp2
      go_roundw
      case rel => exact ⟨k + 1, by omega, by go_num, below_on HB.out hb5⟩
      case measure => simp [intOf]; omega
    · have HB := Lib.hid hb
      clear hb
      go_wp2
      go_ret
      exact ⟨rfl, HB.out⟩

#print axioms same_yes
end Go.Proofs.Ytgljgpllooehkaa
