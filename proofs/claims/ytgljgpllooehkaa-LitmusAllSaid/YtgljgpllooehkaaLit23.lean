/-
  Layer 7 (litmus): count, among; LitmusGrows over programs in memory.
  Conditions: those that each theorem states.
-/
import Derived.Test.YtgljgpllooehkaaLit22
import Derived.Test.YtgljgpllooehkaaSame
namespace Go.Proofs.Ytgljgpllooehkaa
open Go.ChangeShapes Go.WideShapes Go.ChangeAt Go.RowKit

/-- What count answers: some integer. -/
def SomeI (w : World) (e : Ending) (w' : World) : Prop := ∃ z : Int, e = .returned (.int .i64 z) ∧ w = w'

set_option maxRecDepth 100000 in
set_option maxHeartbeats 1000000 in
theorem count_any (v : Value) (p : List (List Opn)) (w : World) (hp : Prg w v p) (hm : p.length ≤ 1000) : Calls Try.prog 9 #[v] w (SomeI w) := by
  have HP := Lib.hid hp
  obtain ⟨A, cc, rfl, hA⟩ := hp
  clear hA
  obtain ⟨m, hme⟩ : ∃ m, p.length = m := ⟨_, rfl⟩
  rw [hme] at hm HP ⊢
  have HM := Lib.hid hme
  clear hme
  go_enter Try.func9, Try.ntmps9
  go_wp2
  go_loop [3, 8] (fun n idx => ∃ (k : Nat) (z : Int), k ≤ m ∧ idx = .int .i64 k ∧ n = .int .i64 z) (fun _ idx => m - (intOf idx).toNat)
  case atStart => exact ⟨0, 0, Nat.zero_le _, rfl, rfl⟩
  case round =>
    obtain ⟨k, z, hk, rfl, rfl⟩ := hrel
    by_cases hlt : k < m
    · obtain ⟨l, hl⟩ : ∃ l, p[k]? = some l := ⟨_, List.getElem?_eq_getElem (by rw [HM.out]; exact hlt)⟩
      obtain ⟨ad, cv, A', c', hv', q1, hrec⟩ := HP.out.at_ hl
      rw [HM.out] at hv'
      injection hv' with eA _ eC
      subst eA eC
      clear hl hrec
      obtain ⟨n, hn⟩ : ∃ n, l.length = n := ⟨_, rfl⟩
      rw [hn] at q1
      clear hn
      by_cases h100 : 100 < wrap64 (z + (n : Int))
      · have t1 : decide (100 < wrap64 (z + (n : Int))) = true := by simpa using h100
        go_wp2
        go_ret
        exact ⟨_, rfl, rfl⟩
      · have t1 : decide (100 < wrap64 (z + (n : Int))) = false := by simpa using h100
        go_wp2
        go_round
        case rel => exact ⟨k + 1, _, by omega, by go_num, rfl⟩
        case measure => simp [intOf]; omega
    · go_wp2
      go_ret
      exact ⟨_, rfl, rfl⟩

set_option maxRecDepth 100000 in
set_option maxHeartbeats 1000000 in
theorem among_any (base : Nat) (P : Nat → Prop) (v : Value) (vs : List Value) (Ls : List (List Int)) (tv : Value) (x : List Int) (w : World) (h : Lists w base v vs Ls) (hl : ∀ l ∈ Ls, l.length ≤ 65536) (hn : vs.length ≤ 14000000000) (hx : Lies w P tv (ints x)) (hxl : x.length ≤ 65536) :
    Calls Try.prog 19 #[v, tv] w fun e w' => e = .returned (.bool (decide (x ∈ Ls))) ∧ Below w.heap.size w w' := by
  have H := Lib.hid h
  obtain ⟨A, c, rfl⟩ := own_shape h.own
  obtain ⟨n, hne⟩ : ∃ n, vs.length = n := ⟨_, rfl⟩
  rw [hne] at H hn ⊢
  have HN := Lib.hid hne
  have HL := Lib.hid hl
  have HX := Lib.hid hx
  obtain ⟨r, hre⟩ : ∃ r, decide (x ∈ Ls) = r := ⟨_, rfl⟩
  have HRE := Lib.hid hre
  rw [hre]
  obtain ⟨tA, tc, rfl, hT⟩ := hx
  clear hT h hl hne hre
  go_enter Try.func19, Try.ntmps19
  go_wp2
  go_loopw [9] (fun idx wr => ∃ k : Nat, k ≤ n ∧ idx = .int .i64 k ∧ Hid (x ∉ Ls.take k) ∧ Below w.heap.size w wr) (fun idx _ => n - (intOf idx).toNat)
  case atStart => exact ⟨0, Nat.zero_le _, rfl, Lib.hid (by simp), Below.refl _ _⟩
  case round =>
    obtain ⟨k, hk, rfl, HK, hb⟩ := hrel
    by_cases hlt : k < n
    · obtain ⟨u, hu⟩ : ∃ u, vs[k]? = some u := ⟨_, List.getElem?_eq_getElem (by rw [HN.out]; exact hlt)⟩
      obtain ⟨l, hlk⟩ : ∃ l, Ls[k]? = some l := ⟨_, List.getElem?_eq_getElem (by rw [← H.out.len, HN.out]; exact hlt)⟩
      obtain ⟨g, c', hv, hgl, hcell⟩ := H.out.at_ hu
      injection hv with e1 e2 e3
      subst e1
      have d0 : wr.cell? ⟨g, k, none⟩ = some u := (hb.cell (p := ⟨g, k, none⟩) hgl).trans hcell
      have sm := rsame_any P _ _ u x l wr (HX.out.below hb) ((Lies.of_own (H.out.each k u l hu hlk)).below hb) hxl (HL.out l (List.mem_of_getElem? hlk))
      obtain ⟨uA, uc, eu⟩ := own_shape (H.out.each k u l hu hlk)
      have HB := Lib.hid hb
      have HLK := Lib.hid hlk
      rw [eu] at d0 sm
      by_cases hxy : x = l
      · have hm : r = true := by rw [← HRE.out]; simp; rw [hxy]; exact List.mem_of_getElem? hlk
        rw [decide_eq_true hxy] at sm
        have SM := Lib.hid sm
        subst hm
        clear hu hlk hcell e2 e3 hgl hb sm hxy eu
        go_wp2_with (go_at_call 20; refine SM.out.mono ?_; rintro e w1 ⟨rfl, hb1⟩)
        go_ret
        exact ⟨rfl, HB.out.trans (hb1.mono HB.out.size)⟩
      · rw [decide_eq_false hxy] at sm
        have SM := Lib.hid sm
        have NX := Lib.hid hxy
        clear hu hlk hcell e2 e3 hgl hb sm hxy eu
        go_wp2_with (go_at_call 20; refine SM.out.mono ?_; rintro e w1 ⟨rfl, hb1⟩)
        go_roundw
        case rel =>
          refine ⟨k + 1, by omega, by go_num, Lib.hid (fun hm => ?_), HB.out.trans (hb1.mono HB.out.size)⟩
          rcases take_succ_mem HLK.out hm with hm | hm
          · exact HK.out hm
          · exact NX.out hm
        case measure => simp [intOf]; omega
    · have hr : r = false := by
        rw [← HRE.out]
        have := HK.out
        rw [List.take_of_length_le (by rw [← H.out.len, HN.out]; omega)] at this
        simpa using this
      subst hr
      go_wp2
      go_ret
      exact ⟨rfl, hb⟩

#print axioms count_any
#print axioms among_any
end Go.Proofs.Ytgljgpllooehkaa
