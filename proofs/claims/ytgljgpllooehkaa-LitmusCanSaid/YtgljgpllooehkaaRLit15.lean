/-
  Layer 7 (litmus), the reference: Right.
  Conditions: those that each theorem states.
-/
import Derived.Test.YtgljgpllooehkaaRLit14
namespace Go.Proofs.Ytgljgpllooehkaa
open Go.ChangeShapes Go.WideShapes Go.ChangeAt Go.RowKit

theorem below_on' {a b c : World} (h : Below a.heap.size a b) (h' : Below b.heap.size b c) : Below a.heap.size a c := below_on h h'

theorem right_false {p : List (List Opn)} {buf : Int} (h : ¬ RightS p buf) : rightB p buf = false := by
  cases hb : rightB p buf with
  | true => exact absurd ((rightB_iff p buf).1 hb) h
  | false => rfl

theorem not_ok {o : Opn} (h : ¬ okOp o) : o.kind < 1 ∨ 1 ≤ o.kind ∧ 4 < o.kind ∨ 1 ≤ o.kind ∧ o.kind ≤ 4 ∧ o.addr < 0 ∨ 1 ≤ o.kind ∧ o.kind ≤ 4 ∧ 0 ≤ o.addr ∧ 3 < o.addr ∨ 1 ≤ o.kind ∧ o.kind ≤ 4 ∧ 0 ≤ o.addr ∧ o.addr ≤ 3 ∧ o.reg < 0 ∨ 1 ≤ o.kind ∧ o.kind ≤ 4 ∧ 0 ≤ o.addr ∧ o.addr ≤ 3 ∧ 0 ≤ o.reg ∧ 3 < o.reg ∨ 1 ≤ o.kind ∧ o.kind ≤ 4 ∧ 0 ≤ o.addr ∧ o.addr ≤ 3 ∧ 0 ≤ o.reg ∧ o.reg ≤ 3 ∧ o.word < 0 ∨ 1 ≤ o.kind ∧ o.kind ≤ 4 ∧ 0 ≤ o.addr ∧ o.addr ≤ 3 ∧ 0 ≤ o.reg ∧ o.reg ≤ 3 ∧ 0 ≤ o.word ∧ 9 < o.word := by
  unfold okOp at h; omega

set_option maxRecDepth 100000 in
set_option maxHeartbeats 8000000 in
theorem rright7_any (buf : Int) (v : Value) (p : List (List Opn)) (w : World) (hp : Prg w v p) (hm : p.length ≤ 50) (h3 : ∀ l ∈ p, l.length ≤ 100) :
    Calls Try.prog 12 #[v, .int .i64 buf] w fun e w' => e = .returned (.bool (rightB p buf)) ∧ Below w.heap.size w w' := by
  have HP := Lib.hid hp
  have H3 := Lib.hid h3
  obtain ⟨A, cc, rfl, hA⟩ := hp
  clear hA h3
  obtain ⟨m, hme⟩ : ∃ m, p.length = m := ⟨_, rfl⟩
  rw [hme] at hm HP ⊢
  have HM := Lib.hid hme
  by_cases hok : 1 ≤ m ∧ m ≤ 3 ∧ 0 ≤ buf ∧ buf ≤ 4
  · obtain ⟨m1, m3, bf0, bf4⟩ := hok
    have HBF := Lib.hid (And.intro bf0 bf4)
    clear hme
    go_enter Try.func12, Try.ntmps12
    go_wp2
    clear bf0 bf4
    go_loopw [5, 6] (fun nv iv wr => ∃ (i n : Nat), i ≤ m ∧ iv = .int .i64 i ∧ nv = .int .i64 (n : Int) ∧ n ≤ 4 * i ∧ Hid (lenS (p.take i) = n) ∧ Hid (∀ l ∈ p.take i, l.length ≤ 4 ∧ ∀ o ∈ l, okOp o) ∧ Hid (Below w.heap.size w wr)) (fun _ iv _ => m - (intOf iv).toNat)
    case atStart => exact ⟨0, 0, Nat.zero_le _, rfl, rfl, by omega, Lib.hid rfl, Lib.hid (fun l hl => by simp at hl), Lib.hid (Below.refl _ _)⟩
    case round =>
      obtain ⟨i, n, hi, rfl, rfl, hn, HL, HA, HB⟩ := hrel
      by_cases hlt : i < m
      · obtain ⟨wo, rfl⟩ : ∃ wo, wo = wr := ⟨_, rfl⟩
        obtain ⟨l, hl⟩ : ∃ l, p[i]? = some l := ⟨_, List.getElem?_eq_getElem (by rw [HM.out]; exact hlt)⟩
        obtain ⟨ad, cv, A', c', hv', q1, hrec⟩ := (HP.out.below HB.out).at_ hl
        rw [HM.out] at hv'
        injection hv' with eA _ eC
        subst eA eC
        have hn3 : l.length ≤ 100 := H3.out l (List.mem_of_getElem? hl)
        have hmem := List.mem_of_getElem? hl
        have hmore := lenS_more hl
        rw [HL.out] at hmore
        obtain ⟨b, hb⟩ : ∃ n, l.length = n := ⟨_, rfl⟩
        rw [hb] at q1 hrec hn3 hmore
        have HMEM := Lib.hid hmem
        have HPI := Lib.hid hl
        have HLB := Lib.hid hb
        have HREC := Lib.hid hrec
        have HMORE := Lib.hid hmore
        have i0 : (0 : Int) ≤ (i : Int) := by omega
        have i1 : (i : Int) < (m : Int) := by omega
        clear hl hmem hb hrec hmore
        by_cases h4 : 4 < b
        · have hno : ¬ RightS p buf := fun h => by have := (h.each l HMEM.out).1; rw [HLB.out] at this; omega
          have HNO := Lib.hid (right_false hno)
          clear hno
          go_wp2
          go_ret
          exact ⟨by rw [HNO.out]; rfl, HB.out⟩
        · have KQ := Lib.hid (fun W (hb : Below wo.heap.size wo W) => (hb.cell (World.block_lt_of_cell? wo _ q1)).trans q1)
          go_wp2
          go_loopw [7] (fun kv wr => ∃ k : Nat, k ≤ b ∧ kv = .int .i64 k ∧ Hid (∀ o ∈ l.take k, okOp o) ∧ Hid (Below wo.heap.size wo wr)) (fun kv _ => b - (intOf kv).toNat)
          case atStart => exact ⟨0, Nat.zero_le _, rfl, Lib.hid (fun o ho => by simp at ho), Lib.hid (Below.refl _ _)⟩
          case round =>
            obtain ⟨k, hk, rfl, HO, HW⟩ := hrel
            have q2 := KQ.out wr HW.out
            have k0 : (0 : Int) ≤ (k : Int) := by omega
            by_cases hkb : k < b
            · obtain ⟨ad2, c2, K, a, x, r, hzs, hv2, hzb, c0, c1, c2', c3⟩ := Recs.four HREC.out HW.out (by rw [List.length_map, HLB.out]; exact hkb)
              rw [List.length_map, HLB.out] at hv2
              injection hv2 with f1 _ f3
              subst f1 f3
              have hoj : l[k]? = some ⟨K, a, x, r⟩ := by
                rw [List.getElem?_map, Option.map_eq_some_iff] at hzs
                obtain ⟨⟨oK, oa, ox, orr⟩, ho, e⟩ := hzs
                simp only [opL, List.cons.injEq, and_true] at e
                obtain ⟨rfl, rfl, rfl, rfl⟩ := e
                exact ho
              have HOJ := Lib.hid hoj
              have k1 : (k : Int) < (b : Int) := by omega
              clear hzs hzb hoj
              by_cases hgood : okOp ⟨K, a, x, r⟩
              · have HG := Lib.hid hgood
                obtain ⟨g1, g2, g3, g4, g5, g6, g7, g8⟩ := hgood
                simp only at g1 g2 g3 g4 g5 g6 g7 g8
                go_wp2
                go_roundw
                case rel => exact ⟨k + 1, by omega, by go_num, Lib.hid (fun o ho => by
                  rw [List.take_add_one, HOJ.out] at ho
                  rcases List.mem_append.1 ho with ho | ho
                  · exact HO.out o ho
                  · obtain rfl : o = ⟨K, a, x, r⟩ := by simpa using ho
                    exact HG.out), Lib.hid (below_on' HW.out (below_al _ _))⟩
                case measure => simp [intOf]; omega
              · have hno : ¬ RightS p buf := fun h => hgood ((h.each l HMEM.out).2 _ (List.mem_of_getElem? HOJ.out))
                have HNO := Lib.hid (right_false hno)
                have hcase := not_ok hgood
                simp only at hcase
                clear hno hgood
                rcases hcase with g1 | ⟨g1, g2⟩ | ⟨g1, g2, g3⟩ | ⟨g1, g2, g3, g4⟩ | ⟨g1, g2, g3, g4, g5⟩ | ⟨g1, g2, g3, g4, g5, g6⟩ | ⟨g1, g2, g3, g4, g5, g6, g7⟩ | ⟨g1, g2, g3, g4, g5, g6, g7, g8⟩
                all_goals
                  go_wp2
                  go_ret
                  exact ⟨by rw [HNO.out]; rfl, below_on HB.out (below_on' HW.out (below_al _ _))⟩
            · obtain rfl : k = b := by omega
              have hall : ∀ o ∈ l, okOp o := by have := HO.out; rwa [List.take_of_length_le (by rw [HLB.out]; exact Nat.le_refl _)] at this
              have HALL := Lib.hid hall
              clear hall
              go_wp2
              go_roundw
              case rel => exact ⟨i + 1, n + k, by omega, by go_num, by go_num, by omega, HMORE, Lib.hid (fun y hy => by
                rw [List.take_add_one, HPI.out] at hy
                rcases List.mem_append.1 hy with hy | hy
                · exact HA.out y hy
                · obtain rfl : y = l := by simpa using hy
                  exact ⟨by rw [HLB.out]; omega, HALL.out⟩), Lib.hid (below_on HB.out HW.out)⟩
              case measure => simp [intOf]; omega
      · obtain rfl : i = m := by omega
        have hk' : p.take i = p := List.take_of_length_le (by rw [HM.out]; exact Nat.le_refl _)
        rw [hk'] at HL HA
        have hres : rightB p buf = decide ((n : Int) ≤ 6) := by
          by_cases h6 : n ≤ 6
          · rw [(rightB_iff p buf).2 ⟨by rw [HM.out]; exact m1, by rw [HM.out]; exact m3, HBF.out.1, HBF.out.2, HA.out, by show lenS p ≤ 6; rw [HL.out]; exact h6⟩]
            exact (decide_eq_true (by omega)).symm
          · rw [right_false (fun h => h6 (by have h7 : lenS p ≤ 6 := h.all; rw [HL.out] at h7; exact h7))]
            exact (decide_eq_false (by omega)).symm
        have HRES := Lib.hid hres
        clear hres hk'
        go_wp2
        go_ret
        exact ⟨by rw [HRES.out]; rfl, HB.out⟩
  · have hno : ¬ RightS p buf := fun h => hok ⟨by have := h.lo; omega, by have := h.hi; omega, h.b0, h.b4⟩
    have HNO := Lib.hid (right_false hno)
    have hcase : m < 1 ∨ 1 ≤ m ∧ 3 < m ∨ 1 ≤ m ∧ m ≤ 3 ∧ buf < 0 ∨ 1 ≤ m ∧ m ≤ 3 ∧ 0 ≤ buf ∧ 4 < buf := by omega
    clear hno hok hme
    rcases hcase with g1 | ⟨g1, g2⟩ | ⟨g1, g2, g3⟩ | ⟨g1, g2, g3, g4⟩
    all_goals
      go_enter Try.func12, Try.ntmps12
      go_wp2
      go_ret
      exact ⟨by rw [HNO.out]; rfl, Below.refl _ _⟩

#print axioms rright7_any
end Go.Proofs.Ytgljgpllooehkaa
