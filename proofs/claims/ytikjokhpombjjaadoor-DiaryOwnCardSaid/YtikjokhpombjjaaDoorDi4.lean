/-
  Layer 19 (diary): choose, the calls of a channel's sender.
  Conditions: those that each theorem states.
-/
import Derived.Test.YtikjokhpombjjaaDoorDi3
namespace Go.Proofs.YtikjokhpombjjaaDoor
open Go.ChangeShapes Go.WideShapes Go.ChangeAt Go.RowKit

set_option maxRecDepth 100000 in
set_option maxHeartbeats 4000000 in
theorem choose_sent (f t : Int) (v : Value) (l : List En) (z y : Nat) (w : World) (hv : Ens w v l) (hm : l.length ≤ 1000) (hload : ∀ x ∈ l, x.load.length ≤ 100) (hz : w.cell? ⟨z, 0, none⟩ = some (.int .i64 f)) (hy : w.cell? ⟨y, 0, none⟩ = some (.int .i64 t)) :
    Calls Tryd.prog 20 #[v, .func (.func 21) #[] #[.pointer (some ⟨z, 0, none⟩), .pointer (some ⟨y, 0, none⟩)]] w (ChP (l.filter (sentB f t)) w) := by
  obtain ⟨i0, hi0, hz0, hz1, hz2⟩ := info_parts entry_info
  obtain ⟨A, n, c, rfl, HN, HV⟩ := hv.open_
  rw [HN.out] at hm
  have hzl := World.block_lt_of_cell? w _ hz
  have hyl := World.block_lt_of_cell? w _ hy
  have HL := Lib.hid hload
  clear hv hload
  go_enter Tryd.func20, Tryd.ntmps20
  go_wp2
  go_loopw [5, 10] (fun lv iv wr => ∃ (k m : Nat) (B : Option Addr) (d : Nat) (L : List (En × Value)), k ≤ n ∧ m ≤ k ∧ iv = .int .i64 k ∧ lv = .slice B m d ∧ Hid (L.map (·.1) = (l.take k).filter (sentB f t)) ∧ Hid (L.length = m) ∧ Hid (OwnC wr w.heap.size 38 (.slice B m d) L) ∧ Hid (Below w.heap.size w wr)) (fun _ iv _ => n + 1 - (intOf iv).toNat)
  case atStart => exact ⟨0, 0, none, 0, [], Nat.zero_le _, Nat.le_refl _, rfl, rfl, Lib.hid rfl, Lib.hid rfl, Lib.hid ⟨World.ownsRow_nil _ _ _ _, fun p hp => by cases hp⟩, Lib.hid (Below.refl _ _)⟩
  case round =>
    obtain ⟨k, m, B, d, L, hk, hmk, rfl, rfl, HM, HLN, HO, HB⟩ := hrel
    have hz' := (HB.out.cell (p := ⟨z, 0, none⟩) hzl).trans hz
    have hy' := (HB.out.cell (p := ⟨y, 0, none⟩) hyl).trans hy
    have hzr := World.block_lt_of_cell? wr _ hz'
    have hyr := World.block_lt_of_cell? wr _ hy'
    by_cases hlt : k < n
    · obtain ⟨x, hx⟩ : ∃ x, l[k]? = some x := ⟨_, List.getElem?_eq_getElem (by rw [HN.out]; exact hlt)⟩
      obtain ⟨g, o, u, rfl, hg, hl, c0, c1, c2, c3, c4, c5, c6, c7⟩ := (HV.out.below HB.out).cells hx
      have hlx := HL.out x (List.mem_of_getElem? hx)
      have hone := ld_one hl
      have hkn : (k : Int) < (n : Int) := by omega
      have HX := Lib.hid hx
      have HU := Lib.hid hl
      have SZ := Lib.hid (entry_size x u)
      have hsz := HB.out.size
      clear hl hx
      obtain ⟨b, hb⟩ : ∃ b, sentB f t x = b := ⟨_, rfl⟩
      have HS := Lib.hid hb
      clear hb
      cases b with
      | true =>
        go_wp2_with (first
          | ((with_reducible refine alloc_walk (o := ⟨some 7, _, _, _, _, _⟩) rfl 38 rfl _ entry_zero ?_); go_must (intro w2 r2 b2 z2; have Q2 := Lib.hid r2; have B2 := Lib.hid b2; have Z2 := Lib.hid z2; clear r2 b2 z2))
          | ((with_reducible refine storeRow_walk rfl 38 (.tmp 7) (.tmp 13) rfl wr.heap.size rfl (row19 x u) rfl SZ.out 38 _ Q2.out rfl (row19_one hone) ?_); intro w3 r3 o3 z3; have Q3 := Lib.hid r3; have B3 := Lib.hid (Only.below B2.out o3 (by rw [Z2.out]; omega) (fun g hg e => by omega)); have Z3 := Lib.hid z3; have O3 := Lib.hid (HO.out.below B3.out); clear r3 o3 z3)
          | ((with_reducible refine loadRow_walk (o := ⟨some 15, _, _, _, _, _⟩) rfl 38 (.tmp 7) rfl wr.heap.size rfl (row19 x u) entry_struct SZ.out 38 Q3.out ?_))
          | (go_at_call 21; refine (sentC_any x u f t z y w3 ((B3.out.cell (p := ⟨z, 0, none⟩) hzr).trans hz') ((B3.out.cell (p := ⟨y, 0, none⟩) hyr).trans hy')).mono ?_; rintro e w4 ⟨rfl, b4⟩; rw [HS.out]; have Q4 := Lib.hid (Q3.out.below b4); have B4 := Lib.hid (below_on B3.out b4); have O4 := Lib.hid (O3.out.below b4); have q6 := Q4.out.cell 6; have s6 := Q4.out.soft 6; simp only [row19, List.getElem?_cons_zero, List.getElem?_cons_succ] at q6; clear b4)
          | (go_at_call 32; refine (clone19_any x.load u w4 ((HU.out.below B4.out).1) HU.out.2 (by omega)).mono ?_; rintro e w5 ⟨u5', rfl, o5, b5⟩; obtain ⟨A5, c5, rfl⟩ := own19_open o5; have Q5 := Lib.hid (Q4.out.below b5); have B5 := Lib.hid (below_on B4.out b5); have O5 := Lib.hid (O4.out.below b5); have P5 := Lib.hid o5; have s6' := Q5.out.soft 6; have q6' := Q5.out.cell 6; simp only [row19, List.getElem?_cons_zero, List.getElem?_cons_succ] at q6'; have Q6 : Hid (Row (w5.setCell ⟨wr.heap.size, 6, none⟩ (.slice A5 x.load.length c5)) wr.heap.size 38 (row19 x (.slice A5 x.load.length c5))) := Lib.hid (Q5.out.put 6 _); clear o5 b5)
          | ((with_reducible refine loadRow_walk (o := ⟨some 22, _, _, _, _, _⟩) rfl 38 (.tmp 7) rfl wr.heap.size rfl (row19 x (.slice A5 x.load.length c5)) entry_struct (entry_size x (.slice A5 x.load.length c5)) 38 Q6.out ?_); have W6 : Hid (Only (· = wr.heap.size) w5 (w5.setCell ⟨wr.heap.size, 6, none⟩ (.slice A5 x.load.length c5))) := Lib.hid ((Only.refl (· = wr.heap.size) w5).setCell (p := ⟨wr.heap.size, 6, none⟩) (.inl rfl) _); have O6 := Lib.hid (O5.out.only W6.out (fun k' h e => by have := (HO.out.1.lt k' h).2; omega) (fun p hp k' h e => by have := ((HO.out.2 p hp).lt k' h).2; omega)); have P6 : Hid (Cp (w5.setCell ⟨wr.heap.size, 6, none⟩ (.slice A5 x.load.length c5)) w.heap.size (x, (.slice A5 x.load.length c5))) := Lib.hid (own19_only (own19_weak P5.out (by have := B4.out.size; omega)) W6.out (fun k' h e => by have := (P5.out.lt k' h).1; have := B4.out.size; have := Z2.out; have := Z3.out; have := (Q4.out.lt); omega)); have B6 := Lib.hid (Only.below B5.out W6.out (B5.out.size) (fun g hg e => by omega)); have hs6 := B5.out.size; have hL8 : (row19 x (.slice A5 x.load.length c5)).length = 8 := rfl)
          | (at_builtin; go_must ((refine app19_walk rfl (.tmp 21) (.tmp 23) 22 rfl w.heap.size 38 i0 _ 8 80 Tryd.underlying22 hi0 hz0 hz1 hz2 rfl (by omega) (.slice B m d) m (enF L) rfl (by have := own19_below O6.out.1 (below_al _ (.cells (row19 x (.slice A5 x.load.length c5)).toArray 38)); rw [HLN.out] at this; exact this) ⟨_, 0, none⟩ 1 1 (row19 x (.slice A5 x.load.length c5)) rfl rfl (cells_new19 _ _ _ _ (by simp)) (row19_one rfl) (by unfold maxLen; omega) (by omega) (by simp; omega) ?_); intro v7 w7 hown7 hg7 hat7; obtain ⟨g', cap', rfl, hbg, hlt'⟩ := hown7.form (by omega); have O7 := Lib.hid ((O6.out.below (below_al _ _)).more (P6.out.below (below_al _ _)) HLN.out hg7 hown7); have B7 : Hid (Below w.heap.size w w7) := Lib.hid (below_own (below_on (below_on HB.out B6.out) (below_al _ _)) (by simp; omega) (O6.out.below (below_al _ _)).1 hg7); clear hown7 hg7 hat7)))
        have F7 := Lib.hid (filter_yes HX.out HS.out)
        clear hz' hy'
        go_roundw
        case rel => exact ⟨k + 1, m + 1, some ⟨g', 0, none⟩, cap', L ++ [(x, (.slice A5 x.load.length c5))], by omega, by omega, by go_num, rfl, Lib.hid (by rw [List.map_append, HM.out, F7.out]; rfl), Lib.hid (by rw [List.length_append, HLN.out]; rfl), O7, B7⟩
        case measure => simp [intOf]; omega
      | false =>
        go_wp2_with (first
          | ((with_reducible refine alloc_walk (o := ⟨some 7, _, _, _, _, _⟩) rfl 38 rfl _ entry_zero ?_); go_must (intro w2 r2 b2 z2; have Q2 := Lib.hid r2; have B2 := Lib.hid b2; have Z2 := Lib.hid z2; clear r2 b2 z2))
          | ((with_reducible refine storeRow_walk rfl 38 (.tmp 7) (.tmp 13) rfl wr.heap.size rfl (row19 x u) rfl SZ.out 38 _ Q2.out rfl (row19_one hone) ?_); intro w3 r3 o3 z3; have Q3 := Lib.hid r3; have B3 := Lib.hid (Only.below B2.out o3 (by rw [Z2.out]; omega) (fun g hg e => by omega)); have Z3 := Lib.hid z3; have O3 := Lib.hid (HO.out.below B3.out); clear r3 o3 z3)
          | ((with_reducible refine loadRow_walk (o := ⟨some 15, _, _, _, _, _⟩) rfl 38 (.tmp 7) rfl wr.heap.size rfl (row19 x u) entry_struct SZ.out 38 Q3.out ?_))
          | (go_at_call 21; refine (sentC_any x u f t z y w3 ((B3.out.cell (p := ⟨z, 0, none⟩) hzr).trans hz') ((B3.out.cell (p := ⟨y, 0, none⟩) hyr).trans hy')).mono ?_; rintro e w4 ⟨rfl, b4⟩; rw [HS.out]; have B4 := Lib.hid (below_on B3.out b4); have O4 := Lib.hid (O3.out.below b4); clear b4))
        have F7 := Lib.hid (filter_no HX.out HS.out)
        have B7 := Lib.hid (below_on HB.out B4.out)
        clear hz' hy'
        go_roundw
        case rel => exact ⟨k + 1, m, B, d, L, by omega, by omega, by go_num, rfl, Lib.hid (by rw [HM.out, F7.out]), HLN, O4, B7⟩
        case measure => simp [intOf]; omega
    · obtain rfl : n = k := by omega
      go_wp2
      go_ret
      have e1 : l.take n = l := by rw [← HN.out, List.take_length]
      exact ⟨_, L, rfl, by rw [HM.out, e1], HO.out, HB.out⟩

#print axioms choose_sent
end Go.Proofs.YtikjokhpombjjaaDoor
