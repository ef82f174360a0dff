/-
  Layer 7 (litmus): Outcomes.
  Conditions: those that each theorem states.
-/
import Derived.Test.YtgljgpllooehkaaLit17
namespace Go.Proofs.Ytgljgpllooehkaa
open Go.ChangeShapes Go.WideShapes Go.ChangeAt Go.RowKit

theorem list_info : (Try.prog.info? 35).map (fun i => (i.zero, i.size, i.bytes)) = some (some (.slice none 0 0), 1, 24) := by kernel_rfl

theorem own_one {w : World} {base n : Nat} {e : TypeId} {size : Nat} {v : Value} {xs : List Value} (h : w.ownsRow base e size v n xs) : v.oneCell' = true := by
  rcases h.2 with ⟨rfl, _⟩ | ⟨_, _, _, rfl, _⟩ <;> rfl

theorem own_shape {w : World} {base n : Nat} {e : TypeId} {size : Nat} {v : Value} {xs : List Value} (h : w.ownsRow base e size v n xs) : ∃ A c, v = .slice A n c := by
  rcases h.2 with ⟨rfl, rfl⟩ | ⟨_, _, _, rfl, _⟩
  · exact ⟨none, 0, rfl⟩
  · exact ⟨_, _, rfl⟩

/-- One list more. -/
theorem Lists.push {w w' : World} {base : Nat} {v v' u : Value} {vs : List Value} {Ls : List (List Int)} {l : List Int} (h : Lists w base v vs Ls) (hu : w.ownsRow base 3 1 u l.length (ints l)) (hs : w'.ownsRow base 35 1 v' (vs.length + 1) (vs ++ [u])) (hg : w.grownBy w' v.ownBlock) : Lists w' base v' (vs ++ [u]) (Ls ++ [l]) where
  own := by rw [List.length_append, List.length_singleton]; exact hs
  len := by simp [h.len]
  each i x y hx hy := by
    have keep : ∀ {x : Value} {y : List Int}, w.ownsRow base 3 1 x y.length (ints y) → w'.ownsRow base 3 1 x y.length (ints y) := fun hr =>
      own_grown hr hg (fun k hk e => own_types hr h.own (by decide) k hk e)
    by_cases hi : i < vs.length
    · rw [List.getElem?_append_left hi] at hx
      rw [List.getElem?_append_left (by rw [← h.len]; exact hi)] at hy
      exact keep (h.each i x y hx hy)
    · rw [List.getElem?_append_right (by omega)] at hx
      rw [List.getElem?_append_right (by rw [← h.len]; omega), ← h.len] at hy
      have : i - vs.length = 0 := by
        cases hd : i - vs.length with
        | zero => rfl
        | succ n => rw [hd] at hx; simp at hx
      rw [this] at hx hy
      simp at hx hy
      subst hx hy
      exact keep hu

/-- What Outcomes leaves. -/
def OutcomesP (p : List (List Opn)) (N : Nat) (w : World) (e : Ending) (w' : World) : Prop :=
  ∃ v vs L, e = .returned (.tuple #[v, .int .i64 0]) ∧ Lists w' w.heap.size v vs L ∧ Outs p N L ∧ Below w.heap.size w w' ∧ L.length ≤ most

set_option maxRecDepth 100000 in
set_option maxHeartbeats 1000000 in
theorem outcomes_no (buf : Int) (v : Value) (p : List (List Opn)) (w : World) (hp : Prg w v p) (hm : p.length ≤ 1000000) (hR : ¬ RightS p buf) :
    Calls Try.prog 13 #[v, .int .i64 buf] w fun e w' => e = .returned (.tuple #[.slice none 0 0, .int .i64 2]) ∧ Below w.heap.size w w' := by
  have rt := right_any buf v p w hp hm
  have hb : rightB p buf = false := by
    cases h : rightB p buf with
    | true => exact absurd ((rightB_iff p buf).1 h) hR
    | false => rfl
  rw [hb] at rt
  have RT := Lib.hid rt
  clear rt hb
  obtain ⟨A, cc, rfl, hA⟩ := hp
  clear hA
  go_enter Try.func13, Try.ntmps13
  go_wp2_with (go_at_call 14; refine RT.out.mono ?_; rintro e w1 ⟨rfl, hb1⟩)
  go_ret2
  exact ⟨rfl, hb1⟩

set_option maxRecDepth 100000 in
set_option maxHeartbeats 2000000 in
theorem outcomes_yes (N : Nat) (v : Value) (p : List (List Opn)) (w : World) (hp : Prg w v p) (hR : RightS p (N : Int)) :
    Calls Try.prog 13 #[v, .int .i64 (N : Int)] w (OutcomesP p N w) := by
  obtain ⟨i0, hi0, hz0, hz1, hz2⟩ := info_parts list_info
  have rt := right_any (N : Int) v p w hp (by have := hR.hi; omega)
  rw [(rightB_iff p N).2 hR] at rt
  have RT := Lib.hid rt
  have EN := Lib.hid (fun W hb => ends_any N v p W hR (hp.below hb))
  have HR := Lib.hid hR
  have hm3 := hR.hi
  obtain ⟨A, cc, rfl, hA⟩ := hp
  clear hA rt hR
  obtain ⟨m, hm⟩ : ∃ m, p.length = m := ⟨_, rfl⟩
  rw [hm] at hm3 RT EN ⊢
  have HM := Lib.hid hm
  clear hm
  go_enter Try.func13, Try.ntmps13
  go_wp2_with fail
  refine RT.out.mono ?_
  rintro e w1 ⟨rfl, hb1⟩
  have EN1 := Lib.hid (EN.out w1 hb1)
  have B1 := Lib.hid hb1
  clear hb1
  go_wp2_with fail
  refine EN1.out.mono ?_
  rintro e w2 ⟨sv, E, rfl, hE, hst, hb2⟩
  obtain ⟨sA, sc, rfl⟩ := hst.open_
  obtain ⟨sn, hsn⟩ : ∃ sn, E.length = sn := ⟨_, rfl⟩
  rw [hsn] at hst ⊢
  have hsn1 : sn ≤ 14000000000 := by have := hE.size; unfold most at this; omega
  have SST := Lib.hid (hst.mono B1.out.size)
  have B2 := Lib.hid (below_on B1.out hb2)
  have HE := Lib.hid hE
  have HSN := Lib.hid hsn
  have SHE : Hid (∀ u ∈ E, Shape u) := Lib.hid (fun u hu => (((hE.iff u).1 hu).1.ok HR.out).sh)
  clear hst hb2 hE hsn
  go_wp2
  go_loopw [6, 17] (fun av idx wr => ∃ k : Nat, k ≤ sn ∧ idx = .int .i64 k ∧ Hid (∃ vs, Lists wr w.heap.size av vs ((E.take k).map (outS m)) ∧ Sts wr w.heap.size (.slice sA sn sc) E ∧ Below w.heap.size w wr)) (fun _ idx _ => sn - (intOf idx).toNat)
  case atStart => exact ⟨0, Nat.zero_le _, rfl, Lib.hid ⟨[], Lists.nil_ _ _, SST.out, B2.out⟩⟩
  case round =>
    obtain ⟨k, hk, rfl, HK⟩ := hrel
    obtain ⟨vs, hls, hss, hbw⟩ := HK.out
    by_cases hlt : k < sn
    · obtain ⟨t, ht⟩ : ∃ t, E[k]? = some t := ⟨_, List.getElem?_eq_getElem (by rw [HSN.out]; exact hlt)⟩
      obtain ⟨ag, ac', hav, _, _, hagl, hcell⟩ := hss.at_ SHE.out ht
      injection hav with e1 e2 e3
      subst e1
      have sht : Shape t := SHE.out t (List.mem_of_getElem? ht)
      have SHT := Lib.hid sht
      have HCELL := Lib.hid hcell
      have HT := Lib.hid ht
      have HLS := Lib.hid hls
      have HSS := Lib.hid hss
      have HBW := Lib.hid hbw
      have SZT : Hid ((Try.prog.info? 58).map (·.size) = some (ints (stL t)).length) := Lib.hid (by rw [ints_len, stL_len sht]; exact state_size)
      have ZLT : Hid ((ints (List.replicate 46 0)).length = (ints (stL t)).length) := Lib.hid (by rw [ints_len, ints_len, stL_len sht, List.length_replicate])
      have hvl : vs.length = k := by have := hls.len; rw [List.length_map, List.length_take, HSN.out] at this; omega
      have HVL := Lib.hid hvl
      have i0' : (0 : Int) ≤ (k : Int) := by omega
      have i1' : (k : Int) < (sn : Int) := by omega
      clear hcell ht hls hss hbw sht hvl e2 e3 hagl HK
      go_wp2_with (first
        | (with_reducible refine load_walk rfl 58 (.tmp 19) rfl ⟨ag, k * 46, none⟩ rfl (ints (stL t)) state_struct SZT.out HCELL.out ?_)
        | ((with_reducible refine alloc_walk (o := ⟨some 8, _, _, _, _, _⟩) rfl 58 rfl _ state_zero ?_); intro y1 ry1 by1 zy1; clear zy1)
        | ((with_reducible refine storeRow_walk rfl 58 (.tmp 8) (.tmp 20) rfl wr.heap.size rfl (ints (stL t)) rfl SZT.out 58 (ints (List.replicate 46 0)) ry1 ZLT.out (ints_one _) ?_); intro y2 ry2 oy2 zy2; have BY := Lib.hid (Only.below by1 oy2 by1.size (fun g hg => Nat.ne_of_lt hg)); have SY := Lib.hid (show StAt y2 wr.heap.size t from ry2); clear zy2 oy2 ry1 by1 ry2))
      refine (outcome_any wr.heap.size m t y2 SY.out SHT.out hm3).mono ?_
      rintro e y3 ⟨ov, rfl, hov, hb3⟩
      obtain ⟨oA, oc, eov⟩ := own_shape hov
      obtain ⟨ol, hol⟩ : ∃ ol, (outS m t).length = ol := ⟨_, rfl⟩
      rw [hol] at eov
      have HOL := Lib.hid hol
      clear hol
      have B3 := Lib.hid (below_on BY.out hb3)
      have LB := Lib.hid (HLS.out.below (below_on B3.out (below_al y3 (.cells #[ov] 35))))
      have OVA := Lib.hid (own_grown (show y3.ownsRow w.heap.size 3 1 ov (outS m t).length (ints (outS m t)) from ⟨hov.1, hov.2.imp id (fun ⟨g, cap, cur, e, hg, r⟩ => ⟨g, cap, cur, e, Nat.le_trans (Nat.le_trans HBW.out.size BY.out.size) hg, r⟩)⟩) (gr_below (below_al y3 (.cells #[ov] 35)) none) (fun _ _ => by simp))
      have LF := Lib.hid (Lies.fresh y3 (· = y3.heap.size) 35 [ov] y3.heap.size rfl rfl 1)
      have ON : Hid (∀ u ∈ [ov], u.oneCell' = true) := Lib.hid (by simpa using own_one hov)
      clear hov hb3
      rw [eov] at LB OVA LF ON ⊢
      clear eov
      go_wp2_with (at_builtin; go_must (refine app_walk _ rfl (.tmp 21) (.tmp 25) 28 rfl w.heap.size 35 i0 _ 24 Try.underlying28 hi0 hz0 hz1 hz2 rfl u6 vs.length vs rfl LB.out.own (· = y3.heap.size) (some ⟨y3.heap.size, 0, none⟩) 1 1 [.slice oA ol oc] rfl LF.out (Nat.le_refl _) ON.out (by rw [HVL.out]; unfold maxLen; omega) (by rw [HVL.out]; omega) (Nat.le_trans HBW.out.size (below_on B3.out (below_al y3 (.cells #[.slice oA ol oc] 35))).size) ?_; intro yv y4 s4 g4 l4; have S4 := Lib.hid s4; have G4 := Lib.hid g4; clear s4 g4 l4))
      go_roundw
      case rel =>
        refine ⟨k + 1, by omega, by go_num, Lib.hid ⟨vs ++ [.slice oA ol oc], ?_, ?_, ?_⟩⟩
        · have := LB.out.push OVA.out S4.out G4.out
          rw [List.take_add_one, HT.out, List.map_append]
          exact this
        · exact own_grown (own_grown HSS.out (gr_below (below_on B3.out (below_al y3 (.cells #[.slice oA ol oc] 35))) none) (fun _ _ => by simp)) G4.out (fun k hk e => own_types (own_grown HSS.out (gr_below (below_on B3.out (below_al y3 (.cells #[.slice oA ol oc] 35))) none) (fun _ _ => by simp)) LB.out.own (by decide) k hk e)
        · have hb4 : Below w.heap.size w (y3.alloc (.cells #[.slice oA ol oc] 35)) := HBW.out.trans ((below_on B3.out (below_al y3 _)).mono HBW.out.size)
          exact hb4.grown G4.out hb4.size (own_base LB.out.own)
      case measure => simp [intOf]; omega
    · obtain rfl : k = sn := by omega
      rw [List.take_of_length_le (by rw [HSN.out]; exact Nat.le_refl _)] at hls
      have hne : vs ≠ [] := by
        intro e
        have := hls.len
        rw [e, List.length_map] at this
        exact HE.out.ne HR.out (List.eq_nil_of_length_eq_zero this.symm)
      have hnd : (E.map (outS m)).Nodup := by
        rw [List.nodup_iff_pairwise_ne, List.pairwise_map]
        have := List.nodup_iff_pairwise_ne.1 HE.out.nodup
        refine List.Pairwise.imp_of_mem ?_ this
        intro a b ha hb hab e
        obtain ⟨a1, a2⟩ := (HE.out.iff a).1 ha
        obtain ⟨b1, b2⟩ := (HE.out.iff b).1 hb
        exact hab (out_inj HR.out (a1.ok HR.out) (b1.ok HR.out) a2 b2 (by rw [HM.out]; exact e))
      have hll : ∀ l ∈ E.map (outS m), l.length ≤ 1000000 := by
        intro l hl
        obtain ⟨s, hs, rfl⟩ := List.mem_map.1 hl
        rw [out_len (SHE.out s hs) hm3]
        omega
      have hvl : vs.length < 4611686018427387904 := by have := hls.len; rw [List.length_map, HSN.out] at this; omega
      have SO := Lib.hid (sort_any w.heap.size u6 vs _ wr hls hne hnd hll hvl)
      have HLS := Lib.hid hls
      have HBW := Lib.hid hbw
      clear hls hne hnd hll hvl hss hbw HK
      go_wp2_with (go_at_call 24; refine SO.out.mono ?_; rintro e w5 ⟨rfl, vs', L, hl5, hr5, hm5, ho5, hn5⟩)
      go_ret2
      refine ⟨_, vs', L, rfl, hl5, ⟨hr5, fun x => ?_⟩, Only.below HBW.out ho5 HBW.out.size (fun g hg e => ?_), by rw [hn5, List.length_map]; exact HE.out.size⟩
      · rw [hm5, List.mem_map]
        unfold IsOut
        rw [HM.out]
        constructor
        · rintro ⟨s, hs, rfl⟩
          obtain ⟨h1, h2⟩ := (HE.out.iff s).1 hs
          exact ⟨s, h1, h2, rfl⟩
        · rintro ⟨s, h1, h2, rfl⟩
          exact ⟨s, (HE.out.iff s).2 ⟨h1, h2⟩, rfl⟩
      · have := own_base HLS.out.own g e
        omega

#print axioms outcomes_yes
end Go.Proofs.Ytgljgpllooehkaa
