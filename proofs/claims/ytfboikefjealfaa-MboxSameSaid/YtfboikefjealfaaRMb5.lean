/-
  The reference of layer 9: Ring into a queue that has room; any Ring.
  Conditions: those that each theorem states.
-/
import Derived.Test.YtfboikefjealfaaRMb4
namespace Go.Proofs.Ytfboikefjealfaa
open Go.ChangeShapes Go.WideShapes Go.ChangeAt Go.RowKit

theorem its_one (l : List (Int × Int)) : ∀ u ∈ flat (its l), u.oneCell' = true := by
  induction l with
  | nil => intro u hu; simp [its, flat] at hu
  | cons p t ih =>
    intro u hu
    simp only [its, List.map_cons, flat, List.mem_cons] at hu
    rcases hu with rfl | rfl | hu
    · rfl
    · rfl
    · exact ih u hu

set_option maxRecDepth 100000 in
set_option maxHeartbeats 4000000 in
theorem rring9_room (P : Nat → Prop) (ms : List Mail) (v : Value) (f i : Nat) (m : Mail) (x : Int) (w : World) (r : RBox w P ms v) (hf : f < ms.length) (hm : ms[i]? = some m) (hx : okW x = true) (hq : m.2.length < 16) (hP : ∀ b, w.heap.size ≤ b → P b) :
    Calls Try.prog 22 #[v, .int .i64 (f : Int), .int .i64 (i : Int), .int .i64 x] w (RBoxP P (ms.set i (m.1.set f true, m.2 ++ [((f : Int), x)])) (fun b => .tuple #[b, .int .i64 0]) w) := by
  obtain ⟨i0, hi0, hz0, hz1, hz2⟩ := info_parts it_info
  have hi := lt_of_at hm
  have hk := r.ok i m hm
  obtain ⟨A, k, rfl⟩ := r.open_
  obtain ⟨g, o, lv, rfl, hPg, hgl, hcell, hv, hcv⟩ := r.core hm
  obtain ⟨Av, nv, cv, rfl, HNV, HV⟩ := hv.open_
  obtain ⟨b0, b1, b2, b3, b4, b5, b6, b7, hbs⟩ := bools8 hk.len
  have hlit := rcL_lit hbs (.slice Av nv cv)
  rw [hlit] at hcell
  have f8 : f < 8 := by have := r.most; omega
  have hnv : nv < 16 := by have := HNV.out; rw [its_len] at this; omega
  obtain ⟨c0, c1, c2, c3, c4, c5, c6, c7, hcs⟩ := bools8 (l := m.1.set f true) (by rw [List.length_set]; exact hk.len)
  have hset := rcL_set hk f8 true m.2 (.slice Av nv cv)
  rw [hlit, rcL_lit (m := (m.1.set f true, m.2)) hcs] at hset
  have hx' : 0 ≤ x ∧ x ≤ 65535 := by simpa [okW] using hx
  have hk' : MailOk (m.1.set f true, m.2 ++ [((f : Int), x)]) := by
    refine ⟨by rw [List.length_set]; exact hk.len, by rw [List.length_append, List.length_singleton]; omega, fun p hp => ?_⟩
    rcases List.mem_append.1 hp with hp | hp
    · exact hk.low p hp
    · simp at hp; subst hp; simp only; omega
  have HSET := Lib.hid hset
  have H1 := Lib.hid (rhas9 (some ⟨g, o, none⟩) ms.length k (f : Int) w)
  have H2 := Lib.hid (rhas9 (some ⟨g, o, none⟩) ms.length k (i : Int) w)
  rw [cIs_nat hf] at H1
  rw [cIs_nat hi] at H2
  have x0 := hcell 0 _ rfl
  have x1 := hcell 1 _ rfl
  have x2 := hcell 2 _ rfl
  have x3 := hcell 3 _ rfl
  have x4 := hcell 4 _ rfl
  have x5 := hcell 5 _ rfl
  have x6 := hcell 6 _ rfl
  have x7 := hcell 7 _ rfl
  have x8 := hcell 8 _ rfl
  rw [Nat.add_zero] at x0
  have ROW := Lib.hid (Row.new w 40 #[.bool b0, .bool b1, .bool b2, .bool b3, .bool b4, .bool b5, .bool b6, .bool b7, .slice Av nv cv])
  have hx0 := hx'.1
  have hx1 := hx'.2
  have W9 := Lib.hid (fun (W : World) (hb : Below w.heap.size w W) (lv' : Value) (h1 : Two W P lv' (its (m.2 ++ [((f : Int), x)]))) (h2 : CapOk lv') => rwith9 P ms (.slice (some ⟨g, o, none⟩) ms.length k) lv' i (m.1.set f true, m.2 ++ [((f : Int), x)]) W (r.below hb) hi hk' h1 h2 (fun b hb' => hP b (by have := hb.size; omega)))
  have hcv1 : ∀ lv', coreV (m.1.set f true, m.2 ++ [((f : Int), x)]) lv' = .agg #[.bool c0, .bool c1, .bool c2, .bool c3, .bool c4, .bool c5, .bool c6, .bool c7, lv'] := fun lv' => by unfold coreV; rw [rcL_lit (m := (m.1.set f true, m.2 ++ [((f : Int), x)])) hcs]
  simp only [hcv1] at W9
  have es : flat (its m.2) ++ flat [(Value.int .i64 (f : Int), Value.int .i64 x)] = flat (its (m.2 ++ [((f : Int), x)])) := by rw [← flat_append, its_append]; rfl
  have ES := Lib.hid es
  have ONE := Lib.hid (its_one m.2)
  have HCV := Lib.hid hcv
  have HP := Lib.hid hP
  obtain ⟨C, hC⟩ : ∃ C, ms.length = C := ⟨_, rfl⟩
  rw [hC] at H1 H2 W9 hi hf ⊢
  have hmost := r.most
  rw [hC] at hmost
  have HQN : Hid (m.2.length = nv) := Lib.hid (by have := HNV.out; rwa [its_len] at this)
  clear r hm hk hcell hv hcv HNV hbs hlit hcs hset hk' hx hx' hcv1 hC hq es hP
  go_enter Try.func22, Try.ntmps22
  go_wp2_with fail
  refine H1.out.mono ?_
  rintro e w' ⟨rfl, rfl⟩
  go_wp2_with fail
  refine H2.out.mono ?_
  rintro e w' ⟨rfl, rfl⟩
  go_wp2_with (first
    | (refine putB_walk rfl (.tmp 36) (.const (.bool true)) rfl w.heap.size f rfl true rfl 40 _ ROW.out (by simp; omega) ?_
       intro w2 hr2 ho2 hs2
       have hr2' := hr2.cast HSET.out
       have y8 := hr2'.cell 8
       simp only [List.getElem?_cons_zero, List.getElem?_cons_succ] at y8
       have hb2 : Below w.heap.size w w2 := Only.below (below_al w _) ho2 (by simp) (fun b hb e => by omega)
       have HB2 := Lib.hid hb2
       have HR2 := Lib.hid hr2'
       have hs2' : w2.heap.size = w.heap.size + 1 := (by rw [hs2, size_al])
       have HS2 := Lib.hid hs2'
       clear hr2 ho2 hs2 hr2' hb2 hs2')
    | (at_builtin
       refine app2_walk _ rfl (.tmp 45) (.tmp 47) 38 rfl (w.heap.size + 1) 32 i0 _ 16 Try.underlying38 hi0 hz0 hz1 hz2 rfl (.slice none 0 0) 0 [] rfl (World.ownsRow_nil _ _ _ _) P Av nv cv (its m.2) rfl (HV.out.below HB2.out) HCV.out ONE.out (by unfold maxLen; omega) (by omega) (by rw [HS2.out]; omega) ?_
       intro v3 w3 hown3 hg3 hat3
       rw [Nat.zero_add, List.nil_append] at hown3
       have hr3 := HR2.out.of_grown hg3 (by simp [Value.ownBlock])
       have hb3 : Below w.heap.size w w3 := HB2.out.grown hg3 (by rw [HS2.out]; omega) (by simp [Value.ownBlock])
       have hs3 : w.heap.size + 1 ≤ w3.heap.size := (by have := hg3.size; have := HS2.out; omega)
       have HR3 := Lib.hid hr3
       have HB3 := Lib.hid hb3
       have HOW3 := Lib.hid hown3
       clear hown3 hg3 hat3 hr3 hb3)
    | (at_builtin
       refine app2_walk _ rfl (.tmp 49) (.tmp 53) 38 rfl (w.heap.size + 1) 32 i0 _ 16 Try.underlying38 hi0 hz0 hz1 hz2 rfl v3 nv (flat (its m.2)) rfl (HOW3.out.alloc _) (· = w3.heap.size) (some ⟨w3.heap.size, 0, none⟩) 1 1 [(.int .i64 (f : Int), .int .i64 x)] rfl (Two.one _ _ _ _ _) (Nat.le_refl _) (it_one _ _) (by unfold maxLen; omega) (by omega) (by simp; omega) ?_
       intro v4 w4 hown4 hg4 hat4
       rw [ES.out] at hown4
       have hne : ∀ b, b < w.heap.size + 1 → some b ≠ v3.ownBlock := (fun b hb e => by have := (HOW3.out.lt b e.symm).1; omega)
       have hr4 := (HR3.out.below (below_al w3 (.cells #[.int .i64 (f : Int), .int .i64 x] 32))).of_grown hg4 (hne _ (by omega))
       have hb4 : Below w.heap.size w w4 := (below_on HB3.out (below_al w3 (.cells #[.int .i64 (f : Int), .int .i64 x] 32))).grown hg4 (by simp; omega) (fun b e => by have := (HOW3.out.lt b e).1; omega)
       have hlen : (m.2 ++ [((f : Int), x)]).length = nv + 1 := (by rw [List.length_append, HQN.out]; rfl)
       rw [← hlen] at hown4
       obtain ⟨A5, n5, c5, rfl, hn5, hcap5, htwo5⟩ := ownB_open hown4
       have hbl : ∀ b, (Value.slice A5 n5 c5).ownBlock = some b → w.heap.size + 1 ≤ b := (fun b e => (hown4.lt b e).1)
       have z0 := hr4.cell 0
       have z1 := hr4.cell 1
       have z2 := hr4.cell 2
       have z3 := hr4.cell 3
       have z4 := hr4.cell 4
       have z5 := hr4.cell 5
       have z6 := hr4.cell 6
       have z7 := hr4.cell 7
       have z8 := hr4.cell 8
       have zf := hr4.soft 8
       simp only [List.getElem?_cons_zero, List.getElem?_cons_succ] at z0 z1 z2 z3 z4 z5 z6 z7 z8
       have HB4 := Lib.hid hb4
       have HT4 := Lib.hid htwo5
       have HC4 := Lib.hid hcap5
       have HBL := Lib.hid hbl
       clear hown4 hg4 hat4 hne hr4 hb4 hlen hn5 hcap5 htwo5 hbl y8)
    | (go_at_call 24
       refine (W9.out _ (HB4.out.setCell (p := ⟨w.heap.size, 8, none⟩) (Nat.le_refl _) (.slice A5 n5 c5)) (.slice A5 n5 c5) ((HT4.out.only (only_put w4 w.heap.size 8 _) (fun b e hb => by have := HBL.out b hb; omega)).weak (fun b _ hb => HP.out b (by have := HBL.out b hb; omega))) HC4.out).mono ?_
       rintro e w5 ⟨A6, n6, c6, rfl, hr5, hb5⟩
       have HR5 := Lib.hid hr5
       have HB5 := Lib.hid (below_on (HB4.out.setCell (p := ⟨w.heap.size, 8, none⟩) (Nat.le_refl _) (.slice A5 n5 c5)) hb5)
       clear hr5 hb5
       dsimp only [id]))
  go_ret2
  exact ⟨A6, n6, c6, rfl, HR5.out, HB5.out⟩

theorem rring9_any (P : Nat → Prop) (ms : List Mail) (v : Value) (f t x : Int) (w : World) (r : RBox w P ms v) (hP : ∀ b, w.heap.size ≤ b → P b) :
    Calls Try.prog 22 #[v, .int .i64 f, .int .i64 t, .int .i64 x] w (RBoxP P (rgMs ms f t x) (fun b => .tuple #[b, .int .i64 (rgErr ms f t x)]) w) := by
  unfold rgMs rgErr
  by_cases h : cIs ms.length f = true ∧ cIs ms.length t = true
  · obtain ⟨hf, ht⟩ := h
    by_cases hx : okW x = true
    · rw [hf, ht, hx]
      simp only [Bool.and_self, if_true]
      obtain ⟨i, e, hi, hm⟩ := core_at ht
      obtain ⟨f0, f1⟩ := cIs_yes hf
      obtain ⟨k, rfl⟩ := Int.eq_ofNat_of_zero_le f0
      have e2 : t.toNat = i := by omega
      rw [e2, Int.toNat_natCast]
      by_cases hq : (mAt ms t).2.length = 16
      · have := rring9_full P ms v k i (mAt ms t) x w r (by omega) hm hx hq hP
        rw [← e] at this
        unfold rgE rgQ
        rw [if_pos hq, if_pos hq]
        exact this
      · have := rring9_room P ms v k i (mAt ms t) x w r (by omega) hm hx (by have := (r.ok i _ hm).fit; omega) hP
        rw [← e] at this
        unfold rgE rgQ
        rw [if_neg hq, if_neg hq]
        exact this
    · have hx' : okW x = false := by simpa using hx
      rw [hf, ht, hx']
      simp only [Bool.and_self, Bool.and_false, if_true, Bool.false_eq_true, if_false]
      exact rring9_word P ms v f t x w r hf ht hx'
  · have hh : (cIs ms.length t && cIs ms.length f) = false := by
      cases h1 : cIs ms.length t <;> cases h2 : cIs ms.length f <;> simp_all
    rw [hh]
    simp only [Bool.false_and, Bool.false_eq_true, if_false]
    exact rring9_core P ms v f t x w r h

#print axioms rring9_any
end Go.Proofs.Ytfboikefjealfaa
