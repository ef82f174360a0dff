/-
  The walk of the law GrantOnce: it returns true for every input, and nothing that was there before the call changes.
  Conditions: none.
-/
import Derived.Test.YtikndnagflpckaaGr5
import Derived.Test.YtikndnagflpckaaGr7
namespace Go.Proofs.Ytikndnagflpckaa
open Go.ChangeShapes Go.WideShapes Go.ChangeAt Go.RowKit

theorem lies_one15 (w : World) (u : Value) (t : TypeId) (c : Nat) : Lies (w.alloc (.cells #[u] t)) (· = w.heap.size) (.slice (some ⟨w.heap.size, 0, none⟩) 1 c) [u] := Lies.of_row (P := (· = w.heap.size)) (Row.new w t #[u]) rfl c

set_option maxRecDepth 100000 in
set_option maxHeartbeats 16000000 in
theorem grantOnce_main (C : Nat) (v : Value) (R : List (List Int)) (w : World) (c0 : 1 ≤ C) (c64 : C ≤ 64) (hR : Recs w 2 v R) (hm : R.length ≤ 150) :
    Calls Try.prog 4 #[.int .i64 (C : Int), v] w fun e w' => e = .returned (.bool true) ∧ Below w.heap.size w w' := by
  obtain ⟨i0, hi0, hz0, hz1, hz2⟩ := info_parts int_info
  have HR := Lib.hid hR
  obtain ⟨A, d, rfl, hA⟩ := hR
  clear hA
  obtain ⟨m, hm'⟩ : ∃ m, R.length = m := ⟨_, rfl⟩
  rw [hm'] at hm HR ⊢
  have HM := Lib.hid hm'; clear hm'
  have g3 : ¬ (150 < (m : Int)) := by omega
  have nw := Lib.hid (new15_yes C w c0 c64)
  go_enter Try.func4, Try.ntmps4
  go_wp2_with fail
  refine nw.out.mono ?_
  rintro e w1 ⟨g, rfl, r1, hg1, hb1⟩
  unfold ptr
  have S0 : Hid (Once15 w w1 g (new15 C) [] [] (.slice none 0 0) (.slice none 0 0)) := Lib.hid ⟨r1, World.ownsRow_nil _ _ _ _, World.ownsRow_nil _ _ _ _, (fun k hk => by cases hk), (fun k hk => by cases hk), hb1, hg1⟩
  clear r1 hg1 hb1 nw
  go_wp2
  go_loopw [6, 7, 33] (fun vo vg i wr => ∃ (k : Nat) (l : List (Int × Bool)) (gone good : List Int) (Ao : Option Addr) (no co : Nat) (Ag : Option Addr) (ng cg : Nat), k ≤ m ∧ vo = .slice Ao no co ∧ vg = .slice Ag ng cg ∧ i = .int .i64 k ∧ no + ng ≤ k ∧ Hid (l.length = C ∧ gone.length = no ∧ good.length = ng) ∧ Hid (Inv15 l gone good k) ∧ Hid (Once15 w wr g l gone good (.slice Ao no co) (.slice Ag ng cg))) (fun _ _ i _ => m - (intOf i).toNat)
  case atStart => exact ⟨0, new15 C, [], [], none, 0, 0, none, 0, 0, Nat.zero_le _, rfl, rfl, rfl, Nat.le_refl _, Lib.hid ⟨by simp [new15], rfl, rfl⟩, Lib.hid (Inv15.start C), S0⟩
  case round =>
    clear S0
    obtain ⟨k, l, gone, good, Ao, no, co, Ag, ng, cg, hk, rfl, rfl, rfl, hsum, HL, I, S⟩ := hrel
    by_cases hlt : k < m
    · obtain ⟨ad, c', K, x, hzs, hv', z0, z1, hadl⟩ := Recs.two15 HR.out S.out.below (by rw [HM.out]; exact hlt)
      rw [HM.out] at hv'
      injection hv' with hv' _ hv2
      subst hv' hv2
      clear hzs
      have S1 := Lib.hid (S.out.quiet (below_al wr (.cells #[.int .i64 K, .int .i64 x] 24)))
      have IR := Lib.hid (Row.new wr 24 #[.int .i64 K, .int .i64 x])
      by_cases h0 : K = 0
      · subst h0
        have gv := give15_any g l x _ S1.out.tab
        unfold ptr at gv
        cases hB : giveB15 l x with
        | false =>
          rw [hB, free15_no hB] at gv
          obtain ⟨V, hV⟩ : ∃ V, giveV15 l x = V := ⟨_, rfl⟩
          rw [hV] at gv
          have GV := Lib.hid gv
          have I2 := Lib.hid I.out.more
          clear gv hV hB IR I
          go_wp2_with fail
          refine GV.out.mono ?_
          rintro e w2 ⟨rfl, r2, ho2⟩
          have S2 := Lib.hid (S1.out.step r2 ho2)
          clear S S1 r2 ho2 GV z0 z1
          go_wp2
          go_loopw [128] (fun iv wo => ∃ j : Nat, j ≤ no ∧ iv = .int .i64 j ∧ Hid (Once15 w wo g l (gone) (good) (.slice Ao no co) (.slice Ag ng cg))) (fun iv _ => no - (intOf iv).toNat)
          case atStart => exact ⟨0, Nat.zero_le _, rfl, S2⟩
          case round =>
            clear S2
            obtain ⟨j, hj, rfl, SL⟩ := hrel
            by_cases hlj : j < no
            · obtain ⟨h, hh⟩ : ∃ h, (gone)[j]? = some h := ⟨_, List.getElem?_eq_getElem (by rw [HL.out.2.1]; exact hlj)⟩
              obtain ⟨sv, sb, sl, se⟩ := I2.out.stale (List.mem_of_getElem? hh) SL.out.tab.n64
              have og := SL.out.ogo
              rw [HL.out.2.1] at og
              obtain ⟨go1, co1, hgo, hgb, hglt⟩ := og.form (by omega)
              injection hgo with hgo1 _ hgo2
              subst hgo1 hgo2
              have hxc : wr.cell? ⟨go1, j, none⟩ = some (.int .i64 h) := (og.cellAt j (by omega)).trans (ints_some hh)
              have hjn : (j : Int) < ((no : Nat) : Int) := by omega
              have ks := Lib.hid (slot15_any g _ h _ SL.out.tab)
              rw [sv, sb] at ks
              have kd := Lib.hid (drop15_any g _ h _ SL.out.tab)
              rw [sl, se] at kd
              unfold ptr at ks kd
              clear og sv sb sl se hh
              go_wp2_with fail
              refine ks.out.mono ?_
              rintro e w' ⟨rfl, rfl⟩
              go_wp2_with fail
              refine kd.out.mono ?_
              rintro e wd ⟨rfl, rd, hod⟩
              have SD := Lib.hid (SL.out.step rd hod)
              clear SL rd hod ks kd
              go_wp2
              go_roundw
              case rel => exact ⟨j + 1, by omega, by go_num, SD⟩
              case measure => simp [intOf]; omega
            · obtain rfl : no = j := by omega
              have kh := held15_any g _ _ SL.out.tab
              unfold OwnP15 at kh
              rw [← I2.out.len, HL.out.2.2] at kh
              have KH := Lib.hid kh
              unfold ptr at KH
              have hnn : ((ng : Nat) : Int) = ((ng : Nat) : Int) := rfl
              have hneq : (((ng : Nat) : Int) != ((ng : Nat) : Int)) = false := by simp
              clear kh
              go_wp2_with fail
              refine KH.out.mono ?_
              rintro e wh ⟨vh, rfl, ownh, hbh⟩
              obtain ⟨Ah, ch, rfl⟩ := own15_is ownh
              have SH := Lib.hid (SL.out.quiet hbh)
              clear SL ownh hbh KH
              go_wp2
              go_roundw
              case rel => exact ⟨k + 1, l, gone, good, Ao, no, co, Ag, ng, cg, by omega, rfl, rfl, by go_num, by omega, HL, I2, SH⟩
              case measure => simp [intOf]; omega
        | true =>
          obtain ⟨i, e, rfl, ha⟩ := free15_yes hB
          obtain ⟨H, hV, i2, hni, hsv, hsb⟩ := I.out.give ha S1.out.tab.n64 (by omega)
          have hl' := giveL15_len l (i : Int)
          rw [HL.out.1] at hl'
          rw [hB, hV] at gv
          obtain ⟨l', hl2⟩ : ∃ l', giveL15 l (i : Int) = l' := ⟨_, rfl⟩
          rw [hl2] at gv i2 hsv hsb hl'
          have GV := Lib.hid gv
          have I2 := Lib.hid i2
          have NI := Lib.hid hni
          have HSV := Lib.hid (And.intro hsv hsb)
          have HL2 : Hid (l'.length = C ∧ gone.length = no ∧ (good ++ [H]).length = ng + 1) := Lib.hid ⟨hl', HL.out.2.1, by rw [List.length_append, HL.out.2.2]; rfl⟩
          have hgl := S1.out.tab.row.lt
          have hgl0 := S.out.tab.row.lt
          clear gv hV hB I ha i2 hni hsv hsb hl2 hl'
          go_wp2_with fail
          refine GV.out.mono ?_
          rintro e w2 ⟨rfl, r2, ho2⟩
          have S2 := Lib.hid (S1.out.step r2 ho2)
          have IR2 := Lib.hid (IR.out.only ho2 (fun e => by omega))
          have hs2 := S2.out.below.size
          have lo := S2.out.ogo
          rw [HL.out.2.1] at lo
          have lg := S2.out.ogd
          rw [HL.out.2.2] at lg
          have LO := Lib.hid (fun W (hb : Below w2.heap.size w2 W) => (Lies.of_own lo).below hb)
          have LG := Lib.hid (fun W (hb : Below w2.heap.size w2 W) => (Lies.of_own lg).below hb)
          have CO := Lib.hid (CapOk.of_own lo)
          have CG := Lib.hid (CapOk.of_own lg)
          have ONO := Lib.hid (ints_one gone)
          have ONG := Lib.hid (ints_one good)
          clear S S1 r2 ho2 GV z0 z1 IR lo lg
          go_wp2_with (first
            | (at_builtin; refine app_walk _ rfl (.tmp 84) (.tmp 85) 38 rfl w2.heap.size 3 i0 _ 8 Try.underlying38 hi0 hz0 hz1 hz2 rfl (.slice (some ⟨w2.heap.size, 0, none⟩) 0 0) 0 [] rfl (own_empty15 (Row.new w2 3 #[]) (Nat.le_refl _)) _ Ao no co (ints gone) rfl (LO.out _ (below_al _ _)) CO.out ONO.out (by unfold maxLen; omega) (by omega) (by simp) ?_; intro v3 w3 hown3 hg3 hat3; rw [Nat.zero_add, List.nil_append] at hown3; have hb3 : Below w2.heap.size w2 w3 := (below_al w2 (.cells #[] 3)).grown hg3 (by simp) (by intro q hq; simp only [Value.ownBlock, Option.some.injEq] at hq; omega); have HB3 := Lib.hid hb3; have OW3 := Lib.hid hown3; clear hown3 hg3 hat3 hb3)
            | (at_builtin; refine app_walk _ rfl (.tmp 86) (.tmp 87) 38 rfl w2.heap.size 3 i0 _ 8 Try.underlying38 hi0 hz0 hz1 hz2 rfl v3 no (ints gone) rfl OW3.out _ Ag ng cg (ints good) rfl (LG.out _ HB3.out) CG.out ONG.out (by unfold maxLen; omega) (by omega) HB3.out.size ?_; intro v4 w4 hown4 hg4 hat4; rw [← ints_append] at hown4; have hb4 : Below w2.heap.size w2 w4 := HB3.out.grown hg4 HB3.out.size (fun q hq => (OW3.out.lt q hq).1); obtain ⟨A4, c4, rfl⟩ := own15_is hown4; have HB4 := Lib.hid hb4; have OW4 := Lib.hid hown4; clear hown4 hg4 hat4 hb4))
          have S4 := Lib.hid (S2.out.quiet HB4.out)
          have IR4 := Lib.hid (IR2.out.below HB4.out)
          clear S2 IR2 LO LG CO CG HB3 OW3 HB4
          have HLN : Hid ((gone ++ good).length = no + ng) := Lib.hid (by rw [List.length_append, HL.out.2.1, HL.out.2.2])
          go_loopw [90] (fun iv wo => ∃ j : Nat, j ≤ no + ng ∧ iv = .int .i64 j ∧ w4 = wo) (fun iv _ => no + ng - (intOf iv).toNat)
          case atStart => exact ⟨0, Nat.zero_le _, rfl, rfl⟩
          case round =>
            obtain ⟨j, hj, rfl, rfl⟩ := hrel
            by_cases hlj : j < no + ng
            · obtain ⟨u, hu⟩ : ∃ u, (gone ++ good)[j]? = some u := ⟨_, List.getElem?_eq_getElem (by rw [HLN.out]; exact hlj)⟩
              obtain ⟨g4, d4, hg4, hgb, hglt⟩ := OW4.out.form (by omega)
              injection hg4 with hg5 _ hg6
              subst hg5 hg6
              have hxc : w4.cell? ⟨g4, j, none⟩ = some (.int .i64 u) := (OW4.out.cellAt j (by omega)).trans (ints_some hu)
              have huH : (u == H) = false := by
                rw [beq_eq_false_iff_ne]
                rintro rfl
                exact NI.out (List.mem_of_getElem? hu)
              have hjn : (j : Int) < ((no + ng : Nat) : Int) := by omega
              clear hu
              go_wp2
              go_roundw
              case rel => exact ⟨j + 1, by omega, by go_num, trivial⟩
              case measure => simp [intOf]; omega
            · obtain rfl : no + ng = j := by omega
              have ks := slot15_any g l' H _ S4.out.tab
              rw [HSV.out.1, HSV.out.2] at ks
              have KS := Lib.hid ks
              have o1 := IR4.out.cell 1
              simp only [List.getElem?_cons_zero, List.getElem?_cons_succ] at o1
              have hii : ((i : Int) != (i : Int)) = false := by simp
              have og := S4.out.ogd
              rw [HL.out.2.2] at og
              have OG := Lib.hid og
              have hs4 := S4.out.below.size
              unfold ptr at KS
              clear ks og OW4
              go_wp2_with fail
              refine KS.out.mono ?_
              rintro e w' ⟨rfl, rfl⟩
              go_wp2_with (at_builtin; refine app_walk _ rfl (.tmp 112) (.tmp 114) 38 rfl w.heap.size 3 i0 _ 8 Try.underlying38 hi0 hz0 hz1 hz2 rfl (.slice Ag ng cg) ng (ints good) rfl (OG.out.alloc _) _ (some ⟨w4.heap.size, 0, none⟩) 1 1 [.int .i64 H] rfl (lies_one15 _ _ _ _) (Nat.le_refl _) (by intro u hu; simp at hu; subst hu; rfl) (by unfold maxLen; omega) (by omega) (by simp; omega) ?_; intro v6 w6 hown6 hg6 hat6; obtain ⟨A6, c6, rfl⟩ := own15_is hown6; have S6 := Lib.hid ((S4.out.quiet (below_al _ _)).moreG (xs := [H]) hg6 (by rw [HL.out.2.2]; exact hown6) hat6); clear hown6 hg6 hat6 o1 S4 IR4 OG KS)
              go_wp2
              go_loopw [128] (fun iv wo => ∃ j : Nat, j ≤ no ∧ iv = .int .i64 j ∧ Hid (Once15 w wo g l' (gone) (good ++ [H]) (.slice Ao no co) (.slice A6 (ng + 1) c6))) (fun iv _ => no - (intOf iv).toNat)
              case atStart => exact ⟨0, Nat.zero_le _, rfl, S6⟩
              case round =>
                clear S6
                obtain ⟨j, hj, rfl, SL⟩ := hrel
                by_cases hlj : j < no
                · obtain ⟨h, hh⟩ : ∃ h, (gone)[j]? = some h := ⟨_, List.getElem?_eq_getElem (by rw [HL2.out.2.1]; exact hlj)⟩
                  obtain ⟨sv, sb, sl, se⟩ := I2.out.stale (List.mem_of_getElem? hh) SL.out.tab.n64
                  have og := SL.out.ogo
                  rw [HL2.out.2.1] at og
                  obtain ⟨go1, co1, hgo, hgb, hglt⟩ := og.form (by omega)
                  injection hgo with hgo1 _ hgo2
                  subst hgo1 hgo2
                  have hxc : wr.cell? ⟨go1, j, none⟩ = some (.int .i64 h) := (og.cellAt j (by omega)).trans (ints_some hh)
                  have hjn : (j : Int) < ((no : Nat) : Int) := by omega
                  have ks := Lib.hid (slot15_any g _ h _ SL.out.tab)
                  rw [sv, sb] at ks
                  have kd := Lib.hid (drop15_any g _ h _ SL.out.tab)
                  rw [sl, se] at kd
                  unfold ptr at ks kd
                  clear og sv sb sl se hh
                  go_wp2_with fail
                  refine ks.out.mono ?_
                  rintro e w' ⟨rfl, rfl⟩
                  go_wp2_with fail
                  refine kd.out.mono ?_
                  rintro e wd ⟨rfl, rd, hod⟩
                  have SD := Lib.hid (SL.out.step rd hod)
                  clear SL rd hod ks kd
                  go_wp2
                  go_roundw
                  case rel => exact ⟨j + 1, by omega, by go_num, SD⟩
                  case measure => simp [intOf]; omega
                · obtain rfl : no = j := by omega
                  have kh := held15_any g _ _ SL.out.tab
                  unfold OwnP15 at kh
                  rw [← I2.out.len, HL2.out.2.2] at kh
                  have KH := Lib.hid kh
                  unfold ptr at KH
                  have hnn : (((ng + 1) : Nat) : Int) = (((ng + 1) : Nat) : Int) := rfl
                  have hneq : ((((ng + 1) : Nat) : Int) != (((ng + 1) : Nat) : Int)) = false := by simp
                  clear kh
                  go_wp2_with fail
                  refine KH.out.mono ?_
                  rintro e wh ⟨vh, rfl, ownh, hbh⟩
                  obtain ⟨Ah, ch, rfl⟩ := own15_is ownh
                  have SH := Lib.hid (SL.out.quiet hbh)
                  clear SL ownh hbh KH
                  go_wp2
                  go_roundw
                  case rel => exact ⟨k + 1, l', gone, good ++ [H], Ao, no, co, A6, (ng + 1), c6, by omega, rfl, rfl, by go_num, by omega, HL2, I2, SH⟩
                  case measure => simp [intOf]; omega
      · have b0 : (K == 0) = false := by simpa using h0
        by_cases h2 : K = 2
        · subst h2
          have cl := clear15_any g l _ S1.out.tab
          rw [← I.out.len, HL.out.2.2] at cl
          have hl' := clearL15_len l
          rw [HL.out.1] at hl'
          obtain ⟨l', hl2⟩ : ∃ l', clearL15 l = l' := ⟨_, rfl⟩
          have i2 := I.out.clear
          rw [hl2] at cl hl' i2
          have CL := Lib.hid cl
          have I2 := Lib.hid i2
          have HL2 : Hid (l'.length = C ∧ (gone ++ good).length = no + ng ∧ ([] : List Int).length = 0) := Lib.hid ⟨hl', by rw [List.length_append, HL.out.2.1, HL.out.2.2], rfl⟩
          have hneq : (((ng : Nat) : Int) != ((ng : Nat) : Int)) = false := by simp
          unfold ptr at CL
          clear cl hl' hl2 i2 I IR
          go_wp2_with fail
          refine CL.out.mono ?_
          rintro e w2 ⟨rfl, r2, ho2⟩
          have S2 := Lib.hid (S1.out.step r2 ho2)
          have hs2 := S2.out.below.size
          have lo := S2.out.ogo
          rw [HL.out.2.1] at lo
          have lg := S2.out.ogd
          rw [HL.out.2.2] at lg
          have OO := Lib.hid lo
          have LG := Lib.hid (Lies.of_own lg)
          have CG := Lib.hid (CapOk.of_own lg)
          have ONG := Lib.hid (ints_one good)
          clear S S1 r2 ho2 CL z0 z1 lo lg
          go_wp2_with (at_builtin; refine app_walk _ rfl (.tmp 123) (.tmp 124) 38 rfl w.heap.size 3 i0 _ 8 Try.underlying38 hi0 hz0 hz1 hz2 rfl (.slice Ao no co) no (ints gone) rfl OO.out _ Ag ng cg (ints good) rfl LG.out CG.out ONG.out (by unfold maxLen; omega) (by omega) (by omega) ?_; intro v3 w3 hown3 hg3 hat3; obtain ⟨A3, c3, rfl⟩ := own15_is hown3; have S3 := Lib.hid (S2.out.moreO (xs := good) hg3 (by rw [HL.out.2.1, HL.out.2.2]; exact hown3) hat3).nilG; clear hown3 hg3 hat3 S2 OO LG CG)
          go_wp2
          go_loopw [128] (fun iv wo => ∃ j : Nat, j ≤ (no + ng) ∧ iv = .int .i64 j ∧ Hid (Once15 w wo g l' (gone ++ good) ([]) (.slice A3 (no + ng) c3) (.slice none 0 0))) (fun iv _ => (no + ng) - (intOf iv).toNat)
          case atStart => exact ⟨0, Nat.zero_le _, rfl, S3⟩
          case round =>
            clear S3
            obtain ⟨j, hj, rfl, SL⟩ := hrel
            by_cases hlj : j < (no + ng)
            · obtain ⟨h, hh⟩ : ∃ h, (gone ++ good)[j]? = some h := ⟨_, List.getElem?_eq_getElem (by rw [HL2.out.2.1]; exact hlj)⟩
              obtain ⟨sv, sb, sl, se⟩ := I2.out.stale (List.mem_of_getElem? hh) SL.out.tab.n64
              have og := SL.out.ogo
              rw [HL2.out.2.1] at og
              obtain ⟨go1, co1, hgo, hgb, hglt⟩ := og.form (by omega)
              injection hgo with hgo1 _ hgo2
              subst hgo1 hgo2
              have hxc : wr.cell? ⟨go1, j, none⟩ = some (.int .i64 h) := (og.cellAt j (by omega)).trans (ints_some hh)
              have hjn : (j : Int) < (((no + ng) : Nat) : Int) := by omega
              have ks := Lib.hid (slot15_any g _ h _ SL.out.tab)
              rw [sv, sb] at ks
              have kd := Lib.hid (drop15_any g _ h _ SL.out.tab)
              rw [sl, se] at kd
              unfold ptr at ks kd
              clear og sv sb sl se hh
              go_wp2_with fail
              refine ks.out.mono ?_
              rintro e w' ⟨rfl, rfl⟩
              go_wp2_with fail
              refine kd.out.mono ?_
              rintro e wd ⟨rfl, rd, hod⟩
              have SD := Lib.hid (SL.out.step rd hod)
              clear SL rd hod ks kd
              go_wp2
              go_roundw
              case rel => exact ⟨j + 1, by omega, by go_num, SD⟩
              case measure => simp [intOf]; omega
            · obtain rfl : (no + ng) = j := by omega
              have kh := held15_any g _ _ SL.out.tab
              unfold OwnP15 at kh
              rw [← I2.out.len, HL2.out.2.2] at kh
              have KH := Lib.hid kh
              unfold ptr at KH
              have hnn : ((0 : Nat) : Int) = ((0 : Nat) : Int) := rfl
              have hneq : (((0 : Nat) : Int) != ((0 : Nat) : Int)) = false := by simp
              clear kh
              go_wp2_with fail
              refine KH.out.mono ?_
              rintro e wh ⟨vh, rfl, ownh, hbh⟩
              obtain ⟨Ah, ch, rfl⟩ := own15_is ownh
              have SH := Lib.hid (SL.out.quiet hbh)
              clear SL ownh hbh KH
              go_wp2
              go_roundw
              case rel => exact ⟨k + 1, l', gone ++ good, [], A3, (no + ng), c3, none, 0, 0, by omega, rfl, rfl, by go_num, by omega, HL2, I2, SH⟩
              case measure => simp [intOf]; omega
        · have b2 : (K == 2) = false := by simpa using h2
          clear h0 h2
          by_cases hng : ng = 0
          ·
            subst hng
            have I2 := Lib.hid I.out.more
            clear IR I S
            go_wp2
            go_loopw [128] (fun iv wo => ∃ j : Nat, j ≤ no ∧ iv = .int .i64 j ∧ Hid (Once15 w wo g l (gone) (good) (.slice Ao no co) (.slice Ag 0 cg))) (fun iv _ => no - (intOf iv).toNat)
            case atStart => exact ⟨0, Nat.zero_le _, rfl, S1⟩
            case round =>
              clear S1
              obtain ⟨j, hj, rfl, SL⟩ := hrel
              by_cases hlj : j < no
              · obtain ⟨h, hh⟩ : ∃ h, (gone)[j]? = some h := ⟨_, List.getElem?_eq_getElem (by rw [HL.out.2.1]; exact hlj)⟩
                obtain ⟨sv, sb, sl, se⟩ := I2.out.stale (List.mem_of_getElem? hh) SL.out.tab.n64
                have og := SL.out.ogo
                rw [HL.out.2.1] at og
                obtain ⟨go1, co1, hgo, hgb, hglt⟩ := og.form (by omega)
                injection hgo with hgo1 _ hgo2
                subst hgo1 hgo2
                have hxc : wr.cell? ⟨go1, j, none⟩ = some (.int .i64 h) := (og.cellAt j (by omega)).trans (ints_some hh)
                have hjn : (j : Int) < ((no : Nat) : Int) := by omega
                have ks := Lib.hid (slot15_any g _ h _ SL.out.tab)
                rw [sv, sb] at ks
                have kd := Lib.hid (drop15_any g _ h _ SL.out.tab)
                rw [sl, se] at kd
                unfold ptr at ks kd
                clear og sv sb sl se hh
                go_wp2_with fail
                refine ks.out.mono ?_
                rintro e w' ⟨rfl, rfl⟩
                go_wp2_with fail
                refine kd.out.mono ?_
                rintro e wd ⟨rfl, rd, hod⟩
                have SD := Lib.hid (SL.out.step rd hod)
                clear SL rd hod ks kd
                go_wp2
                go_roundw
                case rel => exact ⟨j + 1, by omega, by go_num, SD⟩
                case measure => simp [intOf]; omega
              · obtain rfl : no = j := by omega
                have kh := held15_any g _ _ SL.out.tab
                unfold OwnP15 at kh
                rw [← I2.out.len, HL.out.2.2] at kh
                have KH := Lib.hid kh
                unfold ptr at KH
                have hnn : ((0 : Nat) : Int) = ((0 : Nat) : Int) := rfl
                have hneq : (((0 : Nat) : Int) != ((0 : Nat) : Int)) = false := by simp
                clear kh
                go_wp2_with fail
                refine KH.out.mono ?_
                rintro e wh ⟨vh, rfl, ownh, hbh⟩
                obtain ⟨Ah, ch, rfl⟩ := own15_is ownh
                have SH := Lib.hid (SL.out.quiet hbh)
                clear SL ownh hbh KH
                go_wp2
                go_roundw
                case rel => exact ⟨k + 1, l, gone, good, Ao, no, co, Ag, 0, cg, by omega, rfl, rfl, by go_num, by omega, HL, I2, SH⟩
                case measure => simp [intOf]; omega
          ·
            have hngp : 0 < ng := by omega
            have hgt : ((0 : Int) < ((ng : Nat) : Int)) := by omega
            obtain ⟨gg, dg, hAg, hgb, hglt⟩ : ∃ gg dg, Value.slice Ag ng cg = .slice (some ⟨gg, 0, none⟩) ng dg ∧ w.heap.size ≤ gg ∧ gg < wr.heap.size := by
              have og := S.out.ogd
              rw [HL.out.2.2] at og
              exact og.form (by omega)
            injection hAg with hAg1 _ hAg2
            subst hAg1 hAg2
            obtain ⟨J, hJ, hJn⟩ : ∃ J : Nat, wrap64 ((IntKind.u64.wrap x).tmod (ng : Int)) = J ∧ J < ng := by
              have x0 : 0 ≤ IntKind.u64.wrap x := by rw [IntKind.wrap_u64]; omega
              have t0 : (IntKind.u64.wrap x).tmod (ng : Int) = IntKind.u64.wrap x % (ng : Int) := Int.tmod_eq_emod_of_nonneg x0
              have t1 := Int.emod_nonneg (IntKind.u64.wrap x) (show (ng : Int) ≠ 0 by omega)
              have t2 := Int.emod_lt_of_pos (IntKind.u64.wrap x) (show (0 : Int) < ng by omega)
              refine ⟨(IntKind.u64.wrap x % (ng : Int)).toNat, ?_, by omega⟩
              rw [t0, ← IntWalk.i64_left, IntWalk.i64_in _ (by omega)]
              omega
            have hJl : (J : Int) < (ng : Int) := by omega
            obtain ⟨q0, hh⟩ : ∃ q0, good[J]? = some q0 := ⟨_, List.getElem?_eq_getElem (by rw [HL.out.2.2]; exact hJn)⟩
            have hsz := S.out.below.size
            have og1 := S1.out.ogd
            rw [HL.out.2.2] at og1
            have hxc : (wr.alloc (.cells #[.int .i64 K, .int .i64 x] 24)).cell? ⟨gg, J, none⟩ = some (.int .i64 q0) := (og1.cellAt J (by omega)).trans (ints_some hh)
            obtain ⟨i2, hde⟩ := I.out.drop hh S1.out.tab.n64
            have hl' := dropL15_len l q0
            rw [HL.out.1] at hl'
            have kd := drop15_any g _ q0 _ S1.out.tab
            rw [hde] at kd
            obtain ⟨l', hl2⟩ : ∃ l', dropL15 l q0 = l' := ⟨_, rfl⟩
            rw [hl2] at kd i2 hl'
            have KD := Lib.hid kd
            have I2 := Lib.hid i2
            have HH := Lib.hid hh
            have HL2 : Hid (l'.length = C ∧ (gone ++ [q0]).length = no + 1 ∧ (good.take J ++ good.drop (J + 1)).length = ng - 1) := Lib.hid ⟨hl', by rw [List.length_append, HL.out.2.1]; rfl, by rw [List.length_append, List.length_take, List.length_drop, HL.out.2.2]; omega⟩
            unfold ptr at KD
            clear S og1 i2 hde hl' kd hl2 hh I IR
            go_wp2_with fail
            refine KD.out.mono ?_
            rintro e w2 ⟨rfl, r2, ho2⟩
            have S2 := Lib.hid (S1.out.step r2 ho2)
            have hs2 := S2.out.below.size
            have lo := S2.out.ogo
            rw [HL.out.2.1] at lo
            have OO := Lib.hid lo
            have lg := S2.out.ogd
            rw [HL.out.2.2] at lg
            have hxc2 : w2.cell? ⟨gg, J, none⟩ = some (.int .i64 q0) := (lg.cellAt J (by omega)).trans (ints_some HH.out)
            clear S1 r2 ho2 KD z0 z1 hxc lo lg
            go_wp2_with (at_builtin; refine app_walk _ rfl (.tmp 57) (.tmp 62) 38 rfl w.heap.size 3 i0 _ 8 Try.underlying38 hi0 hz0 hz1 hz2 rfl (.slice Ao no co) no (ints gone) rfl (OO.out.alloc _) _ (some ⟨w2.heap.size, 0, none⟩) 1 1 [.int .i64 q0] rfl (lies_one15 _ _ _ _) (Nat.le_refl _) (by intro u hu; simp at hu; subst hu; rfl) (by unfold maxLen; omega) (by omega) (by simp; omega) ?_; intro v3 w3 hown3 hg3 hat3; obtain ⟨A3, c3, rfl⟩ := own15_is hown3; have S3 := Lib.hid ((S2.out.quiet (below_al _ _)).moreO (xs := [q0]) hg3 (by rw [HL.out.2.1]; exact hown3) hat3); clear hown3 hg3 hat3 S2 OO hxc2)
            have hs3 := S3.out.below.size
            have lg := S3.out.ogd
            rw [HL.out.2.2] at lg
            have hgl3 := (lg.lt gg rfl).2
            obtain ⟨LH, CH⟩ := head15 lg (show J ≤ ng by omega)
            have hcap : ng ≤ cg := CapOk.of_own lg
            have LH' := Lib.hid LH
            have CH' := Lib.hid CH
            obtain ⟨M, hM⟩ : ∃ M, J + 1 = M := ⟨_, rfl⟩
            rw [hM] at I2 HL2
            have LT := Lib.hid (fun (A : Option Addr) hA hS => tail15 lg (k := M) (A := A) (by omega) hA hS)
            have O1 := Lib.hid (ints_one (good.take J))
            have O2 := Lib.hid (ints_one (good.drop M))
            have hJ1 : J ≤ cg := by omega
            have hJw : IntKind.i64.wrap ((J : Int) + 1) = (M : Int) := by rw [IntWalk.i64_in _ (by omega)]; omega
            have hM0 : (0 : Int) ≤ (M : Int) := by omega
            have hM1 : (M : Int) ≤ (ng : Int) := by omega
            obtain ⟨AA, hAA, hA1, hA2⟩ : ∃ AA : Option Addr, (if cg = M then some (⟨gg, 0, none⟩ : Addr) else some ⟨gg, M, none⟩) = AA ∧ (M < ng → AA = some ⟨gg, M, none⟩) ∧ AA.isSome = true := ⟨_, rfl, fun hlt => by rw [if_neg (by omega)], by split <;> rfl⟩
            have LA := Lib.hid (LT.out AA hA1 hA2)
            clear LH CH lg LT hA1 hA2
            go_region_law (first
              | (refine app_step _ rfl (.tmp 64) (.tmp 67) 38 rfl w3.heap.size 3 i0 _ 8 Try.underlying38 hi0 hz0 hz1 hz2 rfl (.slice (some ⟨w3.heap.size, 0, none⟩) 0 0) 0 [] rfl (own_empty15 (Row.new w3 3 #[]) (Nat.le_refl _)) _ (some ⟨gg, 0, none⟩) J cg (ints (good.take J)) rfl (LH'.out.below (show Below w3.heap.size w3 _ from by go_grown)) CH'.out O1.out (by unfold maxLen; omega) (by omega) (by simp) ?_; intro v5 w5 hown5 hg5 hat5; rw [Nat.zero_add, List.nil_append] at hown5; have HB5 := Lib.hid ((show Below w3.heap.size w3 _ from by go_grown).grown hg5 (by simp) (by intro q hq; simp only [Value.ownBlock, Option.some.injEq] at hq; omega)); have OW5 := Lib.hid hown5; clear hown5 hg5 hat5)
              | (refine app_step _ rfl (.tmp 68) (.tmp 72) 38 rfl w3.heap.size 3 i0 _ 8 Try.underlying38 hi0 hz0 hz1 hz2 rfl v5 J (ints (good.take J)) rfl (own_only OW5.out (Only.of_below (show Below w5.heap.size w5 _ from by go_grown) (fun _ => False)) (fun _ _ q0 => q0)) _ _ (ng - M) (cg - M) (ints (good.drop M)) rfl (LA.out.1.below (below_on HB5.out (show Below w5.heap.size w5 _ from by go_grown))) LA.out.2 O2.out (by unfold maxLen; omega) (by omega) (below_on HB5.out (show Below w5.heap.size w5 _ from by go_grown)).size ?_; intro v6 w6 hown6 hg6 hat6; rw [← ints_append, show J + (ng - M) = ng - 1 from by omega] at hown6; obtain ⟨A6, c6, rfl⟩ := own15_is hown6; have S6 := Lib.hid (S3.out.setG (xs := good.take J ++ good.drop M) ((below_on HB5.out (show Below w5.heap.size w5 _ from by go_grown)).grown hg6 (below_on HB5.out (show Below w5.heap.size w5 _ from by go_grown)).size (fun q hq => (OW5.out.lt q hq).1)) (by rw [HL2.out.2.2]; exact hown6)); clear hown6 hg6 hat6))
            all_goals (try go_simp)
            all_goals
              go_wp2
              go_loopw [128] (fun iv wo => ∃ j : Nat, j ≤ (no + 1) ∧ iv = .int .i64 j ∧ Hid (Once15 w wo g l' (gone ++ [q0]) (good.take J ++ good.drop M) (.slice A3 (no + 1) c3) (.slice A6 (ng - 1) c6))) (fun iv _ => (no + 1) - (intOf iv).toNat)
              case atStart => exact ⟨0, Nat.zero_le _, rfl, S6⟩
              case round =>
                clear S6
                obtain ⟨j, hj, rfl, SL⟩ := hrel
                by_cases hlj : j < (no + 1)
                · obtain ⟨h, hh⟩ : ∃ h, (gone ++ [q0])[j]? = some h := ⟨_, List.getElem?_eq_getElem (by rw [HL2.out.2.1]; exact hlj)⟩
                  obtain ⟨sv, sb, sl, se⟩ := I2.out.stale (List.mem_of_getElem? hh) SL.out.tab.n64
                  have og := SL.out.ogo
                  rw [HL2.out.2.1] at og
                  obtain ⟨go1, co1, hgo, hgb, hglt⟩ := og.form (by omega)
                  injection hgo with hgo1 _ hgo2
                  subst hgo1 hgo2
                  have hxc : wr.cell? ⟨go1, j, none⟩ = some (.int .i64 h) := (og.cellAt j (by omega)).trans (ints_some hh)
                  have hjn : (j : Int) < (((no + 1) : Nat) : Int) := by omega
                  have ks := Lib.hid (slot15_any g _ h _ SL.out.tab)
                  rw [sv, sb] at ks
                  have kd := Lib.hid (drop15_any g _ h _ SL.out.tab)
                  rw [sl, se] at kd
                  unfold ptr at ks kd
                  clear og sv sb sl se hh
                  go_wp2_with fail
                  refine ks.out.mono ?_
                  rintro e w' ⟨rfl, rfl⟩
                  go_wp2_with fail
                  refine kd.out.mono ?_
                  rintro e wd ⟨rfl, rd, hod⟩
                  have SD := Lib.hid (SL.out.step rd hod)
                  clear SL rd hod ks kd
                  go_wp2
                  go_roundw
                  case rel => exact ⟨j + 1, by omega, by go_num, SD⟩
                  case measure => simp [intOf]; omega
                · obtain rfl : (no + 1) = j := by omega
                  have kh := held15_any g _ _ SL.out.tab
                  unfold OwnP15 at kh
                  rw [← I2.out.len, HL2.out.2.2] at kh
                  have KH := Lib.hid kh
                  unfold ptr at KH
                  have hnn : (((ng - 1) : Nat) : Int) = (((ng - 1) : Nat) : Int) := rfl
                  have hneq : ((((ng - 1) : Nat) : Int) != (((ng - 1) : Nat) : Int)) = false := by simp
                  clear kh
                  go_wp2_with fail
                  refine KH.out.mono ?_
                  rintro e wh ⟨vh, rfl, ownh, hbh⟩
                  obtain ⟨Ah, ch, rfl⟩ := own15_is ownh
                  have SH := Lib.hid (SL.out.quiet hbh)
                  clear SL ownh hbh KH
                  go_wp2
                  go_roundw
                  case rel => exact ⟨k + 1, l', gone ++ [q0], good.take J ++ good.drop M, A3, (no + 1), c3, A6, (ng - 1), c6, by omega, rfl, rfl, by go_num, by omega, HL2, I2, SH⟩
                  case measure => simp [intOf]; omega
    · obtain rfl : k = m := by omega
      have HB := Lib.hid S.out.below
      clear S
      go_wp2_with fail
      refine (alive15 _).mono ?_
      rintro e w3 ⟨rfl, hb3⟩
      have HB3 := Lib.hid (below_on HB.out hb3)
      clear hb3
      go_wp2
      go_ret
      exact ⟨rfl, HB3.out⟩

set_option maxRecDepth 100000 in
set_option maxHeartbeats 2000000 in
theorem grantOnce_any (n : Int) (v : Value) (R : List (List Int)) (w : World) (hR : Recs w 2 v R) (hm : R.length ≤ maxLen) :
    Calls Try.prog 4 #[.int .i64 n, v] w fun e w' => e = .returned (.bool true) ∧ Below w.heap.size w w' := by
  unfold maxLen at hm
  have al := Lib.hid (fun W => alive15 W)
  by_cases h3 : n < 1 ∨ 64 < n
  · obtain ⟨A, cc, rfl, hA⟩ := hR
    clear hA
    have nw := Lib.hid (new15_no n w h3)
    clear h3
    go_enter Try.func4, Try.ntmps4
    go_wp2_with fail
    refine nw.out.mono ?_
    rintro e w' ⟨rfl, rfl⟩
    go_wp2_with fail
    refine (al.out _).mono ?_
    rintro e w3 ⟨rfl, hb3⟩
    go_wp2
    go_ret
    exact ⟨rfl, hb3⟩
  · obtain ⟨C, rfl⟩ := Int.eq_ofNat_of_zero_le (show 0 ≤ n by omega)
    by_cases h1 : 150 < R.length
    · obtain ⟨A, cc, rfl, hA⟩ := hR
      clear hA
      have h1' : (150 : Int) < (R.length : Int) := by omega
      have nw := Lib.hid (new15_yes C w (by omega) (by omega))
      clear h3
      go_enter Try.func4, Try.ntmps4
      go_wp2_with fail
      refine nw.out.mono ?_
      rintro e w1 ⟨g, rfl, r1, hg1, hb1⟩
      unfold ptr
      have HB1 := Lib.hid hb1
      clear r1 hg1 hb1
      go_wp2_with fail
      refine (al.out _).mono ?_
      rintro e w3 ⟨rfl, hb3⟩
      go_wp2
      go_ret
      exact ⟨rfl, below_on HB1.out hb3⟩
    · exact grantOnce_main C v R w (by omega) (by omega) hR (by omega)

#print axioms grantOnce_any
end Go.Proofs.Ytikndnagflpckaa
