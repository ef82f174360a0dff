/-
  Layer 6's law BusOrder: the walk.
  Conditions: those that each theorem states.
-/
import Derived.Test.YtgoogclcpnfmkaaBus21
import Derived.Deep.RegionHeld3
import Derived.Deep.RegionLaw
import Derived.Deep.LoopGhost
namespace Go.Proofs.Ytgoogclcpnfmkaa
open Go.ChangeShapes Go.WideShapes Go.ChangeAt Go.RowKit

theorem lst_info : (Try.prog.info? 60).map (fun i => (i.zero, i.size, i.bytes)) = some (some (.slice none 0 0), 1, 24) := by kernel_rfl
theorem made_lists (n : Nat) : (madeCells #[Value.slice none 0 0] n).toList = List.replicate n (.slice none 0 0) := by
  simp [madeCells, Nat.mod_one, List.map_const']

/-- What each core stored: the first are drained, the others wait. -/
def OrdP (qs hs : List (List (Int × Int))) (os : List Int) (k : Nat) : Prop :=
  (∀ (i : Nat) (q h : List (Int × Int)) (o : Int), qs[i]? = some q → hs[i]? = some h → os[i]? = some o → ∃ d : Nat, o = d ∧ h.drop d = q ∧ d + q.length = h.length) ∧ ∀ h ∈ hs, h.length ≤ k

/-- The state behind the inner loop. -/
theorem OrdP.set {qs hs : List (List (Int × Int))} {os : List Int} {k i : Nat} (h : OrdP qs hs os k) {q' h' : List (Int × Int)} {d : Nat} (h1 : h'.drop d = q') (h2 : d + q'.length = h'.length) (h3 : h'.length ≤ k + 1) : OrdP (qs.set i q') (hs.set i h') (os.set i (d : Int)) (k + 1) := by
  refine ⟨fun j q hh o e1 e2 e3 => ?_, fun x hx => ?_⟩
  · rw [List.getElem?_set] at e1 e2 e3
    by_cases e : i = j
    · rw [if_pos e] at e1 e2 e3
      split at e1
      · split at e2
        · split at e3
          · injection e1 with e1
            injection e2 with e2
            injection e3 with e3
            subst e1 e2 e3
            exact ⟨d, rfl, h1, h2⟩
          · cases e3
        · cases e2
      · cases e1
    · rw [if_neg e] at e1 e2 e3
      exact h.1 j q hh o e1 e2 e3
  · rcases List.mem_or_eq_of_mem_set hx with hx | hx
    · have := h.2 x hx; omega
    · rw [hx]; exact h3

theorem app2_step {P : Program} (w : World) {ops : Array Oper} {o : Oper} {a : Act} {K : Act → World → Prop} {Q : Exit → Act → World → Prop} {E : Prop} (hgd : o.guard = none) (s x : Operand) (t : TypeId)
    (ho : o.op = .call { callee := .builtin .append, args := #[s, x], argTypes := #[t, t] }) (base : Nat) (e : TypeId) (i : TypeInfo) (z : Value) (bytes : Nat) (ht : P.underlying t = some (.slice e)) (hi : P.info? e = some i) (hz : i.zero = some z)
    (hsize : i.size = 2) (hby : i.bytes = bytes) (hzs : z.cells.size = 2) (v : Value) (n : Nat) (xs : List Value) (hs : a.eval s = v) (hown : w.ownsRow base e 2 v n xs)
    (Pl : Nat → Prop) (A : Option Addr) (m c : Nat) (news : List (Value × Value)) (hx : a.eval x = .slice A m c) (hr : Two w Pl (.slice A m c) news) (hcap : CapOk (.slice A m c)) (h1 : ∀ u ∈ flat news, u.oneCell' = true)
    (h63 : n + m ≤ maxLen) (hbytes : (n + m) * bytes ≤ 140737488355328) (hbase : base ≤ w.heap.size)
    (h : ∀ v' w', w'.ownsRow base e 2 v' (n + m) (xs ++ flat news) → w.grownBy w' v.ownBlock → (v'.ownBlock = v.ownBlock ∨ v'.ownBlock = some w.heap.size) → K (a.put o.dst v') w') :
    if Region.wanted o (yielded ops a.tmps) = true then Oper.wp P o a w K Q else E := by
  obtain ⟨v', w', hrun, h2, h3, h4⟩ := app2_run (P := P) w base t o.type e i z bytes ht hi hz hsize hby hzs v n xs hown Pl A m c news hr hcap h1 h63 hbytes hbase
  have hw : Region.wanted o (yielded ops a.tmps) = true := by simp [Region.wanted, hgd]
  rw [if_pos hw]
  unfold Oper.wp
  simp [execOp, ho, resolve, invoke, builtin, hs, hx, hrun, Result.andThen]
  exact h v' w' h2 h3 h4

theorem own_slice {w : World} {base : Nat} {e : TypeId} {size : Nat} {v : Value} {k : Nat} {xs : List Value} (h : w.ownsRow base e size v k xs) : ∃ A c, v = .slice A k c := by
  rcases h.2 with ⟨rfl, h0⟩ | ⟨g, cap, cur, rfl, _⟩
  · rw [h0]; exact ⟨none, 0, rfl⟩
  · exact ⟨_, cap, rfl⟩

theorem word_next {l : List Int} {e : List (Int × Int)} {n j : Nat} {p : Int × Int} (hl : l.length = n) (he : InMem n e) (hp : e[j]? = some p) : (drs l (e.take j)).set p.1.toNat p.2 = drs l (e.take (j + 1)) := by
  have h1 : (e.drop j).take 1 = [p] := by
    obtain ⟨h2, rfl⟩ := List.getElem?_eq_some_iff.1 hp
    rw [List.drop_eq_getElem_cons h2]
    rfl
  rw [← drs_more, h1, drs_one]
  exact (fillL_set (ok_fill (by rw [drs_len, hl]; exact he p (List.mem_of_getElem? hp)))).symm

theorem keep_o {w0 : World} {p p' : Addr} {u v : Value} (f0 : w0.cell? p = some u) (f1 : w0.cell? p' = some v) (l0 : p.block < w0.heap.size) (l1 : p'.block < w0.heap.size) {W : World} (hb : Below w0.heap.size w0 W) : W.cell? p = some u ∧ W.cell? p' = some v ∧ Below w0.heap.size w0 W :=
  ⟨(hb.cell (p := p) l0).trans f0, (hb.cell (p := p') l1).trans f1, hb⟩

set_option maxRecDepth 100000 in
set_option maxHeartbeats 4000000 in
theorem busOrder_main (C n N : Nat) (v : Value) (R : List (List Int)) (w : World) (h0 : 1 ≤ C) (h1 : C ≤ 8) (hn0 : 1 ≤ n) (hn1 : n ≤ 200) (hN0 : 1 ≤ N) (hN1 : N ≤ 16) (hR : Recs w 4 v R) (hm : R.length ≤ 80) :
    Calls Try.prog 5 #[.int .i64 (C : Int), .int .i64 (n : Int), .int .i64 (N : Int), v] w fun e w' => e = .returned (.bool true) ∧ Below w.heap.size w w' := by
  obtain ⟨i0, hi0, hz0, hz1, hz2⟩ := info_parts st_info
  have HR := Lib.hid hR
  obtain ⟨A, cc, rfl, hA⟩ := hR
  clear hA
  obtain ⟨m, hm'⟩ : ∃ m, R.length = m := ⟨_, rfl⟩
  rw [hm'] at hm HR ⊢
  have HM := Lib.hid hm'; clear hm'
  have NW := Lib.hid (new6_yes C n N w h0 h1 hn0 (by omega) hN0 hN1)
  have fw := few6_any (n : Int) A m cc
  have hfew : (decide ((m : Int) ≤ 80) && decide ((n : Int) ≤ 200)) = true := by simp; omega
  rw [hfew] at fw
  have FW := Lib.hid fw
  clear fw hfew
  unfold ptr at NW
  have hmk1 := fun W => run_make_row' (P := Try.prog) 58 60 (.slice none 0 0) 24 Try.underlying58 lst_info rfl .i64 .i64 C (by omega) (by omega) W
  have hmk2 := fun W => run_make_row' (P := Try.prog) 30 3 (.int .i64 0) 8 Try.underlying30 int_info rfl .i64 .i64 C (by omega) (by omega) W
  have hmk3 := fun W => run_make_row' (P := Try.prog) 30 3 (.int .i64 0) 8 Try.underlying30 int_info rfl .i64 .i64 n (by omega) (by omega) W
  go_enter Try.func5, Try.ntmps5
  go_wp2_with fail
  refine NW.out.mono ?_
  rintro e w1 ⟨L, rfl, hr1, hn1', hb1⟩
  go_wp2_with fail
  refine (FW.out w1).mono ?_
  rintro e w' ⟨rfl, rfl⟩
  have co := fun W (hb : Below w1.heap.size w1 W) => cores6_any L N _ _ W (hr1.below hb)
  rw [List.length_replicate] at co
  unfold ptr at co
  have CO := Lib.hid co
  clear co
  go_wp2_with fail
  refine (CO.out _ (Below.refl _ _)).mono ?_
  rintro e w' ⟨rfl, rfl⟩
  go_wp2_with fail
  refine (CO.out _ (below_al _ _)).mono ?_
  rintro e w' ⟨rfl, rfl⟩
  have st : Ord6 w (((w1.alloc (.cells (madeCells #[Value.slice none 0 0] C) 60)).alloc (.cells (madeCells #[Value.int .i64 0] C) 3)).alloc (.cells (madeCells #[Value.int .i64 0] n) 3)) (L.up L.hf) N C n w1.heap.size (w1.heap.size + 1) (w1.heap.size + 1 + 1) (List.replicate n 0) (List.replicate n 0) (List.replicate C []) (List.replicate C []) (List.replicate C 0) (List.replicate C (.slice none 0 0)) := by
    have hb3 : Below w1.heap.size w1 (((w1.alloc (.cells (madeCells #[Value.slice none 0 0] C) 60)).alloc (.cells (madeCells #[Value.int .i64 0] C) 3)).alloc (.cells (madeCells #[Value.int .i64 0] n) 3)) := below_on (below_on (below_al _ _) (below_al _ _)) (below_al _ _)
    have q1 := ((Row.new w1 60 (madeCells #[Value.slice none 0 0] C)).below (below_al _ (.cells (madeCells #[Value.int .i64 0] C) 3))).below (below_al _ (.cells (madeCells #[Value.int .i64 0] n) 3))
    have q2 := (Row.new (w1.alloc (.cells (madeCells #[Value.slice none 0 0] C) 60)) 3 (madeCells #[Value.int .i64 0] C)).below (below_al _ (.cells (madeCells #[Value.int .i64 0] n) 3))
    have q3 := Row.new ((w1.alloc (.cells (madeCells #[Value.slice none 0 0] C) 60)).alloc (.cells (madeCells #[Value.int .i64 0] C) 3)) 3 (madeCells #[Value.int .i64 0] n)
    rw [made_lists] at q1
    rw [ints_zeros] at q2 q3
    simp only [size_al] at q2 q3
    have hfp : ∀ b, w1.heap.size ≤ b → ¬ L.fp C b := fun b hb hf => by
      have := hr1.fp_lt (b := b) (by rw [List.length_replicate]; exact hf)
      omega
    refine ⟨⟨hr1.below hb3, hn1', below_on hb1 hb3⟩, q1, q2, q3, ?_, ?_, hfp _ (by omega), hfp _ (by omega), by omega, ⟨hb1.size, by have := hb1.size; omega, by have := hb1.size; omega⟩, by simp, by simp, by simp, by simp, by simp, by simp⟩
    · intro i v h e1 e2
      rw [List.getElem?_replicate] at e1 e2
      by_cases hi : i < C
      · rw [if_pos hi] at e1 e2
        injection e1 with e1
        injection e2 with e2
        subst e1 e2
        exact World.ownsRow_nil _ _ _ _
      · rw [if_neg hi] at e1
        cases e1
    · intro i j v u b _ e1 _ e3
      rw [List.getElem?_replicate] at e1
      by_cases hi : i < C
      · rw [if_pos hi] at e1
        injection e1 with e1
        subst e1
        cases e3
      · rw [if_neg hi] at e1
        cases e1
  have stP : OrdP (List.replicate C []) (List.replicate C []) (List.replicate C 0) 0 := by
    refine ⟨fun i q h o e1 e2 e3 => ?_, fun h hh => by rw [List.eq_of_mem_replicate hh]; simp⟩
    rw [List.getElem?_replicate] at e1 e2 e3
    by_cases hi : i < C
    · rw [if_pos hi] at e1 e2 e3
      injection e1 with e1
      injection e2 with e2
      injection e3 with e3
      subst e1 e2 e3
      exact ⟨0, rfl, rfl, rfl⟩
    · rw [if_neg hi] at e1
      cases e1
  have ST := Lib.hid st
  have STP := Lib.hid stP
  clear st stP hr1 hn1' hb1
  go_wp2_with fail
  generalize hS1 : w1.heap.size = S1 at ST ⊢
  generalize ((w1.alloc (.cells (madeCells #[Value.slice none 0 0] C) 60)).alloc (.cells (madeCells #[Value.int .i64 0] C) 3)).alloc (.cells (madeCells #[Value.int .i64 0] n) 3) = ws at ST ⊢
  generalize hS2 : S1 + 1 = S2 at ST ⊢
  generalize hS3 : S2 + 1 = S3 at ST ⊢
  go_loopw [50] (fun i wr => ∃ (k : Nat) (f : Nat → Option Nat) (l : List Int) (qs hs : List (List (Int × Int))) (os : List Int) (sv : List Value), k ≤ m ∧ i = .int .i64 k ∧ Hid (Ord6 w wr (L.up f) N C n S1 S2 S3 l l qs hs os sv ∧ OrdP qs hs os k)) (fun i _ => m - (intOf i).toNat)
  case atStart => exact ⟨0, L.hf, _, _, _, _, _, Nat.zero_le _, rfl, Lib.hid ⟨ST.out, STP.out⟩⟩
  case round =>
    clear ST STP hS1 hS2 hS3
    obtain ⟨k, f, l, qs, hs, os, sv, hk, rfl, hss⟩ := hrel
    obtain ⟨m0, mp⟩ := hss.out
    have M := Lib.hid m0
    have MP := Lib.hid mp
    have hbel := m0.on.bel
    clear hss m0 mp
    by_cases hlt : k < m
    · obtain ⟨ad, c', K, c, a, x, hzs, hv', hz, d0, d1, d2, d3⟩ := Recs.four HR.out hbel (by rw [HM.out]; exact hlt)
      rw [HM.out] at hv'
      injection hv' with hv' _ hv2
      subst hv' hv2
      clear hzs hz hbel
      have MP1 : Hid (OrdP qs hs os (k + 1)) := Lib.hid ⟨MP.out.1, fun h hh => by have := MP.out.2 h hh; omega⟩
      have M1 := Lib.hid (M.out.below (below_al wr (.cells #[.int .i64 K, .int .i64 c, .int .i64 a, .int .i64 x] 37)))
      by_cases h4 : K = 4
      · subst h4
        go_wp2_with fail
        go_roundw
        case rel => exact ⟨k + 1, f, l, qs, hs, os, sv, by omega, by go_num, Lib.hid ⟨M1.out, MP1.out⟩⟩
        case measure => simp [intOf]; omega
      have b4 : (K == 4) = false := by simpa using h4
      by_cases h5 : K = 5
      · subst h5
        go_wp2_with fail
        go_roundw
        case rel => exact ⟨k + 1, f, l, qs, hs, os, sv, by omega, by go_num, Lib.hid ⟨M1.out, MP1.out⟩⟩
        case measure => simp [intOf]; omega
      have b5 : (K == 5) = false := by simpa using h5
      have DO := do6_all (L.up f) N l qs K c a x _ M1.out.on.bus
      by_cases hE : dE l qs K c a x = 0
      · have hin : cIn qs c := by
          by_cases h : cIn qs c
          · exact h
          · unfold dE at hE
            rw [if_neg h] at hE
            exact absurd hE (by decide)
        have hpE : pE l K a x = 0 := by
          unfold dE at hE
          rw [if_pos hin] at hE
          exact hE
        obtain ⟨i, rfl⟩ := Int.eq_ofNat_of_zero_le hin.1
        have hq := qAt_some hin
        rw [Int.toNat_natCast] at hq
        generalize qAt qs i = q at hq
        have hi : i < C := by have := lt_of_at hq; rw [M.out.lenq] at this; exact this
        obtain ⟨h, hh⟩ : ∃ h, hs[i]? = some h := ⟨_, List.getElem?_eq_getElem (by rw [M.out.lenh]; exact hi)⟩
        obtain ⟨o, hoo⟩ : ∃ o, os[i]? = some o := ⟨_, List.getElem?_eq_getElem (by rw [M.out.leno]; exact hi)⟩
        obtain ⟨v, hv⟩ : ∃ v, sv[i]? = some v := ⟨_, List.getElem?_eq_getElem (by rw [M.out.lenv]; exact hi)⟩
        obtain ⟨dd, rfl, hdrop, hlen⟩ := MP.out.1 i q h o hq hh hoo
        obtain ⟨eQ, eL, eT⟩ := order_step (q := q) hN0 h4 h5 hpE
        have dLe : dL N l qs K i a x = pL N l q K a x := by unfold dL; rw [if_pos hin]; unfold qAt; rw [Int.toNat_natCast, List.getD_eq_getElem?_getD, hq]; rfl
        have dQe : dQ N l qs K i a x = qs.set i (pQ N l q K a x) := by unfold dQ; rw [if_pos hin]; unfold qAt; rw [Int.toNat_natCast, List.getD_eq_getElem?_getD, hq]; rfl
        obtain ⟨zn, hzn⟩ : ∃ z, dN l qs K i a x = z := ⟨_, rfl⟩
        rw [hE, dLe, dQe, hzn] at DO
        unfold opV ptr at DO
        have DOO := Lib.hid DO
        have hIM := InMem.of_bus M.out.on.bus hq
        have hIMe : InMem n (addQ q K a x) := by
          rw [M.out.lenl] at hIM
          intro p hp
          unfold addQ at hp
          rcases List.mem_append.1 hp with hp | hp
          · exact hIM p hp
          · by_cases hK0 : K = 0
            · rw [if_pos hK0] at hp
              simp at hp
              subst hp
              have hf : fillE l.length a 1 x = 0 := by have := hpE; unfold pE at this; rw [if_pos hK0] at this; exact this
              obtain ⟨w1', w2'⟩ := fillE_word hf M.out.on.bus.ram.len
              exact ⟨w1', by rw [M.out.lenl] at w2'; exact w2'⟩
            · rw [if_neg hK0] at hp
              simp at hp
        have hok := M.out.own i v h hv hh
        obtain ⟨Av, cv, rfl⟩ := own_slice hok
        have hhk : h.length ≤ k := MP.out.2 h (List.mem_of_getElem? hh)
        have HIM := Lib.hid hIMe
        have HEQ := Lib.hid (And.intro eQ (And.intro eL eT))
        have HD := Lib.hid (And.intro hdrop hlen)
        have HQS := Lib.hid (And.intro hq (And.intro hh (And.intro hoo hv)))
        obtain ⟨hl, hhl⟩ : ∃ hl, h.length = hl := ⟨_, rfl⟩
        rw [hhl] at hhk HQS
        have HHL := Lib.hid hhl
        clear DO hzn dLe dQe eQ eL eT hdrop hlen hq hh hoo hv hIM hIMe hok hin hpE hE hhl
        go_wp2_with fail
        refine DOO.out.mono ?_
        rintro e w2 h2
        obtain ⟨f2, rfl, m2, ho2⟩ := M1.out.step List.length_set (pL_len _ _ _ _ _ _) h2
        have hop := (Row.new wr 37 #[.int .i64 K, .int .i64 (i : Int), .int .i64 a, .int .i64 x]).only ho2 (fun hf => by have := M.out.on.bus.fp_lt (by rw [M.out.lenq]; exact hf); omega)
        have p0 := hop.cell 0
        have p1 := hop.cell 1
        have p2 := hop.cell 2
        have p3 := hop.cell 3
        simp only [List.getElem?_cons_zero, List.getElem?_cons_succ] at p0 p1 p2 p3
        have c1 : w2.cell? ⟨S1, i, none⟩ = some (.slice Av hl cv) := by rw [m2.row1.cell]; exact HQS.out.2.2.2
        have s1 := m2.row1.soft i
        have M2 := Lib.hid m2
        have HOP := Lib.hid hop
        have hS1lt := m2.row1.lt
        have hoblt := hop.lt
        have hS1o : S1 ≠ wr.heap.size := m2.row1.ne hop (by decide)
        clear h2 m2 ho2 hop
        by_cases hK0 : K = 0
        · subst hK0
          have own2 := M2.out.own i _ h HQS.out.2.2.2 HQS.out.2.1
          rw [HHL.out] at own2
          have OW2 := Lib.hid own2
          have hbb : Below w2.heap.size w2 w2 := Below.refl _ _
          have KK := Lib.hid (fun (W : World) (hb : Below w2.heap.size w2 W) => (show W.cell? ⟨wr.heap.size, 1, none⟩ = some (.int .i64 (i : Int)) ∧ W.cell? ⟨wr.heap.size, 2, none⟩ = some (.int .i64 a) ∧ W.cell? ⟨wr.heap.size, 3, none⟩ = some (.int .i64 x) ∧ w2.heap.size ≤ W.heap.size from ⟨(HOP.out.below hb).cell 1, (HOP.out.below hb).cell 2, (HOP.out.below hb).cell 3, hb.size⟩))
          have KG := Lib.hid (fun (W W' : World) (hb : Below w2.heap.size w2 W) (hg : W.grownBy W' (Value.slice Av hl cv).ownBlock) => (show W'.cell? ⟨wr.heap.size, 1, none⟩ = some (.int .i64 (i : Int)) ∧ W'.cell? ⟨wr.heap.size, 2, none⟩ = some (.int .i64 a) ∧ W'.cell? ⟨wr.heap.size, 3, none⟩ = some (.int .i64 x) ∧ W'.cell? ⟨S1, i, none⟩ = some (.slice Av hl cv) ∧ w2.heap.size ≤ W'.heap.size from by
            have hne1 : some wr.heap.size ≠ (Value.slice Av hl cv).ownBlock := fun e => absurd (own_ne (own_only OW2.out (Only.of_below hb (fun _ => False)) (fun _ _ h => h)) e.symm (HOP.out.below hb)) (by decide)
            have hne2 : some S1 ≠ (Value.slice Av hl cv).ownBlock := fun e => absurd (own_ne (own_only OW2.out (Only.of_below hb (fun _ => False)) (fun _ _ h => h)) e.symm (M2.out.row1.below hb)) (by decide)
            have q1 := (HOP.out.below hb).of_grown hg hne1
            have q2 := (M2.out.row1.below hb).of_grown hg hne2
            exact ⟨q1.cell 1, q1.cell 2, q1.cell 3, by rw [q2.cell]; exact HQS.out.2.2.2, Nat.le_trans hb.size hg.size⟩))
          have KS := Lib.hid (fun (W W' : World) (hb : Below w2.heap.size w2 W) (hg : W.grownBy W' (Value.slice Av hl cv).ownBlock) => (show W'.frozen? ⟨S1, i, none⟩ = false from by
            have hne2 : some S1 ≠ (Value.slice Av hl cv).ownBlock := fun e => absurd (own_ne (own_only OW2.out (Only.of_below hb (fun _ => False)) (fun _ _ h => h)) e.symm (M2.out.row1.below hb)) (by decide)
            exact ((M2.out.row1.below hb).of_grown hg hne2).soft i))
          have KT := Lib.hid (fun (W W' : World) (hb : Below w2.heap.size w2 W) (hg : W.grownBy W' (Value.slice Av hl cv).ownBlock) (u : Value) => (show (W'.setCell ⟨S1, i, none⟩ u).cell? ⟨wr.heap.size, 1, none⟩ = some (.int .i64 (i : Int)) ∧ (W'.setCell ⟨S1, i, none⟩ u).cell? ⟨wr.heap.size, 2, none⟩ = some (.int .i64 a) ∧ (W'.setCell ⟨S1, i, none⟩ u).cell? ⟨wr.heap.size, 3, none⟩ = some (.int .i64 x) ∧ w2.heap.size ≤ (W'.setCell ⟨S1, i, none⟩ u).heap.size from by
            have hne1 : some wr.heap.size ≠ (Value.slice Av hl cv).ownBlock := fun e => absurd (own_ne (own_only OW2.out (Only.of_below hb (fun _ => False)) (fun _ _ h => h)) e.symm (HOP.out.below hb)) (by decide)
            have q1 := ((HOP.out.below hb).of_grown hg hne1).far (p := ⟨S1, i, none⟩) (fun e => hS1o e.symm) u
            exact ⟨q1.cell 1, q1.cell 2, q1.cell 3, by simpa [World.setCell] using Nat.le_trans hb.size hg.size⟩))
          clear own2
          go_wp2_with fail
          refine wp_region_held_drew (S := (fun W => W.cell? ⟨wr.heap.size, 1, none⟩ = some (.int .i64 (i : Int)) ∧ W.cell? ⟨wr.heap.size, 2, none⟩ = some (.int .i64 a) ∧ W.cell? ⟨wr.heap.size, 3, none⟩ = some (.int .i64 x) ∧ w2.heap.size ≤ W.heap.size)) (by kernel_rfl) (KK.out _ hbb.drew) (fun hHeld => ?_)
          refine wpAnyH_take (i := 0) (v := ?_) rfl (by kernel_rfl) (by kernel_rfl) (by kernel_rfl) (fun _ _ _ h => h) (Or.inl ⟨by rfl, ?_⟩) (by assumption) ?_
          rotate_left 1
          · intro w9 hSw
            try dsimp only at hSw
            go_simp
            try with_reducible rfl
          simp only [Act.put]
          refine wpAnyH_take (i := 1) (v := ?_) rfl (by kernel_rfl) (by kernel_rfl) (by kernel_rfl) (fun _ _ _ h => h) (Or.inl ⟨by rfl, ?_⟩) (by assumption) ?_
          rotate_left 1
          · intro w9 hSw
            try dsimp only at hSw
            go_simp
            try with_reducible rfl
          simp only [Act.put]
          refine wpAnyH_take (i := 2) (v := ?_) rfl (by kernel_rfl) (by kernel_rfl) (by kernel_rfl) (fun _ _ _ h => h) (Or.inl ⟨by rfl, ?_⟩) (by assumption) ?_
          rotate_left 1
          · intro w9 hSw
            try dsimp only at hSw
            go_simp
            try with_reducible rfl
          simp only [Act.put]
          refine wpAnyH_take (i := 3) (v := ?_) rfl (by kernel_rfl) (by kernel_rfl) (by kernel_rfl) (fun _ _ _ h => h) (Or.inl ⟨by rfl, ?_⟩) (by assumption) ?_
          rotate_left 1
          · intro w9 hSw
            try dsimp only at hSw
            go_simp
            try with_reducible rfl
          simp only [Act.put]
          refine wpAnyH_take (i := 4) (v := ?_) rfl (by kernel_rfl) (by kernel_rfl) (by kernel_rfl) (fun _ _ _ h => h) (Or.inl ⟨by rfl, ?_⟩) (by assumption) ?_
          rotate_left 1
          · intro w9 hSw
            try dsimp only at hSw
            go_simp
            try with_reducible rfl
          simp only [Act.put]
          refine wpAnyH_take (i := 5) (v := ?_) rfl (by kernel_rfl) (by kernel_rfl) (by kernel_rfl) (fun _ _ _ h => h) (Or.inl ⟨by rfl, ?_⟩) (by assumption) ?_
          rotate_left 1
          · intro w9 hSw
            try dsimp only at hSw
            go_simp
            try with_reducible rfl
          simp only [Act.put]
          refine wpAnyH_take (i := 6) (v := ?_) rfl (by kernel_rfl) (by kernel_rfl) (by kernel_rfl) (fun _ _ _ h => h) (Or.inl ⟨by rfl, ?_⟩) (by assumption) ?_
          rotate_left 1
          · intro w9 hSw
            try dsimp only at hSw
            go_simp
            try with_reducible rfl
          simp only [Act.put]
          refine wpAnyH_take (i := 8) (v := ?_) rfl (by kernel_rfl) (by kernel_rfl) (by kernel_rfl) (fun _ _ _ h => h) (Or.inl ⟨by rfl, ?_⟩) (by assumption) ?_
          rotate_left 1
          · intro w9 hSw
            try dsimp only at hSw
            go_simp
            try with_reducible rfl
          simp only [Act.put]
          refine wpAnyH_take (i := 9) (v := ?_) rfl (by kernel_rfl) (by kernel_rfl) (by kernel_rfl) (fun _ _ _ h => h) (Or.inl ⟨by rfl, ?_⟩) (by assumption) ?_
          rotate_left 1
          · intro w9 hSw
            try dsimp only at hSw
            go_simp
            try with_reducible rfl
          simp only [Act.put]
          refine wpAnyH_take (i := 10) (v := ?_) rfl (by kernel_rfl) (by kernel_rfl) (by kernel_rfl) (fun _ _ _ h => h) (Or.inl ⟨by rfl, ?_⟩) (by assumption) ?_
          rotate_left 1
          · intro w9 hSw
            try dsimp only at hSw
            go_simp
            try with_reducible rfl
          simp only [Act.put]
          refine wpAnyH_take (i := 11) (v := ?_) rfl (by kernel_rfl) (by kernel_rfl) (by kernel_rfl) (fun _ _ _ h => h) (Or.inl ⟨by rfl, ?_⟩) (by assumption) ?_
          rotate_left 1
          · intro w9 hSw
            try dsimp only at hSw
            go_simp
            try with_reducible rfl
          simp only [Act.put]
          refine wpAnyH_take (i := 12) (v := ?_) rfl (by kernel_rfl) (by kernel_rfl) (by kernel_rfl) (fun _ _ _ h => h) (Or.inl ⟨by rfl, ?_⟩) (by assumption) ?_
          rotate_left 1
          · intro w9 hSw
            try dsimp only at hSw
            go_simp
            try with_reducible rfl
          simp only [Act.put]
          refine wpAnyH_ready (rs := [7, 13]) (by kernel_rfl) (by simp) ?_
          refine AllReadyH.cons rfl (fun K9 hK => ?_) (AllReadyH.cons rfl (fun K9 hK => ?_) AllReadyH.nil)
          · go_simp
            refine hK.out _ _ (KK.out _ hbb.drew) (fun hHeld => ?_)
            clear hK K9
            try simp only [Act.put]
            refine wpAnyH_ready (rs := [13]) (by kernel_rfl) (by simp) ?_
            refine AllReadyH.cons rfl (fun K9 hK => ?_) AllReadyH.nil
            go_simp
            refine hK.out _ _ (KK.out _ (below_on (below_q w2 1) (below_al _ _))) (fun hHeld => ?_)
            clear hK K9
            try simp only [Act.put]
            refine wpAnyH_ready (rs := [14]) (by kernel_rfl) (by simp) ?_
            refine AllReadyH.cons rfl (fun K9 hK => ?_) AllReadyH.nil
            refine app2_step _ rfl (.tmp 92) (.tmp 98) 60 rfl w.heap.size 62 i0 _ 16 Try.underlying60 hi0 hz0 hz1 hz2 rfl (.slice Av hl cv) hl (flat (sts h)) rfl ((own_only OW2.out (Only.of_below (below_on (below_q w2 1) (below_al _ _)) (fun _ => False)) (fun _ _ h => h))) (· = w2.heap.size) (some ⟨w2.heap.size, 0, none⟩) 1 1 [(.int .i64 a, .int .i64 x)] rfl (Two.one _ _ _ _ _) (Nat.le_refl _) (st_one _ _) (by unfold maxLen; omega) (by omega) (by have := M2.out.on.bel.size; simp; omega) ?_; intro v3 w3 hown3 hg3 hat3; obtain ⟨g3, cap3, rfl, hbg3, hlt3⟩ := hown3.form (by omega); have y1 := (KG.out _ _ (below_on (below_q w2 1) (below_al _ _)) hg3).2.2.2.1; have ys := KS.out _ _ (below_on (below_q w2 1) (below_al _ _)) hg3; have y2 := (KG.out _ _ (below_on (below_q w2 1) (below_al _ _)) hg3).1
            refine hK.out _ _ ((fun z => ⟨z.1, z.2.1, z.2.2.1, z.2.2.2.2⟩) (KG.out _ _ (below_on (below_q w2 1) (below_al _ _)) hg3)) (fun hHeld => ?_)
            clear hK K9
            try simp only [Act.put]
            refine wpAnyH_ready (rs := [15]) (by kernel_rfl) (by simp) ?_
            refine AllReadyH.cons rfl (fun K9 hK => ?_) AllReadyH.nil
            go_simp
            refine hK.out _ _ ((fun z => ⟨z.1, z.2.1, z.2.2.1, z.2.2.2.2⟩) (KG.out _ _ (below_on (below_q w2 1) (below_al _ _)) hg3)) (fun hHeld => ?_)
            clear hK K9
            try simp only [Act.put]
            refine wpAnyH_ready (rs := [16]) (by kernel_rfl) (by simp) ?_
            refine AllReadyH.cons rfl (fun K9 hK => ?_) AllReadyH.nil
            go_simp
            refine hK.out _ _ (KT.out _ _ (below_on (below_q w2 1) (below_al _ _)) hg3 _) (fun hHeld => ?_)
            clear hK K9
            try simp only [Act.put]
            refine wpAnyH_done (by kernel_rfl) ?_ _
            have B4 : Below w2.heap.size w2 (w2.alloc (.cells #[.int .i64 a, .int .i64 x] 62)).drew := (below_al _ _).drew
            have hne1 : some wr.heap.size ≠ (Value.slice Av hl cv).ownBlock := fun e => absurd (own_ne (own_only OW2.out (Only.of_below B4 (fun _ => False)) (fun _ _ h => h)) e.symm (HOP.out.below B4)) (by decide)
            have hop4 := ((HOP.out.below B4).of_grown hg3 hne1).far (p := ⟨S1, i, none⟩) (fun e => hS1o e.symm) (.slice (some ⟨g3, 0, none⟩) (hl + 1) cap3)
            have m4 := M2.out.append (p := (a, x)) HQS.out.2.2.2 HQS.out.2.1 B4 (by rw [HHL.out]; exact hown3) hg3 hat3
            have p1 := hop4.cell 1
            simp only [List.getElem?_cons_zero, List.getElem?_cons_succ] at p1
            have hls : i < sv.length := lt_of_at HQS.out.2.2.2
            have hlh : i < hs.length := lt_of_at HQS.out.2.1
            have hsv : (sv.set i (.slice (some ⟨g3, 0, none⟩) (hl + 1) cap3))[i]? = some (.slice (some ⟨g3, 0, none⟩) (hl + 1) cap3) := by rw [List.getElem?_set, if_pos rfl, if_pos hls]
            have c1 := (m4.row1.cell i).trans hsv
            have hoblt := hop4.lt
            have hS1lt := m4.row1.lt
            have ea : addQ q 0 a x = q ++ [(a, x)] := by unfold addQ; rw [if_pos rfl]
            have g4 : (qs.set i (pQ N l q 0 a x))[i]? = some (pQ N l q 0 a x) ∧ (hs.set i (h ++ [(a, x)]))[i]? = some (h ++ [(a, x)]) ∧ os[i]? = some (dd : Int) ∧ (sv.set i (.slice (some ⟨g3, 0, none⟩) (hl + 1) cap3))[i]? = some (.slice (some ⟨g3, 0, none⟩) (hl + 1) cap3) ∧ (h ++ [(a, x)]).length = (hl + 1) ∧ (h ++ [(a, x)]).drop dd = addQ q 0 a x ∧ dd + (addQ q 0 a x).length = (hl + 1) := ⟨by rw [List.getElem?_set, if_pos rfl, if_pos (lt_of_at HQS.out.1)], by rw [List.getElem?_set, if_pos rfl, if_pos hlh], HQS.out.2.2.1, hsv, by rw [List.length_append, HHL.out]; rfl, by rw [ea, List.drop_append_of_le_length (by have := HD.out.2; omega), HD.out.1], by rw [ea, List.length_append, ← HHL.out, ← HD.out.2]; simp; omega⟩
            have G4 := Lib.hid g4
            have HOP4 := Lib.hid hop4
            have M4 := Lib.hid m4
            have HK4 : Hid (hl + 1 ≤ k + 1) := Lib.hid (by omega)
            have hhk4 : hl + 1 ≤ 90 := by omega
            clear ea g4 hop4 m4 hsv hls hlh hne1 B4 M2 HQS HHL HD HOP OW2 KK KG KS KT hown3 hg3 hat3 y1 y2 ys hHeld
            generalize hsv4 : sv.set i (.slice (some ⟨g3, 0, none⟩) (hl + 1) cap3) = sv4 at G4 M4
            generalize w3.setCell ⟨S1, i, none⟩ (.slice (some ⟨g3, 0, none⟩) (hl + 1) cap3) = w4 at p1 c1 hoblt hS1lt HOP4 M4 ⊢
            clear hsv4
            generalize hl + 1 = hl4 at c1 G4 HK4 hhk4 ⊢
            generalize h ++ [(a, x)] = h4 at G4 M4
            generalize (some ⟨g3, 0, none⟩ : Option Addr) = A4 at c1 G4 ⊢
            generalize hhs4 : hs.set i h4 = hs4 at G4 M4
            have HS4 : Hid (hs4 = hs.set i h4) := Lib.hid hhs4.symm
            clear hhs4
            obtain ⟨nq, hnq⟩ : ∃ z, (pQ N l q 0 a x).length = z := ⟨_, rfl⟩
            have WA := Lib.hid (fun W hb => waits_r (n := nq) M4.out.on.bus G4.out.1 hnq W hb)
            have HNQ := Lib.hid hnq
            clear hnq
            go_wp2_with fail
            have hbb : Below w4.heap.size w4 w4 := Below.refl _ _
            go_region_held3 (fun w' => w'.cell? ⟨wr.heap.size, 1, none⟩ = some (.int .i64 (i : Int)) ∧ w'.cell? ⟨S1, i, none⟩ = some (.slice A4 hl4 cap3) ∧ Below w4.heap.size w4 w')
              (first
                | exact keep_o p1 c1 hoblt hS1lt hb9
                | exact keep_o p1 c1 hoblt hS1lt hbb.drew
                | exact keep_o p1 c1 hoblt hS1lt hbb
                | go_keep)
              (first
                | (go_at_call 24; (with_reducible refine (WA.out _ ?_).mono ?_); (go_split_ands; assumption); rintro e w9 ⟨b9, rfl, hr9, hb9, hk9⟩))
            obtain ⟨e, he⟩ : ∃ e, addQ q 0 a x = e := ⟨_, rfl⟩
            obtain ⟨t, ht⟩ : ∃ t, outN N l q 0 a x = t := ⟨_, rfl⟩
            obtain ⟨dt, hdt⟩ : ∃ z, dd + t = z := ⟨_, rfl⟩
            have G5 : Hid (h4.drop dd = e ∧ dd + e.length = hl4 ∧ pQ N l q 0 a x = e.drop t ∧ pL N l q 0 a x = drs l (e.take t) ∧ t + nq = e.length ∧ InMem n e ∧ dd + t = dt) := by
              rw [← he, ← ht]
              exact Lib.hid ⟨G4.out.2.2.2.2.2.1, G4.out.2.2.2.2.2.2, HEQ.out.1, HEQ.out.2.1, by rw [← HNQ.out]; exact HEQ.out.2.2, HIM.out, by rw [ht]; exact hdt⟩
            have ew : IntKind.i64.wrap ((hl4 : Int) - (nq : Int)) = (dt : Int) := by
              have h1 := G5.out.2.1
              have h2 := G5.out.2.2.2.2.1
              rw [IntWalk.i64_in _ (by omega)]
              omega
            rw [ew]
            have hdt2 : dt ≤ 100 := by
              have h1 := G5.out.2.1
              have h2 := G5.out.2.2.2.2.1
              omega
            have OP9 := Lib.hid (HOP4.out.below hb9)
            have m9 := M4.out.below hb9
            rw [show os = os.set i (dd : Int) from (set_same G4.out.2.2.1).symm, show l = drs l (e.take 0) from rfl] at m9
            have M9l : Hid (l.length = n) := Lib.hid M.out.lenl
            have M9 := Lib.hid m9
            clear m9 ew he ht hdt p0 p1 p2 p3 c1 s1 hoblt hS1o HOP4 hbb hr9 hb9 hk9 WA
            generalize wr.heap.size = ob at OP9 ⊢
            go_wp2_with fail
            go_loopg [] t (fun gk W => ∃ j dj : Nat, j + gk = t ∧ Hid (dd + j = dj) ∧ Hid (Ord6 w W ((L.up f).up f2) N C n S1 S2 S3 (pL N l q 0 a x) (drs l (e.take j)) (qs.set i (pQ N l q 0 a x)) hs4 (os.set i (dj : Int)) sv4) ∧ Hid (Row W ob 37 [.int .i64 0, .int .i64 (i : Int), .int .i64 a, .int .i64 x]))
            case atStart => exact ⟨0, dd, by omega, Lib.hid rfl, M9, OP9⟩
            case round =>
              obtain ⟨j, dj, hj, HDJ, M5, OP5⟩ := hrel
              have r1 := OP5.out.cell 1
              simp only [List.getElem?_cons_zero, List.getElem?_cons_succ] at r1
              have r2 : wr.cell? ⟨S2, i, none⟩ = some (.int .i64 (dj : Int)) := by rw [M5.out.row2.cell]; exact ints_some (by rw [List.getElem?_set, if_pos rfl, if_pos (lt_of_at G4.out.2.2.1)])
              have r3 : wr.cell? ⟨S1, i, none⟩ = some (.slice A4 hl4 cap3) := by rw [M5.out.row1.cell]; exact G4.out.2.2.2.1
              by_cases hjt : dj < dt
              · obtain ⟨pp, hp⟩ : ∃ p, e[j]? = some p := ⟨_, List.getElem?_eq_getElem (by have h1 := G5.out.2.2.2.2; have h2 := HDJ.out; omega)⟩
                have hhp : h4[dj]? = some pp := by
                  have h1 := G5.out.1
                  rw [← h1, List.getElem?_drop, HDJ.out] at hp
                  exact hp
                obtain ⟨⟨hp0, hp1, hp2, hp3⟩, hp4⟩ := G5.out.2.2.2.2.2.1 pp (List.mem_of_getElem? hp)
                have hdl : dj < hl4 := by
                  have h1 := lt_of_at hhp
                  rw [G4.out.2.2.2.2.1] at h1
                  exact h1
                obtain ⟨pa, px⟩ := pp
                dsimp only at hp0 hp1 hp2 hp3 hp4
                obtain ⟨pn, rfl⟩ := Int.eq_ofNat_of_zero_le hp0
                have hpn : pn < n := by omega
                obtain ⟨g5, o5, hA5, _, hg5, z1, z2⟩ := (Two.of_own (M5.out.own i _ _ G4.out.2.2.2.1 G4.out.2.1)).cells (sts_at hhp)
                subst hA5
                have wn := word_next M9l.out G5.out.2.2.2.2.2.1 hp
                have WN := Lib.hid wn
                have l1 := OP5.out.lt
                have l2 := M5.out.row2.lt
                have l3 := M5.out.row1.lt
                have hbb : Below wr.heap.size wr wr := Below.refl _ _
                have KP := Lib.hid (fun (W : World) (hb : Below wr.heap.size wr W) => (show W.cell? ⟨ob, 1, none⟩ = some (.int .i64 (i : Int)) ∧ W.cell? ⟨S2, i, none⟩ = some (.int .i64 (dj : Int)) ∧ W.cell? ⟨S1, i, none⟩ = some (.slice (some ⟨g5, o5, none⟩) hl4 cap3) ∧ W.cell? ⟨g5, o5 + dj * 2, none⟩ = some (.int .i64 (pn : Int)) ∧ W.cell? ⟨g5, o5 + dj * 2 + 1, none⟩ = some (.int .i64 px) ∧ Below wr.heap.size wr W from ⟨(hb.cell (p := ⟨ob, 1, none⟩) l1).trans r1, (hb.cell (p := ⟨S2, i, none⟩) l2).trans r2, (hb.cell (p := ⟨S1, i, none⟩) l3).trans r3, (hb.cell (p := ⟨g5, o5 + dj * 2, none⟩) hg5).trans z1, (hb.cell (p := ⟨g5, o5 + dj * 2 + 1, none⟩) hg5).trans z2, hb⟩))
                clear hp hhp hp0 hp1 wn
                go_wp2_with fail
                go_region_held3 (fun W => W.cell? ⟨ob, 1, none⟩ = some (.int .i64 (i : Int)) ∧ W.cell? ⟨S2, i, none⟩ = some (.int .i64 (dj : Int)) ∧ W.cell? ⟨S1, i, none⟩ = some (.slice (some ⟨g5, o5, none⟩) hl4 cap3) ∧ W.cell? ⟨g5, o5 + dj * 2, none⟩ = some (.int .i64 (pn : Int)) ∧ W.cell? ⟨g5, o5 + dj * 2 + 1, none⟩ = some (.int .i64 px) ∧ Below wr.heap.size wr W)
                  (first
                    | exact KP.out _ hbb.drew
                    | exact KP.out _ (below_on (below_q wr 1) (below_al _ _))
                    | exact KP.out _ (((below_on (below_q wr 1) (below_al _ _)).setCell (p := ⟨wr.heap.size, 0, none⟩) (Nat.le_refl _) _).setCell (p := ⟨wr.heap.size, 1, none⟩) (Nat.le_refl _) _)
                    | go_keep)
                  (fail)
                have hb6 : Below wr.heap.size wr (wr.alloc (.cells #[.int .i64 (pn : Int), .int .i64 px] 62)).drew := (below_al _ _).drew
                have row6 := (Row.new wr 62 #[.int .i64 (pn : Int), .int .i64 px]).below (Below.refl _ _).drew
                have y0 := row6.cell 0
                have y1 := row6.cell 1
                simp only [List.getElem?_cons_zero, List.getElem?_cons_succ] at y0 y1
                have m6 := M5.out.below hb6
                have op6 := OP5.out.below hb6
                have t1 := op6.cell 1
                simp only [List.getElem?_cons_zero, List.getElem?_cons_succ] at t1
                have t2 := (hb6.cell (p := ⟨S2, i, none⟩) l2).trans r2
                have n1 : ob ≠ S3 := op6.ne m6.row3 (by decide)
                have n2 : S2 ≠ S3 := m6.s23
                have n3 : wr.heap.size ≠ S3 := row6.ne m6.row3 (by decide)
                have n1' := n1.symm
                have n2' := n2.symm
                have f3 := m6.row3.soft pn
                have f2 := m6.row2.soft i
                have c3 : (wr.alloc (.cells #[.int .i64 (pn : Int), .int .i64 px] 62)).drew.cell? ⟨S3, pn, none⟩ = some (.int .i64 ((drs l (e.take j)).getD pn 0)) := by
                  rw [m6.row3.cell]
                  exact ints_at _ _ (by rw [drs_len, M9l.out]; exact hpn)
                have m8 := (m6.word pn px).count i ((dj + 1 : Nat) : Int)
                rw [List.set_set, show (drs l (e.take j)).set pn px = drs l (e.take (j + 1)) from WN.out] at m8
                have M8 := Lib.hid m8
                have OP8 := Lib.hid ((op6.far (p := ⟨S3, pn, none⟩) n1 (.int .i64 px)).far (p := ⟨S2, i, none⟩) (op6.ne m6.row2 (by decide)) (.int .i64 ((dj + 1 : Nat) : Int)))
                clear m6 op6 m8 hb6 row6 KP z1 z2 r1 r2 r3 hbb M5 OP5
                generalize (wr.alloc (.cells #[.int .i64 (pn : Int), .int .i64 px] 62)).drew = w6 at y0 y1 t1 t2 f3 f2 c3 M8 OP8 ⊢
                generalize wr.heap.size = sb at y0 y1 n3 ⊢
                go_wp2_with fail
                go_roundg (gk - 1)
                case measure => have h1 := HDJ.out; have h2 := G5.out.2.2.2.2.2.2; omega
                case rel => exact ⟨j + 1, dj + 1, by have h1 := HDJ.out; have h2 := G5.out.2.2.2.2.2.2; omega, Lib.hid (by have h1 := HDJ.out; omega), M8, OP8⟩
              · obtain rfl : j = t := by have h1 := HDJ.out; have h2 := G5.out.2.2.2.2.2.2; omega
                obtain rfl : dj = dt := by have h1 := HDJ.out; have h2 := G5.out.2.2.2.2.2.2; omega
                have m5 := M5.out
                rw [← G5.out.2.2.2.1] at m5
                have hdl : dj ≤ hl4 := by have h1 := HDJ.out; have h2 := G5.out.2.1; have h3 := G5.out.2.2.2.2.1; omega
                have own5 := m5.own i _ _ G4.out.2.2.2.1 G4.out.2.1
                have tw := (Two.from_ (Two.of_own own5) (CapOk.of_own own5) hdl).1
                have hdr : h4.drop dj = pQ N l q 0 a x := by
                  rw [G5.out.2.2.1, ← G5.out.1, List.drop_drop, HDJ.out]
                rw [sts_drop, hdr] at tw
                have hfit := (m5.on.bus.buf i _ G4.out.1).fit
                have hnq : nq ≤ 65536 := by have h1 := G5.out.2.1; have h2 := G5.out.2.2.2.2.1; omega
                have WA := Lib.hid (fun W hb => waits_r (n := nq) m5.on.bus G4.out.1 HNQ.out W hb)
                have CE := Lib.hid (fun W hb => cells_r tw hfit.2.2.2.2.2 (by rw [HNQ.out]; exact hnq) W hb)
                have HG := Lib.hid hfit.2.2.2.2.2
                have RA := Lib.hid (fun W hb => ram_r m5.on.bus W hb)
                have ly := Lies.of_row (P := fun _ => True) m5.row3 trivial n
                rw [ints_len, m5.lenr] at ly
                have LY := Lib.hid ly
                have HLn : Hid ((pL N l q 0 a x).length ≤ 65536) := Lib.hid (by rw [m5.lenl]; omega)
                have hsl := fun W => slice_st A4 hl4 cap3 dj hdl W
                have MM := Lib.hid m5
                have l1 := OP5.out.lt
                have l2 := M5.out.row2.lt
                have l3 := M5.out.row1.lt
                have hbb : Below wr.heap.size wr wr := Below.refl _ _
                have KP := Lib.hid (fun (W : World) (hb : Below wr.heap.size wr W) => (show W.cell? ⟨ob, 1, none⟩ = some (.int .i64 (i : Int)) ∧ W.cell? ⟨S2, i, none⟩ = some (.int .i64 (dj : Int)) ∧ W.cell? ⟨S1, i, none⟩ = some (.slice A4 hl4 cap3) ∧ Below wr.heap.size wr W from ⟨(hb.cell (p := ⟨ob, 1, none⟩) l1).trans r1, (hb.cell (p := ⟨S2, i, none⟩) l2).trans r2, (hb.cell (p := ⟨S1, i, none⟩) l3).trans r3, hb⟩))
                generalize (if cap3 = dj then A4 else A4.map (·.add (dj * 2))) = At at tw CE hsl
                have HORD : Hid (OrdP (qs.set i (pQ N l q 0 a x)) hs4 (os.set i (dj : Int)) (k + 1)) := by
                  rw [HS4.out]
                  exact Lib.hid (OrdP.set MP.out hdr (by have h1 := G4.out.2.2.2.2.1; have h2 := G5.out.2.1; have h3 := G5.out.2.2.2.2.1; have h4' := HDJ.out; have h5' := HNQ.out; omega) (by have h1 := G4.out.2.2.2.2.1; have h2 := HK4.out; omega))
                clear m5 own5 tw hdr hfit ly M5
                go_wp2_with fail
                go_region_held3 (fun W => W.cell? ⟨ob, 1, none⟩ = some (.int .i64 (i : Int)) ∧ W.cell? ⟨S2, i, none⟩ = some (.int .i64 (dj : Int)) ∧ W.cell? ⟨S1, i, none⟩ = some (.slice A4 hl4 cap3) ∧ Below wr.heap.size wr W)
                  (first
                    | exact KP.out _ hb15
                    | exact KP.out _ hb14
                    | exact KP.out _ hb13
                    | exact KP.out _ hb12
                    | exact KP.out _ hb11
                    | exact KP.out _ hb10
                    | exact KP.out _ hb9
                    | exact KP.out _ hbb.drew
                    | exact KP.out _ hbb
                    | go_keep)
                  (first
                    | (go_at_call 24; (with_reducible refine (WA.out _ ?_).mono ?_); (go_split_ands; assumption); rintro e w9 ⟨b9, rfl, hr9, hb9, hk9⟩)
                    | (go_at_call 27; (with_reducible refine (pairs_r (w0 := wr) hr9.out HNQ.out ?_ hnq).mono ?_); (go_split_ands; assumption); rintro e w10 ⟨v10, rfl, hv10, hb10, hk10⟩)
                    | (go_at_call 27; (with_reducible refine (pairs_r (w0 := wr) (hr9.out.below hk11.out) HNQ.out ?_ hnq).mono ?_); (go_split_ands; assumption); rintro e w10 ⟨v10, rfl, hv10, hb10, hk10⟩)
                    | (go_at_call 28; (with_reducible refine (CE.out _ ?_).mono ?_); (go_split_ands; assumption); rintro e w11 ⟨v11, rfl, hv11, hb11, hk11⟩)
                    | (go_at_call 26; (with_reducible refine (sameCells_r (w0 := wr) hv10.out (hv11.out.below hk10.out) HG.out (by rw [HNQ.out]; exact hnq) ?_).mono ?_); (go_split_ands; assumption); rintro e w12 ⟨rfl, hb12⟩)
                    | (go_at_call 26; (with_reducible refine (sameCells_r (w0 := wr) (hv10.out.below hk11.out) hv11.out HG.out (by rw [HNQ.out]; exact hnq) ?_).mono ?_); (go_split_ands; assumption); rintro e w12 ⟨rfl, hb12⟩)
                    | (go_at_call 26; (with_reducible refine (sameCells_r (w0 := wr) hv10.out ((hv11.out.below hk9.out).below hk10.out) HG.out (by rw [HNQ.out]; exact hnq) ?_).mono ?_); (go_split_ands; assumption); rintro e w12 ⟨rfl, hb12⟩)
                    | (go_at_call 23; (with_reducible refine (RA.out _ ?_).mono ?_); (go_split_ands; assumption); rintro e w13 ⟨g13, h13, rfl, hr13, hb13⟩)
                    | (go_at_call 22; (with_reducible refine (words_r (w0 := wr) hr13.out ?_).mono ?_); (go_split_ands; assumption); rintro e w14 ⟨v14, rfl, hv14, hb14⟩)
                    | (go_at_call 29; (with_reducible refine (same_r (w0 := wr) hv14.out (LY.out.below hb14) HLn.out ?_).mono ?_); (go_split_ands; assumption); rintro e w15 ⟨rfl, hb15⟩))
                all_goals
                  go_wp2_with fail
                  go_roundw
                all_goals first
                  | exact ⟨k + 1, f2, _, _, _, _, _, by omega, by go_num, Lib.hid ⟨MM.out.below hb15, HORD.out⟩⟩
                  | (simp [intOf]; omega)
          · go_simp
            refine hK.out _ _ (KK.out _ (below_on (below_q w2 1) (below_al _ _))) (fun hHeld => ?_)
            clear hK K9
            try simp only [Act.put]
            refine wpAnyH_ready (rs := [7]) (by kernel_rfl) (by simp) ?_
            refine AllReadyH.cons rfl (fun K9 hK => ?_) AllReadyH.nil
            go_simp
            refine hK.out _ _ (KK.out _ (below_on (below_q w2 1) (below_al _ _))) (fun hHeld => ?_)
            clear hK K9
            try simp only [Act.put]
            refine wpAnyH_ready (rs := [14]) (by kernel_rfl) (by simp) ?_
            refine AllReadyH.cons rfl (fun K9 hK => ?_) AllReadyH.nil
            refine app2_step _ rfl (.tmp 92) (.tmp 98) 60 rfl w.heap.size 62 i0 _ 16 Try.underlying60 hi0 hz0 hz1 hz2 rfl (.slice Av hl cv) hl (flat (sts h)) rfl ((own_only OW2.out (Only.of_below (below_on (below_q w2 1) (below_al _ _)) (fun _ => False)) (fun _ _ h => h))) (· = w2.heap.size) (some ⟨w2.heap.size, 0, none⟩) 1 1 [(.int .i64 a, .int .i64 x)] rfl (Two.one _ _ _ _ _) (Nat.le_refl _) (st_one _ _) (by unfold maxLen; omega) (by omega) (by have := M2.out.on.bel.size; simp; omega) ?_; intro v3 w3 hown3 hg3 hat3; obtain ⟨g3, cap3, rfl, hbg3, hlt3⟩ := hown3.form (by omega); have y1 := (KG.out _ _ (below_on (below_q w2 1) (below_al _ _)) hg3).2.2.2.1; have ys := KS.out _ _ (below_on (below_q w2 1) (below_al _ _)) hg3; have y2 := (KG.out _ _ (below_on (below_q w2 1) (below_al _ _)) hg3).1
            refine hK.out _ _ ((fun z => ⟨z.1, z.2.1, z.2.2.1, z.2.2.2.2⟩) (KG.out _ _ (below_on (below_q w2 1) (below_al _ _)) hg3)) (fun hHeld => ?_)
            clear hK K9
            try simp only [Act.put]
            refine wpAnyH_ready (rs := [15]) (by kernel_rfl) (by simp) ?_
            refine AllReadyH.cons rfl (fun K9 hK => ?_) AllReadyH.nil
            go_simp
            refine hK.out _ _ ((fun z => ⟨z.1, z.2.1, z.2.2.1, z.2.2.2.2⟩) (KG.out _ _ (below_on (below_q w2 1) (below_al _ _)) hg3)) (fun hHeld => ?_)
            clear hK K9
            try simp only [Act.put]
            refine wpAnyH_ready (rs := [16]) (by kernel_rfl) (by simp) ?_
            refine AllReadyH.cons rfl (fun K9 hK => ?_) AllReadyH.nil
            go_simp
            refine hK.out _ _ (KT.out _ _ (below_on (below_q w2 1) (below_al _ _)) hg3 _) (fun hHeld => ?_)
            clear hK K9
            try simp only [Act.put]
            refine wpAnyH_done (by kernel_rfl) ?_ _
            have B4 : Below w2.heap.size w2 (w2.alloc (.cells #[.int .i64 a, .int .i64 x] 62)).drew := (below_al _ _).drew
            have hne1 : some wr.heap.size ≠ (Value.slice Av hl cv).ownBlock := fun e => absurd (own_ne (own_only OW2.out (Only.of_below B4 (fun _ => False)) (fun _ _ h => h)) e.symm (HOP.out.below B4)) (by decide)
            have hop4 := ((HOP.out.below B4).of_grown hg3 hne1).far (p := ⟨S1, i, none⟩) (fun e => hS1o e.symm) (.slice (some ⟨g3, 0, none⟩) (hl + 1) cap3)
            have m4 := M2.out.append (p := (a, x)) HQS.out.2.2.2 HQS.out.2.1 B4 (by rw [HHL.out]; exact hown3) hg3 hat3
            have p1 := hop4.cell 1
            simp only [List.getElem?_cons_zero, List.getElem?_cons_succ] at p1
            have hls : i < sv.length := lt_of_at HQS.out.2.2.2
            have hlh : i < hs.length := lt_of_at HQS.out.2.1
            have hsv : (sv.set i (.slice (some ⟨g3, 0, none⟩) (hl + 1) cap3))[i]? = some (.slice (some ⟨g3, 0, none⟩) (hl + 1) cap3) := by rw [List.getElem?_set, if_pos rfl, if_pos hls]
            have c1 := (m4.row1.cell i).trans hsv
            have hoblt := hop4.lt
            have hS1lt := m4.row1.lt
            have ea : addQ q 0 a x = q ++ [(a, x)] := by unfold addQ; rw [if_pos rfl]
            have g4 : (qs.set i (pQ N l q 0 a x))[i]? = some (pQ N l q 0 a x) ∧ (hs.set i (h ++ [(a, x)]))[i]? = some (h ++ [(a, x)]) ∧ os[i]? = some (dd : Int) ∧ (sv.set i (.slice (some ⟨g3, 0, none⟩) (hl + 1) cap3))[i]? = some (.slice (some ⟨g3, 0, none⟩) (hl + 1) cap3) ∧ (h ++ [(a, x)]).length = (hl + 1) ∧ (h ++ [(a, x)]).drop dd = addQ q 0 a x ∧ dd + (addQ q 0 a x).length = (hl + 1) := ⟨by rw [List.getElem?_set, if_pos rfl, if_pos (lt_of_at HQS.out.1)], by rw [List.getElem?_set, if_pos rfl, if_pos hlh], HQS.out.2.2.1, hsv, by rw [List.length_append, HHL.out]; rfl, by rw [ea, List.drop_append_of_le_length (by have := HD.out.2; omega), HD.out.1], by rw [ea, List.length_append, ← HHL.out, ← HD.out.2]; simp; omega⟩
            have G4 := Lib.hid g4
            have HOP4 := Lib.hid hop4
            have M4 := Lib.hid m4
            have HK4 : Hid (hl + 1 ≤ k + 1) := Lib.hid (by omega)
            have hhk4 : hl + 1 ≤ 90 := by omega
            clear ea g4 hop4 m4 hsv hls hlh hne1 B4 M2 HQS HHL HD HOP OW2 KK KG KS KT hown3 hg3 hat3 y1 y2 ys hHeld
            generalize hsv4 : sv.set i (.slice (some ⟨g3, 0, none⟩) (hl + 1) cap3) = sv4 at G4 M4
            generalize w3.setCell ⟨S1, i, none⟩ (.slice (some ⟨g3, 0, none⟩) (hl + 1) cap3) = w4 at p1 c1 hoblt hS1lt HOP4 M4 ⊢
            clear hsv4
            generalize hl + 1 = hl4 at c1 G4 HK4 hhk4 ⊢
            generalize h ++ [(a, x)] = h4 at G4 M4
            generalize (some ⟨g3, 0, none⟩ : Option Addr) = A4 at c1 G4 ⊢
            generalize hhs4 : hs.set i h4 = hs4 at G4 M4
            have HS4 : Hid (hs4 = hs.set i h4) := Lib.hid hhs4.symm
            clear hhs4
            obtain ⟨nq, hnq⟩ : ∃ z, (pQ N l q 0 a x).length = z := ⟨_, rfl⟩
            have WA := Lib.hid (fun W hb => waits_r (n := nq) M4.out.on.bus G4.out.1 hnq W hb)
            have HNQ := Lib.hid hnq
            clear hnq
            go_wp2_with fail
            have hbb : Below w4.heap.size w4 w4 := Below.refl _ _
            go_region_held3 (fun w' => w'.cell? ⟨wr.heap.size, 1, none⟩ = some (.int .i64 (i : Int)) ∧ w'.cell? ⟨S1, i, none⟩ = some (.slice A4 hl4 cap3) ∧ Below w4.heap.size w4 w')
              (first
                | exact keep_o p1 c1 hoblt hS1lt hb9
                | exact keep_o p1 c1 hoblt hS1lt hbb.drew
                | exact keep_o p1 c1 hoblt hS1lt hbb
                | go_keep)
              (first
                | (go_at_call 24; (with_reducible refine (WA.out _ ?_).mono ?_); (go_split_ands; assumption); rintro e w9 ⟨b9, rfl, hr9, hb9, hk9⟩))
            obtain ⟨e, he⟩ : ∃ e, addQ q 0 a x = e := ⟨_, rfl⟩
            obtain ⟨t, ht⟩ : ∃ t, outN N l q 0 a x = t := ⟨_, rfl⟩
            obtain ⟨dt, hdt⟩ : ∃ z, dd + t = z := ⟨_, rfl⟩
            have G5 : Hid (h4.drop dd = e ∧ dd + e.length = hl4 ∧ pQ N l q 0 a x = e.drop t ∧ pL N l q 0 a x = drs l (e.take t) ∧ t + nq = e.length ∧ InMem n e ∧ dd + t = dt) := by
              rw [← he, ← ht]
              exact Lib.hid ⟨G4.out.2.2.2.2.2.1, G4.out.2.2.2.2.2.2, HEQ.out.1, HEQ.out.2.1, by rw [← HNQ.out]; exact HEQ.out.2.2, HIM.out, by rw [ht]; exact hdt⟩
            have ew : IntKind.i64.wrap ((hl4 : Int) - (nq : Int)) = (dt : Int) := by
              have h1 := G5.out.2.1
              have h2 := G5.out.2.2.2.2.1
              rw [IntWalk.i64_in _ (by omega)]
              omega
            rw [ew]
            have hdt2 : dt ≤ 100 := by
              have h1 := G5.out.2.1
              have h2 := G5.out.2.2.2.2.1
              omega
            have OP9 := Lib.hid (HOP4.out.below hb9)
            have m9 := M4.out.below hb9
            rw [show os = os.set i (dd : Int) from (set_same G4.out.2.2.1).symm, show l = drs l (e.take 0) from rfl] at m9
            have M9l : Hid (l.length = n) := Lib.hid M.out.lenl
            have M9 := Lib.hid m9
            clear m9 ew he ht hdt p0 p1 p2 p3 c1 s1 hoblt hS1o HOP4 hbb hr9 hb9 hk9 WA
            generalize wr.heap.size = ob at OP9 ⊢
            go_wp2_with fail
            go_loopg [] t (fun gk W => ∃ j dj : Nat, j + gk = t ∧ Hid (dd + j = dj) ∧ Hid (Ord6 w W ((L.up f).up f2) N C n S1 S2 S3 (pL N l q 0 a x) (drs l (e.take j)) (qs.set i (pQ N l q 0 a x)) hs4 (os.set i (dj : Int)) sv4) ∧ Hid (Row W ob 37 [.int .i64 0, .int .i64 (i : Int), .int .i64 a, .int .i64 x]))
            case atStart => exact ⟨0, dd, by omega, Lib.hid rfl, M9, OP9⟩
            case round =>
              obtain ⟨j, dj, hj, HDJ, M5, OP5⟩ := hrel
              have r1 := OP5.out.cell 1
              simp only [List.getElem?_cons_zero, List.getElem?_cons_succ] at r1
              have r2 : wr.cell? ⟨S2, i, none⟩ = some (.int .i64 (dj : Int)) := by rw [M5.out.row2.cell]; exact ints_some (by rw [List.getElem?_set, if_pos rfl, if_pos (lt_of_at G4.out.2.2.1)])
              have r3 : wr.cell? ⟨S1, i, none⟩ = some (.slice A4 hl4 cap3) := by rw [M5.out.row1.cell]; exact G4.out.2.2.2.1
              by_cases hjt : dj < dt
              · obtain ⟨pp, hp⟩ : ∃ p, e[j]? = some p := ⟨_, List.getElem?_eq_getElem (by have h1 := G5.out.2.2.2.2; have h2 := HDJ.out; omega)⟩
                have hhp : h4[dj]? = some pp := by
                  have h1 := G5.out.1
                  rw [← h1, List.getElem?_drop, HDJ.out] at hp
                  exact hp
                obtain ⟨⟨hp0, hp1, hp2, hp3⟩, hp4⟩ := G5.out.2.2.2.2.2.1 pp (List.mem_of_getElem? hp)
                have hdl : dj < hl4 := by
                  have h1 := lt_of_at hhp
                  rw [G4.out.2.2.2.2.1] at h1
                  exact h1
                obtain ⟨pa, px⟩ := pp
                dsimp only at hp0 hp1 hp2 hp3 hp4
                obtain ⟨pn, rfl⟩ := Int.eq_ofNat_of_zero_le hp0
                have hpn : pn < n := by omega
                obtain ⟨g5, o5, hA5, _, hg5, z1, z2⟩ := (Two.of_own (M5.out.own i _ _ G4.out.2.2.2.1 G4.out.2.1)).cells (sts_at hhp)
                subst hA5
                have wn := word_next M9l.out G5.out.2.2.2.2.2.1 hp
                have WN := Lib.hid wn
                have l1 := OP5.out.lt
                have l2 := M5.out.row2.lt
                have l3 := M5.out.row1.lt
                have hbb : Below wr.heap.size wr wr := Below.refl _ _
                have KP := Lib.hid (fun (W : World) (hb : Below wr.heap.size wr W) => (show W.cell? ⟨ob, 1, none⟩ = some (.int .i64 (i : Int)) ∧ W.cell? ⟨S2, i, none⟩ = some (.int .i64 (dj : Int)) ∧ W.cell? ⟨S1, i, none⟩ = some (.slice (some ⟨g5, o5, none⟩) hl4 cap3) ∧ W.cell? ⟨g5, o5 + dj * 2, none⟩ = some (.int .i64 (pn : Int)) ∧ W.cell? ⟨g5, o5 + dj * 2 + 1, none⟩ = some (.int .i64 px) ∧ Below wr.heap.size wr W from ⟨(hb.cell (p := ⟨ob, 1, none⟩) l1).trans r1, (hb.cell (p := ⟨S2, i, none⟩) l2).trans r2, (hb.cell (p := ⟨S1, i, none⟩) l3).trans r3, (hb.cell (p := ⟨g5, o5 + dj * 2, none⟩) hg5).trans z1, (hb.cell (p := ⟨g5, o5 + dj * 2 + 1, none⟩) hg5).trans z2, hb⟩))
                clear hp hhp hp0 hp1 wn
                go_wp2_with fail
                go_region_held3 (fun W => W.cell? ⟨ob, 1, none⟩ = some (.int .i64 (i : Int)) ∧ W.cell? ⟨S2, i, none⟩ = some (.int .i64 (dj : Int)) ∧ W.cell? ⟨S1, i, none⟩ = some (.slice (some ⟨g5, o5, none⟩) hl4 cap3) ∧ W.cell? ⟨g5, o5 + dj * 2, none⟩ = some (.int .i64 (pn : Int)) ∧ W.cell? ⟨g5, o5 + dj * 2 + 1, none⟩ = some (.int .i64 px) ∧ Below wr.heap.size wr W)
                  (first
                    | exact KP.out _ hbb.drew
                    | exact KP.out _ (below_on (below_q wr 1) (below_al _ _))
                    | exact KP.out _ (((below_on (below_q wr 1) (below_al _ _)).setCell (p := ⟨wr.heap.size, 0, none⟩) (Nat.le_refl _) _).setCell (p := ⟨wr.heap.size, 1, none⟩) (Nat.le_refl _) _)
                    | go_keep)
                  (fail)
                have hb6 : Below wr.heap.size wr (wr.alloc (.cells #[.int .i64 (pn : Int), .int .i64 px] 62)).drew := (below_al _ _).drew
                have row6 := (Row.new wr 62 #[.int .i64 (pn : Int), .int .i64 px]).below (Below.refl _ _).drew
                have y0 := row6.cell 0
                have y1 := row6.cell 1
                simp only [List.getElem?_cons_zero, List.getElem?_cons_succ] at y0 y1
                have m6 := M5.out.below hb6
                have op6 := OP5.out.below hb6
                have t1 := op6.cell 1
                simp only [List.getElem?_cons_zero, List.getElem?_cons_succ] at t1
                have t2 := (hb6.cell (p := ⟨S2, i, none⟩) l2).trans r2
                have n1 : ob ≠ S3 := op6.ne m6.row3 (by decide)
                have n2 : S2 ≠ S3 := m6.s23
                have n3 : wr.heap.size ≠ S3 := row6.ne m6.row3 (by decide)
                have n1' := n1.symm
                have n2' := n2.symm
                have f3 := m6.row3.soft pn
                have f2 := m6.row2.soft i
                have c3 : (wr.alloc (.cells #[.int .i64 (pn : Int), .int .i64 px] 62)).drew.cell? ⟨S3, pn, none⟩ = some (.int .i64 ((drs l (e.take j)).getD pn 0)) := by
                  rw [m6.row3.cell]
                  exact ints_at _ _ (by rw [drs_len, M9l.out]; exact hpn)
                have m8 := (m6.word pn px).count i ((dj + 1 : Nat) : Int)
                rw [List.set_set, show (drs l (e.take j)).set pn px = drs l (e.take (j + 1)) from WN.out] at m8
                have M8 := Lib.hid m8
                have OP8 := Lib.hid ((op6.far (p := ⟨S3, pn, none⟩) n1 (.int .i64 px)).far (p := ⟨S2, i, none⟩) (op6.ne m6.row2 (by decide)) (.int .i64 ((dj + 1 : Nat) : Int)))
                clear m6 op6 m8 hb6 row6 KP z1 z2 r1 r2 r3 hbb M5 OP5
                generalize (wr.alloc (.cells #[.int .i64 (pn : Int), .int .i64 px] 62)).drew = w6 at y0 y1 t1 t2 f3 f2 c3 M8 OP8 ⊢
                generalize wr.heap.size = sb at y0 y1 n3 ⊢
                go_wp2_with fail
                go_roundg (gk - 1)
                case measure => have h1 := HDJ.out; have h2 := G5.out.2.2.2.2.2.2; omega
                case rel => exact ⟨j + 1, dj + 1, by have h1 := HDJ.out; have h2 := G5.out.2.2.2.2.2.2; omega, Lib.hid (by have h1 := HDJ.out; omega), M8, OP8⟩
              · obtain rfl : j = t := by have h1 := HDJ.out; have h2 := G5.out.2.2.2.2.2.2; omega
                obtain rfl : dj = dt := by have h1 := HDJ.out; have h2 := G5.out.2.2.2.2.2.2; omega
                have m5 := M5.out
                rw [← G5.out.2.2.2.1] at m5
                have hdl : dj ≤ hl4 := by have h1 := HDJ.out; have h2 := G5.out.2.1; have h3 := G5.out.2.2.2.2.1; omega
                have own5 := m5.own i _ _ G4.out.2.2.2.1 G4.out.2.1
                have tw := (Two.from_ (Two.of_own own5) (CapOk.of_own own5) hdl).1
                have hdr : h4.drop dj = pQ N l q 0 a x := by
                  rw [G5.out.2.2.1, ← G5.out.1, List.drop_drop, HDJ.out]
                rw [sts_drop, hdr] at tw
                have hfit := (m5.on.bus.buf i _ G4.out.1).fit
                have hnq : nq ≤ 65536 := by have h1 := G5.out.2.1; have h2 := G5.out.2.2.2.2.1; omega
                have WA := Lib.hid (fun W hb => waits_r (n := nq) m5.on.bus G4.out.1 HNQ.out W hb)
                have CE := Lib.hid (fun W hb => cells_r tw hfit.2.2.2.2.2 (by rw [HNQ.out]; exact hnq) W hb)
                have HG := Lib.hid hfit.2.2.2.2.2
                have RA := Lib.hid (fun W hb => ram_r m5.on.bus W hb)
                have ly := Lies.of_row (P := fun _ => True) m5.row3 trivial n
                rw [ints_len, m5.lenr] at ly
                have LY := Lib.hid ly
                have HLn : Hid ((pL N l q 0 a x).length ≤ 65536) := Lib.hid (by rw [m5.lenl]; omega)
                have hsl := fun W => slice_st A4 hl4 cap3 dj hdl W
                have MM := Lib.hid m5
                have l1 := OP5.out.lt
                have l2 := M5.out.row2.lt
                have l3 := M5.out.row1.lt
                have hbb : Below wr.heap.size wr wr := Below.refl _ _
                have KP := Lib.hid (fun (W : World) (hb : Below wr.heap.size wr W) => (show W.cell? ⟨ob, 1, none⟩ = some (.int .i64 (i : Int)) ∧ W.cell? ⟨S2, i, none⟩ = some (.int .i64 (dj : Int)) ∧ W.cell? ⟨S1, i, none⟩ = some (.slice A4 hl4 cap3) ∧ Below wr.heap.size wr W from ⟨(hb.cell (p := ⟨ob, 1, none⟩) l1).trans r1, (hb.cell (p := ⟨S2, i, none⟩) l2).trans r2, (hb.cell (p := ⟨S1, i, none⟩) l3).trans r3, hb⟩))
                generalize (if cap3 = dj then A4 else A4.map (·.add (dj * 2))) = At at tw CE hsl
                have HORD : Hid (OrdP (qs.set i (pQ N l q 0 a x)) hs4 (os.set i (dj : Int)) (k + 1)) := by
                  rw [HS4.out]
                  exact Lib.hid (OrdP.set MP.out hdr (by have h1 := G4.out.2.2.2.2.1; have h2 := G5.out.2.1; have h3 := G5.out.2.2.2.2.1; have h4' := HDJ.out; have h5' := HNQ.out; omega) (by have h1 := G4.out.2.2.2.2.1; have h2 := HK4.out; omega))
                clear m5 own5 tw hdr hfit ly M5
                go_wp2_with fail
                go_region_held3 (fun W => W.cell? ⟨ob, 1, none⟩ = some (.int .i64 (i : Int)) ∧ W.cell? ⟨S2, i, none⟩ = some (.int .i64 (dj : Int)) ∧ W.cell? ⟨S1, i, none⟩ = some (.slice A4 hl4 cap3) ∧ Below wr.heap.size wr W)
                  (first
                    | exact KP.out _ hb15
                    | exact KP.out _ hb14
                    | exact KP.out _ hb13
                    | exact KP.out _ hb12
                    | exact KP.out _ hb11
                    | exact KP.out _ hb10
                    | exact KP.out _ hb9
                    | exact KP.out _ hbb.drew
                    | exact KP.out _ hbb
                    | go_keep)
                  (first
                    | (go_at_call 24; (with_reducible refine (WA.out _ ?_).mono ?_); (go_split_ands; assumption); rintro e w9 ⟨b9, rfl, hr9, hb9, hk9⟩)
                    | (go_at_call 27; (with_reducible refine (pairs_r (w0 := wr) hr9.out HNQ.out ?_ hnq).mono ?_); (go_split_ands; assumption); rintro e w10 ⟨v10, rfl, hv10, hb10, hk10⟩)
                    | (go_at_call 27; (with_reducible refine (pairs_r (w0 := wr) (hr9.out.below hk11.out) HNQ.out ?_ hnq).mono ?_); (go_split_ands; assumption); rintro e w10 ⟨v10, rfl, hv10, hb10, hk10⟩)
                    | (go_at_call 28; (with_reducible refine (CE.out _ ?_).mono ?_); (go_split_ands; assumption); rintro e w11 ⟨v11, rfl, hv11, hb11, hk11⟩)
                    | (go_at_call 26; (with_reducible refine (sameCells_r (w0 := wr) hv10.out (hv11.out.below hk10.out) HG.out (by rw [HNQ.out]; exact hnq) ?_).mono ?_); (go_split_ands; assumption); rintro e w12 ⟨rfl, hb12⟩)
                    | (go_at_call 26; (with_reducible refine (sameCells_r (w0 := wr) (hv10.out.below hk11.out) hv11.out HG.out (by rw [HNQ.out]; exact hnq) ?_).mono ?_); (go_split_ands; assumption); rintro e w12 ⟨rfl, hb12⟩)
                    | (go_at_call 26; (with_reducible refine (sameCells_r (w0 := wr) hv10.out ((hv11.out.below hk9.out).below hk10.out) HG.out (by rw [HNQ.out]; exact hnq) ?_).mono ?_); (go_split_ands; assumption); rintro e w12 ⟨rfl, hb12⟩)
                    | (go_at_call 23; (with_reducible refine (RA.out _ ?_).mono ?_); (go_split_ands; assumption); rintro e w13 ⟨g13, h13, rfl, hr13, hb13⟩)
                    | (go_at_call 22; (with_reducible refine (words_r (w0 := wr) hr13.out ?_).mono ?_); (go_split_ands; assumption); rintro e w14 ⟨v14, rfl, hv14, hb14⟩)
                    | (go_at_call 29; (with_reducible refine (same_r (w0 := wr) hv14.out (LY.out.below hb14) HLn.out ?_).mono ?_); (go_split_ands; assumption); rintro e w15 ⟨rfl, hb15⟩))
                all_goals
                  go_wp2_with fail
                  go_roundw
                all_goals first
                  | exact ⟨k + 1, f2, _, _, _, _, _, by omega, by go_num, Lib.hid ⟨MM.out.below hb15, HORD.out⟩⟩
                  | (simp [intOf]; omega)
        · have bK : (K == 0) = false := by simpa using hK0
          have ea : addQ q K a x = q := by unfold addQ; rw [if_neg hK0, List.append_nil]
          have G4 : Hid ((qs.set i (pQ N l q K a x))[i]? = some (pQ N l q K a x) ∧ hs[i]? = some h ∧ os[i]? = some (dd : Int) ∧ sv[i]? = some (.slice Av hl cv) ∧ h.length = hl ∧ h.drop dd = addQ q K a x ∧ dd + (addQ q K a x).length = hl) := Lib.hid ⟨by rw [List.getElem?_set, if_pos rfl, if_pos (lt_of_at HQS.out.1)], HQS.out.2.1, HQS.out.2.2.1, HQS.out.2.2.2, HHL.out, by rw [ea]; exact HD.out.1, by rw [ea, HD.out.2, HHL.out]⟩
          have HS4 : Hid (hs = hs.set i h) := Lib.hid (set_same HQS.out.2.1).symm
          have HK4 : Hid (hl ≤ k + 1) := Lib.hid (by omega)
          have M4 := M2
          have HOP4 := HOP
          clear M2 ea HQS HHL HD HOP
          obtain ⟨nq, hnq⟩ : ∃ z, (pQ N l q K a x).length = z := ⟨_, rfl⟩
          have WA := Lib.hid (fun W hb => waits_r (n := nq) M4.out.on.bus G4.out.1 hnq W hb)
          have HNQ := Lib.hid hnq
          clear hnq
          go_wp2_with fail
          have hbb : Below w2.heap.size w2 w2 := Below.refl _ _
          go_region_held3 (fun w' => w'.cell? ⟨wr.heap.size, 1, none⟩ = some (.int .i64 (i : Int)) ∧ w'.cell? ⟨S1, i, none⟩ = some (.slice Av hl cv) ∧ Below w2.heap.size w2 w')
            (first
              | exact keep_o p1 c1 hoblt hS1lt hb9
              | exact keep_o p1 c1 hoblt hS1lt hbb.drew
              | exact keep_o p1 c1 hoblt hS1lt hbb
              | go_keep)
            (first
              | (go_at_call 24; (with_reducible refine (WA.out _ ?_).mono ?_); (go_split_ands; assumption); rintro e w9 ⟨b9, rfl, hr9, hb9, hk9⟩))
          obtain ⟨e, he⟩ : ∃ e, addQ q K a x = e := ⟨_, rfl⟩
          obtain ⟨t, ht⟩ : ∃ t, outN N l q K a x = t := ⟨_, rfl⟩
          obtain ⟨dt, hdt⟩ : ∃ z, dd + t = z := ⟨_, rfl⟩
          have G5 : Hid (h.drop dd = e ∧ dd + e.length = hl ∧ pQ N l q K a x = e.drop t ∧ pL N l q K a x = drs l (e.take t) ∧ t + nq = e.length ∧ InMem n e ∧ dd + t = dt) := by
            rw [← he, ← ht]
            exact Lib.hid ⟨G4.out.2.2.2.2.2.1, G4.out.2.2.2.2.2.2, HEQ.out.1, HEQ.out.2.1, by rw [← HNQ.out]; exact HEQ.out.2.2, HIM.out, by rw [ht]; exact hdt⟩
          have ew : IntKind.i64.wrap ((hl : Int) - (nq : Int)) = (dt : Int) := by
            have h1 := G5.out.2.1
            have h2 := G5.out.2.2.2.2.1
            rw [IntWalk.i64_in _ (by omega)]
            omega
          rw [ew]
          have hdt2 : dt ≤ 100 := by
            have h1 := G5.out.2.1
            have h2 := G5.out.2.2.2.2.1
            omega
          have OP9 := Lib.hid (HOP4.out.below hb9)
          have m9 := M4.out.below hb9
          rw [show os = os.set i (dd : Int) from (set_same G4.out.2.2.1).symm, show l = drs l (e.take 0) from rfl] at m9
          have M9l : Hid (l.length = n) := Lib.hid M.out.lenl
          have M9 := Lib.hid m9
          clear m9 ew he ht hdt p0 p1 p2 p3 c1 s1 hoblt hS1o HOP4 hbb hr9 hb9 hk9 WA
          generalize wr.heap.size = ob at OP9 ⊢
          go_wp2_with fail
          go_loopg [] t (fun gk W => ∃ j dj : Nat, j + gk = t ∧ Hid (dd + j = dj) ∧ Hid (Ord6 w W ((L.up f).up f2) N C n S1 S2 S3 (pL N l q K a x) (drs l (e.take j)) (qs.set i (pQ N l q K a x)) hs (os.set i (dj : Int)) sv) ∧ Hid (Row W ob 37 [.int .i64 K, .int .i64 (i : Int), .int .i64 a, .int .i64 x]))
          case atStart => exact ⟨0, dd, by omega, Lib.hid rfl, M9, OP9⟩
          case round =>
            obtain ⟨j, dj, hj, HDJ, M5, OP5⟩ := hrel
            have r1 := OP5.out.cell 1
            simp only [List.getElem?_cons_zero, List.getElem?_cons_succ] at r1
            have r2 : wr.cell? ⟨S2, i, none⟩ = some (.int .i64 (dj : Int)) := by rw [M5.out.row2.cell]; exact ints_some (by rw [List.getElem?_set, if_pos rfl, if_pos (lt_of_at G4.out.2.2.1)])
            have r3 : wr.cell? ⟨S1, i, none⟩ = some (.slice Av hl cv) := by rw [M5.out.row1.cell]; exact G4.out.2.2.2.1
            by_cases hjt : dj < dt
            · obtain ⟨pp, hp⟩ : ∃ p, e[j]? = some p := ⟨_, List.getElem?_eq_getElem (by have h1 := G5.out.2.2.2.2; have h2 := HDJ.out; omega)⟩
              have hhp : h[dj]? = some pp := by
                have h1 := G5.out.1
                rw [← h1, List.getElem?_drop, HDJ.out] at hp
                exact hp
              obtain ⟨⟨hp0, hp1, hp2, hp3⟩, hp4⟩ := G5.out.2.2.2.2.2.1 pp (List.mem_of_getElem? hp)
              have hdl : dj < hl := by
                have h1 := lt_of_at hhp
                rw [G4.out.2.2.2.2.1] at h1
                exact h1
              obtain ⟨pa, px⟩ := pp
              dsimp only at hp0 hp1 hp2 hp3 hp4
              obtain ⟨pn, rfl⟩ := Int.eq_ofNat_of_zero_le hp0
              have hpn : pn < n := by omega
              obtain ⟨g5, o5, hA5, _, hg5, z1, z2⟩ := (Two.of_own (M5.out.own i _ _ G4.out.2.2.2.1 G4.out.2.1)).cells (sts_at hhp)
              subst hA5
              have wn := word_next M9l.out G5.out.2.2.2.2.2.1 hp
              have WN := Lib.hid wn
              have l1 := OP5.out.lt
              have l2 := M5.out.row2.lt
              have l3 := M5.out.row1.lt
              have hbb : Below wr.heap.size wr wr := Below.refl _ _
              have KP := Lib.hid (fun (W : World) (hb : Below wr.heap.size wr W) => (show W.cell? ⟨ob, 1, none⟩ = some (.int .i64 (i : Int)) ∧ W.cell? ⟨S2, i, none⟩ = some (.int .i64 (dj : Int)) ∧ W.cell? ⟨S1, i, none⟩ = some (.slice (some ⟨g5, o5, none⟩) hl cv) ∧ W.cell? ⟨g5, o5 + dj * 2, none⟩ = some (.int .i64 (pn : Int)) ∧ W.cell? ⟨g5, o5 + dj * 2 + 1, none⟩ = some (.int .i64 px) ∧ Below wr.heap.size wr W from ⟨(hb.cell (p := ⟨ob, 1, none⟩) l1).trans r1, (hb.cell (p := ⟨S2, i, none⟩) l2).trans r2, (hb.cell (p := ⟨S1, i, none⟩) l3).trans r3, (hb.cell (p := ⟨g5, o5 + dj * 2, none⟩) hg5).trans z1, (hb.cell (p := ⟨g5, o5 + dj * 2 + 1, none⟩) hg5).trans z2, hb⟩))
              clear hp hhp hp0 hp1 wn
              go_wp2_with fail
              go_region_held3 (fun W => W.cell? ⟨ob, 1, none⟩ = some (.int .i64 (i : Int)) ∧ W.cell? ⟨S2, i, none⟩ = some (.int .i64 (dj : Int)) ∧ W.cell? ⟨S1, i, none⟩ = some (.slice (some ⟨g5, o5, none⟩) hl cv) ∧ W.cell? ⟨g5, o5 + dj * 2, none⟩ = some (.int .i64 (pn : Int)) ∧ W.cell? ⟨g5, o5 + dj * 2 + 1, none⟩ = some (.int .i64 px) ∧ Below wr.heap.size wr W)
                (first
                  | exact KP.out _ hbb.drew
                  | exact KP.out _ (below_on (below_q wr 1) (below_al _ _))
                  | exact KP.out _ (((below_on (below_q wr 1) (below_al _ _)).setCell (p := ⟨wr.heap.size, 0, none⟩) (Nat.le_refl _) _).setCell (p := ⟨wr.heap.size, 1, none⟩) (Nat.le_refl _) _)
                  | go_keep)
                (fail)
              have hb6 : Below wr.heap.size wr (wr.alloc (.cells #[.int .i64 (pn : Int), .int .i64 px] 62)).drew := (below_al _ _).drew
              have row6 := (Row.new wr 62 #[.int .i64 (pn : Int), .int .i64 px]).below (Below.refl _ _).drew
              have y0 := row6.cell 0
              have y1 := row6.cell 1
              simp only [List.getElem?_cons_zero, List.getElem?_cons_succ] at y0 y1
              have m6 := M5.out.below hb6
              have op6 := OP5.out.below hb6
              have t1 := op6.cell 1
              simp only [List.getElem?_cons_zero, List.getElem?_cons_succ] at t1
              have t2 := (hb6.cell (p := ⟨S2, i, none⟩) l2).trans r2
              have n1 : ob ≠ S3 := op6.ne m6.row3 (by decide)
              have n2 : S2 ≠ S3 := m6.s23
              have n3 : wr.heap.size ≠ S3 := row6.ne m6.row3 (by decide)
              have n1' := n1.symm
              have n2' := n2.symm
              have f3 := m6.row3.soft pn
              have f2 := m6.row2.soft i
              have c3 : (wr.alloc (.cells #[.int .i64 (pn : Int), .int .i64 px] 62)).drew.cell? ⟨S3, pn, none⟩ = some (.int .i64 ((drs l (e.take j)).getD pn 0)) := by
                rw [m6.row3.cell]
                exact ints_at _ _ (by rw [drs_len, M9l.out]; exact hpn)
              have m8 := (m6.word pn px).count i ((dj + 1 : Nat) : Int)
              rw [List.set_set, show (drs l (e.take j)).set pn px = drs l (e.take (j + 1)) from WN.out] at m8
              have M8 := Lib.hid m8
              have OP8 := Lib.hid ((op6.far (p := ⟨S3, pn, none⟩) n1 (.int .i64 px)).far (p := ⟨S2, i, none⟩) (op6.ne m6.row2 (by decide)) (.int .i64 ((dj + 1 : Nat) : Int)))
              clear m6 op6 m8 hb6 row6 KP z1 z2 r1 r2 r3 hbb M5 OP5
              generalize (wr.alloc (.cells #[.int .i64 (pn : Int), .int .i64 px] 62)).drew = w6 at y0 y1 t1 t2 f3 f2 c3 M8 OP8 ⊢
              generalize wr.heap.size = sb at y0 y1 n3 ⊢
              go_wp2_with fail
              go_roundg (gk - 1)
              case measure => have h1 := HDJ.out; have h2 := G5.out.2.2.2.2.2.2; omega
              case rel => exact ⟨j + 1, dj + 1, by have h1 := HDJ.out; have h2 := G5.out.2.2.2.2.2.2; omega, Lib.hid (by have h1 := HDJ.out; omega), M8, OP8⟩
            · obtain rfl : j = t := by have h1 := HDJ.out; have h2 := G5.out.2.2.2.2.2.2; omega
              obtain rfl : dj = dt := by have h1 := HDJ.out; have h2 := G5.out.2.2.2.2.2.2; omega
              have m5 := M5.out
              rw [← G5.out.2.2.2.1] at m5
              have hdl : dj ≤ hl := by have h1 := HDJ.out; have h2 := G5.out.2.1; have h3 := G5.out.2.2.2.2.1; omega
              have own5 := m5.own i _ _ G4.out.2.2.2.1 G4.out.2.1
              have tw := (Two.from_ (Two.of_own own5) (CapOk.of_own own5) hdl).1
              have hdr : h.drop dj = pQ N l q K a x := by
                rw [G5.out.2.2.1, ← G5.out.1, List.drop_drop, HDJ.out]
              rw [sts_drop, hdr] at tw
              have hfit := (m5.on.bus.buf i _ G4.out.1).fit
              have hnq : nq ≤ 65536 := by have h1 := G5.out.2.1; have h2 := G5.out.2.2.2.2.1; omega
              have WA := Lib.hid (fun W hb => waits_r (n := nq) m5.on.bus G4.out.1 HNQ.out W hb)
              have CE := Lib.hid (fun W hb => cells_r tw hfit.2.2.2.2.2 (by rw [HNQ.out]; exact hnq) W hb)
              have HG := Lib.hid hfit.2.2.2.2.2
              have RA := Lib.hid (fun W hb => ram_r m5.on.bus W hb)
              have ly := Lies.of_row (P := fun _ => True) m5.row3 trivial n
              rw [ints_len, m5.lenr] at ly
              have LY := Lib.hid ly
              have HLn : Hid ((pL N l q K a x).length ≤ 65536) := Lib.hid (by rw [m5.lenl]; omega)
              have hsl := fun W => slice_st Av hl cv dj hdl W
              have MM := Lib.hid m5
              have l1 := OP5.out.lt
              have l2 := M5.out.row2.lt
              have l3 := M5.out.row1.lt
              have hbb : Below wr.heap.size wr wr := Below.refl _ _
              have KP := Lib.hid (fun (W : World) (hb : Below wr.heap.size wr W) => (show W.cell? ⟨ob, 1, none⟩ = some (.int .i64 (i : Int)) ∧ W.cell? ⟨S2, i, none⟩ = some (.int .i64 (dj : Int)) ∧ W.cell? ⟨S1, i, none⟩ = some (.slice Av hl cv) ∧ Below wr.heap.size wr W from ⟨(hb.cell (p := ⟨ob, 1, none⟩) l1).trans r1, (hb.cell (p := ⟨S2, i, none⟩) l2).trans r2, (hb.cell (p := ⟨S1, i, none⟩) l3).trans r3, hb⟩))
              generalize (if cv = dj then Av else Av.map (·.add (dj * 2))) = At at tw CE hsl
              have HORD : Hid (OrdP (qs.set i (pQ N l q K a x)) hs (os.set i (dj : Int)) (k + 1)) := by
                rw [HS4.out]
                exact Lib.hid (OrdP.set MP.out hdr (by have h1 := G4.out.2.2.2.2.1; have h2 := G5.out.2.1; have h3 := G5.out.2.2.2.2.1; have h' := HDJ.out; have h5' := HNQ.out; omega) (by have h1 := G4.out.2.2.2.2.1; have h2 := HK4.out; omega))
              clear m5 own5 tw hdr hfit ly M5
              go_wp2_with fail
              go_region_held3 (fun W => W.cell? ⟨ob, 1, none⟩ = some (.int .i64 (i : Int)) ∧ W.cell? ⟨S2, i, none⟩ = some (.int .i64 (dj : Int)) ∧ W.cell? ⟨S1, i, none⟩ = some (.slice Av hl cv) ∧ Below wr.heap.size wr W)
                (first
                  | exact KP.out _ hb15
                  | exact KP.out _ hb14
                  | exact KP.out _ hb13
                  | exact KP.out _ hb12
                  | exact KP.out _ hb11
                  | exact KP.out _ hb10
                  | exact KP.out _ hb9
                  | exact KP.out _ hbb.drew
                  | exact KP.out _ hbb
                  | go_keep)
                (first
                  | (go_at_call 24; (with_reducible refine (WA.out _ ?_).mono ?_); (go_split_ands; assumption); rintro e w9 ⟨b9, rfl, hr9, hb9, hk9⟩)
                  | (go_at_call 27; (with_reducible refine (pairs_r (w0 := wr) hr9.out HNQ.out ?_ hnq).mono ?_); (go_split_ands; assumption); rintro e w10 ⟨v10, rfl, hv10, hb10, hk10⟩)
                  | (go_at_call 27; (with_reducible refine (pairs_r (w0 := wr) (hr9.out.below hk11.out) HNQ.out ?_ hnq).mono ?_); (go_split_ands; assumption); rintro e w10 ⟨v10, rfl, hv10, hb10, hk10⟩)
                  | (go_at_call 28; (with_reducible refine (CE.out _ ?_).mono ?_); (go_split_ands; assumption); rintro e w11 ⟨v11, rfl, hv11, hb11, hk11⟩)
                  | (go_at_call 26; (with_reducible refine (sameCells_r (w0 := wr) hv10.out (hv11.out.below hk10.out) HG.out (by rw [HNQ.out]; exact hnq) ?_).mono ?_); (go_split_ands; assumption); rintro e w12 ⟨rfl, hb12⟩)
                  | (go_at_call 26; (with_reducible refine (sameCells_r (w0 := wr) (hv10.out.below hk11.out) hv11.out HG.out (by rw [HNQ.out]; exact hnq) ?_).mono ?_); (go_split_ands; assumption); rintro e w12 ⟨rfl, hb12⟩)
                  | (go_at_call 26; (with_reducible refine (sameCells_r (w0 := wr) hv10.out ((hv11.out.below hk9.out).below hk10.out) HG.out (by rw [HNQ.out]; exact hnq) ?_).mono ?_); (go_split_ands; assumption); rintro e w12 ⟨rfl, hb12⟩)
                  | (go_at_call 23; (with_reducible refine (RA.out _ ?_).mono ?_); (go_split_ands; assumption); rintro e w13 ⟨g13, h13, rfl, hr13, hb13⟩)
                  | (go_at_call 22; (with_reducible refine (words_r (w0 := wr) hr13.out ?_).mono ?_); (go_split_ands; assumption); rintro e w14 ⟨v14, rfl, hv14, hb14⟩)
                  | (go_at_call 29; (with_reducible refine (same_r (w0 := wr) hv14.out (LY.out.below hb14) HLn.out ?_).mono ?_); (go_split_ands; assumption); rintro e w15 ⟨rfl, hb15⟩))
              all_goals
                go_wp2_with fail
                go_roundw
              all_goals first
                | exact ⟨k + 1, f2, _, _, _, _, _, by omega, by go_num, Lib.hid ⟨MM.out.below hb15, HORD.out⟩⟩
                | (simp [intOf]; omega)
      · have hst := d_still N l qs K c a x (.inl hE)
        obtain ⟨z, eE⟩ : ∃ z, dE l qs K c a x = z := ⟨_, rfl⟩
        have hz : (z != 0) = true := by rw [eE] at hE; simpa using hE
        rw [eE, hst.1, hst.2] at DO
        unfold opV ptr at DO
        have DOO := Lib.hid DO
        clear DO hE eE hst
        go_wp2_with fail
        refine DOO.out.mono ?_
        rintro e w2 h2
        obtain ⟨f2, rfl, m2, _⟩ := M1.out.step rfl rfl h2
        have M2 := Lib.hid m2
        clear h2 m2
        go_wp2_with fail
        go_roundw
        case rel => exact ⟨k + 1, f2, l, qs, hs, os, sv, by omega, by go_num, Lib.hid ⟨M2.out, MP1.out⟩⟩
        case measure => simp [intOf]; omega
    · obtain rfl : k = m := by omega
      go_wp2_with fail
      refine (alive6 _).mono ?_
      rintro e w6 ⟨rfl, hb6⟩
      go_wp2
      go_ret
      exact ⟨rfl, below_on hbel hb6⟩

end Go.Proofs.Ytgoogclcpnfmkaa
