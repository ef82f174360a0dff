/-
  Layer 7 (litmus), the reference: step, any valid operation; Less.
  Layer 7 (litmus), the reference: lists of states; put.
  Layer 7 (litmus), the reference: outcome.
  Conditions: those that each theorem states.
-/
import Derived.Test.YtgljgpllooehkaaRLit10
import Derived.Test.YtgljgpllooehkaaLit13
import Derived.Test.YtgljgpllooehkaaLit18
import Derived.Test.YtgljgpllooehkaaREq
import Derived.Deep.QuietTactic
import Derived.BigQuiet
import Derived.Test.YtgljgpllooehkaaLit34
namespace Go.Proofs.Ytgljgpllooehkaa
open Go.ChangeShapes Go.WideShapes Go.ChangeAt Go.RowKit

theorem rstep_any (N i : Nat) (s : St) (v : Value) (p : List (List Opn)) (c : Core) (l : List Opn) (o : Opn) (w : World) (hs : Shape s) (hi : i < 3) (hc : s.cores[i]? = some c) (hp : Prg w v p) (hl : p[i]? = some l) (ho : l[c.next]? = some o) (hok : okOp o) (hroom : c.buf.length ≤ N) (hN : N ≤ 4) (hn4 : c.next ≤ 4) :
    Calls Try.prog 29 #[v, .int .i64 (N : Int), .agg (ints (rSt s)).toArray, .int .i64 (i : Int)] w (RetSt (rcell (execS N i o s)) w) := by
  obtain ⟨K, a', x, r'⟩ := o
  obtain ⟨k1, k2, a0, a3, r0, r3, x0, x9⟩ := hok
  simp only at k1 k2 a0 a3 r0 r3 x0 x9
  obtain ⟨a, rfl⟩ := Int.eq_ofNat_of_zero_le a0
  obtain ⟨r, rfl⟩ := Int.eq_ofNat_of_zero_le r0
  have ha : a < 4 := by omega
  have hr : r < 4 := by omega
  have hb : bufOf i s = c.buf := by simp [bufOf, hc]
  have hbn : bufOf i (nextS i s) = c.buf := by
    have hlt := (List.getElem?_eq_some_iff.1 hc).1
    rw [rnext_eq hc]
    simp [bufOf, hlt]
  rcases (show K = 1 ∨ K = 2 ∨ K = 3 ∨ K = 4 by omega) with rfl | rfl | rfl | rfl
  · have e : execS N i ⟨1, (a : Int), x, (r : Int)⟩ s = regS i (r : Int) (sees c.buf s.mem (a : Int)) (nextS i s) := by simp [execS, hb]
    rw [e]
    exact rstep_load N i s v p c l x a r w hs hi hc hp hl ho ha hr hroom hN hn4
  · by_cases h0 : N = 0
    · have e : execS N i ⟨2, (a : Int), x, (r : Int)⟩ s = ⟨(nextS i s).cores, wrt (nextS i s).mem ((a : Int), x)⟩ := by simp [execS, storeS, h0]
      rw [e]
      exact rstep_store0 N i s v p c l x a r w hs hi hc hp hl ho ha hr hroom hN hn4 h0
    · by_cases hf : c.buf.length = N
      · have e : execS N i ⟨2, (a : Int), x, (r : Int)⟩ s = pushS i ((a : Int), x) (drainS i (nextS i s)) := by simp [execS, storeS, h0, hbn, hf]
        rw [e]
        exact rstep_full N i s v p c l x a r w hs hi hc hp hl ho ha hr hroom hN hn4 h0 hf
      · have e : execS N i ⟨2, (a : Int), x, (r : Int)⟩ s = pushS i ((a : Int), x) (nextS i s) := by simp [execS, storeS, h0, hbn, hf]
        rw [e]
        exact rstep_room N i s v p c l x a r w hs hi hc hp hl ho ha hr hroom hN hn4 h0 hf
  · have e : execS N i ⟨3, (a : Int), x, (r : Int)⟩ s = flushS i (nextS i s) := by simp [execS]
    rw [e]
    exact rstep_fence N i s v p c l x a r w hs hi hc hp hl ho ha hr hroom hN hn4
  · have e : execS N i ⟨4, (a : Int), x, (r : Int)⟩ s = ⟨(regS i (r : Int) (((flushS i (nextS i s)).mem[a]?).getD 0) (flushS i (nextS i s))).cores, wrt (regS i (r : Int) (((flushS i (nextS i s)).mem[a]?).getD 0) (flushS i (nextS i s))).mem ((a : Int), x)⟩ := by simp [execS, List.getD_eq_getElem?_getD]
    rw [e]
    exact rstep_swap N i s v p c l x a r w hs hi hc hp hl ho ha hr hroom hN hn4

/-- The order of two lists is told by the first place where they differ. -/
theorem cmpL_first : ∀ {x y : List Int} {k : Nat} {a b : Int}, x.take k = y.take k → x[k]? = some a → y[k]? = some b → a ≠ b → cmpL x y = cmpI a b
  | x, y, 0, a, b, _, ha, hb, hne => by
    obtain ⟨x', rfl⟩ : ∃ x', x = a :: x' := by cases x with
      | nil => simp at ha
      | cons z x' => simp at ha; exact ⟨x', by rw [ha]⟩
    obtain ⟨y', rfl⟩ : ∃ y', y = b :: y' := by cases y with
      | nil => simp at hb
      | cons z y' => simp at hb; exact ⟨y', by rw [hb]⟩
    unfold cmpL
    rw [if_neg (fun e => hne (cmpI_zero.1 e))]
  | [], _, k + 1, _, _, _, ha, _, _ => by simp at ha
  | _ :: _, [], k + 1, _, _, _, _, hb, _ => by simp at hb
  | z :: x, z' :: y, k + 1, a, b, ht, ha, hb, hne => by
    simp only [List.take_succ_cons, List.cons.injEq] at ht
    obtain ⟨rfl, ht⟩ := ht
    unfold cmpL
    rw [if_pos (cmpI_zero.2 rfl)]
    exact cmpL_first ht (by simpa using ha) (by simpa using hb) hne

set_option maxRecDepth 100000 in
set_option maxHeartbeats 1000000 in
theorem rless_any (P Q : Nat → Prop) (v u : Value) (x y : List Int) (w : World) (hv : Lies w P v (ints x)) (hu : Lies w Q u (ints y)) (hl : x.length = y.length) (hx : x.length ≤ 65536) :
    Calls Try.prog 32 #[v, u] w fun e w' => e = .returned (.bool (decide (cmpL x y < 0))) ∧ ∃ m, w' = w.drewN m := by
  obtain ⟨A, c, rfl, hA⟩ := hv
  obtain ⟨B, d, rfl, hB⟩ := hu
  rw [ints_len] at hA hB
  rw [ints_len, ints_len]
  obtain ⟨n, hn⟩ : ∃ n, x.length = n := ⟨_, rfl⟩
  have hm : y.length = n := hl.symm.trans hn
  rw [hn] at hA hx
  rw [hm] at hB
  rw [hn, hm]
  have HA := Lib.hid hA; clear hA
  have HB := Lib.hid hB; clear hB
  have HN := Lib.hid hn; clear hn
  have HM := Lib.hid hm; clear hm hl
  go_enter Try.func32, Try.ntmps32
  go_wp2
  go_loopw [5] (fun i wr => ∃ k : Nat, k ≤ n ∧ i = .int .i64 k ∧ Hid (x.take k = y.take k) ∧ Hid (∃ q, wr = w.drewN q)) (fun i _ => n - (intOf i).toNat)
  case atStart => exact ⟨0, Nat.zero_le _, rfl, by unfold Hid; simp, Lib.hid ⟨0, rfl⟩⟩
  case round =>
    obtain ⟨k, hk, rfl, ht, hq⟩ := hrel
    obtain ⟨q, rfl⟩ := hq.out
    by_cases hlt : k < n
    · obtain ⟨g, o, rfl, hP, hg, hc⟩ := HA.out (by omega)
      obtain ⟨g', o', rfl, hQ, hg', hc'⟩ := HB.out (by omega)
      obtain ⟨a, ha⟩ : ∃ a, x[k]? = some a := ⟨_, List.getElem?_eq_getElem (by rw [HN.out]; exact hlt)⟩
      obtain ⟨b, hb'⟩ : ∃ b, y[k]? = some b := ⟨_, List.getElem?_eq_getElem (by rw [HM.out]; exact hlt)⟩
      have c1 : w.cell? ⟨g, o + k, none⟩ = some (.int .i64 a) := hc k _ (ints_some ha)
      have c2 : w.cell? ⟨g', o' + k, none⟩ = some (.int .i64 b) := hc' k _ (ints_some hb')
      have A1 := Lib.hid ha; clear ha
      have B1 := Lib.hid hb'; clear hb' hc hc'
      by_cases he : a = b
      · subst he
        have hne : (a != a) = false := by simp
        go_wp2
        go_quiet (fail)
        go_wp2
        go_roundw
        case rel => exact ⟨k + 1, by omega, by go_num, Lib.hid (take_more ht.out A1.out B1.out), Lib.hid ⟨_, rfl⟩⟩
        case measure => simp [intOf]; omega
      · have hne : (a != b) = true := by simpa using he
        have hxy : decide (cmpL x y < 0) = decide (a < b) := by
          rw [cmpL_first ht.out A1.out B1.out he]
          exact decide_eq_decide.2 cmpI_lt
        have HX := Lib.hid hxy; clear hxy
        clear he
        go_wp2
        go_quiet (fail)
        go_wp2
        go_quiet (fail)
        go_wp2
        go_ret
        exact ⟨by rw [HX.out]; rfl, _, by rw [World.drewN_drewN, World.drewN_drewN]⟩
    · obtain rfl : k = n := by omega
      have hxy : decide (cmpL x y < 0) = false := by
        have e : x = y := take_whole ht.out HN.out HM.out
        rw [cmpL_zero.2 e]; rfl
      have HX := Lib.hid hxy; clear hxy
      go_wp2
      go_ret
      exact ⟨by rw [HX.out]; rfl, _, rfl⟩

def rstsL (ts : List St) : List Int := ts.flatMap rSt

/-- A list of states of the call's own, in the reference's way. -/
def RSts (w : World) (base : Nat) (v : Value) (ts : List St) : Prop := w.ownsRow base 69 46 v ts.length (ints (rstsL ts))

theorem rSt_len (s : St) : (rSt s).length = 46 := rL_len _

theorem rstsL_at : ∀ {ts : List St} {k : Nat} {t : St}, ts[k]? = some t → ∀ j x, (rSt t)[j]? = some x → (rstsL ts)[k * 46 + j]? = some x
  | [], k, t, h, _, _, _ => by simp at h
  | u :: ts, 0, t, h, j, x, hx => by
    obtain rfl : u = t := by simpa using h
    have hj := (List.getElem?_eq_some_iff.1 hx).1
    simp only [rstsL, List.flatMap_cons, Nat.zero_mul, Nat.zero_add]
    rw [List.getElem?_append_left hj]
    exact hx
  | u :: ts, k + 1, t, h, j, x, hx => by
    have ih := rstsL_at (ts := ts) (k := k) (t := t) (by simpa using h) j x hx
    simp only [rstsL, List.flatMap_cons]
    rw [List.getElem?_append_right (by rw [rSt_len]; omega), rSt_len, show (k + 1) * 46 + j - 46 = k * 46 + j by omega]
    exact ih

theorem rstsL_len (ts : List St) : (rstsL ts).length = ts.length * 46 := by
  induction ts with
  | nil => rfl
  | cons t ts ih =>
    simp only [rstsL, List.flatMap_cons, List.length_append, rSt_len, List.length_cons] at ih ⊢
    rw [ih]; omega

theorem rstsL_snoc (ts : List St) (t : St) : rstsL (ts ++ [t]) = rstsL ts ++ rSt t := by simp [rstsL]

theorem RSts.at_ {w : World} {base : Nat} {v : Value} {ts : List St} {k : Nat} {t : St} (h : RSts w base v ts) (hk : ts[k]? = some t) :
    ∃ g c, v = .slice (some ⟨g, 0, none⟩) ts.length c ∧ g < w.heap.size ∧ ∀ j u, (ints (rSt t))[j]? = some u → w.cell? ((⟨g, k * 46, none⟩ : Addr).add j) = some u := by
  have hlt := (List.getElem?_eq_some_iff.1 hk).1
  rcases h.2 with ⟨rfl, h0⟩ | ⟨g, cap, cur, rfl, hb, hg, hn, hm, hz, ht⟩
  · omega
  · refine ⟨g, cap, rfl, (Array.getElem?_eq_some_iff.1 hg).1, fun j u hu => ?_⟩
    rw [Addr.add_lit, cell_of_row w g _ cur _ (0, 0) hg]
    simp only [ints, List.getElem?_map, Option.map_eq_some_iff] at hu
    obtain ⟨x, hx, rfl⟩ := hu
    have h1 := rstsL_at hk j x hx
    have h2 : (ints (rstsL ts))[k * 46 + j]? = some (.int .i64 x) := ints_some h1
    rw [← ht, List.getElem?_take] at h2
    split at h2
    · simpa using h2
    · cases h2

theorem RSts.shape_ {w : World} {base : Nat} {v : Value} {ts : List St} (h : RSts w base v ts) : ∃ A c, v = .slice A ts.length c := by
  rcases h.2 with ⟨rfl, h0⟩ | ⟨g, cap, cur, rfl, _⟩
  · exact ⟨none, 0, by rw [h0]⟩
  · exact ⟨_, _, rfl⟩

/-- append(v, t). -/
theorem appR_walk {w : World} {ops : Array Oper} {rest : List Oper} {o : Oper} {a : Act} {Q : Exit → Act → World → Prop} (hgd : o.guard = none) (s x : Operand)
    (ho : o.op = .call { callee := .builtin .append, args := #[s, x], argTypes := #[70, 70] }) (base : Nat) (v : Value) (ts : List St) (hs : a.eval s = v) (hown : RSts w base v ts) (hlen : ts.length ≤ 100000000000)
    (g : Nat) (hx : a.eval x = .slice (some ⟨g, 0, none⟩) 1 1) (t : St) (hg : Row w g 69 (ints (rSt t))) (hbase : base ≤ w.heap.size)
    (h : ∀ v' w', RSts w' base v' (ts ++ [t]) → w.grownBy w' v.ownBlock → wpList Try.prog ops Q rest (a.put o.dst v') w') : wpList Try.prog ops Q (o :: rest) a w := by
  obtain ⟨i0, hi, hz0, hz1, hz2⟩ := info_parts rst_info
  have hl := rSt_len t
  obtain ⟨v', w', hrun, h2, h3, _, h5⟩ := run_append_own_at (P := Try.prog) w base 70 o.type 69 i0 _ 46 368 Try.underlying70 hi hz0 hz1 hz2 (by simp [Value.cells, ints]) (by omega) v ts.length (ints (rstsL ts)) hown ⟨g, 0, none⟩ 1 1 (ints (rSt t)) (by rw [ints_len, hl])
    (fun j u hu => by rw [Addr.add_lit, Nat.zero_add, Row.cell hg]; exact hu) (ints_one _) (by unfold maxLen; omega) (by omega) hbase
  refine wpList_plain hgd fun K hK => ?_
  unfold Oper.wp
  simp [execOp, ho, resolve, invoke, builtin, hs, hx, hrun, Result.andThen]
  refine hK _ _ (h v' w' ?_ h3)
  unfold RSts
  rw [rstsL_snoc, ints_append, List.length_append, List.length_singleton]
  exact h2

theorem st_guard : Try.prog.eqGuardType Try.prog.depth 69 = false := by kernel_rfl

/-- Two states are compared in a region that only reads. -/
theorem quiet_eql {w0 : World} {o : Oper} {a : Act} {K : Act → Prop} (x y : Operand) (tt : TypeId) (ho : o.op = .binOp .eql 69 x y tt) (xs ys : List Int) (hx : a.eval x = .agg (ints xs).toArray) (hy : a.eval y = .agg (ints ys).toArray) (hxl : xs.length = 46) (hyl : ys.length = 46)
    (h : K (a.put o.dst (.bool (decide (xs = ys))))) : o.quiet Try.prog a (fun w' => ∃ n, w' = w0.drewN n) K :=
  ⟨_, fun w _ => by
    unfold Oper.quietAt execOp
    simp only [ho, hx, hy, Sem.run_bind, run_eqGuard_agg w .eql 69 x y _ _ st_guard, Result.andThen_ok, eq_st xs ys hxl hyl, Sem.run_pure]
    exact ⟨rfl, rfl⟩, h⟩

/-- What put leaves. -/
def PutP (base : Nat) (v : Value) (ts : List St) (s : St) (w : World) (e : Ending) (w' : World) : Prop :=
  ∃ v', e = .returned v' ∧ RSts w' base v' (if s ∈ ts then ts else ts ++ [s]) ∧ ∃ w1, Below w.heap.size w w1 ∧ w1.grownBy w' v.ownBlock

set_option maxRecDepth 100000 in
set_option maxHeartbeats 2000000 in
theorem rput_any (base : Nat) (v : Value) (ts : List St) (s : St) (w : World) (hv : RSts w base v ts) (hts : ∀ t ∈ ts, Shape t) (hs : Shape s) (hn : ts.length ≤ 14000000000) (hbase : base ≤ w.heap.size) :
    Calls Try.prog 28 #[v, .agg (ints (rSt s)).toArray] w (PutP base v ts s w) := by
  have HV := Lib.hid hv
  have HTS := Lib.hid hts
  have HS := Lib.hid hs
  have SZ : Hid (∀ t, (Try.prog.info? 69).map (·.size) = some (ints (rSt t)).length) := Lib.hid (fun t => (rst_size).trans (congrArg some (rL_ints_len _).symm))
  obtain ⟨A, cc, rfl⟩ := hv.shape_
  obtain ⟨n, hnn⟩ : ∃ n, ts.length = n := ⟨_, rfl⟩
  rw [hnn] at hn HV ⊢
  have HN := Lib.hid hnn
  clear hv hts hs hnn
  go_enter Try.func28, Try.ntmps28
  go_wp2_with (first
    | ((with_reducible refine box_walk rfl 69 (.tmp 1) rfl (ints (rSt s)) rfl ?_); intro w1 r1 b1 z1; have R1 := Lib.hid r1; have B1 := Lib.hid b1; clear r1 b1 z1)
    | fail)
  try go_simp
  have V1 := Lib.hid (own_grown HV.out (gr_below B1.out none) (fun _ _ => by simp))
  go_loopw [5] (fun i wr => ∃ k : Nat, k ≤ n ∧ i = .int .i64 k ∧ Hid (s ∉ ts.take k) ∧ Hid (∃ q, wr = w1.drewN q)) (fun i _ => n - (intOf i).toNat)
  case atStart => exact ⟨0, Nat.zero_le _, rfl, Lib.hid (by simp), Lib.hid ⟨0, rfl⟩⟩
  case round =>
    obtain ⟨k, hk, rfl, HT, hq⟩ := hrel
    obtain ⟨q, rfl⟩ := hq.out
    clear hq
    have i0 : (0 : Int) ≤ (k : Int) := by omega
    by_cases hlt : k < n
    · obtain ⟨t, ht⟩ : ∃ t, ts[k]? = some t := ⟨_, List.getElem?_eq_getElem (by rw [HN.out]; exact hlt)⟩
      obtain ⟨g, c', hav, hgl, hcell⟩ := RSts.at_ V1.out ht
      injection hav with e1 e2 e3
      subst e1
      have HCELL := Lib.hid (show ∀ j u, (ints (rSt t))[j]? = some u → (w1.drewN q).cell? ((⟨g, k * 46, none⟩ : Addr).add j) = some u from hcell)
      have HROW := Lib.hid (show ∀ j u, (ints (rSt s))[j]? = some u → (w1.drewN q).cell? ((⟨w.heap.size, 0, none⟩ : Addr).add j) = some u from fun j u hu => by rw [Addr.add_lit, Nat.zero_add]; exact (R1.out.cell j).trans hu)
      have HK := Lib.hid ht
      have i1 : (k : Int) < (n : Int) := by omega
      clear hcell ht e2 e3
      generalize hwq : w1.drewN q = wq at HCELL HROW ⊢
      have HWQ := Lib.hid hwq
      clear hwq
      go_wp2
      refine wp_region_quiet_lit (by kernel_rfl) (by kernel_rfl) ?_
      iterate 3 go_big_quiet_step (fail)
      go_big_quiet_want
      refine quiet_load 69 (.tmp 14) rfl ⟨g, k * 46, none⟩ rfl (ints (rSt t)) rst_struct (SZ.out t) HCELL.out ?_
      go_big_quiet_on
      go_simp
      go_big_quiet_want
      refine quiet_load 69 (.tmp 3) rfl ⟨w.heap.size, 0, none⟩ rfl (ints (rSt s)) rst_struct (SZ.out s) HROW.out ?_
      go_big_quiet_on
      go_simp
      go_big_quiet_want
      refine quiet_eql (.tmp 15) (.tmp 16) _ rfl (rSt t) (rSt s) rfl rfl (rSt_len t) (rSt_len s) ?_
      go_big_quiet_on
      refine wpQuiet_nil ?_
      intro nq
      by_cases he : t = s
      · have hd : decide (rSt t = rSt s) = true := by rw [he]; simp
        have hin : s ∈ ts := by rw [← he]; exact List.mem_of_getElem? HK.out
        have HIN := Lib.hid hin
        rw [hd]
        clear hd he hin
        try go_simp
        go_wp2
        go_ret
        rw [← HWQ.out]
        refine ⟨_, rfl, ?_, (w1.drewN q).drewN nq, below_dn (below_dn B1.out q) nq, gr_refl _ _⟩
        rw [if_pos HIN.out]
        exact V1.out
      · have hd : decide (rSt t = rSt s) = false := by
          rw [decide_eq_false_iff_not]
          intro e
          exact he (rSt_inj (HTS.out t (List.mem_of_getElem? HK.out)) HS.out e)
        have HE := Lib.hid he
        rw [hd]
        clear hd he
        try go_simp
        go_wp2
        go_roundw
        case rel => exact ⟨k + 1, by omega, by go_num, Lib.hid (fun hm => by
          rw [List.take_add_one, HK.out] at hm
          rcases List.mem_append.1 hm with hm | hm
          · exact HT.out hm
          · exact HE.out (by simpa [eq_comm] using hm)), Lib.hid ⟨_, by rw [← HWQ.out]; exact World.drewN_drewN _ _ _⟩⟩
        case measure => simp [intOf]; omega
    · obtain rfl : k = n := by omega
      have hnot : s ∉ ts := by have := HT.out; rwa [List.take_of_length_le (by rw [HN.out]; exact Nat.le_refl _)] at this
      have HNOT := Lib.hid hnot
      have VQ := Lib.hid (show RSts (w1.drewN q) base (.slice A k cc) ts from V1.out)
      have RQ := Lib.hid (show Row (w1.drewN q) w.heap.size 69 (ints (rSt s)) from R1.out)
      have BQ := Lib.hid (below_dn B1.out q)
      have LN := Lib.hid (show ts.length ≤ 100000000000 from by rw [HN.out]; omega)
      clear hnot
      generalize w1.drewN q = w2 at VQ RQ BQ ⊢
      go_wp2_with (first
        | (with_reducible refine loadRow_walk rfl 69 (.tmp 3) rfl w.heap.size rfl (ints (rSt s)) rst_struct (SZ.out s) 69 RQ.out ?_)
        | ((with_reducible refine one_walk rfl 70 69 (.tmp 20) rfl (ints (rSt s)) rfl Try.underlying70 46 rst_one (by rw [ints_len, rSt_len]) (by omega) (by omega) ?_); intro y1 ry1 by1 zy1; have RY := Lib.hid ry1; have BY := Lib.hid (below_on BQ.out by1); have VY := Lib.hid (own_grown VQ.out (gr_below by1 none) (fun _ _ => by simp)); have HBB := Lib.hid (Nat.le_trans hbase (Nat.le_trans BQ.out.size by1.size)); clear zy1 by1 ry1)
        | (at_builtin; refine appR_walk rfl (.tmp 19) (.tmp 21) rfl base (.slice A k cc) ts rfl VY.out LN.out w2.heap.size rfl s RY.out HBB.out ?_; intro yv y4 s4 g4; have S4 := Lib.hid s4; have G4 := Lib.hid g4; clear s4 g4))
      go_ret
      refine ⟨_, rfl, ?_, y1, BY.out, G4.out⟩
      rw [if_neg HNOT.out]
      exact S4.out

/-- All cores of the programs have ended, and nothing is pending. -/
def EndedS (p : List (List Opn)) (s : St) (k : Nat) : Prop := ∀ i c, i < k → s.cores[i]? = some c → (p.getD i []).length ≤ c.next ∧ c.buf = []

theorem EndedS.more {p : List (List Opn)} {s : St} {k : Nat} {c : Core} (h : EndedS p s k) (hc : s.cores[k]? = some c) (h1 : (p.getD k []).length ≤ c.next) (h2 : c.buf = []) : EndedS p s (k + 1) := by
  intro i d hi hd
  by_cases e : i = k
  · subst e
    rw [hc] at hd
    injection hd with hd
    subst hd
    exact ⟨h1, h2⟩
  · exact h i d (by omega) hd

/-- What outcome's loops keep: the list in the making, and the state. -/
def OcAt (w w1 wr : World) (s : St) (v : Value) (xs : List Int) : Prop :=
  wr.ownsRow w1.heap.size 3 1 v xs.length (ints xs) ∧ RAt wr w.heap.size (rcell s) ∧ Below w1.heap.size w1 wr ∧ w.heap.size < w1.heap.size

theorem OcAt.row {w w1 wr : World} {s : St} {v : Value} {xs : List Int} (h : OcAt w w1 wr s v xs) (o : Obj) : (wr.alloc o).ownsRow w1.heap.size 3 1 v xs.length (ints xs) :=
  own_grown h.1 (gr_below (below_al wr o) none) (fun _ _ => by simp)

theorem OcAt.step {w w1 wr y : World} {s : St} {v v' : Value} {xs : List Int} {x : Int} (h : OcAt w w1 wr s v xs) (o : Obj) (hs : y.ownsRow w1.heap.size 3 1 v' (xs.length + 1) (ints xs ++ [.int .i64 x])) (hg : (wr.alloc o).grownBy y v.ownBlock) : OcAt w w1 y s v' (xs ++ [x]) := by
  have hb : Below w1.heap.size w1 (wr.alloc o) := h.2.2.1.trans ((below_al wr o).mono h.2.2.1.size)
  refine ⟨?_, ?_, hb.grown hg hb.size (own_base h.1), h.2.2.2⟩
  · rw [List.length_append, List.length_singleton, ints_append]
    exact hs
  · refine Row.of_grown (h.2.1.below (below_al wr o)) hg (fun e => ?_)
    have h1 := own_base h.1 _ e.symm
    have h2 := h.2.2.2
    omega

/-- What outcome answers. -/
def RoutP (p : List (List Opn)) (s : St) (w : World) (e : Ending) (w' : World) : Prop :=
  ((∃ v, e = .returned (.tuple #[v, .bool true]) ∧ EndedS p s p.length ∧ w'.ownsRow w.heap.size 3 1 v (outS p.length s).length (ints (outS p.length s))) ∨ (e = .returned (.tuple #[.slice none 0 0, .bool false]) ∧ ¬ EndedS p s p.length)) ∧ Below w.heap.size w w'

theorem regs_part {s : St} {k r : Nat} {c : Core} (hs : Shape s) (hc : s.cores[k]? = some c) (hr : r < 4) : regsTo s k ++ c.regs.take (r + 1) = (regsTo s k ++ c.regs.take r) ++ [rcell s (3 + (4 * k + r))] := by
  have hk : k < 3 := by have := (List.getElem?_eq_some_iff.1 hc).1; rw [hs.len] at this; exact this
  have hl := (hs.core k c hc).regs
  rw [List.take_add_one, List.getElem?_eq_getElem (by omega), List.append_assoc]
  congr 2
  rw [rcell_reg s hk hr, coreOf_some hc, List.getElem?_eq_getElem (by omega)]
  rfl

set_option maxRecDepth 100000 in
set_option maxHeartbeats 8000000 in
theorem routcome_any (v : Value) (p : List (List Opn)) (s : St) (w : World) (hp : Prg w v p) (hm3 : p.length ≤ 3) (hs : Shape s) :
    Calls Try.prog 31 #[v, .agg (ints (rSt s)).toArray] w (RoutP p s w) := by
  obtain ⟨i0, hi0, hz0, hz1, hz2⟩ := info_parts int_info
  have HP := Lib.hid hp
  have HS := Lib.hid hs
  obtain ⟨A, cc, rfl, hA⟩ := hp
  clear hA hs
  obtain ⟨m, hme⟩ : ∃ m, p.length = m := ⟨_, rfl⟩
  rw [hme] at hm3 HP ⊢
  have HM := Lib.hid hme
  clear hme
  go_enter Try.func31, Try.ntmps31
  go_wp2_with (first
    | ((with_reducible refine box_walk rfl 69 (.tmp 1) rfl (ints (rSt s)) rfl ?_); intro w1 r1 b1 z1; have hlt1 := r1.lt; have R1 := Lib.hid (show RAt w1 w.heap.size (rcell s) from r1); have B1 := Lib.hid b1; clear r1 b1 z1)
    | fail)
  try go_simp
  have O1 := Lib.hid (show OcAt w w1 w1 s (.slice none 0 0) [] from ⟨⟨rfl, .inl ⟨rfl, rfl⟩⟩, R1.out, Below.refl _ _, hlt1⟩)
  clear R1
  go_loopw [6, 7] (fun ov cv wr => ∃ k : Nat, k ≤ m ∧ cv = .int .i64 k ∧ Hid (OcAt w w1 wr s ov (regsTo s k)) ∧ Hid (EndedS p s k)) (fun _ cv _ => m - (intOf cv).toNat)
  case atStart => exact ⟨0, Nat.zero_le _, rfl, O1, Lib.hid (fun i c hi => by omega)⟩
  case round =>
    obtain ⟨k, hk, rfl, HO, HE⟩ := hrel
    clear O1
    by_cases hlt : k < m
    · obtain ⟨wo, rfl⟩ : ∃ wo, wo = wr := ⟨_, rfl⟩
      obtain ⟨l, hl⟩ : ∃ l, p[k]? = some l := ⟨_, List.getElem?_eq_getElem (by rw [HM.out]; exact hlt)⟩
      have hgl : p.getD k [] = l := by rw [List.getD_eq_getElem?_getD, hl]; rfl
      obtain ⟨c, hc⟩ : ∃ c, s.cores[k]? = some c := ⟨_, List.getElem?_eq_getElem (by rw [HS.out.len]; omega)⟩
      have hbo : Below w.heap.size w wo := B1.out.trans (HO.out.2.2.1.mono B1.out.size)
      obtain ⟨ad, cv, A', c', hv', q1, hrec⟩ := (HP.out.below hbo).at_ hl
      rw [HM.out] at hv'
      injection hv' with eA _ eC
      subst eA eC
      have k3 : k < 3 := by omega
      have cpos : wo.cell? ⟨w.heap.size, k, none⟩ = some (.int .i64 (c.next : Int)) := (HO.out.2.1.cell (k := k) (by omega)).trans (by rw [rcell_pos s k3, coreOf_some hc])
      have clen : wo.cell? ⟨w.heap.size, 19 + k, none⟩ = some (.int .i64 (c.buf.length : Int)) := (HO.out.2.1.cell (k := 19 + k) (by omega)).trans (by rw [rcell_len s k3, coreOf_some hc])
      have HC := Lib.hid hc
      have HGL := Lib.hid hgl
      have HBO := Lib.hid hbo
      have hnx := (HS.out.core k c hc).next
      have hbl := (HS.out.core k c hc).room
      obtain ⟨n, hn⟩ : ∃ n, l.length = n := ⟨_, rfl⟩
      obtain ⟨nx, hnx'⟩ : ∃ n, c.next = n := ⟨_, rfl⟩
      obtain ⟨b, hb'⟩ : ∃ n, c.buf.length = n := ⟨_, rfl⟩
      rw [hn] at q1
      rw [hnx'] at cpos hnx
      rw [hb'] at clen hbl
      have HN := Lib.hid hn
      have HNX := Lib.hid hnx'
      have HBL := Lib.hid hb'
      have j0 : (0 : Int) ≤ (k : Int) := by omega
      have j3 : (k : Int) < 3 := by omega
      have jm : (k : Int) < (m : Int) := by omega
      clear hl hgl hc hrec hn hnx' hb' hbo
      by_cases h1 : nx < n
      · have t1 : decide (nx < n) = true := decide_eq_true h1
        have hno : ¬ EndedS p s p.length := fun h => by
          have := (h k c (by rw [HM.out]; exact hlt) HC.out).1
          rw [HGL.out, HN.out, HNX.out] at this
          omega
        have HNO := Lib.hid hno
        clear h1 hno
        go_wp2
        go_quiet (fail)
        go_wp2
        go_ret2
        exact ⟨.inr ⟨rfl, HNO.out⟩, below_dn HBO.out nq⟩
      · have t1 : decide (nx < n) = false := decide_eq_false h1
        by_cases h2 : 0 < b
        · have t2 : decide (0 < b) = true := decide_eq_true h2
          have hno : ¬ EndedS p s p.length := fun h => by
            have := (h k c (by rw [HM.out]; exact hlt) HC.out).2
            have h3 := HBL.out
            rw [this] at h3
            simp at h3
            omega
          have HNO := Lib.hid hno
          clear h1 h2 hno
          go_wp2
          go_quiet (fail)
          go_wp2
          go_ret2
          exact ⟨.inr ⟨rfl, HNO.out⟩, below_dn HBO.out nq⟩
        · obtain rfl : b = 0 := by omega
          have hmore : EndedS p s (k + 1) := HE.out.more HC.out (by rw [HGL.out, HN.out, HNX.out]; omega) (List.eq_nil_of_length_eq_zero HBL.out)
          have HMORE := Lib.hid hmore
          have hrm := regs_more HC.out
          have HRM := Lib.hid hrm
          have hrl := (HS.out.core k c HC.out).regs
          have HRL := Lib.hid hrl
          have hlk : (regsTo s k).length ≤ 100 := by
            have h4 := HO.out.2.2.2
            have : ∀ k, k ≤ 3 → (regsTo s k).length = k * 4 := fun k hk => take_flat HS.out k hk
            rw [this k (by omega)]; omega
          clear h1 h2 hmore hrm hrl
          go_wp2
          go_quiet (fail)
          have OQ := Lib.hid (show OcAt w w1 (wo.drewN nq) s u6 (regsTo s k ++ c.regs.take 0) from by
            rw [List.take_zero, List.append_nil]
            exact ⟨HO.out.1, HO.out.2.1, below_dn HO.out.2.2.1 nq, HO.out.2.2.2⟩)
          generalize wo.drewN nq = wq at OQ ⊢
          clear cpos clen q1 t1
          go_wp2
          go_loopw [6, 8] (fun ov rv wr => ∃ r : Nat, r ≤ 4 ∧ rv = .int .i64 r ∧ Hid (OcAt w w1 wr s ov (regsTo s k ++ c.regs.take r))) (fun _ rv _ => 4 - (intOf rv).toNat)
          case atStart => exact ⟨0, Nat.zero_le _, rfl, OQ⟩
          case round =>
            obtain ⟨r, hr, rfl, HR⟩ := hrel
            by_cases hr4 : r < 4
            · have cr := HR.out.2.1.cell (k := 3 + (4 * k + r)) (by omega)
              have hpart := regs_part HS.out HC.out hr4
              generalize rcell s (3 + (4 * k + r)) = x at cr hpart
              have HPART := Lib.hid hpart
              obtain ⟨xs, hxs⟩ : ∃ xs, regsTo s k ++ c.regs.take r = xs := ⟨_, rfl⟩
              have hxl : xs.length ≤ 200 := by rw [← hxs, List.length_append, List.length_take]; omega
              rw [hxs] at HR HPART
              have OB := Lib.hid (HR.out.row (.cells #[.int .i64 x] 3))
              have LF := Lib.hid (Lies.fresh wr (· = wr.heap.size) 3 [.int .i64 x] wr.heap.size rfl rfl 1)
              have ON : Hid (∀ u ∈ [Value.int .i64 x], u.oneCell' = true) := Lib.hid (by simp [Value.oneCell'])
              have HBB := Lib.hid (Nat.le_trans HR.out.2.2.1.size (below_al wr (.cells #[.int .i64 x] 3)).size)
              have r0 : (0 : Int) ≤ (r : Int) := by omega
              have r4 : (r : Int) < 4 := by omega
              clear hpart hxs
              go_wp2_with (at_builtin; go_must (refine app_walk _ rfl (.tmp 37) (.tmp 45) 35 rfl w1.heap.size 3 i0 _ 8 Try.underlying35 hi0 hz0 hz1 hz2 rfl u6 xs.length (ints xs) rfl OB.out (· = wr.heap.size) (some ⟨wr.heap.size, 0, none⟩) 1 1 [.int .i64 x] rfl LF.out (Nat.le_refl _) ON.out (by unfold maxLen; omega) (by omega) HBB.out ?_; intro yv y4 s4 g4 l4; have S4 := Lib.hid s4; have G4 := Lib.hid g4; clear s4 g4 l4))
              go_roundw
              case rel => exact ⟨r + 1, by omega, by go_num, Lib.hid (by rw [HPART.out]; exact HR.out.step _ S4.out G4.out)⟩
              case measure => simp [intOf]; omega
            · obtain rfl : r = 4 := by omega
              have hfull : OcAt w w1 wr s u6 (regsTo s (k + 1)) := by
                have := HR.out
                rw [List.take_of_length_le (by rw [HRL.out]; omega)] at this
                rw [HRM.out]
                exact this
              have HFULL := Lib.hid hfull
              clear hfull
              go_wp2
              go_roundw
              case rel => exact ⟨k + 1, by omega, by go_num, HFULL, HMORE⟩
              case measure => simp [intOf]; omega
    · obtain rfl : k = m := by omega
      have OQ := Lib.hid (show OcAt w w1 wr s u6 (regsTo s k ++ s.mem.take 0) from by rw [List.take_zero, List.append_nil]; exact HO.out)
      have hlk : (regsTo s k).length ≤ 100 := by
        have : ∀ k, k ≤ 3 → (regsTo s k).length = k * 4 := fun k hk => take_flat HS.out k hk
        rw [this k (by omega)]; omega
      go_wp2
      go_loopw [6, 9] (fun ov rv wr => ∃ r : Nat, r ≤ 4 ∧ rv = .int .i64 r ∧ Hid (OcAt w w1 wr s ov (regsTo s k ++ s.mem.take r))) (fun _ rv _ => 4 - (intOf rv).toNat)
      case atStart => exact ⟨0, Nat.zero_le _, rfl, OQ⟩
      case round =>
        obtain ⟨r, hr, rfl, HR⟩ := hrel
        by_cases hr4 : r < 4
        · have cr := HR.out.2.1.cell (k := 15 + r) (by omega)
          have hpart : regsTo s k ++ s.mem.take (r + 1) = (regsTo s k ++ s.mem.take r) ++ [rcell s (15 + r)] := by
            rw [List.take_add_one, List.getElem?_eq_getElem (by rw [HS.out.mem]; exact hr4), List.append_assoc, rcell_mem s hr4, List.getElem?_eq_getElem (by rw [HS.out.mem]; exact hr4)]
            rfl
          generalize rcell s (15 + r) = x at cr hpart
          have HPART := Lib.hid hpart
          obtain ⟨xs, hxs⟩ : ∃ xs, regsTo s k ++ s.mem.take r = xs := ⟨_, rfl⟩
          have hxl : xs.length ≤ 200 := by rw [← hxs, List.length_append, List.length_take]; omega
          rw [hxs] at HR HPART
          have OB := Lib.hid (HR.out.row (.cells #[.int .i64 x] 3))
          have LF := Lib.hid (Lies.fresh wr (· = wr.heap.size) 3 [.int .i64 x] wr.heap.size rfl rfl 1)
          have ON : Hid (∀ u ∈ [Value.int .i64 x], u.oneCell' = true) := Lib.hid (by simp [Value.oneCell'])
          have HBB := Lib.hid (Nat.le_trans HR.out.2.2.1.size (below_al wr (.cells #[.int .i64 x] 3)).size)
          have r0 : (0 : Int) ≤ (r : Int) := by omega
          have r4 : (r : Int) < 4 := by omega
          clear hpart hxs
          go_wp2_with (at_builtin; go_must (refine app_walk _ rfl (.tmp 51) (.tmp 56) 35 rfl w1.heap.size 3 i0 _ 8 Try.underlying35 hi0 hz0 hz1 hz2 rfl u6 xs.length (ints xs) rfl OB.out (· = wr.heap.size) (some ⟨wr.heap.size, 0, none⟩) 1 1 [.int .i64 x] rfl LF.out (Nat.le_refl _) ON.out (by unfold maxLen; omega) (by omega) HBB.out ?_; intro yv y4 s4 g4 l4; have S4 := Lib.hid s4; have G4 := Lib.hid g4; clear s4 g4 l4))
          go_roundw
          case rel => exact ⟨r + 1, by omega, by go_num, Lib.hid (by rw [HPART.out]; exact HR.out.step _ S4.out G4.out)⟩
          case measure => simp [intOf]; omega
        · obtain rfl : r = 4 := by omega
          have hout : OcAt w w1 wr s u6 (outS p.length s) := by
            have := HR.out
            rw [List.take_of_length_le (by rw [HS.out.mem]; omega)] at this
            rw [HM.out]
            exact this
          have HOUT := Lib.hid hout
          clear hout
          go_wp2
          go_ret2
          exact ⟨.inl ⟨_, rfl, by rw [HM.out]; exact HE.out, own_rebase HOUT.out.1 B1.out.size⟩, B1.out.trans (HOUT.out.2.2.1.mono B1.out.size)⟩

#print axioms rstep_any
#print axioms rless_any
#print axioms rput_any
#print axioms routcome_any
end Go.Proofs.Ytgljgpllooehkaa
