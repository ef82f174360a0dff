/-
  Layer 10 (locks): Same of two banks of one size; the law's do; alive (the chapter's example); LocksNobody.
  Conditions: those that each theorem states.
-/
import Derived.Test.YtdpoigeeechchaaLk4
namespace Go.Proofs.Ytdpoigeeechchaa
open Go.ChangeShapes Go.WideShapes Go.ChangeAt Go.RowKit

theorem arr16_guard : Try.prog.eqGuardType Try.prog.depth 52 = false := by kernel_rfl

theorem eq_16 (xs ys : List Int) (hx : xs.length = 16) (hy : ys.length = 16) (W : World) :
    (binOp .eql 52 (.agg (ints xs).toArray) (.agg (ints ys).toArray)).run Try.prog W = .ok (.bool (decide (xs = ys))) W := by
  have i0 : ∀ W, (isAgg 3).run Try.prog W = .ok false W := fun W => by simp [isAgg, run_underlying Try.underlying3]
  have h := eq_ints (d := 9998) Try.underlying52 Try.underlying3 i0 Try.sizeOf3 xs ys hx hy W
  rw [run_eql_struct]
  show ((Op.equalIn (9998 + 1 + 1) 52 _ _).run Try.prog W).andThen _ = _
  rw [h]
  rfl

/-- Two arrays are compared in a region that only reads. -/
theorem quiet_eq16 {w0 : World} {o : Oper} {a : Act} {K : Act → Prop} (x y : Operand) (tt : TypeId) (ho : o.op = .binOp .eql 52 x y tt) (xs ys : List Int) (hx : a.eval x = .agg (ints xs).toArray) (hy : a.eval y = .agg (ints ys).toArray) (hxl : xs.length = 16) (hyl : ys.length = 16)
    (h : K (a.put o.dst (.bool (decide (xs = ys))))) : o.quiet Try.prog a (fun w' => ∃ n, w' = w0.drewN n) K :=
  ⟨_, fun w _ => by
    unfold Oper.quietAt execOp
    simp only [ho, hx, hy, Sem.run_bind, run_eqGuard_agg w .eql 52 x y _ _ arr16_guard, Result.andThen_ok, eq_16 xs ys hxl hyl, Sem.run_pure]
    exact ⟨rfl, rfl⟩, h⟩

set_option maxRecDepth 100000 in
set_option maxHeartbeats 2000000 in
theorem same10_any (g g' C : Nat) (l m : List Int) (w : World) (r : BankAt w g C l) (r' : BankAt w g' C m) (hl : l.length = m.length) :
    Calls Try.prog 14 #[.pointer (some ⟨g, 0, none⟩), .pointer (some ⟨g', 0, none⟩)] w fun e w' => e = .returned (.bool (decide (l = m))) ∧ Below w.heap.size w w' := by
  have hd : decide (l = m) = decide (padL l = padL m) := decide_eq_decide.2 ⟨fun e => by rw [e], padL_inj hl⟩
  rw [hd]
  obtain ⟨p, hp⟩ : ∃ p, padL l = p := ⟨_, rfl⟩
  obtain ⟨q, hq⟩ : ∃ q, padL m = q := ⟨_, rfl⟩
  have hpl : Hid (p.length = 16) := Lib.hid (by rw [← hp]; exact padL_len r.n16)
  have hql : Hid (q.length = 16) := Lib.hid (by rw [← hq]; exact padL_len r'.n16)
  have HP : Hid (∀ j u, (ints p)[j]? = some u → w.cell? ((⟨g, 2, none⟩ : Addr).add j) = some u) := Lib.hid (fun j u hu => by
    rw [Addr.add_lit, r.row.cell, Nat.add_comm]
    simp only [bcells, List.getElem?_cons_succ]
    rw [hp]; exact hu)
  have HQ : Hid (∀ j u, (ints q)[j]? = some u → w.cell? ((⟨g', 2, none⟩ : Addr).add j) = some u) := Lib.hid (fun j u hu => by
    rw [Addr.add_lit, r'.row.cell, Nat.add_comm]
    simp only [bcells, List.getElem?_cons_succ]
    rw [hq]; exact hu)
  have SP : Hid ((Try.prog.info? 52).map (·.size) = some (ints p).length) := Lib.hid (by rw [ints_len, hpl.out]; exact arr16_size)
  have SQ : Hid ((Try.prog.info? 52).map (·.size) = some (ints q).length) := Lib.hid (by rw [ints_len, hql.out]; exact arr16_size)
  obtain ⟨n, hn⟩ : ∃ n, m.length = n := ⟨_, rfl⟩
  have c0 : w.cell? ⟨g, 0, none⟩ = some (.int .i64 C) := r.row.cell 0
  have d0 : w.cell? ⟨g', 0, none⟩ = some (.int .i64 C) := r'.row.cell 0
  have c1 : w.cell? ⟨g, 1, none⟩ = some (.int .i64 n) := by rw [← hn, ← hl]; exact r.row.cell 1
  have d1 : w.cell? ⟨g', 1, none⟩ = some (.int .i64 n) := by rw [← hn]; exact r'.row.cell 1
  have b0 : ((C : Int) == (C : Int)) = true := by simp
  have b1 : ((n : Int) == (n : Int)) = true := by simp
  rw [hp, hq]
  clear r r' hl hd hp hq hn
  go_enter Try.func14, Try.ntmps14
  go_wp2
  refine wp_region_quiet_lit (by kernel_rfl) (by kernel_rfl) ?_
  iterate 24 go_big_quiet_step (fail)
  go_big_quiet_want
  refine quiet_load 52 (.tmp 37) rfl ⟨g, 2, none⟩ rfl (ints p) arr16_struct SP.out HP.out ?_
  go_big_quiet_on
  go_simp
  iterate 3 go_big_quiet_step (fail)
  go_big_quiet_want
  refine quiet_load 52 (.tmp 41) rfl ⟨g', 2, none⟩ rfl (ints q) arr16_struct SQ.out HQ.out ?_
  go_big_quiet_on
  go_simp
  go_big_quiet_want
  refine quiet_eq16 (.tmp 38) (.tmp 42) _ rfl p q rfl rfl hpl.out hql.out ?_
  go_big_quiet_on
  go_simp
  iterate 2 go_big_quiet_step (fail)
  refine wpQuiet_nil ?_
  intro nq
  try go_simp
  go_wp2
  go_ret
  exact ⟨rfl, below_q _ _⟩

#print axioms same10_any
end Go.Proofs.Ytdpoigeeechchaa
