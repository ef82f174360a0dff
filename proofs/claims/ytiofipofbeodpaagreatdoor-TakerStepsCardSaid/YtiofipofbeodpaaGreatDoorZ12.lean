/-
  Texts merged, with what one theorem needs of them.
  Conditions: those that each theorem states.
-/
import Derived.Test.YtiofipofbeodpaaGreatDoorRows
import Derived.Test.YtiofipofbeodpaaGreatDoorZ1
import Derived.Test.YtiofipofbeodpaaGreatDoorZ2
import Derived.Test.YtiofipofbeodpaaGreatDoorZ3
import Derived.Test.YtiofipofbeodpaaGreatDoorZ7
import Derived.Test.YtiofipofbeodpaaGreatDoorZ8
import Derived.Test.YtiofipofbeodpaaGreatDoorZ9
import Derived.Test.YtiofipofbeodpaaGreatDoorZ10
import Derived.Test.YtiofipofbeodpaaGreatDoorZ11
import Derived.Below
import Derived.BigQuiet
import Derived.Deep.AppendLies
import Derived.Deep.DeepMust
import Derived.Deep.Draws
import Derived.Deep.OwnRows
import Derived.Deep.QuietTactic
import Derived.Deep.RegionHeld3
import Derived.Deep.RegionLaw
import Derived.Defers
import Derived.Handy
import Derived.IntWalk
import Derived.Laws.BitsLemmas
import Derived.Laws.CopyOwn
import Derived.Laws.OwnMore
import Derived.Laws.Rows
import Derived.Lib.Hide
import Derived.Lib.SliceRun
import Derived.Maps.AppendAt
import Derived.OpenShut
import Derived.ProofKit
import Derived.Recover
import Derived.RegionTactic
import Derived.WalkKit
namespace Go.Proofs.YtiofipofbeodpaaGreatDoor

section
open Go.ChangeShapes Go.WideShapes Go.ChangeAt Go.RowKit
/-- A touch: its kind, the address or the core, the word or the epoch. -/
abbrev Tch := Int × Int × Int
def thr (x : Tch) : List Value := [.int .i64 x.1, .int .i64 x.2.1, .int .i64 x.2.2]
def tcs : List Tch → List Value
  | [] => []
  | x :: l => thr x ++ tcs l
theorem tcs_len : ∀ l : List Tch, (tcs l).length = l.length * 3
  | [] => rfl
  | x :: l => by simp only [tcs, List.length_append, List.length_cons, tcs_len l, thr, List.length_nil]; omega
theorem tcs_append : ∀ a b : List Tch, tcs (a ++ b) = tcs a ++ tcs b
  | [], b => rfl
  | x :: a, b => by simp only [List.cons_append, tcs, tcs_append a b, List.append_assoc]
theorem tcs_one : ∀ l : List Tch, ∀ u ∈ tcs l, u.oneCell' = true
  | [], u, h => by cases h
  | x :: l, u, h => by
    rcases List.mem_append.1 h with h | h
    · simp only [thr, List.mem_cons, List.not_mem_nil, or_false] at h
      rcases h with rfl | rfl | rfl <;> rfl
    · exact tcs_one l u h
theorem tcs_at : ∀ {l : List Tch} {k : Nat} {x : Tch}, l[k]? = some x → (tcs l)[k * 3]? = some (.int .i64 x.1) ∧ (tcs l)[k * 3 + 1]? = some (.int .i64 x.2.1) ∧ (tcs l)[k * 3 + 2]? = some (.int .i64 x.2.2)
  | [], k, x, h => by simp at h
  | y :: l, 0, x, h => by
    simp only [List.getElem?_cons_zero, Option.some.injEq] at h
    subst h
    exact ⟨rfl, rfl, rfl⟩
  | y :: l, k + 1, x, h => by
    have h1 : l[k]? = some x := by simpa using h
    have e : (k + 1) * 3 = k * 3 + 1 + 1 + 1 := by omega
    rw [e]
    simpa [tcs, thr] using tcs_at h1
/-- The slice v holds the touches l; its block, if it has elements, is one of those that P allows. -/
def Thr (w : World) (P : Nat → Prop) (v : Value) (l : List Tch) : Prop :=
  ∃ A c, v = .slice A l.length c ∧ (0 < l.length → ∃ g o, A = some ⟨g, o, none⟩ ∧ P g ∧ g < w.heap.size ∧ ∀ j u, (tcs l)[j]? = some u → w.cell? ⟨g, o + j, none⟩ = some u)
theorem Thr.weak {w : World} {P Q : Nat → Prop} {v : Value} {l : List Tch} (h : Thr w P v l) (hPQ : ∀ g, g < w.heap.size → P g → Q g) : Thr w Q v l := by
  obtain ⟨A, c, rfl, hc⟩ := h
  refine ⟨A, c, rfl, fun hp => ?_⟩
  obtain ⟨g, o, hA, hP, hlt, hcell⟩ := hc hp
  exact ⟨g, o, hA, hPQ g hlt hP, hlt, hcell⟩
theorem Thr.only {S : Nat → Prop} {w w' : World} {P : Nat → Prop} {v : Value} {l : List Tch} (h : Thr w P v l) (ho : Only S w w') (hr : ∀ g, S g → ¬ P g) : Thr w' P v l := by
  obtain ⟨A, c, rfl, hc⟩ := h
  refine ⟨A, c, rfl, fun hp => ?_⟩
  obtain ⟨g, o, hA, hP, hlt, hcell⟩ := hc hp
  refine ⟨g, o, hA, hP, Nat.lt_of_lt_of_le hlt ho.size, fun j u hu => ?_⟩
  rw [World.cell?_of_block (w := w) (ho.block g hlt (fun e => hr g e hP))]
  exact hcell j u hu
theorem Thr.below {w w' : World} {P : Nat → Prop} {v : Value} {l : List Tch} (h : Thr w P v l) (hb : Below w.heap.size w w') : Thr w' P v l :=
  h.only (Only.of_below hb (fun _ => False)) (fun _ h => h.elim)
theorem Thr.of_own {w : World} {base : Nat} {e : TypeId} {v : Value} {n : Nat} {l : List Tch} (h : w.ownsRow base e 3 v n (tcs l)) : Thr w (fun b => v.ownBlock = some b) v l := by
  obtain ⟨hl, h2⟩ := h
  rw [tcs_len] at hl
  have hn : l.length = n := by omega
  subst hn
  rcases h2 with ⟨rfl, h0⟩ | ⟨g, cap, cur, rfl, hb, hg, hn, hm, hs, ht⟩
  · obtain rfl : l = [] := List.eq_nil_of_length_eq_zero h0
    exact ⟨none, 0, rfl, fun h => absurd h (by simp)⟩
  · refine ⟨_, cap, rfl, fun _ => ⟨g, 0, rfl, rfl, (Array.getElem?_eq_some_iff.1 hg).1, fun j u hu => ?_⟩⟩
    rw [Nat.zero_add, cell_of_row w g j cur e (0, 0) hg]
    rw [← ht, List.getElem?_take] at hu
    split at hu
    · simpa using hu
    · cases hu
theorem Thr.open_ {w : World} {P : Nat → Prop} {v : Value} {l : List Tch} (h : Thr w P v l) : ∃ A n c, v = .slice A n c ∧ Hid (l.length = n) ∧ Hid (Thr w P (.slice A n c) l) := by
  have h0 := h
  obtain ⟨A, c, rfl, _⟩ := h
  exact ⟨A, _, c, rfl, rfl, h0⟩
/-- Touch number k. -/
theorem Thr.cells {w : World} {P : Nat → Prop} {A : Option Addr} {n c : Nat} {l : List Tch} (h : Thr w P (.slice A n c) l) {k : Nat} {x : Tch} (hk : l[k]? = some x) :
    ∃ g o, A = some ⟨g, o, none⟩ ∧ P g ∧ g < w.heap.size ∧ w.cell? ⟨g, o + k * 3, none⟩ = some (.int .i64 x.1) ∧ w.cell? ⟨g, o + k * 3 + 1, none⟩ = some (.int .i64 x.2.1) ∧ w.cell? ⟨g, o + k * 3 + 2, none⟩ = some (.int .i64 x.2.2) := by
  obtain ⟨A', c', hv, hA⟩ := h
  injection hv with e1 e2 e3
  subst e1
  have hlt : k < l.length := (List.getElem?_eq_some_iff.1 hk).1
  obtain ⟨g, o, rfl, hP, hg, hc⟩ := hA (by omega)
  obtain ⟨h1, h2, h3⟩ := tcs_at hk
  exact ⟨g, o, rfl, hP, hg, hc _ _ h1, by rw [Nat.add_assoc]; exact hc _ _ h2, by rw [Nat.add_assoc]; exact hc _ _ h3⟩
theorem own_type {w : World} {base : Nat} {e t : TypeId} {size : Nat} {v : Value} {n g : Nat} {xs cs : List Value} (h : w.ownsRow base e size v n xs) (hr : Row w g t cs) (hne : t ≠ e) : v.ownBlock ≠ some g := by
  intro hv
  rcases h.2 with ⟨rfl, _⟩ | ⟨g', cap, cur, rfl, _, hg, _⟩
  · cases hv
  · simp only [Value.ownBlock, Option.some.injEq] at hv
    subst hv
    unfold Row at hr
    rw [hg] at hr
    injection hr with hr
    injection hr with _ hr
    exact hne hr.symm
/-- A Trace that forwards to the Plain in block p: its struct is block t, its list of touches is a slice of its own. -/
structure TraceAt (w : World) (t p : Nat) (v : Value) (T : List Tch) : Prop where
  row : Row w t 99 [face14 p, v]
  own : w.ownsRow (t + 1) 67 3 v T.length (tcs T)
theorem TraceAt.vt {w : World} {t p : Nat} {v : Value} {T : List Tch} (r : TraceAt w t p v T) : v.ownBlock ≠ some t := own_type r.own r.row (by decide)
theorem TraceAt.only {S : Nat → Prop} {w w' : World} {t p : Nat} {v : Value} {T : List Tch} (r : TraceAt w t p v T) (ho : Only S w w') (h1 : ¬ S t) (h2 : ∀ g, v.ownBlock = some g → ¬ S g) : TraceAt w' t p v T :=
  ⟨r.row.only ho h1, own_quiet r.own (fun g hg => ho.block g (r.own.lt g hg).2 (h2 g hg))⟩
theorem TraceAt.below {w w' : World} {t p : Nat} {v : Value} {T : List Tch} (r : TraceAt w t p v T) (hb : Below w.heap.size w w') : TraceAt w' t p v T :=
  r.only (Only.of_below hb (fun _ => False)) id (fun _ _ => id)
theorem touch_info : (Tryz.prog.info? 67).map (fun i => (i.zero, i.size, i.bytes)) = some (some (.agg #[.int .i64 0, .int .i64 0, .int .i64 0]), 3, 24) := by kernel_rfl
theorem app14_step {P : Program} (w : World) {ops : Array Oper} {o : Oper} {a : Act} {K : Act → World → Prop} {Q : Exit → Act → World → Prop} {E : Prop} (hgd : o.guard = none) (s x : Operand) (t : TypeId)
    (ho : o.op = .call { callee := .builtin .append, args := #[s, x], argTypes := #[t, t] }) (base : Nat) (e : TypeId) (i : TypeInfo) (z : Value) (size bytes : Nat) (ht : P.underlying t = some (.slice e)) (hi : P.info? e = some i) (hz : i.zero = some z)
    (hsize : i.size = size) (hby : i.bytes = bytes) (hzs : z.cells.size = size) (hpos : 0 < size) (v : Value) (n : Nat) (xs : List Value) (hs : a.eval s = v) (hown : w.ownsRow base e size v n xs)
    (ad : Addr) (m c : Nat) (news : List Value) (hx : a.eval x = .slice (some ad) m c) (hn : news.length = m * size) (hc : ∀ j u, news[j]? = some u → w.cell? (ad.add j) = some u) (h1 : ∀ u ∈ news, u.oneCell' = true)
    (h63 : n + m ≤ maxLen) (hbytes : (n + m) * bytes ≤ 140737488355328) (hbase : base ≤ w.heap.size)
    (h : ∀ v' w', w'.ownsRow base e size v' (n + m) (xs ++ news) → w.grownBy w' v.ownBlock → (v'.ownBlock = v.ownBlock ∨ v'.ownBlock = some w.heap.size) → K (a.put o.dst v') w') :
    if Region.wanted o (yielded ops a.tmps) = true then Oper.wp P o a w K Q else E := by
  obtain ⟨v', w', hrun, h2, h3, _, h5⟩ := run_append_own_at (P := P) w base t o.type e i z size bytes ht hi hz hsize hby hzs hpos v n xs hown ad m c news hn hc h1 h63 hbytes hbase
  have hw : Region.wanted o (yielded ops a.tmps) = true := by simp [Region.wanted, hgd]
  rw [if_pos hw]
  unfold Oper.wp
  simp [execOp, ho, resolve, invoke, builtin, hs, hx, hrun, Result.andThen]
  exact h v' w' h2 h3 h5
theorem cells_new14 (w : World) (cs : List Value) (t : TypeId) (b : Nat) (hb : w.heap.size = b) : ∀ j u, cs[j]? = some u → (w.alloc (.cells cs.toArray t)).cell? ((⟨b, 0, none⟩ : Addr).add j) = some u := by
  intro j u hu
  subst hb
  rw [Addr.add_lit, Nat.zero_add]
  rw [Row.cell (Row.new w t cs.toArray) j]
  exact hu
/-- What record leaves. -/
def RecP (t p : Nat) (v : Value) (T : List Tch) (w : World) (e : Ending) (w' : World) : Prop :=
  ∃ v', e = .returned (.tuple #[]) ∧ TraceAt w' t p v' T ∧ Only (fun g => g = t ∨ v.ownBlock = some g) w w' ∧ (v'.ownBlock = v.ownBlock ∨ ∃ g, v'.ownBlock = some g ∧ w.heap.size ≤ g)
theorem rec_end {t p n c g' cap' : Nat} {A : Option Addr} {T : List Tch} {k i u : Int} {w w1 : World}
    (HO : w1.ownsRow (t + 1) 67 3 (.slice (some ⟨g', 0, none⟩) (n + 1) cap') (n + 1) (tcs T ++ [.int .i64 k, .int .i64 i, .int .i64 u])) (HR : Row w1 t 99 [face14 p, .slice A n c])
    (OG : Only (fun g => g = t ∨ (Value.slice A n c).ownBlock = some g) w w1) (HA : Value.ownBlock (.slice (some ⟨g', 0, none⟩) (n + 1) cap') = (Value.slice A n c).ownBlock ∨ ∃ g, Value.ownBlock (.slice (some ⟨g', 0, none⟩) (n + 1) cap') = some g ∧ w.heap.size ≤ g)
    (HN : T.length = n) (hbg : t + 1 ≤ g') :
    RecP t p (.slice A n c) (T ++ [(k, i, u)]) w (.returned (.tuple #[])) (w1.setCell ⟨t, 1, none⟩ (.slice (some ⟨g', 0, none⟩) (n + 1) cap')) := by
  have o3 : Only (· = t) w1 (w1.setCell ⟨t, 1, none⟩ (.slice (some ⟨g', 0, none⟩) (n + 1) cap')) := (Only.refl (· = t) w1).setCell (p := ⟨t, 1, none⟩) (.inl rfl) _
  refine ⟨_, rfl, ⟨HR.put 1 _, ?_⟩, OG.setCell (p := ⟨t, 1, none⟩) (.inl (.inl rfl)) _, HA⟩
  have := own_quiet HO (fun g hg => o3.block g (HO.lt g hg).2 (fun e => by simp only [Value.ownBlock, Option.some.injEq] at hg; omega))
  rw [List.length_append, HN, tcs_append]
  exact this
set_option maxRecDepth 100000 in
set_option maxHeartbeats 2000000 in
theorem record14_any {t p : Nat} {v : Value} {T : List Tch} (k i u : Int) (w : World) (r : TraceAt w t p v T) (hl : T.length ≤ 65536) :
    Calls Tryz.prog 117 #[.pointer (some ⟨t, 0, none⟩), .agg #[.int .i64 k, .int .i64 i, .int .i64 u]] w (RecP t p v (T ++ [(k, i, u)]) w) := by
  obtain ⟨i0, hi0, hz0, hz1, hz2⟩ := info_parts touch_info
  have hc := r.row.cell 1
  simp only [List.getElem?_cons_zero, List.getElem?_cons_succ] at hc
  have R := Lib.hid r
  obtain ⟨A, c, rfl⟩ := own_open14 r.own
  have htl := r.row.lt
  obtain ⟨n, hn⟩ : ∃ n, T.length = n := ⟨_, rfl⟩
  have HO := Lib.hid r.own
  rw [hn] at hc R HO hl ⊢
  have HN := Lib.hid hn
  clear r hn
  go_enter Tryz.func117, Tryz.ntmps117
  go_wp2
  go_region_law (refine app14_step _ rfl (.tmp 8) (.tmp 10) 63 rfl (t + 1) 67 i0 _ 3 24 Tryz.underlying63 hi0 hz0 hz1 hz2 rfl (by omega) _ _ _ rfl (own_quiet HO.out (fun g hg => (show Below w.heap.size w _ from by go_grown).block g (HO.out.lt g hg).2)) _ 1 1 [.int .i64 k, .int .i64 i, .int .i64 u] rfl rfl (cells_new14 _ _ _ _ (by simp)) (by intro q hq; simp at hq; rcases hq with rfl | rfl | rfl <;> rfl) (by unfold maxLen; omega) (by omega) (by simp; omega) ?_; intro v1 w1 hown1 hg1 hat1; obtain ⟨g', cap', rfl, hbg, hlt'⟩ := hown1.form (by omega); have HO1 := Lib.hid hown1; have HR1 := Lib.hid ((R.out.row.below (show Below w.heap.size w _ from by go_grown)).of_grown hg1 (fun e => R.out.vt e.symm)); have OG1 := Lib.hid ((Only.of_below (show Below w.heap.size w _ from by go_grown) (fun g => g = t ∨ (Value.slice A n c).ownBlock = some g)).trans ((Only.of_own hg1).mono (fun _ _ h => .inr h))); have HA1 : Hid (Value.ownBlock (.slice (some ⟨g', 0, none⟩) (n + 1) cap') = (Value.slice A n c).ownBlock ∨ ∃ g, Value.ownBlock (.slice (some ⟨g', 0, none⟩) (n + 1) cap') = some g ∧ w.heap.size ≤ g) := Lib.hid (hat1.imp id (fun e => ⟨_, e, by simp; omega⟩)); clear hown1 hg1 hat1; have hc1 := HR1.out.cell 1; simp only [List.getElem?_cons_zero, List.getElem?_cons_succ] at hc1; have hf1 := HR1.out.soft 1)
  all_goals (go_end0; exact rec_end HO1.out HR1.out OG1.out HA1.out HN.out hbg)
set_option maxRecDepth 100000 in
set_option maxHeartbeats 1000000 in
theorem cloneT14_any (P : Nat → Prop) (l : List Tch) (v : Value) (w : World) (hv : Thr w P v l) (hcap : CapOk v) (hl : l.length ≤ 65536) :
    Calls Tryz.prog 45 #[v] w fun e w' => ∃ v', e = .returned v' ∧ w'.ownsRow w.heap.size 67 3 v' l.length (tcs l) ∧ Below w.heap.size w w' := by
  obtain ⟨i0, hi0, hz0, hz1, hz2⟩ := info_parts touch_info
  obtain ⟨A, n, c, rfl, HN, HV⟩ := hv.open_
  have hn : n ≤ 65536 := by rw [← HN.out]; exact hl
  have q22 : ∀ (w : World) (a : Option Addr) (n c n' c' : Nat), (binOp .eql 63 (.slice a n c) (.slice none n' c')).run Tryz.prog w = .ok (.bool a.isNone) w := fun w a n c n' c' => Lib.run_eql_slice_nil w _ _ a n c n' c' Tryz.underlying63
  clear hv hl
  cases A with
  | none =>
    have h0 : l = [] := by
      obtain ⟨A', c', hs, hA⟩ := HV.out
      injection hs with e1 e2 e3
      refine Classical.byContradiction fun h => ?_
      obtain ⟨g, o, h1, _⟩ := hA (List.length_pos_iff.2 h)
      rw [← e1] at h1
      cases h1
    have H0 := Lib.hid h0; clear h0
    go_enter Tryz.func45, Tryz.ntmps45
    go_wp2
    go_ret
    exact ⟨_, rfl, by rw [H0.out]; exact World.ownsRow_nil _ _ _ _, Below.refl _ _⟩
  | some ad =>
    have hC : ∀ j u, (tcs l)[j]? = some u → w.cell? (ad.add j) = some u := by
      intro j u hu
      obtain ⟨A', c', hs, hA⟩ := HV.out
      injection hs with e1 e2 e3
      have h0 : 0 < l.length := by have := lt_of_at hu; rw [tcs_len] at this; omega
      obtain ⟨g, o, h1, _, _, h2⟩ := hA h0
      rw [← e1] at h1
      injection h1 with h1
      subst h1
      rw [Addr.add_lit]
      exact h2 j u hu
    have hL : (tcs l).length = n * 3 := by rw [tcs_len, HN.out]
    have HL := Lib.hid hL
    have O1 := Lib.hid (tcs_one l)
    have HCA : Hid (∀ j u, (tcs l)[j]? = some u → (w.alloc (.cells #[] 67)).cell? (ad.add j) = some u) := Lib.hid (fun j u hu => ((below_al w (.cells #[] 67)).cell (p := ad.add j) (World.block_lt_of_cell? w _ (hC j u hu))).trans (hC j u hu))
    clear hC hL
    go_enter Tryz.func45, Tryz.ntmps45
    go_wp2_with (at_builtin; go_must (refine app14_walk rfl (.tmp 5) (.tmp 6) 63 rfl w.heap.size 67 i0 _ 3 24 Tryz.underlying63 hi0 hz0 hz1 hz2 rfl (by omega) (.slice (some ⟨w.heap.size, 0, none⟩) 0 0) 0 [] rfl (own_empty _ _ _) ad n c (tcs l) rfl HL.out HCA.out O1.out (by unfold maxLen; omega) (by omega) (by simp) ?_; intro v1 w1 hown1 hg1 hat1; rw [Nat.zero_add, List.nil_append] at hown1; have HO := Lib.hid hown1; have HB := Lib.hid ((below_al w (.cells #[] 67)).grown hg1 (by simp) (by intro k hk; simp only [Value.ownBlock, Option.some.injEq] at hk; omega)); clear hown1 hg1 hat1))
    go_ret
    exact ⟨_, rfl, by rw [HN.out]; exact HO.out, HB.out⟩
set_option maxRecDepth 100000 in
set_option maxHeartbeats 400000 in
theorem touches14_any {t p : Nat} {v : Value} {T : List Tch} (w : World) (r : TraceAt w t p v T) (hl : T.length ≤ 65536) :
    Calls Tryz.prog 22 #[.pointer (some ⟨t, 0, none⟩)] w fun e w' => ∃ v', e = .returned v' ∧ w'.ownsRow w.heap.size 67 3 v' T.length (tcs T) ∧ Below w.heap.size w w' := by
  have hc := r.row.cell 1
  simp only [List.getElem?_cons_zero, List.getElem?_cons_succ] at hc
  have L := Lib.hid (Thr.of_own r.own)
  have C := Lib.hid (CapOk.of_own r.own)
  obtain ⟨A, c, rfl⟩ := own_open14 r.own
  clear r
  go_enter Tryz.func22, Tryz.ntmps22
  go_wp2_with (go_at_call 45; refine (cloneT14_any _ T _ _ L.out C.out hl).mono ?_; rintro e w1 ⟨v1, rfl, o1, b1⟩)
  go_ret
  exact ⟨_, rfl, o1, b1⟩
set_option maxRecDepth 100000 in
set_option maxHeartbeats 400000 in
theorem traced14_any (p : Nat) (w : World) :
    Calls Tryz.prog 20 #[face14 p] w fun e w' => ∃ t, e = .returned (ptr t) ∧ TraceAt w' t p (.slice none 0 0) [] ∧ w.heap.size ≤ t ∧ Below w.heap.size w w' := by
  unfold face14
  go_enter Tryz.func20, Tryz.ntmps20
  go_wp2
  go_ret
  exact ⟨w.heap.size, rfl, ⟨Row.new w 99 #[_, _], World.ownsRow_nil _ _ _ _⟩, Nat.le_refl _, below_al _ _⟩
end

section
open Go.ChangeShapes Go.WideShapes Go.ChangeAt Go.RowKit
/-- A Trace (block t) that forwards to a Plain (block p). -/
structure PtAt (w : World) (t p a b : Nat) (k v : Value) (V E K : List Int) (T : List Tch) : Prop where
  plain : PlainAt w p a b k V E K
  trace : TraceAt w t p v T
/-- The blocks that a call may change. -/
def own14 (t p a : Nat) (k v : Value) (g : Nat) : Prop := g = t ∨ g = p ∨ g = a ∨ k.ownBlock = some g ∨ v.ownBlock = some g
section
variable {t p a b : Nat} {k v : Value} {V E K : List Int} {T : List Tch} {w w' : World}
theorem PtAt.only {S : Nat → Prop} (r : PtAt w t p a b k v V E K T) (ho : Only S w w') (hS : ∀ g, own14 t p a k v g ∨ g = b → ¬ S g) : PtAt w' t p a b k v V E K T :=
  ⟨r.plain.only ho (hS _ (.inl (.inr (.inl rfl)))) (hS _ (.inl (.inr (.inr (.inl rfl))))) (hS _ (.inr rfl)) (fun g hg => hS g (.inl (.inr (.inr (.inr (.inl hg)))))), r.trace.only ho (hS _ (.inl (.inl rfl))) (fun g hg => hS g (.inl (.inr (.inr (.inr (.inr hg))))))⟩
theorem PtAt.below (r : PtAt w t p a b k v V E K T) (hb : Below w.heap.size w w') : PtAt w' t p a b k v V E K T := ⟨r.plain.below hb, r.trace.below hb⟩
theorem PtAt.tp (r : PtAt w t p a b k v V E K T) : t ≠ p := r.trace.row.ne r.plain.row (by decide)
theorem PtAt.ta (r : PtAt w t p a b k v V E K T) : t ≠ a := r.trace.row.ne r.plain.words (by decide)
theorem PtAt.tb (r : PtAt w t p a b k v V E K T) : t ≠ b := r.trace.row.ne r.plain.epochs (by decide)
theorem PtAt.kt (r : PtAt w t p a b k v V E K T) : k.ownBlock ≠ some t := own_type r.plain.kicks r.trace.row (by decide)
theorem PtAt.vp (r : PtAt w t p a b k v V E K T) : v.ownBlock ≠ some p := own_type r.trace.own r.plain.row (by decide)
theorem PtAt.va (r : PtAt w t p a b k v V E K T) : v.ownBlock ≠ some a := own_type r.trace.own r.plain.words (by decide)
theorem PtAt.vb (r : PtAt w t p a b k v V E K T) : v.ownBlock ≠ some b := own_type r.trace.own r.plain.epochs (by decide)
theorem PtAt.kv (r : PtAt w t p a b k v V E K T) {g : Nat} (hk : k.ownBlock = some g) : v.ownBlock ≠ some g := by
  rcases r.plain.kicks.2 with ⟨rfl, _⟩ | ⟨g', cap, cur, rfl, _, hg, _⟩
  · cases hk
  · simp only [Value.ownBlock, Option.some.injEq] at hk
    subst hk
    refine own_type (cs := cur.toList) (t := 3) r.trace.own ?_ (by decide)
    unfold Row
    rw [hg]
theorem PtAt.lt (r : PtAt w t p a b k v V E K T) : ∀ g, own14 t p a k v g ∨ g = b → g < w.heap.size := by
  rintro g (h | rfl)
  · rcases h with rfl | rfl | rfl | h | h
    · exact r.trace.row.lt
    · exact r.plain.row.lt
    · exact r.plain.words.lt
    · exact (r.plain.kb h).2
    · exact (r.trace.own.lt g h).2
  · exact r.plain.epochs.lt
end
/-- What a call leaves. -/
def PtP (t p a b : Nat) (k v : Value) (V E K : List Int) (T : List Tch) (ans : Value) (w : World) (e : Ending) (w' : World) : Prop :=
  ∃ k' v', e = .returned ans ∧ PtAt w' t p a b k' v' V E K T ∧ Only (own14 t p a k v) w w' ∧ (k'.ownBlock = k.ownBlock ∨ ∃ g, k'.ownBlock = some g ∧ w.heap.size ≤ g) ∧ (v'.ownBlock = v.ownBlock ∨ ∃ g, v'.ownBlock = some g ∧ w.heap.size ≤ g)
section
variable {t p a b : Nat} {k v : Value} {V E K : List Int} {T : List Tch}
theorem Only.then14 {S T : Nat → Prop} {a b c : World} (h : Only S a b) (k : Only T b c) (hT : ∀ g, g < a.heap.size → T g → S g) : Only S a c :=
  ⟨k.os.trans h.os, k.tape.trans h.tape, k.output.trans h.output, Nat.le_trans h.size k.size, fun i hi hn => (k.block i (Nat.lt_of_lt_of_le hi h.size) (fun e => hn (hT i hi e))).trans (h.block i hi hn)⟩
theorem boxes14 (w : World) (c0 c1 c2 : Value) (t0 t1 t2 : TypeId) : Row (((w.alloc (.cells #[c0] t0)).alloc (.cells #[c1] t1)).alloc (.cells #[c2] t2)) w.heap.size t0 [c0] ∧ Row (((w.alloc (.cells #[c0] t0)).alloc (.cells #[c1] t1)).alloc (.cells #[c2] t2)) (w.heap.size + 1) t1 [c1] ∧ Row (((w.alloc (.cells #[c0] t0)).alloc (.cells #[c1] t1)).alloc (.cells #[c2] t2)) (w.heap.size + 1 + 1) t2 [c2] ∧ Below w.heap.size w (((w.alloc (.cells #[c0] t0)).alloc (.cells #[c1] t1)).alloc (.cells #[c2] t2)) :=
  ⟨((Row.new w t0 #[c0]).below (below_al _ _)).below (below_al _ _), by have := (Row.new (w.alloc (.cells #[c0] t0)) t1 #[c1]).below (below_al _ (.cells #[c2] t2)); rwa [size_al] at this, by have := Row.new ((w.alloc (.cells #[c0] t0)).alloc (.cells #[c1] t1)) t2 #[c2]; rwa [size_al, size_al] at this, below_on (below_on (below_al _ _) (below_al _ _)) (below_al _ _)⟩
set_option maxRecDepth 100000 in
set_option maxHeartbeats 2000000 in
theorem tload14_any (i : Int) (w : World) (r : PtAt w t p a b k v V E K T) (hl : T.length ≤ 65536) :
    Calls Tryz.prog 113 #[.pointer (some ⟨t, 0, none⟩), .int .i64 i] w (PtP t p a b k v V E K (T ++ [(1, i, nth14 V i)]) (.int .i64 (nth14 V i)) w) := by
  have hmf : ∀ (fn : Fn) (first cap : Array Value) (w : World), (Instr.makeFunc fn first cap).run Tryz.prog w = .ok (.func fn first cap) w := fun _ _ _ _ => rfl
  have R := Lib.hid r
  have HLT := Lib.hid r.lt
  have htl := r.trace.row.lt
  obtain ⟨b0, b1, b2, bB⟩ := boxes14 w (.pointer (some ⟨t, 0, none⟩)) (.int .i64 i) (.int .i64 0) 59 3 3
  have B0 := Lib.hid b0
  have B1 := Lib.hid b1
  have B2 := Lib.hid b2
  have BB := Lib.hid bB
  clear r b0 b1 b2 bB
  go_enter Tryz.func113, Tryz.ntmps113
  go_wp2_with fail
  refine (attempt14 119 _ _ (fun w' => Row w' (w.heap.size + 1 + 1) 3 [.int .i64 (nth14 V i)] ∧ Only (· = w.heap.size + 1 + 1) (((w.alloc (.cells #[.pointer (some ⟨t, 0, none⟩)] 59)).alloc (.cells #[.int .i64 i] 3)).alloc (.cells #[.int .i64 0] 3)) w') (fun W => by kernel_rfl) (loadC14 i 0 (B0.out.cell 0) ((R.out.trace.below BB.out).row.cell 0) (B1.out.cell 0) (R.out.plain.below BB.out) B2.out)).mono ?_
  rintro e w2 ⟨rfl, hx2, o2⟩
  have z2 := B0.out.only o2 (by omega)
  have y2 := B1.out.only o2 (by omega)
  have T2 := Lib.hid ((R.out.trace.below BB.out).only o2 (by omega) (fun g hg e => by have := HLT.out g (.inl (.inr (.inr (.inr (.inr hg))))); omega))
  have q0 := z2.cell 0
  have q1 := y2.cell 0
  have q2 := hx2.cell 0
  simp only [List.getElem?_cons_zero] at q0 q1 q2
  have X2 := Lib.hid hx2
  have O2 := Lib.hid o2
  clear hx2 o2 z2 y2
  go_wp2_with fail
  refine (record14_any 1 i (nth14 V i) w2 T2.out hl).mono ?_
  rintro e w3 ⟨v3, rfl, t3, o3, hv3⟩
  have x3 := X2.out.only o3 (fun e => by rcases e with e | e; omega; have := HLT.out _ (.inl (.inr (.inr (.inr (.inr e))))); omega)
  have q3 := x3.cell 0
  simp only [List.getElem?_cons_zero] at q3
  have T3 := Lib.hid t3
  have O3 := Lib.hid o3
  clear t3 o3 x3
  go_wp2
  go_ret
  have hs2 := Nat.le_trans BB.out.size O2.out.size
  refine ⟨k, v3, rfl, ⟨((R.out.plain.below BB.out).only O2.out (by have := HLT.out p (.inl (.inr (.inl rfl))); omega) (by have := HLT.out a (.inl (.inr (.inr (.inl rfl)))); omega) (by have := HLT.out b (.inr rfl); omega) (fun g hg e => by have := HLT.out g (.inl (.inr (.inr (.inr (.inl hg))))); omega)).only O3.out ?_ ?_ ?_ ?_, T3.out⟩, ?_, .inl rfl, hv3.imp id (fun ⟨g, h1, h2⟩ => ⟨g, h1, by omega⟩)⟩
  · exact fun e => by rcases e with e | e; exact R.out.tp e.symm; exact R.out.vp e
  · exact fun e => by rcases e with e | e; exact R.out.ta e.symm; exact R.out.va e
  · exact fun e => by rcases e with e | e; exact R.out.tb e.symm; exact R.out.vb e
  · exact fun g hg e => by rcases e with rfl | e; exact R.out.kt hg; exact R.out.kv hg e
  · exact ((Only.of_below BB.out _).then14 O2.out (fun g hg e => by omega)).then14 O3.out (fun g hg e => by rcases e with e | e; exact .inl e; exact .inr (.inr (.inr (.inr e))))
set_option maxRecDepth 100000 in
set_option maxHeartbeats 2000000 in
theorem tepoch14_any (i : Int) (w : World) (r : PtAt w t p a b k v V E K T) (hl : T.length ≤ 65536) :
    Calls Tryz.prog 111 #[.pointer (some ⟨t, 0, none⟩), .int .i64 i] w (PtP t p a b k v V E K (T ++ [(4, i, nth14 E i)]) (.int .i64 (nth14 E i)) w) := by
  have hmf : ∀ (fn : Fn) (first cap : Array Value) (w : World), (Instr.makeFunc fn first cap).run Tryz.prog w = .ok (.func fn first cap) w := fun _ _ _ _ => rfl
  have R := Lib.hid r
  have HLT := Lib.hid r.lt
  have htl := r.trace.row.lt
  obtain ⟨b0, b1, b2, bB⟩ := boxes14 w (.pointer (some ⟨t, 0, none⟩)) (.int .i64 i) (.int .i64 0) 59 3 3
  have B0 := Lib.hid b0
  have B1 := Lib.hid b1
  have B2 := Lib.hid b2
  have BB := Lib.hid bB
  clear r b0 b1 b2 bB
  go_enter Tryz.func111, Tryz.ntmps111
  go_wp2_with fail
  refine (attempt14 116 _ _ (fun w' => Row w' (w.heap.size + 1 + 1) 3 [.int .i64 (nth14 E i)] ∧ Only (· = w.heap.size + 1 + 1) (((w.alloc (.cells #[.pointer (some ⟨t, 0, none⟩)] 59)).alloc (.cells #[.int .i64 i] 3)).alloc (.cells #[.int .i64 0] 3)) w') (fun W => by kernel_rfl) (epochC14 i 0 (B0.out.cell 0) ((R.out.trace.below BB.out).row.cell 0) (B1.out.cell 0) (R.out.plain.below BB.out) B2.out)).mono ?_
  rintro e w2 ⟨rfl, hx2, o2⟩
  have z2 := B0.out.only o2 (by omega)
  have y2 := B1.out.only o2 (by omega)
  have T2 := Lib.hid ((R.out.trace.below BB.out).only o2 (by omega) (fun g hg e => by have := HLT.out g (.inl (.inr (.inr (.inr (.inr hg))))); omega))
  have q0 := z2.cell 0
  have q1 := y2.cell 0
  have q2 := hx2.cell 0
  simp only [List.getElem?_cons_zero] at q0 q1 q2
  have X2 := Lib.hid hx2
  have O2 := Lib.hid o2
  clear hx2 o2 z2 y2
  go_wp2_with fail
  refine (record14_any 4 i (nth14 E i) w2 T2.out hl).mono ?_
  rintro e w3 ⟨v3, rfl, t3, o3, hv3⟩
  have x3 := X2.out.only o3 (fun e => by rcases e with e | e; omega; have := HLT.out _ (.inl (.inr (.inr (.inr (.inr e))))); omega)
  have q3 := x3.cell 0
  simp only [List.getElem?_cons_zero] at q3
  have T3 := Lib.hid t3
  have O3 := Lib.hid o3
  clear t3 o3 x3
  go_wp2
  go_ret
  have hs2 := Nat.le_trans BB.out.size O2.out.size
  refine ⟨k, v3, rfl, ⟨((R.out.plain.below BB.out).only O2.out (by have := HLT.out p (.inl (.inr (.inl rfl))); omega) (by have := HLT.out a (.inl (.inr (.inr (.inl rfl)))); omega) (by have := HLT.out b (.inr rfl); omega) (fun g hg e => by have := HLT.out g (.inl (.inr (.inr (.inr (.inl hg))))); omega)).only O3.out ?_ ?_ ?_ ?_, T3.out⟩, ?_, .inl rfl, hv3.imp id (fun ⟨g, h1, h2⟩ => ⟨g, h1, by omega⟩)⟩
  · exact fun e => by rcases e with e | e; exact R.out.tp e.symm; exact R.out.vp e
  · exact fun e => by rcases e with e | e; exact R.out.ta e.symm; exact R.out.va e
  · exact fun e => by rcases e with e | e; exact R.out.tb e.symm; exact R.out.vb e
  · exact fun g hg e => by rcases e with rfl | e; exact R.out.kt hg; exact R.out.kv hg e
  · exact ((Only.of_below BB.out _).then14 O2.out (fun g hg e => by omega)).then14 O3.out (fun g hg e => by rcases e with e | e; exact .inl e; exact .inr (.inr (.inr (.inr e))))
end
end

section
open Go.ChangeShapes Go.WideShapes Go.ChangeAt Go.RowKit
section
variable {t p a b : Nat} {k v : Value} {V E K : List Int} {T : List Tch}
/-- Behind record: the Plain is as it was. -/
theorem PtAt.rec_ {w w' : World} {v' : Value} {T' : List Tch} (r : PtAt w t p a b k v V E K T) (ho : Only (fun g => g = t ∨ v.ownBlock = some g) w w') (ht : TraceAt w' t p v' T') : PtAt w' t p a b k v' V E K T' :=
  ⟨r.plain.only ho (fun e => by rcases e with e | e; exact r.tp e.symm; exact r.vp e) (fun e => by rcases e with e | e; exact r.ta e.symm; exact r.va e) (fun e => by rcases e with e | e; exact r.tb e.symm; exact r.vb e) (fun g hg e => by rcases e with rfl | e; exact r.kt hg; exact r.kv hg e), ht⟩
set_option maxRecDepth 100000 in
set_option maxHeartbeats 2000000 in
theorem tstore14_any (i u : Int) (w : World) (r : PtAt w t p a b k v V E K T) (hl : T.length ≤ 65536) :
    Calls Tryz.prog 114 #[.pointer (some ⟨t, 0, none⟩), .int .i64 i, .int .i64 u] w (PtP t p a b k v (put14 V i (u % 65536)) E K (T ++ [(2, i, u)]) (.tuple #[]) w) := by
  have hmf : ∀ (fn : Fn) (first cap : Array Value) (w : World), (Instr.makeFunc fn first cap).run Tryz.prog w = .ok (.func fn first cap) w := fun _ _ _ _ => rfl
  have R := Lib.hid r
  have htl := r.trace.row.lt
  have hal := r.plain.words.lt
  obtain ⟨b0, b1, b2, bB⟩ := boxes14 w (.pointer (some ⟨t, 0, none⟩)) (.int .i64 i) (.int .i64 u) 59 3 3
  have B0 := Lib.hid b0
  have B1 := Lib.hid b1
  have B2 := Lib.hid b2
  have BB := Lib.hid bB
  clear r b0 b1 b2 bB
  go_enter Tryz.func114, Tryz.ntmps114
  go_wp2_with fail
  refine (attempt14 120 _ _ (fun w' => PlainAt w' p a b k (put14 V i (u % 65536)) E K ∧ Only (· = a) (((w.alloc (.cells #[.pointer (some ⟨t, 0, none⟩)] 59)).alloc (.cells #[.int .i64 i] 3)).alloc (.cells #[.int .i64 u] 3)) w') (fun W => by kernel_rfl) (storeC14 i u (B0.out.cell 0) ((R.out.trace.below BB.out).row.cell 0) (B1.out.cell 0) (B2.out.cell 0) (R.out.plain.below BB.out))).mono ?_
  rintro e w2 ⟨rfl, r2, o2⟩
  have z2 := B0.out.only o2 (by omega)
  have y2 := B1.out.only o2 (by omega)
  have x2 := B2.out.only o2 (by omega)
  have M2 := Lib.hid (PtAt.mk r2 ((R.out.trace.below BB.out).only o2 R.out.ta (fun g hg e => R.out.va (by rw [hg, e]))))
  have q0 := z2.cell 0
  have q1 := y2.cell 0
  have q2 := x2.cell 0
  simp only [List.getElem?_cons_zero] at q0 q1 q2
  have O2 := Lib.hid o2
  clear r2 o2 z2 y2 x2
  go_wp2_with fail
  refine (record14_any 2 i u w2 M2.out.trace hl).mono ?_
  rintro e w3 ⟨v3, rfl, t3, o3, hv3⟩
  have M3 := Lib.hid (M2.out.rec_ o3 t3)
  have O3 := Lib.hid o3
  clear t3 o3
  go_wp2
  go_end0
  have hs2 := Nat.le_trans BB.out.size O2.out.size
  exact ⟨k, v3, rfl, M3.out, ((Only.of_below BB.out _).then14 O2.out (fun g hg e => .inr (.inr (.inl e)))).then14 O3.out (fun g hg e => by rcases e with e | e; exact .inl e; exact .inr (.inr (.inr (.inr e)))), .inl rfl, hv3.imp id (fun ⟨g, h1, h2⟩ => ⟨g, h1, by omega⟩)⟩
set_option maxRecDepth 100000 in
set_option maxHeartbeats 2000000 in
theorem tfence14_any (w : World) (r : PtAt w t p a b k v V E K T) (hl : T.length ≤ 65536) :
    Calls Tryz.prog 112 #[.pointer (some ⟨t, 0, none⟩)] w (PtP t p a b k v V E K (T ++ [(3, 0, 0)]) (.tuple #[]) w) := by
  have hmf : ∀ (fn : Fn) (first cap : Array Value) (w : World), (Instr.makeFunc fn first cap).run Tryz.prog w = .ok (.func fn first cap) w := fun _ _ _ _ => rfl
  have R := Lib.hid r
  have htl := r.trace.row.lt
  have B0 := Lib.hid (Row.new w 59 #[.pointer (some ⟨t, 0, none⟩)])
  have BB := Lib.hid (below_al w (.cells #[.pointer (some ⟨t, 0, none⟩)] 59))
  clear r
  go_enter Tryz.func112, Tryz.ntmps112
  go_wp2_with fail
  refine (attempt14 118 _ _ (fun w' => w' = w.alloc (.cells #[.pointer (some ⟨t, 0, none⟩)] 59)) (fun W => by kernel_rfl) (fenceC14 (B0.out.cell 0) ((R.out.trace.below BB.out).row.cell 0))).mono ?_
  rintro e w2 ⟨rfl, rfl⟩
  have M2 := Lib.hid (R.out.below BB.out)
  go_wp2_with fail
  refine (record14_any 3 0 0 _ M2.out.trace hl).mono ?_
  rintro e w3 ⟨v3, rfl, t3, o3, hv3⟩
  have M3 := Lib.hid (M2.out.rec_ o3 t3)
  have O3 := Lib.hid o3
  clear t3 o3
  go_wp2
  go_end0
  have hs2 := BB.out.size
  exact ⟨k, v3, rfl, M3.out, (Only.of_below BB.out _).then14 O3.out (fun g hg e => by rcases e with e | e; exact .inl e; exact .inr (.inr (.inr (.inr e)))), .inl rfl, hv3.imp id (fun ⟨g, h1, h2⟩ => ⟨g, h1, by omega⟩)⟩
end
end

section
open Go.ChangeShapes Go.WideShapes Go.ChangeAt Go.RowKit
/-- What a touch makes of the words, of the kicks, what is recorded, and what is told. -/
def dV14 (V : List Int) (κ i u : Int) : List Int := if κ = 2 then put14 V i (u % 65536) else V
def dK14 (K : List Int) (κ i : Int) : List Int := if κ = 5 then K ++ [i] else K
def dT14 (V E : List Int) (κ i u : Int) : List Tch := if κ = 1 then [(1, i, nth14 V i)] else if κ = 2 then [(2, i, u)] else if κ = 3 then [(3, 0, 0)] else if κ = 4 then [(4, i, nth14 E i)] else if κ = 5 then [(5, i, 0)] else []
def dN14 (V E : List Int) (κ i : Int) : Int := if κ = 1 then nth14 V i else if κ = 4 then nth14 E i else 0
theorem dV14_len (V : List Int) (κ i u : Int) : (dV14 V κ i u).length = V.length := by unfold dV14; split <;> simp [put14_len]
section
variable {t p a b : Nat} {k v : Value} {V E K : List Int} {T : List Tch}
theorem PtP.since {ans : Value} {w w1 w' : World} {e : Ending} {V' K' : List Int} {T' : List Tch} (hb : Below w.heap.size w w1) (h : PtP t p a b k v V' E K' T' ans w1 e w') : PtP t p a b k v V' E K' T' ans w e w' := by
  obtain ⟨k', v', he, h1, h2, h3, h4⟩ := h
  have := hb.size
  exact ⟨k', v', he, h1, (Only.of_below hb _).trans h2, h3.imp id (fun ⟨g, a1, a2⟩ => ⟨g, a1, by omega⟩), h4.imp id (fun ⟨g, a1, a2⟩ => ⟨g, a1, by omega⟩)⟩
/-- A Trace as a port. -/
def tface14 (t : Nat) : Value := .iface 59 (.pointer (some ⟨t, 0, none⟩))
def touchV (κ i u : Int) : Value := .agg #[.int .i64 κ, .int .i64 i, .int .i64 u]
end
end

section
open Go.ChangeShapes Go.WideShapes Go.ChangeAt Go.RowKit
/-- The reference's words, epochs and kicks: three slices that read as lists. -/
structure RPl14 (w : World) (P : Nat → Prop) (V E K : List Int) (x y z : Value) : Prop where
  words : Lies w P x (ints V)
  epochs : Lies w P y (ints E)
  kicks : Lies w P z (ints K)
  cx : CapOk x
  cy : CapOk y
  cz : CapOk z
theorem RPl14.weak {w : World} {P Q : Nat → Prop} {V E K : List Int} {x y z : Value} (r : RPl14 w P V E K x y z) (hPQ : ∀ g, g < w.heap.size → P g → Q g) : RPl14 w Q V E K x y z :=
  ⟨r.words.weak hPQ, r.epochs.weak hPQ, r.kicks.weak hPQ, r.cx, r.cy, r.cz⟩
theorem RPl14.only {S : Nat → Prop} {w w' : World} {P : Nat → Prop} {V E K : List Int} {x y z : Value} (r : RPl14 w P V E K x y z) (ho : Only S w w') (hr : ∀ g, S g → ¬ P g) : RPl14 w' P V E K x y z :=
  ⟨r.words.only ho hr, r.epochs.only ho hr, r.kicks.only ho hr, r.cx, r.cy, r.cz⟩
theorem RPl14.below {w w' : World} {P : Nat → Prop} {V E K : List Int} {x y z : Value} (r : RPl14 w P V E K x y z) (hb : Below w.heap.size w w') : RPl14 w' P V E K x y z :=
  ⟨r.words.below hb, r.epochs.below hb, r.kicks.below hb, r.cx, r.cy, r.cz⟩
set_option maxRecDepth 100000 in
set_option maxHeartbeats 1000000 in
theorem rof14_any (P Q : Nat → Prop) (l m : List Int) (v u : Value) (w : World) (hv : Lies w P v (ints l)) (hu : Lies w Q u (ints m)) (hl : l.length ≤ 65536) (hm : m.length ≤ 65536) :
    Calls Tryz.prog 18 #[v, u] w fun e w' => ∃ A n c B k d, e = .returned (.agg #[.slice A n c, .slice B k d, .slice none 0 0]) ∧ RPl14 w' (w.heap.size ≤ ·) (mod14 l) (mod14 m) [] (.slice A n c) (.slice B k d) (.slice none 0 0) ∧ Below w.heap.size w w' := by
  have b0 := below_al w (.cells #[.slice none 0 0, .slice none 0 0, .slice none 0 0] 51)
  have B0 := Lib.hid b0
  have R0 := Lib.hid (Row.new w 51 #[.slice none 0 0, .slice none 0 0, .slice none 0 0])
  clear b0
  go_enter Tryz.func18, Tryz.ntmps18
  go_wp2_with fail
  refine (all14_any P l v _ (hv.below B0.out) hl).mono ?_
  rintro e w1 ⟨v1, rfl, o1, hb1⟩
  obtain ⟨A, c, rfl⟩ := own_open14 o1
  have H1 := Lib.hid o1
  have HB1 := Lib.hid hb1
  clear o1 hb1
  go_wp2_with fail
  refine (all14_any Q m u _ ((hu.below B0.out).below HB1.out) hm).mono ?_
  rintro e w2 ⟨v2, rfl, o2, hb2⟩
  obtain ⟨B, d, rfl⟩ := own_open14 o2
  have H2 := Lib.hid o2
  have HB2 := Lib.hid hb2
  have R2 := Lib.hid ((R0.out.below HB1.out).below HB2.out)
  have c0 := R2.out.cell 0
  have c1 := R2.out.cell 1
  have c2 := R2.out.cell 2
  have f0 := R2.out.soft 0
  have f1 := R2.out.soft 1
  have f2 := R2.out.soft 2
  simp only [List.getElem?_cons_zero, List.getElem?_cons_succ] at c0 c1 c2
  clear o2 hb2
  go_wp2
  have hO : Only (· = w.heap.size) w2 (((w2.setCell ⟨w.heap.size, 0, none⟩ (.slice A l.length c)).setCell ⟨w.heap.size, 1, none⟩ (.slice B m.length d)).setCell ⟨w.heap.size, 2, none⟩ (.slice none 0 0)) :=
    (((Only.refl (· = w.heap.size) w2).setCell (p := ⟨w.heap.size, 0, none⟩) (.inl rfl) _).setCell (p := ⟨w.heap.size, 1, none⟩) (.inl rfl) _).setCell (p := ⟨w.heap.size, 2, none⟩) (.inl rfl) _
  have hb := below_on (below_on B0.out HB1.out) HB2.out
  have hs := size_al w (.cells #[.slice none 0 0, .slice none 0 0, .slice none 0 0] 51)
  have hs1 := HB1.out.size
  have L1 : Lies w2 (fun g => w.heap.size < g) (.slice A l.length c) (ints (mod14 l)) := ((Lies.of_own H1.out).weak (fun g _ h => by rw [hs] at h; omega)).below HB2.out
  have L2 : Lies w2 (fun g => w.heap.size < g) (.slice B m.length d) (ints (mod14 m)) := (Lies.of_own H2.out).weak (fun g _ h => by rw [hs] at hs1; omega)
  refine bodyPost_ret (v := .agg #[.slice A l.length c, .slice B m.length d, .slice none 0 0]) (by simp [results, Tryz.results18, go_sem, *]) rfl ⟨_, _, _, _, _, _, rfl, ⟨(L1.only hO (by omega)).weak (fun g _ h => by omega), (L2.only hO (by omega)).weak (fun g _ h => by omega), Lies.nil_ _ _, CapOk.of_own H1.out, CapOk.of_own H2.out, rfl⟩, Only.below hb hO hb.size (by omega)⟩
/-- The four variables of Do. -/
def four14 (w : World) (x y z : Value) (κ i u : Int) : World :=
  (((w.alloc (.cells #[x, y, z] 51)).alloc (.cells #[.int .i64 κ, .int .i64 i, .int .i64 u] 53)).alloc (.cells #[.slice none 0 0, .slice none 0 0, .slice none 0 0] 51)).alloc (.cells #[.int .i64 0, .int .i64 0, .int .i64 0] 53)
theorem four14_rows (w : World) (x y z : Value) (κ i u : Int) : Row (four14 w x y z κ i u) w.heap.size 51 [x, y, z] ∧ Row (four14 w x y z κ i u) (w.heap.size + 1) 53 [.int .i64 κ, .int .i64 i, .int .i64 u] ∧ Row (four14 w x y z κ i u) (w.heap.size + 1 + 1) 51 [.slice none 0 0, .slice none 0 0, .slice none 0 0] ∧ Row (four14 w x y z κ i u) (w.heap.size + 1 + 1 + 1) 53 [.int .i64 0, .int .i64 0, .int .i64 0] ∧ Below w.heap.size w (four14 w x y z κ i u) ∧ (four14 w x y z κ i u).heap.size = w.heap.size + 1 + 1 + 1 + 1 := by
  unfold four14
  refine ⟨(((Row.new w _ #[x, y, z]).below (below_al _ _)).below (below_al _ _)).below (below_al _ _), ?_, ?_, ?_, below_on (below_on (below_on (below_al _ _) (below_al _ _)) (below_al _ _)) (below_al _ _), by simp⟩
  · have := ((Row.new (w.alloc (.cells #[x, y, z] 51)) 53 #[.int .i64 κ, .int .i64 i, .int .i64 u]).below (below_al _ (.cells #[.slice none 0 0, .slice none 0 0, .slice none 0 0] 51))).below (below_al _ (.cells #[.int .i64 0, .int .i64 0, .int .i64 0] 53))
    rwa [size_al] at this
  · have := (Row.new ((w.alloc (.cells #[x, y, z] 51)).alloc (.cells #[.int .i64 κ, .int .i64 i, .int .i64 u] 53)) 51 #[.slice none 0 0, .slice none 0 0, .slice none 0 0]).below (below_al _ (.cells #[.int .i64 0, .int .i64 0, .int .i64 0] 53))
    rwa [size_al, size_al] at this
  · have := Row.new (((w.alloc (.cells #[x, y, z] 51)).alloc (.cells #[.int .i64 κ, .int .i64 i, .int .i64 u] 53)).alloc (.cells #[.slice none 0 0, .slice none 0 0, .slice none 0 0] 51)) 53 #[.int .i64 0, .int .i64 0, .int .i64 0]
    rwa [size_al, size_al, size_al] at this
/-- What Do leaves. -/
def RDo14 (P : Nat → Prop) (V E K : List Int) (x : Tch) (n : Int) (w : World) (e : Ending) (w' : World) : Prop :=
  ∃ A1 n1 c1 A2 n2 c2 A3 n3 c3, e = .returned (.tuple #[.agg #[.slice A1 n1 c1, .slice A2 n2 c2, .slice A3 n3 c3], touchV x.1 x.2.1 x.2.2, .int .i64 n]) ∧ RPl14 w' P V E K (.slice A1 n1 c1) (.slice A2 n2 c2) (.slice A3 n3 c3) ∧ Below w.heap.size w w'
theorem rdo14_end {P : Nat → Prop} {V E K : List Int} {x : Tch} {n : Int} {w w1 w' : World} {A1 A2 A3 : Option Addr} {n1 c1 n2 c2 n3 c3 : Nat} (hb : Below w.heap.size w w1) (ho : Only (fun g => w.heap.size ≤ g ∧ g < w.heap.size + 4) w1 w')
    (r : RPl14 w1 (fun g => P g ∧ (g < w.heap.size ∨ w.heap.size + 4 ≤ g)) V E K (.slice A1 n1 c1) (.slice A2 n2 c2) (.slice A3 n3 c3)) :
    RDo14 P V E K x n w (.returned (.tuple #[.agg #[.slice A1 n1 c1, .slice A2 n2 c2, .slice A3 n3 c3], touchV x.1 x.2.1 x.2.2, .int .i64 n])) w' :=
  ⟨A1, n1, c1, A2, n2, c2, A3, n3, c3, rfl, (r.only ho (fun g h hp => by omega)).weak (fun g _ h => h.1), Only.below hb ho hb.size (fun g hg h => by omega)⟩
section
variable {P : Nat → Prop} {V E K : List Int} {A1 A2 A3 : Option Addr} {n1 c1 n2 c2 n3 c3 : Nat}
set_option maxRecDepth 100000 in
set_option maxHeartbeats 2000000 in
theorem rdo14_load (i u : Int) (w : World) (r : RPl14 w P V E K (.slice A1 n1 c1) (.slice A2 n2 c2) (.slice A3 n3 c3)) :
    Calls Tryz.prog 38 #[.agg #[.slice A1 n1 c1, .slice A2 n2 c2, .slice A3 n3 c3], touchV 1 i u] w (RDo14 P V E K ((1, i, nth14 V i) : Tch) (nth14 V i) w) := by
  have R0 := Lib.hid r
  have R := Lib.hid (r.below (four14_rows w (.slice A1 n1 c1) (.slice A2 n2 c2) (.slice A3 n3 c3) 1 i u).2.2.2.2.1)
  unfold four14 at R
  clear r
  unfold touchV
  go_enter Tryz.func38, Tryz.ntmps38
  go_wp2_with (go_at_call 59; refine (get14_any _ V _ i _ R.out.words).mono ?_; rintro e w' ⟨rfl, rfl⟩)
  go_region
  all_goals go_wp2
  all_goals exact bodyPost_ret (v := .tuple #[.agg #[.slice A1 n1 c1, .slice A2 n2 c2, .slice A3 n3 c3], touchV ((1, i, nth14 V i) : Tch).1 ((1, i, nth14 V i) : Tch).2.1 ((1, i, nth14 V i) : Tch).2.2, .int .i64 (nth14 V i)]) (by simp [results, Tryz.results38, go_sem, touchV]) rfl ⟨_, _, _, _, _, _, _, _, _, rfl, R0.out.below (by go_grown), by go_grown⟩
set_option maxRecDepth 100000 in
set_option maxHeartbeats 2000000 in
theorem rdo14_epoch (i u : Int) (w : World) (r : RPl14 w P V E K (.slice A1 n1 c1) (.slice A2 n2 c2) (.slice A3 n3 c3)) :
    Calls Tryz.prog 38 #[.agg #[.slice A1 n1 c1, .slice A2 n2 c2, .slice A3 n3 c3], touchV 4 i u] w (RDo14 P V E K ((4, i, nth14 E i) : Tch) (nth14 E i) w) := by
  have R0 := Lib.hid r
  have R := Lib.hid (r.below (four14_rows w (.slice A1 n1 c1) (.slice A2 n2 c2) (.slice A3 n3 c3) 4 i u).2.2.2.2.1)
  unfold four14 at R
  clear r
  unfold touchV
  go_enter Tryz.func38, Tryz.ntmps38
  go_wp2_with (go_at_call 59; refine (get14_any _ E _ i _ R.out.epochs).mono ?_; rintro e w' ⟨rfl, rfl⟩)
  go_region
  all_goals go_wp2
  all_goals exact bodyPost_ret (v := .tuple #[.agg #[.slice A1 n1 c1, .slice A2 n2 c2, .slice A3 n3 c3], touchV ((4, i, nth14 E i) : Tch).1 ((4, i, nth14 E i) : Tch).2.1 ((4, i, nth14 E i) : Tch).2.2, .int .i64 (nth14 E i)]) (by simp [results, Tryz.results38, go_sem, touchV]) rfl ⟨_, _, _, _, _, _, _, _, _, rfl, R0.out.below (by go_grown), by go_grown⟩
set_option maxRecDepth 100000 in
set_option maxHeartbeats 2000000 in
theorem rdo14_fence (i u : Int) (w : World) (r : RPl14 w P V E K (.slice A1 n1 c1) (.slice A2 n2 c2) (.slice A3 n3 c3)) :
    Calls Tryz.prog 38 #[.agg #[.slice A1 n1 c1, .slice A2 n2 c2, .slice A3 n3 c3], touchV 3 i u] w (RDo14 P V E K ((3, 0, 0) : Tch) 0 w) := by
  have R0 := Lib.hid r
  have R := Lib.hid (r.below (four14_rows w (.slice A1 n1 c1) (.slice A2 n2 c2) (.slice A3 n3 c3) 3 i u).2.2.2.2.1)
  unfold four14 at R
  clear r
  unfold touchV
  go_enter Tryz.func38, Tryz.ntmps38
  go_wp2
  all_goals go_wp2
  all_goals exact bodyPost_ret (v := .tuple #[.agg #[.slice A1 n1 c1, .slice A2 n2 c2, .slice A3 n3 c3], touchV ((3, 0, 0) : Tch).1 ((3, 0, 0) : Tch).2.1 ((3, 0, 0) : Tch).2.2, .int .i64 (0)]) (by simp [results, Tryz.results38, go_sem, touchV]) rfl ⟨_, _, _, _, _, _, _, _, _, rfl, R0.out.below (by go_grown), by go_grown⟩
set_option maxRecDepth 100000 in
set_option maxHeartbeats 2000000 in
theorem rdo14_other (κ i u : Int) (h1 : κ ≠ 1) (h2 : κ ≠ 2) (h3 : κ ≠ 3) (h4 : κ ≠ 4) (h5 : κ ≠ 5) (w : World) (r : RPl14 w P V E K (.slice A1 n1 c1) (.slice A2 n2 c2) (.slice A3 n3 c3)) :
    Calls Tryz.prog 38 #[.agg #[.slice A1 n1 c1, .slice A2 n2 c2, .slice A3 n3 c3], touchV κ i u] w (RDo14 P V E K ((0, 0, 0) : Tch) 0 w) := by
  have R0 := Lib.hid r
  have R := Lib.hid (r.below (four14_rows w (.slice A1 n1 c1) (.slice A2 n2 c2) (.slice A3 n3 c3) κ i u).2.2.2.2.1)
  unfold four14 at R
  clear r
  unfold touchV
  have m1 : (κ == 1) = false := by simpa using h1
  have m2 : (κ == 2) = false := by simpa using h2
  have m3 : (κ == 3) = false := by simpa using h3
  have m4 : (κ == 4) = false := by simpa using h4
  have m5 : (κ == 5) = false := by simpa using h5
  clear h1 h2 h3 h4 h5
  go_enter Tryz.func38, Tryz.ntmps38
  go_wp2
  all_goals go_wp2
  all_goals exact bodyPost_ret (v := .tuple #[.agg #[.slice A1 n1 c1, .slice A2 n2 c2, .slice A3 n3 c3], touchV ((0, 0, 0) : Tch).1 ((0, 0, 0) : Tch).2.1 ((0, 0, 0) : Tch).2.2, .int .i64 (0)]) (by simp [results, Tryz.results38, go_sem, touchV]) rfl ⟨_, _, _, _, _, _, _, _, _, rfl, R0.out.below (by go_grown), by go_grown⟩
end
end

section
open Go.ChangeShapes Go.WideShapes Go.ChangeAt Go.RowKit
section
variable {P : Nat → Prop} {V E K : List Int} {A1 A2 A3 : Option Addr} {n1 c1 n2 c2 n3 c3 : Nat}
theorem lies_len {w : World} {P : Nat → Prop} {A : Option Addr} {n c : Nat} {l : List Int} (h : Lies w P (.slice A n c) (ints l)) : l.length = n := by
  obtain ⟨A', c', hv, _⟩ := h
  injection hv with e1 e2 e3
  rw [e2, ints_len]
set_option maxRecDepth 100000 in
set_option maxHeartbeats 2000000 in
theorem rdo14_storeN (i u : Int) (w : World) (hi : in14 V i = false) (r : RPl14 w P V E K (.slice A1 n1 c1) (.slice A2 n2 c2) (.slice A3 n3 c3)) :
    Calls Tryz.prog 38 #[.agg #[.slice A1 n1 c1, .slice A2 n2 c2, .slice A3 n3 c3], touchV 2 i u] w (RDo14 P V E K ((2, i, u) : Tch) 0 w) := by
  have R0 := Lib.hid r
  have hi0 := in14_no hi
  rw [lies_len r.words] at hi0
  clear r hi
  unfold touchV
  rcases hi0 with hi0 | ⟨hi0, hi1⟩
  · have m1 : decide (0 ≤ i) = false := by simp; omega
    go_enter Tryz.func38, Tryz.ntmps38
    go_wp2
    go_region
    all_goals go_wp2
    all_goals exact bodyPost_ret (v := .tuple #[.agg #[.slice A1 n1 c1, .slice A2 n2 c2, .slice A3 n3 c3], touchV ((2, i, u) : Tch).1 ((2, i, u) : Tch).2.1 ((2, i, u) : Tch).2.2, .int .i64 (0)]) (by simp [results, Tryz.results38, go_sem, touchV]) rfl ⟨_, _, _, _, _, _, _, _, _, rfl, R0.out.below (by go_grown), by go_grown⟩
  · have m1 : decide (i < (n1 : Int)) = false := by simp; omega
    go_enter Tryz.func38, Tryz.ntmps38
    go_wp2
    go_region
    all_goals go_wp2
    all_goals exact bodyPost_ret (v := .tuple #[.agg #[.slice A1 n1 c1, .slice A2 n2 c2, .slice A3 n3 c3], touchV ((2, i, u) : Tch).1 ((2, i, u) : Tch).2.1 ((2, i, u) : Tch).2.2, .int .i64 (0)]) (by simp [results, Tryz.results38, go_sem, touchV]) rfl ⟨_, _, _, _, _, _, _, _, _, rfl, R0.out.below (by go_grown), by go_grown⟩
/-- The four variables of Do, behind a call that only made memory. -/
structure Mid14 (w w1 : World) (x y z : Value) (κ i u : Int) : Prop where
  r0 : Row w1 w.heap.size 51 [x, y, z]
  r1 : Row w1 (w.heap.size + 1) 53 [.int .i64 κ, .int .i64 i, .int .i64 u]
  r2 : Row w1 (w.heap.size + 1 + 1) 51 [.slice none 0 0, .slice none 0 0, .slice none 0 0]
  r3 : Row w1 (w.heap.size + 1 + 1 + 1) 53 [.int .i64 0, .int .i64 0, .int .i64 0]
  below : Below w.heap.size w w1
  size : w.heap.size + 4 ≤ w1.heap.size
theorem Mid14.start (w : World) (x y z : Value) (κ i u : Int) : Mid14 w (four14 w x y z κ i u) x y z κ i u := by
  obtain ⟨a, b, c, d, e, f⟩ := four14_rows w x y z κ i u
  exact ⟨a, b, c, d, e, by omega⟩
theorem Mid14.only {S : Nat → Prop} {w w1 w2 : World} {x y z : Value} {κ i u : Int} (m : Mid14 w w1 x y z κ i u) (ho : Only S w1 w2) (hS : ∀ g, g < w.heap.size + 4 → ¬ S g) : Mid14 w w2 x y z κ i u :=
  ⟨m.r0.only ho (hS _ (by omega)), m.r1.only ho (hS _ (by omega)), m.r2.only ho (hS _ (by omega)), m.r3.only ho (hS _ (by omega)), Only.below m.below ho (by have := m.size; omega) (fun g hg => hS g (by omega)), Nat.le_trans m.size ho.size⟩
theorem Mid14.quiet {w w1 w2 : World} {x y z : Value} {κ i u : Int} (m : Mid14 w w1 x y z κ i u) (hb : Below w1.heap.size w1 w2) : Mid14 w w2 x y z κ i u :=
  m.only (Only.of_below hb (fun _ => False)) (fun _ _ h => h)
/-- A number is put at a place of a list of the call's own: what the region's operations ask. -/
theorem own_put14 {w w1 : World} {base g n c : Nat} {l : List Int} {x y z : Value} {κ i u : Int} (m : Mid14 w w1 x y z κ i u) (o : w1.ownsRow base 3 1 (.slice (some ⟨g, 0, none⟩) n c) n (ints l)) (hg : w.heap.size + 4 ≤ g) {j : Nat} (hj : j < n) (v : Int) :
    (w1.setCell ⟨g, j, none⟩ (.int .i64 v)).cell? ⟨w.heap.size + 1, 1, none⟩ = some (.int .i64 i) ∧ (w1.setCell ⟨g, j, none⟩ (.int .i64 v)).cell? ⟨w.heap.size + 1, 2, none⟩ = some (.int .i64 u) ∧ (w1.setCell ⟨g, j, none⟩ (.int .i64 v)).cell? ⟨g, j, none⟩ = some (heldV14 (w1.setCell ⟨g, j, none⟩ (.int .i64 v)) ⟨g, j, none⟩) ∧ (w1.setCell ⟨g, j, none⟩ (.int .i64 v)).frozen? ⟨g, j, none⟩ = false := by
  have o2 := (o.stored j (.int .i64 v)).1
  have hl : (ints l).length = n := by have := o.1; omega
  exact ⟨(cell_far (p := ⟨g, j, none⟩) (show w.heap.size + 1 ≠ g by omega) _).trans (m.r1.cell 1), (cell_far (p := ⟨g, j, none⟩) (show w.heap.size + 1 ≠ g by omega) _).trans (m.r1.cell 2), heldV14_of ⟨_, (o2.cellAt j (by omega)).trans (List.getElem?_eq_getElem (by rw [List.length_set]; omega))⟩, o2.frozenAt j⟩
set_option maxRecDepth 100000 in
set_option maxHeartbeats 4000000 in
theorem rdo14_storeY (j : Nat) (u : Int) (w : World) (hj : j < V.length) (hl : V.length ≤ 65536) (hV : ∀ x ∈ V, 0 ≤ x ∧ x ≤ 65535) (hP : ∀ g, w.heap.size ≤ g → P g) (r : RPl14 w P V E K (.slice A1 n1 c1) (.slice A2 n2 c2) (.slice A3 n3 c3)) :
    Calls Tryz.prog 38 #[.agg #[.slice A1 n1 c1, .slice A2 n2 c2, .slice A3 n3 c3], touchV 2 (j : Int) u] w (RDo14 P (V.set j (u % 65536)) E K ((2, (j : Int), u) : Tch) 0 w) := by
  have R0 := Lib.hid r
  have M0 := Lib.hid (Mid14.start w (.slice A1 n1 c1) (.slice A2 n2 c2) (.slice A3 n3 c3) 2 j u)
  have R := Lib.hid (r.below (four14_rows w (.slice A1 n1 c1) (.slice A2 n2 c2) (.slice A3 n3 c3) 2 j u).2.2.2.2.1)
  have hs4 := (four14_rows w (.slice A1 n1 c1) (.slice A2 n2 c2) (.slice A3 n3 c3) 2 j u).2.2.2.2.2
  have HS4 := Lib.hid hs4
  have hn := lies_len r.words
  have hj1 : j < n1 := by omega
  have hj2 : (j : Int) < (n1 : Int) := by omega
  have hVV := Lib.hid (mod14_fix hV)
  have HP := Lib.hid hP
  have HN := Lib.hid hn
  unfold four14 at R M0 HS4
  clear r hj hV hP hn hs4
  unfold touchV
  go_enter Tryz.func38, Tryz.ntmps38
  go_wp2_with fail
  refine (all14_any _ V _ _ R.out.words hl).mono ?_
  rintro e w1 ⟨v1, rfl, o1, hb1⟩
  rw [HS4.out, HN.out, hVV.out] at o1
  obtain ⟨g', cap', rfl, hbg, hlt'⟩ := o1.form (by omega)
  have M1 := Lib.hid (M0.out.quiet hb1)
  have HO := Lib.hid o1
  have HPUT := Lib.hid (own_put14 M1.out o1 (by omega) hj1 (u % 65536))
  have q1 := M1.out.r1.cell 1
  have q2 := M1.out.r1.cell 2
  have q3 : w1.cell? ⟨g', j, none⟩ = some (heldV14 w1 ⟨g', j, none⟩) := heldV14_of ⟨_, (o1.cellAt j (by omega)).trans (List.getElem?_eq_getElem (by have := o1.1; omega))⟩
  have q4 := o1.frozenAt j
  simp only [List.getElem?_cons_zero, List.getElem?_cons_succ] at q1 q2
  clear o1 hb1
  go_wp2
  go_region_held3 (fun W => W.cell? ⟨w.heap.size + 1, 1, none⟩ = some (.int .i64 (j : Int)) ∧ W.cell? ⟨w.heap.size + 1, 2, none⟩ = some (.int .i64 u) ∧ W.cell? ⟨g', j, none⟩ = some (heldV14 W ⟨g', j, none⟩) ∧ W.frozen? ⟨g', j, none⟩ = false)
    (first | exact ⟨q1, q2, q3, q4⟩ | exact HPUT.out | go_keep)
    (first
      | (go_at_call 60; refine (rword_any _ _).mono ?_; rintro e w' ⟨rfl, rfl⟩))
  clear q1 q2 q3 q4 HPUT
  obtain ⟨w2, hw2⟩ : ∃ w2, w2 = (w1.setCell ⟨g', j, none⟩ (.int .i64 (u % 65536))).drew := ⟨_, rfl⟩
  rw [← hw2]
  have o2 : Only (· = g') w1 w2 := by rw [hw2]; exact ((Only.refl (· = g') w1).setCell (p := ⟨g', j, none⟩) (.inl rfl) _).drew
  have HO2 : Hid (w2.ownsRow (w.heap.size + 1 + 1 + 1 + 1) 3 1 (.slice (some ⟨g', 0, none⟩) n1 cap') n1 (ints (V.set j (u % 65536)))) := Lib.hid (by rw [hw2, ints_set]; exact own_quiet (HO.out.stored j (.int .i64 (u % 65536))).1 (fun _ _ => rfl))
  have M2 := Lib.hid (M1.out.only o2 (fun g hg e => by omega))
  clear hw2 o2
  have a0 := M2.out.r0.cell 0
  have a1 := M2.out.r0.cell 1
  have a2 := M2.out.r0.cell 2
  have g0 := M2.out.r0.soft 0
  have e0 := M2.out.r1.cell 0
  have e1 := M2.out.r1.cell 1
  have e2 := M2.out.r1.cell 2
  have t0 := M2.out.r2.cell 0
  have t1 := M2.out.r2.cell 1
  have t2 := M2.out.r2.cell 2
  have f0 := M2.out.r2.soft 0
  have f1 := M2.out.r2.soft 1
  have f2 := M2.out.r2.soft 2
  have z0 := M2.out.r3.cell 0
  have z1 := M2.out.r3.cell 1
  have z2 := M2.out.r3.cell 2
  have y0 := M2.out.r3.soft 0
  have y1 := M2.out.r3.soft 1
  have y2 := M2.out.r3.soft 2
  simp only [List.getElem?_cons_zero, List.getElem?_cons_succ] at a0 a1 a2 e0 e1 e2 t0 t1 t2 z0 z1 z2
  go_wp2
  go_region
  all_goals go_wp2
  have REND : Hid (RPl14 w2 (fun g => P g ∧ (g < w.heap.size ∨ w.heap.size + 4 ≤ g)) (V.set j (u % 65536)) E K (.slice (some ⟨g', 0, none⟩) n1 cap') (.slice A2 n2 c2) (.slice A3 n3 c3)) :=
    Lib.hid ⟨(Lies.of_own HO2.out).weak (fun g _ h => ⟨HP.out g (by omega), .inr (by omega)⟩), (R0.out.epochs.weak (fun g hg hp => ⟨hp, .inl hg⟩)).below M2.out.below, (R0.out.kicks.weak (fun g hg hp => ⟨hp, .inl hg⟩)).below M2.out.below, CapOk.of_own HO2.out, R0.out.cy, R0.out.cz⟩
  all_goals refine bodyPost_ret (v := .tuple #[.agg #[.slice (some ⟨g', 0, none⟩) n1 cap', .slice A2 n2 c2, .slice A3 n3 c3], touchV ((2, (j : Int), u) : Tch).1 ((2, (j : Int), u) : Tch).2.1 ((2, (j : Int), u) : Tch).2.2, .int .i64 0]) (by simp [results, Tryz.results38, go_sem, touchV, *]) rfl (rdo14_end M2.out.below ?_ REND.out)
  all_goals repeat (with_reducible (first | refine Only.setCell ?_ (Or.inl (show _ ≤ _ ∧ _ < _ from by constructor <;> simp <;> omega)) _ | refine Only.drew ?_ | exact Only.refl _ _))
end
end

section
open Go.ChangeShapes Go.WideShapes Go.ChangeAt Go.RowKit
section
variable {P : Nat → Prop} {V E K : List Int} {A1 A2 A3 : Option Addr} {n1 c1 n2 c2 n3 c3 : Nat}
set_option maxRecDepth 100000 in
set_option maxHeartbeats 4000000 in
theorem rdo14_kick (i u : Int) (w : World) (hl : K.length ≤ 65536) (hP : ∀ g, w.heap.size ≤ g → P g) (r : RPl14 w P V E K (.slice A1 n1 c1) (.slice A2 n2 c2) (.slice A3 n3 c3)) :
    Calls Tryz.prog 38 #[.agg #[.slice A1 n1 c1, .slice A2 n2 c2, .slice A3 n3 c3], touchV 5 i u] w (RDo14 P V E (K ++ [i]) ((5, i, 0) : Tch) 0 w) := by
  obtain ⟨i0, hi0, hz0, hz1, hz2⟩ := info_parts int_info
  have R0 := Lib.hid r
  have M0 := Lib.hid (Mid14.start w (.slice A1 n1 c1) (.slice A2 n2 c2) (.slice A3 n3 c3) 5 i u)
  have R := Lib.hid (r.below (four14_rows w (.slice A1 n1 c1) (.slice A2 n2 c2) (.slice A3 n3 c3) 5 i u).2.2.2.2.1)
  have HS4 := Lib.hid (four14_rows w (.slice A1 n1 c1) (.slice A2 n2 c2) (.slice A3 n3 c3) 5 i u).2.2.2.2.2
  have hn := lies_len r.kicks
  have hn3 : n3 ≤ 65536 := by omega
  have HP := Lib.hid hP
  have HN := Lib.hid hn
  have O1 := Lib.hid (ints_one K)
  unfold four14 at R M0 HS4
  clear r hP hn hl
  unfold touchV
  go_enter Tryz.func38, Tryz.ntmps38
  go_wp2_with (first
    | (at_builtin
       refine app_walk _ rfl (.tmp 72) (.tmp 74) 35 rfl (w.heap.size + 1 + 1 + 1 + 1) 3 i0 _ 8 Tryz.underlying35 hi0 hz0 hz1 hz2 rfl (.slice none 0 0) 0 [] rfl (World.ownsRow_nil _ _ _ _) P A3 n3 c3 (ints K) rfl R.out.kicks R.out.cz O1.out (by unfold maxLen; omega) (by omega) (Nat.le_of_eq HS4.out.symm) ?_
       intro v1 w1 hown1 hg1 hat1
       rw [Nat.zero_add, List.nil_append] at hown1
       have hgb : Below w.heap.size w w1 := M0.out.below.grown hg1 M0.out.below.size (by simp [Value.ownBlock])
       have M1 : Hid (Mid14 w w1 (.slice A1 n1 c1) (.slice A2 n2 c2) (.slice A3 n3 c3) 5 i u) := Lib.hid (M0.out.only (S := fun _ => False) ⟨hg1.os, hg1.tape, hg1.output, hg1.size, fun q hq _ => hg1.block q hq (by simp [Value.ownBlock])⟩ (fun _ _ h => h))
       obtain ⟨B1, d1, rfl⟩ := own_open14 hown1
       have H1 := Lib.hid hown1
       have a0 := M1.out.r0.cell 0
       have a1 := M1.out.r0.cell 1
       have a2 := M1.out.r0.cell 2
       have e0 := M1.out.r1.cell 0
       have e1 := M1.out.r1.cell 1
       have e2 := M1.out.r1.cell 2
       simp only [List.getElem?_cons_zero, List.getElem?_cons_succ] at a0 a1 a2 e0 e1 e2
       clear hown1 hg1 hat1 hgb)
    | (at_builtin
       refine app14_walk rfl (.tmp 76) (.tmp 79) 35 rfl (w.heap.size + 1 + 1 + 1 + 1) 3 i0 _ 1 8 Tryz.underlying35 hi0 hz0 hz1 hz2 rfl (by omega) (.slice B1 n3 d1) n3 (ints K) rfl (H1.out.alloc _) ⟨w1.heap.size, 0, none⟩ 1 1 [.int .i64 i] rfl rfl (cell_one_new _ _ _) (by intro u hu; simp at hu; subst hu; rfl) (by unfold maxLen; omega) (by omega) (by simp; have := M1.out.size; omega) ?_
       intro v2 w2 hown2 hg2 hat2
       obtain ⟨g', cap', rfl, hbg, hlt'⟩ := hown2.form (by omega)
       have HO2 : Hid (w2.ownsRow (w.heap.size + 1 + 1 + 1 + 1) 3 1 (.slice (some ⟨g', 0, none⟩) (n3 + 1) cap') (n3 + 1) (ints (K ++ [i]))) := Lib.hid (by rw [ints_append]; exact hown2)
       have M2 : Hid (Mid14 w w2 (.slice A1 n1 c1) (.slice A2 n2 c2) (.slice A3 n3 c3) 5 i u) := Lib.hid ((M1.out.quiet (below_al w1 (.cells #[.int .i64 i] 3))).only (Only.of_own hg2) (fun g hg e => by have := (H1.out.lt g e).1; omega))
       clear hown2 hg2 hat2 a0 a1 a2 e0 e1 e2
       have a0 := M2.out.r0.cell 0
       have a1 := M2.out.r0.cell 1
       have a2 := M2.out.r0.cell 2
       have g0 := M2.out.r0.soft 2
       have e0 := M2.out.r1.cell 0
       have e1 := M2.out.r1.cell 1
       have e2 := M2.out.r1.cell 2
       have t0 := M2.out.r2.cell 0
       have t1 := M2.out.r2.cell 1
       have t2 := M2.out.r2.cell 2
       have f0 := M2.out.r2.soft 0
       have f1 := M2.out.r2.soft 1
       have f2 := M2.out.r2.soft 2
       have z0 := M2.out.r3.cell 0
       have z1 := M2.out.r3.cell 1
       have z2 := M2.out.r3.cell 2
       have y0 := M2.out.r3.soft 0
       have y1 := M2.out.r3.soft 1
       have y2 := M2.out.r3.soft 2
       simp only [List.getElem?_cons_zero, List.getElem?_cons_succ] at a0 a1 a2 e0 e1 e2 t0 t1 t2 z0 z1 z2))
  go_region
  all_goals go_wp2
  have REND : Hid (RPl14 w2 (fun g => P g ∧ (g < w.heap.size ∨ w.heap.size + 4 ≤ g)) V E (K ++ [i]) (.slice A1 n1 c1) (.slice A2 n2 c2) (.slice (some ⟨g', 0, none⟩) (n3 + 1) cap')) :=
    Lib.hid ⟨(R0.out.words.weak (fun g hg hp => ⟨hp, .inl hg⟩)).below M2.out.below, (R0.out.epochs.weak (fun g hg hp => ⟨hp, .inl hg⟩)).below M2.out.below, (Lies.of_own HO2.out).weak (fun g _ h => ⟨HP.out g (by omega), .inr (by omega)⟩), R0.out.cx, R0.out.cy, CapOk.of_own HO2.out⟩
  all_goals refine bodyPost_ret (v := .tuple #[.agg #[.slice A1 n1 c1, .slice A2 n2 c2, .slice (some ⟨g', 0, none⟩) (n3 + 1) cap'], touchV ((5, i, 0) : Tch).1 ((5, i, 0) : Tch).2.1 ((5, i, 0) : Tch).2.2, .int .i64 0]) (by simp [results, Tryz.results38, go_sem, touchV, *]) rfl (rdo14_end M2.out.below ?_ REND.out)
  all_goals repeat (with_reducible (first | refine Only.setCell ?_ (Or.inl (show _ ≤ _ ∧ _ < _ from by constructor <;> simp <;> omega)) _ | refine Only.drew ?_ | exact Only.refl _ _))
/-- What a touch leaves as what was touched. -/
def dX14 (V E : List Int) (κ i u : Int) : Tch := (dT14 V E κ i u).headD (0, 0, 0)
theorem rdo14_any (κ i u : Int) (w : World) (hl : V.length ≤ 65536) (hk : K.length ≤ 65536) (hV : ∀ x ∈ V, 0 ≤ x ∧ x ≤ 65535) (hP : ∀ g, w.heap.size ≤ g → P g) (r : RPl14 w P V E K (.slice A1 n1 c1) (.slice A2 n2 c2) (.slice A3 n3 c3)) :
    Calls Tryz.prog 38 #[.agg #[.slice A1 n1 c1, .slice A2 n2 c2, .slice A3 n3 c3], touchV κ i u] w (RDo14 P (dV14 V κ i u) E (dK14 K κ i) (dX14 V E κ i u) (dN14 V E κ i) w) := by
  by_cases h1 : κ = 1
  · subst h1; exact rdo14_load i u w r
  · by_cases h2 : κ = 2
    · subst h2
      cases hi : in14 V i with
      | false =>
        have e : dV14 V 2 i u = V := (put14_out _ hi : put14 V i (u % 65536) = V)
        rw [e]
        exact rdo14_storeN i u w hi r
      | true =>
        obtain ⟨j, x, rfl, _, hj, _, e⟩ := in14_at hi
        have e2 : dV14 V 2 (j : Int) u = V.set j (u % 65536) := e _
        rw [e2]
        exact rdo14_storeY j u w hj hl hV hP r
    · by_cases h3 : κ = 3
      · subst h3; exact rdo14_fence i u w r
      · by_cases h4 : κ = 4
        · subst h4; exact rdo14_epoch i u w r
        · by_cases h5 : κ = 5
          · subst h5; exact rdo14_kick i u w hk hP r
          · have e1 : dV14 V κ i u = V := by unfold dV14; rw [if_neg h2]
            have e2 : dK14 K κ i = K := by unfold dK14; rw [if_neg h5]
            have e3 : dX14 V E κ i u = (0, 0, 0) := by unfold dX14 dT14; rw [if_neg h1, if_neg h2, if_neg h3, if_neg h4, if_neg h5]; rfl
            have e4 : dN14 V E κ i = 0 := by unfold dN14; rw [if_neg h1, if_neg h4]
            rw [e1, e2, e3, e4]
            exact rdo14_other κ i u h1 h2 h3 h4 h5 w r
end
end

section
open Go.ChangeShapes Go.WideShapes Go.ChangeAt Go.RowKit
set_option maxRecDepth 100000 in
theorem eql_t14 (a b c d e f : Int) (W : World) : (binOp .eql 53 (.agg #[.int .i64 a, .int .i64 b, .int .i64 c]) (.agg #[.int .i64 d, .int .i64 e, .int .i64 f])).run Tryz.prog W = .ok (.bool (decide (a = d ∧ b = e ∧ c = f))) W := by
  have u3 := Tryz.underlying3
  have a3 := Tryz.isAgg3
  have z3 := Tryz.sizeOf3
  have hS : Tryz.prog.underlying 53 = some (.struct (Tryz.prog.fieldsOf 53)) := by kernel_rfl
  have hp : Tryz.prog.stoodInHeld 53 = false := by kernel_rfl
  rw [run_eql_struct, show (10000 : Nat) = 9999 + 1 from rfl, run_equalIn_agg W 9999 53 _ _ hS hp]
  simp only [Program.fieldsOf, Tryz.underlying53]
  go_simp
  by_cases h1 : a = d <;> by_cases h2 : b = e <;> by_cases h3 : c = f <;> simp [h1, h2, h3]
set_option maxRecDepth 100000 in
theorem neq_t14 (a b c : Int) (W : World) : (binOp .neq 53 (.agg #[.int .i64 a, .int .i64 b, .int .i64 c]) (.agg #[.int .i64 a, .int .i64 b, .int .i64 c])).run Tryz.prog W = .ok (.bool false) W := by
  have h := eql_t14 a b c a b c W
  rw [run_eql_struct] at h
  rw [run_neq_struct]
  cases hr : (Op.equalIn 10000 53 (.agg #[.int .i64 a, .int .i64 b, .int .i64 c]) (.agg #[.int .i64 a, .int .i64 b, .int .i64 c])).run Tryz.prog W with
  | ok r w' =>
    rw [hr] at h
    simp only [Result.andThen_ok] at h ⊢
    injection h with h1 h2
    injection h1 with h1
    rw [h1, h2]
    simp
  | halt x w' =>
    rw [hr] at h
    simp [Result.andThen] at h
end

end Go.Proofs.YtiofipofbeodpaaGreatDoor
