/-
  Layer 14 (port): what a Trace records: record, Touches.
  Conditions: those that each theorem states.
-/
import Derived.Test.YtgdbaaoifnedbaaDoorPt4
import Derived.Deep.RegionLaw
namespace Go.Proofs.YtgdbaaoifnedbaaDoor
open Go.ChangeShapes Go.WideShapes Go.ChangeAt Go.RowKit

/-- A touch: its kind, the address or the core, the word or the epoch. -/
abbrev Tch := Int × Int × Int
def thr (x : Tch) : List Value := [.int .i64 x.1, .int .i64 x.2.1, .int .i64 x.2.2]
def tcs : List Tch → List Value
  | [] => []
  | x :: l => thr x ++ tcs l
theorem tcs_len : ∀ l : List Tch, (tcs l).length = l.length * 3
  | [] => rfl
  | x :: l => by simp only [tcs, List.length_append, List.length_cons, tcs_len l, thr, List.length_nil]; omega
theorem tcs_append : ∀ a b : List Tch, tcs (a ++ b) = tcs a ++ tcs b
  | [], b => rfl
  | x :: a, b => by simp only [List.cons_append, tcs, tcs_append a b, List.append_assoc]
theorem tcs_one : ∀ l : List Tch, ∀ u ∈ tcs l, u.oneCell' = true
  | [], u, h => by cases h
  | x :: l, u, h => by
    rcases List.mem_append.1 h with h | h
    · simp only [thr, List.mem_cons, List.not_mem_nil, or_false] at h
      rcases h with rfl | rfl | rfl <;> rfl
    · exact tcs_one l u h
theorem tcs_at : ∀ {l : List Tch} {k : Nat} {x : Tch}, l[k]? = some x → (tcs l)[k * 3]? = some (.int .i64 x.1) ∧ (tcs l)[k * 3 + 1]? = some (.int .i64 x.2.1) ∧ (tcs l)[k * 3 + 2]? = some (.int .i64 x.2.2)
  | [], k, x, h => by simp at h
  | y :: l, 0, x, h => by
    simp only [List.getElem?_cons_zero, Option.some.injEq] at h
    subst h
    exact ⟨rfl, rfl, rfl⟩
  | y :: l, k + 1, x, h => by
    have h1 : l[k]? = some x := by simpa using h
    have e : (k + 1) * 3 = k * 3 + 1 + 1 + 1 := by omega
    rw [e]
    simpa [tcs, thr] using tcs_at h1

/-- The slice v holds the touches l; its block, if it has elements, is one of those that P allows. -/
def Thr (w : World) (P : Nat → Prop) (v : Value) (l : List Tch) : Prop :=
  ∃ A c, v = .slice A l.length c ∧ (0 < l.length → ∃ g o, A = some ⟨g, o, none⟩ ∧ P g ∧ g < w.heap.size ∧ ∀ j u, (tcs l)[j]? = some u → w.cell? ⟨g, o + j, none⟩ = some u)

theorem Thr.weak {w : World} {P Q : Nat → Prop} {v : Value} {l : List Tch} (h : Thr w P v l) (hPQ : ∀ g, g < w.heap.size → P g → Q g) : Thr w Q v l := by
  obtain ⟨A, c, rfl, hc⟩ := h
  refine ⟨A, c, rfl, fun hp => ?_⟩
  obtain ⟨g, o, hA, hP, hlt, hcell⟩ := hc hp
  exact ⟨g, o, hA, hPQ g hlt hP, hlt, hcell⟩
theorem Thr.only {S : Nat → Prop} {w w' : World} {P : Nat → Prop} {v : Value} {l : List Tch} (h : Thr w P v l) (ho : Only S w w') (hr : ∀ g, S g → ¬ P g) : Thr w' P v l := by
  obtain ⟨A, c, rfl, hc⟩ := h
  refine ⟨A, c, rfl, fun hp => ?_⟩
  obtain ⟨g, o, hA, hP, hlt, hcell⟩ := hc hp
  refine ⟨g, o, hA, hP, Nat.lt_of_lt_of_le hlt ho.size, fun j u hu => ?_⟩
  rw [World.cell?_of_block (w := w) (ho.block g hlt (fun e => hr g e hP))]
  exact hcell j u hu
theorem Thr.below {w w' : World} {P : Nat → Prop} {v : Value} {l : List Tch} (h : Thr w P v l) (hb : Below w.heap.size w w') : Thr w' P v l :=
  h.only (Only.of_below hb (fun _ => False)) (fun _ h => h.elim)
theorem Thr.of_own {w : World} {base : Nat} {e : TypeId} {v : Value} {n : Nat} {l : List Tch} (h : w.ownsRow base e 3 v n (tcs l)) : Thr w (fun b => v.ownBlock = some b) v l := by
  obtain ⟨hl, h2⟩ := h
  rw [tcs_len] at hl
  have hn : l.length = n := by omega
  subst hn
  rcases h2 with ⟨rfl, h0⟩ | ⟨g, cap, cur, rfl, hb, hg, hn, hm, hs, ht⟩
  · obtain rfl : l = [] := List.eq_nil_of_length_eq_zero h0
    exact ⟨none, 0, rfl, fun h => absurd h (by simp)⟩
  · refine ⟨_, cap, rfl, fun _ => ⟨g, 0, rfl, rfl, (Array.getElem?_eq_some_iff.1 hg).1, fun j u hu => ?_⟩⟩
    rw [Nat.zero_add, cell_of_row w g j cur e (0, 0) hg]
    rw [← ht, List.getElem?_take] at hu
    split at hu
    · simpa using hu
    · cases hu
theorem Thr.open_ {w : World} {P : Nat → Prop} {v : Value} {l : List Tch} (h : Thr w P v l) : ∃ A n c, v = .slice A n c ∧ Hid (l.length = n) ∧ Hid (Thr w P (.slice A n c) l) := by
  have h0 := h
  obtain ⟨A, c, rfl, _⟩ := h
  exact ⟨A, _, c, rfl, rfl, h0⟩
/-- Touch number k. -/
theorem Thr.cells {w : World} {P : Nat → Prop} {A : Option Addr} {n c : Nat} {l : List Tch} (h : Thr w P (.slice A n c) l) {k : Nat} {x : Tch} (hk : l[k]? = some x) :
    ∃ g o, A = some ⟨g, o, none⟩ ∧ P g ∧ g < w.heap.size ∧ w.cell? ⟨g, o + k * 3, none⟩ = some (.int .i64 x.1) ∧ w.cell? ⟨g, o + k * 3 + 1, none⟩ = some (.int .i64 x.2.1) ∧ w.cell? ⟨g, o + k * 3 + 2, none⟩ = some (.int .i64 x.2.2) := by
  obtain ⟨A', c', hv, hA⟩ := h
  injection hv with e1 e2 e3
  subst e1
  have hlt : k < l.length := (List.getElem?_eq_some_iff.1 hk).1
  obtain ⟨g, o, rfl, hP, hg, hc⟩ := hA (by omega)
  obtain ⟨h1, h2, h3⟩ := tcs_at hk
  exact ⟨g, o, rfl, hP, hg, hc _ _ h1, by rw [Nat.add_assoc]; exact hc _ _ h2, by rw [Nat.add_assoc]; exact hc _ _ h3⟩

theorem own_type {w : World} {base : Nat} {e t : TypeId} {size : Nat} {v : Value} {n g : Nat} {xs cs : List Value} (h : w.ownsRow base e size v n xs) (hr : Row w g t cs) (hne : t ≠ e) : v.ownBlock ≠ some g := by
  intro hv
  rcases h.2 with ⟨rfl, _⟩ | ⟨g', cap, cur, rfl, _, hg, _⟩
  · cases hv
  · simp only [Value.ownBlock, Option.some.injEq] at hv
    subst hv
    unfold Row at hr
    rw [hg] at hr
    injection hr with hr
    injection hr with _ hr
    exact hne hr.symm

/-- A Trace that forwards to the Plain in block p: its struct is block t, its list of touches is a slice of its own. -/
structure TraceAt (w : World) (t p : Nat) (v : Value) (T : List Tch) : Prop where
  row : Row w t 113 [face14 p, v]
  own : w.ownsRow (t + 1) 64 3 v T.length (tcs T)

theorem TraceAt.vt {w : World} {t p : Nat} {v : Value} {T : List Tch} (r : TraceAt w t p v T) : v.ownBlock ≠ some t := own_type r.own r.row (by decide)
theorem TraceAt.only {S : Nat → Prop} {w w' : World} {t p : Nat} {v : Value} {T : List Tch} (r : TraceAt w t p v T) (ho : Only S w w') (h1 : ¬ S t) (h2 : ∀ g, v.ownBlock = some g → ¬ S g) : TraceAt w' t p v T :=
  ⟨r.row.only ho h1, own_quiet r.own (fun g hg => ho.block g (r.own.lt g hg).2 (h2 g hg))⟩
theorem TraceAt.below {w w' : World} {t p : Nat} {v : Value} {T : List Tch} (r : TraceAt w t p v T) (hb : Below w.heap.size w w') : TraceAt w' t p v T :=
  r.only (Only.of_below hb (fun _ => False)) id (fun _ _ => id)

theorem touch_info : (Tryd.prog.info? 64).map (fun i => (i.zero, i.size, i.bytes)) = some (some (.agg #[.int .i64 0, .int .i64 0, .int .i64 0]), 3, 24) := by kernel_rfl

theorem app14_step {P : Program} (w : World) {ops : Array Oper} {o : Oper} {a : Act} {K : Act → World → Prop} {Q : Exit → Act → World → Prop} {E : Prop} (hgd : o.guard = none) (s x : Operand) (t : TypeId)
    (ho : o.op = .call { callee := .builtin .append, args := #[s, x], argTypes := #[t, t] }) (base : Nat) (e : TypeId) (i : TypeInfo) (z : Value) (size bytes : Nat) (ht : P.underlying t = some (.slice e)) (hi : P.info? e = some i) (hz : i.zero = some z)
    (hsize : i.size = size) (hby : i.bytes = bytes) (hzs : z.cells.size = size) (hpos : 0 < size) (v : Value) (n : Nat) (xs : List Value) (hs : a.eval s = v) (hown : w.ownsRow base e size v n xs)
    (ad : Addr) (m c : Nat) (news : List Value) (hx : a.eval x = .slice (some ad) m c) (hn : news.length = m * size) (hc : ∀ j u, news[j]? = some u → w.cell? (ad.add j) = some u) (h1 : ∀ u ∈ news, u.oneCell' = true)
    (h63 : n + m ≤ maxLen) (hbytes : (n + m) * bytes ≤ 140737488355328) (hbase : base ≤ w.heap.size)
    (h : ∀ v' w', w'.ownsRow base e size v' (n + m) (xs ++ news) → w.grownBy w' v.ownBlock → (v'.ownBlock = v.ownBlock ∨ v'.ownBlock = some w.heap.size) → K (a.put o.dst v') w') :
    if Region.wanted o (yielded ops a.tmps) = true then Oper.wp P o a w K Q else E := by
  obtain ⟨v', w', hrun, h2, h3, _, h5⟩ := run_append_own_at (P := P) w base t o.type e i z size bytes ht hi hz hsize hby hzs hpos v n xs hown ad m c news hn hc h1 h63 hbytes hbase
  have hw : Region.wanted o (yielded ops a.tmps) = true := by simp [Region.wanted, hgd]
  rw [if_pos hw]
  unfold Oper.wp
  simp [execOp, ho, resolve, invoke, builtin, hs, hx, hrun, Result.andThen]
  exact h v' w' h2 h3 h5

theorem cells_new14 (w : World) (cs : List Value) (t : TypeId) (b : Nat) (hb : w.heap.size = b) : ∀ j u, cs[j]? = some u → (w.alloc (.cells cs.toArray t)).cell? ((⟨b, 0, none⟩ : Addr).add j) = some u := by
  intro j u hu
  subst hb
  rw [Addr.add_lit, Nat.zero_add]
  rw [Row.cell (Row.new w t cs.toArray) j]
  exact hu

/-- What record leaves. -/
def RecP (t p : Nat) (v : Value) (T : List Tch) (w : World) (e : Ending) (w' : World) : Prop :=
  ∃ v', e = .returned (.tuple #[]) ∧ TraceAt w' t p v' T ∧ Only (fun g => g = t ∨ v.ownBlock = some g) w w' ∧ (v'.ownBlock = v.ownBlock ∨ ∃ g, v'.ownBlock = some g ∧ w.heap.size ≤ g)

theorem rec_end {t p n c g' cap' : Nat} {A : Option Addr} {T : List Tch} {k i u : Int} {w w1 : World}
    (HO : w1.ownsRow (t + 1) 64 3 (.slice (some ⟨g', 0, none⟩) (n + 1) cap') (n + 1) (tcs T ++ [.int .i64 k, .int .i64 i, .int .i64 u])) (HR : Row w1 t 113 [face14 p, .slice A n c])
    (OG : Only (fun g => g = t ∨ (Value.slice A n c).ownBlock = some g) w w1) (HA : Value.ownBlock (.slice (some ⟨g', 0, none⟩) (n + 1) cap') = (Value.slice A n c).ownBlock ∨ ∃ g, Value.ownBlock (.slice (some ⟨g', 0, none⟩) (n + 1) cap') = some g ∧ w.heap.size ≤ g)
    (HN : T.length = n) (hbg : t + 1 ≤ g') :
    RecP t p (.slice A n c) (T ++ [(k, i, u)]) w (.returned (.tuple #[])) (w1.setCell ⟨t, 1, none⟩ (.slice (some ⟨g', 0, none⟩) (n + 1) cap')) := by
  have o3 : Only (· = t) w1 (w1.setCell ⟨t, 1, none⟩ (.slice (some ⟨g', 0, none⟩) (n + 1) cap')) := (Only.refl (· = t) w1).setCell (p := ⟨t, 1, none⟩) (.inl rfl) _
  refine ⟨_, rfl, ⟨HR.put 1 _, ?_⟩, OG.setCell (p := ⟨t, 1, none⟩) (.inl (.inl rfl)) _, HA⟩
  have := own_quiet HO (fun g hg => o3.block g (HO.lt g hg).2 (fun e => by simp only [Value.ownBlock, Option.some.injEq] at hg; omega))
  rw [List.length_append, HN, tcs_append]
  exact this

set_option maxRecDepth 100000 in
set_option maxHeartbeats 2000000 in
theorem record14_any {t p : Nat} {v : Value} {T : List Tch} (k i u : Int) (w : World) (r : TraceAt w t p v T) (hl : T.length ≤ 65536) :
    Calls Tryd.prog 150 #[.pointer (some ⟨t, 0, none⟩), .agg #[.int .i64 k, .int .i64 i, .int .i64 u]] w (RecP t p v (T ++ [(k, i, u)]) w) := by
  obtain ⟨i0, hi0, hz0, hz1, hz2⟩ := info_parts touch_info
  have hc := r.row.cell 1
  simp only [List.getElem?_cons_zero, List.getElem?_cons_succ] at hc
  have R := Lib.hid r
  obtain ⟨A, c, rfl⟩ := own_open14 r.own
  have htl := r.row.lt
  obtain ⟨n, hn⟩ : ∃ n, T.length = n := ⟨_, rfl⟩
  have HO := Lib.hid r.own
  rw [hn] at hc R HO hl ⊢
  have HN := Lib.hid hn
  clear r hn
  go_enter Tryd.func150, Tryd.ntmps150
  go_wp2
  go_region_law (refine app14_step _ rfl (.tmp 8) (.tmp 10) 60 rfl (t + 1) 64 i0 _ 3 24 Tryd.underlying60 hi0 hz0 hz1 hz2 rfl (by omega) _ _ _ rfl (own_quiet HO.out (fun g hg => (show Below w.heap.size w _ from by go_grown).block g (HO.out.lt g hg).2)) _ 1 1 [.int .i64 k, .int .i64 i, .int .i64 u] rfl rfl (cells_new14 _ _ _ _ (by simp)) (by intro q hq; simp at hq; rcases hq with rfl | rfl | rfl <;> rfl) (by unfold maxLen; omega) (by omega) (by simp; omega) ?_; intro v1 w1 hown1 hg1 hat1; obtain ⟨g', cap', rfl, hbg, hlt'⟩ := hown1.form (by omega); have HO1 := Lib.hid hown1; have HR1 := Lib.hid ((R.out.row.below (show Below w.heap.size w _ from by go_grown)).of_grown hg1 (fun e => R.out.vt e.symm)); have OG1 := Lib.hid ((Only.of_below (show Below w.heap.size w _ from by go_grown) (fun g => g = t ∨ (Value.slice A n c).ownBlock = some g)).trans ((Only.of_own hg1).mono (fun _ _ h => .inr h))); have HA1 : Hid (Value.ownBlock (.slice (some ⟨g', 0, none⟩) (n + 1) cap') = (Value.slice A n c).ownBlock ∨ ∃ g, Value.ownBlock (.slice (some ⟨g', 0, none⟩) (n + 1) cap') = some g ∧ w.heap.size ≤ g) := Lib.hid (hat1.imp id (fun e => ⟨_, e, by simp; omega⟩)); clear hown1 hg1 hat1; have hc1 := HR1.out.cell 1; simp only [List.getElem?_cons_zero, List.getElem?_cons_succ] at hc1; have hf1 := HR1.out.soft 1)
  all_goals (go_end0; exact rec_end HO1.out HR1.out OG1.out HA1.out HN.out hbg)

set_option maxRecDepth 100000 in
set_option maxHeartbeats 1000000 in
theorem cloneT14_any (P : Nat → Prop) (l : List Tch) (v : Value) (w : World) (hv : Thr w P v l) (hcap : CapOk v) (hl : l.length ≤ 65536) :
    Calls Tryd.prog 70 #[v] w fun e w' => ∃ v', e = .returned v' ∧ w'.ownsRow w.heap.size 64 3 v' l.length (tcs l) ∧ Below w.heap.size w w' := by
  obtain ⟨i0, hi0, hz0, hz1, hz2⟩ := info_parts touch_info
  obtain ⟨A, n, c, rfl, HN, HV⟩ := hv.open_
  have hn : n ≤ 65536 := by rw [← HN.out]; exact hl
  have q22 : ∀ (w : World) (a : Option Addr) (n c n' c' : Nat), (binOp .eql 60 (.slice a n c) (.slice none n' c')).run Tryd.prog w = .ok (.bool a.isNone) w := fun w a n c n' c' => Lib.run_eql_slice_nil w _ _ a n c n' c' Tryd.underlying60
  clear hv hl
  cases A with
  | none =>
    have h0 : l = [] := by
      obtain ⟨A', c', hs, hA⟩ := HV.out
      injection hs with e1 e2 e3
      refine Classical.byContradiction fun h => ?_
      obtain ⟨g, o, h1, _⟩ := hA (List.length_pos_iff.2 h)
      rw [← e1] at h1
      cases h1
    have H0 := Lib.hid h0; clear h0
    go_enter Tryd.func70, Tryd.ntmps70
    go_wp2
    go_ret
    exact ⟨_, rfl, by rw [H0.out]; exact World.ownsRow_nil _ _ _ _, Below.refl _ _⟩
  | some ad =>
    have hC : ∀ j u, (tcs l)[j]? = some u → w.cell? (ad.add j) = some u := by
      intro j u hu
      obtain ⟨A', c', hs, hA⟩ := HV.out
      injection hs with e1 e2 e3
      have h0 : 0 < l.length := by have := lt_of_at hu; rw [tcs_len] at this; omega
      obtain ⟨g, o, h1, _, _, h2⟩ := hA h0
      rw [← e1] at h1
      injection h1 with h1
      subst h1
      rw [Addr.add_lit]
      exact h2 j u hu
    have hL : (tcs l).length = n * 3 := by rw [tcs_len, HN.out]
    have HL := Lib.hid hL
    have O1 := Lib.hid (tcs_one l)
    have HCA : Hid (∀ j u, (tcs l)[j]? = some u → (w.alloc (.cells #[] 64)).cell? (ad.add j) = some u) := Lib.hid (fun j u hu => ((below_al w (.cells #[] 64)).cell (p := ad.add j) (World.block_lt_of_cell? w _ (hC j u hu))).trans (hC j u hu))
    clear hC hL
    go_enter Tryd.func70, Tryd.ntmps70
    go_wp2_with (at_builtin; go_must (refine app14_walk rfl (.tmp 5) (.tmp 6) 60 rfl w.heap.size 64 i0 _ 3 24 Tryd.underlying60 hi0 hz0 hz1 hz2 rfl (by omega) (.slice (some ⟨w.heap.size, 0, none⟩) 0 0) 0 [] rfl (own_empty _ _ _) ad n c (tcs l) rfl HL.out HCA.out O1.out (by unfold maxLen; omega) (by omega) (by simp) ?_; intro v1 w1 hown1 hg1 hat1; rw [Nat.zero_add, List.nil_append] at hown1; have HO := Lib.hid hown1; have HB := Lib.hid ((below_al w (.cells #[] 64)).grown hg1 (by simp) (by intro k hk; simp only [Value.ownBlock, Option.some.injEq] at hk; omega)); clear hown1 hg1 hat1))
    go_ret
    exact ⟨_, rfl, by rw [HN.out]; exact HO.out, HB.out⟩

set_option maxRecDepth 100000 in
set_option maxHeartbeats 400000 in
theorem touches14_any {t p : Nat} {v : Value} {T : List Tch} (w : World) (r : TraceAt w t p v T) (hl : T.length ≤ 65536) :
    Calls Tryd.prog 24 #[.pointer (some ⟨t, 0, none⟩)] w fun e w' => ∃ v', e = .returned v' ∧ w'.ownsRow w.heap.size 64 3 v' T.length (tcs T) ∧ Below w.heap.size w w' := by
  have hc := r.row.cell 1
  simp only [List.getElem?_cons_zero, List.getElem?_cons_succ] at hc
  have L := Lib.hid (Thr.of_own r.own)
  have C := Lib.hid (CapOk.of_own r.own)
  obtain ⟨A, c, rfl⟩ := own_open14 r.own
  clear r
  go_enter Tryd.func24, Tryd.ntmps24
  go_wp2_with (go_at_call 70; refine (cloneT14_any _ T _ _ L.out C.out hl).mono ?_; rintro e w1 ⟨v1, rfl, o1, b1⟩)
  go_ret
  exact ⟨_, rfl, o1, b1⟩

set_option maxRecDepth 100000 in
set_option maxHeartbeats 400000 in
theorem traced14_any (p : Nat) (w : World) :
    Calls Tryd.prog 22 #[face14 p] w fun e w' => ∃ t, e = .returned (ptr t) ∧ TraceAt w' t p (.slice none 0 0) [] ∧ w.heap.size ≤ t ∧ Below w.heap.size w w' := by
  unfold face14
  go_enter Tryd.func22, Tryd.ntmps22
  go_wp2
  go_ret
  exact ⟨w.heap.size, rfl, ⟨Row.new w 113 #[_, _], World.ownsRow_nil _ _ _ _⟩, Nat.le_refl _, below_al _ _⟩

#print axioms record14_any
#print axioms touches14_any
#print axioms traced14_any
end Go.Proofs.YtgdbaaoifnedbaaDoor
