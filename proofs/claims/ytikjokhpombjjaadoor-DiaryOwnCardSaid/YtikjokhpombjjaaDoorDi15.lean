/-
  Layer 19 (diary): DiaryOwn.
  Conditions: those that each theorem states.
-/
import Derived.Test.YtikjokhpombjjaaDoorDi14
import Derived.Laws.AppendOwnNone
namespace Go.Proofs.YtikjokhpombjjaaDoor
open Go.ChangeShapes Go.WideShapes Go.ChangeAt Go.RowKit

theorem entry15_size (x : En) (u : Value) : (Tryd.prog.info? 38).map (·.size) = some (row19 x u).length := by kernel_rfl

/-- The entry's list's cell owns as many integers as the list has, whatever they are. -/
def Cz (w : World) (base : Nat) (p : En × Value) : Prop := ∃ zs : List Int, zs.length = p.1.load.length ∧ w.ownsRow base 3 1 p.2 p.1.load.length (ints zs)
theorem Cp.z {w : World} {base : Nat} {p : En × Value} (h : Cp w base p) : Cz w base p := ⟨_, rfl, h⟩
theorem Cz.below {w w' : World} {base : Nat} {p : En × Value} (h : Cz w base p) (hb : Below w.heap.size w w') : Cz w' base p := by
  obtain ⟨zs, h1, h2⟩ := h
  exact ⟨zs, h1, own19_below h2 hb⟩
theorem Cz.set {w : World} {base : Nat} {p : En × Value} (h : Cz w base p) (g i : Nat) (z : Int) : Cz (w.setCell ⟨g, i, none⟩ (.int .i64 z)) base p := by
  obtain ⟨zs, h1, h0, h2⟩ := h
  rcases h2 with h2 | ⟨g', cap, cur, hv, hb, hg, hn, hm, hs, ht⟩
  · exact ⟨zs, h1, h0, .inl h2⟩
  · by_cases e : g' = g
    · subst e
      refine ⟨zs.set i z, by rw [List.length_set, h1], by rw [ints_len, List.length_set, h1, Nat.mul_one], .inr ⟨g', cap, cur.setIfInBounds i (.int .i64 z), hv, hb, ?_, hn, hm, by simpa using hs, ?_⟩⟩
      · have := Row.put (w := w) (g := g') (t := 3) (cs := cur.toList) (by unfold Row; simpa using hg) i (.int .i64 z)
        unfold Row at this
        rw [this]
        congr 2
        apply Array.ext'
        simp
      · rw [ints_set, ← ht, Array.toList_setIfInBounds, List.take_set]
    · exact ⟨zs, h1, h0, .inr ⟨g', cap, cur, hv, hb, (Below.heap_setCell w ⟨g, i, none⟩ _ g' e).trans hg, hn, hm, hs, ht⟩⟩
theorem Cz.at_ {w : World} {base : Nat} {p : En × Value} {A : Option Addr} {n c k : Nat} (h : Cz w base p) (hv : p.2 = .slice A n c) (hk : k < p.1.load.length) : ∃ (g o : Nat) (z : Int), A = some ⟨g, o, none⟩ ∧ base ≤ g ∧ g < w.heap.size ∧ w.cell? ⟨g, o + k, none⟩ = some (.int .i64 z) ∧ w.frozen? ⟨g, o + k, none⟩ = false ∧ ∃ cs, Row w g 3 cs := by
  obtain ⟨zs, h1, h0, h2⟩ := h
  rcases h2 with ⟨h2, h3⟩ | ⟨g, cap, cur, hv2, hb, hg, hn, hm, hs, ht⟩
  · omega
  · rw [hv] at hv2
    injection hv2 with e1 e2 e3
    subst e1 e2
    have hr : Row w g 3 cur.toList := by unfold Row; simpa using hg
    obtain ⟨z, hz⟩ : ∃ z, zs[k]? = some z := ⟨_, List.getElem?_eq_getElem (by omega)⟩
    refine ⟨g, 0, z, rfl, hb, hr.lt, ?_, hr.soft _, _, hr⟩
    rw [Nat.zero_add, hr.cell k]
    have h5 := ints_some hz
    rw [← ht, List.getElem?_take] at h5
    split at h5
    · exact h5
    · cases h5
theorem OwnC.split {w : World} {base n : Nat} {t : TypeId} {v : Value} {L : List (En × Value)} (h : OwnC w base t v L) (hn : L.length = n) : (v = .slice none 0 0 ∧ L = [] ∧ n = 0) ∨ ∃ g cap, v = .slice (some ⟨g, 0, none⟩) n cap ∧ n ≤ cap ∧ ∀ j u, (enF L)[j]? = some u → w.cell? ((⟨g, 0, none⟩ : Addr).add j) = some u := by
  obtain ⟨⟨h0, h1⟩, _⟩ := h
  rw [hn] at h1
  rcases h1 with ⟨h2, h3⟩ | ⟨g, cap, cur, hv, hb, hg, hnc, hm, hs, ht⟩
  · exact .inl ⟨h2, List.eq_nil_of_length_eq_zero (by omega), h3⟩
  · refine .inr ⟨g, cap, hv, hnc, fun j u hu => ?_⟩
    rw [← ht, List.getElem?_take] at hu
    split at hu
    · rw [Addr.add_lit, Nat.zero_add, cell_of_row w g j cur _ (0, 0) hg]
      simpa using hu
    · cases hu
theorem enF_one {w : World} {base : Nat} {t : TypeId} {v : Value} : ∀ {L : List (En × Value)}, (∀ p ∈ L, p.2.oneCell' = true) → ∀ u ∈ enF L, u.oneCell' = true
  | [], _, u, hu => by cases hu
  | p :: L, h, u, hu => by
    rcases List.mem_append.1 hu with hu | hu
    · exact row19_one (h p List.mem_cons_self) u hu
    · exact enF_one (w := w) (base := base) (t := t) (v := v) (fun q hq => h q (List.mem_cons_of_mem _ hq)) u hu
theorem cp_one {w : World} {base : Nat} {p : En × Value} (h : Cp w base p) : p.2.oneCell' = true := ld_one h.ld

theorem app15_walk {P : Program} {w : World} {ops : Array Oper} {rest : List Oper} {o : Oper} {a : Act} {Q : Exit → Act → World → Prop} (hgd : o.guard = none) (s x : Operand) (t : TypeId)
    (ho : o.op = .call { callee := .builtin .append, args := #[s, x], argTypes := #[t, t] }) (base b2 : Nat) (e : TypeId) (i : TypeInfo) (z : Value) (size bytes : Nat) (ht : P.underlying t = some (.slice e)) (hi : P.info? e = some i) (hz : i.zero = some z)
    (hsize : i.size = size) (hby : i.bytes = bytes) (hzs : z.cells.size = size) (hpos : 0 < size) (v : Value) (n : Nat) (xs : List Value) (hs : a.eval s = v) (hown : w.ownsRow base e size v n xs)
    (v2 : Value) (m : Nat) (news : List Value) (hx : a.eval x = v2) (hown2 : w.ownsRow b2 e size v2 m news) (h1 : ∀ u ∈ news, u.oneCell' = true)
    (h63 : n + m ≤ maxLen) (hbytes : (n + m) * bytes ≤ 140737488355328) (hbase : base ≤ w.heap.size)
    (h : ∀ v' w', w'.ownsRow base e size v' (n + m) (xs ++ news) → w.grownBy w' v.ownBlock → wpList P ops Q rest (a.put o.dst v') w') : wpList P ops Q (o :: rest) a w := by
  obtain ⟨h0, h2⟩ := hown2
  rcases h2 with ⟨rfl, rfl⟩ | ⟨g, cap, cur, rfl, hb, hg, hn, hm, hcs, hct⟩
  · have hnil : news = [] := List.eq_nil_of_length_eq_zero (by omega)
    subst hnil
    refine wpList_append_own_none hgd s x t ho base e i size ht hi v n xs hs hown hx ?_
    exact h v w (by simpa using hown) (gr_refl _ _)
  · refine app19_walk hgd s x t ho base e i z size bytes ht hi hz hsize hby hzs hpos v n xs hs hown ⟨g, 0, none⟩ m cap news hx h0 (fun j u hu => ?_) h1 h63 hbytes hbase (fun v' w' h3 h4 _ => h v' w' h3 h4)
    rw [← hct, List.getElem?_take] at hu
    split at hu
    · rw [Addr.add_lit, Nat.zero_add, cell_of_row w g j cur _ (0, 0) hg]
      simpa using hu
    · cases hu

/-- As OfP, the slices written out. -/
def OfC (f t : Int) (l : List En) (w : World) (e : Ending) (w' : World) : Prop := ∃ A1 n1 c1 L1 A2 n2 c2 L2, e = .returned (.tuple #[.slice A1 n1 c1, .slice A2 n2 c2]) ∧ L1.map (·.1) = l.filter (sentB f t) ∧ L2.map (·.1) = l.filter (takenB f t) ∧ L1.length = n1 ∧ L2.length = n2 ∧ OwnC w' w.heap.size 38 (.slice A1 n1 c1) L1 ∧ OwnC w' w.heap.size 38 (.slice A2 n2 c2) L2 ∧ Below w.heap.size w w'
theorem OfP.c {f t : Int} {l : List En} {w : World} {e : Ending} {w' : World} (h : OfP f t l w e w') : OfC f t l w e w' := by
  obtain ⟨v1, v2, L1, L2, h1, h2, h3, h4, h5, h6⟩ := h
  obtain ⟨A1, c1, rfl⟩ := own19_open h4.1
  obtain ⟨A2, c2, rfl⟩ := own19_open h5.1
  exact ⟨A1, _, c1, L1, A2, _, c2, L2, h1, h2, h3, rfl, rfl, h4, h5, h6⟩

/-- The memory of the loop that writes. -/
structure Wr (w2 wr : World) (v : Value) (n : Nat) (L : List (En × Value)) : Prop where
  below : Below w2.heap.size w2 wr
  row : wr.ownsRow w2.heap.size 38 8 v n (enF L)
  each : ∀ p ∈ L, Cz wr w2.heap.size p
theorem Wr.quiet {w2 wr w' : World} {v : Value} {n : Nat} {L : List (En × Value)} (h : Wr w2 wr v n L) (hb : Below wr.heap.size wr w') : Wr w2 w' v n L :=
  ⟨below_on h.below hb, own19_below h.row hb, fun p hp => (h.each p hp).below hb⟩
theorem Wr.set {w2 wr : World} {v : Value} {n g i : Nat} {L : List (En × Value)} {cs : List Value} (h : Wr w2 wr v n L) (hg : w2.heap.size ≤ g) (hr : Row wr g 3 cs) (z : Int) : Wr w2 (wr.setCell ⟨g, i, none⟩ (.int .i64 z)) v n L where
  below := h.below.setCell hg _
  row := own19_only h.row ((Only.refl (· = g) wr).setCell (p := ⟨g, i, none⟩) (.inl rfl) _) (fun k hk e => by
    subst e
    rcases h.row.2 with ⟨h1, _⟩ | ⟨g', cap, cur, h1, _, hg', _⟩
    · rw [h1] at hk; cases hk
    · rw [h1] at hk
      simp only [Value.ownBlock, Option.some.injEq] at hk
      subst hk
      have h2 := hr.raw
      rw [hg'] at h2
      injection h2 with h2
      injection h2 with _ h2
      exact absurd h2 (by decide))
  each := fun p hp => (h.each p hp).set g i z
theorem Wr.at_ {w2 wr : World} {A : Option Addr} {n c k : Nat} {L : List (En × Value)} {p : En × Value} (h : Wr w2 wr (.slice A n c) n L) (hk : L[k]? = some p) : ∃ g o, A = some ⟨g, o, none⟩ ∧ g < wr.heap.size ∧ ∀ j u, (row19 p.1 p.2)[j]? = some u → wr.cell? ⟨g, o + k * 8 + j, none⟩ = some u := by
  obtain ⟨h0, h1⟩ := h.row
  rw [enF_len] at h0
  have hkl := lt_of_at hk
  rcases h1 with ⟨h2, h3⟩ | ⟨g, cap, cur, hv, hb, hg, hnc, hm, hs, ht⟩
  · omega
  · injection hv with e1 e2 e3
    subst e1
    refine ⟨g, 0, rfl, (Array.getElem?_eq_some_iff.1 hg).1, fun j u hu => ?_⟩
    rw [Nat.zero_add]
    have h5 := enF_at hk j u hu
    rw [← ht, List.getElem?_take] at h5
    split at h5
    · rw [cell_of_row wr g _ cur _ (0, 0) hg]
      simpa using h5
    · cases h5

set_option maxRecDepth 100000 in
set_option maxHeartbeats 4000000 in
theorem diaryOwn_any (f t : Int) (v : Value) (l : List En) (w0 : World) (hv : Ens w0 v l) (hm0 : l.length ≤ maxLen) :
    Calls Tryd.prog 6 #[v, .int .i64 f, .int .i64 t] w0 fun e w' => e = .returned (.bool true) ∧ Below w0.heap.size w0 w' := by
  obtain ⟨i0, hi0, hz0, hz1, hz2⟩ := info_parts entry_info
  obtain ⟨j0, hj0, hj1, hj2, hj3⟩ := info_parts int_info
  have KF := Lib.hid (few19_any 60 v l w0 hv hm0)
  obtain ⟨A, n, c, rfl, HN, HV0⟩ := hv.open_
  by_cases hf : few19 l 60 = true
  case neg =>
    have hf2 : few19 l 60 = false := by simpa using hf
    clear hv hf
    go_enter Tryd.func6, Tryd.ntmps6
    go_wp2_with (first
      | (go_at_call 7; (with_reducible refine (KF.out).mono ?_); rintro e w1 ⟨rfl, b1⟩; rw [hf2]; have B1 := Lib.hid b1; clear b1)
      | (go_at_call 8; (with_reducible refine (alive19_any w1).mono ?_); rintro e w12 ⟨rfl, b12⟩; have B12 := Lib.hid (below_on B1.out b12); clear b12))
    go_ret
    exact ⟨rfl, B12.out⟩
  obtain ⟨hm1, hl⟩ := few19_yes hf
  have hm : l.length ≤ 60 := by omega
  have hmn : n ≤ 60 := by rw [← HN.out]; exact hm
  have HLD := Lib.hid hl
  clear hv hm1
  go_enter Tryd.func6, Tryd.ntmps6
  go_wp2_with (first
    | (go_at_call 7; (with_reducible refine (KF.out).mono ?_); rintro e w1 ⟨rfl, b1⟩; rw [hf]; have B1 := Lib.hid b1; clear b1))
  have HV := Lib.hid (HV0.out.below B1.out)
  clear hf KF
  go_loopw [7, 25] (fun lv iv wr => ∃ (k : Nat) (B : Option Addr) (d : Nat) (L : List (En × Value)), k ≤ n ∧ iv = .int .i64 k ∧ lv = .slice B k d ∧ Hid (L.map (·.1) = l.take k) ∧ Hid (L.length = k) ∧ Hid (OwnC wr w1.heap.size 38 (.slice B k d) L) ∧ Hid (Below w1.heap.size w1 wr)) (fun _ iv _ => n + 1 - (intOf iv).toNat)
  case atStart => exact ⟨0, none, 0, [], Nat.zero_le _, rfl, rfl, Lib.hid rfl, Lib.hid rfl, Lib.hid ⟨World.ownsRow_nil _ _ _ _, fun p hp => by cases hp⟩, Lib.hid (Below.refl _ _)⟩
  case round =>
    obtain ⟨k, B, d, L, hk, rfl, rfl, HM, HLN, HO, HB⟩ := hrel
    by_cases hlt : k < n
    · obtain ⟨x, hx⟩ : ∃ x, l[k]? = some x := ⟨_, List.getElem?_eq_getElem (by rw [HN.out]; exact hlt)⟩
      obtain ⟨g, o, u, rfl, hg, hl1, c0, c1, c2, c3, c4, c5, c6, c7⟩ := (HV.out.below HB.out).cells hx
      have hlx := HLD.out x (List.mem_of_getElem? hx)
      obtain ⟨Au, nu, cu, rfl, HNU, HU⟩ := ld_open hl1
      rw [HNU.out] at hlx
      have hkn : (k : Int) < (n : Int) := by omega
      have HX := Lib.hid hx
      have R3 : Hid (Row (wr.alloc (.cells #[.int .i64 x.core, .int .i64 x.peer, .int .i64 x.kind, .int .i64 x.beg, .int .i64 x.fin, .int .i64 x.err, .slice Au nu cu, .int .i64 x.hnd] 38)) wr.heap.size 38 (row19 x (.slice Au nu cu))) := Lib.hid (Row.new wr 38 (row19 x (.slice Au nu cu)).toArray)
      have B3 : Hid (Below wr.heap.size wr (wr.alloc (.cells #[.int .i64 x.core, .int .i64 x.peer, .int .i64 x.kind, .int .i64 x.beg, .int .i64 x.fin, .int .i64 x.err, .slice Au nu cu, .int .i64 x.hnd] 38))) := Lib.hid (below_al _ _)
      have BE : Hid (Below (wr.heap.size + 1) (wr.alloc (.cells #[.int .i64 x.core, .int .i64 x.peer, .int .i64 x.kind, .int .i64 x.beg, .int .i64 x.fin, .int .i64 x.err, .slice Au nu cu, .int .i64 x.hnd] 38)) ((wr.alloc (.cells #[.int .i64 x.core, .int .i64 x.peer, .int .i64 x.kind, .int .i64 x.beg, .int .i64 x.fin, .int .i64 x.err, .slice Au nu cu, .int .i64 x.hnd] 38)).alloc (.cells #[] 3))) := Lib.hid (by have := below_al (wr.alloc (.cells #[.int .i64 x.core, .int .i64 x.peer, .int .i64 x.kind, .int .i64 x.beg, .int .i64 x.fin, .int .i64 x.err, .slice Au nu cu, .int .i64 x.hnd] 38)) (.cells #[] 3); rwa [size_al] at this)
      have OE : Hid (((wr.alloc (.cells #[.int .i64 x.core, .int .i64 x.peer, .int .i64 x.kind, .int .i64 x.beg, .int .i64 x.fin, .int .i64 x.err, .slice Au nu cu, .int .i64 x.hnd] 38)).alloc (.cells #[] 3)).ownsRow (wr.heap.size + 1) 3 1 (.slice (some ⟨wr.heap.size + 1, 0, none⟩) 0 0) 0 []) := Lib.hid (by have := own19_empty (wr.alloc (.cells #[.int .i64 x.core, .int .i64 x.peer, .int .i64 x.kind, .int .i64 x.beg, .int .i64 x.fin, .int .i64 x.err, .slice Au nu cu, .int .i64 x.hnd] 38)) 3 1; rwa [size_al] at this)
      have HU3 : Hid (Lies ((wr.alloc (.cells #[.int .i64 x.core, .int .i64 x.peer, .int .i64 x.kind, .int .i64 x.beg, .int .i64 x.fin, .int .i64 x.err, .slice Au nu cu, .int .i64 x.hnd] 38)).alloc (.cells #[] 3)) (fun _ => True) (.slice Au nu cu) (ints x.load)) := Lib.hid ((hl1.1.below B3.out).below (below_al _ _))
      have q6 : ((wr.alloc (.cells #[.int .i64 x.core, .int .i64 x.peer, .int .i64 x.kind, .int .i64 x.beg, .int .i64 x.fin, .int .i64 x.err, .slice Au nu cu, .int .i64 x.hnd] 38)).alloc (.cells #[] 3)).cell? ⟨wr.heap.size, 6, none⟩ = some (.slice Au nu cu) := (R3.out.below (below_al _ (.cells #[] 3))).cell 6
      have O7A := Lib.hid (fun (w5 : World) (A5 : Option Addr) (c5 : Nat) (h : OwnC (w5.setCell ⟨wr.heap.size, 6, none⟩ (.slice A5 nu c5)) w1.heap.size 38 (.slice B k d) L) => (show ((w5.setCell ⟨wr.heap.size, 6, none⟩ (.slice A5 nu c5)).alloc (.cells (row19 x (.slice A5 nu c5)).toArray 38)).ownsRow w1.heap.size 38 8 (.slice B k d) k (enF L) from by have := own19_below h.1 (below_al _ (.cells (row19 x (.slice A5 nu c5)).toArray 38)); rw [HLN.out] at this; exact this))
      have OI := Lib.hid (ints_one x.load)
      have hsz := HB.out.size
      clear hl1 hx
      go_wp2_with (first
          | (at_builtin; ((refine app19_walk rfl (.tmp 34) (.tmp 36) 22 rfl w1.heap.size 38 i0 _ 8 80 Tryd.underlying22 hi0 hz0 hz1 hz2 rfl (by omega) (.slice B k d) k (enF L) rfl (O7A.out w5 A5 c5 O6.out) ⟨w5.heap.size, 0, none⟩ 1 1 (row19 x (.slice A5 nu c5)) rfl rfl (cells_new19 (w5.setCell ⟨wr.heap.size, 6, none⟩ (.slice A5 nu c5)) (row19 x (.slice A5 nu c5)) 38 w5.heap.size (by simp)) (row19_one rfl) (by unfold maxLen; omega) (by omega) (by simp; omega) ?_); intro v7 w7 hown7 hg7 hat7; obtain ⟨g', cap', rfl, hbg, hlt'⟩ := hown7.form (by omega); have O7 := Lib.hid ((O6.out.below (below_al _ _)).more (P6.out.below (below_al _ _)) HLN.out hg7 hown7); have B7 : Hid (Below w1.heap.size w1 w7) := Lib.hid (below_own (below_on (below_on HB.out B6.out) (below_al _ _)) (by simp; omega) (O6.out.below (below_al _ _)).1 hg7); clear hown7 hg7 hat7))
          | (at_builtin; go_must ((refine app_walk _ rfl (.tmp 29) (.tmp 31) 36 rfl (wr.heap.size + 1) 3 j0 _ 8 Tryd.underlying36 hj0 hj1 hj2 hj3 rfl (.slice (some ⟨wr.heap.size + 1, 0, none⟩) 0 0) 0 [] rfl OE.out (fun _ => True) Au nu cu (ints x.load) rfl HU3.out HU.out.2 OI.out (by unfold maxLen; omega) (by omega) (by simp) ?_); intro v5 w5 hown5 hg5 hat5; rw [Nat.zero_add, List.nil_append] at hown5; obtain ⟨A5, c5, rfl⟩ := own19_open hown5; have b5 : Below (wr.heap.size + 1) (wr.alloc (.cells #[.int .i64 x.core, .int .i64 x.peer, .int .i64 x.kind, .int .i64 x.beg, .int .i64 x.fin, .int .i64 x.err, .slice Au nu cu, .int .i64 x.hnd] 38)) w5 := BE.out.grown hg5 (by simp) (by intro k hk; simp only [Value.ownBlock, Option.some.injEq] at hk; omega); have Q5 : Hid (Row w5 wr.heap.size 38 (row19 x (.slice Au nu cu))) := Lib.hid (R3.out.of_below b5 (by omega)); have B5 : Hid (Below wr.heap.size wr w5) := Lib.hid (B3.out.trans (b5.mono (by omega))); have O5 := Lib.hid (HO.out.below B5.out); have P5 := Lib.hid hown5; have s6' := Q5.out.soft 6; have Q6 : Hid (Row (w5.setCell ⟨wr.heap.size, 6, none⟩ (.slice A5 nu c5)) wr.heap.size 38 (row19 x (.slice A5 nu c5))) := Lib.hid (Q5.out.put 6 _); have W6 : Hid (Only (· = wr.heap.size) w5 (w5.setCell ⟨wr.heap.size, 6, none⟩ (.slice A5 nu c5))) := Lib.hid ((Only.refl (· = wr.heap.size) w5).setCell (p := ⟨wr.heap.size, 6, none⟩) (.inl rfl) _); have O6 := Lib.hid (O5.out.only W6.out (fun k' h e => by have := (HO.out.1.lt k' h).2; omega) (fun p hp k' h e => by have := ((HO.out.2 p hp).lt k' h).2; omega)); have P6 : Hid (Cp (w5.setCell ⟨wr.heap.size, 6, none⟩ (.slice A5 nu c5)) w1.heap.size (x, (.slice A5 nu c5))) := Lib.hid (own19_only (by rw [HNU.out]; exact own19_weak P5.out (by omega)) W6.out (fun k' h e => by have := (P5.out.lt k' h).1; omega)); have B6 := Lib.hid (Only.below B5.out W6.out (B5.out.size) (fun g hg e => by omega)); have hs6 := B5.out.size; have y0 : w5.cell? ⟨wr.heap.size, 0, none⟩ = some (.int .i64 x.core) := Q5.out.cell 0; have e0 : (w5.setCell ⟨wr.heap.size, 6, none⟩ (.slice A5 nu c5)).cell? ⟨wr.heap.size, 0, none⟩ = some (.int .i64 x.core) := Q6.out.cell 0; have y1 : w5.cell? ⟨wr.heap.size, 1, none⟩ = some (.int .i64 x.peer) := Q5.out.cell 1; have e1 : (w5.setCell ⟨wr.heap.size, 6, none⟩ (.slice A5 nu c5)).cell? ⟨wr.heap.size, 1, none⟩ = some (.int .i64 x.peer) := Q6.out.cell 1; have y2 : w5.cell? ⟨wr.heap.size, 2, none⟩ = some (.int .i64 x.kind) := Q5.out.cell 2; have e2 : (w5.setCell ⟨wr.heap.size, 6, none⟩ (.slice A5 nu c5)).cell? ⟨wr.heap.size, 2, none⟩ = some (.int .i64 x.kind) := Q6.out.cell 2; have y3 : w5.cell? ⟨wr.heap.size, 3, none⟩ = some (.int .i64 x.beg) := Q5.out.cell 3; have e3 : (w5.setCell ⟨wr.heap.size, 6, none⟩ (.slice A5 nu c5)).cell? ⟨wr.heap.size, 3, none⟩ = some (.int .i64 x.beg) := Q6.out.cell 3; have y4 : w5.cell? ⟨wr.heap.size, 4, none⟩ = some (.int .i64 x.fin) := Q5.out.cell 4; have e4 : (w5.setCell ⟨wr.heap.size, 6, none⟩ (.slice A5 nu c5)).cell? ⟨wr.heap.size, 4, none⟩ = some (.int .i64 x.fin) := Q6.out.cell 4; have y5 : w5.cell? ⟨wr.heap.size, 5, none⟩ = some (.int .i64 x.err) := Q5.out.cell 5; have e5 : (w5.setCell ⟨wr.heap.size, 6, none⟩ (.slice A5 nu c5)).cell? ⟨wr.heap.size, 5, none⟩ = some (.int .i64 x.err) := Q6.out.cell 5; have y6 : w5.cell? ⟨wr.heap.size, 6, none⟩ = some (.slice Au nu cu) := Q5.out.cell 6; have e6 : (w5.setCell ⟨wr.heap.size, 6, none⟩ (.slice A5 nu c5)).cell? ⟨wr.heap.size, 6, none⟩ = some (.slice A5 nu c5) := Q6.out.cell 6; have y7 : w5.cell? ⟨wr.heap.size, 7, none⟩ = some (.int .i64 x.hnd) := Q5.out.cell 7; have e7 : (w5.setCell ⟨wr.heap.size, 6, none⟩ (.slice A5 nu c5)).cell? ⟨wr.heap.size, 7, none⟩ = some (.int .i64 x.hnd) := Q6.out.cell 7; clear hown5 hg5 hat5 b5)))
      have F7 := Lib.hid (take_pairs (u := .slice A5 nu c5) HM.out HX.out)
      go_roundw
      case rel => exact ⟨k + 1, some ⟨g', 0, none⟩, cap', L ++ [(x, .slice A5 nu c5)], by omega, by go_num, rfl, F7, Lib.hid (by rw [List.length_append, HLN.out]; rfl), O7, B7⟩
      case measure => simp [intOf]; omega
    · obtain rfl : n = k := by omega
      have HML : Hid (L.map (·.1) = l) := Lib.hid (by rw [HM.out, ← HN.out, List.take_length])
      clear HM
      have HL2 : Hid (∀ x ∈ l, x.load.length ≤ 65536) := Lib.hid (fun x hx => by have := HLD.out x hx; omega)
      obtain ⟨ws, hws⟩ : ∃ ws, ws = wr := ⟨_, rfl⟩
      have HWS := Lib.hid hws
      clear hws
      have hk0 := HO.out.own.ens
      rw [HML.out] at hk0
      have HK : Hid (Ens ws (.slice B n d) l) := Lib.hid (by rw [HWS.out]; exact hk0)
      have HVr : Hid (Ens ws (.slice A n c) l) := Lib.hid (by rw [HWS.out]; exact HV.out.below HB.out)
      have KO := Lib.hid ((of19_any f t (.slice A n c) l wr (HV.out.below HB.out) (by omega) HLD.out).mono (fun _ _ h => h.c))
      have BR : Hid (Below w0.heap.size w0 ws) := Lib.hid (by rw [HWS.out]; exact below_on B1.out HB.out)
      clear hk0
      clear HO HLN HML
      go_wp2_with (first
        | (go_at_call 9; (with_reducible refine KO.out.mono ?_); rintro e w3 ⟨A1, n1, c1, L1, A2, n2, c2, L2, rfl, m1, m2, N1, N2, o1, o2, b3⟩; have M1 := Lib.hid m1; have M2 := Lib.hid m2; have HN1 := Lib.hid N1; have HN2 := Lib.hid N2; have O1 := Lib.hid o1; have O2 := Lib.hid o2; have B3 := Lib.hid b3; have l1 : n1 ≤ 60 := Nat.le_trans (Nat.le_of_eq (N1.symm.trans (pairs_len m1 rfl))) (filter_len hm _); have l2 : n2 ≤ 60 := Nat.le_trans (Nat.le_of_eq (N2.symm.trans (pairs_len m2 rfl))) (filter_len hm _); have R1 : Hid (w3.ownsRow wr.heap.size 38 8 (.slice A1 n1 c1) n1 (enF L1)) := Lib.hid (N1 ▸ o1.1); have R2 : Hid (w3.ownsRow wr.heap.size 38 8 (.slice A2 n2 c2) n2 (enF L2)) := Lib.hid (N2 ▸ o2.1); clear m1 m2 N1 N2 o1 o2 b3)
        | (at_builtin; go_must ((refine app15_walk rfl (.tmp 46) (.tmp 47) 22 rfl wr.heap.size wr.heap.size 38 i0 _ 8 80 Tryd.underlying22 hi0 hz0 hz1 hz2 rfl (by omega) (.slice A1 n1 c1) n1 (enF L1) rfl R1.out (.slice A2 n2 c2) n2 (enF L2) rfl R2.out (enF_one (w := w3) (base := 0) (t := 0) (v := undef) (fun p hp => cp_one (O2.out.2 p hp))) (by unfold maxLen; omega) (by omega) B3.out.size ?_); intro v4 w4 hown4 hg4; obtain ⟨N, hN⟩ : ∃ N, n1 + n2 = N := ⟨_, rfl⟩; rw [hN] at hown4; have hN120 : N ≤ 120 := Nat.le_trans (Nat.le_of_eq hN.symm) (Nat.add_le_add l1 l2); have HNL : Hid ((L1 ++ L2).length = N) := Lib.hid (by rw [List.length_append, HN1.out, HN2.out, hN]); obtain ⟨A4, k4, rfl⟩ := own19_open hown4; have W4 : Hid (Wr ws w4 (.slice A4 N k4) N (L1 ++ L2)) := Lib.hid (by rw [HWS.out]; exact ⟨below_own B3.out B3.out.size O1.out.1 hg4, by rw [enF_append]; exact hown4, fun p hp => by
            rcases List.mem_append.1 hp with hp | hp
            · exact ((O1.out.2 p hp).grown O1.out.1 (by decide) hg4).z
            · exact ((O2.out.2 p hp).grown O1.out.1 (by decide) hg4).z⟩); have HLA : Hid (∀ p ∈ L1 ++ L2, p.1.load.length ≤ 100) := Lib.hid (fun p hp => by
            rcases List.mem_append.1 hp with hp | hp
            · have h7 : p.1 ∈ L1.map (·.1) := List.mem_map_of_mem hp
              rw [M1.out] at h7
              exact HLD.out p.1 (List.mem_filter.1 h7).1
            · have h7 : p.1 ∈ L2.map (·.1) := List.mem_map_of_mem hp
              rw [M2.out] at h7
              exact HLD.out p.1 (List.mem_filter.1 h7).1); clear hown4 hg4 hN)))
      obtain ⟨ALL, hALL⟩ : ∃ ALL, L1 ++ L2 = ALL := ⟨_, rfl⟩
      rw [hALL] at W4 HNL HLA
      clear hALL O1 O2 R1 R2 M1 M2 KO
      go_loopw [50] (fun iv wt => ∃ k : Nat, k ≤ N ∧ iv = .int .i64 k ∧ Hid (Wr ws wt (.slice A4 N k4) N ALL)) (fun iv _ => N - (intOf iv).toNat)
      case atStart => exact ⟨0, Nat.zero_le _, rfl, W4⟩
      case round =>
        obtain ⟨k, hk, rfl, WT⟩ := hrel
        by_cases hlt2 : k < N
        · obtain ⟨p, hp⟩ : ∃ p, ALL[k]? = some p := ⟨_, List.getElem?_eq_getElem (by rw [HNL.out]; exact hlt2)⟩
          obtain ⟨x, u⟩ := p
          have hq100 := HLA.out _ (List.mem_of_getElem? hp)
          have HP := Lib.hid hp
          obtain ⟨g, o, rfl, hg, hcell⟩ := WT.out.at_ hp
          have hcz := WT.out.each _ (List.mem_of_getElem? hp)
          obtain ⟨zs, hz1, hz2⟩ := hcz
          obtain ⟨Ax, cx, hu⟩ := own19_open hz2
          obtain ⟨q, hq⟩ : ∃ q, x.load.length = q := ⟨_, rfl⟩
          have HQ := Lib.hid hq
          simp only at hu hq100
          rw [hq] at hu hq100
          subst hu
          have c0 : wr.cell? ⟨g, o + k * 8, none⟩ = some (.int .i64 x.core) := hcell 0 _ rfl
          have c1 : wr.cell? ⟨g, o + k * 8 + 1, none⟩ = some (.int .i64 x.peer) := hcell 1 _ rfl
          have c2 : wr.cell? ⟨g, o + k * 8 + 2, none⟩ = some (.int .i64 x.kind) := hcell 2 _ rfl
          have c3 : wr.cell? ⟨g, o + k * 8 + 3, none⟩ = some (.int .i64 x.beg) := hcell 3 _ rfl
          have c4 : wr.cell? ⟨g, o + k * 8 + 4, none⟩ = some (.int .i64 x.fin) := hcell 4 _ rfl
          have c5 : wr.cell? ⟨g, o + k * 8 + 5, none⟩ = some (.int .i64 x.err) := hcell 5 _ rfl
          have c6 : wr.cell? ⟨g, o + k * 8 + 6, none⟩ = some (.slice Ax q cx) := hcell 6 _ rfl
          have c7 : wr.cell? ⟨g, o + k * 8 + 7, none⟩ = some (.int .i64 x.hnd) := hcell 7 _ rfl
          have hkN : (k : Int) < (N : Int) := by omega
          have R5 : Hid (Row (wr.alloc (.cells #[.int .i64 x.core, .int .i64 x.peer, .int .i64 x.kind, .int .i64 x.beg, .int .i64 x.fin, .int .i64 x.err, .slice Ax q cx, .int .i64 x.hnd] 38)) wr.heap.size 38 (row19 x (.slice Ax q cx))) := Lib.hid (Row.new wr 38 (row19 x (.slice Ax q cx)).toArray)
          have WT5 := Lib.hid (WT.out.quiet (below_al wr (.cells #[.int .i64 x.core, .int .i64 x.peer, .int .i64 x.kind, .int .i64 x.beg, .int .i64 x.fin, .int .i64 x.err, .slice Ax q cx, .int .i64 x.hnd] 38)))
          obtain ⟨b, hb⟩ : ∃ b, wr.heap.size = b := ⟨_, rfl⟩
          clear hcell hz1 hz2 hp hq
          rw [hb] at R5
          go_wp2
          go_loopw [57] (fun jv wu => ∃ j : Nat, j ≤ q ∧ jv = .int .i64 j ∧ Hid (Row wu b 38 (row19 x (.slice Ax q cx))) ∧ Hid (Wr ws wu (.slice (some ⟨g, o, none⟩) N k4) N ALL)) (fun jv _ => q - (intOf jv).toNat)
          case atStart => exact ⟨0, Nat.zero_le _, rfl, R5, WT5⟩
          case round =>
            obtain ⟨j, hj, rfl, RB, WU⟩ := hrel
            by_cases hlt3 : j < q
            · obtain ⟨g2, o2, z, rfl, hb2, hg2, cz, fz, cs, hrow⟩ := (WU.out.each _ (List.mem_of_getElem? HP.out)).at_ rfl (show j < x.load.length by rw [HQ.out]; exact hlt3)
              have y6 : wr.cell? ⟨b, 6, none⟩ = some (.slice (some ⟨g2, o2, none⟩) q cx) := RB.out.cell 6
              have hjq : (j : Int) < (q : Int) := by omega
              have HR := Lib.hid hrow
              have HG2 := Lib.hid hb2
              clear hrow hb2
              go_wp2
              go_roundw
              case rel => exact ⟨j + 1, by omega, by go_num, Lib.hid (RB.out.far (p := ⟨g2, o2 + j, none⟩) (RB.out.ne HR.out (by decide)) _), Lib.hid (WU.out.set HG2.out HR.out _)⟩
              case measure => simp [intOf]; omega
            · obtain rfl : j = q := by omega
              go_wp2
              go_roundw
              case rel => exact ⟨k + 1, by omega, by go_num, WU⟩
              case measure => simp [intOf]; omega
        · obtain rfl : N = k := by omega
          have EZ := Lib.hid (HVr.out.below WT.out.below)
          have EK := Lib.hid (HK.out.below WT.out.below)
          have BZ := Lib.hid (below_on BR.out WT.out.below)
          have hm6 : l.length ≤ 60 := hm
          clear W4 HNL HLA
          go_wp2_with (first
            | (go_at_call 9; (with_reducible refine ((of19_any f t (.slice A n c) l wr EZ.out (by omega) HLD.out).mono (fun _ _ h => h.e)).mono ?_); rintro e w20 ⟨vc, vd, rfl, ec, ed, b20⟩; have EZ_w20 := Lib.hid (EZ.out.below b20); have EK_w20 := Lib.hid (EK.out.below b20); have EC_w20 := Lib.hid ec; have ED_w20 := Lib.hid ed; have B_w20 := Lib.hid (below_on BZ.out b20))
            | (go_at_call 11; (with_reducible refine (plain19_any (.slice B n d) l w20 EK_w20.out (by omega)).mono ?_); rintro e w21 ⟨vp, rfl, ep, b21⟩; have EZ_w21 := Lib.hid (EZ_w20.out.below b21); have EK_w21 := Lib.hid (EK_w20.out.below b21); have EC_w21 := Lib.hid (EC_w20.out.below b21); have ED_w21 := Lib.hid (ED_w20.out.below b21); have EP_w21 := Lib.hid ep; have B_w21 := Lib.hid (below_on B_w20.out b21))
            | (go_at_call 10; (with_reducible refine (rof19_any f t vp l w21 EP_w21.out (by omega)).mono ?_); rintro e w22 ⟨va, vb, rfl, ea, eb, b22⟩; have EZ_w22 := Lib.hid (EZ_w21.out.below b22); have EK_w22 := Lib.hid (EK_w21.out.below b22); have EC_w22 := Lib.hid (EC_w21.out.below b22); have ED_w22 := Lib.hid (ED_w21.out.below b22); have EP_w22 := Lib.hid (EP_w21.out.below b22); have EW_w22 := Lib.hid ea; have EX_w22 := Lib.hid eb; have B_w22 := Lib.hid (below_on B_w21.out b22))
            | (go_at_call 11; (with_reducible refine (plain19_any (.slice A n c) l w22 EZ_w22.out (by omega)).mono ?_); rintro e w23 ⟨vq, rfl, eq, b23⟩; have EZ_w23 := Lib.hid (EZ_w22.out.below b23); have EK_w23 := Lib.hid (EK_w22.out.below b23); have EC_w23 := Lib.hid (EC_w22.out.below b23); have ED_w23 := Lib.hid (ED_w22.out.below b23); have EW_w23 := Lib.hid (EW_w22.out.below b23); have EX_w23 := Lib.hid (EX_w22.out.below b23); have EQ_w23 := Lib.hid eq; have B_w23 := Lib.hid (below_on B_w22.out b23))
            | (go_at_call 11; (with_reducible refine (plain19_any (.slice B n d) l w23 EK_w23.out (by omega)).mono ?_); rintro e w24 ⟨vr, rfl, er, b24⟩; have EK_w24 := Lib.hid (EK_w23.out.below b24); have EC_w24 := Lib.hid (EC_w23.out.below b24); have ED_w24 := Lib.hid (ED_w23.out.below b24); have EW_w24 := Lib.hid (EW_w23.out.below b24); have EX_w24 := Lib.hid (EX_w23.out.below b24); have EQ_w24 := Lib.hid (EQ_w23.out.below b24); have ER_w24 := Lib.hid er; have B_w24 := Lib.hid (below_on B_w23.out b24))
            | (go_at_call 14; (with_reducible refine (rsame19_any l l vq vr w24 EQ_w24.out ER_w24.out (by omega) (by omega) HL2.out HL2.out).mono ?_); rintro e w25 ⟨rfl, b25⟩; have EC_w25 := Lib.hid (EC_w24.out.below b25); have ED_w25 := Lib.hid (ED_w24.out.below b25); have EW_w25 := Lib.hid (EW_w24.out.below b25); have EX_w25 := Lib.hid (EX_w24.out.below b25); have EQ_w25 := Lib.hid (EQ_w24.out.below b25); have ER_w25 := Lib.hid (ER_w24.out.below b25); rw [decide_eq_true (Eq.refl _)]; have B_w25 := Lib.hid (below_on B_w24.out b25))
            | (go_at_call 11; (with_reducible refine (plain19_any vc (l.filter (sentB f t)) w25 EC_w25.out (filter_len (by omega) _)).mono ?_); rintro e w26 ⟨vx, rfl, ex, b26⟩; have EC_w26 := Lib.hid (EC_w25.out.below b26); have ED_w26 := Lib.hid (ED_w25.out.below b26); have EW_w26 := Lib.hid (EW_w25.out.below b26); have EX_w26 := Lib.hid (EX_w25.out.below b26); have EG_w26 := Lib.hid ex; have B_w26 := Lib.hid (below_on B_w25.out b26))
            | (go_at_call 14; (with_reducible refine (rsame19_any (l.filter (sentB f t)) (l.filter (sentB f t)) vx va w26 EG_w26.out EW_w26.out (filter_len (by omega) _) (filter_len (by omega) _) (filter_load HL2.out _) (filter_load HL2.out _)).mono ?_); rintro e w27 ⟨rfl, b27⟩; have ED_w27 := Lib.hid (ED_w26.out.below b27); have EW_w27 := Lib.hid (EW_w26.out.below b27); have EX_w27 := Lib.hid (EX_w26.out.below b27); have EG_w27 := Lib.hid (EG_w26.out.below b27); rw [decide_eq_true (Eq.refl _)]; have B_w27 := Lib.hid (below_on B_w26.out b27))
            | (go_at_call 11; (with_reducible refine (plain19_any vd (l.filter (takenB f t)) w27 ED_w27.out (filter_len (by omega) _)).mono ?_); rintro e w28 ⟨vy, rfl, ey, b28⟩; have ED_w28 := Lib.hid (ED_w27.out.below b28); have EX_w28 := Lib.hid (EX_w27.out.below b28); have EH_w28 := Lib.hid ey; have B_w28 := Lib.hid (below_on B_w27.out b28))
            | (go_at_call 14; (with_reducible refine (rsame19_any (l.filter (takenB f t)) (l.filter (takenB f t)) vy vb w28 EH_w28.out EX_w28.out (filter_len (by omega) _) (filter_len (by omega) _) (filter_load HL2.out _) (filter_load HL2.out _)).mono ?_); rintro e w29 ⟨rfl, b29⟩; have EX_w29 := Lib.hid (EX_w28.out.below b29); have EH_w29 := Lib.hid (EH_w28.out.below b29); rw [decide_eq_true (Eq.refl _)]; have B_w29 := Lib.hid (below_on B_w28.out b29))
            | (go_at_call 8; (with_reducible refine (alive19_any w29).mono ?_); rintro e w30 ⟨rfl, b30⟩; have B_w30 := Lib.hid (below_on B_w29.out b30)))
          go_ret
          exact ⟨rfl, B_w30.out⟩

#print axioms diaryOwn_any
end Go.Proofs.YtikjokhpombjjaaDoor
