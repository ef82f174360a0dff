/-
  Layer 7 (litmus): ends: the search through all states.
  Conditions: those that each theorem states.
-/
import Derived.Test.YtgljgpllooehkaaLit10
import Derived.Deep.DeepMust
namespace Go.Proofs.Ytgljgpllooehkaa
open Go.ChangeShapes Go.WideShapes Go.ChangeAt Go.RowKit Go.Maps

theorem Sts.kept {w w' : World} {base : Nat} {v : Value} {ts : List St} {row : Option Nat} (h : Sts w base v ts) (hg : w.grownBy w' row) (hn : ∀ k, v.ownBlock = some k → row ≠ some k) : Sts w' base v ts :=
  own_only h (S := fun b => row = some b) ⟨hg.os, hg.tape, hg.output, hg.size, fun k hk hne => hg.block k hk (fun e => hne e.symm)⟩ (fun k hk e => hn k hk e)

theorem Sts.below {w w' : World} {base : Nat} {v : Value} {ts : List St} (h : Sts w base v ts) (hb : Below w.heap.size w w') : Sts w' base v ts := h.kept (gr_below hb none) (fun _ _ => by simp)

theorem Sts.mono {w : World} {base base' : Nat} {v : Value} {ts : List St} (h : Sts w base v ts) (hb : base' ≤ base) : Sts w base' v ts := by
  refine ⟨h.1, ?_⟩
  rcases h.2 with h2 | ⟨g, cap, cur, rfl, hg, r⟩
  · exact .inl h2
  · exact .inr ⟨g, cap, cur, rfl, Nat.le_trans hb hg, r⟩

/-- A list of states as a slice. -/
theorem Sts.open_ {w : World} {base : Nat} {v : Value} {ts : List St} (h : Sts w base v ts) : ∃ A c, v = .slice A ts.length c := by
  rcases h.2 with ⟨rfl, h0⟩ | ⟨g, cap, cur, rfl, _⟩
  · exact ⟨none, 0, by rw [h0]⟩
  · exact ⟨_, _, rfl⟩

theorem Sts.lt {w : World} {base : Nat} {v : Value} {ts : List St} (h : Sts w base v ts) : ∀ k, v.ownBlock = some k → k < w.heap.size := by
  intro k hk
  rcases h.2 with ⟨rfl, _⟩ | ⟨g, cap, cur, rfl, _, hg, _⟩
  · cases hk
  · injection hk with hk; subst hk; exact (Array.getElem?_eq_some_iff.1 hg).1

theorem stsL_at : ∀ {ts : List St} {k : Nat} {t : St}, (∀ u ∈ ts, Shape u) → ts[k]? = some t → ∀ j x, (stL t)[j]? = some x → (stsL ts)[k * 46 + j]? = some x
  | [], k, t, _, h, _, _, _ => by simp at h
  | u :: ts, 0, t, hs, h, j, x, hx => by
    obtain rfl : u = t := by simpa using h
    have hl := stL_len (hs u (by simp))
    have hj := (List.getElem?_eq_some_iff.1 hx).1
    simp only [stsL, List.flatMap_cons, Nat.zero_mul, Nat.zero_add]
    rw [List.getElem?_append_left hj]
    exact hx
  | u :: ts, k + 1, t, hs, h, j, x, hx => by
    have hl := stL_len (hs u (by simp))
    have ih := stsL_at (ts := ts) (k := k) (t := t) (fun y hy => hs y (by simp [hy])) (by simpa using h) j x hx
    simp only [stsL, List.flatMap_cons] at ih ⊢
    rw [List.getElem?_append_right (by omega), hl, show (k + 1) * 46 + j - 46 = k * 46 + j by omega]
    exact ih

/-- State number k of a list. -/
theorem Sts.at_ {w : World} {base : Nat} {v : Value} {ts : List St} {k : Nat} {t : St} (h : Sts w base v ts) (hs : ∀ u ∈ ts, Shape u) (hk : ts[k]? = some t) :
    ∃ g c, v = .slice (some ⟨g, 0, none⟩) ts.length c ∧ ts.length ≤ c ∧ base ≤ g ∧ g < w.heap.size ∧ ∀ j u, (ints (stL t))[j]? = some u → w.cell? ((⟨g, k * 46, none⟩ : Addr).add j) = some u := by
  have hlt := (List.getElem?_eq_some_iff.1 hk).1
  rcases h.2 with ⟨rfl, h0⟩ | ⟨g, cap, cur, rfl, hb, hg, hn, hm, hz, ht⟩
  · omega
  · refine ⟨g, cap, rfl, hn, hb, (Array.getElem?_eq_some_iff.1 hg).1, fun j u hu => ?_⟩
    rw [Addr.add_lit, cell_of_row w g _ cur _ (0, 0) hg]
    simp only [ints, List.getElem?_map, Option.map_eq_some_iff] at hu
    obtain ⟨x, hx, rfl⟩ := hu
    have h1 := stsL_at hs hk j x hx
    have h2 : (ints (stsL ts))[k * 46 + j]? = some (.int .i64 x) := ints_some h1
    rw [← ht, List.getElem?_take] at h2
    split at h2
    · simpa using h2
    · cases h2

/-- The list without its last state. -/
theorem Sts.pop {w : World} {base : Nat} {g n c : Nat} {W : List St} {s : St} (h : Sts w base (.slice (some ⟨g, 0, none⟩) n c) (W ++ [s])) (hs : ∀ u ∈ W ++ [s], Shape u) : Sts w base (.slice (some ⟨g, 0, none⟩) W.length c) W := by
  have hl := stsL_len (ts := W) (fun u hu => hs u (by simp [hu]))
  refine ⟨by rw [ints_len, hl], ?_⟩
  rcases h.2 with ⟨e, _⟩ | ⟨g', cap, cur, e, hb, hg, hn, hm, hz, ht⟩
  · cases e
  · injection e with e1 e2 e3
    injection e1 with e1
    injection e1 with e1
    subst e1 e3
    simp only [List.length_append, List.length_singleton] at hn ht
    refine .inr ⟨g, c, cur, rfl, hb, hg, by omega, hm, hz, ?_⟩
    have : (cur.toList.take ((W.length + 1) * 46)).take (W.length * 46) = cur.toList.take (W.length * 46) := by
      rw [List.take_take]; congr 1; omega
    rw [← this, ht, stsL_snoc, ints_append, List.take_append_of_le_length (by rw [ints_len, hl]; omega), List.take_of_length_le (by rw [ints_len, hl]; omega)]

/-- A list of one state. -/
theorem Sts.one {w : World} {base g : Nat} {s : St} (h : StAt w g s) (hs : Shape s) (hb : base ≤ g) : Sts w base (.slice (some ⟨g, 0, none⟩) 1 1) [s] := by
  have hl := stL_len hs
  have e : stsL [s] = stL s := by simp [stsL]
  refine ⟨by rw [e, ints_len, hl]; rfl, .inr ⟨g, 1, (ints (stL s)).toArray, rfl, hb, h, Nat.le_refl _, by unfold maxLen; omega, by simp [ints_len, hl], ?_⟩⟩
  rw [e]
  simp only [List.length_singleton, Nat.one_mul]
  exact List.take_of_length_le (by rw [ints_len, hl]; omega)

/-- The search in memory, between two states. -/
structure SrchAt (w w' : World) (p : List (List Opn)) (N : Nat) (seen W E : List St) (n : Nat) (wv ev : Value) (bm : Nat) : Prop where
  srch : Srch p N seen W E n
  wst : Sts w' w.heap.size wv W
  est : Sts w' w.heap.size ev E
  set : SetAt w' bm seen
  below : Below w.heap.size w w'
  new : w.heap.size ≤ bm
  apart : ∀ k, wv.ownBlock = some k → ev.ownBlock ≠ some k

/-- The search in memory, while the steps of a state are looked through. -/
structure LookAt (w w' : World) (p : List (List Opn)) (N : Nat) (s : St) (k : Nat) (seen W E : List St) (n : Nat) (wv ev : Value) (bm : Nat) (av : Value) : Prop where
  look : Look p N s k seen W E n
  wst : Sts w' w.heap.size wv W
  est : Sts w' w.heap.size ev E
  set : SetAt w' bm seen
  below : Below w.heap.size w w'
  new : w.heap.size ≤ bm
  apart : ∀ k, wv.ownBlock = some k → ev.ownBlock ≠ some k
  ast : Sts w' w.heap.size av (stepsS p N s)
  apart2 : ∀ k, wv.ownBlock = some k → av.ownBlock ≠ some k

theorem LookAt.quiet {w w' w'' : World} {p : List (List Opn)} {N : Nat} {s : St} {k : Nat} {seen W E : List St} {n : Nat} {wv ev : Value} {bm : Nat} {av : Value} (h : LookAt w w' p N s k seen W E n wv ev bm av) (hb : Below w'.heap.size w' w'') : LookAt w w'' p N s k seen W E n wv ev bm av :=
  ⟨h.look, h.wst.below hb, h.est.below hb, h.set.below hb, h.below.trans (hb.mono h.below.size), h.new, h.apart, h.ast.below hb, h.apart2⟩

theorem LookAt.old {w w' : World} {p : List (List Opn)} {N : Nat} {s t : St} {k : Nat} {seen W E : List St} {n : Nat} {wv ev : Value} {bm : Nat} {av : Value} (h : LookAt w w' p N s k seen W E n wv ev bm av) (hk : (stepsS p N s)[k]? = some t) (ht : t ∈ seen) : LookAt w w' p N s (k + 1) seen W E n wv ev bm av :=
  ⟨h.look.old hk ht, h.wst, h.est, h.set, h.below, h.new, h.apart, h.ast, h.apart2⟩

/-- The set has grown. -/
theorem LookAt.mid {w w1 w2 w3 : World} {p : List (List Opn)} {N : Nat} {s : St} {k : Nat} {seen W E D : List St} {n : Nat} {wv ev : Value} {bm : Nat} {av : Value} (h : LookAt w w1 p N s k seen W E n wv ev bm av) (hs : SetAt w2 bm D) (hg : w1.grownBy w2 (some bm)) (hb : Below w2.heap.size w2 w3) :
    Sts w3 w.heap.size wv W ∧ Sts w3 w.heap.size ev E ∧ Sts w3 w.heap.size av (stepsS p N s) ∧ SetAt w3 bm D ∧ Below w.heap.size w w3 := by
  have k1 : ∀ {v : Value} {ts : List St}, Sts w1 w.heap.size v ts → Sts w3 w.heap.size v ts := fun hv =>
    (hv.kept hg (fun k hk e => h.set.ne hv (by injection e with e; rw [hk, e]))).below hb
  refine ⟨k1 h.wst, k1 h.est, k1 h.ast, hs.below hb, ?_⟩
  have := h.below.grown hg h.below.size (fun k e => by injection e with e; rw [← e]; exact h.new)
  exact this.trans (hb.mono this.size)

theorem LookAt.more {w w1 w2 w3 w4 : World} {p : List (List Opn)} {N : Nat} {s t : St} {k : Nat} {seen W E : List St} {n : Nat} {wv wv' ev : Value} {bm : Nat} {av : Value} (h : LookAt w w1 p N s k seen W E n wv ev bm av) (hR : RightS p (N : Int)) (hk : (stepsS p N s)[k]? = some t) (ht : t ∉ seen)
    (hs : SetAt w2 bm (seen ++ [t])) (hg : w1.grownBy w2 (some bm)) (hb : Below w2.heap.size w2 w3) (hst : Sts w4 w.heap.size wv' (W ++ [t])) (hg4 : w3.grownBy w4 wv.ownBlock) (hl : wv'.ownBlock = wv.ownBlock ∨ wv'.ownBlock = some w3.heap.size) : LookAt w w4 p N s (k + 1) (seen ++ [t]) (W ++ [t]) E n wv' ev bm av := by
  obtain ⟨m1, m2, m3, m4, m5⟩ := h.mid hs hg hb
  have far : ∀ {v : Value} {ts : List St}, Sts w3 w.heap.size v ts → (∀ k, wv.ownBlock = some k → v.ownBlock ≠ some k) → (∀ k, wv'.ownBlock = some k → v.ownBlock ≠ some k) := by
    intro v ts hv ha k hk e
    rcases hl with hl | hl
    · exact ha k (hl ▸ hk) e
    · rw [hl] at hk
      injection hk with hk
      have := hv.lt k e
      omega
  refine ⟨h.look.new hR hk ht, hst, m2.kept hg4 (fun k hk e => h.apart k e hk), m4.kept hg4 (fun e => m4.ne m1 e.symm), ?_, h.new, far m2 h.apart, m3.kept hg4 (fun k hk e => h.apart2 k e hk), far m3 h.apart2⟩
  exact m5.grown hg4 m5.size (own_base m1)

theorem LookAt.all {w w' : World} {p : List (List Opn)} {N : Nat} {s : St} {k : Nat} {seen W E : List St} {n : Nat} {wv ev : Value} {bm : Nat} {av : Value} (h : LookAt w w' p N s k seen W E n wv ev bm av) (hk : (stepsS p N s).length ≤ k) : SrchAt w w' p N seen W E n wv ev bm :=
  ⟨h.look.all hk, h.wst, h.est, h.set, h.below, h.new, h.apart⟩

/-- A set's block is no block known whole. -/
theorem SetAt.row_ne {w : World} {b g : Nat} {D : List St} {t : TypeId} {cs : List Value} (h : SetAt w b D) (hr : Row w g t cs) : b ≠ g := by
  rintro rfl
  obtain ⟨es, clock, hb, _⟩ := h
  unfold Row at hr
  rw [hb] at hr
  cases hr

/-- A state has been taken from the list, and its steps are there. -/
theorem SrchAt.enter {w w' x2 x3 : World} {p : List (List Opn)} {N : Nat} {seen W W0 E : List St} {n cnt : Nat} {wv wv0 ev av : Value} {bm : Nat} {s : St} (h : SrchAt w w' p N seen W E n wv ev bm) (hp : Sts w' w.heap.size wv0 W0) (hwv : wv0.ownBlock = wv.ownBlock)
    (hb : Below w'.heap.size w' x2) (ha : Acc x2 x3 av (stepsS p N s)) (hl : Look p N s 0 seen W0 E cnt) : LookAt w x3 p N s 0 seen W0 E cnt wv0 ev bm av := by
  have hb3 : Below w'.heap.size w' x3 := below_on hb ha.below
  refine ⟨hl, hp.below hb3, h.est.below hb3, h.set.below hb3, h.below.trans (hb3.mono h.below.size), h.new, fun k hk => h.apart k (hwv ▸ hk), ha.own.mono (Nat.le_trans h.below.size hb.size), ?_⟩
  intro k hk e
  have h1 := hp.lt k hk
  have h2 := own_base ha.own k e
  have h3 := hb.size
  omega

/-- The same, where the state has ended. -/
theorem SrchAt.enterE {w w' x2 x3 x4 x5 : World} {p : List (List Opn)} {N : Nat} {seen W W0 E E' : List St} {n cnt : Nat} {wv wv0 ev ev' av : Value} {bm : Nat} {s : St} (h : SrchAt w w' p N seen W E n wv ev bm) (hp : Sts w' w.heap.size wv0 W0) (hwv : wv0.ownBlock = wv.ownBlock)
    (hb : Below w'.heap.size w' x2) (ha : Acc x2 x3 av (stepsS p N s)) (hb4 : Below x3.heap.size x3 x4) (hs5 : Sts x5 w.heap.size ev' E') (hg5 : x4.grownBy x5 ev.ownBlock) (hl5 : ev'.ownBlock = ev.ownBlock ∨ ev'.ownBlock = some x4.heap.size) (hl : Look p N s 0 seen W0 E' cnt) :
    LookAt w x5 p N s 0 seen W0 E' cnt wv0 ev' bm av := by
  have hb3 : Below w'.heap.size w' x3 := below_on hb ha.below
  have hbx : Below w'.heap.size w' x4 := below_on hb3 hb4
  have hbw : Below w.heap.size w x4 := h.below.trans (hbx.mono h.below.size)
  have hav : Sts x4 w.heap.size av (stepsS p N s) := (ha.own.mono (Nat.le_trans h.below.size hb.size)).below hb4
  have s3 := hb.size
  refine ⟨hl, (hp.below hbx).kept hg5 (fun k hk e => h.apart k (hwv ▸ hk) e), hs5, (h.set.below hbx).kept hg5 (fun e => h.set.ne h.est e.symm), hbw.grown hg5 hbw.size (own_base h.est), h.new, ?_, hav.kept hg5 (fun k hk e => ?_), ?_⟩
  · intro k hk e
    rcases hl5 with hl5 | hl5
    · exact h.apart k (hwv ▸ hk) (hl5 ▸ e)
    · rw [hl5] at e
      injection e with e
      have h1 := hp.lt k hk
      have h2 := hbx.size
      omega
  · have h1 := h.est.lt k e
    have h2 := own_base ha.own k hk
    omega
  · intro k hk e
    have h1 := hp.lt k hk
    have h2 := own_base ha.own k e
    omega

theorem set_made (w : World) : SetAt (w.alloc (.map #[] 0)) w.heap.size [] := World.ownsMap_made w Try.prog 58 (unitElem (H := Unit))

/-- What ends leaves. -/
def EndsP (p : List (List Opn)) (N : Nat) (w : World) (e : Ending) (w' : World) : Prop := ∃ v E, e = .returned v ∧ EndsOf p N E ∧ Sts w' w.heap.size v E ∧ Below w.heap.size w w'

theorem snoc_cases {α : Type} (l : List α) : l = [] ∨ ∃ a x, l = a ++ [x] := by
  rcases List.eq_nil_or_concat l with h | ⟨a, x, h⟩
  · exact .inl h
  · exact .inr ⟨a, x, by simpa using h⟩

theorem st0_zero : List.replicate 46 (0 : Int) = stL st0 := by decide

/-- What holds at the label. -/
def AtNext (w : World) (p : List (List Opn)) (N : Nat) (A : Option Addr) (m cc : Nat) (n : Nat) (a' : Act) (w' : World) : Prop :=
  ∃ (seen W E : List St) (cnt : Nat) (wA : Option Addr) (wn wc : Nat) (ev : Value) (bm b0 : Nat) (u9 u10 u11 u12 u13 u14 u15 u16 u17 u18 u19 u20 u21 u22 u23 u24 u25 u26 u27 u28 u29 u30 u31 u32 u33 u34 u35 u36 u37 u38 u39 u40 u41 u42 u43 u44 u45 u46 u47 u48 u49 u50 u51 u52 u53 u54 u55 u56 u57 u58 u59 u60 u61 u62 u63 u64 u65 u66 u67 : Value), a' = { tmps := #[.slice A m cc, .int .i64 (N : Int), undef, undef, .slice none 0 0, .pointer (some ⟨b0, 0, none⟩), ev, .slice wA wn wc, .map (some bm), u9, u10, u11, u12, u13, u14, u15, u16, u17, u18, u19, u20, u21, u22, u23, u24, u25, u26, u27, u28, u29, u30, u31, u32, u33, u34, u35, u36, u37, u38, u39, u40, u41, u42, u43, u44, u45, u46, u47, u48, u49, u50, u51, u52, u53, u54, u55, u56, u57, u58, u59, u60, u61, u62, u63, u64, u65, u66, u67], defers := [] } ∧ Hid (SrchAt w w' p N seen W E cnt (.slice wA wn wc) ev bm) ∧ Hid (W.length = wn) ∧ Hid (n = most - cnt)

set_option maxRecDepth 100000 in
set_option maxHeartbeats 4000000 in
theorem ends_any (N : Nat) (v : Value) (p : List (List Opn)) (w : World) (hR : RightS p (N : Int)) (hp : Prg w v p) :
    Calls Try.prog 22 #[v, .int .i64 (N : Int)] w (EndsP p N w) := by
  have hp0 := hp
  obtain ⟨A, cc, rfl, hA⟩ := hp0
  clear hA
  obtain ⟨m, hm⟩ : ∃ m, p.length = m := ⟨_, rfl⟩
  rw [hm] at hp ⊢
  have HP := Lib.hid hp
  have HR := Lib.hid hR
  have HM := Lib.hid hm
  clear hp hR hm
  go_enter Try.func22, Try.ntmps22
  go_wp2
  refine wp_scope_ghost 0 (AtNext w p N A m cc) rfl ?pass ?first
  case pass =>
    rintro n a' w' ⟨seen, W, E, cnt, wA, wn, wc, ev, bm, b0, u9, u10, u11, u12, u13, u14, u15, u16, u17, u18, u19, u20, u21, u22, u23, u24, u25, u26, u27, u28, u29, u30, u31, u32, u33, u34, u35, u36, u37, u38, u39, u40, u41, u42, u43, u44, u45, u46, u47, u48, u49, u50, u51, u52, u53, u54, u55, u56, u57, u58, u59, u60, u61, u62, u63, u64, u65, u66, u67, rfl, HS, HW, HN⟩
    rcases snoc_cases W with rfl | ⟨W0, s, rfl⟩
    · obtain rfl : 0 = wn := HW.out
      go_wp2
      simp only [Exit.jump]
      go_ret
      exact ⟨_, E, rfl, HS.out.srch.ends, HS.out.est, HS.out.below⟩
    · have shW : ∀ u ∈ W0 ++ [s], Shape u := fun u hu => ((HS.out.srch.reach u (HS.out.srch.wsub u hu)).ok HR.out).sh
      obtain ⟨g, c1, hv, hcap, _, hgl, hcell⟩ := HS.out.wst.at_ shW (k := W0.length) (t := s) (by simp)
      injection hv with e1 e2 e3
      subst e1 e3
      obtain ⟨wl, hwl⟩ : ∃ wl, W0.length = wl := ⟨_, rfl⟩
      rw [hwl] at hcell
      obtain rfl : wl + 1 = wn := by have := HW.out; rw [List.length_append, hwl] at this; simpa using this
      have oks : StOk p N s := (HS.out.srch.reach s (HS.out.srch.wsub s (by simp))).ok HR.out
      have HCELLS := Lib.hid hcell
      have OKS := Lib.hid oks
      have hL := stL_len oks.sh
      have SZ : Hid ((Try.prog.info? 58).map (·.size) = some (ints (stL s)).length) := Lib.hid (by rw [ints_len, hL]; exact state_size)
      have ZL : Hid ((ints (List.replicate 46 0)).length = (ints (stL s)).length) := Lib.hid (by rw [ints_len, ints_len, hL, List.length_replicate])
      have LE : Hid ((ints (stL s)).length = 46) := Lib.hid (by rw [ints_len, hL])
      have LEN : Hid (E.length ≤ 100000000000) := Lib.hid (by have h1 := HS.out.srch.bound; have h2 := HS.out.srch.esize; unfold most at h1; omega)
      have SHS : Hid (∀ u ∈ stepsS p N s, Shape u) := Lib.hid (fun u hu => (oks.step HR.out hu).sh)
      have pop := HS.out.wst.pop shW
      rw [hwl] at pop
      have POP := Lib.hid pop
      have hsm : wl < 14000000000 := by rw [← hwl]; have h1 := HS.out.srch.bound; have h2 := weight_len p (W0 ++ [s]); rw [List.length_append, List.length_singleton] at h2; unfold most at h1; omega
      have hcap' : wl + 1 ≤ wc := by rw [← hwl]; simpa using hcap
      have b1 : (((wl : Int) + 1) == 0) = false := by simp; omega
      have TK := Lib.hid (HS.out.srch.take HR.out)
      clear hcell oks hL e2 hcap shW hgl pop
      have HWL := Lib.hid hwl
      clear hwl
      by_cases h0 : stepsS p N s = []
      · have H0 := Lib.hid h0
        clear h0
        go_wp2_with (first
          | (with_reducible refine load_walk rfl 58 (.tmp 29) rfl ⟨g, wl * 46, none⟩ rfl (ints (stL s)) state_struct SZ.out HCELLS.out ?_)
          | ((with_reducible refine alloc_walk (o := ⟨some 9, _, _, _, _, _⟩) rfl 58 rfl _ state_zero ?_); intro x1 rx1 bx1 zx1; clear zx1)
          | ((with_reducible refine storeRow_walk rfl 58 (.tmp 9) (.tmp 30) rfl w'.heap.size rfl (ints (stL s)) rfl SZ.out 58 (ints (List.replicate 46 0)) rx1 ZL.out (ints_one _) ?_); intro x2 rx2 ox2 zx2; have BX := Lib.hid (Only.below bx1 ox2 bx1.size (fun g hg => Nat.ne_of_lt hg)); have SX := Lib.hid (show StAt x2 w'.heap.size s from rx2); clear zx2 ox2 rx1 bx1 rx2))
        refine (steps_any w'.heap.size N s (.slice A m cc) p x2 SX.out OKS.out HR.out (HP.out.below (below_on HS.out.below BX.out))).mono ?_
        rintro e x3 ⟨av, rfl, ax⟩
        obtain ⟨aA, ac, rfl⟩ := ax.own.open_
        obtain ⟨an, han⟩ : ∃ an, (stepsS p N s).length = an := ⟨_, rfl⟩
        rw [han] at ax ⊢
        have HAN := Lib.hid han
        have AX := Lib.hid ax
        have han6 : an ≤ 6 := by rw [← han]; exact steps_len HR.out s
        clear ax han
        have RX3 : Hid (Row x3 w'.heap.size 58 (ints (stL s))) := Lib.hid (Row.below SX.out AX.out.below)
        have hz : an = 0 := by rw [← HAN.out, H0.out]; rfl
        have b2 : ((an : Int) == 0) = true := by rw [hz]; rfl
        clear hz
        go_wp2_with (first
          | (with_reducible refine loadRow_walk (o := ⟨some 43, _, _, _, _, _⟩) rfl 58 (.tmp 9) rfl w'.heap.size rfl (ints (stL s)) state_struct SZ.out 58 RX3.out ?_)
          | ((with_reducible refine one_walk rfl 49 58 (.tmp 43) rfl (ints (stL s)) rfl Try.underlying49 46 state_one LE.out (by omega) (by omega) ?_); intro x4 rx4 bx4 zx4; clear zx4; have S4 := Lib.hid (show StAt x4 x3.heap.size s from rx4); have B4 := Lib.hid (below_on (below_on BX.out AX.out.below) bx4); have B34 := Lib.hid bx4; clear rx4 bx4)
          | (at_builtin; go_must ((with_reducible refine appS_walk rfl (.tmp 42) (.tmp 44) rfl w.heap.size ev E rfl (HS.out.est.below B4.out) LEN.out x3.heap.size rfl s OKS.out.sh S4.out (Nat.le_trans HS.out.below.size B4.out.size) ?_); intro ev5 x5 s5 g5 l5; have S5 := Lib.hid s5; have G5 := Lib.hid g5; have L5 := Lib.hid l5; clear s5 g5 l5)))
        have LK := Lib.hid (HS.out.enterE (W0 := W0) POP.out rfl BX.out AX.out B34.out S5.out G5.out L5.out (by have := TK.out; rw [if_pos H0.out] at this; exact this))
        have LK : Hid (LookAt w x5 p N s 0 seen W0 (if stepsS p N s = [] then E ++ [s] else E) (cnt + 1) (.slice (some ⟨g, 0, none⟩) wl wc) ev5 bm (.slice aA an ac)) := Lib.hid (by rw [if_pos H0.out]; exact LK.out)
        go_loopw [7, 48] (fun wv idx wr => ∃ (k : Nat) (wA' : Option Addr) (wn' wc' : Nat), k ≤ an ∧ idx = .int .i64 k ∧ wv = .slice wA' wn' wc' ∧ Hid (∃ seen' W', LookAt w wr p N s k seen' W' (if stepsS p N s = [] then E ++ [s] else E) (cnt + 1) (.slice wA' wn' wc') ev5 bm (.slice aA an ac) ∧ W'.length = wn')) (fun _ idx _ => an - (intOf idx).toNat)
        case atStart => exact ⟨0, _, _, _, Nat.zero_le _, rfl, rfl, Lib.hid ⟨seen, W0, LK.out, HWL.out⟩⟩
        case round =>
          obtain ⟨k, wA', wn', wc', hk, rfl, rfl, HK⟩ := hrel
          obtain ⟨seen', W', hl, hwn⟩ := HK.out
          by_cases hlt : k < an
          · obtain ⟨t, ht⟩ : ∃ t, (stepsS p N s)[k]? = some t := ⟨_, List.getElem?_eq_getElem (by rw [HAN.out]; exact hlt)⟩
            obtain ⟨ag, ac', hav, _, _, hagl, hcell⟩ := hl.ast.at_ SHS.out ht
            injection hav with e1 e2 e3
            subst e1
            have sht : Shape t := SHS.out t (List.mem_of_getElem? ht)
            have HSH := Lib.hid sht
            have LL := Lib.hid hl
            have HT := Lib.hid ht
            have HCELL := Lib.hid hcell
            have SZT : Hid ((Try.prog.info? 58).map (·.size) = some (ints (stL t)).length) := Lib.hid (by rw [ints_len, stL_len sht]; exact state_size)
            have ZLT : Hid ((ints (List.replicate 46 0)).length = (ints (stL t)).length) := Lib.hid (by rw [ints_len, ints_len, stL_len sht, List.length_replicate])
            have LET : Hid ((ints (stL t)).length = 46) := Lib.hid (by rw [ints_len, stL_len sht])
            have DSH : Hid (∀ u ∈ seen', Shape u) := Lib.hid (fun u hu => ((hl.look.reach u hu).ok HR.out).sh)
            have LWN : Hid (W'.length ≤ 100000000000) := Lib.hid (by have h1 := hl.look.bound; have h2 := weight_len p W'; unfold most at h1; omega)
            have LDN : Hid (seen'.length ≤ 100000000000) := Lib.hid (by have h0 := hl.look.size; have h1 := hl.look.bound; have h2 := weight_len p W'; unfold most at h1; omega)
            have HWN := Lib.hid hwn
            have i0 : (0 : Int) ≤ (k : Int) := by omega
            have i1 : (k : Int) < (an : Int) := by omega
            by_cases hin : t ∈ seen'
            · have hdec : decide (t ∈ seen') = true := by simpa using hin
              have HD := Lib.hid hdec
              have HIN := Lib.hid hin
              clear hl ht hcell sht hwn hdec hin e2 e3 HK hagl
              go_wp2_with (first
                | (with_reducible refine load_walk rfl 58 (.tmp 50) rfl ⟨ag, k * 46, none⟩ rfl (ints (stL t)) state_struct SZT.out HCELL.out ?_)
                | ((with_reducible refine alloc_walk (o := ⟨some 12, _, _, _, _, _⟩) rfl 58 rfl _ state_zero ?_); intro y1 ry1 by1 zy1; clear zy1)
                | ((with_reducible refine storeRow_walk rfl 58 (.tmp 12) (.tmp 51) rfl wr.heap.size rfl (ints (stL t)) rfl SZT.out 58 (ints (List.replicate 46 0)) ry1 ZLT.out (ints_one _) ?_); intro y2 ry2 oy2 zy2; have BY := Lib.hid (Only.below by1 oy2 by1.size (fun g hg => Nat.ne_of_lt hg)); have RY := Lib.hid ry2; clear zy2 oy2 ry1 by1 ry2)
                | (with_reducible refine loadRow_walk (o := ⟨some 54, _, _, _, _, _⟩) rfl 58 (.tmp 12) rfl wr.heap.size rfl (ints (stL t)) state_struct SZT.out 58 RY.out ?_)
                | (with_reducible refine look_walk rfl (.tmp 53) (.tmp 54) rfl bm seen' DSH.out t HSH.out rfl rfl (LL.out.quiet BY.out).set true HD.out ?_))
              go_roundw
              case rel => exact ⟨k + 1, _, _, _, by omega, by go_num, rfl, Lib.hid ⟨seen', W', (LL.out.quiet (below_on BY.out (below_al _ _))).old HT.out HIN.out, HWN.out⟩⟩
              case measure => simp [intOf]; omega
            · have hdec : decide (t ∈ seen') = false := by simpa using hin
              have HD := Lib.hid hdec
              have HIN := Lib.hid hin
              clear hl ht hcell sht hwn hdec hin e2 e3 HK hagl
              go_wp2_with (first
                | (with_reducible refine load_walk rfl 58 (.tmp 50) rfl ⟨ag, k * 46, none⟩ rfl (ints (stL t)) state_struct SZT.out HCELL.out ?_)
                | ((with_reducible refine alloc_walk (o := ⟨some 12, _, _, _, _, _⟩) rfl 58 rfl _ state_zero ?_); intro y1 ry1 by1 zy1; clear zy1)
                | ((with_reducible refine storeRow_walk rfl 58 (.tmp 12) (.tmp 51) rfl wr.heap.size rfl (ints (stL t)) rfl SZT.out 58 (ints (List.replicate 46 0)) ry1 ZLT.out (ints_one _) ?_); intro y2 ry2 oy2 zy2; have BY := Lib.hid (Only.below by1 oy2 by1.size (fun g hg => Nat.ne_of_lt hg)); have RY := Lib.hid ry2; have RYA := Lib.hid (Row.below ry2 (below_al y2 (.cells #[] 78))); have LLA := Lib.hid (LL.out.quiet (below_on BY.out (below_al y2 (.cells #[] 78)))); have NEA := Lib.hid (LLA.out.set.row_ne RYA.out); clear zy2 oy2 ry1 by1 ry2)
                | (with_reducible refine loadRow_walk (o := ⟨some 54, _, _, _, _, _⟩) rfl 58 (.tmp 12) rfl wr.heap.size rfl (ints (stL t)) state_struct SZT.out 58 RY.out ?_)
                | (with_reducible refine look_walk rfl (.tmp 53) (.tmp 54) rfl bm seen' DSH.out t HSH.out rfl rfl (LL.out.quiet BY.out).set false HD.out ?_)
                | (with_reducible refine loadRow_walk (o := ⟨some 61, _, _, _, _, _⟩) rfl 58 (.tmp 12) rfl wr.heap.size rfl (ints (stL t)) state_struct SZT.out 58 RYA.out ?_)
                | (at_mapUpdate; go_must ((with_reducible refine upd_walk rfl (.tmp 60) (.tmp 61) (.tmp 62) rfl bm seen' LDN.out t HSH.out rfl rfl rfl LLA.out.set ?_); intro y5 sy5 gy5; have RY5 := Lib.hid (Row.of_grown RYA.out gy5 (fun e => NEA.out (Option.some.inj e).symm)); have SY5 := Lib.hid sy5; have GY5 := Lib.hid gy5; clear sy5 gy5))
                | (with_reducible refine loadRow_walk (o := ⟨some 64, _, _, _, _, _⟩) rfl 58 (.tmp 12) rfl wr.heap.size rfl (ints (stL t)) state_struct SZT.out 58 RY5.out ?_)
                | ((with_reducible refine one_walk rfl 49 58 (.tmp 64) rfl (ints (stL t)) rfl Try.underlying49 46 state_one LET.out (by omega) (by omega) ?_); intro y6 ry6 by6 zy6; clear zy6; have SY6 := Lib.hid (show StAt y6 y5.heap.size t from ry6); have BY6 := Lib.hid by6; clear ry6 by6)
                | (at_builtin; go_must ((with_reducible refine appS_walk rfl (.tmp 63) (.tmp 65) rfl w.heap.size (.slice wA' wn' wc') W' rfl (LLA.out.mid SY5.out GY5.out BY6.out).1 LWN.out y5.heap.size rfl t HSH.out SY6.out (LLA.out.mid SY5.out GY5.out BY6.out).2.2.2.2.size ?_); intro yv y7 sy7 gy7 ly7; have LK7 := Lib.hid (LLA.out.more HR.out HT.out HIN.out SY5.out GY5.out BY6.out sy7 gy7 ly7); clear sy7 gy7 ly7)))
              go_roundw
              case rel =>
                obtain ⟨zA, zc, ez⟩ := LK7.out.wst.open_
                refine ⟨k + 1, zA, _, zc, by omega, by go_num, ez, Lib.hid ⟨seen' ++ [t], W' ++ [t], ?_, rfl⟩⟩
                rw [← ez]
                exact LK7.out
              case measure => simp [intOf]; omega
          · obtain rfl : k = an := by omega
            have SR := Lib.hid (hl.all (by rw [HAN.out]; exact Nat.le_refl _))
            have HWN := Lib.hid hwn
            clear hl hwn HK
            go_wp2
            go_step3
            refine ⟨rfl, most - (cnt + 1), ?_, seen', W', _, cnt + 1, wA', wn', wc', ev5, bm, b0, _, _, _, _, _, _, _, _, _, _, _, _, _, _, _, _, _, _, _, _, _, _, _, _, _, _, _, _, _, _, _, _, _, _, _, _, _, _, _, _, _, _, _, _, _, _, _, _, _, _, _, _, _, _, _, _, _, _, _, rfl, SR, HWN, Lib.hid rfl⟩
            have h1 := HS.out.srch.bound
            have h2 := weight_len p (W0 ++ [s])
            rw [List.length_append, List.length_singleton] at h2
            have h3 := HN.out
            omega

      · have H0 := Lib.hid h0
        clear h0
        go_wp2_with (first
          | (with_reducible refine load_walk rfl 58 (.tmp 29) rfl ⟨g, wl * 46, none⟩ rfl (ints (stL s)) state_struct SZ.out HCELLS.out ?_)
          | ((with_reducible refine alloc_walk (o := ⟨some 9, _, _, _, _, _⟩) rfl 58 rfl _ state_zero ?_); intro x1 rx1 bx1 zx1; clear zx1)
          | ((with_reducible refine storeRow_walk rfl 58 (.tmp 9) (.tmp 30) rfl w'.heap.size rfl (ints (stL s)) rfl SZ.out 58 (ints (List.replicate 46 0)) rx1 ZL.out (ints_one _) ?_); intro x2 rx2 ox2 zx2; have BX := Lib.hid (Only.below bx1 ox2 bx1.size (fun g hg => Nat.ne_of_lt hg)); have SX := Lib.hid (show StAt x2 w'.heap.size s from rx2); clear zx2 ox2 rx1 bx1 rx2))
        refine (steps_any w'.heap.size N s (.slice A m cc) p x2 SX.out OKS.out HR.out (HP.out.below (below_on HS.out.below BX.out))).mono ?_
        rintro e x3 ⟨av, rfl, ax⟩
        obtain ⟨aA, ac, rfl⟩ := ax.own.open_
        obtain ⟨an, han⟩ : ∃ an, (stepsS p N s).length = an := ⟨_, rfl⟩
        rw [han] at ax ⊢
        have HAN := Lib.hid han
        have AX := Lib.hid ax
        have han6 : an ≤ 6 := by rw [← han]; exact steps_len HR.out s
        clear ax han
        have hz : 0 < an := by rw [← HAN.out]; exact List.length_pos_iff.2 H0.out
        have b2 : ((an : Int) == 0) = false := by simp; omega
        go_wp2
        have LK := Lib.hid (HS.out.enter (W0 := W0) POP.out rfl BX.out AX.out (by have := TK.out; rw [if_neg H0.out] at this; exact this))
        have LK : Hid (LookAt w x3 p N s 0 seen W0 (if stepsS p N s = [] then E ++ [s] else E) (cnt + 1) (.slice (some ⟨g, 0, none⟩) wl wc) ev bm (.slice aA an ac)) := Lib.hid (by rw [if_neg H0.out]; exact LK.out)
        go_loopw [7, 48] (fun wv idx wr => ∃ (k : Nat) (wA' : Option Addr) (wn' wc' : Nat), k ≤ an ∧ idx = .int .i64 k ∧ wv = .slice wA' wn' wc' ∧ Hid (∃ seen' W', LookAt w wr p N s k seen' W' (if stepsS p N s = [] then E ++ [s] else E) (cnt + 1) (.slice wA' wn' wc') ev bm (.slice aA an ac) ∧ W'.length = wn')) (fun _ idx _ => an - (intOf idx).toNat)
        case atStart => exact ⟨0, _, _, _, Nat.zero_le _, rfl, rfl, Lib.hid ⟨seen, W0, LK.out, HWL.out⟩⟩
        case round =>
          obtain ⟨k, wA', wn', wc', hk, rfl, rfl, HK⟩ := hrel
          obtain ⟨seen', W', hl, hwn⟩ := HK.out
          by_cases hlt : k < an
          · obtain ⟨t, ht⟩ : ∃ t, (stepsS p N s)[k]? = some t := ⟨_, List.getElem?_eq_getElem (by rw [HAN.out]; exact hlt)⟩
            obtain ⟨ag, ac', hav, _, _, hagl, hcell⟩ := hl.ast.at_ SHS.out ht
            injection hav with e1 e2 e3
            subst e1
            have sht : Shape t := SHS.out t (List.mem_of_getElem? ht)
            have HSH := Lib.hid sht
            have LL := Lib.hid hl
            have HT := Lib.hid ht
            have HCELL := Lib.hid hcell
            have SZT : Hid ((Try.prog.info? 58).map (·.size) = some (ints (stL t)).length) := Lib.hid (by rw [ints_len, stL_len sht]; exact state_size)
            have ZLT : Hid ((ints (List.replicate 46 0)).length = (ints (stL t)).length) := Lib.hid (by rw [ints_len, ints_len, stL_len sht, List.length_replicate])
            have LET : Hid ((ints (stL t)).length = 46) := Lib.hid (by rw [ints_len, stL_len sht])
            have DSH : Hid (∀ u ∈ seen', Shape u) := Lib.hid (fun u hu => ((hl.look.reach u hu).ok HR.out).sh)
            have LWN : Hid (W'.length ≤ 100000000000) := Lib.hid (by have h1 := hl.look.bound; have h2 := weight_len p W'; unfold most at h1; omega)
            have LDN : Hid (seen'.length ≤ 100000000000) := Lib.hid (by have h0 := hl.look.size; have h1 := hl.look.bound; have h2 := weight_len p W'; unfold most at h1; omega)
            have HWN := Lib.hid hwn
            have i0 : (0 : Int) ≤ (k : Int) := by omega
            have i1 : (k : Int) < (an : Int) := by omega
            by_cases hin : t ∈ seen'
            · have hdec : decide (t ∈ seen') = true := by simpa using hin
              have HD := Lib.hid hdec
              have HIN := Lib.hid hin
              clear hl ht hcell sht hwn hdec hin e2 e3 HK hagl
              go_wp2_with (first
                | (with_reducible refine load_walk rfl 58 (.tmp 50) rfl ⟨ag, k * 46, none⟩ rfl (ints (stL t)) state_struct SZT.out HCELL.out ?_)
                | ((with_reducible refine alloc_walk (o := ⟨some 12, _, _, _, _, _⟩) rfl 58 rfl _ state_zero ?_); intro y1 ry1 by1 zy1; clear zy1)
                | ((with_reducible refine storeRow_walk rfl 58 (.tmp 12) (.tmp 51) rfl wr.heap.size rfl (ints (stL t)) rfl SZT.out 58 (ints (List.replicate 46 0)) ry1 ZLT.out (ints_one _) ?_); intro y2 ry2 oy2 zy2; have BY := Lib.hid (Only.below by1 oy2 by1.size (fun g hg => Nat.ne_of_lt hg)); have RY := Lib.hid ry2; clear zy2 oy2 ry1 by1 ry2)
                | (with_reducible refine loadRow_walk (o := ⟨some 54, _, _, _, _, _⟩) rfl 58 (.tmp 12) rfl wr.heap.size rfl (ints (stL t)) state_struct SZT.out 58 RY.out ?_)
                | (with_reducible refine look_walk rfl (.tmp 53) (.tmp 54) rfl bm seen' DSH.out t HSH.out rfl rfl (LL.out.quiet BY.out).set true HD.out ?_))
              go_roundw
              case rel => exact ⟨k + 1, _, _, _, by omega, by go_num, rfl, Lib.hid ⟨seen', W', (LL.out.quiet (below_on BY.out (below_al _ _))).old HT.out HIN.out, HWN.out⟩⟩
              case measure => simp [intOf]; omega
            · have hdec : decide (t ∈ seen') = false := by simpa using hin
              have HD := Lib.hid hdec
              have HIN := Lib.hid hin
              clear hl ht hcell sht hwn hdec hin e2 e3 HK hagl
              go_wp2_with (first
                | (with_reducible refine load_walk rfl 58 (.tmp 50) rfl ⟨ag, k * 46, none⟩ rfl (ints (stL t)) state_struct SZT.out HCELL.out ?_)
                | ((with_reducible refine alloc_walk (o := ⟨some 12, _, _, _, _, _⟩) rfl 58 rfl _ state_zero ?_); intro y1 ry1 by1 zy1; clear zy1)
                | ((with_reducible refine storeRow_walk rfl 58 (.tmp 12) (.tmp 51) rfl wr.heap.size rfl (ints (stL t)) rfl SZT.out 58 (ints (List.replicate 46 0)) ry1 ZLT.out (ints_one _) ?_); intro y2 ry2 oy2 zy2; have BY := Lib.hid (Only.below by1 oy2 by1.size (fun g hg => Nat.ne_of_lt hg)); have RY := Lib.hid ry2; have RYA := Lib.hid (Row.below ry2 (below_al y2 (.cells #[] 78))); have LLA := Lib.hid (LL.out.quiet (below_on BY.out (below_al y2 (.cells #[] 78)))); have NEA := Lib.hid (LLA.out.set.row_ne RYA.out); clear zy2 oy2 ry1 by1 ry2)
                | (with_reducible refine loadRow_walk (o := ⟨some 54, _, _, _, _, _⟩) rfl 58 (.tmp 12) rfl wr.heap.size rfl (ints (stL t)) state_struct SZT.out 58 RY.out ?_)
                | (with_reducible refine look_walk rfl (.tmp 53) (.tmp 54) rfl bm seen' DSH.out t HSH.out rfl rfl (LL.out.quiet BY.out).set false HD.out ?_)
                | (with_reducible refine loadRow_walk (o := ⟨some 61, _, _, _, _, _⟩) rfl 58 (.tmp 12) rfl wr.heap.size rfl (ints (stL t)) state_struct SZT.out 58 RYA.out ?_)
                | (at_mapUpdate; go_must ((with_reducible refine upd_walk rfl (.tmp 60) (.tmp 61) (.tmp 62) rfl bm seen' LDN.out t HSH.out rfl rfl rfl LLA.out.set ?_); intro y5 sy5 gy5; have RY5 := Lib.hid (Row.of_grown RYA.out gy5 (fun e => NEA.out (Option.some.inj e).symm)); have SY5 := Lib.hid sy5; have GY5 := Lib.hid gy5; clear sy5 gy5))
                | (with_reducible refine loadRow_walk (o := ⟨some 64, _, _, _, _, _⟩) rfl 58 (.tmp 12) rfl wr.heap.size rfl (ints (stL t)) state_struct SZT.out 58 RY5.out ?_)
                | ((with_reducible refine one_walk rfl 49 58 (.tmp 64) rfl (ints (stL t)) rfl Try.underlying49 46 state_one LET.out (by omega) (by omega) ?_); intro y6 ry6 by6 zy6; clear zy6; have SY6 := Lib.hid (show StAt y6 y5.heap.size t from ry6); have BY6 := Lib.hid by6; clear ry6 by6)
                | (at_builtin; go_must ((with_reducible refine appS_walk rfl (.tmp 63) (.tmp 65) rfl w.heap.size (.slice wA' wn' wc') W' rfl (LLA.out.mid SY5.out GY5.out BY6.out).1 LWN.out y5.heap.size rfl t HSH.out SY6.out (LLA.out.mid SY5.out GY5.out BY6.out).2.2.2.2.size ?_); intro yv y7 sy7 gy7 ly7; have LK7 := Lib.hid (LLA.out.more HR.out HT.out HIN.out SY5.out GY5.out BY6.out sy7 gy7 ly7); clear sy7 gy7 ly7)))
              go_roundw
              case rel =>
                obtain ⟨zA, zc, ez⟩ := LK7.out.wst.open_
                refine ⟨k + 1, zA, _, zc, by omega, by go_num, ez, Lib.hid ⟨seen' ++ [t], W' ++ [t], ?_, rfl⟩⟩
                rw [← ez]
                exact LK7.out
              case measure => simp [intOf]; omega
          · obtain rfl : k = an := by omega
            have SR := Lib.hid (hl.all (by rw [HAN.out]; exact Nat.le_refl _))
            have HWN := Lib.hid hwn
            clear hl hwn HK
            go_wp2
            go_step3
            refine ⟨rfl, most - (cnt + 1), ?_, seen', W', _, cnt + 1, wA', wn', wc', ev, bm, b0, _, _, _, _, _, _, _, _, _, _, _, _, _, _, _, _, _, _, _, _, _, _, _, _, _, _, _, _, _, _, _, _, _, _, _, _, _, _, _, _, _, _, _, _, _, _, _, _, _, _, _, _, _, _, _, _, _, _, _, rfl, SR, HWN, Lib.hid rfl⟩
            have h1 := HS.out.srch.bound
            have h2 := weight_len p (W0 ++ [s])
            rw [List.length_append, List.length_singleton] at h2
            have h3 := HN.out
            omega

  case first =>
    intro PS
    have hmm := @run_makeMap Try.prog
    have SZ0 : Hid ((Try.prog.info? 58).map (·.size) = some (ints (stL st0)).length) := Lib.hid (by rw [ints_len, stL_len shape0]; exact state_size)
    have LE0 : Hid ((ints (stL st0)).length = 46) := Lib.hid (by rw [ints_len, stL_len shape0])
    go_wp2_with (first
      | ((with_reducible refine alloc_walk (o := ⟨some 5, _, _, _, _, _⟩) rfl 58 rfl _ state_zero ?_); intro z1 rz1 bz1 zz1; clear zz1; rw [st0_zero] at rz1; have R1 := Lib.hid rz1; have B1 := Lib.hid bz1; clear rz1 bz1)
      | (with_reducible refine loadRow_walk (o := ⟨some 15, _, _, _, _, _⟩) rfl 58 (.tmp 5) rfl w.heap.size rfl (ints (stL st0)) state_struct SZ0.out 58 R1.out ?_)
      | ((with_reducible refine one_walk rfl 49 58 (.tmp 15) rfl (ints (stL st0)) rfl Try.underlying49 46 state_one LE0.out (by omega) (by omega) ?_); intro z2 rz2 bz2 zz2; clear zz2; have S2 := Lib.hid (show StAt z2 z1.heap.size st0 from rz2); have B2 := Lib.hid bz2; have R2 := Lib.hid (Row.below R1.out bz2); clear rz2 bz2)
      | (with_reducible refine loadRow_walk (o := ⟨some 18, _, _, _, _, _⟩) rfl 58 (.tmp 5) rfl w.heap.size rfl (ints (stL st0)) state_struct SZ0.out 58 (Row.below R2.out (below_al _ _)) ?_)
      | ((with_reducible refine ins_walk rfl (.tmp 17) (.tmp 18) (.tmp 19) rfl z2.heap.size st0 shape0 rfl rfl rfl (set_made _) ?_); intro z4 sz4 gz4; have S4 := Lib.hid sz4; have G4 := Lib.hid gz4; clear sz4 gz4))
    go_step3
    rename_i K hK
    refine hK _ _ ?_
    have s1 := B1.out.size
    have s2 : z1.heap.size < z2.heap.size := Row.lt S2.out
    have bz : Below w.heap.size w (z2.alloc (.map #[] 0)) := below_on (below_on B1.out B2.out) (below_al _ _)
    have W4 : SrchAt w z4 p N [st0] [st0] [] 0 (.slice (some ⟨z1.heap.size, 0, none⟩) 1 1) (.slice none 0 0) z2.heap.size :=
      ⟨Srch.init HR.out, ((Sts.one S2.out shape0 s1).below (below_al _ _)).kept G4.out (fun k hk e => by injection hk with hk; injection e with e; simp only at hk; omega), Sts.nil_ _ _, S4.out, bz.grown G4.out bz.size (fun k e => by injection e with e; omega), by omega, fun k hk e => by cases e⟩
    exact PS.out most _ _ ⟨[st0], [st0], [], 0, _, _, _, _, _, w.heap.size, _, _, _, _, _, _, _, _, _, _, _, _, _, _, _, _, _, _, _, _, _, _, _, _, _, _, _, _, _, _, _, _, _, _, _, _, _, _, _, _, _, _, _, _, _, _, _, _, _, _, _, _, _, _, _, _, _, _, _, rfl, Lib.hid W4, Lib.hid rfl, Lib.hid rfl⟩

#print axioms ends_any
end Go.Proofs.Ytgljgpllooehkaa
