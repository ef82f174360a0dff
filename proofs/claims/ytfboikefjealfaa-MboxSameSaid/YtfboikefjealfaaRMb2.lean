/-
  The reference of layer 9: with.
  Conditions: those that each theorem states.
-/
import Derived.Test.YtfboikefjealfaaRMb
namespace Go.Proofs.Ytfboikefjealfaa
open Go.ChangeShapes Go.WideShapes Go.ChangeAt Go.RowKit

theorem appM_walk {P : Program} {w : World} {ops : Array Oper} {rest : List Oper} {o : Oper} {a : Act} {Q : Exit → Act → World → Prop} (hgd : o.guard = none) (s x : Operand) (t : TypeId)
    (ho : o.op = .call { callee := .builtin .append, args := #[s, x], argTypes := #[t, t] }) (base : Nat) (e : TypeId) (i : TypeInfo) (z : Value) (size bytes : Nat) (ht : P.underlying t = some (.slice e)) (hi : P.info? e = some i) (hz : i.zero = some z)
    (hsize : i.size = size) (hby : i.bytes = bytes) (hzs : z.cells.size = size) (hpos : 0 < size) (v : Value) (n : Nat) (xs : List Value) (hs : a.eval s = v) (hown : w.ownsRow base e size v n xs)
    (ad : Addr) (m c : Nat) (news : List Value) (hx : a.eval x = .slice (some ad) m c) (hn : news.length = m * size) (hc : ∀ j u, news[j]? = some u → w.cell? (ad.add j) = some u) (h1 : ∀ u ∈ news, u.oneCell' = true)
    (h63 : n + m ≤ maxLen) (hbytes : (n + m) * bytes ≤ 140737488355328) (hbase : base ≤ w.heap.size)
    (h : ∀ v' w', w'.ownsRow base e size v' (n + m) (xs ++ news) → w.grownBy w' v.ownBlock → (v'.ownBlock = v.ownBlock ∨ v'.ownBlock = some w.heap.size) → wpList P ops Q rest (a.put o.dst v') w') : wpList P ops Q (o :: rest) a w := by
  obtain ⟨v', w', hrun, h2, h3, _, h5⟩ := run_append_own_at (P := P) w base t o.type e i z size bytes ht hi hz hsize hby hzs hpos v n xs hown ad m c news hn hc h1 h63 hbytes hbase
  refine wpList_plain hgd fun K hK => ?_
  unfold Oper.wp
  simp [execOp, ho, resolve, invoke, builtin, hs, hx, hrun, Result.andThen]
  exact hK _ _ (h v' w' h2 h3 h5)

theorem Many.of_own {w : World} {base size : Nat} {e : TypeId} {v : Value} {n : Nat} {rows : List (List Value)} (h : w.ownsRow base e size v n rows.flatten) (hn : rows.length = n) : Many w (fun b => v.ownBlock = some b) v rows := by
  obtain ⟨hl, h2⟩ := h
  subst hn
  rcases h2 with ⟨rfl, h0⟩ | ⟨g, cap, cur, rfl, hb, hg, hn, hm, hs, ht⟩
  · obtain rfl : rows = [] := List.eq_nil_of_length_eq_zero h0
    exact ⟨none, 0, rfl, fun h => absurd h (by simp)⟩
  · refine ⟨_, cap, rfl, fun _ => ⟨g, 0, rfl, rfl, (Array.getElem?_eq_some_iff.1 hg).1, fun j u hu => ?_⟩⟩
    rw [Nat.zero_add, cell_of_row w g j cur e (0, 0) hg]
    rw [← ht, List.getElem?_take] at hu
    split at hu
    · simpa using hu
    · cases hu

/-- A core of the reference as a value. -/
def coreV (m : Mail) (lv : Value) : Value := .agg (rcL m lv).toArray

theorem zip_one {w : World} {P : Nat → Prop} {ms : List Mail} {lvs : List Value} (h3 : ∀ (i : Nat) (m : Mail) (lv : Value), ms[i]? = some m → lvs[i]? = some lv → Two w P lv (its m.2) ∧ CapOk lv) : ∀ u ∈ (List.zipWith rcL ms lvs).flatten, u.oneCell' = true := by
  intro u hu
  obtain ⟨r, hr, hu⟩ := List.mem_flatten.1 hu
  obtain ⟨i, hi, rfl⟩ := List.mem_iff_getElem.1 hr
  simp only [List.getElem_zipWith] at hu
  simp only [List.length_zipWith] at hi
  obtain ⟨⟨A, c, hv, _⟩, _⟩ := h3 i _ _ (List.getElem?_eq_getElem (by omega)) (List.getElem?_eq_getElem (by omega))
  simp only [rcL, List.mem_append, List.mem_map, List.mem_singleton] at hu
  rcases hu with ⟨b, _, rfl⟩ | rfl
  · rfl
  · rw [hv]; rfl

theorem zip_set {ms : List Mail} {lvs : List Value} {i : Nat} {m : Mail} {lv : Value} : (List.zipWith rcL ms lvs).set i (rcL m lv) = List.zipWith rcL (ms.set i m) (lvs.set i lv) := by
  apply List.ext_getElem?
  intro j
  simp only [List.getElem?_set, List.getElem?_zipWith, List.length_zipWith]
  by_cases e : i = j
  · subst e
    by_cases h1 : i < ms.length <;> by_cases h2 : i < lvs.length <;> simp [h1, h2] <;> omega
  · simp [e]

set_option maxRecDepth 100000 in
set_option maxHeartbeats 4000000 in
theorem rwith9 (P : Nat → Prop) (ms : List Mail) (v lv : Value) (i : Nat) (m : Mail) (w : World) (r : RBox w P ms v) (hi : i < ms.length) (hk : MailOk m) (hv : Two w P lv (its m.2)) (hcv : CapOk lv) (hP : ∀ b, w.heap.size ≤ b → P b) :
    Calls Try.prog 24 #[v, .int .i64 (i : Int), coreV m lv] w (RBoxP P (ms.set i m) id w) := by
  obtain ⟨i0, hi0, hz0, hz1, hz2⟩ := info_parts core_info
  obtain ⟨A, k, rfl⟩ := r.open_
  obtain ⟨Av, nv, cv, rfl, HNV, HV⟩ := hv.open_
  obtain ⟨b0, b1, b2, b3, b4, b5, b6, b7, hbs⟩ := bools8 hk.len
  have hcv0 : coreV m (.slice Av nv cv) = .agg #[.bool b0, .bool b1, .bool b2, .bool b3, .bool b4, .bool b5, .bool b6, .bool b7, .slice Av nv cv] := by unfold coreV rcL; rw [hbs]; rfl
  have hrl : rcL m (.slice Av nv cv) = [.bool b0, .bool b1, .bool b2, .bool b3, .bool b4, .bool b5, .bool b6, .bool b7, .slice Av nv cv] := by unfold rcL; rw [hbs]; rfl
  rw [hcv0]
  have HRL := Lib.hid hrl
  have R := Lib.hid r
  obtain ⟨lvs, hM, hL, hE⟩ := r.rows
  have hnine := zip_nine (lvs := lvs) r.ok
  have hone := zip_one hE
  have hzl := zip_len hL
  obtain ⟨A', c', hsl, hAt⟩ := hM
  rw [hzl] at hsl hAt
  injection hsl with e1 _ e3
  subst e1 e3
  have hmost := r.most
  have hpos := r.pos
  obtain ⟨g, o, rfl, hPg, hgl, hcell⟩ := hAt hpos
  have hfl := flatten_len hnine
  rw [hzl] at hfl
  have HFL := Lib.hid hfl
  have HONE := Lib.hid hone
  have HNINE := Lib.hid hnine
  have HE := Lib.hid hE
  have HL := Lib.hid hL
  have HZL := Lib.hid hzl
  have HP := Lib.hid hP
  have HK := Lib.hid hk
  have HCV := Lib.hid hcv
  obtain ⟨C, hC⟩ : ∃ C, ms.length = C := ⟨_, rfl⟩
  rw [hC] at hi hmost hpos HFL ⊢
  have HC := Lib.hid hC
  have HCELL := Lib.hid hcell
  obtain ⟨F, hF⟩ : ∃ F, (List.zipWith rcL ms lvs).flatten = F := ⟨_, rfl⟩
  rw [hF] at HFL HONE HCELL
  have HF := Lib.hid hF
  clear r hv hL hE hnine hone hzl hAt hcell hfl hC hk hcv hP hF hrl hcv0 hbs
  go_enter Try.func24, Try.ntmps24
  go_wp2_with (first
    | (at_builtin
       refine appM_walk rfl (.tmp 8) (.tmp 9) 28 rfl (w.heap.size + 1) 40 i0 _ 9 32 Try.underlying28 hi0 hz0 hz1 hz2 rfl (by omega) (.slice none 0 0) 0 [] rfl (World.ownsRow_nil _ _ _ _) ⟨g, o, none⟩ C k F rfl HFL.out (fun j u hu => (by rw [Addr.add_lit]; exact ((below_al w _).cell (p := ⟨g, o + j, none⟩) hgl).trans (HCELL.out j u hu))) HONE.out (by unfold maxLen; omega) (by omega) (by simp) ?_
       intro v1 w1 hown1 hg1 hat1
       rw [Nat.zero_add, List.nil_append] at hown1
       obtain ⟨g', cap', rfl, hbg, hlt'⟩ := hown1.form (by omega)
       have r0 : Row w1 w.heap.size 40 [.bool b0, .bool b1, .bool b2, .bool b3, .bool b4, .bool b5, .bool b6, .bool b7, .slice Av nv cv] := (Row.new w 40 #[.bool b0, .bool b1, .bool b2, .bool b3, .bool b4, .bool b5, .bool b6, .bool b7, .slice Av nv cv]).of_grown hg1 (by simp [Value.ownBlock])
       have hb1 : Below w.heap.size w w1 := (below_al w _).grown hg1 (by simp) (by simp [Value.ownBlock])
       have x0 := r0.cell 0
       have x1 := r0.cell 1
       have x2 := r0.cell 2
       have x3 := r0.cell 3
       have x4 := r0.cell 4
       have x5 := r0.cell 5
       have x6 := r0.cell 6
       have x7 := r0.cell 7
       have x8 := r0.cell 8
       simp only [List.getElem?_cons_zero, List.getElem?_cons_succ] at x0 x1 x2 x3 x4 x5 x6 x7 x8
       have ft := hown1.frozenAt
       have hin : ∀ j, j < 9 → ∃ u, w1.cell? ⟨g', i * 9 + j, none⟩ = some u := (fun j hj => ⟨_, (hown1.cellAt (i * 9 + j) (by omega)).trans (List.getElem?_eq_getElem (by have := HFL.out; omega))⟩)
       obtain ⟨u0, t0⟩ := hin 0 (by omega)
       obtain ⟨u1, t1⟩ := hin 1 (by omega)
       obtain ⟨u2, t2⟩ := hin 2 (by omega)
       obtain ⟨u3, t3⟩ := hin 3 (by omega)
       obtain ⟨u4, t4⟩ := hin 4 (by omega)
       obtain ⟨u5, t5⟩ := hin 5 (by omega)
       obtain ⟨u6, t6⟩ := hin 6 (by omega)
       obtain ⟨u7, t7⟩ := hin 7 (by omega)
       obtain ⟨u8, t8⟩ := hin 8 (by omega)
       rw [Nat.add_zero] at t0
       have ft0 := ft (i * 9)
       have ft1 := ft (i * 9 + 1)
       have ft2 := ft (i * 9 + 2)
       have ft3 := ft (i * 9 + 3)
       have ft4 := ft (i * 9 + 4)
       have ft5 := ft (i * 9 + 5)
       have ft6 := ft (i * 9 + 6)
       have ft7 := ft (i * 9 + 7)
       have ft8 := ft (i * 9 + 8)
       have HOw := Lib.hid hown1
       have HB1 := Lib.hid hb1
       have hcc : (i : Int) < (C : Int) := (by omega)
       clear hown1 hg1 hat1 hb1 r0 ft hin))
  go_ret
  refine ⟨some ⟨g', 0, none⟩, C, cap', rfl, ?_, ?_⟩
  · have o0 := (HOw.out.stored (i * 9) (.bool b0)).1
    have o1 := (o0.stored (i * 9 + 1) (.bool b1)).1
    have o2 := (o1.stored (i * 9 + 2) (.bool b2)).1
    have o3 := (o2.stored (i * 9 + 3) (.bool b3)).1
    have o4 := (o3.stored (i * 9 + 4) (.bool b4)).1
    have o5 := (o4.stored (i * 9 + 5) (.bool b5)).1
    have o6 := (o5.stored (i * 9 + 6) (.bool b6)).1
    have o7 := (o6.stored (i * 9 + 7) (.bool b7)).1
    have o8 := (o7.stored (i * 9 + 8) (.slice Av nv cv)).1
    have es : sets F (i * 9) [.bool b0, .bool b1, .bool b2, .bool b3, .bool b4, .bool b5, .bool b6, .bool b7, .slice Av nv cv] = (List.zipWith rcL (ms.set i m) (lvs.set i (.slice Av nv cv))).flatten := by
      rw [← HRL.out, ← HF.out, sets_flatten HNINE.out (by rw [HZL.out, HC.out]; exact hi) (rcL_len HK.out _), zip_set]
    have es2 := es
    unfold sets sets sets sets sets sets sets sets sets sets at es2
    rw [es2] at o8
    have hlen : (ms.set i m).length = C := by rw [List.length_set, HC.out]
    have hlen2 : (lvs.set i (Value.slice Av nv cv)).length = (ms.set i m).length := by rw [List.length_set, HL.out, List.length_set]
    have hM := Many.of_own o8 (by rw [zip_len hlen2, hlen])
    have hbW := (((((((((HB1.out.setCell (p := ⟨g', i * 9, none⟩) (by show w.heap.size ≤ g'; omega) (.bool b0)).setCell (p := ⟨g', i * 9 + 1, none⟩) (by show w.heap.size ≤ g'; omega) (.bool b1)).setCell (p := ⟨g', i * 9 + 2, none⟩) (by show w.heap.size ≤ g'; omega) (.bool b2)).setCell (p := ⟨g', i * 9 + 3, none⟩) (by show w.heap.size ≤ g'; omega) (.bool b3)).setCell (p := ⟨g', i * 9 + 4, none⟩) (by show w.heap.size ≤ g'; omega) (.bool b4)).setCell (p := ⟨g', i * 9 + 5, none⟩) (by show w.heap.size ≤ g'; omega) (.bool b5)).setCell (p := ⟨g', i * 9 + 6, none⟩) (by show w.heap.size ≤ g'; omega) (.bool b6)).setCell (p := ⟨g', i * 9 + 7, none⟩) (by show w.heap.size ≤ g'; omega) (.bool b7)).setCell (p := ⟨g', i * 9 + 8, none⟩) (by show w.heap.size ≤ g'; omega) (.slice Av nv cv))
    refine ⟨⟨lvs.set i (.slice Av nv cv), hM.weak (fun b _ hb => HP.out b (by simp [Value.ownBlock] at hb; omega)), hlen2, fun j m' lv' h1 h2 => ?_⟩, CapOk.of_own o8, fun j m' h1 => ?_, by rw [hlen]; exact hpos, by rw [hlen]; exact hmost⟩
    · rw [List.getElem?_set] at h1 h2
      by_cases e : i = j
      · rw [if_pos e] at h1 h2
        split at h1
        · split at h2
          · injection h1 with h1
            injection h2 with h2
            subst h1 h2
            exact ⟨HV.out.below hbW, HCV.out⟩
          · cases h2
        · cases h1
      · rw [if_neg e] at h1 h2
        exact ⟨(HE.out j m' lv' h1 h2).1.below hbW, (HE.out j m' lv' h1 h2).2⟩
    · rw [List.getElem?_set] at h1
      by_cases e : i = j
      · rw [if_pos e] at h1
        split at h1
        · injection h1 with h1
          subst h1
          exact HK.out
        · cases h1
      · rw [if_neg e] at h1
        exact R.out.ok j m' h1
  · exact (((((((((HB1.out.setCell (p := ⟨g', i * 9, none⟩) (by show w.heap.size ≤ g'; omega) (.bool b0)).setCell (p := ⟨g', i * 9 + 1, none⟩) (by show w.heap.size ≤ g'; omega) (.bool b1)).setCell (p := ⟨g', i * 9 + 2, none⟩) (by show w.heap.size ≤ g'; omega) (.bool b2)).setCell (p := ⟨g', i * 9 + 3, none⟩) (by show w.heap.size ≤ g'; omega) (.bool b3)).setCell (p := ⟨g', i * 9 + 4, none⟩) (by show w.heap.size ≤ g'; omega) (.bool b4)).setCell (p := ⟨g', i * 9 + 5, none⟩) (by show w.heap.size ≤ g'; omega) (.bool b5)).setCell (p := ⟨g', i * 9 + 6, none⟩) (by show w.heap.size ≤ g'; omega) (.bool b6)).setCell (p := ⟨g', i * 9 + 7, none⟩) (by show w.heap.size ≤ g'; omega) (.bool b7)).setCell (p := ⟨g', i * 9 + 8, none⟩) (by show w.heap.size ≤ g'; omega) (.slice Av nv cv))

#print axioms rwith9
end Go.Proofs.Ytfboikefjealfaa
