/-
  Layer 7 (litmus): slices.BinarySearchFunc over outcomes; has, Can.
  Conditions: those that each theorem states.
-/
import Derived.Test.YtgljgpllooehkaaLit18
import Derived.Test.YtgljgpllooehkaaLitSearch
namespace Go.Proofs.Ytgljgpllooehkaa
open Go.ChangeShapes Go.WideShapes Go.ChangeAt Go.RowKit Go.Sort Go.Shelf

theorem count_rising : ∀ {Ls : List (List Int)} {k : Nat} {x : List Int}, Ls.Pairwise (fun a b => cmpL a b < 0) → Ls[k]? = some x → Ls.countP (fun l => decide (cmpL l x < 0)) = k
  | [], k, x, _, h => by simp at h
  | y :: Ls, 0, x, hr, h => by
    obtain rfl : y = x := by simpa using h
    obtain ⟨h1, h2⟩ := List.pairwise_cons.1 hr
    have e0 : cmpL y y = 0 := cmpL_zero.2 rfl
    rw [List.countP_eq_zero]
    intro l hl
    rcases List.mem_cons.1 hl with rfl | hl
    · simp [e0]
    · have h3 := h1 l hl
      have h4 := cmpL_neg y l
      simp
      omega
  | y :: Ls, k + 1, x, hr, h => by
    obtain ⟨h1, h2⟩ := List.pairwise_cons.1 hr
    have hx : Ls[k]? = some x := by simpa using h
    have := count_rising h2 hx
    have h3 := h1 x (List.mem_of_getElem? hx)
    rw [List.countP_cons, this, if_pos (by simpa using h3)]

/-- The search for x in a rising list. -/
theorem search_any (base : Nat) (v : Value) (vs : List Value) (Ls : List (List Int)) (tv : Value) (x : List Int) (w : World) (h : Lists w base v vs Ls) (hne : vs ≠ []) (hr : Ls.Pairwise (fun a b => cmpL a b < 0)) (hl : ∀ l ∈ Ls, l.length ≤ 1000000) (hsz : vs.length < 4611686018427387904)
    (hx : ∀ W, Only (fun b => v.ownBlock = some b) w W → IntsAt W tv x) :
    Calls Try.prog 42 #[v, tv, .func (.func 25) #[] #[]] w fun e w' => (∃ i : Int, e = .returned (.tuple #[.int .i64 i, .bool (decide (x ∈ Ls))])) ∧ Below w.heap.size w w' := by
  obtain ⟨m, hm⟩ : ∃ m, vs.length = m + 1 := ⟨vs.length - 1, by have := List.length_pos_iff.2 hne; omega⟩
  have hLm : Ls.length = m + 1 := by rw [← h.len]; exact hm
  have hown := h.own
  rcases hown.2 with ⟨_, h0⟩ | ⟨g, cap, cur, rfl, hb, hg, hn, hmx, hcs, ht⟩
  · omega
  rw [Nat.mul_one] at hcs ht
  let enc : Fin (m + 1) → Value := fun i => vs[i.1]'(by rw [hm]; exact i.2)
  let L : Fin (m + 1) → List Int := fun i => Ls[i.1]'(by rw [hLm]; exact i.2)
  let cft : Fin (m + 1) → Int := fun i => cmpL (L i) x
  let d : Array (Fin (m + 1)) := Array.ofFn id
  have hd : d.size = m + 1 := by simp [d]
  have hdj : ∀ j (hj : j < m + 1), d[j]! = (⟨j, hj⟩ : Fin (m + 1)) := fun j hj => by
    rw [getElem!_pos d j (by rw [hd]; exact hj)]
    simp [d]
  have hve : ∀ i : Fin (m + 1), vs[i.1]? = some (enc i) := fun i => List.getElem?_eq_getElem _
  have hLe : ∀ i : Fin (m + 1), Ls[i.1]? = some (L i) := fun i => List.getElem?_eq_getElem _
  have heach : ∀ i : Fin (m + 1), w.ownsRow base 3 1 (enc i) (L i).length (ints (L i)) := fun i => h.each i.1 _ _ (hve i) (hLe i)
  have hone : OneCell enc := fun i => by
    rcases (heach i).2 with ⟨e, _⟩ | ⟨_, _, _, e, _⟩ <;> rw [e] <;> rfl
  have eg : ∀ args w, (callFunc 25 args).run Try.prog w = .ok (.enter 25 args) w := enters_of Try.func25 (by kernel_rfl) rfl
  have inner : ∀ {W : World}, Only (· = g) w W → ∀ i, W.ownsRow base 3 1 (enc i) (L i).length (ints (L i)) := fun hW i =>
    own_only (heach i) hW (fun k hk e => own_types (heach i) h.own (by decide) k hk (by rw [e]; rfl))
  have hcmp : CmpLaysT Try.prog 25 #[] enc tv cft g 0 d.size w := fun q os dk hdk y => by
    have hW := sort_only enc w g 0 q dk os
    refine (compare_any (enc y) tv (L y) x _ (IntsAt.of_own (inner hW y)) (hx _ (hW.mono (fun b _ e => by rw [e]; rfl))) (hl _ (List.getElem_mem _))).mono ?_
    rintro e w' ⟨he, hw⟩
    exact ⟨he, 0, #[], by rw [grow_empty]; exact hw.symm⟩
  have hH : Holds enc w g 0 d := fun j hj => by
    rw [hd] at hj
    refine ⟨?_, by simp [World.frozen?, hg]⟩
    rw [Nat.zero_add, cell_of_row w g j cur _ (0, 0) hg, hdj j hj, ← hve ⟨j, hj⟩]
    simp only
    rw [← ht, List.getElem?_take, if_pos (by rw [hm]; exact hj)]
    simp
  have hmono : ∀ a b, a ≤ b → b < d.size → cft d[b]! < 0 → cft d[a]! < 0 := by
    intro a b hab hbd hlt
    rw [hd] at hbd
    rw [hdj b hbd] at hlt
    rw [hdj a (by omega)]
    by_cases e : a = b
    · subst e; exact hlt
    · have h1 := List.pairwise_iff_getElem.1 hr a b (by omega) (by omega) (by omega)
      exact cmpL_trans h1 hlt
  have con := Any.slices_BinarySearchFunc Try.searchF enc hone tv cft 25 #[] g 0 cap d w eg hcmp hH (Array.getElem?_eq_some_iff.1 hg).1 (by rw [hd]; omega) hmono
  have hdt : ∀ j (hj : j < m + 1), d.toList[j]? = some (⟨j, hj⟩ : Fin (m + 1)) := fun j hj => by
    have := hdj j hj
    rw [getElem!_pos d j (by rw [hd]; exact hj)] at this
    rw [List.getElem?_eq_getElem (by simp [hd]; exact hj)]
    simpa using this
  have hmap : d.toList.map L = Ls := by
    apply List.ext_getElem?
    intro j
    rw [List.getElem?_map]
    by_cases hj : j < m + 1
    · rw [hdt j hj, Option.map_some]
      exact (hLe ⟨j, hj⟩).symm
    · rw [List.getElem?_eq_none (by simp [hd]; omega), List.getElem?_eq_none (by omega)]
      rfl
  have hcount : d.toList.countP (fun y => decide (cft y < 0)) = Ls.countP (fun l => decide (cmpL l x < 0)) := by
    rw [← hmap, List.countP_map]
    rfl
  have hans : (decide (d.toList.countP (fun y => decide (cft y < 0)) < d.size) && decide (cft d[d.toList.countP (fun y => decide (cft y < 0))]! = 0)) = decide (x ∈ Ls) := by
    rw [Bool.eq_iff_iff]
    simp only [Bool.and_eq_true, decide_eq_true_eq]
    constructor
    · rintro ⟨h1, h2⟩
      rw [hd] at h1
      rw [hdj _ h1] at h2
      have := cmpL_zero.1 h2
      rw [← this]
      exact List.getElem_mem _
    · intro hmem
      obtain ⟨k, hk⟩ := List.getElem?_of_mem hmem
      have hkl : k < m + 1 := by rw [← hLm]; exact (List.getElem?_eq_some_iff.1 hk).1
      rw [hcount, count_rising hr hk]
      refine ⟨by rw [hd]; exact hkl, ?_⟩
      rw [hdj k hkl]
      have h5 := hLe ⟨k, hkl⟩
      simp only at h5
      rw [hk] at h5
      injection h5 with h5
      show cmpL (L ⟨k, hkl⟩) x = 0
      rw [← h5]
      exact cmpL_zero.2 rfl
  rw [hans] at con
  rw [hd] at con
  rw [hm]
  refine Calls.mono con ?_
  rintro e w' ⟨he, n, os, rfl⟩
  refine ⟨⟨_, he⟩, ?_⟩
  have e1 : sortWorld enc w g 0 n d os = grow (Sort.ahead w n) os := by
    unfold sortWorld
    rw [putRow_ahead, putRow_self enc w g 0 d hH]
  rw [e1]
  refine ⟨rfl, rfl, rfl, ?_, fun i hi => ?_⟩
  · simp [grow, Sort.ahead]
  · exact heap_grow_old (Sort.ahead w n) os hi

set_option maxRecDepth 100000 in
set_option maxHeartbeats 400000 in
theorem has_any (base : Nat) (v : Value) (vs : List Value) (Ls : List (List Int)) (tv : Value) (x : List Int) (w : World) (h : Lists w base v vs Ls) (hne : vs ≠ []) (hr : Ls.Pairwise (fun a b => cmpL a b < 0)) (hl : ∀ l ∈ Ls, l.length ≤ 1000000) (hsz : vs.length < 4611686018427387904)
    (hx : ∀ W, Only (fun b => v.ownBlock = some b) w W → IntsAt W tv x) :
    Calls Try.prog 33 #[v, tv] w fun e w' => e = .returned (.bool (decide (x ∈ Ls))) ∧ Below w.heap.size w w' := by
  have SE := Lib.hid (search_any base v vs Ls tv x w h hne hr hl hsz hx)
  obtain ⟨r, hre⟩ : ∃ r, decide (x ∈ Ls) = r := ⟨_, rfl⟩
  rw [hre] at SE ⊢
  clear hx hr hl h hre
  go_enter Try.func33, Try.ntmps33
  go_wp2_with (go_at_call 42; refine SE.out.mono ?_; rintro e w1 ⟨⟨i, rfl⟩, hb1⟩)
  go_ret
  exact ⟨rfl, hb1⟩

set_option maxRecDepth 100000 in
set_option maxHeartbeats 400000 in
theorem has_none (tv : Value) (w : World) : Calls Try.prog 33 #[.slice none 0 0, tv] w fun e w' => e = .returned (.bool false) ∧ w = w' := by
  have SE := Lib.hid (Any.slices_BinarySearchFunc_none Try.searchF none 0 tv (.func (.func 25) #[] #[]) w)
  go_enter Try.func33, Try.ntmps33
  go_wp2_with (go_at_call 42; refine SE.out.mono ?_; rintro e w1 ⟨rfl, hw⟩; subst hw)
  go_ret
  exact ⟨rfl, rfl⟩

/-- What is known of the lists of a valid program. -/
theorem Outs.small {p : List (List Opn)} {N : Nat} {L : List (List Int)} (h : Outs p N L) (hR : RightS p (N : Int)) : ∀ l ∈ L, l.length = p.length * 4 + 4 := by
  intro l hl
  obtain ⟨s, h1, _, rfl⟩ := (h.iff l).1 hl
  exact out_len (h1.ok hR).sh hR.hi

set_option maxRecDepth 100000 in
set_option maxHeartbeats 1000000 in
theorem can_yes (N : Nat) (v tv : Value) (p : List (List Opn)) (x : List Int) (L : List (List Int)) (w : World) (hp : Prg w v p) (hR : RightS p (N : Int)) (hL : Outs p N L) (hx : IntsAt w tv x) :
    Calls Try.prog 17 #[v, .int .i64 (N : Int), tv] w fun e w' => e = .returned (.bool (decide (x ∈ L))) ∧ Below w.heap.size w w' := by
  have OY := Lib.hid (outcomes_yes N v p w hp hR)
  have HL := Lib.hid hL
  have HR := Lib.hid hR
  have HX := Lib.hid hx
  obtain ⟨A, cc, rfl, hA⟩ := hp
  obtain ⟨r, hre⟩ : ∃ r, decide (x ∈ L) = r := ⟨_, rfl⟩
  rw [hre]
  have HRE := Lib.hid hre
  clear hA hL hR hx hre
  go_enter Try.func17, Try.ntmps17
  go_wp2_with fail
  refine OY.out.mono ?_
  rintro e w1 ⟨lv, vs, L', rfl, hl, ho, hb, hmost⟩
  have e1 := ho.eq HL.out
  subst e1
  have hne : vs ≠ [] := fun e => ho.ne HR.out (by have := hl.len; rw [e] at this; exact List.eq_nil_of_length_eq_zero this.symm)
  have hsm := ho.small HR.out
  have hcap : vs.length < 4611686018427387904 := by have := hl.len; unfold most at hmost; omega
  have HA := Lib.hid (has_any w.heap.size lv vs L' tv x w1 hl hne ho.rising (fun l hm => by rw [hsm l hm]; have := HR.out.hi; omega) hcap (fun W hW => by
    have hX := HX.out.below hb
    obtain ⟨A, c, rfl, hc⟩ := HX.out
    refine ⟨A, c, rfl, fun k y hk => ?_⟩
    obtain ⟨ad, e1, h1, h2⟩ := hc k y hk
    have hbl : (ad.add k).block = ad.block := by unfold Addr.add; split <;> rfl
    have h3 : (w1.cell? (ad.add k)) = some (.int .i64 y) := by rw [hb.cell (by rw [hbl]; exact h1)]; exact h2
    refine ⟨ad, e1, Nat.lt_of_lt_of_le (Nat.lt_of_lt_of_le h1 hb.size) hW.size, ?_⟩
    rw [World.cell?_of_block (w := w1) (hW.block _ (by rw [hbl]; exact Nat.lt_of_lt_of_le h1 hb.size) (fun e => by have := own_base hl.own _ e; rw [hbl] at this; omega))]
    exact h3))
  rw [HRE.out] at HA
  have B1 := Lib.hid hb
  clear hl ho hb hne hsm hcap hmost
  go_wp2_with fail
  refine HA.out.mono ?_
  rintro e w2 ⟨rfl, hb2⟩
  go_wp2
  go_ret
  exact ⟨rfl, below_on B1.out hb2⟩

set_option maxRecDepth 100000 in
set_option maxHeartbeats 1000000 in
theorem can_no (buf : Int) (v tv : Value) (p : List (List Opn)) (w : World) (hp : Prg w v p) (hm : p.length ≤ 1000000) (hR : ¬ RightS p buf) :
    Calls Try.prog 17 #[v, .int .i64 buf, tv] w fun e w' => e = .returned (.bool false) ∧ Below w.heap.size w w' := by
  have ON := Lib.hid (outcomes_no buf v p w hp hm hR)
  obtain ⟨A, cc, rfl, hA⟩ := hp
  clear hA
  go_enter Try.func17, Try.ntmps17
  go_wp2_with fail
  refine ON.out.mono ?_
  rintro e w1 ⟨rfl, hb⟩
  go_wp2_with fail
  refine (has_none tv w1).mono ?_
  rintro e w2 ⟨rfl, rfl⟩
  go_wp2
  go_ret
  exact ⟨rfl, hb⟩

#print axioms can_yes
#print axioms can_no
end Go.Proofs.Ytgljgpllooehkaa
