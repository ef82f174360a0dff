/-
  Layer 19 (diary): lists of entries in the making; the law's Plain.
  Conditions: those that each theorem states.
-/
import Derived.Test.YtikjokhpombjjaaDoorDi
import Derived.Deep.RegionHeld3
import Derived.Deep.DeepMust
import Derived.Lib.SliceRun
namespace Go.Proofs.YtikjokhpombjjaaDoor
open Go.ChangeShapes Go.WideShapes Go.ChangeAt Go.RowKit

/-- An append of elements of any size that lie from an address on. -/
theorem app19_walk {P : Program} {w : World} {ops : Array Oper} {rest : List Oper} {o : Oper} {a : Act} {Q : Exit → Act → World → Prop} (hgd : o.guard = none) (s x : Operand) (t : TypeId)
    (ho : o.op = .call { callee := .builtin .append, args := #[s, x], argTypes := #[t, t] }) (base : Nat) (e : TypeId) (i : TypeInfo) (z : Value) (size bytes : Nat) (ht : P.underlying t = some (.slice e)) (hi : P.info? e = some i) (hz : i.zero = some z)
    (hsize : i.size = size) (hby : i.bytes = bytes) (hzs : z.cells.size = size) (hpos : 0 < size) (v : Value) (n : Nat) (xs : List Value) (hs : a.eval s = v) (hown : w.ownsRow base e size v n xs)
    (ad : Addr) (m c : Nat) (news : List Value) (hx : a.eval x = .slice (some ad) m c) (hn : news.length = m * size) (hc : ∀ j u, news[j]? = some u → w.cell? (ad.add j) = some u) (h1 : ∀ u ∈ news, u.oneCell' = true)
    (h63 : n + m ≤ maxLen) (hbytes : (n + m) * bytes ≤ 140737488355328) (hbase : base ≤ w.heap.size)
    (h : ∀ v' w', w'.ownsRow base e size v' (n + m) (xs ++ news) → w.grownBy w' v.ownBlock → (v'.ownBlock = v.ownBlock ∨ v'.ownBlock = some w.heap.size) → wpList P ops Q rest (a.put o.dst v') w') : wpList P ops Q (o :: rest) a w := by
  obtain ⟨v', w', hrun, h2, h3, _, h5⟩ := run_append_own_at (P := P) w base t o.type e i z size bytes ht hi hz hsize hby hzs hpos v n xs hown ad m c news hn hc h1 h63 hbytes hbase
  refine wpList_plain hgd fun K hK => ?_
  unfold Oper.wp
  simp [execOp, ho, resolve, invoke, builtin, hs, hx, hrun, Result.andThen]
  exact hK _ _ (h v' w' h2 h3 h5)

theorem cells_new19 (w : World) (cs : List Value) (t : TypeId) (b : Nat) (hb : w.heap.size = b) : ∀ j u, cs[j]? = some u → (w.alloc (.cells cs.toArray t)).cell? ((⟨b, 0, none⟩ : Addr).add j) = some u := by
  intro j u hu
  subst hb
  rw [Addr.add_lit, Nat.zero_add]
  rw [Row.cell (Row.new w t cs.toArray) j]
  exact hu

/-- The cells of a list of entries, each with what its list's cell holds. -/
def enF : List (En × Value) → List Value
  | [] => []
  | p :: l => row19 p.1 p.2 ++ enF l
theorem enF_len : ∀ l : List (En × Value), (enF l).length = l.length * 8
  | [] => rfl
  | p :: l => by simp only [enF, List.length_append, List.length_cons, enF_len l, row19, List.length_nil]; omega
theorem enF_append : ∀ a b : List (En × Value), enF (a ++ b) = enF a ++ enF b
  | [], b => rfl
  | p :: a, b => by simp only [List.cons_append, enF, enF_append a b, List.append_assoc]
theorem enF_at : ∀ {l : List (En × Value)} {k : Nat} {p : En × Value}, l[k]? = some p → ∀ j v, (row19 p.1 p.2)[j]? = some v → (enF l)[k * 8 + j]? = some v
  | [], k, p, h => by simp at h
  | q :: l, 0, p, h => by
    simp only [List.getElem?_cons_zero, Option.some.injEq] at h
    subst h
    intro j v hv
    rw [Nat.zero_mul, Nat.zero_add, enF, List.getElem?_append_left (lt_of_at hv)]
    exact hv
  | q :: l, k + 1, p, h => by
    intro j v hv
    have h1 : l[k]? = some p := by simpa using h
    have e : (k + 1) * 8 + j = (row19 q.1 q.2).length + (k * 8 + j) := by simp only [row19, List.length_cons, List.length_nil]; omega
    rw [enF, e, List.getElem?_append_right (by omega), Nat.add_sub_cancel_left]
    exact enF_at h1 j v hv
theorem row19_one {x : En} {u : Value} (hu : u.oneCell' = true) : ∀ v ∈ row19 x u, v.oneCell' = true := by
  intro v hv
  simp only [row19, List.mem_cons, List.not_mem_nil, or_false] at hv
  rcases hv with rfl | rfl | rfl | rfl | rfl | rfl | rfl | rfl <;> first | rfl | exact hu
theorem ld_one {w : World} {x : En} {u : Value} (h : Ld w x u) : u.oneCell' = true := by
  obtain ⟨⟨A, c, rfl, _⟩, _⟩ := h
  rfl

/-- A slice of its own that holds entries, whose lists lie in memory. -/
def OwnE (w : World) (base : Nat) (t : TypeId) (v : Value) (L : List (En × Value)) : Prop := w.ownsRow base t 8 v L.length (enF L) ∧ ∀ p ∈ L, Ld w p.1 p.2

theorem OwnE.nil_ (w : World) (base : Nat) (t : TypeId) : OwnE w base t (.slice none 0 0) [] := ⟨World.ownsRow_nil _ _ _ _, fun p hp => by cases hp⟩

theorem own19_only {S : Nat → Prop} {w w' : World} {base : Nat} {e : TypeId} {size : Nat} {v : Value} {n : Nat} {xs : List Value} (h : w.ownsRow base e size v n xs) (ho : Only S w w') (hn : ∀ k, v.ownBlock = some k → ¬ S k) : w'.ownsRow base e size v n xs := by
  refine ⟨h.1, ?_⟩
  rcases h.2 with h2 | ⟨g, cap, cur, rfl, hb, hg, h3⟩
  · exact .inl h2
  · exact .inr ⟨g, cap, cur, rfl, hb, (ho.block g (Array.getElem?_eq_some_iff.1 hg).1 (hn g rfl)).trans hg, h3⟩

theorem OwnE.below {w w' : World} {base : Nat} {t : TypeId} {v : Value} {L : List (En × Value)} (h : OwnE w base t v L) (hb : Below w.heap.size w w') : OwnE w' base t v L :=
  ⟨own19_only h.1 (Only.of_below hb (fun _ => False)) (fun _ _ h => h.elim), fun p hp => (h.2 p hp).below hb⟩

theorem OwnE.open_ {w : World} {base : Nat} {t : TypeId} {v : Value} {L : List (En × Value)} (h : OwnE w base t v L) : ∃ A n c, v = .slice A n c ∧ Hid (L.length = n) ∧ Hid (OwnE w base t (.slice A n c) L) := by
  have h0 := h
  rcases h.1.2 with ⟨rfl, _⟩ | ⟨g, cap, cur, rfl, _⟩
  · exact ⟨_, _, _, rfl, Lib.hid (by assumption), Lib.hid h0⟩
  · exact ⟨_, _, _, rfl, Lib.hid rfl, Lib.hid h0⟩

theorem OwnE.ens {w : World} {base : Nat} {t : TypeId} {v : Value} {L : List (En × Value)} (h : OwnE w base t v L) : Ens w v (L.map (·.1)) := by
  rcases h.1.2 with ⟨rfl, h0⟩ | ⟨g, cap, cur, rfl, hb, hg, hn, hm, hs, ht⟩
  · obtain rfl : L = [] := List.eq_nil_of_length_eq_zero h0
    exact ⟨none, 0, rfl, fun h => absurd h (by simp)⟩
  · refine ⟨_, cap, by rw [List.length_map], fun _ => ⟨g, 0, rfl, (Array.getElem?_eq_some_iff.1 hg).1, fun k x hk => ?_⟩⟩
    rw [List.getElem?_map, Option.map_eq_some_iff] at hk
    obtain ⟨p, hp, rfl⟩ := hk
    refine ⟨p.2, fun j v hv => ?_, h.2 p (List.mem_of_getElem? hp)⟩
    have h2 := enF_at hp j v hv
    rw [← ht, List.getElem?_take] at h2
    split at h2
    · rw [Nat.zero_add, cell_of_row w g (k * 8 + j) cur _ (0, 0) hg]
      simpa using h2
    · cases h2

theorem below_own {B : Nat} {w0 w w' : World} {e : TypeId} {size : Nat} {v : Value} {n : Nat} {xs : List Value} (h : Below B w0 w) (hB : B ≤ w.heap.size) (ho : w.ownsRow B e size v n xs) (hg : w.grownBy w' v.ownBlock) : Below B w0 w' := by
  refine h.trans ⟨hg.os, hg.tape, hg.output, hg.size, fun i hi => hg.block i (Nat.lt_of_lt_of_le hi hB) (fun e => ?_)⟩
  rcases ho.2 with ⟨rfl, _⟩ | ⟨g, cap, cur, rfl, hb, _⟩
  · cases e
  · simp only [Value.ownBlock, Option.some.injEq] at e
    omega

theorem own19_below {w w' : World} {base : Nat} {e : TypeId} {size : Nat} {v : Value} {n : Nat} {xs : List Value} (h : w.ownsRow base e size v n xs) (hb : Below w.heap.size w w') : w'.ownsRow base e size v n xs :=
  own19_only h (Only.of_below hb (fun _ => False)) (fun _ _ h => h.elim)

theorem entry_info : (Tryd.prog.info? 38).map (fun i => (i.zero, i.size, i.bytes)) = some (some (.agg #[.int .i64 0, .int .i64 0, .int .i64 0, .int .i64 0, .int .i64 0, .int .i64 0, .slice none 0 0, .int .i64 0]), 8, 80) := by kernel_rfl
theorem rentry_info : (Tryd.prog.info? 41).map (fun i => (i.zero, i.size, i.bytes)) = some (some (.agg #[.int .i64 0, .int .i64 0, .int .i64 0, .int .i64 0, .int .i64 0, .int .i64 0, .slice none 0 0, .int .i64 0]), 8, 80) := by kernel_rfl

/-- Some values in the lists' places. -/
theorem take_pairs {l : List En} {L : List (En × Value)} {k : Nat} {x : En} {u : Value} (h : L.map (·.1) = l.take k) (hx : l[k]? = some x) : (L ++ [(x, u)]).map (·.1) = l.take (k + 1) := by
  rw [List.map_append, h, List.take_add_one, hx]
  rfl

set_option maxRecDepth 100000 in
set_option maxHeartbeats 2000000 in
theorem plain19_any (v : Value) (l : List En) (w : World) (hv : Ens w v l) (hm : l.length ≤ 1000) :
    Calls Tryd.prog 11 #[v] w fun e w' => ∃ v', e = .returned v' ∧ Ens w' v' l ∧ Below w.heap.size w w' := by
  obtain ⟨i0, hi0, hz0, hz1, hz2⟩ := info_parts rentry_info
  obtain ⟨A, n, c, rfl, HN, HV⟩ := hv.open_
  rw [HN.out] at hm
  clear hv
  go_enter Tryd.func11, Tryd.ntmps11
  go_wp2
  go_loopw [3, 8] (fun lv iv wr => ∃ (k : Nat) (B : Option Addr) (d : Nat) (L : List (En × Value)), k ≤ n ∧ iv = .int .i64 k ∧ lv = .slice B k d ∧ Hid (L.map (·.1) = l.take k) ∧ Hid (wr.ownsRow w.heap.size 41 8 (.slice B k d) k (enF L)) ∧ Hid (∀ p ∈ L, Ld w p.1 p.2) ∧ Hid (Below w.heap.size w wr)) (fun _ iv _ => n + 1 - (intOf iv).toNat)
  case atStart => exact ⟨0, none, 0, [], Nat.zero_le _, rfl, rfl, Lib.hid rfl, Lib.hid (World.ownsRow_nil _ _ _ _), Lib.hid (fun p hp => by cases hp), Lib.hid (Below.refl _ _)⟩
  case round =>
    obtain ⟨k, B, d, L, hk, rfl, rfl, HL, HO, HE, HB⟩ := hrel
    by_cases hlt : k < n
    · obtain ⟨x, hx⟩ : ∃ x, l[k]? = some x := ⟨_, List.getElem?_eq_getElem (by rw [HN.out]; exact hlt)⟩
      obtain ⟨g1, o1, u, e1, hg1, hl1, d0, d1, d2, d3, d4, d5, d6, d7⟩ := HV.out.cells hx
      obtain ⟨g, o, rfl⟩ : ∃ g o, A = some ⟨g, o, none⟩ := ⟨g1, o1, e1⟩
      injection e1 with e1
      injection e1 with e1 e2
      subst e1 e2
      have c0 := (HB.out.cell (p := ⟨g, o + k * 8, none⟩) hg1).trans d0
      have c1 := (HB.out.cell (p := ⟨g, o + k * 8 + 1, none⟩) hg1).trans d1
      have c2 := (HB.out.cell (p := ⟨g, o + k * 8 + 2, none⟩) hg1).trans d2
      have c3 := (HB.out.cell (p := ⟨g, o + k * 8 + 3, none⟩) hg1).trans d3
      have c4 := (HB.out.cell (p := ⟨g, o + k * 8 + 4, none⟩) hg1).trans d4
      have c5 := (HB.out.cell (p := ⟨g, o + k * 8 + 5, none⟩) hg1).trans d5
      have c6 := (HB.out.cell (p := ⟨g, o + k * 8 + 6, none⟩) hg1).trans d6
      have c7 := (HB.out.cell (p := ⟨g, o + k * 8 + 7, none⟩) hg1).trans d7
      clear d0 d1 d2 d3 d4 d5 d6 d7
      obtain ⟨Au, nu, cu, rfl, HNU, HU⟩ := ld_open hl1
      have hkn : (k : Int) < (n : Int) := by omega
      have HX := Lib.hid hx
      have hsz := HB.out.size
      clear hl1 hx
      go_wp2_with (at_builtin; go_must ((refine app19_walk rfl (.tmp 12) (.tmp 14) 27 rfl w.heap.size 41 i0 _ 8 80 Tryd.underlying27 hi0 hz0 hz1 hz2 rfl (by omega) _ _ _ rfl (own19_below HO.out (show Below wr.heap.size wr _ from by go_grown)) _ 1 1 (row19 x (.slice Au nu cu)) rfl rfl (cells_new19 _ _ _ _ (by simp)) (row19_one rfl) (by unfold maxLen; omega) (by omega) (by simp; omega) ?_); intro v3 w3 hown3 hg3 hat3; obtain ⟨g', cap', rfl, hbg, hlt'⟩ := hown3.form (by omega); have O3 : Hid (w3.ownsRow w.heap.size 41 8 (.slice (some ⟨g', 0, none⟩) (k + 1) cap') (k + 1) (enF (L ++ [(x, .slice Au nu cu)]))) := Lib.hid (by rw [enF_append]; exact hown3); have B3 : Hid (Below w.heap.size w w3) := Lib.hid (below_own (below_on HB.out (show Below wr.heap.size wr _ from by go_grown)) (by simp; omega) (own19_below HO.out (show Below wr.heap.size wr _ from by go_grown)) hg3); clear hown3 hg3 hat3))
      have HL3 := Lib.hid (take_pairs (u := .slice Au nu cu) HL.out HX.out)
      clear HO HB
      go_roundw
      case rel => exact ⟨k + 1, some ⟨g', 0, none⟩, cap', L ++ [(x, .slice Au nu cu)], by omega, by go_num, rfl, HL3, O3, Lib.hid (fun p hp => by
        rcases List.mem_append.1 hp with hp | hp
        · exact HE.out p hp
        · simp only [List.mem_cons, List.not_mem_nil, or_false] at hp
          subst hp
          exact HU.out), B3⟩
      case measure => simp [intOf]; omega
    · obtain rfl : n = k := by omega
      go_wp2
      go_ret
      refine ⟨_, rfl, ?_, HB.out⟩
      have hl : L.length = n := by
        have := congrArg List.length HL.out
        simpa [HN.out] using this
      have h1 : OwnE wr w.heap.size 41 (.slice B n d) L := ⟨by rw [hl]; exact HO.out, fun p hp => (HE.out p hp).below HB.out⟩
      have h2 := h1.ens
      rw [HL.out, ← HN.out, List.take_length, HN.out] at h2
      exact h2

#print axioms plain19_any

#print axioms OwnE.ens
end Go.Proofs.YtikjokhpombjjaaDoor
