/-
  Layer 7 (litmus): the law LitmusOrder.
  Conditions: those that each theorem states.
-/
import Derived.Test.YtgljgpllooehkaaLit28
import Derived.Test.YtgljgpllooehkaaLit26
namespace Go.Proofs.Ytgljgpllooehkaa
open Go.ChangeShapes Go.WideShapes Go.ChangeAt Go.RowKit

theorem own_open {w : World} {base n : Nat} {e : TypeId} {v : Value} {xs : List Value} (h : w.ownsRow base e 1 v n xs) (hn0 : 0 < n) : ∃ g c, v = .slice (some ⟨g, 0, none⟩) n c ∧ g < w.heap.size ∧ ∀ k u, xs[k]? = some u → w.cell? ⟨g, k, none⟩ = some u := by
  obtain ⟨A, c, hv, hc⟩ := Lies.of_own h
  have hl : xs.length = n := by have := h.1; simpa using this
  obtain ⟨g, o, rfl, _, hlt, hcell⟩ := hc (by omega)
  rcases h.2 with ⟨_, h0⟩ | ⟨g', cap, cur, rfl, _⟩
  · omega
  · injection hv with e1 e2 e3
    injection e1 with e1
    injection e1 with e4 e5
    subst e4 e5
    exact ⟨_, _, rfl, hlt, fun k u hk => by have := hcell k u hk; rwa [Nat.zero_add] at this⟩

/-- Two programs in blocks of their own. -/
theorem two_prg (w : World) (l1 l2 : List Opn) (n1 n2 : Nat) (h1 : l1.length = n1) (h2 : l2.length = n2) (hs1 : ∀ o ∈ l1, ∀ z ∈ opL o, -9223372036854775808 ≤ z ∧ z ≤ 9223372036854775807) (hs2 : ∀ o ∈ l2, ∀ z ∈ opL o, -9223372036854775808 ≤ z ∧ z ≤ 9223372036854775807) :
    Prg (((w.alloc (.cells (ints (l1.flatMap opL)).toArray 40)).alloc (.cells (ints (l2.flatMap opL)).toArray 40)).alloc
      (.cells #[.slice (some ⟨w.heap.size, 0, none⟩) n1 n1, .slice (some ⟨w.heap.size + 1, 0, none⟩) n2 n2] 38)) (.slice (some ⟨w.heap.size + 1 + 1, 0, none⟩) 2 2) [l1, l2] := by
  subst h1 h2
  obtain ⟨w1, e1⟩ : ∃ w1, w.alloc (.cells (ints (l1.flatMap opL)).toArray 40) = w1 := ⟨_, rfl⟩
  have r1 : Row w1 w.heap.size 40 (ints (l1.flatMap opL)) := by rw [← e1]; simpa using Row.new w 40 (ints (l1.flatMap opL)).toArray
  have s1 : w1.heap.size = w.heap.size + 1 := by rw [← e1]; simp
  rw [e1]
  obtain ⟨w2, e2⟩ : ∃ w2, w1.alloc (.cells (ints (l2.flatMap opL)).toArray 40) = w2 := ⟨_, rfl⟩
  have r2 : Row w2 (w.heap.size + 1) 40 (ints (l2.flatMap opL)) := by rw [← e2, ← s1]; simpa using Row.new w1 40 (ints (l2.flatMap opL)).toArray
  have b2 : Below w1.heap.size w1 w2 := by rw [← e2]; exact below_al _ _
  have s2 : w2.heap.size = w.heap.size + 1 + 1 := by rw [← e2]; simp [s1]
  rw [e2, ← s2]
  have r3 := Row.new w2 38 #[.slice (some ⟨w.heap.size, 0, none⟩) l1.length l1.length, .slice (some ⟨w.heap.size + 1, 0, none⟩) l2.length l2.length]
  have q1 := (r1.below b2).below (below_al w2 (.cells #[.slice (some ⟨w.heap.size, 0, none⟩) l1.length l1.length, .slice (some ⟨w.heap.size + 1, 0, none⟩) l2.length l2.length] 38))
  have q2 := r2.below (below_al w2 (.cells #[.slice (some ⟨w.heap.size, 0, none⟩) l1.length l1.length, .slice (some ⟨w.heap.size + 1, 0, none⟩) l2.length l2.length] 38))
  refine ⟨_, 2, rfl, fun _ => ⟨_, rfl, r3.lt, fun k l hk => ?_⟩⟩
  rw [Addr.add_lit, Nat.zero_add, r3.cell]
  match k, hk with
  | 0, hk =>
    obtain rfl : _ = l := by simpa using hk
    exact ⟨_, rfl, ops_row q1 hs1 _⟩
  | 1, hk =>
    obtain rfl : _ = l := by simpa using hk
    exact ⟨_, rfl, ops_row q2 hs2 _⟩
  | k + 2, hk => simp at hk

theorem ord_small {x y : Nat} {a b : Int} (hx : x < 4) (hy : y < 4) (ha : 1 ≤ a) (hb : 1 ≤ b) (ha9 : a ≤ 9) (hb9 : b ≤ 9) : ∀ l ∈ ordP x y a b, ∀ o ∈ l, ∀ z ∈ opL o, -9223372036854775808 ≤ z ∧ z ≤ 9223372036854775807 := by
  intro l hl o ho z hz
  obtain ⟨k1, k4, a0, a3, g0, g3, x0, x9⟩ := ((ord_right (N := 0) hx hy (by omega) ha hb ha9 hb9).each l hl).2 o ho
  simp only [opL, List.mem_cons, List.not_mem_nil, or_false] at hz
  rcases hz with rfl | rfl | rfl | rfl <;> omega

set_option maxRecDepth 100000 in
set_option maxHeartbeats 2000000 in
theorem order_main (x y N : Nat) (a b : Int) (w : World) (hx : x < 4) (hy : y < 4) (hne : x ≠ y) (hN : N < 5) (ha : 1 ≤ a) (hb : 1 ≤ b) (ha9 : a ≤ 9) (hb9 : b ≤ 9) :
    Calls Try.prog 7 #[.agg #[.int .i64 (x : Int), .int .i64 (y : Int)], .agg #[.int .i64 a, .int .i64 b], .int .i64 (N : Int)] w fun e w' => e = .returned (.bool true) ∧ Below w.heap.size w w' := by
  have t1 : decide ((x : Int) < 0) = false := by simp
  have t2 : decide (3 < (x : Int)) = false := by simp; omega
  have t2' : decide (3 < x) = false := by simp; omega
  have t3 : decide ((y : Int) < 0) = false := by simp
  have t4 : decide (3 < (y : Int)) = false := by simp; omega
  have t4' : decide (3 < y) = false := by simp; omega
  have t5 : ((x : Int) == (y : Int)) = false := by simp; omega
  have t5' : (x == y) = false := by simp; omega
  have t6 : decide (a < 1) = false := by simp; omega
  have t7 : decide (9 < a) = false := by simp; omega
  have t8 : decide (b < 1) = false := by simp; omega
  have t9 : decide (9 < b) = false := by simp; omega
  have t10 : decide ((N : Int) < 0) = false := by simp
  have t11 : decide (4 < (N : Int)) = false := by simp; omega
  have t11' : decide (4 < N) = false := by simp; omega
  have sm := ord_small hx hy ha hb ha9 hb9
  have OY := Lib.hid (outcomes_yes N _ (ordP x y a b) _ ((two_prg ((w.alloc (.cells #[.int .i64 (x : Int), .int .i64 (y : Int)] 41)).alloc (.cells #[.int .i64 a, .int .i64 b] 41)) _ _ 2 2 rfl rfl (sm _ (List.mem_cons_self ..)) (sm _ (List.mem_cons_of_mem _ (List.mem_cons_self ..)))).below (Below.refl _ _).drew) (ord_right hx hy hN ha hb ha9 hb9))
  have BB := Lib.hid ((((((below_al w (.cells #[.int .i64 (x : Int), .int .i64 (y : Int)] 41)).alloc (by simp) (.cells #[.int .i64 a, .int .i64 b] 41)).alloc (by simp; omega) (.cells (ints ([⟨2, x, a, 0⟩, ⟨2, y, b, 0⟩].flatMap opL)).toArray 40)).alloc (by simp; omega) (.cells (ints ([⟨1, y, 0, 1⟩, ⟨1, x, 0, 2⟩].flatMap opL)).toArray 40)).alloc (by simp; omega) (.cells #[.slice (some ⟨w.heap.size + 1 + 1, 0, none⟩) 2 2, .slice (some ⟨w.heap.size + 1 + 1 + 1, 0, none⟩) 2 2] 38)).drew)
  clear sm
  simp only [size_al'] at OY
  go_enter Try.func7, Try.ntmps7
  go_wp2
  go_region
  go_wp2_with fail
  refine OY.out.mono ?_
  rintro e w1 ⟨lv, vs, L, rfl, hl, ho, hb1, hmost⟩
  obtain rfl : L = ordL x y a b := Outs.eq ho (ord_outs hx hy hne hN ha hb)
  have hv3 : vs.length = 3 := by rw [hl.len]; rfl
  obtain ⟨g, lc, elv, hgl, hgc⟩ := own_open hl.own (by omega)
  rw [hv3] at elv
  subst elv
  have B1 := Lib.hid (BB.out.trans (hb1.mono BB.out.size))
  have b0 : w1.cell? ⟨w.heap.size + 1, 0, none⟩ = some (.int .i64 a) := (hb1.cell (p := ⟨w.heap.size + 1, 0, none⟩) (by simp)).trans (by simp [go_sem])
  have b1 : w1.cell? ⟨w.heap.size + 1, 1, none⟩ = some (.int .i64 b) := (hb1.cell (p := ⟨w.heap.size + 1, 1, none⟩) (by simp)).trans (by simp [go_sem])
  have hbs : w.heap.size + 1 < w1.heap.size := by have := hb1.size; simp at this; omega
  have ELT : Hid (∀ (k : Nat) (l : List Int), (ordL x y a b)[k]? = some l → ∃ (gk ck : Nat), gk < w1.heap.size ∧ w1.cell? ⟨g, k, none⟩ = some (.slice (some ⟨gk, 0, none⟩) 12 ck) ∧ (∀ z, l[5]? = some z → w1.cell? ⟨gk, 5, none⟩ = some (.int .i64 z)) ∧ (∀ z, l[6]? = some z → w1.cell? ⟨gk, 6, none⟩ = some (.int .i64 z))) := Lib.hid (fun k l hk => by
    have hkl := (List.getElem?_eq_some_iff.1 hk).1
    have hk3 : k < vs.length := by rw [hl.len]; exact hkl
    have hu : vs[k]? = some vs[k] := List.getElem?_eq_getElem hk3
    have how := hl.each k _ l hu hk
    have hl12 : l.length = 12 := by
      have := List.mem_of_getElem? hk
      simp only [ordL, List.mem_cons, List.not_mem_nil, or_false] at this
      rcases this with rfl | rfl | rfl <;> simp [ordM]
    rw [hl12] at how
    obtain ⟨gk, ck, e, h1, h2⟩ := own_open how (by omega)
    exact ⟨gk, ck, h1, by rw [← e]; exact hgc k _ hu, fun z hz => h2 5 _ (ints_some hz), fun z hz => h2 6 _ (ints_some hz)⟩)
  have u1 : (0 == b) = false := by simp; omega
  have u2 : (a != a) = false := by simp
  have u3 : (b == b) = true := by simp
  clear hl ho hb1 hmost hgc hv3 OY BB hx hy hne hN ha hb ha9 hb9
  go_wp2
  go_loopw [11, 90] (fun seen idx wr => ∃ k : Nat, k ≤ 3 ∧ idx = .int .i64 k ∧ seen = .bool (decide (k = 3)) ∧ Below w1.heap.size w1 wr) (fun _ idx _ => 3 - (intOf idx).toNat)
  case atStart => exact ⟨0, by omega, rfl, by simp, Below.refl _ _⟩
  case round =>
    obtain ⟨k, hk, rfl, rfl, hbr⟩ := hrel
    have e0 : wr.cell? ⟨w.heap.size + 1, 0, none⟩ = some (.int .i64 a) := (hbr.cell (p := ⟨w.heap.size + 1, 0, none⟩) hbs).trans b0
    have e1 : wr.cell? ⟨w.heap.size + 1, 1, none⟩ = some (.int .i64 b) := (hbr.cell (p := ⟨w.heap.size + 1, 1, none⟩) hbs).trans b1
    clear b0 b1
    rcases (show k = 0 ∨ k = 1 ∨ k = 2 ∨ k = 3 by omega) with rfl | rfl | rfl | rfl
    · have EX := ELT.out 0 _ rfl
      obtain ⟨gk, ck, hgk, hu, h5, h6⟩ := EX
      have d0 : wr.cell? ⟨g, 0, none⟩ = some (.slice (some ⟨gk, 0, none⟩) 12 ck) := (hbr.cell (p := ⟨g, 0, none⟩) hgl).trans hu
      have d5 : wr.cell? ⟨gk, 5, none⟩ = some (.int .i64 0) := (hbr.cell (p := ⟨gk, 5, none⟩) hgk).trans (h5 _ rfl)
      have d6 : wr.cell? ⟨gk, 6, none⟩ = some (.int .i64 0) := (hbr.cell (p := ⟨gk, 6, none⟩) hgk).trans (h6 _ rfl)
      have HB := Lib.hid hbr
      clear hu h5 h6 hbr hgk
      go_wp2
      go_region
      go_wp2
      go_region
      go_wp2
      all_goals exact ⟨⟨1, by omega, rfl, by simp, HB.out.drew.drew⟩, by simp [intOf]⟩
    · have EX := ELT.out 1 _ rfl
      obtain ⟨gk, ck, hgk, hu, h5, h6⟩ := EX
      have d0 : wr.cell? ⟨g, 1, none⟩ = some (.slice (some ⟨gk, 0, none⟩) 12 ck) := (hbr.cell (p := ⟨g, 1, none⟩) hgl).trans hu
      have d5 : wr.cell? ⟨gk, 5, none⟩ = some (.int .i64 0) := (hbr.cell (p := ⟨gk, 5, none⟩) hgk).trans (h5 _ rfl)
      have d6 : wr.cell? ⟨gk, 6, none⟩ = some (.int .i64 a) := (hbr.cell (p := ⟨gk, 6, none⟩) hgk).trans (h6 _ rfl)
      have HB := Lib.hid hbr
      clear hu h5 h6 hbr hgk
      go_wp2
      go_region
      go_wp2
      go_region
      go_wp2
      all_goals exact ⟨⟨2, by omega, rfl, by simp, HB.out.drew.drew⟩, by simp [intOf]⟩
    · have EX := ELT.out 2 _ rfl
      obtain ⟨gk, ck, hgk, hu, h5, h6⟩ := EX
      have d0 : wr.cell? ⟨g, 2, none⟩ = some (.slice (some ⟨gk, 0, none⟩) 12 ck) := (hbr.cell (p := ⟨g, 2, none⟩) hgl).trans hu
      have d5 : wr.cell? ⟨gk, 5, none⟩ = some (.int .i64 b) := (hbr.cell (p := ⟨gk, 5, none⟩) hgk).trans (h5 _ rfl)
      have d6 : wr.cell? ⟨gk, 6, none⟩ = some (.int .i64 a) := (hbr.cell (p := ⟨gk, 6, none⟩) hgk).trans (h6 _ rfl)
      have HB := Lib.hid hbr
      clear hu h5 h6 hbr hgk
      go_wp2
      go_region
      go_wp2
      go_region
      go_wp2
      all_goals exact ⟨⟨3, by omega, rfl, by simp, HB.out.drew.drew⟩, by simp [intOf]⟩
    · have HB := Lib.hid hbr
      clear hbr
      go_wp2_with (go_at_call 10; refine (alive_any _).mono ?_; rintro e w6 ⟨rfl, hb6⟩)
      go_ret
      exact ⟨rfl, below_on (below_on B1.out HB.out) hb6⟩

#print axioms order_main
end Go.Proofs.Ytgljgpllooehkaa
