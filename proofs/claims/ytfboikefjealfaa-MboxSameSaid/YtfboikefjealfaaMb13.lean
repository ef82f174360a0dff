/-
  Layer 9 (mbox): alike, EqualFunc, Same.
  Conditions: those that each theorem states.
-/
import Derived.Test.YtfboikefjealfaaMb12
import Derived.Test.YtfboikefjealfaaEqual
namespace Go.Proofs.Ytfboikefjealfaa
open Go.ChangeShapes Go.WideShapes Go.ChangeAt Go.RowKit

/-- What All leaves, seen from an earlier world w0 and from the world W of the call. -/
def All9 (q : List Int) (w0 W : World) (e : Ending) (w' : World) : Prop :=
  ∃ v, e = .returned v ∧ Hid (Lies w' (fun _ => True) v (ints q)) ∧ Below w0.heap.size w0 w' ∧ Hid (Below W.heap.size W w')

section
variable {g h N : Nat} {q q' : List Int} {w0 : World}

theorem all_9 (r : LaneQ w0 g h N q) (W : World) (hb : Below w0.heap.size w0 W) : Calls Try.prog 46 #[.pointer (some ⟨g, 0, none⟩)] W (All9 q w0 W) :=
  (all_any g h N q W (r.below hb)).mono fun _ _ ⟨v, he, hv, _, hb'⟩ => ⟨v, he, hv.weak (fun _ _ _ => trivial), below_on hb hb', hb'⟩

theorem equal_9 {P Q : Nat → Prop} {v u : Value} {W : World} (hv : Lies W P v (ints q)) (hu : Lies W Q u (ints q')) (h1 : q.length ≤ 65536) (h2 : q'.length ≤ 65536) (hb : Below w0.heap.size w0 W) :
    Calls Try.prog 45 #[v, u] W fun e w' => e = .returned (.bool (decide (q = q'))) ∧ Below w0.heap.size w0 w' :=
  (equal_quiet P Q v u q q' W hv hu h1 h2).mono fun _ _ ⟨he, m, hm⟩ => ⟨he, by rw [hm]; exact below_dn hb m⟩
end

theorem mail_eq {m m' : Mail} (h : MailOk m) (h' : MailOk m') : decide (m = m') = (decide (maskB m.1 = maskB m'.1) && decide (jns m.2 = jns m'.2)) := by
  by_cases h1 : m.1 = m'.1
  · by_cases h2 : m.2 = m'.2
    · have : m = m' := Prod.ext h1 h2
      simp [this]
    · have h3 : jns m.2 ≠ jns m'.2 := fun e => h2 (jns_inj (fun p hp => (h.low p hp).2.2) (fun p hp => (h'.low p hp).2.2) e)
      have h4 : m ≠ m' := fun e => h2 (by rw [e])
      simp [h3, h4]
  · have h3 : maskB m.1 ≠ maskB m'.1 := fun e => h1 (maskB_inj (by rw [h.len, h'.len]) e)
    have h4 : m ≠ m' := fun e => h1 (by rw [e])
    simp [h3, h4]

theorem keep4 {w0 W : World} {B : Nat} {a b c d : Value} (h1 : w0.cell? ⟨B, 0, none⟩ = some a) (h2 : w0.cell? ⟨B, 1, none⟩ = some b) (h3 : w0.cell? ⟨B + 1, 0, none⟩ = some c) (h4 : w0.cell? ⟨B + 1, 1, none⟩ = some d) (hl : B + 1 < w0.heap.size) (hb : Below w0.heap.size w0 W) :
    W.cell? ⟨B, 0, none⟩ = some a ∧ W.cell? ⟨B, 1, none⟩ = some b ∧ W.cell? ⟨B + 1, 0, none⟩ = some c ∧ W.cell? ⟨B + 1, 1, none⟩ = some d ∧ Below w0.heap.size w0 W :=
  ⟨(hb.cell (p := ⟨B, 0, none⟩) (by show B < _; omega)).trans h1, (hb.cell (p := ⟨B, 1, none⟩) (by show B < _; omega)).trans h2, (hb.cell (p := ⟨B + 1, 0, none⟩) hl).trans h3, (hb.cell (p := ⟨B + 1, 1, none⟩) hl).trans h4, hb⟩

set_option maxRecDepth 100000 in
set_option maxHeartbeats 2000000 in
theorem alike9 (g h g' h' : Nat) (m m' : Mail) (w : World) (hm : MailOk m) (hm' : MailOk m') (r : LaneQ w g h 16 (jns m.2)) (r' : LaneQ w g' h' 16 (jns m'.2)) :
    Calls Try.prog 32 #[.agg #[.int .i64 (maskB m.1), .pointer (some ⟨g, 0, none⟩)], .agg #[.int .i64 (maskB m'.1), .pointer (some ⟨g', 0, none⟩)]] w fun e w' => e = .returned (.bool (decide (m = m'))) ∧ Below w.heap.size w w' := by
  rw [mail_eq hm hm']
  have hb0 : Below w.heap.size w ((w.alloc (.cells #[.int .i64 (maskB m.1), .pointer (some ⟨g, 0, none⟩)] 66)).alloc (.cells #[.int .i64 (maskB m'.1), .pointer (some ⟨g', 0, none⟩)] 66)) := below_on (below_al _ _) (below_al _ _)
  have row1 := (Row.new w 66 #[.int .i64 (maskB m.1), .pointer (some ⟨g, 0, none⟩)]).below (below_al _ (.cells #[.int .i64 (maskB m'.1), .pointer (some ⟨g', 0, none⟩)] 66))
  have row2 := Row.new (w.alloc (.cells #[.int .i64 (maskB m.1), .pointer (some ⟨g, 0, none⟩)] 66)) 66 #[.int .i64 (maskB m'.1), .pointer (some ⟨g', 0, none⟩)]
  rw [size_al] at row2
  have r0 := r.below hb0
  have r0' := r'.below hb0
  have l1 : (jns m.2).length ≤ 65536 := by have := hm.fit; rw [jns_len]; omega
  have l2 : (jns m'.2).length ≤ 65536 := by have := hm'.fit; rw [jns_len]; omega
  obtain ⟨a, ha⟩ : ∃ a, maskB m.1 = a := ⟨_, rfl⟩
  obtain ⟨b, hb⟩ : ∃ a, maskB m'.1 = a := ⟨_, rfl⟩
  rw [ha, hb] at hb0 row1 row2 r0 r0' ⊢
  have HB0 := Lib.hid hb0
  have L1 := Lib.hid l1
  have L2 := Lib.hid l2
  clear ha hb r r' hm hm' hb0 l1 l2
  by_cases hab : a = b
  · subst hab
    have e1 : (a == a) = true := by simp
    have e2 : (decide (a = a) && decide (jns m.2 = jns m'.2)) = decide (jns m.2 = jns m'.2) := by simp
    rw [e2]
    obtain ⟨D, hD⟩ : ∃ D, decide (jns m.2 = jns m'.2) = D := ⟨_, rfl⟩
    rw [hD]
    have HD := Lib.hid hD
    clear e2 hD
    go_enter Try.func32, Try.ntmps32
    go_wp2
    generalize (w.alloc (.cells #[.int .i64 a, .pointer (some ⟨g, 0, none⟩)] 66)).alloc (.cells #[.int .i64 a, .pointer (some ⟨g', 0, none⟩)] 66) = w0 at r0 r0' row1 row2 HB0 ⊢
    have f0 := row1.cell 0
    have f1 := row1.cell 1
    have y0 := row2.cell 0
    have y1 := row2.cell 1
    have hlt := row2.lt
    simp only [List.getElem?_cons_zero, List.getElem?_cons_succ] at f0 f1 y0 y1
    have hbb : Below w0.heap.size w0 w0 := Below.refl _ _
    have al := Lib.hid (all_9 r0)
    have al' := Lib.hid (all_9 r0')
    generalize w.heap.size = B at f0 f1 y0 y1 hlt ⊢
    clear r0 r0' row1 row2
    go_region_held3 (fun w' => w'.cell? ⟨B, 0, none⟩ = some (.int .i64 a) ∧ w'.cell? ⟨B, 1, none⟩ = some (.pointer (some ⟨g, 0, none⟩)) ∧ w'.cell? ⟨B + 1, 0, none⟩ = some (.int .i64 a) ∧ w'.cell? ⟨B + 1, 1, none⟩ = some (.pointer (some ⟨g', 0, none⟩)) ∧ Below w0.heap.size w0 w')
      (first
        | exact keep4 f0 f1 y0 y1 hlt hb7
        | exact keep4 f0 f1 y0 y1 hlt hb6
        | exact keep4 f0 f1 y0 y1 hlt hb5
        | exact keep4 f0 f1 y0 y1 hlt hbb.drew
        | exact keep4 f0 f1 y0 y1 hlt hbb
        | go_keep)
      (first
        | (go_at_call 46; (with_reducible refine (al.out _ ?_).mono ?_); (go_split_ands; assumption); rintro e w5 ⟨v5, rfl, hv5, hb5, hk5⟩)
        | (go_at_call 46; (with_reducible refine (al'.out _ ?_).mono ?_); (go_split_ands; assumption); rintro e w6 ⟨v6, rfl, hv6, hb6, hk6⟩)
        | (go_at_call 45; (with_reducible refine (equal_9 (w0 := w0) hv5.out (hv6.out.below hk5.out) L1.out L2.out ?_).mono ?_); (go_split_ands; assumption); rintro e w7 ⟨rfl, hb7⟩; rw [HD.out])
        | (go_at_call 45; (with_reducible refine (equal_9 (w0 := w0) (hv5.out.below hk6.out) hv6.out L1.out L2.out ?_).mono ?_); (go_split_ands; assumption); rintro e w7 ⟨rfl, hb7⟩; rw [HD.out]))
    all_goals
      go_wp2
      go_ret
      exact ⟨rfl, below_on HB0.out hb7⟩
  · have e1 : (a == b) = false := by simpa using hab
    have e2 : (decide (a = b) && decide (jns m.2 = jns m'.2)) = false := by simp [hab]
    rw [e2]
    clear hab e2 row1 row2 r0 r0'
    go_enter Try.func32, Try.ntmps32
    go_wp2
    go_quiet (fail)
    go_wp2
    go_ret
    exact ⟨rfl, below_dn HB0.out _⟩

#print axioms alike9
end Go.Proofs.Ytfboikefjealfaa
