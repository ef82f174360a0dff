/-
  Layer 19 (diary): DiaryRight.
  Conditions: those that each theorem states.
-/
import Derived.Test.YtikjokhpombjjaaDoorDi6
import Derived.Test.YtikjokhpombjjaaDoorDi7
import Derived.Test.YtikjokhpombjjaaDoorDi11
import Derived.Test.YtikjokhpombjjaaDoorDi12
import Derived.Test.YtikjokhpombjjaaDoorDiO
namespace Go.Proofs.YtikjokhpombjjaaDoor
open Go.ChangeShapes Go.WideShapes Go.ChangeAt Go.RowKit

/-- As OfP, in entries. -/
def OfE (f t : Int) (l : List En) (w : World) (e : Ending) (w' : World) : Prop := ∃ v1 v2, e = .returned (.tuple #[v1, v2]) ∧ Ens w' v1 (l.filter (sentB f t)) ∧ Ens w' v2 (l.filter (takenB f t)) ∧ Below w.heap.size w w'
theorem OfP.e {f t : Int} {l : List En} {w : World} {e : Ending} {w' : World} (h : OfP f t l w e w') : OfE f t l w e w' := by
  obtain ⟨v1, v2, L1, L2, h1, h2, h3, h4, h5, h6⟩ := h
  exact ⟨v1, v2, h1, by rw [← h2]; exact h4.own.ens, by rw [← h3]; exact h5.own.ens, h6⟩
theorem filter_len {l : List En} {n : Nat} (h : l.length ≤ n) (p : En → Bool) : (l.filter p).length ≤ n := Nat.le_trans (List.length_filter_le _ _) h
theorem filter_load {l : List En} {n : Nat} (h : ∀ x ∈ l, x.load.length ≤ n) (p : En → Bool) : ∀ x ∈ l.filter p, x.load.length ≤ n := fun x hx => h x ((List.mem_filter.1 hx).1)

set_option maxRecDepth 100000 in
set_option maxHeartbeats 4000000 in
theorem diaryRight_any (f t : Int) (v : Value) (l : List En) (w : World) (hv : Ens w v l) (hm0 : l.length ≤ maxLen) :
    Calls Tryd.prog 3 #[v, .int .i64 f, .int .i64 t] w fun e w' => e = .returned (.bool true) ∧ Below w.heap.size w w' := by
  have KF := Lib.hid (few19_any 100 v l w hv hm0)
  by_cases hf : few19 l 100 = true
  · obtain ⟨hm1, hl⟩ := few19_yes hf
    have hm : l.length ≤ 1000 := by omega
    have hl2 : ∀ x ∈ l, x.load.length ≤ 65536 := fun x hx => by have := hl x hx; omega
    have KO := Lib.hid (fun (W : World) (h : Below w.heap.size w W) => (of19_any f t v l W (hv.below h) hm hl).mono (fun _ _ h => h.e))
    have KP := Lib.hid (fun (W : World) (h : Below w.heap.size w W) => plain19_any v l W (hv.below h) hm)
    have KR := Lib.hid (fun (W : World) (h : Below w.heap.size w W) => Right19_any v l W (hv.below h) hm hl2)
    obtain ⟨r, hr⟩ : ∃ r, rr19 l = r := ⟨_, rfl⟩
    obtain ⟨A, n, c, rfl, _, _⟩ := hv.open_
    clear hv hm1
    go_enter Tryd.func3, Tryd.ntmps3
    cases r <;> (
      go_wp2_with (first
        | (go_at_call 7; (with_reducible refine (KF.out).mono ?_); rintro e w1 ⟨rfl, b1⟩; rw [hf]; have B1 := Lib.hid b1; clear b1)
        | (go_at_call 9; (with_reducible refine (KO.out _ B1.out).mono ?_); rintro e w2 ⟨va, vb, rfl, ea, eb, b2⟩; have EA := Lib.hid ea; have EB := Lib.hid eb; have B2 := Lib.hid (below_on B1.out b2); clear ea eb b2)
        | (go_at_call 11; (with_reducible refine (KP.out _ B2.out).mono ?_); rintro e w3 ⟨vp, rfl, ep, b3⟩; have EP := Lib.hid ep; have EA3 := Lib.hid (EA.out.below b3); have EB3 := Lib.hid (EB.out.below b3); have B3 := Lib.hid (below_on B2.out b3); clear ep b3)
        | (go_at_call 10; (with_reducible refine (rof19_any f t vp l w3 EP.out hm).mono ?_); rintro e w4 ⟨vc, vd, rfl, ec, ed, b4⟩; have EC := Lib.hid ec; have ED := Lib.hid ed; have EA4 := Lib.hid (EA3.out.below b4); have EB4 := Lib.hid (EB3.out.below b4); have B4 := Lib.hid (below_on B3.out b4); clear ec ed b4)
        | (go_at_call 12; (with_reducible refine (KR.out _ B4.out).mono ?_); rintro e w5 ⟨rfl, b5⟩; rw [scan19_eq, hr]; have B5 := Lib.hid (below_on B4.out b5); have EA5 := Lib.hid (EA4.out.below b5); have EB5 := Lib.hid (EB4.out.below b5); have EC5 := Lib.hid (EC.out.below b5); have ED5 := Lib.hid (ED.out.below b5); clear b5)
        | (go_at_call 11; (with_reducible refine (KP.out _ B5.out).mono ?_); rintro e w6 ⟨vq, rfl, eq, b6⟩; have EQ := Lib.hid eq; have B6 := Lib.hid (below_on B5.out b6); have EA6 := Lib.hid (EA5.out.below b6); have EB6 := Lib.hid (EB5.out.below b6); have EC6 := Lib.hid (EC5.out.below b6); have ED6 := Lib.hid (ED5.out.below b6); clear eq b6)
        | (go_at_call 13; (with_reducible refine (rright19_any vq l w6 EQ.out hm hl2).mono ?_); rintro e w7 ⟨rfl, b7⟩; rw [hr]; have B7 := Lib.hid (below_on B6.out b7); have EA7 := Lib.hid (EA6.out.below b7); have EB7 := Lib.hid (EB6.out.below b7); have EC7 := Lib.hid (EC6.out.below b7); have ED7 := Lib.hid (ED6.out.below b7); clear b7)
        | (go_at_call 11; (with_reducible refine (plain19_any va (l.filter (sentB f t)) w7 EA7.out (filter_len hm _)).mono ?_); rintro e w8 ⟨vx, rfl, ex, b8⟩; have EX := Lib.hid ex; have B8 := Lib.hid (below_on B7.out b8); have EB8 := Lib.hid (EB7.out.below b8); have EC8 := Lib.hid (EC7.out.below b8); have ED8 := Lib.hid (ED7.out.below b8); clear ex b8)
        | (go_at_call 14; (with_reducible refine (rsame19_any (l.filter (sentB f t)) (l.filter (sentB f t)) vx vc w8 EX.out EC8.out (filter_len hm _) (filter_len hm _) (filter_load hl2 _) (filter_load hl2 _)).mono ?_); rintro e w9 ⟨rfl, b9⟩; rw [decide_eq_true (Eq.refl _)]; have B9 := Lib.hid (below_on B8.out b9); have EB9 := Lib.hid (EB8.out.below b9); have ED9 := Lib.hid (ED8.out.below b9); clear b9)
        | (go_at_call 11; (with_reducible refine (plain19_any vb (l.filter (takenB f t)) w9 EB9.out (filter_len hm _)).mono ?_); rintro e w10 ⟨vy, rfl, ey, b10⟩; have EY := Lib.hid ey; have B10 := Lib.hid (below_on B9.out b10); have ED10 := Lib.hid (ED9.out.below b10); clear ey b10)
        | (go_at_call 14; (with_reducible refine (rsame19_any (l.filter (takenB f t)) (l.filter (takenB f t)) vy vd w10 EY.out ED10.out (filter_len hm _) (filter_len hm _) (filter_load hl2 _) (filter_load hl2 _)).mono ?_); rintro e w11 ⟨rfl, b11⟩; rw [decide_eq_true (Eq.refl _)]; have B11 := Lib.hid (below_on B10.out b11); clear b11)
        | (go_at_call 8; (with_reducible refine (alive19_any w11).mono ?_); rintro e w12 ⟨rfl, b12⟩; have B12 := Lib.hid (below_on B11.out b12); clear b12))
      go_ret
      exact ⟨rfl, B12.out⟩)
  · have hf2 : few19 l 100 = false := by simpa using hf
    obtain ⟨A, n, c, rfl, _, _⟩ := hv.open_
    clear hv hf
    go_enter Tryd.func3, Tryd.ntmps3
    go_wp2_with (first
      | (go_at_call 7; (with_reducible refine (KF.out).mono ?_); rintro e w1 ⟨rfl, b1⟩; rw [hf2]; have B1 := Lib.hid b1; clear b1)
      | (go_at_call 8; (with_reducible refine (alive19_any w1).mono ?_); rintro e w12 ⟨rfl, b12⟩; have B12 := Lib.hid (below_on B1.out b12); clear b12))
    go_ret
    exact ⟨rfl, B12.out⟩

#print axioms diaryRight_any
end Go.Proofs.YtikjokhpombjjaaDoor
