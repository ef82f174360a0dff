/-
  Contracts of layer 3 (sram), second part: Load, Span, Fill, Store, Clone.
  Conditions: those that each theorem states.
-/
import Derived.Test.YtgoogclcpnfmkaaRam
namespace Go.Proofs.Ytgoogclcpnfmkaa
open Go.ChangeShapes Go.WideShapes Go.ChangeAt Go.RowKit

set_option maxRecDepth 100000 in
set_option maxHeartbeats 400000 in
theorem load_nil (a : Int) (w : World) :
    Calls Try.prog 58 #[.pointer none, .int .i64 a] w fun e w' => e = .returned (.tuple #[.int .i64 0, .int .i64 1]) ∧ w = w' := by
  go_enter Try.func58, Try.ntmps58
  go_wp2_with (go_at_call 83; refine (check_nil _ _ _).mono ?_; rintro e w' ⟨rfl, rfl⟩)
  go_ret2
  exact ⟨rfl, rfl⟩

theorem check_ok (g h : Nat) (l : List Int) (a n : Int) (w : World) (r : RamAt w g h l) (hn : n ≤ 9223372036854775807) (hE : runE l.length a n = 0) :
    Calls Try.prog 83 #[ptr g, .int .i64 a, .int .i64 n] w fun e w' => e = .returned (.int .i64 0) ∧ w = w' := by
  have h := check_any g h l a n w r hn
  rwa [hE] at h

set_option maxRecDepth 100000 in
set_option maxHeartbeats 400000 in
theorem load_any (g h : Nat) (l : List Int) (a : Int) (w : World) (r : RamAt w g h l) :
    Calls Try.prog 58 #[ptr g, .int .i64 a] w fun e w' => e = .returned (.tuple #[.int .i64 (loadV l a), .int .i64 (runE l.length a 1)]) ∧ w = w' := by
  have hc : w.cell? ⟨g, 0, none⟩ = some (.slice (some ⟨h, 0, none⟩) l.length l.length) := r.top.cell 0
  have hl := r.len
  by_cases hE : runE l.length a 1 = 0
  · obtain ⟨_, h2, h3⟩ := runE_ok hE
    obtain ⟨k, rfl⟩ := Int.eq_ofNat_of_zero_le h2
    have hk : k < l.length := by omega
    have hcell : w.cell? ⟨h, k, none⟩ = some (.int .i64 (l.getD k 0)) := by rw [r.low.cell k]; exact ints_at l k hk
    have hv : loadV l k = l.getD k 0 := by unfold loadV; rw [if_pos hE]; simp
    have HE := Lib.hid hE; clear hE
    have HV := Lib.hid hv; clear hv
    have ck := Lib.hid (check_ok g h l k 1 w r (by omega) HE.out)
    go_enter Try.func58, Try.ntmps58
    go_wp2_with (go_at_call 83; refine ck.out.mono ?_; rintro e w' ⟨rfl, rfl⟩; unfold ptr)
    go_ret2
    exact ⟨by rw [HV.out, HE.out]; simp [List.getD_eq_getElem?_getD, hk], rfl⟩
  · have hb : (runE (l.length : Int) a 1 != 0) = true := by simpa using hE
    have hv : loadV l a = 0 := by unfold loadV; rw [if_neg hE]
    clear hE
    have HV := Lib.hid hv; clear hv
    have ck := Lib.hid (check_any g h l a 1 w r (by omega))
    go_enter Try.func58, Try.ntmps58
    go_wp2_with (go_at_call 83; refine ck.out.mono ?_; rintro e w' ⟨rfl, rfl⟩; unfold ptr)
    go_ret2
    exact ⟨by rw [HV.out]; rfl, rfl⟩

set_option maxRecDepth 100000 in
set_option maxHeartbeats 800000 in
theorem copied_any (P : Nat → Prop) (v : Value) (l : List Int) (n : Nat) (w : World) (hv : Lies w P v (ints l)) (hn : l.length = n) (hl : n ≤ 65536) :
    Calls Try.prog 77 #[v] w fun e w' => e = .returned (.slice (some ⟨w.heap.size, 0, none⟩) n n) ∧ Row w' w.heap.size 3 (ints l) ∧ Below w.heap.size w w' := by
  obtain ⟨A, c, rfl, hA⟩ := hv
  rw [ints_len, hn] at hA ⊢
  have HN := Lib.hid hn; clear hn
  have hmk := fun W => run_make_row' (P := Try.prog) 30 3 (.int .i64 0) 8 Try.underlying30 int_info rfl .i64 .i64 n (by omega) (by omega) W
  have hr := Row.new w 3 (madeCells #[Value.int .i64 0] n)
  rw [ints_zeros] at hr
  have HR := Lib.hid hr; clear hr
  have HA := Lib.hid hA; clear hA
  go_enter Try.func77, Try.ntmps77
  go_wp2_with (with_reducible refine wpList_copy_splice rfl (.tmp 7) (.tmp 8) 30 30 rfl 3 Try.underlying30 int_size (some ⟨w.heap.size, 0, none⟩) A n n n c rfl rfl w.heap.size 0 _ 3 HR.out.raw (ints l) ?c1 ?c2 ?c3 (ints_one l) w.heap.size w ((Below.refl _ _).alloc (Nat.le_refl _) _) (Nat.le_refl _) ?_)
  case c1 => rw [ints_len, HN.out]; exact (Nat.min_self _).symm
  case c2 =>
    intro hp
    obtain ⟨g, o, rfl, hP, hlt, hc⟩ := HA.out (by rwa [ints_len, HN.out] at hp)
    refine ⟨_, rfl, fun j u hu => ?_⟩
    rw [Addr.add_lit, World.cell?_alloc_lt _ _ _ hlt]
    exact hc j u hu
  case c3 => simp [ints_len, HN.out]
  intro w2 hw2 hb2
  go_wp2
  go_ret
  refine ⟨rfl, ?_, hb2⟩
  have := hw2.out
  rwa [splice_all _ _ (by simp [ints_len, HN.out])] at this

/-- What Span leaves. -/
def SpanP (l : List Int) (a n : Int) (w : World) (e : Ending) (w' : World) : Prop :=
  ∃ v, e = .returned (.tuple #[v, .int .i64 (runE l.length a n)]) ∧ Lies w' (w.heap.size ≤ ·) v (ints (spanL l a n)) ∧ Below w.heap.size w w'

set_option maxRecDepth 100000 in
set_option maxHeartbeats 400000 in
theorem span_nil (a n : Int) (w : World) :
    Calls Try.prog 61 #[.pointer none, .int .i64 a, .int .i64 n] w fun e w' => e = .returned (.tuple #[.slice none 0 0, .int .i64 1]) ∧ w = w' := by
  go_enter Try.func61, Try.ntmps61
  go_wp2_with (go_at_call 83; refine (check_nil _ _ _).mono ?_; rintro e w' ⟨rfl, rfl⟩)
  go_ret2
  exact ⟨rfl, rfl⟩

set_option maxRecDepth 100000 in
set_option maxHeartbeats 800000 in
theorem span_any (g h : Nat) (l : List Int) (a n : Int) (w : World) (r : RamAt w g h l) (hn : n ≤ 9223372036854775807) :
    Calls Try.prog 61 #[ptr g, .int .i64 a, .int .i64 n] w (SpanP l a n w) := by
  have hc : w.cell? ⟨g, 0, none⟩ = some (.slice (some ⟨h, 0, none⟩) l.length l.length) := r.top.cell 0
  have hl := r.len
  by_cases hE : runE l.length a n = 0
  · obtain ⟨h1, h2, h3⟩ := runE_ok hE
    obtain ⟨k, rfl⟩ := Int.eq_ofNat_of_zero_le h2
    obtain ⟨m, rfl⟩ := Int.eq_ofNat_of_zero_le h1
    obtain ⟨A, hs, hA⟩ := slice_ints h l.length k m (by omega)
    have hlen : ((l.drop k).take m).length = m := by simp; omega
    have hlies : Lies w (fun _ => True) (.slice A m (l.length - k)) (ints ((l.drop k).take m)) := by
      refine ⟨A, l.length - k, by rw [ints_len, hlen], fun hp => ?_⟩
      rw [ints_len, hlen] at hp
      refine ⟨h, k, hA hp, trivial, r.low.lt, fun j u hu => ?_⟩
      rw [r.low.cell, ← hu]
      simp only [ints, List.getElem?_map, List.getElem?_take, List.getElem?_drop]
      rw [if_pos]
      have := (List.getElem?_eq_some_iff.1 hu).1
      rwa [ints_len, hlen] at this
    have hv : spanL l k m = (l.drop k).take m := by unfold spanL; rw [if_pos hE]; simp
    have ck := Lib.hid (check_ok g h l k m w r hn hE)
    have cp := Lib.hid (copied_any (fun _ => True) (.slice A m (l.length - k)) _ m w hlies hlen (by omega))
    have HE := Lib.hid hE; clear hE
    have HV := Lib.hid hv; clear hv
    have HL := Lib.hid hlen; clear hlen
    clear hA hlies
    go_enter Try.func61, Try.ntmps61
    go_wp2_with (first
      | (go_at_call 83; refine ck.out.mono ?_; rintro e w' ⟨rfl, rfl⟩; unfold ptr)
      | (go_at_call 77; refine cp.out.mono ?_; rintro e w' ⟨rfl, hrow, hb⟩))
    go_ret2
    refine ⟨_, by rw [HE.out]; rfl, ?_, hb⟩
    rw [HV.out]
    have := Lies.of_row (P := (w.heap.size ≤ ·)) hrow (Nat.le_refl _) m
    rwa [ints_len, HL.out] at this
  · have hb : (runE (l.length : Int) a n != 0) = true := by simpa using hE
    have hv : spanL l a n = [] := by unfold spanL; rw [if_neg hE]
    clear hE
    have HV := Lib.hid hv; clear hv
    have ck := Lib.hid (check_any g h l a n w r hn)
    go_enter Try.func61, Try.ntmps61
    go_wp2_with (go_at_call 83; refine ck.out.mono ?_; rintro e w' ⟨rfl, rfl⟩; unfold ptr)
    go_ret2
    refine ⟨_, rfl, ?_, Below.refl _ _⟩
    rw [HV.out]
    exact Lies.nil_ _ _

#print axioms load_any
#print axioms span_any
end Go.Proofs.Ytgoogclcpnfmkaa
