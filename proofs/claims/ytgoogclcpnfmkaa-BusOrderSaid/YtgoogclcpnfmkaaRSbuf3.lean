/-
  Contracts of the reference of layer 5, second part: Drain, Find.
  Conditions: those that each theorem states.
-/
import Derived.Test.YtgoogclcpnfmkaaRSbuf2
namespace Go.Proofs.Ytgoogclcpnfmkaa
open Go.ChangeShapes Go.WideShapes Go.ChangeAt Go.RowKit

/-- A slice of stores from k on. -/
theorem slice_st (A : Option Addr) (n c k : Nat) (hk : k ≤ n) (W : World) : (Instr.slice 60 (.slice A n c) (some (.int .i64 (k : Int))) none none).run Try.prog W = .ok (.slice (if c = k then A else A.map (·.add (k * 2))) (n - k) (c - k)) W := by
  have hz : (sizeOf (Try.prog.elem 60)).run Try.prog W = .ok 2 W := by
    have : Try.prog.elem 60 = 62 := by kernel_rfl
    rw [this]
    obtain ⟨i, hi, _, hs, _⟩ := info_parts st_info
    simp [sizeOf, typeInfo, hi, hs]
  rw [run_slice_l (P := Try.prog) (w := W) 60 A n c (by kernel_rfl) .i64 (k : Int) (by omega) (by omega), hz]
  have e1 : ((k : Int)).toNat = k := by omega
  simp only [Result.andThen, sliced, e1]

/-- What Drain of the reference answers. -/
def rdrL : List (Int × Int) → List Value
  | [] => [stV 0 0, .bool false]
  | p :: _ => [stV p.1 p.2, .bool true]

set_option maxRecDepth 100000 in
set_option maxHeartbeats 1000000 in
theorem rbdrain_empty (P : Nat → Prop) (N : Nat) (v : Value) (w : World) (hv : Two w P v (sts [])) (hcap : CapOk v) :
    Calls Try.prog 70 #[rbufV N v] w (RBufP P N [] [stV 0 0, .bool false] w) := by
  obtain ⟨A, n, c, rfl, HN, HV⟩ := hv.open_
  have hn0 : n = 0 := HN.out.symm
  subst hn0
  have b3 : Hid (∀ x y z : Obj, Below w.heap.size w (((w.alloc x).alloc y).alloc z)) := Lib.hid (fun x y z => below_on (below_on (below_al _ _) (below_al _ _)) (below_al _ _))
  clear hv HN
  unfold rbufV stV
  go_enter Try.func70, Try.ntmps70
  go_wp2
  exact bodyPost_ret (v := .tuple #[.agg #[.int .i64 N, .slice A 0 c], .agg #[.int .i64 0, .int .i64 0], .bool false]) (by simp [results, Try.results70, go_sem]) rfl ⟨_, rfl, HV.out.below (b3.out _ _ _), hcap, b3.out _ _ _⟩

set_option maxRecDepth 100000 in
set_option maxHeartbeats 1000000 in
theorem rbdrain_some (P : Nat → Prop) (N : Nat) (v : Value) (a b : Int) (t : List (Int × Int)) (w : World) (hv : Two w P v (sts ((a, b) :: t))) (hcap : CapOk v) (ht : t.length ≤ 16) :
    Calls Try.prog 70 #[rbufV N v] w (RBufP P N t [stV a b, .bool true] w) := by
  obtain ⟨A, m, c, rfl, HN, HV⟩ := hv.open_
  obtain ⟨n, hn⟩ : ∃ n, t.length = n := ⟨_, rfl⟩
  have hm : m = n + 1 := by have := HN.out; rw [sts_len, List.length_cons, hn] at this; omega
  subst hm
  rw [hn] at ht
  obtain ⟨g, o, rfl, hP, hg, hc0, hc1⟩ := HV.out.cells (k := 0) (sts_at (q := (a, b) :: t) (k := 0) rfl)
  simp only [Nat.zero_mul, Nat.add_zero] at hc0 hc1
  have hL := HV.out.from_ (k := 1) hcap (by omega)
  have hs := fun W => slice_st (some ⟨g, o, none⟩) (n + 1) c 1 (by omega) W
  obtain ⟨B, hB⟩ : ∃ B, B = (if c = 1 then some ⟨g, o, none⟩ else (some (⟨g, o, none⟩ : Addr)).map (·.add (1 * 2))) := ⟨_, rfl⟩
  rw [← hB] at hL hs
  rw [Nat.add_sub_cancel] at hL hs
  have k1 : ((1 : Nat) : Int) = 1 := rfl
  rw [k1] at hs
  have hL' : Two w P (.slice B n (c - 1)) (sts t) ∧ CapOk (.slice B n (c - 1)) := hL
  have HL := Lib.hid hL'
  have b4 : Hid (∀ x y z u : Obj, Below w.heap.size w ((((w.alloc x).alloc y).alloc z).alloc u)) := Lib.hid (fun x y z u => below_on (below_on (below_on (below_al _ _) (below_al _ _)) (below_al _ _)) (below_al _ _))
  clear hL hL' hB k1 hv HN HV hn hcap
  have b1 : ((n : Int) + 1 == 0) = false := by simp; omega
  have l0 : ∀ x y z : Obj, (((w.alloc x).alloc y).alloc z).cell? ⟨g, o, none⟩ = some (.int .i64 a) := fun x y z => ((below_on (below_on (below_al w x) (below_al _ y)) (below_al _ z)).cell (p := ⟨g, o, none⟩) hg).trans hc0
  have l1 : ∀ x y z : Obj, (((w.alloc x).alloc y).alloc z).cell? ⟨g, o + 1, none⟩ = some (.int .i64 b) := fun x y z => ((below_on (below_on (below_al w x) (below_al _ y)) (below_al _ z)).cell (p := ⟨g, o + 1, none⟩) hg).trans hc1
  have n0 : g ≠ w.heap.size := by omega
  have n1 : g ≠ w.heap.size + 1 := by omega
  have n2 : g ≠ w.heap.size + 1 + 1 := by omega
  unfold rbufV stV
  go_enter Try.func70, Try.ntmps70
  go_wp2
  go_region
  go_wp2
  exact bodyPost_ret (v := .tuple #[.agg #[.int .i64 N, .slice B n (c - 1)], .agg #[.int .i64 a, .int .i64 b], .bool true]) (by simp [results, Try.results70, go_sem]) rfl ⟨_, rfl, HL.out.1.below (below_dn (b4.out _ _ _ _) _), HL.out.2, below_dn (b4.out _ _ _ _) _⟩

theorem rbdrain_any (P : Nat → Prop) (N : Nat) (v : Value) (q : List (Int × Int)) (w : World) (hv : Two w P v (sts q)) (hcap : CapOk v) (hq : q.length ≤ 16) :
    Calls Try.prog 70 #[rbufV N v] w (RBufP P N q.tail (rdrL q) w) := by
  cases q with
  | nil => exact rbdrain_empty P N v w hv hcap
  | cons p t => exact rbdrain_some P N v p.1 p.2 t w hv hcap (by simp at hq; omega)

set_option maxRecDepth 100000 in
set_option maxHeartbeats 1000000 in
theorem rbfind_any (P : Nat → Prop) (N : Nat) (v : Value) (q : List (Int × Int)) (a : Int) (w : World) (hv : Two w P v (sts q)) (hq : q.length ≤ 65536) :
    Calls Try.prog 71 #[rbufV N v, .int .i64 a] w fun e w' => e = .returned (.tuple #[.int .i64 (fV (fnd q a)), .bool (fB (fnd q a))]) ∧ Below w.heap.size w w' := by
  obtain ⟨A, n, c, rfl, HN, HV⟩ := hv.open_
  have HN' : Hid (q.length = n) := Lib.hid (by have := HN.out; rwa [sts_len] at this)
  have hq' : n ≤ 65536 := by have := HN'.out; omega
  clear hv HN hq
  unfold rbufV
  go_enter Try.func71, Try.ntmps71
  go_wp2
  go_loopw [6, 7, 8] (fun x y i wr => ∃ (k : Nat) (f : Option Int), k ≤ n ∧ i = .int .i64 k ∧ x = .int .i64 (fV f) ∧ y = .bool (fB f) ∧ Hid (fnd (q.take k) a = f) ∧ w.alloc (.cells #[.int .i64 N, .slice A n c] 82) = wr) (fun _ _ i _ => n - (intOf i).toNat)
  case atStart => exact ⟨0, none, Nat.zero_le _, rfl, rfl, rfl, Lib.hid rfl, rfl⟩
  case round =>
    obtain ⟨k, f, hk, rfl, rfl, rfl, ht, rfl⟩ := hrel
    by_cases hlt : k < n
    · obtain ⟨p, hp⟩ : ∃ p, q[k]? = some p := ⟨_, List.getElem?_eq_getElem (by rw [HN'.out]; exact hlt)⟩
      obtain ⟨g, o, rfl, hP, hg, hc1, hc2⟩ := HV.out.cells (sts_at hp)
      simp only at hc1 hc2
      have HP := Lib.hid hp
      clear hp
      by_cases he : p.1 = a
      · have hb : (p.1 == a) = true := by simpa using he
        have HF := Lib.hid (fnd_yes HP.out he)
        clear he
        go_wp2
        go_roundw
        case rel => exact ⟨k + 1, some p.2, by omega, by go_num, rfl, rfl, HF, by first | rfl | trivial⟩
        case measure => simp [intOf]; omega
      · have hb : (p.1 == a) = false := by simpa using he
        have HF := Lib.hid ((fnd_no HP.out he).trans ht.out)
        clear he
        go_wp2
        go_roundw
        case rel => exact ⟨k + 1, f, by omega, by go_num, rfl, rfl, HF, by first | rfl | trivial⟩
        case measure => simp [intOf]; omega
    · obtain rfl : k = n := by omega
      have hfin : fnd q a = f := by have := ht.out; rwa [← HN'.out, List.take_length] at this
      have HF := Lib.hid hfin
      clear hfin
      go_wp2
      go_ret2
      exact ⟨by rw [HF.out]; rfl, below_al _ _⟩

#print axioms rbdrain_any
#print axioms rbfind_any
end Go.Proofs.Ytgoogclcpnfmkaa
