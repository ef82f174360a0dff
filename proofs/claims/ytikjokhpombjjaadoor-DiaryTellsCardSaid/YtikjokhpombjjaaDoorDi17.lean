/-
  Layer 19 (diary): the text of an entry, of the program and of the reference.
  Conditions: those that each theorem states.
-/
import Derived.Test.YtikjokhpombjjaaDoorDi16
import Derived.Lib.LaidTab
namespace Go.Proofs.YtikjokhpombjjaaDoor
open Go.ChangeShapes Go.WideShapes Go.ChangeAt Go.RowKit

/-- The text of an entry. -/
def txt19 (x : En) : List UInt8 := Lib.itoa x.core ++ let19 x.kind ++ Lib.itoa x.peer ++ [32] ++ Lib.itoa x.beg ++ [45] ++ (if x.fin = 0 then [46, 46] else Lib.itoa x.fin ++ [32] ++ Lib.itoa x.err)

theorem itoa_len (n : Int) (h : R64 n) : (Lib.itoa n).length ≤ 21 := by
  have h1 := dec_len n h
  unfold Lib.itoa
  split
  · simp only [List.length_cons]; omega
  · rw [show n.toNat = n.natAbs by omega]; omega

theorem t19_head (a b c d : List UInt8) : ((((((⟨a.toArray⟩ : ByteArray) ++ (⟨b.toArray⟩ : ByteArray)) ++ (⟨c.toArray⟩ : ByteArray)) ++ (⟨#[32]⟩ : ByteArray)) ++ (⟨d.toArray⟩ : ByteArray)) ++ (⟨#[45]⟩ : ByteArray)) = ⟨(a ++ b ++ c ++ [32] ++ d ++ [45]).toArray⟩ := by
  apply ByteArray.ext
  simp [ByteArray.data_append]
theorem t19_none (t : List UInt8) : Ending.returned (.string ((⟨t.toArray⟩ : ByteArray) ++ (⟨#[46, 46]⟩ : ByteArray))) = Ending.returned (.string ⟨(t ++ [46, 46]).toArray⟩) := by
  have h := ba19 t [46, 46]
  exact congrArg (fun b => Ending.returned (.string b)) h
theorem t19_some (t a b : List UInt8) : Ending.returned (.string ((((⟨t.toArray⟩ : ByteArray) ++ (⟨a.toArray⟩ : ByteArray)) ++ (⟨#[32]⟩ : ByteArray)) ++ (⟨b.toArray⟩ : ByteArray))) = Ending.returned (.string ⟨(t ++ (a ++ [32] ++ b)).toArray⟩) := by
  have h : ((((⟨t.toArray⟩ : ByteArray) ++ (⟨a.toArray⟩ : ByteArray)) ++ (⟨#[32]⟩ : ByteArray)) ++ (⟨b.toArray⟩ : ByteArray)) = ⟨(t ++ (a ++ [32] ++ b)).toArray⟩ := by
    apply ByteArray.ext
    simp [ByteArray.data_append]
  exact congrArg (fun b => Ending.returned (.string b)) h

theorem let_len (k : Int) : (let19 k).length = 1 := by
  unfold let19
  split
  · rfl
  split
  · rfl
  split <;> rfl

/-- The table that the program's numbers are read with. -/
def Tab19 (w : World) : Prop := Lib.TabIs Tryd.prog w "internal/strconv.uint64pow10" .u64 Lib.pow10Tab
theorem Tab19.below {w w' : World} (h : Tab19 w) (hb : Below w.heap.size w w') : Tab19 w' := by
  unfold Tab19 Lib.TabIs World.var? at h ⊢
  have hg : Tryd.prog.globalNamed "internal/strconv.uint64pow10" = some 0 := by kernel_rfl
  rw [hg] at h ⊢
  simp only [Option.bind_some] at h ⊢
  have hlt : 0 < w.heap.size := by
    rcases Nat.lt_or_ge 0 w.heap.size with h' | h'
    · exact h'
    · rw [Array.getElem?_eq_none h'] at h; cases h
  rw [hb.block _ hlt]
  exact h

theorem below_grow19 (w : World) (k : Nat) (os : Array Obj) : Below w.heap.size w (Sort.grow (w.drewN k) os) :=
  ⟨rfl, rfl, rfl, by show w.heap.size ≤ (w.heap ++ os).size; rw [Array.size_append]; omega, fun j hj => by show (w.heap ++ os)[j]? = w.heap[j]?; exact Array.getElem?_append_left hj⟩

theorem itoa19_any (n : Int) (h : R64 n) (w : World) (ht : Tab19 w) : Calls Tryd.prog 26 #[.int .i64 n] w fun e w' => e = .returned (.string ⟨(Lib.itoa n).toArray⟩) ∧ Below w.heap.size w w' :=
  (Any.strconv_Itoa Tryd.itoaM n h.1 h.2 w ht).mono fun e w' h => by
    obtain ⟨h1, k, os, h2⟩ := h
    subst h2
    exact ⟨h1, below_grow19 w k os⟩

theorem rdigQ (n : Int) (h : R64 n) (W : World) (m : Nat) : Calls Tryd.prog 29 #[.int .i64 n] (W.drewN m) fun e w'' => e = .returned (.string ⟨(Lib.itoa n).toArray⟩) ∧ ∃ q, w'' = W.drewN q :=
  Calls.quiet_of_same ((rdigits19_any n h (W.drewN m)).mono fun _ _ h => ⟨h.1, h.2.symm⟩)

theorem rdigQ2 (n : Int) (h : R64 n) (W : World) (k m : Nat) : Calls Tryd.prog 29 #[.int .i64 n] (W.drewN (k + m)) fun e w'' => e = .returned (.string ⟨(Lib.itoa n).toArray⟩) ∧ ∃ q, w'' = W.drewN (k + q) :=
  (rdigits19_any n h (W.drewN (k + m))).mono fun _ _ h => ⟨h.1, m, h.2.symm⟩

set_option maxRecDepth 100000 in
set_option maxHeartbeats 4000000 in
theorem rtext19_any (x : En) (u : Value) (w : World) (hu : ∃ A n c, u = .slice A n c) (hx : Rng19 x) :
    Calls Tryd.prog 16 #[.agg (row19 x u).toArray] w fun e w' => e = .returned (.string ⟨(txt19 x).toArray⟩) ∧ Below w.heap.size w w' := by
  obtain ⟨A, n, c, rfl⟩ := hu
  obtain ⟨x0, x1, x2, x3, x4, x5, x7⟩ := hx
  have R := Lib.hid (Row.new w 41 (row19 x (.slice A n c)).toArray)
  have BB := Lib.hid (below_al w (.cells (row19 x (.slice A n c)).toArray 41))
  have K0 := Lib.hid (rdigQ x.core x0)
  have K1 := Lib.hid (rdigQ x.peer x1)
  have K3 := Lib.hid (rdigQ x.beg x3)
  have K4 := Lib.hid (rdigQ2 x.fin x4)
  have K5 := Lib.hid (rdigQ2 x.err x5)
  have l0 := itoa_len x.core x0
  have l1 := itoa_len x.peer x1
  have l3 := itoa_len x.beg x3
  have l4 := itoa_len x.fin x4
  have l5 := itoa_len x.err x5
  clear x0 x1 x2 x3 x4 x5 x7
  have HT : Hid (txt19 x = Lib.itoa x.core ++ let19 x.kind ++ Lib.itoa x.peer ++ [32] ++ Lib.itoa x.beg ++ [45] ++ (if x.fin = 0 then [46, 46] else Lib.itoa x.fin ++ [32] ++ Lib.itoa x.err)) := Lib.hid rfl
  obtain ⟨s0, e0⟩ : ∃ s, Lib.itoa x.core = s := ⟨_, rfl⟩
  obtain ⟨s1, e1⟩ : ∃ s, Lib.itoa x.peer = s := ⟨_, rfl⟩
  obtain ⟨s3, e3⟩ : ∃ s, Lib.itoa x.beg = s := ⟨_, rfl⟩
  obtain ⟨s4, e4⟩ : ∃ s, Lib.itoa x.fin = s := ⟨_, rfl⟩
  obtain ⟨s5, e5⟩ : ∃ s, Lib.itoa x.err = s := ⟨_, rfl⟩
  rw [e0, e1, e3, e4, e5] at HT
  rw [e0] at K0 l0
  rw [e1] at K1 l1
  rw [e3] at K3 l3
  rw [e4] at K4 l4
  rw [e5] at K5 l5
  clear e0 e1 e3 e4 e5
  simp only [row19] at R BB ⊢
  by_cases h1 : x.kind = 1
  · have HLT : Hid (let19 x.kind = [115]) := Lib.hid (by simp [let19, h1])
    have t1 : (x.kind == 1) = true := by simpa using (by omega : x.kind = 1)
    clear h1
    by_cases hf : x.fin = 0
    · have tf : (x.fin == 0) = true := by simpa using hf
      have HF : Hid (txt19 x = (s0 ++ [115] ++ s1 ++ [32] ++ s3 ++ [45]) ++ [46, 46]) := Lib.hid (by rw [HT.out, HLT.out, if_pos hf])
      clear hf
      go_enter Tryd.func16, Tryd.ntmps16
      go_wp2
      go_quiet (first | (go_at_call 29; with_reducible exact K0.out _ _) | (go_at_call 29; with_reducible exact K1.out _ _) | (go_at_call 29; with_reducible exact K3.out _ _))
      have HD := Lib.hid (t19_head s0 [115] s1 s3)
      go_wp2
      go_ret
      exact ⟨by rw [HF.out, ← t19_none, ← HD.out]; rfl, below_dn BB.out _⟩
    · have tf : (x.fin == 0) = false := by simpa using hf
      have HF : Hid (txt19 x = (s0 ++ [115] ++ s1 ++ [32] ++ s3 ++ [45]) ++ (s4 ++ [32] ++ s5)) := Lib.hid (by rw [HT.out, HLT.out, if_neg hf])
      clear hf
      go_enter Tryd.func16, Tryd.ntmps16
      go_wp2
      go_quiet (first | (go_at_call 29; with_reducible exact K0.out _ _) | (go_at_call 29; with_reducible exact K1.out _ _) | (go_at_call 29; with_reducible exact K3.out _ _))
      have HD := Lib.hid (t19_head s0 [115] s1 s3)
      go_wp2
      go_quiet (first | (go_at_call 29; with_reducible exact K4.out _ _ _) | (go_at_call 29; with_reducible exact K5.out _ _ _))
      go_wp2
      go_ret
      exact ⟨by rw [HF.out, ← t19_some, ← HD.out]; rfl, by first | exact below_dn BB.out _ | exact below_dn (below_dn BB.out _) _⟩
  by_cases h2 : x.kind = 2
  · have HLT : Hid (let19 x.kind = [114]) := Lib.hid (by simp [let19, h2])
    have t1 : (x.kind == 1) = false := by simpa using (by omega : x.kind ≠ 1)
    have t2 : (x.kind == 2) = true := by simpa using (by omega : x.kind = 2)
    clear h1 h2
    by_cases hf : x.fin = 0
    · have tf : (x.fin == 0) = true := by simpa using hf
      have HF : Hid (txt19 x = (s0 ++ [114] ++ s1 ++ [32] ++ s3 ++ [45]) ++ [46, 46]) := Lib.hid (by rw [HT.out, HLT.out, if_pos hf])
      clear hf
      go_enter Tryd.func16, Tryd.ntmps16
      go_wp2
      go_quiet (first | (go_at_call 29; with_reducible exact K0.out _ _) | (go_at_call 29; with_reducible exact K1.out _ _) | (go_at_call 29; with_reducible exact K3.out _ _))
      have HD := Lib.hid (t19_head s0 [114] s1 s3)
      go_wp2
      go_ret
      exact ⟨by rw [HF.out, ← t19_none, ← HD.out]; rfl, below_dn BB.out _⟩
    · have tf : (x.fin == 0) = false := by simpa using hf
      have HF : Hid (txt19 x = (s0 ++ [114] ++ s1 ++ [32] ++ s3 ++ [45]) ++ (s4 ++ [32] ++ s5)) := Lib.hid (by rw [HT.out, HLT.out, if_neg hf])
      clear hf
      go_enter Tryd.func16, Tryd.ntmps16
      go_wp2
      go_quiet (first | (go_at_call 29; with_reducible exact K0.out _ _) | (go_at_call 29; with_reducible exact K1.out _ _) | (go_at_call 29; with_reducible exact K3.out _ _))
      have HD := Lib.hid (t19_head s0 [114] s1 s3)
      go_wp2
      go_quiet (first | (go_at_call 29; with_reducible exact K4.out _ _ _) | (go_at_call 29; with_reducible exact K5.out _ _ _))
      go_wp2
      go_ret
      exact ⟨by rw [HF.out, ← t19_some, ← HD.out]; rfl, by first | exact below_dn BB.out _ | exact below_dn (below_dn BB.out _) _⟩
  by_cases h3 : x.kind = 3
  · have HLT : Hid (let19 x.kind = [120]) := Lib.hid (by simp [let19, h3])
    have t1 : (x.kind == 1) = false := by simpa using (by omega : x.kind ≠ 1)
    have t2 : (x.kind == 2) = false := by simpa using (by omega : x.kind ≠ 2)
    have t3 : (x.kind == 3) = true := by simpa using (by omega : x.kind = 3)
    clear h1 h2 h3
    by_cases hf : x.fin = 0
    · have tf : (x.fin == 0) = true := by simpa using hf
      have HF : Hid (txt19 x = (s0 ++ [120] ++ s1 ++ [32] ++ s3 ++ [45]) ++ [46, 46]) := Lib.hid (by rw [HT.out, HLT.out, if_pos hf])
      clear hf
      go_enter Tryd.func16, Tryd.ntmps16
      go_wp2
      go_quiet (first | (go_at_call 29; with_reducible exact K0.out _ _) | (go_at_call 29; with_reducible exact K1.out _ _) | (go_at_call 29; with_reducible exact K3.out _ _))
      have HD := Lib.hid (t19_head s0 [120] s1 s3)
      go_wp2
      go_ret
      exact ⟨by rw [HF.out, ← t19_none, ← HD.out]; rfl, below_dn BB.out _⟩
    · have tf : (x.fin == 0) = false := by simpa using hf
      have HF : Hid (txt19 x = (s0 ++ [120] ++ s1 ++ [32] ++ s3 ++ [45]) ++ (s4 ++ [32] ++ s5)) := Lib.hid (by rw [HT.out, HLT.out, if_neg hf])
      clear hf
      go_enter Tryd.func16, Tryd.ntmps16
      go_wp2
      go_quiet (first | (go_at_call 29; with_reducible exact K0.out _ _) | (go_at_call 29; with_reducible exact K1.out _ _) | (go_at_call 29; with_reducible exact K3.out _ _))
      have HD := Lib.hid (t19_head s0 [120] s1 s3)
      go_wp2
      go_quiet (first | (go_at_call 29; with_reducible exact K4.out _ _ _) | (go_at_call 29; with_reducible exact K5.out _ _ _))
      go_wp2
      go_ret
      exact ⟨by rw [HF.out, ← t19_some, ← HD.out]; rfl, by first | exact below_dn BB.out _ | exact below_dn (below_dn BB.out _) _⟩
  have HLT : Hid (let19 x.kind = [63]) := Lib.hid (by simp [let19, h1, h2, h3])
  have t1 : (x.kind == 1) = false := by simpa using (by omega : x.kind ≠ 1)
  have t2 : (x.kind == 2) = false := by simpa using (by omega : x.kind ≠ 2)
  have t3 : (x.kind == 3) = false := by simpa using (by omega : x.kind ≠ 3)
  clear h1 h2 h3
  by_cases hf : x.fin = 0
  · have tf : (x.fin == 0) = true := by simpa using hf
    have HF : Hid (txt19 x = (s0 ++ [63] ++ s1 ++ [32] ++ s3 ++ [45]) ++ [46, 46]) := Lib.hid (by rw [HT.out, HLT.out, if_pos hf])
    clear hf
    go_enter Tryd.func16, Tryd.ntmps16
    go_wp2
    go_quiet (first | (go_at_call 29; with_reducible exact K0.out _ _) | (go_at_call 29; with_reducible exact K1.out _ _) | (go_at_call 29; with_reducible exact K3.out _ _))
    have HD := Lib.hid (t19_head s0 [63] s1 s3)
    go_wp2
    go_ret
    exact ⟨by rw [HF.out, ← t19_none, ← HD.out]; rfl, below_dn BB.out _⟩
  · have tf : (x.fin == 0) = false := by simpa using hf
    have HF : Hid (txt19 x = (s0 ++ [63] ++ s1 ++ [32] ++ s3 ++ [45]) ++ (s4 ++ [32] ++ s5)) := Lib.hid (by rw [HT.out, HLT.out, if_neg hf])
    clear hf
    go_enter Tryd.func16, Tryd.ntmps16
    go_wp2
    go_quiet (first | (go_at_call 29; with_reducible exact K0.out _ _) | (go_at_call 29; with_reducible exact K1.out _ _) | (go_at_call 29; with_reducible exact K3.out _ _))
    have HD := Lib.hid (t19_head s0 [63] s1 s3)
    go_wp2
    go_quiet (first | (go_at_call 29; with_reducible exact K4.out _ _ _) | (go_at_call 29; with_reducible exact K5.out _ _ _))
    go_wp2
    go_ret
    exact ⟨by rw [HF.out, ← t19_some, ← HD.out]; rfl, by first | exact below_dn BB.out _ | exact below_dn (below_dn BB.out _) _⟩

#print axioms rtext19_any
end Go.Proofs.YtikjokhpombjjaaDoor
