/-
  Layer 19 (diary): the entries of a channel: the closures, choose.
  Conditions: those that each theorem states.
-/
import Derived.Test.YtikjokhpombjjaaDoorDi2
namespace Go.Proofs.YtikjokhpombjjaaDoor
open Go.ChangeShapes Go.WideShapes Go.ChangeAt Go.RowKit

theorem own19_empty (w : World) (e : TypeId) (s : Nat) : (w.alloc (.cells #[] e)).ownsRow w.heap.size e s (.slice (some ⟨w.heap.size, 0, none⟩) 0 0) 0 [] :=
  ⟨by simp, .inr ⟨w.heap.size, 0, #[], rfl, Nat.le_refl _, by simpa using heap_alloc_new w (.cells #[] e), Nat.le_refl _, by unfold maxLen; omega, by simp, by simp⟩⟩

/-- Whether an entry is a send on the channel from f to t; whether it is a call of its receiver. -/
def sentB (f t : Int) (x : En) : Bool := x.kind == 1 && x.core == f && x.peer == t
def takenB (f t : Int) (x : En) : Bool := (x.kind == 2 || x.kind == 3) && x.core == t && x.peer == f

set_option maxRecDepth 100000 in
set_option maxHeartbeats 2000000 in
theorem sentC_any (x : En) (u : Value) (f t : Int) (z y : Nat) (w : World) (hz : w.cell? ⟨z, 0, none⟩ = some (.int .i64 f)) (hy : w.cell? ⟨y, 0, none⟩ = some (.int .i64 t)) :
    Calls Tryd.prog 21 #[.agg (row19 x u).toArray, .pointer (some ⟨z, 0, none⟩), .pointer (some ⟨y, 0, none⟩)] w fun e w' => e = .returned (.bool (sentB f t x)) ∧ Below w.heap.size w w' := by
  have z1 := World.block_lt_of_cell? w _ hz
  have y1 := World.block_lt_of_cell? w _ hy
  obtain ⟨core, peer, kind, beg, fin, err, load, hnd⟩ := x
  obtain ⟨b1, h1⟩ : ∃ b, (kind == 1) = b := ⟨_, rfl⟩
  obtain ⟨b2, h2⟩ : ∃ b, (core == f) = b := ⟨_, rfl⟩
  obtain ⟨b3, h3⟩ : ∃ b, (peer == t) = b := ⟨_, rfl⟩
  have HF : Hid (sentB f t ⟨core, peer, kind, beg, fin, err, load, hnd⟩ = (b1 && b2 && b3)) := Lib.hid (by simp only [sentB, h1, h2, h3])
  simp only [row19]
  cases b1 <;> cases b2 <;> cases b3 <;> (
    go_enter Tryd.func21, Tryd.ntmps21
    go_wp2
    go_ret
    exact ⟨by rw [HF.out]; rfl, show Below w.heap.size w _ from by go_grown⟩)

set_option maxRecDepth 100000 in
set_option maxHeartbeats 2000000 in
theorem takenC_any (x : En) (u : Value) (f t : Int) (z y : Nat) (w : World) (hz : w.cell? ⟨z, 0, none⟩ = some (.int .i64 t)) (hy : w.cell? ⟨y, 0, none⟩ = some (.int .i64 f)) :
    Calls Tryd.prog 22 #[.agg (row19 x u).toArray, .pointer (some ⟨z, 0, none⟩), .pointer (some ⟨y, 0, none⟩)] w fun e w' => e = .returned (.bool (takenB f t x)) ∧ Below w.heap.size w w' := by
  have z1 := World.block_lt_of_cell? w _ hz
  have y1 := World.block_lt_of_cell? w _ hy
  obtain ⟨core, peer, kind, beg, fin, err, load, hnd⟩ := x
  obtain ⟨b1, h1⟩ : ∃ b, (kind == 2) = b := ⟨_, rfl⟩
  obtain ⟨b4, h4⟩ : ∃ b, (kind == 3) = b := ⟨_, rfl⟩
  obtain ⟨b2, h2⟩ : ∃ b, (core == t) = b := ⟨_, rfl⟩
  obtain ⟨b3, h3⟩ : ∃ b, (peer == f) = b := ⟨_, rfl⟩
  have HF : Hid (takenB f t ⟨core, peer, kind, beg, fin, err, load, hnd⟩ = ((b1 || b4) && b2 && b3)) := Lib.hid (by simp only [takenB, h1, h2, h3, h4])
  simp only [row19]
  cases b1 <;> cases b4 <;> cases b2 <;> cases b3 <;> (
    go_enter Tryd.func22, Tryd.ntmps22
    go_wp2
    go_ret
    exact ⟨by rw [HF.out]; rfl, show Below w.heap.size w _ from by go_grown⟩)

set_option maxRecDepth 100000 in
set_option maxHeartbeats 1000000 in
theorem clone19_any (l : List Int) (v : Value) (w : World) (hv : Lies w (fun _ => True) v (ints l)) (hcap : CapOk v) (hl : l.length ≤ 65536) :
    Calls Tryd.prog 32 #[v] w fun e w' => ∃ v', e = .returned v' ∧ w'.ownsRow w.heap.size 3 1 v' l.length (ints l) ∧ Below w.heap.size w w' := by
  obtain ⟨i0, hi0, hz0, hz1, hz2⟩ := info_parts int_info
  obtain ⟨A, c, rfl, hA⟩ := hv
  obtain ⟨n, hn⟩ : ∃ n, l.length = n := ⟨_, rfl⟩
  have HN := Lib.hid hn
  rw [ints_len, hn] at hA hcap ⊢
  rw [hn] at hl
  have q22 : ∀ (w : World) (a : Option Addr) (n c n' c' : Nat), (binOp .eql 36 (.slice a n c) (.slice none n' c')).run Tryd.prog w = .ok (.bool a.isNone) w := fun w a n c n' c' => Lib.run_eql_slice_nil w _ _ a n c n' c' Tryd.underlying36
  have HV : Hid (Lies w (fun _ => True) (.slice A n c) (ints l)) := Lib.hid ⟨A, c, by rw [ints_len, hn], by rw [ints_len, hn]; exact hA⟩
  clear hn
  cases A with
  | none =>
    have h0 : l = [] := by
      refine Classical.byContradiction fun h => ?_
      have : 0 < n := by rw [← HN.out]; exact List.length_pos_iff.2 h
      obtain ⟨g, o, h1, _⟩ := hA this
      cases h1
    have H0 := Lib.hid h0; clear h0 hA
    have H1 : n = 0 := by rw [← HN.out, H0.out]; rfl
    subst H1
    go_enter Tryd.func32, Tryd.ntmps32
    go_wp2
    go_ret
    exact ⟨_, rfl, by rw [H0.out]; exact World.ownsRow_nil _ _ _ _, Below.refl _ _⟩
  | some ad =>
    clear hA
    have O1 := Lib.hid (ints_one l)
    go_enter Tryd.func32, Tryd.ntmps32
    go_wp2_with (at_builtin; go_must (refine app_walk _ rfl (.tmp 5) (.tmp 6) 36 rfl w.heap.size 3 i0 _ 8 Tryd.underlying36 hi0 hz0 hz1 hz2 rfl (.slice (some ⟨w.heap.size, 0, none⟩) 0 0) 0 [] rfl (own19_empty _ _ _) (fun _ => True) (some ad) n c (ints l) rfl (HV.out.below (below_al _ _)) hcap O1.out (by unfold maxLen; omega) (by omega) (by simp) ?_; intro v1 w1 hown1 hg1 hat1; rw [Nat.zero_add, List.nil_append] at hown1; have HO := Lib.hid hown1; have HB := Lib.hid ((below_al w (.cells #[] 3)).grown hg1 (by simp) (by intro k hk; simp only [Value.ownBlock, Option.some.injEq] at hk; omega)); clear hown1 hg1 hat1))
    go_ret
    exact ⟨_, rfl, HO.out, HB.out⟩

theorem Only.of_own19 {w w' : World} {v : Value} (h : w.grownBy w' v.ownBlock) : Only (fun b => v.ownBlock = some b) w w' :=
  ⟨h.os, h.tape, h.output, h.size, fun k hk hn => h.block k hk (fun e => hn e.symm)⟩
theorem own19_open {w : World} {base : Nat} {e : TypeId} {size : Nat} {v : Value} {n : Nat} {xs : List Value} (h : w.ownsRow base e size v n xs) : ∃ A c, v = .slice A n c := by
  rcases h.2 with ⟨rfl, rfl⟩ | ⟨g, cap, cur, rfl, _⟩
  · exact ⟨_, _, rfl⟩
  · exact ⟨_, _, rfl⟩
theorem own19_weak {w : World} {B B' : Nat} {e : TypeId} {size n : Nat} {v : Value} {xs : List Value} (h : w.ownsRow B' e size v n xs) (hB : B ≤ B') : w.ownsRow B e size v n xs :=
  ⟨h.1, h.2.imp id (fun ⟨g, cap, cur, h1, h2, h3⟩ => ⟨g, cap, cur, h1, Nat.le_trans hB h2, h3⟩)⟩
theorem own19_types {w : World} {b1 b2 s1 s2 n1 n2 : Nat} {e1 e2 : TypeId} {v1 v2 : Value} {x1 x2 : List Value} (h1 : w.ownsRow b1 e1 s1 v1 n1 x1) (h2 : w.ownsRow b2 e2 s2 v2 n2 x2) (hne : e1 ≠ e2) : ∀ k, v1.ownBlock = some k → v2.ownBlock ≠ some k := by
  intro k hk hk2
  rcases h1.2 with ⟨rfl, _⟩ | ⟨g, cap, cur, rfl, _, hg, _⟩
  · cases hk
  · rcases h2.2 with ⟨rfl, _⟩ | ⟨g', cap', cur', rfl, _, hg', _⟩
    · cases hk2
    · simp only [Value.ownBlock, Option.some.injEq] at hk hk2
      subst hk
      subst hk2
      rw [hg] at hg'
      injection hg' with hg'
      injection hg' with _ h
      exact hne h

/-- An entry with a list of its own. -/
def Cp (w : World) (base : Nat) (p : En × Value) : Prop := w.ownsRow base 3 1 p.2 p.1.load.length (ints p.1.load)
theorem Cp.ld {w : World} {base : Nat} {p : En × Value} (h : Cp w base p) : Ld w p.1 p.2 := ⟨(Lies.of_own h).weak (fun _ _ _ => trivial), CapOk.of_own h⟩
theorem Cp.below {w w' : World} {base : Nat} {p : En × Value} (h : Cp w base p) (hb : Below w.heap.size w w') : Cp w' base p := own19_below h hb
theorem Cp.grown {w w' : World} {base b2 s n : Nat} {e : TypeId} {v : Value} {xs : List Value} {p : En × Value} (h : Cp w base p) (hv : w.ownsRow b2 e s v n xs) (hne : 3 ≠ e) (hg : w.grownBy w' v.ownBlock) : Cp w' base p :=
  own19_only h (Only.of_own19 hg) (fun k hk e' => own19_types h hv hne k hk e')

/-- A slice of its own that holds entries with lists of their own. -/
def OwnC (w : World) (base : Nat) (t : TypeId) (v : Value) (L : List (En × Value)) : Prop := w.ownsRow base t 8 v L.length (enF L) ∧ ∀ p ∈ L, Cp w base p
theorem OwnC.own {w : World} {base : Nat} {t : TypeId} {v : Value} {L : List (En × Value)} (h : OwnC w base t v L) : OwnE w base t v L := ⟨h.1, fun p hp => (h.2 p hp).ld⟩
theorem OwnC.below {w w' : World} {base : Nat} {t : TypeId} {v : Value} {L : List (En × Value)} (h : OwnC w base t v L) (hb : Below w.heap.size w w') : OwnC w' base t v L := ⟨own19_below h.1 hb, fun p hp => (h.2 p hp).below hb⟩
theorem OwnC.weak {w : World} {base b2 : Nat} {t : TypeId} {v : Value} {L : List (En × Value)} (h : OwnC w base t v L) (hb : b2 ≤ base) : OwnC w b2 t v L :=
  ⟨own19_weak h.1 hb, fun p hp => own19_weak (h.2 p hp) hb⟩

theorem pairs_len {l : List En} {L : List (En × Value)} {n : Nat} (h : L.map (·.1) = l) (hl : l.length = n) : L.length = n := by
  rw [← hl, ← h, List.length_map]

/-- What a call leaves that answers entries of its own. -/
def ChP (l : List En) (w : World) (e : Ending) (w' : World) : Prop := ∃ v L, e = .returned v ∧ L.map (·.1) = l ∧ OwnC w' w.heap.size 38 v L ∧ Below w.heap.size w w'

theorem entry_struct : isStruct Tryd.prog 38 = true := by kernel_rfl
theorem entry_size (x : En) (u : Value) : (Tryd.prog.info? 38).map (·.size) = some (row19 x u).length := by kernel_rfl
theorem entry_zero : (Tryd.prog.info? 38).map (·.zero) = some (some (.agg (row19 ⟨0, 0, 0, 0, 0, 0, [], 0⟩ (.slice none 0 0)).toArray)) := by kernel_rfl

theorem OwnC.more {w w' : World} {base m : Nat} {v v' : Value} {L : List (En × Value)} {p : En × Value} (h : OwnC w base 38 v L) (hp : Cp w base p) (hm : L.length = m) (hg : w.grownBy w' v.ownBlock) (ho : w'.ownsRow base 38 8 v' (m + 1) (enF L ++ row19 p.1 p.2)) : OwnC w' base 38 v' (L ++ [p]) := by
  refine ⟨?_, fun q hq => ?_⟩
  · rw [List.length_append, hm, enF_append]
    simpa [enF] using ho
  · rcases List.mem_append.1 hq with hq | hq
    · exact (h.2 q hq).grown h.1 (by decide) hg
    · simp only [List.mem_cons, List.not_mem_nil, or_false] at hq
      subst hq
      exact hp.grown h.1 (by decide) hg
theorem OwnC.only {S : Nat → Prop} {w w' : World} {base : Nat} {t : TypeId} {v : Value} {L : List (En × Value)} (h : OwnC w base t v L) (ho : Only S w w') (h1 : ∀ k, v.ownBlock = some k → ¬ S k) (h2 : ∀ p ∈ L, ∀ k, p.2.ownBlock = some k → ¬ S k) : OwnC w' base t v L :=
  ⟨own19_only h.1 ho h1, fun p hp => own19_only (h.2 p hp) ho (h2 p hp)⟩

theorem filter_yes {l : List En} {k : Nat} {x : En} {q : En → Bool} (hx : l[k]? = some x) (h : q x = true) : (l.take (k + 1)).filter q = (l.take k).filter q ++ [x] := by
  rw [List.take_add_one, hx, List.filter_append]
  simp [h]
theorem filter_no {l : List En} {k : Nat} {x : En} {q : En → Bool} (hx : l[k]? = some x) (h : q x = false) : (l.take (k + 1)).filter q = (l.take k).filter q := by
  rw [List.take_add_one, hx, List.filter_append]
  simp [h]

#print axioms clone19_any
end Go.Proofs.YtikjokhpombjjaaDoor
