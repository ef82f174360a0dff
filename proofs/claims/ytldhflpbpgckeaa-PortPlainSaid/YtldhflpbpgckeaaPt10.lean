/-
  Layer 14 (port): the memory of the law PortPlain: the program's ports, the reference's lists, what was kept.
  Conditions: those that each theorem states.
-/
import Derived.Test.YtldhflpbpgckeaaRPt3
namespace Go.Proofs.Ytldhflpbpgckeaa
open Go.ChangeShapes Go.WideShapes Go.ChangeAt Go.RowKit

theorem own_own {w : World} {b1 b2 : Nat} {e1 e2 : TypeId} {s1 s2 : Nat} {v1 v2 : Value} {n1 n2 g : Nat} {x1 x2 : List Value} (h1 : w.ownsRow b1 e1 s1 v1 n1 x1) (h2 : w.ownsRow b2 e2 s2 v2 n2 x2) (hne : e1 ≠ e2) (hg : v1.ownBlock = some g) : v2.ownBlock ≠ some g := by
  rcases h1.2 with ⟨rfl, _⟩ | ⟨g', cap, cur, rfl, _, hg', _⟩
  · cases hg
  · simp only [Value.ownBlock, Option.some.injEq] at hg
    subst hg
    refine own_type (cs := cur.toList) (t := e1) h2 ?_ hne
    unfold Row
    rw [hg']

/-- The state of the law's loop: the program's Trace and Plain; the reference's lists in the variable Rw; what was kept. -/
structure Lp14 (w wr : World) (t p a b R : Nat) (k v kv x y z : Value) (V E K : List Int) (T : List Tch) (V2 K2 : List Int) (T2 : List Tch) : Prop where
  pt : PtAt wr t p a b k v V E K T
  ref : RPl14 wr (fun g => ¬ own14 t p a k v g ∧ g ≠ R ∧ kv.ownBlock ≠ some g) V2 E K2 x y z
  row : Row wr R 30 [x, y, z]
  kept : wr.ownsRow (R + 1) 33 3 kv T2.length (tcs T2)
  below : Below w.heap.size w wr
  new : w.heap.size ≤ t ∧ w.heap.size ≤ p ∧ w.heap.size ≤ a ∧ w.heap.size ≤ R

section
variable {w wr w2 : World} {t p a b R : Nat} {k v kv x y z : Value} {V E K V2 K2 : List Int} {T T2 : List Tch}

theorem Lp14.quiet (s : Lp14 w wr t p a b R k v kv x y z V E K T V2 K2 T2) (hb : Below wr.heap.size wr w2) : Lp14 w w2 t p a b R k v kv x y z V E K T V2 K2 T2 :=
  ⟨s.pt.below hb, s.ref.below hb, s.row.below hb, own_quiet s.kept (fun g hg => hb.block g (s.kept.lt g hg).2), below_on s.below hb, s.new⟩

theorem Lp14.old (s : Lp14 w wr t p a b R k v kv x y z V E K T V2 K2 T2) {g : Nat} (h : own14 t p a k v g) : w.heap.size ≤ g := by
  have hn := s.new
  have hne := s.pt.plain.ne
  rcases h with rfl | rfl | rfl | h | h
  · omega
  · omega
  · omega
  · have := s.pt.plain.kb h; omega
  · have := s.pt.trace.own.lt g h; omega

theorem Lp14.farR (s : Lp14 w wr t p a b R k v kv x y z V E K T V2 K2 T2) : ¬ own14 t p a k v R ∧ b ≠ R ∧ kv.ownBlock ≠ some R := by
  refine ⟨?_, fun h => (s.pt.plain.epochs.ne s.row (by decide)) h, own_type s.kept s.row (by decide)⟩
  rintro (h | h | h | h | h)
  · exact s.pt.trace.row.ne s.row (by decide) h.symm
  · exact s.pt.plain.row.ne s.row (by decide) h.symm
  · exact s.pt.plain.words.ne s.row (by decide) h.symm
  · exact own_type s.pt.plain.kicks s.row (by decide) h
  · exact own_type s.pt.trace.own s.row (by decide) h

theorem Lp14.farK (s : Lp14 w wr t p a b R k v kv x y z V E K T V2 K2 T2) {g : Nat} (hg : kv.ownBlock = some g) : ¬ own14 t p a k v g ∧ g ≠ b := by
  refine ⟨?_, fun h => own_type s.kept s.pt.plain.epochs (by decide) (h ▸ hg)⟩
  rintro (h | h | h | h | h)
  · exact own_type s.kept s.pt.trace.row (by decide) (h ▸ hg)
  · exact own_type s.kept s.pt.plain.row (by decide) (h ▸ hg)
  · exact own_type s.kept s.pt.plain.words (by decide) (h ▸ hg)
  · exact own_own s.kept s.pt.plain.kicks (by decide) hg h
  · exact own_own s.kept s.pt.trace.own (by decide) hg h

/-- Where a new list may lie. -/
theorem Lp14.room (s : Lp14 w wr t p a b R k v kv x y z V E K T V2 K2 T2) {g : Nat} (h : wr.heap.size ≤ g) : ¬ own14 t p a k v g ∧ g ≠ R ∧ kv.ownBlock ≠ some g :=
  ⟨fun e => by have := s.pt.lt g (.inl e); omega, fun e => by have := s.row.lt; omega, fun e => by have := (s.kept.lt g e).2; omega⟩

/-- The reference's answer is stored into its variable. -/
theorem Lp14.stored (s : Lp14 w wr t p a b R k v kv x y z V E K T V2 K2 T2) {x' y' z' : Value} {V3 K3 : List Int} (hv : RPl14 wr (fun g => ¬ own14 t p a k v g ∧ g ≠ R ∧ kv.ownBlock ≠ some g) V3 E K3 x' y' z') :
    Lp14 w (((wr.setCell ⟨R, 0, none⟩ x').setCell ⟨R, 1, none⟩ y').setCell ⟨R, 2, none⟩ z') t p a b R k v kv x' y' z' V E K T V3 K3 T2 := by
  have hO : Only (· = R) wr (((wr.setCell ⟨R, 0, none⟩ x').setCell ⟨R, 1, none⟩ y').setCell ⟨R, 2, none⟩ z') :=
    (((Only.refl (· = R) wr).setCell (p := ⟨R, 0, none⟩) (.inl rfl) _).setCell (p := ⟨R, 1, none⟩) (.inl rfl) _).setCell (p := ⟨R, 2, none⟩) (.inl rfl) _
  obtain ⟨f1, f2, f3⟩ := s.farR
  have hn := s.new
  refine ⟨s.pt.only hO (fun g h e => ?_), hv.only hO (fun g e hp => hp.2.1 e), ?_, own_quiet s.kept (fun g hg => hO.block g (s.kept.lt g hg).2 (fun e => f3 (by rw [hg, e]))), Only.below s.below hO s.below.size (fun g hg e => by omega), s.new⟩
  · subst e
    rcases h with h | h
    · exact f1 h
    · exact f2 h.symm
  · have h1 := ((s.row.put 0 x').put 1 y').put 2 z'
    simp only [List.set_cons_succ, List.set_cons_zero] at h1
    exact h1

/-- A touch is kept. -/
theorem Lp14.keep (s : Lp14 w wr t p a b R k v kv x y z V E K T V2 K2 T2) {kv' : Value} {n : Nat} {xs : List Value} {q : Tch} (hg : wr.grownBy w2 kv.ownBlock) (ho : w2.ownsRow (R + 1) 33 3 kv' (n + 1) (xs ++ thr q)) (hn : T2.length = n) (hx : xs = tcs T2) (hat : kv'.ownBlock = kv.ownBlock ∨ kv'.ownBlock = some wr.heap.size) :
    Lp14 w w2 t p a b R k v kv' x y z V E K T V2 K2 (T2 ++ [q]) := by
  subst hn hx
  have hO := Only.of_own hg
  refine ⟨s.pt.only hO (fun g h e => ?_), ((s.ref.weak (Q := fun g => (¬ own14 t p a k v g ∧ g ≠ R ∧ kv.ownBlock ≠ some g) ∧ g < wr.heap.size) (fun g hlt hp => ⟨hp, hlt⟩)).only hO (fun g e hp => hp.1.2.2 e)).weak (fun g _ hp => ⟨hp.1.1, hp.1.2.1, ?_⟩), s.row.only hO s.farR.2.2, ?_, Only.below s.below hO s.below.size (fun g hlt e => ?_), s.new⟩
  · have := s.farK e
    rcases h with h | h
    · exact this.1 h
    · exact this.2 h
  · intro e
    rcases hat with h | h
    · exact hp.1.2.2 (h ▸ e)
    · rw [h] at e
      injection e with e
      omega
  · rw [List.length_append, tcs_append]
    have e : tcs [q] = thr q := by simp [tcs]
    rw [e]
    exact ho
  · have := (s.kept.lt g e).1
    have := s.new
    omega

/-- The program's answer. -/
theorem Lp14.moved (s : Lp14 w wr t p a b R k v kv x y z V E K T V2 K2 T2) {k' v' : Value} {V' K' : List Int} {T' : List Tch} (h1 : PtAt w2 t p a b k' v' V' E K' T') (ho : Only (own14 t p a k v) wr w2)
    (hk : k'.ownBlock = k.ownBlock ∨ ∃ g, k'.ownBlock = some g ∧ wr.heap.size ≤ g) (hv : v'.ownBlock = v.ownBlock ∨ ∃ g, v'.ownBlock = some g ∧ wr.heap.size ≤ g) :
    Lp14 w w2 t p a b R k' v' kv x y z V' E K' T' V2 K2 T2 := by
  refine ⟨h1, ((s.ref.weak (Q := fun g => (¬ own14 t p a k v g ∧ g ≠ R ∧ kv.ownBlock ≠ some g) ∧ g < wr.heap.size) (fun g hlt hp => ⟨hp, hlt⟩)).only ho (fun g e hp => hp.1.1 e)).weak (fun g _ hp => ⟨?_, hp.1.2⟩), s.row.only ho s.farR.1, own_quiet s.kept (fun g hg => ho.block g (s.kept.lt g hg).2 (s.farK hg).1), Only.below s.below ho s.below.size (fun g hlt e => by have := s.old e; omega), s.new⟩
  rintro (h | h | h | h | h)
  · exact hp.1.1 (.inl h)
  · exact hp.1.1 (.inr (.inl h))
  · exact hp.1.1 (.inr (.inr (.inl h)))
  · rcases hk with e | ⟨g', e, hg'⟩
    · exact hp.1.1 (.inr (.inr (.inr (.inl (e ▸ h)))))
    · rw [e] at h; injection h with h; omega
  · rcases hv with e | ⟨g', e, hg'⟩
    · exact hp.1.1 (.inr (.inr (.inr (.inr (e ▸ h)))))
    · rw [e] at h; injection h with h; omega
end

theorem touch_info14 : (Try.prog.info? 33).map (fun i => (i.zero, i.size, i.bytes)) = some (some (.agg #[.int .i64 0, .int .i64 0, .int .i64 0]), 3, 24) := by kernel_rfl

theorem dT14_or (V E : List Int) (κ i u : Int) : (dT14 V E κ i u = [] ∧ dX14 V E κ i u = (0, 0, 0)) ∨ ∃ x, dT14 V E κ i u = [x] ∧ dX14 V E κ i u = x ∧ x.1 ≠ 0 := by
  unfold dX14
  have h := dT14_len V E κ i u
  cases hT : dT14 V E κ i u with
  | nil => exact .inl ⟨rfl, rfl⟩
  | cons x l =>
    rw [hT] at h
    obtain rfl : l = [] := List.eq_nil_of_length_eq_zero (by simpa using h)
    refine .inr ⟨x, rfl, rfl, ?_⟩
    unfold dT14 at hT
    by_cases h1 : κ = 1
    · rw [if_pos h1] at hT; injection hT with hT; rw [← hT]; simp
    · rw [if_neg h1] at hT
      by_cases h2 : κ = 2
      · rw [if_pos h2] at hT; injection hT with hT; rw [← hT]; simp
      · rw [if_neg h2] at hT
        by_cases h3 : κ = 3
        · rw [if_pos h3] at hT; injection hT with hT; rw [← hT]; simp
        · rw [if_neg h3] at hT
          by_cases h4 : κ = 4
          · rw [if_pos h4] at hT; injection hT with hT; rw [← hT]; simp
          · rw [if_neg h4] at hT
            by_cases h5 : κ = 5
            · rw [if_pos h5] at hT; injection hT with hT; rw [← hT]; simp
            · rw [if_neg h5] at hT; cases hT

set_option maxRecDepth 100000 in
theorem eql_t14 (a b c d e f : Int) (W : World) : (binOp .eql 33 (.agg #[.int .i64 a, .int .i64 b, .int .i64 c]) (.agg #[.int .i64 d, .int .i64 e, .int .i64 f])).run Try.prog W = .ok (.bool (decide (a = d ∧ b = e ∧ c = f))) W := by
  have u3 := Try.underlying3
  have a3 := Try.isAgg3
  have z3 := Try.sizeOf3
  have hS : Try.prog.underlying 33 = some (.struct (Try.prog.fieldsOf 33)) := by kernel_rfl
  have hp : Try.prog.stoodInHeld 33 = false := by kernel_rfl
  rw [run_eql_struct, show (10000 : Nat) = 9999 + 1 from rfl, run_equalIn_agg W 9999 33 _ _ hS hp]
  simp only [Program.fieldsOf, Try.underlying33]
  go_simp
  by_cases h1 : a = d <;> by_cases h2 : b = e <;> by_cases h3 : c = f <;> simp [h1, h2, h3]

set_option maxRecDepth 100000 in
theorem neq_t14 (a b c : Int) (W : World) : (binOp .neq 33 (.agg #[.int .i64 a, .int .i64 b, .int .i64 c]) (.agg #[.int .i64 a, .int .i64 b, .int .i64 c])).run Try.prog W = .ok (.bool false) W := by
  have h := eql_t14 a b c a b c W
  rw [run_eql_struct] at h
  rw [run_neq_struct]
  cases hr : (Op.equalIn 10000 33 (.agg #[.int .i64 a, .int .i64 b, .int .i64 c]) (.agg #[.int .i64 a, .int .i64 b, .int .i64 c])).run Try.prog W with
  | ok r w' =>
    rw [hr] at h
    simp only [Result.andThen_ok] at h ⊢
    injection h with h1 h2
    injection h1 with h1
    rw [h1, h2]
    simp
  | halt x w' =>
    rw [hr] at h
    simp [Result.andThen] at h

#print axioms Lp14.moved
#print axioms neq_t14
end Go.Proofs.Ytldhflpbpgckeaa
