/-
  Texts merged, with what one theorem needs of them.
  Conditions: those that each theorem states.
-/
import Derived.Test.YtiofipofbeodpaaGreatDoorRows
import Derived.Test.YtiofipofbeodpaaGreatDoorZ1
import Derived.Test.YtiofipofbeodpaaGreatDoorZ2
import Derived.Test.YtiofipofbeodpaaGreatDoorZ3
import Derived.Test.YtiofipofbeodpaaGreatDoorZ7
import Derived.Test.YtiofipofbeodpaaGreatDoorZ8
import Derived.Test.YtiofipofbeodpaaGreatDoorZ9
import Derived.Below
import Derived.BigQuiet
import Derived.Deep.AppendLies
import Derived.Deep.DeepMust
import Derived.Deep.Draws
import Derived.Deep.OwnRows
import Derived.Deep.QuietTactic
import Derived.Deep.RegionHeld3
import Derived.Handy
import Derived.IntWalk
import Derived.Laws.BitsLemmas
import Derived.Laws.CopyOwn
import Derived.Laws.OwnMore
import Derived.Laws.Rows
import Derived.Lib.Hide
import Derived.Lib.SliceRun
import Derived.Maps.AppendAt
import Derived.OpenShut
import Derived.ProofKit
import Derived.RegionTactic
import Derived.WalkKit
namespace Go.Proofs.YtiofipofbeodpaaGreatDoor

section
open Go.ChangeShapes Go.WideShapes Go.ChangeAt Go.RowKit
/-- A Plain: its struct is block p, its words and epochs are blocks a and b, its list of kicks is a slice of its own. -/
structure PlainAt (w : World) (p a b : Nat) (k : Value) (V E K : List Int) : Prop where
  row : Row w p 95 [.slice (some ⟨a, 0, none⟩) V.length V.length, .slice (some ⟨b, 0, none⟩) E.length E.length, k]
  words : Row w a 3 (ints V)
  epochs : Row w b 3 (ints E)
  kicks : w.ownsRow (b + 1) 3 1 k K.length (ints K)
  ne : a < b
  vl : V.length ≤ 65536
  el : E.length ≤ 65536
theorem PlainAt.pa {w : World} {p a b : Nat} {k : Value} {V E K : List Int} (r : PlainAt w p a b k V E K) : p ≠ a := r.row.ne r.words (by decide)
theorem PlainAt.pb {w : World} {p a b : Nat} {k : Value} {V E K : List Int} (r : PlainAt w p a b k V E K) : p ≠ b := r.row.ne r.epochs (by decide)
theorem PlainAt.kb {w : World} {p a b : Nat} {k : Value} {V E K : List Int} (r : PlainAt w p a b k V E K) {g : Nat} (h : k.ownBlock = some g) : b < g ∧ g < w.heap.size := by have := r.kicks.lt g h; omega
theorem own_quiet {w w' : World} {base : Nat} {e : TypeId} {size : Nat} {v : Value} {n : Nat} {xs : List Value} (h : w.ownsRow base e size v n xs) (hb : ∀ g, v.ownBlock = some g → w'.heap[g]? = w.heap[g]?) : w'.ownsRow base e size v n xs := by
  refine ⟨h.1, ?_⟩
  rcases h.2 with h2 | ⟨g, cap, cur, rfl, hb', hg, r⟩
  · exact .inl h2
  · exact .inr ⟨g, cap, cur, rfl, hb', (hb g rfl).trans hg, r⟩
theorem PlainAt.only {S : Nat → Prop} {w w' : World} {p a b : Nat} {k : Value} {V E K : List Int} (r : PlainAt w p a b k V E K) (ho : Only S w w') (h1 : ¬ S p) (h2 : ¬ S a) (h3 : ¬ S b) (h4 : ∀ g, k.ownBlock = some g → ¬ S g) : PlainAt w' p a b k V E K :=
  ⟨r.row.only ho h1, r.words.only ho h2, r.epochs.only ho h3, own_quiet r.kicks (fun g hg => ho.block g (r.kb hg).2 (h4 g hg)), r.ne, r.vl, r.el⟩
theorem PlainAt.below {w w' : World} {p a b : Nat} {k : Value} {V E K : List Int} (r : PlainAt w p a b k V E K) (hb : Below w.heap.size w w') : PlainAt w' p a b k V E K :=
  r.only (Only.of_below hb (fun _ => False)) id id id (fun _ _ => id)
theorem own_open14 {w : World} {base : Nat} {e : TypeId} {size : Nat} {v : Value} {n : Nat} {xs : List Value} (h : w.ownsRow base e size v n xs) : ∃ A c, v = .slice A n c := by
  rcases h.2 with ⟨rfl, h0⟩ | ⟨g, cap, cur, rfl, _⟩
  · exact ⟨none, 0, by rw [h0]⟩
  · exact ⟨_, cap, rfl⟩
theorem own_empty (w : World) (e : TypeId) (s : Nat) : (w.alloc (.cells #[] e)).ownsRow w.heap.size e s (.slice (some ⟨w.heap.size, 0, none⟩) 0 0) 0 [] :=
  ⟨by simp, .inr ⟨w.heap.size, 0, #[], rfl, Nat.le_refl _, by simpa using heap_alloc_new w (.cells #[] e), Nat.le_refl _, by unfold maxLen; omega, by simp, by simp⟩⟩
set_option maxRecDepth 100000 in
set_option maxHeartbeats 400000 in
theorem ofWords14_any (P Q : Nat → Prop) (l m : List Int) (v u : Value) (w : World) (hv : Lies w P v (ints l)) (hu : Lies w Q u (ints m)) (hl : l.length ≤ 65536) (hm : m.length ≤ 65536) :
    Calls Tryz.prog 19 #[v, u] w fun e w' => ∃ p a b, e = .returned (ptr p) ∧ PlainAt w' p a b (.slice none 0 0) (mod14 l) (mod14 m) [] ∧ w.heap.size ≤ a ∧ w.heap.size ≤ p ∧ Below w.heap.size w w' := by
  have L1 := Lib.hid (mod14_len l)
  have L2 := Lib.hid (mod14_len m)
  go_enter Tryz.func19, Tryz.ntmps19
  go_wp2_with fail
  refine (reduced14_any P l v w hv hl).mono ?_
  rintro e w1 ⟨a, rfl, r1, ha, hb1⟩
  go_wp2_with fail
  refine (reduced14_any Q m u w1 (hu.below hb1) hm).mono ?_
  rintro e w2 ⟨b, rfl, r2, hb, hb2⟩
  have R1 := Lib.hid r1
  have R2 := Lib.hid r2
  have B1 := Lib.hid hb1
  have B2 := Lib.hid hb2
  clear r1 r2 hb1 hb2
  go_wp2
  go_ret
  have h1 := R1.out.lt
  have h2 := B1.out.size
  have h3 := B2.out.size
  refine ⟨w2.heap.size, a, b, rfl, ⟨Row.new w2 95 #[_, _, _], (R1.out.below B2.out).below (below_al _ _), R2.out.below (below_al _ _), World.ownsRow_nil _ _ _ _, by omega, by rw [L1.out]; exact hl, by rw [L2.out]; exact hm⟩, ha, by omega, below_on (below_on B1.out B2.out) (below_al _ _)⟩
set_option maxRecDepth 100000 in
set_option maxHeartbeats 400000 in
theorem load14_any {p a b : Nat} {k : Value} {V E K : List Int} (i : Int) (w : World) (r : PlainAt w p a b k V E K) :
    Calls Tryz.prog 107 #[.pointer (some ⟨p, 0, none⟩), .int .i64 i] w fun e w' => e = .returned (.int .i64 (nth14 V i)) ∧ w = w' := by
  have hc := r.row.cell 0
  simp only [List.getElem?_cons_zero] at hc
  have L : Hid (Lies w (· = a) (.slice (some ⟨a, 0, none⟩) V.length V.length) (ints V)) := Lib.hid (by have := Lies.of_row (P := (· = a)) r.words rfl V.length; rwa [ints_len] at this)
  clear r
  go_enter Tryz.func107, Tryz.ntmps107
  go_wp2_with (go_at_call 109; refine (pick14_any _ V _ i _ L.out).mono ?_; rintro e w' ⟨rfl, rfl⟩)
  go_ret
  exact ⟨rfl, rfl⟩
set_option maxRecDepth 100000 in
set_option maxHeartbeats 400000 in
theorem epoch14_any {p a b : Nat} {k : Value} {V E K : List Int} (i : Int) (w : World) (r : PlainAt w p a b k V E K) :
    Calls Tryz.prog 105 #[.pointer (some ⟨p, 0, none⟩), .int .i64 i] w fun e w' => e = .returned (.int .i64 (nth14 E i)) ∧ w = w' := by
  have hc := r.row.cell 1
  simp only [List.getElem?_cons_zero, List.getElem?_cons_succ] at hc
  have L : Hid (Lies w (· = b) (.slice (some ⟨b, 0, none⟩) E.length E.length) (ints E)) := Lib.hid (by have := Lies.of_row (P := (· = b)) r.epochs rfl E.length; rwa [ints_len] at this)
  clear r
  go_enter Tryz.func105, Tryz.ntmps105
  go_wp2_with (go_at_call 109; refine (pick14_any _ E _ i _ L.out).mono ?_; rintro e w' ⟨rfl, rfl⟩)
  go_ret
  exact ⟨rfl, rfl⟩
/-- Whatever a cell holds. -/
def heldV14 (W : World) (a : Addr) : Value := (W.cell? a).getD undef
theorem heldV14_of {W : World} {a : Addr} (h : ∃ v, W.cell? a = some v) : W.cell? a = some (heldV14 W a) := by
  obtain ⟨v, hv⟩ := h
  unfold heldV14
  rw [hv]
  rfl
theorem stored14 {w : World} {p a b : Nat} {k : Value} {V E K : List Int} (r : PlainAt w p a b k V E K) {j : Nat} (hj : j < V.length) (x : Int) :
    (w.setCell ⟨a, j, none⟩ (.int .i64 x)).cell? ⟨p, 0, none⟩ = some (.slice (some ⟨a, 0, none⟩) V.length V.length) ∧ (w.setCell ⟨a, j, none⟩ (.int .i64 x)).cell? ⟨a, j, none⟩ = some (heldV14 (w.setCell ⟨a, j, none⟩ (.int .i64 x)) ⟨a, j, none⟩) ∧ (w.setCell ⟨a, j, none⟩ (.int .i64 x)).frozen? ⟨a, j, none⟩ = false :=
  ⟨(cell_far (p := ⟨a, j, none⟩) r.pa _).trans (r.row.cell 0), heldV14_of ⟨_, ((r.words.put j _).cell j).trans (List.getElem?_eq_getElem (by simp [ints_len]; exact hj))⟩, (r.words.put j _).soft j⟩
theorem PlainAt.put {w : World} {p a b : Nat} {k : Value} {V E K : List Int} (r : PlainAt w p a b k V E K) (j : Nat) (x : Int) : PlainAt (w.setCell ⟨a, j, none⟩ (.int .i64 x)) p a b k (V.set j x) E K := by
  have hO : Only (· = a) w (w.setCell ⟨a, j, none⟩ (.int .i64 x)) := (Only.refl (· = a) w).setCell (p := ⟨a, j, none⟩) (.inl rfl) _
  have hl : (V.set j x).length = V.length := by simp
  have hn := r.ne
  refine ⟨?_, ?_, r.epochs.only hO (by omega), own_quiet r.kicks (fun g hg => hO.block g (r.kb hg).2 (fun e => by have := (r.kb hg).1; omega)), r.ne, by rw [hl]; exact r.vl, r.el⟩
  · rw [hl]
    exact r.row.only hO (fun e => r.pa e)
  · rw [ints_set]
    exact r.words.put j _
set_option maxRecDepth 100000 in
set_option maxHeartbeats 1000000 in
theorem store14_any {p a b : Nat} {k : Value} {V E K : List Int} (i x : Int) (w : World) (r : PlainAt w p a b k V E K) :
    Calls Tryz.prog 108 #[.pointer (some ⟨p, 0, none⟩), .int .i64 i, .int .i64 x] w fun e w' => e = .returned (.tuple #[]) ∧ PlainAt w' p a b k (put14 V i (x % 65536)) E K ∧ Only (· = a) w w' := by
  have hc := r.row.cell 0
  simp only [List.getElem?_cons_zero] at hc
  have R := Lib.hid r
  obtain ⟨n, hn⟩ : ∃ n, V.length = n := ⟨_, rfl⟩
  rw [hn] at hc
  have HN := Lib.hid hn; clear hn
  cases h : in14 V i with
  | false =>
    have E1 := Lib.hid (put14_out (x % 65536) h)
    have H := Lib.hid h; clear h r
    go_enter Tryz.func108, Tryz.ntmps108
    go_wp2_with (go_at_call 110; refine (has14_any V _ n _ i HN.out _).mono ?_; rw [H.out]; rintro e w' ⟨rfl, rfl⟩)
    go_end0
    exact ⟨rfl, by rw [E1.out]; exact R.out, Only.refl _ _⟩
  | true =>
    obtain ⟨j, y, rfl, hx, hk, _, e⟩ := in14_at h
    have hk1 : j < n := by rw [← HN.out]; exact hk
    have E1 := Lib.hid (e (x % 65536))
    have H := Lib.hid h
    have hu := (r.words.cell j).trans (ints_some hx)
    have f1 := r.words.soft j
    have hk' : (j : Int) < (n : Int) := by omega
    have S0 := Lib.hid (stored14 r hk (x % 65536))
    rw [HN.out] at S0
    clear h e hx hk r
    go_enter Tryz.func108, Tryz.ntmps108
    go_wp2_with (go_at_call 110; refine (has14_any V _ n _ (j : Int) HN.out _).mono ?_; rw [H.out]; rintro e w' ⟨rfl, rfl⟩)
    go_region_held3 (fun w' => w'.cell? ⟨p, 0, none⟩ = some (.slice (some ⟨a, 0, none⟩) n n) ∧ w'.cell? ⟨a, j, none⟩ = some (heldV14 w' ⟨a, j, none⟩) ∧ w'.frozen? ⟨a, j, none⟩ = false)
      (first | exact ⟨hc, heldV14_of ⟨_, hu⟩, f1⟩ | exact S0.out | go_keep)
      (first
        | (go_at_call 68; refine (word_any _ _).mono ?_; rintro e w' ⟨rfl, rfl⟩))
    go_wp2
    go_end0
    exact ⟨rfl, by rw [E1.out]; exact (R.out.put j _).below (Below.refl _ _).drew, ((Only.refl (· = a) w).setCell (p := ⟨a, j, none⟩) (.inl rfl) _).drew⟩
set_option maxRecDepth 100000 in
set_option maxHeartbeats 1000000 in
theorem clone14_any (P : Nat → Prop) (l : List Int) (v : Value) (w : World) (hv : Lies w P v (ints l)) (hcap : CapOk v) (hl : l.length ≤ 65536) :
    Calls Tryz.prog 46 #[v] w fun e w' => ∃ v', e = .returned v' ∧ w'.ownsRow w.heap.size 3 1 v' l.length (ints l) ∧ Below w.heap.size w w' := by
  obtain ⟨i0, hi0, hz0, hz1, hz2⟩ := info_parts int_info
  obtain ⟨A, n, c, rfl, HN, HV⟩ := lies_open hv
  have hn : n ≤ 65536 := by rw [← HN.out]; exact hl
  have q22 : ∀ (w : World) (a : Option Addr) (n c n' c' : Nat), (binOp .eql 35 (.slice a n c) (.slice none n' c')).run Tryz.prog w = .ok (.bool a.isNone) w := fun w a n c n' c' => Lib.run_eql_slice_nil w _ _ a n c n' c' Tryz.underlying35
  clear hv hl
  cases A with
  | none =>
    have h0 : l = [] := by
      obtain ⟨A', c', hs, hA⟩ := HV.out
      injection hs with e1 e2 e3
      refine Classical.byContradiction fun h => ?_
      have : 0 < (ints l).length := by rw [ints_len]; exact List.length_pos_iff.2 h
      obtain ⟨g, o, h1, _⟩ := hA this
      rw [← e1] at h1
      cases h1
    have H0 := Lib.hid h0; clear h0
    go_enter Tryz.func46, Tryz.ntmps46
    go_wp2
    go_ret
    exact ⟨_, rfl, by rw [H0.out]; exact World.ownsRow_nil _ _ _ _, Below.refl _ _⟩
  | some ad =>
    have O1 := Lib.hid (ints_one l)
    go_enter Tryz.func46, Tryz.ntmps46
    go_wp2_with (at_builtin; go_must (refine app_walk _ rfl (.tmp 5) (.tmp 6) 35 rfl w.heap.size 3 i0 _ 8 Tryz.underlying35 hi0 hz0 hz1 hz2 rfl (.slice (some ⟨w.heap.size, 0, none⟩) 0 0) 0 [] rfl (own_empty _ _ _) P (some ad) n c (ints l) rfl (HV.out.below (below_al _ _)) hcap O1.out (by unfold maxLen; omega) (by omega) (by simp) ?_; intro v1 w1 hown1 hg1 hat1; rw [Nat.zero_add, List.nil_append] at hown1; have HO := Lib.hid hown1; have HB := Lib.hid ((below_al w (.cells #[] 3)).grown hg1 (by simp) (by intro k hk; simp only [Value.ownBlock, Option.some.injEq] at hk; omega)); clear hown1 hg1 hat1))
    go_ret
    exact ⟨_, rfl, by rw [HN.out]; exact HO.out, HB.out⟩
set_option maxRecDepth 100000 in
set_option maxHeartbeats 400000 in
theorem words14_any {p a b : Nat} {k : Value} {V E K : List Int} (w : World) (r : PlainAt w p a b k V E K) :
    Calls Tryz.prog 24 #[.pointer (some ⟨p, 0, none⟩)] w fun e w' => ∃ v', e = .returned v' ∧ w'.ownsRow w.heap.size 3 1 v' V.length (ints V) ∧ Below w.heap.size w w' := by
  have hc := r.row.cell 0
  simp only [List.getElem?_cons_zero] at hc
  have L : Hid (Lies w (· = a) (.slice (some ⟨a, 0, none⟩) V.length V.length) (ints V)) := Lib.hid (by have := Lies.of_row (P := (· = a)) r.words rfl V.length; rwa [ints_len] at this)
  have hl := r.vl
  clear r
  go_enter Tryz.func24, Tryz.ntmps24
  go_wp2_with (go_at_call 46; refine (clone14_any _ V _ _ L.out (Nat.le_refl _) hl).mono ?_; rintro e w1 ⟨v1, rfl, o1, b1⟩)
  go_ret
  exact ⟨_, rfl, o1, b1⟩
/-- An append of elements of any size that lie from an address on. -/
theorem app14_walk {P : Program} {w : World} {ops : Array Oper} {rest : List Oper} {o : Oper} {a : Act} {Q : Exit → Act → World → Prop} (hgd : o.guard = none) (s x : Operand) (t : TypeId)
    (ho : o.op = .call { callee := .builtin .append, args := #[s, x], argTypes := #[t, t] }) (base : Nat) (e : TypeId) (i : TypeInfo) (z : Value) (size bytes : Nat) (ht : P.underlying t = some (.slice e)) (hi : P.info? e = some i) (hz : i.zero = some z)
    (hsize : i.size = size) (hby : i.bytes = bytes) (hzs : z.cells.size = size) (hpos : 0 < size) (v : Value) (n : Nat) (xs : List Value) (hs : a.eval s = v) (hown : w.ownsRow base e size v n xs)
    (ad : Addr) (m c : Nat) (news : List Value) (hx : a.eval x = .slice (some ad) m c) (hn : news.length = m * size) (hc : ∀ j u, news[j]? = some u → w.cell? (ad.add j) = some u) (h1 : ∀ u ∈ news, u.oneCell' = true)
    (h63 : n + m ≤ maxLen) (hbytes : (n + m) * bytes ≤ 140737488355328) (hbase : base ≤ w.heap.size)
    (h : ∀ v' w', w'.ownsRow base e size v' (n + m) (xs ++ news) → w.grownBy w' v.ownBlock → (v'.ownBlock = v.ownBlock ∨ v'.ownBlock = some w.heap.size) → wpList P ops Q rest (a.put o.dst v') w') : wpList P ops Q (o :: rest) a w := by
  obtain ⟨v', w', hrun, h2, h3, _, h5⟩ := run_append_own_at (P := P) w base t o.type e i z size bytes ht hi hz hsize hby hzs hpos v n xs hown ad m c news hn hc h1 h63 hbytes hbase
  refine wpList_plain hgd fun K hK => ?_
  unfold Oper.wp
  simp [execOp, ho, resolve, invoke, builtin, hs, hx, hrun, Result.andThen]
  exact hK _ _ (h v' w' h2 h3 h5)
end

end Go.Proofs.YtiofipofbeodpaaGreatDoor
