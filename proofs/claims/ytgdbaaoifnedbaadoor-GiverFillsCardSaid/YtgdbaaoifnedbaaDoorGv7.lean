/-
  Layer 16 (giver): what access defers; what an access leaves.
  Conditions: those that each theorem states.
-/
import Derived.Test.YtgdbaaoifnedbaaDoorGv6
namespace Go.Proofs.YtgdbaaoifnedbaaDoor
open Go.ChangeShapes Go.WideShapes Go.ChangeAt Go.RowKit

set_option maxRecDepth 100000 in
set_option maxHeartbeats 1000000 in
theorem caught16 {tb g : Nat} (w : World) (h0 : w.cell? ⟨tb, 0, none⟩ = some (.pointer (some ⟨g, 0, none⟩))) (h7 : w.cell? ⟨g, 7, none⟩ = some (.bool true)) (hf : w.frozen? ⟨g, 7, none⟩ = false) :
    CallsD Tryd.prog 99 #[.pointer (some ⟨tb, 0, none⟩)] .returning w fun e u' w' => e = .returned (.tuple #[]) ∧ u' = .returning ∧ w' = w.setCell ⟨g, 7, none⟩ (.bool false) := by
  refine callsD_of_wpS Tryd.func99 rfl fun c₀ cs hu => ?_
  simp only [Tryd.ntmps99, List.size_toArray, List.length_cons, List.length_nil, Nat.reduceAdd, Nat.reduceSub, Array.replicate_succ, Array.replicate_zero, List.push_toArray, List.append_toArray, List.nil_append, List.cons_append]
  apply wpS_seq
  apply wpS_of_wp
  go_wp2
  simp only [Exit.thenS]
  apply wpS_region
  simp [wpOpsS, go_sem, recoverD, hu]
  cases c₀
  simp_all [bodyPostS, results, Tryd.results99]

/-- The giver's address of the word that it accesses next, its kind and what is stored. -/
def tch16 (G : Gv) : Tch :=
  if G.st = 1 ∨ G.st = 15 then (4, G.peer, 0)
  else if G.st = 2 then (2, ad16 G 3 0 0, 0)
  else if G.st = 3 then (2, ad16 G 1 0 0, ep16 G)
  else if G.st = 5 then (1, ad16 G 2 0 0, 0)
  else if G.st = 6 then (1, ad16 G 4 0 0, 0)
  else if G.st = 7 then (1, ad16 G 6 (G.tail % (G.R : Int)) 0, 0)
  else if G.st = 8 then (2, ad16 G 8 (tk16 G) (G.sto : Int), G.load.getD G.sto 0)
  else if G.st = 9 then (2, ad16 G 7 (tk16 G) 0, (G.load.length : Int))
  else if G.st = 10 then (2, ad16 G 5 (G.next % (G.R : Int)) 0, tk16 G)
  else if G.st = 12 then (2, ad16 G 3 0 0, addW G.next 1)
  else if G.st = 14 then (5, G.peer, 0)
  else (3, 0, 0)

/-- The giver while its port makes an access. -/
def in16 (G : Gv) : Gv := { G with ins := true }

/-- What access asks of the numbers. -/
structure Acc16 (G : Gv) : Prop where
  ins : G.ins = false
  B : 0 ≤ G.B ∧ G.B ≤ 65535
  R : 1 ≤ G.R ∧ G.R ≤ 64
  next : 0 ≤ G.next ∧ G.next ≤ 65535
  tail : 0 ≤ G.tail ∧ G.tail ≤ 65535
  out : G.out.length ≤ 64
  held : 8 ≤ G.st → G.st ≤ 10 → G.out ≠ []
  word : G.st = 8 → G.sto < G.load.length
  len : G.load.length ≤ 8

section
variable {g : Nat} {G : Gv} {vf vo vl : Value}

/-- The variable of the receiver, and the mark. -/
theorem enter16 (w : World) (r : GAt w g G vf vo vl) :
    Row ((w.setCell ⟨g, 7, none⟩ (.bool true)).alloc (.cells #[.pointer (some ⟨g, 0, none⟩)] 29)) w.heap.size 29 [.pointer (some ⟨g, 0, none⟩)] ∧
    GAt ((w.setCell ⟨g, 7, none⟩ (.bool true)).alloc (.cells #[.pointer (some ⟨g, 0, none⟩)] 29)) g (in16 G) vf vo vl ∧
    Only (· = g) w ((w.setCell ⟨g, 7, none⟩ (.bool true)).alloc (.cells #[.pointer (some ⟨g, 0, none⟩)] 29)) := by
  have o := only_put16 w g 7 (.bool true)
  have r1 : GAt (w.setCell ⟨g, 7, none⟩ (.bool true)) g (in16 G) vf vo vl := r.turn o (r.row.put 7 (.bool true)) rfl rfl rfl
  have b := below_al (w.setCell ⟨g, 7, none⟩ (.bool true)) (.cells #[.pointer (some ⟨g, 0, none⟩)] 29)
  have rn := Row.new (w.setCell ⟨g, 7, none⟩ (.bool true)) 29 #[.pointer (some ⟨g, 0, none⟩)]
  rw [show (w.setCell ⟨g, 7, none⟩ (.bool true)).heap.size = w.heap.size from by simp [World.setCell]] at rn
  exact ⟨rn, r1.below b, o.then_below b⟩

/-- What an access leaves, by a Trace that forwards to a Plain. -/
def AccT (g : Nat) (G : Gv) (vf vo vl : Value) (t p a b : Nat) (k v : Value) (V E K : List Int) (T : List Tch) (n : Int) (w : World) (e : Ending) (w' : World) : Prop :=
  ∃ k' v', e = .returned (.int .i64 n) ∧ GAt w' g G vf vo vl ∧ PtAt w' t p a b k' v' V E K T ∧ Only (fun x => own14 t p a k v x ∨ x = g) w w' ∧ (k'.ownBlock = k.ownBlock ∨ ∃ x, k'.ownBlock = some x ∧ w.heap.size ≤ x) ∧ (v'.ownBlock = v.ownBlock ∨ ∃ x, v'.ownBlock = some x ∧ w.heap.size ≤ x)

/-- The mark is taken away again. -/
theorem leave16 {w w1 w2 : World} {S : Nat → Prop} (hi : G.ins = false) (o1 : Only (· = g) w w1) (r2 : GAt w2 g (in16 G) vf vo vl) (o2 : Only S w1 w2) :
    GAt (w2.setCell ⟨g, 7, none⟩ (.bool false)) g G vf vo vl ∧ Only (fun x => S x ∨ x = g) w (w2.setCell ⟨g, 7, none⟩ (.bool false)) := by
  have o3 := only_put16 w2 g 7 (.bool false)
  refine ⟨r2.turn o3 ?_ rfl rfl rfl, ((o1.mono (fun _ _ h => .inr h)).trans (o2.mono (fun _ _ h => .inl h))).trans (o3.mono (fun _ _ h => .inr h))⟩
  have := r2.row.put 7 (.bool false)
  rw [show gvC G vf vo vl = (gvC (in16 G) vf vo vl).set 7 (.bool false) from by simp [gvC, in16, hi]]
  exact this

theorem endT16 {t p a b : Nat} {k v k2 v2 : Value} {E V' K' : List Int} {T' : List Tch} {n : Int} {w w1 w2 : World} (hi : G.ins = false) (o1 : Only (· = g) w w1) (r2 : GAt w2 g (in16 G) vf vo vl) (rp : PtAt w2 t p a b k2 v2 V' E K' T') (o2 : Only (own14 t p a k v) w1 w2)
    (hg : ∀ x, own14 t p a k v x ∨ x = b → x ≠ g) (hlt : g < w.heap.size) (hk : k2.ownBlock = k.ownBlock ∨ ∃ x, k2.ownBlock = some x ∧ w.heap.size ≤ x) (hv : v2.ownBlock = v.ownBlock ∨ ∃ x, v2.ownBlock = some x ∧ w.heap.size ≤ x) :
    AccT g G vf vo vl t p a b k v V' E K' T' n w (.returned (.int .i64 n)) (w2.setCell ⟨g, 7, none⟩ (.bool false)) := by
  obtain ⟨r3, o3⟩ := leave16 hi o1 r2 o2
  refine ⟨k2, v2, rfl, r3, rp.only (only_put16 w2 g 7 _) (fun x hx e => ?_), o3, hk, hv⟩
  rcases hx with hx | hx
  · rcases hx with hx | hx | hx | hx | hx
    · exact hg x (.inl (.inl hx)) e
    · exact hg x (.inl (.inr (.inl hx))) e
    · exact hg x (.inl (.inr (.inr (.inl hx)))) e
    · rcases hk with h | ⟨y, h, hy⟩
      · exact hg x (.inl (.inr (.inr (.inr (.inl (by rw [← h]; exact hx)))))) e
      · rw [hx] at h; injection h with h; omega
    · rcases hv with h | ⟨y, h, hy⟩
      · exact hg x (.inl (.inr (.inr (.inr (.inr (by rw [← h]; exact hx)))))) e
      · rw [hx] at h; injection h with h; omega
  · exact hg x (.inr hx) e
/-! ### The table of the fields, by a set of changed blocks -/

theorem TabAt.only {S : Nat → Prop} {w w' : World} (h : TabAt w) (ho : Only S w w') (hn : ¬ S 0) : TabAt w' := by
  have hk : ∀ o, w'.cell? ⟨0, o, none⟩ = w.cell? ⟨0, o, none⟩ := fun o => World.cell?_of_block (w := w) (ho.block _ h.lt hn)
  intro k hk9
  rw [hk, hk, hk, hk]
  exact h k hk9

theorem tab_ne {w : World} (h : TabAt w) (r : GAt w g G vf vo vl) : 0 ≠ g := by
  intro e
  have h3 : w.cell? ⟨0, 3, none⟩ = some (.bool false) := (h 0 (by omega)).2.2.2
  have h4 : w.cell? ⟨g, 3, none⟩ = some (.int .i64 G.own) := r.row.cell 3
  rw [← e, h3] at h4
  cases h4
end

#print axioms caught16
#print axioms endT16
end Go.Proofs.YtgdbaaoifnedbaaDoor
