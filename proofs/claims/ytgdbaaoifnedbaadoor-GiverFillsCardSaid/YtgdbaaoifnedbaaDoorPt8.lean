/-
  Layer 14 (port): the methods of a Trace that forwards to a Plain, second part: Store, Fence, Kick.
  Conditions: those that each theorem states.
-/
import Derived.Test.YtgdbaaoifnedbaaDoorPt7
namespace Go.Proofs.YtgdbaaoifnedbaaDoor
open Go.ChangeShapes Go.WideShapes Go.ChangeAt Go.RowKit

section
variable {t p a b : Nat} {k v : Value} {V E K : List Int} {T : List Tch}

/-- Behind record: the Plain is as it was. -/
theorem PtAt.rec_ {w w' : World} {v' : Value} {T' : List Tch} (r : PtAt w t p a b k v V E K T) (ho : Only (fun g => g = t ∨ v.ownBlock = some g) w w') (ht : TraceAt w' t p v' T') : PtAt w' t p a b k v' V E K T' :=
  ⟨r.plain.only ho (fun e => by rcases e with e | e; exact r.tp e.symm; exact r.vp e) (fun e => by rcases e with e | e; exact r.ta e.symm; exact r.va e) (fun e => by rcases e with e | e; exact r.tb e.symm; exact r.vb e) (fun g hg e => by rcases e with rfl | e; exact r.kt hg; exact r.kv hg e), ht⟩

set_option maxRecDepth 100000 in
set_option maxHeartbeats 2000000 in
theorem tstore14_any (i u : Int) (w : World) (r : PtAt w t p a b k v V E K T) (hl : T.length ≤ 65536) :
    Calls Tryd.prog 147 #[.pointer (some ⟨t, 0, none⟩), .int .i64 i, .int .i64 u] w (PtP t p a b k v (put14 V i (u % 65536)) E K (T ++ [(2, i, u)]) (.tuple #[]) w) := by
  have hmf : ∀ (fn : Fn) (first cap : Array Value) (w : World), (Instr.makeFunc fn first cap).run Tryd.prog w = .ok (.func fn first cap) w := fun _ _ _ _ => rfl
  have R := Lib.hid r
  have htl := r.trace.row.lt
  have hal := r.plain.words.lt
  obtain ⟨b0, b1, b2, bB⟩ := boxes14 w (.pointer (some ⟨t, 0, none⟩)) (.int .i64 i) (.int .i64 u) 56 3 3
  have B0 := Lib.hid b0
  have B1 := Lib.hid b1
  have B2 := Lib.hid b2
  have BB := Lib.hid bB
  clear r b0 b1 b2 bB
  go_enter Tryd.func147, Tryd.ntmps147
  go_wp2_with fail
  refine (attempt14 154 _ _ (fun w' => PlainAt w' p a b k (put14 V i (u % 65536)) E K ∧ Only (· = a) (((w.alloc (.cells #[.pointer (some ⟨t, 0, none⟩)] 56)).alloc (.cells #[.int .i64 i] 3)).alloc (.cells #[.int .i64 u] 3)) w') (fun W => by kernel_rfl) (storeC14 i u (B0.out.cell 0) ((R.out.trace.below BB.out).row.cell 0) (B1.out.cell 0) (B2.out.cell 0) (R.out.plain.below BB.out))).mono ?_
  rintro e w2 ⟨rfl, r2, o2⟩
  have z2 := B0.out.only o2 (by omega)
  have y2 := B1.out.only o2 (by omega)
  have x2 := B2.out.only o2 (by omega)
  have M2 := Lib.hid (PtAt.mk r2 ((R.out.trace.below BB.out).only o2 R.out.ta (fun g hg e => R.out.va (by rw [hg, e]))))
  have q0 := z2.cell 0
  have q1 := y2.cell 0
  have q2 := x2.cell 0
  simp only [List.getElem?_cons_zero] at q0 q1 q2
  have O2 := Lib.hid o2
  clear r2 o2 z2 y2 x2
  go_wp2_with fail
  refine (record14_any 2 i u w2 M2.out.trace hl).mono ?_
  rintro e w3 ⟨v3, rfl, t3, o3, hv3⟩
  have M3 := Lib.hid (M2.out.rec_ o3 t3)
  have O3 := Lib.hid o3
  clear t3 o3
  go_wp2
  go_end0
  have hs2 := Nat.le_trans BB.out.size O2.out.size
  exact ⟨k, v3, rfl, M3.out, ((Only.of_below BB.out _).then14 O2.out (fun g hg e => .inr (.inr (.inl e)))).then14 O3.out (fun g hg e => by rcases e with e | e; exact .inl e; exact .inr (.inr (.inr (.inr e)))), .inl rfl, hv3.imp id (fun ⟨g, h1, h2⟩ => ⟨g, h1, by omega⟩)⟩

set_option maxRecDepth 100000 in
set_option maxHeartbeats 2000000 in
theorem tfence14_any (w : World) (r : PtAt w t p a b k v V E K T) (hl : T.length ≤ 65536) :
    Calls Tryd.prog 144 #[.pointer (some ⟨t, 0, none⟩)] w (PtP t p a b k v V E K (T ++ [(3, 0, 0)]) (.tuple #[]) w) := by
  have hmf : ∀ (fn : Fn) (first cap : Array Value) (w : World), (Instr.makeFunc fn first cap).run Tryd.prog w = .ok (.func fn first cap) w := fun _ _ _ _ => rfl
  have R := Lib.hid r
  have htl := r.trace.row.lt
  have B0 := Lib.hid (Row.new w 56 #[.pointer (some ⟨t, 0, none⟩)])
  have BB := Lib.hid (below_al w (.cells #[.pointer (some ⟨t, 0, none⟩)] 56))
  clear r
  go_enter Tryd.func144, Tryd.ntmps144
  go_wp2_with fail
  refine (attempt14 151 _ _ (fun w' => w' = w.alloc (.cells #[.pointer (some ⟨t, 0, none⟩)] 56)) (fun W => by kernel_rfl) (fenceC14 (B0.out.cell 0) ((R.out.trace.below BB.out).row.cell 0))).mono ?_
  rintro e w2 ⟨rfl, rfl⟩
  have M2 := Lib.hid (R.out.below BB.out)
  go_wp2_with fail
  refine (record14_any 3 0 0 _ M2.out.trace hl).mono ?_
  rintro e w3 ⟨v3, rfl, t3, o3, hv3⟩
  have M3 := Lib.hid (M2.out.rec_ o3 t3)
  have O3 := Lib.hid o3
  clear t3 o3
  go_wp2
  go_end0
  have hs2 := BB.out.size
  exact ⟨k, v3, rfl, M3.out, (Only.of_below BB.out _).then14 O3.out (fun g hg e => by rcases e with e | e; exact .inl e; exact .inr (.inr (.inr (.inr e)))), .inl rfl, hv3.imp id (fun ⟨g, h1, h2⟩ => ⟨g, h1, by omega⟩)⟩

set_option maxRecDepth 100000 in
set_option maxHeartbeats 2000000 in
theorem tkick14_any (i : Int) (w : World) (r : PtAt w t p a b k v V E K T) (hl : T.length ≤ 65536) (hk : K.length ≤ 65536) :
    Calls Tryd.prog 145 #[.pointer (some ⟨t, 0, none⟩), .int .i64 i] w (PtP t p a b k v V E (K ++ [i]) (T ++ [(5, i, 0)]) (.tuple #[]) w) := by
  have hmf : ∀ (fn : Fn) (first cap : Array Value) (w : World), (Instr.makeFunc fn first cap).run Tryd.prog w = .ok (.func fn first cap) w := fun _ _ _ _ => rfl
  have R := Lib.hid r
  have htl := r.trace.row.lt
  have hpl := r.plain.row.lt
  have HKL := Lib.hid (fun g => (r.plain.kb (g := g)))
  obtain ⟨b0, b1, bB⟩ := boxes14_2 w (.pointer (some ⟨t, 0, none⟩)) (.int .i64 i) 56 3
  have B0 := Lib.hid b0
  have B1 := Lib.hid b1
  have BB := Lib.hid bB
  clear r b0 b1 bB
  go_enter Tryd.func145, Tryd.ntmps145
  go_wp2_with fail
  refine (attempt14 152 _ _ (fun w' => ∃ k', PlainAt w' p a b k' V E (K ++ [i]) ∧ Only (fun g => g = p ∨ k.ownBlock = some g) ((w.alloc (.cells #[.pointer (some ⟨t, 0, none⟩)] 56)).alloc (.cells #[.int .i64 i] 3)) w' ∧ (k'.ownBlock = k.ownBlock ∨ ∃ g, k'.ownBlock = some g ∧ ((w.alloc (.cells #[.pointer (some ⟨t, 0, none⟩)] 56)).alloc (.cells #[.int .i64 i] 3)).heap.size ≤ g)) (fun W => by kernel_rfl) ((kickC14 i (B0.out.cell 0) ((R.out.trace.below BB.out).row.cell 0) (B1.out.cell 0) (R.out.plain.below BB.out) hk).mono (fun e w' h => (by obtain ⟨k', h1, h2⟩ := h; exact ⟨h1, k', h2⟩)))).mono ?_
  rintro e w2 ⟨rfl, k2, r2, o2, hk2⟩
  have z2 := B0.out.only o2 (fun e => by rcases e with e | e; omega; have := HKL.out _ e; omega)
  have y2 := B1.out.only o2 (fun e => by rcases e with e | e; omega; have := HKL.out _ e; omega)
  have M2 := Lib.hid (PtAt.mk r2 ((R.out.trace.below BB.out).only o2 (fun e => by rcases e with e | e; exact R.out.tp e; exact R.out.kt e) (fun g hg e => by rcases e with rfl | e; exact R.out.vp hg; exact R.out.kv e hg)))
  have q0 := z2.cell 0
  have q1 := y2.cell 0
  simp only [List.getElem?_cons_zero] at q0 q1
  have O2 := Lib.hid o2
  have HK2 := Lib.hid hk2
  clear r2 o2 z2 y2 hk2
  go_wp2_with fail
  refine (record14_any 5 i 0 w2 M2.out.trace hl).mono ?_
  rintro e w3 ⟨v3, rfl, t3, o3, hv3⟩
  have M3 := Lib.hid (M2.out.rec_ o3 t3)
  have O3 := Lib.hid o3
  clear t3 o3
  go_wp2
  go_end0
  have hs1 := BB.out.size
  have hs2 := Nat.le_trans BB.out.size O2.out.size
  exact ⟨k2, v3, rfl, M3.out, ((Only.of_below BB.out _).then14 O2.out (fun g hg e => by rcases e with e | e; exact .inr (.inl e); exact .inr (.inr (.inr (.inl e))))).then14 O3.out (fun g hg e => by rcases e with e | e; exact .inl e; exact .inr (.inr (.inr (.inr e)))), HK2.out.imp id (fun ⟨g, h1, h2⟩ => ⟨g, h1, by omega⟩), hv3.imp id (fun ⟨g, h1, h2⟩ => ⟨g, h1, by omega⟩)⟩
end

#print axioms tstore14_any
#print axioms tfence14_any
#print axioms tkick14_any
end Go.Proofs.YtgdbaaoifnedbaaDoor
