/-
  Layer 19 (diary): the program's text of an entry.
  Conditions: those that each theorem states.
-/
import Derived.Test.YtikjokhpombjjaaDoorDi17
import Derived.Test.YtikjokhpombjjaaDoorDrv
namespace Go.Proofs.YtikjokhpombjjaaDoor
open Go.ChangeShapes Go.WideShapes Go.ChangeAt Go.RowKit

set_option maxRecDepth 100000 in
set_option maxHeartbeats 4000000 in
theorem text19_any (x : En) (u : Value) (w : World) (hu : ∃ A n c, u = .slice A n c) (hx : Rng19 x) (ht : Tab19 w) :
    Calls Tryd.prog 15 #[.agg (row19 x u).toArray] w fun e w' => e = .returned (.string ⟨(txt19 x).toArray⟩) ∧ Below w.heap.size w w' := by
  obtain ⟨A, n, c, rfl⟩ := hu
  obtain ⟨x0, x1, x2, x3, x4, x5, x7⟩ := hx
  have R := Lib.hid (Row.new w 38 (row19 x (.slice A n c)).toArray)
  have BB := Lib.hid (below_al w (.cells (row19 x (.slice A n c)).toArray 38))
  have KE := Lib.hid (fun (W : World) => ended19_any x (.slice A n c) W)
  have K0 := Lib.hid (fun (W : World) (h : Below (w.alloc (.cells #[.int .i64 x.core, .int .i64 x.peer, .int .i64 x.kind, .int .i64 x.beg, .int .i64 x.fin, .int .i64 x.err, .slice A n c, .int .i64 x.hnd] 38)).heap.size (w.alloc (.cells #[.int .i64 x.core, .int .i64 x.peer, .int .i64 x.kind, .int .i64 x.beg, .int .i64 x.fin, .int .i64 x.err, .slice A n c, .int .i64 x.hnd] 38)) W) => (itoa19_any x.core x0 W (ht.below (below_on BB.out h))).mono (fun e w' (h' : e = .returned (.string ⟨(Lib.itoa x.core).toArray⟩) ∧ Below W.heap.size W w') => (⟨h'.1, below_on h h'.2⟩ : e = .returned (.string ⟨(Lib.itoa x.core).toArray⟩) ∧ Below (w.alloc (.cells #[.int .i64 x.core, .int .i64 x.peer, .int .i64 x.kind, .int .i64 x.beg, .int .i64 x.fin, .int .i64 x.err, .slice A n c, .int .i64 x.hnd] 38)).heap.size (w.alloc (.cells #[.int .i64 x.core, .int .i64 x.peer, .int .i64 x.kind, .int .i64 x.beg, .int .i64 x.fin, .int .i64 x.err, .slice A n c, .int .i64 x.hnd] 38)) w')))
  have K1 := Lib.hid (fun (W : World) (h : Below (w.alloc (.cells #[.int .i64 x.core, .int .i64 x.peer, .int .i64 x.kind, .int .i64 x.beg, .int .i64 x.fin, .int .i64 x.err, .slice A n c, .int .i64 x.hnd] 38)).heap.size (w.alloc (.cells #[.int .i64 x.core, .int .i64 x.peer, .int .i64 x.kind, .int .i64 x.beg, .int .i64 x.fin, .int .i64 x.err, .slice A n c, .int .i64 x.hnd] 38)) W) => (itoa19_any x.peer x1 W (ht.below (below_on BB.out h))).mono (fun e w' (h' : e = .returned (.string ⟨(Lib.itoa x.peer).toArray⟩) ∧ Below W.heap.size W w') => (⟨h'.1, below_on h h'.2⟩ : e = .returned (.string ⟨(Lib.itoa x.peer).toArray⟩) ∧ Below (w.alloc (.cells #[.int .i64 x.core, .int .i64 x.peer, .int .i64 x.kind, .int .i64 x.beg, .int .i64 x.fin, .int .i64 x.err, .slice A n c, .int .i64 x.hnd] 38)).heap.size (w.alloc (.cells #[.int .i64 x.core, .int .i64 x.peer, .int .i64 x.kind, .int .i64 x.beg, .int .i64 x.fin, .int .i64 x.err, .slice A n c, .int .i64 x.hnd] 38)) w')))
  have K3 := Lib.hid (fun (W : World) (h : Below (w.alloc (.cells #[.int .i64 x.core, .int .i64 x.peer, .int .i64 x.kind, .int .i64 x.beg, .int .i64 x.fin, .int .i64 x.err, .slice A n c, .int .i64 x.hnd] 38)).heap.size (w.alloc (.cells #[.int .i64 x.core, .int .i64 x.peer, .int .i64 x.kind, .int .i64 x.beg, .int .i64 x.fin, .int .i64 x.err, .slice A n c, .int .i64 x.hnd] 38)) W) => (itoa19_any x.beg x3 W (ht.below (below_on BB.out h))).mono (fun e w' (h' : e = .returned (.string ⟨(Lib.itoa x.beg).toArray⟩) ∧ Below W.heap.size W w') => (⟨h'.1, below_on h h'.2⟩ : e = .returned (.string ⟨(Lib.itoa x.beg).toArray⟩) ∧ Below (w.alloc (.cells #[.int .i64 x.core, .int .i64 x.peer, .int .i64 x.kind, .int .i64 x.beg, .int .i64 x.fin, .int .i64 x.err, .slice A n c, .int .i64 x.hnd] 38)).heap.size (w.alloc (.cells #[.int .i64 x.core, .int .i64 x.peer, .int .i64 x.kind, .int .i64 x.beg, .int .i64 x.fin, .int .i64 x.err, .slice A n c, .int .i64 x.hnd] 38)) w')))
  have K4 := Lib.hid (fun (V W : World) (hV : Below w.heap.size w V) (h : Below V.heap.size V W) => (itoa19_any x.fin x4 W (ht.below (below_on hV h))).mono (fun e w' (h' : e = .returned (.string ⟨(Lib.itoa x.fin).toArray⟩) ∧ Below W.heap.size W w') => (⟨h'.1, below_on h h'.2⟩ : e = .returned (.string ⟨(Lib.itoa x.fin).toArray⟩) ∧ Below V.heap.size V w')))
  have K5 := Lib.hid (fun (V W : World) (hV : Below w.heap.size w V) (h : Below V.heap.size V W) => (itoa19_any x.err x5 W (ht.below (below_on hV h))).mono (fun e w' (h' : e = .returned (.string ⟨(Lib.itoa x.err).toArray⟩) ∧ Below W.heap.size W w') => (⟨h'.1, below_on h h'.2⟩ : e = .returned (.string ⟨(Lib.itoa x.err).toArray⟩) ∧ Below V.heap.size V w')))
  have K2 := Lib.hid (fun (W : World) (h : Below (w.alloc (.cells #[.int .i64 x.core, .int .i64 x.peer, .int .i64 x.kind, .int .i64 x.beg, .int .i64 x.fin, .int .i64 x.err, .slice A n c, .int .i64 x.hnd] 38)).heap.size (w.alloc (.cells #[.int .i64 x.core, .int .i64 x.peer, .int .i64 x.kind, .int .i64 x.beg, .int .i64 x.fin, .int .i64 x.err, .slice A n c, .int .i64 x.hnd] 38)) W) => (letter19_any x.kind W).mono (fun e w' (h' : e = .returned (.string ⟨(let19 x.kind).toArray⟩) ∧ w' = W) => (⟨h'.1, by rw [h'.2]; exact h⟩ : e = .returned (.string ⟨(let19 x.kind).toArray⟩) ∧ Below (w.alloc (.cells #[.int .i64 x.core, .int .i64 x.peer, .int .i64 x.kind, .int .i64 x.beg, .int .i64 x.fin, .int .i64 x.err, .slice A n c, .int .i64 x.hnd] 38)).heap.size (w.alloc (.cells #[.int .i64 x.core, .int .i64 x.peer, .int .i64 x.kind, .int .i64 x.beg, .int .i64 x.fin, .int .i64 x.err, .slice A n c, .int .i64 x.hnd] 38)) w')))
  have KK := Lib.hid (fun (W : World) (h : Below (w.alloc (.cells #[.int .i64 x.core, .int .i64 x.peer, .int .i64 x.kind, .int .i64 x.beg, .int .i64 x.fin, .int .i64 x.err, .slice A n c, .int .i64 x.hnd] 38)).heap.size (w.alloc (.cells #[.int .i64 x.core, .int .i64 x.peer, .int .i64 x.kind, .int .i64 x.beg, .int .i64 x.fin, .int .i64 x.err, .slice A n c, .int .i64 x.hnd] 38)) W) => (⟨(R.out.below h).cell 0, (R.out.below h).cell 1, (R.out.below h).cell 2, (R.out.below h).cell 3, h⟩ : W.cell? ⟨w.heap.size, 0, none⟩ = some (.int .i64 x.core) ∧ W.cell? ⟨w.heap.size, 1, none⟩ = some (.int .i64 x.peer) ∧ W.cell? ⟨w.heap.size, 2, none⟩ = some (.int .i64 x.kind) ∧ W.cell? ⟨w.heap.size, 3, none⟩ = some (.int .i64 x.beg) ∧ Below (w.alloc (.cells #[.int .i64 x.core, .int .i64 x.peer, .int .i64 x.kind, .int .i64 x.beg, .int .i64 x.fin, .int .i64 x.err, .slice A n c, .int .i64 x.hnd] 38)).heap.size (w.alloc (.cells #[.int .i64 x.core, .int .i64 x.peer, .int .i64 x.kind, .int .i64 x.beg, .int .i64 x.fin, .int .i64 x.err, .slice A n c, .int .i64 x.hnd] 38)) W))
  have KL := Lib.hid (fun (V W : World) (hV : Below (w.alloc (.cells #[.int .i64 x.core, .int .i64 x.peer, .int .i64 x.kind, .int .i64 x.beg, .int .i64 x.fin, .int .i64 x.err, .slice A n c, .int .i64 x.hnd] 38)).heap.size (w.alloc (.cells #[.int .i64 x.core, .int .i64 x.peer, .int .i64 x.kind, .int .i64 x.beg, .int .i64 x.fin, .int .i64 x.err, .slice A n c, .int .i64 x.hnd] 38)) V) (h : Below V.heap.size V W) => (⟨((R.out.below hV).below h).cell 4, ((R.out.below hV).below h).cell 5, h⟩ : W.cell? ⟨w.heap.size, 4, none⟩ = some (.int .i64 x.fin) ∧ W.cell? ⟨w.heap.size, 5, none⟩ = some (.int .i64 x.err) ∧ Below V.heap.size V W))
  have KC := Lib.hid (fun (W : World) (h : Below (w.alloc (.cells #[.int .i64 x.core, .int .i64 x.peer, .int .i64 x.kind, .int .i64 x.beg, .int .i64 x.fin, .int .i64 x.err, .slice A n c, .int .i64 x.hnd] 38)).heap.size (w.alloc (.cells #[.int .i64 x.core, .int .i64 x.peer, .int .i64 x.kind, .int .i64 x.beg, .int .i64 x.fin, .int .i64 x.err, .slice A n c, .int .i64 x.hnd] 38)) W) => (⟨(R.out.below h).cell 0, (R.out.below h).cell 1, (R.out.below h).cell 2, (R.out.below h).cell 3, (R.out.below h).cell 4, (R.out.below h).cell 5, (R.out.below h).cell 6, (R.out.below h).cell 7⟩ : W.cell? ⟨w.heap.size, 0, none⟩ = some (.int .i64 x.core) ∧ W.cell? ⟨w.heap.size, 1, none⟩ = some (.int .i64 x.peer) ∧ W.cell? ⟨w.heap.size, 2, none⟩ = some (.int .i64 x.kind) ∧ W.cell? ⟨w.heap.size, 3, none⟩ = some (.int .i64 x.beg) ∧ W.cell? ⟨w.heap.size, 4, none⟩ = some (.int .i64 x.fin) ∧ W.cell? ⟨w.heap.size, 5, none⟩ = some (.int .i64 x.err) ∧ W.cell? ⟨w.heap.size, 6, none⟩ = some (.slice A n c) ∧ W.cell? ⟨w.heap.size, 7, none⟩ = some (.int .i64 x.hnd)))
  have l0 := itoa_len x.core x0
  have l1 := itoa_len x.peer x1
  have l3 := itoa_len x.beg x3
  have l4 := itoa_len x.fin x4
  have l5 := itoa_len x.err x5
  have l2 := let_len x.kind
  clear x0 x1 x2 x3 x4 x5 x7 ht
  have HT : Hid (txt19 x = Lib.itoa x.core ++ let19 x.kind ++ Lib.itoa x.peer ++ [32] ++ Lib.itoa x.beg ++ [45] ++ (if x.fin = 0 then [46, 46] else Lib.itoa x.fin ++ [32] ++ Lib.itoa x.err)) := Lib.hid rfl
  obtain ⟨s0, e0⟩ : ∃ s, Lib.itoa x.core = s := ⟨_, rfl⟩
  obtain ⟨s1, e1⟩ : ∃ s, Lib.itoa x.peer = s := ⟨_, rfl⟩
  obtain ⟨s2, e2⟩ : ∃ s, let19 x.kind = s := ⟨_, rfl⟩
  obtain ⟨s3, e3⟩ : ∃ s, Lib.itoa x.beg = s := ⟨_, rfl⟩
  obtain ⟨s4, e4⟩ : ∃ s, Lib.itoa x.fin = s := ⟨_, rfl⟩
  obtain ⟨s5, e5⟩ : ∃ s, Lib.itoa x.err = s := ⟨_, rfl⟩
  rw [e0, e1, e2, e3, e4, e5] at HT
  rw [e0] at K0 l0
  rw [e1] at K1 l1
  rw [e2] at K2 l2
  rw [e3] at K3 l3
  rw [e4] at K4 l4
  rw [e5] at K5 l5
  clear e0 e1 e2 e3 e4 e5
  simp only [row19] at R BB KE ⊢
  have HD := Lib.hid (t19_head s0 s2 s1 s3)
  by_cases hf : x.fin = 0
  · have tf : (x.fin != 0) = false := by simpa using hf
    have HF : Hid (txt19 x = (s0 ++ s2 ++ s1 ++ [32] ++ s3 ++ [45]) ++ [46, 46]) := Lib.hid (by rw [HT.out, if_pos hf])
    clear hf
    go_enter Tryd.func15, Tryd.ntmps15
    go_wp2
    refine wp_region_held_drew (S := fun W => W.cell? ⟨w.heap.size, 0, none⟩ = some (.int .i64 x.core) ∧ W.cell? ⟨w.heap.size, 1, none⟩ = some (.int .i64 x.peer) ∧ W.cell? ⟨w.heap.size, 2, none⟩ = some (.int .i64 x.kind) ∧ W.cell? ⟨w.heap.size, 3, none⟩ = some (.int .i64 x.beg) ∧ Below (w.alloc (.cells #[.int .i64 x.core, .int .i64 x.peer, .int .i64 x.kind, .int .i64 x.beg, .int .i64 x.fin, .int .i64 x.err, .slice A n c, .int .i64 x.hnd] 38)).heap.size (w.alloc (.cells #[.int .i64 x.core, .int .i64 x.peer, .int .i64 x.kind, .int .i64 x.beg, .int .i64 x.fin, .int .i64 x.err, .slice A n c, .int .i64 x.hnd] 38)) W) (by kernel_rfl) (KK.out _ (Below.refl _ _).drew) (fun hHeld => ?_)
    refine' wpAnyH_take (i := 0) (oi := ⟨some 4, .fieldAddr 38 (.tmp 1) 0, 0, "diary.go:57", #[], none⟩) (v := _) rfl (by kernel_rfl) (by kernel_rfl) (by kernel_rfl) (fun _ _ _ h => h) (Or.inl ⟨by rfl, ?hy1⟩) (by assumption) ?rest1
    case hy1 => (intro w hSw; (try dsimp only at hSw); go_simp; try with_reducible rfl)
    try simp only [Act.put, List.setIfInBounds_toArray, List.set_cons_zero, List.set_cons_succ]
    refine' wpAnyH_take (i := 1) (oi := ⟨some 5, .load 3 (.tmp 4), 3, "diary.go:57", #[⟨0, .data⟩], none⟩) (v := _) rfl (by kernel_rfl) (by kernel_rfl) (by kernel_rfl) (fun _ _ _ h => h) (Or.inl ⟨by rfl, ?hy2⟩) (by assumption) ?rest2
    case hy2 => (intro w hSw; (try dsimp only at hSw); go_simp; try with_reducible rfl)
    try simp only [Act.put, List.setIfInBounds_toArray, List.set_cons_zero, List.set_cons_succ]
    refine' wpAnyH_take (i := 3) (oi := ⟨some 7, .fieldAddr 38 (.tmp 1) 2, 0, "diary.go:57", #[], none⟩) (v := _) rfl (by kernel_rfl) (by kernel_rfl) (by kernel_rfl) (fun _ _ _ h => h) (Or.inl ⟨by rfl, ?hy4⟩) (by assumption) ?rest4
    case hy4 => (intro w hSw; (try dsimp only at hSw); go_simp; try with_reducible rfl)
    try simp only [Act.put, List.setIfInBounds_toArray, List.set_cons_zero, List.set_cons_succ]
    refine' wpAnyH_take (i := 4) (oi := ⟨some 8, .load 3 (.tmp 7), 3, "diary.go:57", #[⟨3, .data⟩], none⟩) (v := _) rfl (by kernel_rfl) (by kernel_rfl) (by kernel_rfl) (fun _ _ _ h => h) (Or.inl ⟨by rfl, ?hy6⟩) (by assumption) ?rest6
    case hy6 => (intro w hSw; (try dsimp only at hSw); go_simp; try with_reducible rfl)
    try simp only [Act.put, List.setIfInBounds_toArray, List.set_cons_zero, List.set_cons_succ]
    refine' wpAnyH_take (i := 7) (oi := ⟨some 11, .fieldAddr 38 (.tmp 1) 1, 0, "diary.go:57", #[], none⟩) (v := _) rfl (by kernel_rfl) (by kernel_rfl) (by kernel_rfl) (fun _ _ _ h => h) (Or.inl ⟨by rfl, ?hy8⟩) (by assumption) ?rest8
    case hy8 => (intro w hSw; (try dsimp only at hSw); go_simp; try with_reducible rfl)
    try simp only [Act.put, List.setIfInBounds_toArray, List.set_cons_zero, List.set_cons_succ]
    refine' wpAnyH_take (i := 8) (oi := ⟨some 12, .load 3 (.tmp 11), 3, "diary.go:57", #[⟨7, .data⟩], none⟩) (v := _) rfl (by kernel_rfl) (by kernel_rfl) (by kernel_rfl) (fun _ _ _ h => h) (Or.inl ⟨by rfl, ?hy10⟩) (by assumption) ?rest10
    case hy10 => (intro w hSw; (try dsimp only at hSw); go_simp; try with_reducible rfl)
    try simp only [Act.put, List.setIfInBounds_toArray, List.set_cons_zero, List.set_cons_succ]
    refine' wpAnyH_take (i := 12) (oi := ⟨some 16, .fieldAddr 38 (.tmp 1) 3, 0, "diary.go:57", #[], none⟩) (v := _) rfl (by kernel_rfl) (by kernel_rfl) (by kernel_rfl) (fun _ _ _ h => h) (Or.inl ⟨by rfl, ?hy12⟩) (by assumption) ?rest12
    case hy12 => (intro w hSw; (try dsimp only at hSw); go_simp; try with_reducible rfl)
    try simp only [Act.put, List.setIfInBounds_toArray, List.set_cons_zero, List.set_cons_succ]
    refine' wpAnyH_take (i := 13) (oi := ⟨some 17, .load 3 (.tmp 16), 3, "diary.go:57", #[⟨12, .data⟩], none⟩) (v := _) rfl (by kernel_rfl) (by kernel_rfl) (by kernel_rfl) (fun _ _ _ h => h) (Or.inl ⟨by rfl, ?hy14⟩) (by assumption) ?rest14
    case hy14 => (intro w hSw; (try dsimp only at hSw); go_simp; try with_reducible rfl)
    try simp only [Act.put, List.setIfInBounds_toArray, List.set_cons_zero, List.set_cons_succ]
    refine wpAnyH_ready (rs := [2]) (by kernel_rfl) (by simp) ?_
    refine AllReadyH.cons (o := ⟨some 6, .call { callee := .value (.func 26), args := #[.tmp 5], argTypes := #[3] }, 9, "diary.go:57", #[⟨1, .data⟩], none⟩) rfl (fun K hK => ?_) AllReadyH.nil
    go_simp
    refine (K0.out _ (Below.refl _ _).drew).mono ?_
    rintro e wa ⟨rfl, hba⟩
    go_wp2_with fail
    refine hK.out _ _ (KK.out _ hba) (fun hSx => ?_)
    clear hK K
    try simp only [Act.put, List.setIfInBounds_toArray, List.set_cons_zero, List.set_cons_succ]
    refine wpAnyH_ready (rs := [5]) (by kernel_rfl) (by simp) ?_
    refine AllReadyH.cons (o := ⟨some 9, .call { callee := .value (.func 27), args := #[.tmp 8], argTypes := #[3] }, 9, "diary.go:57", #[⟨4, .data⟩, ⟨2, .chain⟩], none⟩) rfl (fun K hK => ?_) AllReadyH.nil
    go_simp
    refine (K2.out _ hba).mono ?_
    rintro e wb ⟨rfl, hbb⟩
    go_wp2_with fail
    refine hK.out _ _ (KK.out _ hbb) (fun hSx => ?_)
    clear hK K
    try simp only [Act.put, List.setIfInBounds_toArray, List.set_cons_zero, List.set_cons_succ]
    refine' wpAnyH_take (i := 6) (oi := ⟨some 10, .binOp .add 9 (.tmp 6) (.tmp 9) 9, 9, "diary.go:57", #[⟨2, .data⟩, ⟨5, .data⟩], none⟩) (v := .string ((⟨s0.toArray⟩ : ByteArray) ++ (⟨s2.toArray⟩ : ByteArray))) rfl (by kernel_rfl) (by kernel_rfl) (by kernel_rfl) (fun _ _ _ h => h) (Or.inl ⟨by rfl, ?hy17⟩) (by assumption) ?rest17
    case hy17 => (intro w hSw; (try dsimp only at hSw); go_simp; omega)
    try simp only [Act.put, List.setIfInBounds_toArray, List.set_cons_zero, List.set_cons_succ]
    refine wpAnyH_ready (rs := [9]) (by kernel_rfl) (by simp) ?_
    refine AllReadyH.cons (o := ⟨some 13, .call { callee := .value (.func 26), args := #[.tmp 12], argTypes := #[3] }, 9, "diary.go:57", #[⟨8, .data⟩, ⟨5, .chain⟩], none⟩) rfl (fun K hK => ?_) AllReadyH.nil
    go_simp
    refine (K1.out _ hbb).mono ?_
    rintro e wc ⟨rfl, hbc⟩
    go_wp2_with fail
    refine hK.out _ _ (KK.out _ hbc) (fun hSx => ?_)
    clear hK K
    try simp only [Act.put, List.setIfInBounds_toArray, List.set_cons_zero, List.set_cons_succ]
    refine' wpAnyH_take (i := 10) (oi := ⟨some 14, .binOp .add 9 (.tmp 10) (.tmp 13) 9, 9, "diary.go:57", #[⟨6, .data⟩, ⟨9, .data⟩], none⟩) (v := .string ((⟨s0.toArray⟩ : ByteArray) ++ (⟨s2.toArray⟩ : ByteArray) ++ (⟨s1.toArray⟩ : ByteArray))) rfl (by kernel_rfl) (by kernel_rfl) (by kernel_rfl) (fun _ _ _ h => h) (Or.inl ⟨by rfl, ?hy19⟩) (by assumption) ?rest19
    case hy19 => (intro w hSw; (try dsimp only at hSw); go_simp; omega)
    try simp only [Act.put, List.setIfInBounds_toArray, List.set_cons_zero, List.set_cons_succ]
    refine' wpAnyH_take (i := 11) (oi := ⟨some 15, .binOp .add 9 (.tmp 14) (.const (.string { data := #[32] })) 9, 9, "diary.go:57", #[⟨10, .data⟩], none⟩) (v := .string ((⟨s0.toArray⟩ : ByteArray) ++ (⟨s2.toArray⟩ : ByteArray) ++ (⟨s1.toArray⟩ : ByteArray) ++ (⟨#[32]⟩ : ByteArray))) rfl (by kernel_rfl) (by kernel_rfl) (by kernel_rfl) (fun _ _ _ h => h) (Or.inl ⟨by rfl, ?hy20⟩) (by assumption) ?rest20
    case hy20 => (intro w hSw; (try dsimp only at hSw); go_simp; omega)
    try simp only [Act.put, List.setIfInBounds_toArray, List.set_cons_zero, List.set_cons_succ]
    refine wpAnyH_ready (rs := [14]) (by kernel_rfl) (by simp) ?_
    refine AllReadyH.cons (o := ⟨some 18, .call { callee := .value (.func 26), args := #[.tmp 17], argTypes := #[3] }, 9, "diary.go:57", #[⟨13, .data⟩, ⟨9, .chain⟩], none⟩) rfl (fun K hK => ?_) AllReadyH.nil
    go_simp
    refine (K3.out _ hbc).mono ?_
    rintro e wd ⟨rfl, hbd⟩
    go_wp2_with fail
    refine hK.out _ _ (KK.out _ hbd) (fun hSx => ?_)
    clear hK K
    try simp only [Act.put, List.setIfInBounds_toArray, List.set_cons_zero, List.set_cons_succ]
    refine' wpAnyH_take (i := 15) (oi := ⟨some 19, .binOp .add 9 (.tmp 15) (.tmp 18) 9, 9, "diary.go:57", #[⟨11, .data⟩, ⟨14, .data⟩], none⟩) (v := .string ((⟨s0.toArray⟩ : ByteArray) ++ (⟨s2.toArray⟩ : ByteArray) ++ (⟨s1.toArray⟩ : ByteArray) ++ (⟨#[32]⟩ : ByteArray) ++ (⟨s3.toArray⟩ : ByteArray))) rfl (by kernel_rfl) (by kernel_rfl) (by kernel_rfl) (fun _ _ _ h => h) (Or.inl ⟨by rfl, ?hy22⟩) (by assumption) ?rest22
    case hy22 => (intro w hSw; (try dsimp only at hSw); go_simp; omega)
    try simp only [Act.put, List.setIfInBounds_toArray, List.set_cons_zero, List.set_cons_succ]
    refine' wpAnyH_take (i := 16) (oi := ⟨some 20, .binOp .add 9 (.tmp 19) (.const (.string { data := #[45] })) 9, 9, "diary.go:57", #[⟨15, .data⟩], none⟩) (v := .string ((⟨s0.toArray⟩ : ByteArray) ++ (⟨s2.toArray⟩ : ByteArray) ++ (⟨s1.toArray⟩ : ByteArray) ++ (⟨#[32]⟩ : ByteArray) ++ (⟨s3.toArray⟩ : ByteArray) ++ (⟨#[45]⟩ : ByteArray))) rfl (by kernel_rfl) (by kernel_rfl) (by kernel_rfl) (fun _ _ _ h => h) (Or.inl ⟨by rfl, ?hy23⟩) (by assumption) ?rest23
    case hy23 => (intro w hSw; (try dsimp only at hSw); go_simp; omega)
    try simp only [Act.put, List.setIfInBounds_toArray, List.set_cons_zero, List.set_cons_succ]
    refine' wpAnyH_take (i := 17) (oi := ⟨some 3, .assign (.tmp 20), 9, "diary.go:57", #[⟨16, .data⟩, ⟨14, .chain⟩, ⟨0, .phase⟩, ⟨1, .phase⟩, ⟨2, .phase⟩, ⟨3, .phase⟩, ⟨4, .phase⟩, ⟨5, .phase⟩, ⟨6, .phase⟩, ⟨7, .phase⟩, ⟨8, .phase⟩, ⟨9, .phase⟩, ⟨10, .phase⟩, ⟨11, .phase⟩, ⟨12, .phase⟩, ⟨13, .phase⟩, ⟨14, .phase⟩, ⟨15, .phase⟩, ⟨16, .phase⟩], none⟩) (v := _) rfl (by kernel_rfl) (by kernel_rfl) (by kernel_rfl) (fun _ _ _ h => h) (Or.inl ⟨by rfl, ?hy24⟩) (by assumption) ?rest24
    case hy24 => (intro w hSw; (try dsimp only at hSw); go_simp; try with_reducible rfl)
    try simp only [Act.put, List.setIfInBounds_toArray, List.set_cons_zero, List.set_cons_succ]
    refine wpAnyH_done (by kernel_rfl) ?_ _
    obtain ⟨y0, y1, y2, y3, y4, y5, y6, y7⟩ := KC.out _ hbd
    go_wp2_with (go_at_call 28; refine (KE.out _).mono ?_; rintro e we ⟨rfl, be⟩; have HBE := Lib.hid (below_on hbd be); rw [tf])
    go_ret
    exact ⟨by rw [HF.out, ← t19_none, ← HD.out]; rfl, below_on BB.out HBE.out⟩
  · have tf : (x.fin != 0) = true := by simpa using hf
    have HF : Hid (txt19 x = (s0 ++ s2 ++ s1 ++ [32] ++ s3 ++ [45]) ++ (s4 ++ [32] ++ s5)) := Lib.hid (by rw [HT.out, if_neg hf])
    clear hf
    go_enter Tryd.func15, Tryd.ntmps15
    go_wp2
    refine wp_region_held_drew (S := fun W => W.cell? ⟨w.heap.size, 0, none⟩ = some (.int .i64 x.core) ∧ W.cell? ⟨w.heap.size, 1, none⟩ = some (.int .i64 x.peer) ∧ W.cell? ⟨w.heap.size, 2, none⟩ = some (.int .i64 x.kind) ∧ W.cell? ⟨w.heap.size, 3, none⟩ = some (.int .i64 x.beg) ∧ Below (w.alloc (.cells #[.int .i64 x.core, .int .i64 x.peer, .int .i64 x.kind, .int .i64 x.beg, .int .i64 x.fin, .int .i64 x.err, .slice A n c, .int .i64 x.hnd] 38)).heap.size (w.alloc (.cells #[.int .i64 x.core, .int .i64 x.peer, .int .i64 x.kind, .int .i64 x.beg, .int .i64 x.fin, .int .i64 x.err, .slice A n c, .int .i64 x.hnd] 38)) W) (by kernel_rfl) (KK.out _ (Below.refl _ _).drew) (fun hHeld => ?_)
    refine' wpAnyH_take (i := 0) (oi := ⟨some 4, .fieldAddr 38 (.tmp 1) 0, 0, "diary.go:57", #[], none⟩) (v := _) rfl (by kernel_rfl) (by kernel_rfl) (by kernel_rfl) (fun _ _ _ h => h) (Or.inl ⟨by rfl, ?hy38⟩) (by assumption) ?rest38
    case hy38 => (intro w hSw; (try dsimp only at hSw); go_simp; try with_reducible rfl)
    try simp only [Act.put, List.setIfInBounds_toArray, List.set_cons_zero, List.set_cons_succ]
    refine' wpAnyH_take (i := 1) (oi := ⟨some 5, .load 3 (.tmp 4), 3, "diary.go:57", #[⟨0, .data⟩], none⟩) (v := _) rfl (by kernel_rfl) (by kernel_rfl) (by kernel_rfl) (fun _ _ _ h => h) (Or.inl ⟨by rfl, ?hy39⟩) (by assumption) ?rest39
    case hy39 => (intro w hSw; (try dsimp only at hSw); go_simp; try with_reducible rfl)
    try simp only [Act.put, List.setIfInBounds_toArray, List.set_cons_zero, List.set_cons_succ]
    refine' wpAnyH_take (i := 3) (oi := ⟨some 7, .fieldAddr 38 (.tmp 1) 2, 0, "diary.go:57", #[], none⟩) (v := _) rfl (by kernel_rfl) (by kernel_rfl) (by kernel_rfl) (fun _ _ _ h => h) (Or.inl ⟨by rfl, ?hy41⟩) (by assumption) ?rest41
    case hy41 => (intro w hSw; (try dsimp only at hSw); go_simp; try with_reducible rfl)
    try simp only [Act.put, List.setIfInBounds_toArray, List.set_cons_zero, List.set_cons_succ]
    refine' wpAnyH_take (i := 4) (oi := ⟨some 8, .load 3 (.tmp 7), 3, "diary.go:57", #[⟨3, .data⟩], none⟩) (v := _) rfl (by kernel_rfl) (by kernel_rfl) (by kernel_rfl) (fun _ _ _ h => h) (Or.inl ⟨by rfl, ?hy43⟩) (by assumption) ?rest43
    case hy43 => (intro w hSw; (try dsimp only at hSw); go_simp; try with_reducible rfl)
    try simp only [Act.put, List.setIfInBounds_toArray, List.set_cons_zero, List.set_cons_succ]
    refine' wpAnyH_take (i := 7) (oi := ⟨some 11, .fieldAddr 38 (.tmp 1) 1, 0, "diary.go:57", #[], none⟩) (v := _) rfl (by kernel_rfl) (by kernel_rfl) (by kernel_rfl) (fun _ _ _ h => h) (Or.inl ⟨by rfl, ?hy45⟩) (by assumption) ?rest45
    case hy45 => (intro w hSw; (try dsimp only at hSw); go_simp; try with_reducible rfl)
    try simp only [Act.put, List.setIfInBounds_toArray, List.set_cons_zero, List.set_cons_succ]
    refine' wpAnyH_take (i := 8) (oi := ⟨some 12, .load 3 (.tmp 11), 3, "diary.go:57", #[⟨7, .data⟩], none⟩) (v := _) rfl (by kernel_rfl) (by kernel_rfl) (by kernel_rfl) (fun _ _ _ h => h) (Or.inl ⟨by rfl, ?hy47⟩) (by assumption) ?rest47
    case hy47 => (intro w hSw; (try dsimp only at hSw); go_simp; try with_reducible rfl)
    try simp only [Act.put, List.setIfInBounds_toArray, List.set_cons_zero, List.set_cons_succ]
    refine' wpAnyH_take (i := 12) (oi := ⟨some 16, .fieldAddr 38 (.tmp 1) 3, 0, "diary.go:57", #[], none⟩) (v := _) rfl (by kernel_rfl) (by kernel_rfl) (by kernel_rfl) (fun _ _ _ h => h) (Or.inl ⟨by rfl, ?hy49⟩) (by assumption) ?rest49
    case hy49 => (intro w hSw; (try dsimp only at hSw); go_simp; try with_reducible rfl)
    try simp only [Act.put, List.setIfInBounds_toArray, List.set_cons_zero, List.set_cons_succ]
    refine' wpAnyH_take (i := 13) (oi := ⟨some 17, .load 3 (.tmp 16), 3, "diary.go:57", #[⟨12, .data⟩], none⟩) (v := _) rfl (by kernel_rfl) (by kernel_rfl) (by kernel_rfl) (fun _ _ _ h => h) (Or.inl ⟨by rfl, ?hy51⟩) (by assumption) ?rest51
    case hy51 => (intro w hSw; (try dsimp only at hSw); go_simp; try with_reducible rfl)
    try simp only [Act.put, List.setIfInBounds_toArray, List.set_cons_zero, List.set_cons_succ]
    refine wpAnyH_ready (rs := [2]) (by kernel_rfl) (by simp) ?_
    refine AllReadyH.cons (o := ⟨some 6, .call { callee := .value (.func 26), args := #[.tmp 5], argTypes := #[3] }, 9, "diary.go:57", #[⟨1, .data⟩], none⟩) rfl (fun K hK => ?_) AllReadyH.nil
    go_simp
    refine (K0.out _ (Below.refl _ _).drew).mono ?_
    rintro e wa ⟨rfl, hba⟩
    go_wp2_with fail
    refine hK.out _ _ (KK.out _ hba) (fun hSx => ?_)
    clear hK K
    try simp only [Act.put, List.setIfInBounds_toArray, List.set_cons_zero, List.set_cons_succ]
    refine wpAnyH_ready (rs := [5]) (by kernel_rfl) (by simp) ?_
    refine AllReadyH.cons (o := ⟨some 9, .call { callee := .value (.func 27), args := #[.tmp 8], argTypes := #[3] }, 9, "diary.go:57", #[⟨4, .data⟩, ⟨2, .chain⟩], none⟩) rfl (fun K hK => ?_) AllReadyH.nil
    go_simp
    refine (K2.out _ hba).mono ?_
    rintro e wb ⟨rfl, hbb⟩
    go_wp2_with fail
    refine hK.out _ _ (KK.out _ hbb) (fun hSx => ?_)
    clear hK K
    try simp only [Act.put, List.setIfInBounds_toArray, List.set_cons_zero, List.set_cons_succ]
    refine' wpAnyH_take (i := 6) (oi := ⟨some 10, .binOp .add 9 (.tmp 6) (.tmp 9) 9, 9, "diary.go:57", #[⟨2, .data⟩, ⟨5, .data⟩], none⟩) (v := .string ((⟨s0.toArray⟩ : ByteArray) ++ (⟨s2.toArray⟩ : ByteArray))) rfl (by kernel_rfl) (by kernel_rfl) (by kernel_rfl) (fun _ _ _ h => h) (Or.inl ⟨by rfl, ?hy54⟩) (by assumption) ?rest54
    case hy54 => (intro w hSw; (try dsimp only at hSw); go_simp; omega)
    try simp only [Act.put, List.setIfInBounds_toArray, List.set_cons_zero, List.set_cons_succ]
    refine wpAnyH_ready (rs := [9]) (by kernel_rfl) (by simp) ?_
    refine AllReadyH.cons (o := ⟨some 13, .call { callee := .value (.func 26), args := #[.tmp 12], argTypes := #[3] }, 9, "diary.go:57", #[⟨8, .data⟩, ⟨5, .chain⟩], none⟩) rfl (fun K hK => ?_) AllReadyH.nil
    go_simp
    refine (K1.out _ hbb).mono ?_
    rintro e wc ⟨rfl, hbc⟩
    go_wp2_with fail
    refine hK.out _ _ (KK.out _ hbc) (fun hSx => ?_)
    clear hK K
    try simp only [Act.put, List.setIfInBounds_toArray, List.set_cons_zero, List.set_cons_succ]
    refine' wpAnyH_take (i := 10) (oi := ⟨some 14, .binOp .add 9 (.tmp 10) (.tmp 13) 9, 9, "diary.go:57", #[⟨6, .data⟩, ⟨9, .data⟩], none⟩) (v := .string ((⟨s0.toArray⟩ : ByteArray) ++ (⟨s2.toArray⟩ : ByteArray) ++ (⟨s1.toArray⟩ : ByteArray))) rfl (by kernel_rfl) (by kernel_rfl) (by kernel_rfl) (fun _ _ _ h => h) (Or.inl ⟨by rfl, ?hy56⟩) (by assumption) ?rest56
    case hy56 => (intro w hSw; (try dsimp only at hSw); go_simp; omega)
    try simp only [Act.put, List.setIfInBounds_toArray, List.set_cons_zero, List.set_cons_succ]
    refine' wpAnyH_take (i := 11) (oi := ⟨some 15, .binOp .add 9 (.tmp 14) (.const (.string { data := #[32] })) 9, 9, "diary.go:57", #[⟨10, .data⟩], none⟩) (v := .string ((⟨s0.toArray⟩ : ByteArray) ++ (⟨s2.toArray⟩ : ByteArray) ++ (⟨s1.toArray⟩ : ByteArray) ++ (⟨#[32]⟩ : ByteArray))) rfl (by kernel_rfl) (by kernel_rfl) (by kernel_rfl) (fun _ _ _ h => h) (Or.inl ⟨by rfl, ?hy57⟩) (by assumption) ?rest57
    case hy57 => (intro w hSw; (try dsimp only at hSw); go_simp; omega)
    try simp only [Act.put, List.setIfInBounds_toArray, List.set_cons_zero, List.set_cons_succ]
    refine wpAnyH_ready (rs := [14]) (by kernel_rfl) (by simp) ?_
    refine AllReadyH.cons (o := ⟨some 18, .call { callee := .value (.func 26), args := #[.tmp 17], argTypes := #[3] }, 9, "diary.go:57", #[⟨13, .data⟩, ⟨9, .chain⟩], none⟩) rfl (fun K hK => ?_) AllReadyH.nil
    go_simp
    refine (K3.out _ hbc).mono ?_
    rintro e wd ⟨rfl, hbd⟩
    go_wp2_with fail
    refine hK.out _ _ (KK.out _ hbd) (fun hSx => ?_)
    clear hK K
    try simp only [Act.put, List.setIfInBounds_toArray, List.set_cons_zero, List.set_cons_succ]
    refine' wpAnyH_take (i := 15) (oi := ⟨some 19, .binOp .add 9 (.tmp 15) (.tmp 18) 9, 9, "diary.go:57", #[⟨11, .data⟩, ⟨14, .data⟩], none⟩) (v := .string ((⟨s0.toArray⟩ : ByteArray) ++ (⟨s2.toArray⟩ : ByteArray) ++ (⟨s1.toArray⟩ : ByteArray) ++ (⟨#[32]⟩ : ByteArray) ++ (⟨s3.toArray⟩ : ByteArray))) rfl (by kernel_rfl) (by kernel_rfl) (by kernel_rfl) (fun _ _ _ h => h) (Or.inl ⟨by rfl, ?hy59⟩) (by assumption) ?rest59
    case hy59 => (intro w hSw; (try dsimp only at hSw); go_simp; omega)
    try simp only [Act.put, List.setIfInBounds_toArray, List.set_cons_zero, List.set_cons_succ]
    refine' wpAnyH_take (i := 16) (oi := ⟨some 20, .binOp .add 9 (.tmp 19) (.const (.string { data := #[45] })) 9, 9, "diary.go:57", #[⟨15, .data⟩], none⟩) (v := .string ((⟨s0.toArray⟩ : ByteArray) ++ (⟨s2.toArray⟩ : ByteArray) ++ (⟨s1.toArray⟩ : ByteArray) ++ (⟨#[32]⟩ : ByteArray) ++ (⟨s3.toArray⟩ : ByteArray) ++ (⟨#[45]⟩ : ByteArray))) rfl (by kernel_rfl) (by kernel_rfl) (by kernel_rfl) (fun _ _ _ h => h) (Or.inl ⟨by rfl, ?hy60⟩) (by assumption) ?rest60
    case hy60 => (intro w hSw; (try dsimp only at hSw); go_simp; omega)
    try simp only [Act.put, List.setIfInBounds_toArray, List.set_cons_zero, List.set_cons_succ]
    refine' wpAnyH_take (i := 17) (oi := ⟨some 3, .assign (.tmp 20), 9, "diary.go:57", #[⟨16, .data⟩, ⟨14, .chain⟩, ⟨0, .phase⟩, ⟨1, .phase⟩, ⟨2, .phase⟩, ⟨3, .phase⟩, ⟨4, .phase⟩, ⟨5, .phase⟩, ⟨6, .phase⟩, ⟨7, .phase⟩, ⟨8, .phase⟩, ⟨9, .phase⟩, ⟨10, .phase⟩, ⟨11, .phase⟩, ⟨12, .phase⟩, ⟨13, .phase⟩, ⟨14, .phase⟩, ⟨15, .phase⟩, ⟨16, .phase⟩], none⟩) (v := _) rfl (by kernel_rfl) (by kernel_rfl) (by kernel_rfl) (fun _ _ _ h => h) (Or.inl ⟨by rfl, ?hy61⟩) (by assumption) ?rest61
    case hy61 => (intro w hSw; (try dsimp only at hSw); go_simp; try with_reducible rfl)
    try simp only [Act.put, List.setIfInBounds_toArray, List.set_cons_zero, List.set_cons_succ]
    refine wpAnyH_done (by kernel_rfl) ?_ _
    obtain ⟨y0, y1, y2, y3, y4, y5, y6, y7⟩ := KC.out _ hbd
    go_wp2_with (go_at_call 28; refine (KE.out _).mono ?_; rintro e we ⟨rfl, be⟩; have HBE := Lib.hid (below_on hbd be); rw [tf])
    have BE := Lib.hid (below_on BB.out HBE.out)
    refine wp_region_held_drew (S := fun W => W.cell? ⟨w.heap.size, 4, none⟩ = some (.int .i64 x.fin) ∧ W.cell? ⟨w.heap.size, 5, none⟩ = some (.int .i64 x.err) ∧ Below we.heap.size we W) (by kernel_rfl) (KL.out _ _ HBE.out (Below.refl _ _).drew) (fun hHeld => ?_)
    refine' wpAnyH_take (i := 0) (oi := ⟨some 26, .move (.tmp 3), 9, "diary.go:61", #[], none⟩) (v := _) rfl (by kernel_rfl) (by kernel_rfl) (by kernel_rfl) (fun _ _ _ h => h) (Or.inl ⟨by rfl, ?hy25⟩) (by assumption) ?rest25
    case hy25 => (intro w hSw; (try dsimp only at hSw); go_simp; try with_reducible rfl)
    try simp only [Act.put, List.setIfInBounds_toArray, List.set_cons_zero, List.set_cons_succ]
    refine' wpAnyH_take (i := 1) (oi := ⟨some 27, .fieldAddr 38 (.tmp 1) 4, 0, "diary.go:61", #[], none⟩) (v := _) rfl (by kernel_rfl) (by kernel_rfl) (by kernel_rfl) (fun _ _ _ h => h) (Or.inl ⟨by rfl, ?hy26⟩) (by assumption) ?rest26
    case hy26 => (intro w hSw; (try dsimp only at hSw); go_simp; try with_reducible rfl)
    try simp only [Act.put, List.setIfInBounds_toArray, List.set_cons_zero, List.set_cons_succ]
    refine' wpAnyH_take (i := 2) (oi := ⟨some 28, .load 3 (.tmp 27), 3, "diary.go:61", #[⟨1, .data⟩], none⟩) (v := _) rfl (by kernel_rfl) (by kernel_rfl) (by kernel_rfl) (fun _ _ _ h => h) (Or.inl ⟨by rfl, ?hy27⟩) (by assumption) ?rest27
    case hy27 => (intro w hSw; (try dsimp only at hSw); go_simp; try with_reducible rfl)
    try simp only [Act.put, List.setIfInBounds_toArray, List.set_cons_zero, List.set_cons_succ]
    refine' wpAnyH_take (i := 6) (oi := ⟨some 32, .fieldAddr 38 (.tmp 1) 5, 0, "diary.go:61", #[], none⟩) (v := _) rfl (by kernel_rfl) (by kernel_rfl) (by kernel_rfl) (fun _ _ _ h => h) (Or.inl ⟨by rfl, ?hy29⟩) (by assumption) ?rest29
    case hy29 => (intro w hSw; (try dsimp only at hSw); go_simp; try with_reducible rfl)
    try simp only [Act.put, List.setIfInBounds_toArray, List.set_cons_zero, List.set_cons_succ]
    refine' wpAnyH_take (i := 7) (oi := ⟨some 33, .load 35 (.tmp 32), 35, "diary.go:61", #[⟨6, .data⟩], none⟩) (v := _) rfl (by kernel_rfl) (by kernel_rfl) (by kernel_rfl) (fun _ _ _ h => h) (Or.inl ⟨by rfl, ?hy31⟩) (by assumption) ?rest31
    case hy31 => (intro w hSw; (try dsimp only at hSw); go_simp; try with_reducible rfl)
    try simp only [Act.put, List.setIfInBounds_toArray, List.set_cons_zero, List.set_cons_succ]
    refine wpAnyH_ready (rs := [3]) (by kernel_rfl) (by simp) ?_
    refine AllReadyH.cons (o := ⟨some 29, .call { callee := .value (.func 26), args := #[.tmp 28], argTypes := #[3] }, 9, "diary.go:61", #[⟨2, .data⟩], none⟩) rfl (fun K hK => ?_) AllReadyH.nil
    go_simp
    refine (K4.out _ _ BE.out (Below.refl _ _).drew).mono ?_
    rintro e wf ⟨rfl, hbf⟩
    go_wp2_with fail
    refine hK.out _ _ (KL.out _ _ HBE.out hbf) (fun hSx => ?_)
    clear hK K
    try simp only [Act.put, List.setIfInBounds_toArray, List.set_cons_zero, List.set_cons_succ]
    refine' wpAnyH_take (i := 4) (oi := ⟨some 30, .binOp .add 9 (.tmp 26) (.tmp 29) 9, 9, "diary.go:61", #[⟨0, .data⟩, ⟨3, .data⟩], none⟩) (v := .string (((⟨s0.toArray⟩ : ByteArray) ++ (⟨s2.toArray⟩ : ByteArray) ++ (⟨s1.toArray⟩ : ByteArray) ++ (⟨#[32]⟩ : ByteArray) ++ (⟨s3.toArray⟩ : ByteArray) ++ (⟨#[45]⟩ : ByteArray)) ++ (⟨s4.toArray⟩ : ByteArray))) rfl (by kernel_rfl) (by kernel_rfl) (by kernel_rfl) (fun _ _ _ h => h) (Or.inl ⟨by rfl, ?hy33⟩) (by assumption) ?rest33
    case hy33 => (intro w hSw; (try dsimp only at hSw); go_simp; omega)
    try simp only [Act.put, List.setIfInBounds_toArray, List.set_cons_zero, List.set_cons_succ]
    refine' wpAnyH_take (i := 5) (oi := ⟨some 31, .binOp .add 9 (.tmp 30) (.const (.string { data := #[32] })) 9, 9, "diary.go:61", #[⟨4, .data⟩], none⟩) (v := .string (((⟨s0.toArray⟩ : ByteArray) ++ (⟨s2.toArray⟩ : ByteArray) ++ (⟨s1.toArray⟩ : ByteArray) ++ (⟨#[32]⟩ : ByteArray) ++ (⟨s3.toArray⟩ : ByteArray) ++ (⟨#[45]⟩ : ByteArray)) ++ (⟨s4.toArray⟩ : ByteArray) ++ (⟨#[32]⟩ : ByteArray))) rfl (by kernel_rfl) (by kernel_rfl) (by kernel_rfl) (fun _ _ _ h => h) (Or.inl ⟨by rfl, ?hy34⟩) (by assumption) ?rest34
    case hy34 => (intro w hSw; (try dsimp only at hSw); go_simp; omega)
    try simp only [Act.put, List.setIfInBounds_toArray, List.set_cons_zero, List.set_cons_succ]
    refine wpAnyH_ready (rs := [8]) (by kernel_rfl) (by simp) ?_
    refine AllReadyH.cons (o := ⟨some 34, .call { callee := .value (.func 26), args := #[.tmp 33], argTypes := #[3] }, 9, "diary.go:61", #[⟨7, .data⟩, ⟨3, .chain⟩], none⟩) rfl (fun K hK => ?_) AllReadyH.nil
    go_simp
    refine (K5.out _ _ BE.out hbf).mono ?_
    rintro e wg ⟨rfl, hbg⟩
    go_wp2_with fail
    refine hK.out _ _ (KL.out _ _ HBE.out hbg) (fun hSx => ?_)
    clear hK K
    try simp only [Act.put, List.setIfInBounds_toArray, List.set_cons_zero, List.set_cons_succ]
    refine' wpAnyH_take (i := 9) (oi := ⟨some 35, .binOp .add 9 (.tmp 31) (.tmp 34) 9, 9, "diary.go:61", #[⟨5, .data⟩, ⟨8, .data⟩], none⟩) (v := .string (((⟨s0.toArray⟩ : ByteArray) ++ (⟨s2.toArray⟩ : ByteArray) ++ (⟨s1.toArray⟩ : ByteArray) ++ (⟨#[32]⟩ : ByteArray) ++ (⟨s3.toArray⟩ : ByteArray) ++ (⟨#[45]⟩ : ByteArray)) ++ (⟨s4.toArray⟩ : ByteArray) ++ (⟨#[32]⟩ : ByteArray) ++ (⟨s5.toArray⟩ : ByteArray))) rfl (by kernel_rfl) (by kernel_rfl) (by kernel_rfl) (fun _ _ _ h => h) (Or.inl ⟨by rfl, ?hy36⟩) (by assumption) ?rest36
    case hy36 => (intro w hSw; (try dsimp only at hSw); go_simp; omega)
    try simp only [Act.put, List.setIfInBounds_toArray, List.set_cons_zero, List.set_cons_succ]
    refine' wpAnyH_take (i := 10) (oi := ⟨some 2, .assign (.tmp 35), 9, "diary.go:61", #[⟨9, .data⟩, ⟨8, .chain⟩, ⟨0, .phase⟩, ⟨1, .phase⟩, ⟨2, .phase⟩, ⟨3, .phase⟩, ⟨4, .phase⟩, ⟨5, .phase⟩, ⟨6, .phase⟩, ⟨7, .phase⟩, ⟨8, .phase⟩, ⟨9, .phase⟩], none⟩) (v := _) rfl (by kernel_rfl) (by kernel_rfl) (by kernel_rfl) (fun _ _ _ h => h) (Or.inl ⟨by rfl, ?hy37⟩) (by assumption) ?rest37
    case hy37 => (intro w hSw; (try dsimp only at hSw); go_simp; try with_reducible rfl)
    try simp only [Act.put, List.setIfInBounds_toArray, List.set_cons_zero, List.set_cons_succ]
    refine wpAnyH_done (by kernel_rfl) ?_ _
    go_wp2
    go_ret
    exact ⟨by rw [HF.out, ← t19_some, ← HD.out]; rfl, below_on BE.out hbg⟩

#print axioms text19_any
end Go.Proofs.YtikjokhpombjjaaDoor
