/-
  Layer 16 (giver): a giver and its port as one; Step.
  Conditions: those that each theorem states.
-/
import Derived.Test.YtgdbaaoifnedbaaDoorGv9
namespace Go.Proofs.YtgdbaaoifnedbaaDoor
open Go.ChangeShapes Go.WideShapes Go.ChangeAt Go.RowKit

/-- A giver alone; its blocks are among those that U allows. -/
def GIs (w : World) (U : Nat → Prop) (g : Nat) (G : Gv) : Prop := ∃ vf vo vl, GAt w g G vf vo vl ∧ ∀ x, own16 g vf vo vl x → U x

/-- A giver, and a Trace that forwards to a Plain; their blocks are among those that U allows. -/
def Sys16 (w : World) (U : Nat → Prop) (g t p : Nat) (G : Gv) (V E K : List Int) (T : List Tch) : Prop :=
  ∃ vf vo vl a b k v, GAt w g G vf vo vl ∧ PtAt w t p a b k v V E K T ∧ (∀ x, own16 g vf vo vl x → ¬ (own14 t p a k v x ∨ x = b)) ∧ (∀ x, own16 g vf vo vl x → U x) ∧ ∀ x, own14 t p a k v x ∨ x = b → U x

/-- A giver, and a Plain. -/
def SysP16 (w : World) (U : Nat → Prop) (g p : Nat) (G : Gv) (V E K : List Int) : Prop :=
  ∃ vf vo vl a b k, GAt w g G vf vo vl ∧ PlainAt w p a b k V E K ∧ (∀ x, own16 g vf vo vl x → ¬ (own14p p a k x ∨ x = b)) ∧ (∀ x, own16 g vf vo vl x → U x) ∧ ∀ x, own14p p a k x ∨ x = b → U x

section
variable {U : Nat → Prop} {g t p : Nat} {G : Gv} {V E K : List Int} {T : List Tch} {w w' : World}

theorem GIs.weak {U' : Nat → Prop} (s : GIs w U g G) (h : ∀ x, x < w.heap.size → U x → U' x) : GIs w U' g G := by
  obtain ⟨vf, vo, vl, r, hU⟩ := s
  exact ⟨vf, vo, vl, r, fun x hx => h x (own16_lt r hx) (hU x hx)⟩
theorem GIs.only {S : Nat → Prop} (s : GIs w U g G) (ho : Only S w w') (hS : ∀ x, x < w.heap.size → U x → ¬ S x) : GIs w' U g G := by
  obtain ⟨vf, vo, vl, r, hU⟩ := s
  exact ⟨vf, vo, vl, r.only ho (fun x hx => hS x (own16_lt r hx) (hU x hx)), hU⟩
theorem GIs.below (s : GIs w U g G) (hb : Below w.heap.size w w') : GIs w' U g G := s.only (Only.of_below hb (fun _ => False)) (fun _ _ _ h => h)
theorem GIs.g_lt (s : GIs w U g G) : g < w.heap.size ∧ U g := by
  obtain ⟨vf, vo, vl, r, hU⟩ := s
  exact ⟨r.row.lt, hU g (.inl rfl)⟩

theorem Sys16.weak {U' : Nat → Prop} (s : Sys16 w U g t p G V E K T) (h : ∀ x, x < w.heap.size → U x → U' x) : Sys16 w U' g t p G V E K T := by
  obtain ⟨vf, vo, vl, a, b, k, v, r, rp, hd, h1, h2⟩ := s
  exact ⟨vf, vo, vl, a, b, k, v, r, rp, hd, fun x hx => h x (own16_lt r hx) (h1 x hx), fun x hx => h x (rp.lt x hx) (h2 x hx)⟩
theorem Sys16.only {S : Nat → Prop} (s : Sys16 w U g t p G V E K T) (ho : Only S w w') (hS : ∀ x, x < w.heap.size → U x → ¬ S x) : Sys16 w' U g t p G V E K T := by
  obtain ⟨vf, vo, vl, a, b, k, v, r, rp, hd, h1, h2⟩ := s
  exact ⟨vf, vo, vl, a, b, k, v, r.only ho (fun x hx => hS x (own16_lt r hx) (h1 x hx)), rp.only ho (fun x hx => hS x (rp.lt x hx) (h2 x hx)), hd, h1, h2⟩
theorem Sys16.below (s : Sys16 w U g t p G V E K T) (hb : Below w.heap.size w w') : Sys16 w' U g t p G V E K T := s.only (Only.of_below hb (fun _ => False)) (fun _ _ _ h => h)
theorem Sys16.gis (s : Sys16 w U g t p G V E K T) : GIs w U g G := by
  obtain ⟨vf, vo, vl, a, b, k, v, r, rp, hd, h1, h2⟩ := s
  exact ⟨vf, vo, vl, r, h1⟩

theorem SysP16.weak {U' : Nat → Prop} (s : SysP16 w U g p G V E K) (h : ∀ x, x < w.heap.size → U x → U' x) : SysP16 w U' g p G V E K := by
  obtain ⟨vf, vo, vl, a, b, k, r, rp, hd, h1, h2⟩ := s
  exact ⟨vf, vo, vl, a, b, k, r, rp, hd, fun x hx => h x (own16_lt r hx) (h1 x hx), fun x hx => h x (rp.lt x hx) (h2 x hx)⟩
theorem SysP16.only {S : Nat → Prop} (s : SysP16 w U g p G V E K) (ho : Only S w w') (hS : ∀ x, x < w.heap.size → U x → ¬ S x) : SysP16 w' U g p G V E K := by
  obtain ⟨vf, vo, vl, a, b, k, r, rp, hd, h1, h2⟩ := s
  exact ⟨vf, vo, vl, a, b, k, r.only ho (fun x hx => hS x (own16_lt r hx) (h1 x hx)), rp.onlyS ho (fun x hx => hS x (rp.lt x hx) (h2 x hx)), hd, h1, h2⟩
theorem SysP16.below (s : SysP16 w U g p G V E K) (hb : Below w.heap.size w w') : SysP16 w' U g p G V E K := s.only (Only.of_below hb (fun _ => False)) (fun _ _ _ h => h)
theorem SysP16.gis (s : SysP16 w U g p G V E K) : GIs w U g G := by
  obtain ⟨vf, vo, vl, a, b, k, r, rp, hd, h1, h2⟩ := s
  exact ⟨vf, vo, vl, r, h1⟩

/-- A giver and a port that is newer. -/
theorem sys16_of {a b : Nat} {k v : Value} {w0 : World} (s : GIs w0 U g G) (hb : Below w0.heap.size w0 w) (rp : PtAt w t p a b k v V E K T) (hn : ∀ x, own14 t p a k v x ∨ x = b → w0.heap.size ≤ x) : Sys16 w (fun x => U x ∨ w0.heap.size ≤ x) g t p G V E K T := by
  obtain ⟨vf, vo, vl, r, hU⟩ := s
  exact ⟨vf, vo, vl, a, b, k, v, r.below hb, rp, fun x hx hy => by have := own16_lt r hx; have := hn x hy; omega, fun x hx => .inl (hU x hx), fun x hx => .inr (hn x hx)⟩
theorem sysP16_of {a b : Nat} {k : Value} {w0 : World} (s : GIs w0 U g G) (hb : Below w0.heap.size w0 w) (rp : PlainAt w p a b k V E K) (hn : ∀ x, own14p p a k x ∨ x = b → w0.heap.size ≤ x) : SysP16 w (fun x => U x ∨ w0.heap.size ≤ x) g p G V E K := by
  obtain ⟨vf, vo, vl, r, hU⟩ := s
  exact ⟨vf, vo, vl, a, b, k, r.below hb, rp, fun x hx hy => by have := own16_lt r hx; have := hn x hy; omega, fun x hx => .inl (hU x hx), fun x hx => .inr (hn x hx)⟩

/-- Behind a call of the giver alone. -/
theorem gis_of {vf vo vl ans : Value} {e : Ending} {G' : Gv} (hU : ∀ x, own16 g vf vo vl x → U x) (h : GP16 g G' vf vo vl ans w e w') : e = .returned ans ∧ GIs w' (fun x => U x ∨ w.heap.size ≤ x) g G' ∧ Only U w w' := by
  obtain ⟨vf', vo', vl', he, r, o, n⟩ := h
  exact ⟨he, ⟨vf', vo', vl', r, fun x hx => (n x hx).imp (hU x) id⟩, o.mono (fun x _ hx => hU x hx)⟩
theorem sendS16 (P : Nat → Prop) (l : List Int) (v : Value) (w : World) (s : GIs w U g G) (hv : Lies w P v (ints l)) (hcap : CapOk v) :
    Calls Tryd.prog 17 #[.pointer (some ⟨g, 0, none⟩), v] w fun e w' => e = .returned (.int .i64 (sendE16 G l)) ∧ GIs w' (fun x => U x ∨ w.heap.size ≤ x) g (sendG16 G l) ∧ Only U w w' := by
  obtain ⟨vf, vo, vl, r, hU⟩ := s
  exact (send16_any P l v w r hv hcap).mono fun _ _ h => gis_of hU h
/-- Send where a Plain lies beside the giver. -/
theorem sendP16 (P : Nat → Prop) (l : List Int) (v : Value) (w : World) (s : SysP16 w U g p G V E K) (hv : Lies w P v (ints l)) (hcap : CapOk v) :
    Calls Tryd.prog 17 #[.pointer (some ⟨g, 0, none⟩), v] w fun e w' => e = .returned (.int .i64 (sendE16 G l)) ∧ SysP16 w' (fun x => U x ∨ w.heap.size ≤ x) g p (sendG16 G l) V E K ∧ Only U w w' := by
  obtain ⟨vf, vo, vl, a, b, k, r, rp, hd, h1, h2⟩ := s
  refine (send16_any P l v w r hv hcap).mono fun _ _ h => ?_
  obtain ⟨vf', vo', vl', he, r', o, n⟩ := h
  refine ⟨he, ⟨vf', vo', vl', a, b, k, r', rp.onlyS o (fun x hx hy => hd x hy hx), fun x hx hy => ?_, fun x hx => (n x hx).imp (h1 x) id, fun x hx => .inl (h2 x hx)⟩, o.mono (fun x _ hx => h1 x hx)⟩
  rcases n x hx with h | h
  · exact hd x h hy
  · have := rp.lt x hy; omega

set_option maxRecDepth 100000 in
set_option maxHeartbeats 400000 in
theorem step16_nil (v : Value) (w : World) : Calls Tryd.prog 23 #[.pointer none, v] w fun e w' => e = .returned (.tuple #[.bool true, .int .i64 1]) ∧ w = w' := by
  go_enter Tryd.func23, Tryd.ntmps23
  go_wp2
  go_ret2
  exact ⟨rfl, rfl⟩

set_option maxRecDepth 100000 in
set_option maxHeartbeats 400000 in
theorem step16_idle (v : Value) (w : World) (s : GIs w U g G) (h0 : G.st = 0) : Calls Tryd.prog 23 #[.pointer (some ⟨g, 0, none⟩), v] w fun e w' => e = .returned (.tuple #[.bool true, .int .i64 13]) ∧ w = w' := by
  obtain ⟨vf, vo, vl, r, hU⟩ := s
  have KB := Lib.hid (busy16_any w r)
  rw [h0] at KB
  clear r hU h0
  go_enter Tryd.func23, Tryd.ntmps23
  go_wp2_with fail
  refine KB.out.mono ?_
  rintro e w' ⟨rfl, rfl⟩
  go_wp2
  go_ret2
  exact ⟨rfl, rfl⟩

set_option maxRecDepth 100000 in
set_option maxHeartbeats 1000000 in
theorem stepT16 (w : World) (s : Sys16 w U g t p G V E K T) (hA : Acc16 G) (hF : Fit16 G) (hT : TabAt w) (hl : T.length ≤ 65536) (hkl : K.length ≤ 65536) :
    Calls Tryd.prog 23 #[.pointer (some ⟨g, 0, none⟩), tface14 t] w fun e w' => e = .returned (ansV16 (aft16 G (aN16 V E (tch16 G))).2) ∧ Sys16 w' (fun x => U x ∨ w.heap.size ≤ x) g t p ((aft16 G (aN16 V E (tch16 G))).1) (aV16 V (tch16 G)) E (aK16 K (tch16 G)) (T ++ aT16 V E (tch16 G)) ∧ Only U w w' := by
  obtain ⟨vf, vo, vl, a, b, k, v, r, rp, hd, hu1, hu2⟩ := s
  obtain ⟨h1, h15⟩ := hF.st
  have KB := Lib.hid (busy16_any w r)
  have e0 : ((G.st : Int) != 0) = true := by simp; omega
  rw [e0] at KB
  have KA := Lib.hid (accT_any w r hA rp hT hd hl hkl ⟨h1, h15⟩)
  obtain ⟨n, hn⟩ : ∃ n, aN16 V E (tch16 G) = n := ⟨_, rfl⟩
  rw [hn] at KA ⊢
  have c7 := r.row.cell 7
  simp only [gvC, List.getElem?_cons_zero, List.getElem?_cons_succ] at c7
  rw [hA.ins] at c7
  have HF := Lib.hid hF
  have HL := Lib.hid (fun x (hx : own16 g vf vo vl x) => own16_lt r hx)
  have HD := Lib.hid hd
  have HU1 := Lib.hid hu1
  have HU2 := Lib.hid hu2
  have HG := Lib.hid r.row.lt
  clear r rp hd hu1 hu2 hA hF hT hkl hn e0 h1 h15 hl
  unfold tface14 at *
  go_enter Tryd.func23, Tryd.ntmps23
  go_wp2_with fail
  refine KB.out.mono ?_
  rintro e w' ⟨rfl, rfl⟩
  go_wp2_with fail
  refine KA.out.mono ?_
  rintro e w2 ⟨k2, v2, rfl, r2, rp2, o2, hk2, hv2⟩
  have KF := Lib.hid (fol16_any n w2 r2 HF.out)
  unfold ansV16 at KF
  have RP2 := Lib.hid rp2
  have O2 := Lib.hid o2
  have HK2 := Lib.hid hk2
  have HV2 := Lib.hid hv2
  clear r2 rp2 o2 hk2 hv2
  go_wp2_with fail
  refine KF.out.mono ?_
  rintro e w3 ⟨vf3, vo3, vl3, rfl, r3, o3, n3⟩
  have R3 := Lib.hid r3
  have O3 := Lib.hid o3
  have N3 := Lib.hid n3
  clear r3 o3 n3
  go_wp2
  go_ret2
  have hs2 := O2.out.size
  have hout : ∀ x, own14 t p a k2 v2 x ∨ x = b → (own14 t p a k v x ∨ x = b) ∨ w.heap.size ≤ x := by
    rintro x (hx | hx)
    · rcases hx with hx | hx | hx | hx | hx
      · exact .inl (.inl (.inl hx))
      · exact .inl (.inl (.inr (.inl hx)))
      · exact .inl (.inl (.inr (.inr (.inl hx))))
      · rcases HK2.out with h | ⟨y, h, hy⟩
        · exact .inl (.inl (.inr (.inr (.inr (.inl (by rw [← h]; exact hx))))))
        · rw [hx] at h; injection h with h; exact .inr (by omega)
      · rcases HV2.out with h | ⟨y, h, hy⟩
        · exact .inl (.inl (.inr (.inr (.inr (.inr (by rw [← h]; exact hx))))))
        · rw [hx] at h; injection h with h; exact .inr (by omega)
    · exact .inl (.inr hx)
  refine ⟨rfl, ⟨vf3, vo3, vl3, a, b, k2, v2, R3.out, RP2.out.only O3.out (fun x hx hy => ?_), fun x hx hy => ?_, fun x hx => ?_, fun x hx => ?_⟩, (O2.out.mono (fun x _ hx => ?_)).trans (O3.out.mono (fun x _ hx => HU1.out x hx))⟩
  · rcases hout x hx with h | h
    · exact HD.out x hy h
    · have := HL.out x hy; omega
  · have hlt := RP2.out.lt x hy
    rcases N3.out x hx with h | h
    · rcases hout x hy with h' | h'
      · exact HD.out x h h'
      · have := HL.out x h; omega
    · omega
  · rcases N3.out x hx with h | h
    · exact .inl (HU1.out x h)
    · exact .inr (by omega)
  · rcases hout x hx with h | h
    · exact .inl (HU2.out x h)
    · exact .inr h
  · rcases hx with hx | rfl
    · exact HU2.out x (.inl hx)
    · exact HU1.out x (.inl rfl)

set_option maxRecDepth 100000 in
set_option maxHeartbeats 1000000 in
theorem stepP16 (w : World) (s : SysP16 w U g p G V E K) (hA : Acc16 G) (hF : Fit16 G) (hT : TabAt w) (hkl : K.length ≤ 65536) :
    Calls Tryd.prog 23 #[.pointer (some ⟨g, 0, none⟩), face14 p] w fun e w' => e = .returned (ansV16 (aft16 G (aN16 V E (tch16 G))).2) ∧ SysP16 w' (fun x => U x ∨ w.heap.size ≤ x) g p ((aft16 G (aN16 V E (tch16 G))).1) (aV16 V (tch16 G)) E (aK16 K (tch16 G)) ∧ Only U w w' := by
  obtain ⟨vf, vo, vl, a, b, k, r, rp, hd, hu1, hu2⟩ := s
  obtain ⟨h1, h15⟩ := hF.st
  have KB := Lib.hid (busy16_any w r)
  have e0 : ((G.st : Int) != 0) = true := by simp; omega
  rw [e0] at KB
  have KA := Lib.hid (accP_any w r hA rp hT hd hkl ⟨h1, h15⟩)
  obtain ⟨n, hn⟩ : ∃ n, aN16 V E (tch16 G) = n := ⟨_, rfl⟩
  rw [hn] at KA ⊢
  have c7 := r.row.cell 7
  simp only [gvC, List.getElem?_cons_zero, List.getElem?_cons_succ] at c7
  rw [hA.ins] at c7
  have HF := Lib.hid hF
  have HL := Lib.hid (fun x (hx : own16 g vf vo vl x) => own16_lt r hx)
  have HD := Lib.hid hd
  have HU1 := Lib.hid hu1
  have HU2 := Lib.hid hu2
  have HG := Lib.hid r.row.lt
  clear r rp hd hu1 hu2 hA hF hT hkl hn e0 h1 h15
  unfold face14 at *
  go_enter Tryd.func23, Tryd.ntmps23
  go_wp2_with fail
  refine KB.out.mono ?_
  rintro e w' ⟨rfl, rfl⟩
  go_wp2_with fail
  refine KA.out.mono ?_
  rintro e w2 ⟨k2, rfl, r2, rp2, o2, hk2⟩
  have KF := Lib.hid (fol16_any n w2 r2 HF.out)
  unfold ansV16 at KF
  have RP2 := Lib.hid rp2
  have O2 := Lib.hid o2
  have HK2 := Lib.hid hk2
  clear r2 rp2 o2 hk2
  go_wp2_with fail
  refine KF.out.mono ?_
  rintro e w3 ⟨vf3, vo3, vl3, rfl, r3, o3, n3⟩
  have R3 := Lib.hid r3
  have O3 := Lib.hid o3
  have N3 := Lib.hid n3
  clear r3 o3 n3
  go_wp2
  go_ret2
  have hs2 := O2.out.size
  have hout : ∀ x, own14p p a k2 x ∨ x = b → (own14p p a k x ∨ x = b) ∨ w.heap.size ≤ x := by
    rintro x (hx | hx)
    · rcases hx with hx | hx | hx
      · exact .inl (.inl (.inl hx))
      · exact .inl (.inl (.inr (.inl hx)))
      · rcases HK2.out with h | ⟨y, h, hy⟩
        · exact .inl (.inl (.inr (.inr (by rw [← h]; exact hx))))
        · rw [hx] at h; injection h with h; exact .inr (by omega)
    · exact .inl (.inr hx)
  refine ⟨rfl, ⟨vf3, vo3, vl3, a, b, k2, R3.out, RP2.out.onlyS O3.out (fun x hx hy => ?_), fun x hx hy => ?_, fun x hx => ?_, fun x hx => ?_⟩, (O2.out.mono (fun x _ hx => ?_)).trans (O3.out.mono (fun x _ hx => HU1.out x hx))⟩
  · rcases hout x hx with h | h
    · exact HD.out x hy h
    · have := HL.out x hy; omega
  · have hlt := RP2.out.lt x hy
    rcases N3.out x hx with h | h
    · rcases hout x hy with h' | h'
      · exact HD.out x h h'
      · have := HL.out x h; omega
    · omega
  · rcases N3.out x hx with h | h
    · exact .inl (HU1.out x h)
    · exact .inr (by omega)
  · rcases hout x hx with h | h
    · exact .inl (HU2.out x h)
    · exact .inr h
  · rcases hx with hx | rfl
    · exact HU2.out x (.inl hx)
    · exact HU1.out x (.inl rfl)
end

#print axioms stepT16
#print axioms stepP16
end Go.Proofs.YtgdbaaoifnedbaaDoor
