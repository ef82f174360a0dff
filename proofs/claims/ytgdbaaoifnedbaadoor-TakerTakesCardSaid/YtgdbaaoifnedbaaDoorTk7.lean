/-
  Layer 17 (taker): a taker and its port as one; Step.
  Conditions: those that each theorem states.
-/
import Derived.Test.YtgdbaaoifnedbaaDoorTk6
namespace Go.Proofs.YtgdbaaoifnedbaaDoor
open Go.ChangeShapes Go.WideShapes Go.ChangeAt Go.RowKit

/-- A taker alone; its blocks are among those that U allows. -/
def KIs (w : World) (U : Nat → Prop) (g : Nat) (G : Tk) : Prop := ∃ s vl vg, KAt w g G s vl vg ∧ ∀ x, own17 g s vl vg x → U x

/-- A taker, and a Trace that forwards to a Plain; their blocks are among those that U allows. -/
def Sys17 (w : World) (U : Nat → Prop) (g t p : Nat) (G : Tk) (V E K : List Int) (T : List Tch) : Prop :=
  ∃ s vl vg a b k v, KAt w g G s vl vg ∧ PtAt w t p a b k v V E K T ∧ (∀ x, own17 g s vl vg x → ¬ (own14 t p a k v x ∨ x = b)) ∧ (∀ x, own17 g s vl vg x → U x) ∧ ∀ x, own14 t p a k v x ∨ x = b → U x

/-- A taker, and a Plain. -/
def SysP17 (w : World) (U : Nat → Prop) (g p : Nat) (G : Tk) (V E K : List Int) : Prop :=
  ∃ s vl vg a b k, KAt w g G s vl vg ∧ PlainAt w p a b k V E K ∧ (∀ x, own17 g s vl vg x → ¬ (own17p p a k x ∨ x = b)) ∧ (∀ x, own17 g s vl vg x → U x) ∧ ∀ x, own17p p a k x ∨ x = b → U x

section
variable {U : Nat → Prop} {g t p : Nat} {G : Tk} {V E K : List Int} {T : List Tch} {w w' : World}

theorem KIs.weak {U' : Nat → Prop} (y : KIs w U g G) (h : ∀ x, x < w.heap.size → U x → U' x) : KIs w U' g G := by
  obtain ⟨s, vl, vg, r, hU⟩ := y
  exact ⟨s, vl, vg, r, fun x hx => h x (own17_lt r.toKAtW hx) (hU x hx)⟩
theorem KIs.only {S : Nat → Prop} (y : KIs w U g G) (ho : Only S w w') (hS : ∀ x, x < w.heap.size → U x → ¬ S x) : KIs w' U g G := by
  obtain ⟨s, vl, vg, r, hU⟩ := y
  exact ⟨s, vl, vg, r.only ho (fun x hx => hS x (own17_lt r.toKAtW hx) (hU x hx)), hU⟩
theorem KIs.below (y : KIs w U g G) (hb : Below w.heap.size w w') : KIs w' U g G := y.only (Only.of_below hb (fun _ => False)) (fun _ _ _ h => h)
theorem KIs.g_lt (y : KIs w U g G) : g < w.heap.size ∧ U g := by
  obtain ⟨s, vl, vg, r, hU⟩ := y
  exact ⟨r.row.lt, hU g (.inl rfl)⟩

theorem Sys17.weak {U' : Nat → Prop} (y : Sys17 w U g t p G V E K T) (h : ∀ x, x < w.heap.size → U x → U' x) : Sys17 w U' g t p G V E K T := by
  obtain ⟨s, vl, vg, a, b, k, v, r, rp, hd, h1, h2⟩ := y
  exact ⟨s, vl, vg, a, b, k, v, r, rp, hd, fun x hx => h x (own17_lt r.toKAtW hx) (h1 x hx), fun x hx => h x (rp.lt x hx) (h2 x hx)⟩
theorem Sys17.only {S : Nat → Prop} (y : Sys17 w U g t p G V E K T) (ho : Only S w w') (hS : ∀ x, x < w.heap.size → U x → ¬ S x) : Sys17 w' U g t p G V E K T := by
  obtain ⟨s, vl, vg, a, b, k, v, r, rp, hd, h1, h2⟩ := y
  exact ⟨s, vl, vg, a, b, k, v, r.only ho (fun x hx => hS x (own17_lt r.toKAtW hx) (h1 x hx)), rp.only ho (fun x hx => hS x (rp.lt x hx) (h2 x hx)), hd, h1, h2⟩
theorem Sys17.below (y : Sys17 w U g t p G V E K T) (hb : Below w.heap.size w w') : Sys17 w' U g t p G V E K T := y.only (Only.of_below hb (fun _ => False)) (fun _ _ _ h => h)
theorem Sys17.gis (y : Sys17 w U g t p G V E K T) : KIs w U g G := by
  obtain ⟨s, vl, vg, a, b, k, v, r, rp, hd, h1, h2⟩ := y
  exact ⟨s, vl, vg, r, h1⟩

theorem SysP17.weak {U' : Nat → Prop} (y : SysP17 w U g p G V E K) (h : ∀ x, x < w.heap.size → U x → U' x) : SysP17 w U' g p G V E K := by
  obtain ⟨s, vl, vg, a, b, k, r, rp, hd, h1, h2⟩ := y
  exact ⟨s, vl, vg, a, b, k, r, rp, hd, fun x hx => h x (own17_lt r.toKAtW hx) (h1 x hx), fun x hx => h x (rp.lt17 x hx) (h2 x hx)⟩
theorem SysP17.only {S : Nat → Prop} (y : SysP17 w U g p G V E K) (ho : Only S w w') (hS : ∀ x, x < w.heap.size → U x → ¬ S x) : SysP17 w' U g p G V E K := by
  obtain ⟨s, vl, vg, a, b, k, r, rp, hd, h1, h2⟩ := y
  exact ⟨s, vl, vg, a, b, k, r.only ho (fun x hx => hS x (own17_lt r.toKAtW hx) (h1 x hx)), rp.onlyS17 ho (fun x hx => hS x (rp.lt17 x hx) (h2 x hx)), hd, h1, h2⟩
theorem SysP17.below (y : SysP17 w U g p G V E K) (hb : Below w.heap.size w w') : SysP17 w' U g p G V E K := y.only (Only.of_below hb (fun _ => False)) (fun _ _ _ h => h)
theorem SysP17.gis (y : SysP17 w U g p G V E K) : KIs w U g G := by
  obtain ⟨s, vl, vg, a, b, k, r, rp, hd, h1, h2⟩ := y
  exact ⟨s, vl, vg, r, h1⟩

/-- A taker and a port that is newer. -/
theorem sys17_of {a b : Nat} {k v : Value} {w0 : World} (y : KIs w0 U g G) (hb : Below w0.heap.size w0 w) (rp : PtAt w t p a b k v V E K T) (hn : ∀ x, own14 t p a k v x ∨ x = b → w0.heap.size ≤ x) : Sys17 w (fun x => U x ∨ w0.heap.size ≤ x) g t p G V E K T := by
  obtain ⟨s, vl, vg, r, hU⟩ := y
  exact ⟨s, vl, vg, a, b, k, v, r.below hb, rp, fun x hx hy => by have := own17_lt r.toKAtW hx; have := hn x hy; omega, fun x hx => .inl (hU x hx), fun x hx => .inr (hn x hx)⟩
theorem sysP17_of {a b : Nat} {k : Value} {w0 : World} (y : KIs w0 U g G) (hb : Below w0.heap.size w0 w) (rp : PlainAt w p a b k V E K) (hn : ∀ x, own17p p a k x ∨ x = b → w0.heap.size ≤ x) : SysP17 w (fun x => U x ∨ w0.heap.size ≤ x) g p G V E K := by
  obtain ⟨s, vl, vg, r, hU⟩ := y
  exact ⟨s, vl, vg, a, b, k, r.below hb, rp, fun x hx hy => by have := own17_lt r.toKAtW hx; have := hn x hy; omega, fun x hx => .inl (hU x hx), fun x hx => .inr (hn x hx)⟩

/-- Behind a call of the taker alone. -/
theorem kis_of {s : Nat} {vl vg ans : Value} {e : Ending} {G' : Tk} (hU : ∀ x, own17 g s vl vg x → U x) (h : KP17 g s G' vl vg ans w e w') : e = .returned ans ∧ KIs w' (fun x => U x ∨ w.heap.size ≤ x) g G' ∧ Only U w w' := by
  obtain ⟨vl', vg', he, r, o, n⟩ := h
  exact ⟨he, ⟨s, vl', vg', r, fun x hx => (n x hx).imp (hU x) id⟩, o.mono (fun x _ hx => hU x hx)⟩
theorem recvS17 (w : World) (y : KIs w U g G) :
    Calls Tryd.prog 40 #[.pointer (some ⟨g, 0, none⟩)] w fun e w' => e = .returned (.int .i64 (recE17 G)) ∧ KIs w' (fun x => U x ∨ w.heap.size ≤ x) g (recT17 G) ∧ Only U w w' := by
  obtain ⟨s, vl, vg, r, hU⟩ := y
  exact (recv17_any w r).mono fun _ _ h => kis_of hU h
theorem releaseS17 (h : Int) (w : World) (y : KIs w U g G) :
    Calls Tryd.prog 41 #[.pointer (some ⟨g, 0, none⟩), .int .i64 h] w fun e w' => e = .returned (.int .i64 (relE17 G h)) ∧ KIs w' (fun x => U x ∨ w.heap.size ≤ x) g (relT17 G h) ∧ Only U w w' := by
  obtain ⟨s, vl, vg, r, hU⟩ := y
  exact (release17_any h w r).mono fun _ _ h => kis_of hU h
/-- Behind a call of the taker alone where a Plain lies beside it. -/
theorem sysP17_call {s a b : Nat} {vl vg ans k : Value} {e : Ending} {G' : Tk} (rp : PlainAt w p a b k V E K) (hd : ∀ x, own17 g s vl vg x → ¬ (own17p p a k x ∨ x = b)) (h1 : ∀ x, own17 g s vl vg x → U x) (h2 : ∀ x, own17p p a k x ∨ x = b → U x) (h : KP17 g s G' vl vg ans w e w') : e = .returned ans ∧ SysP17 w' (fun x => U x ∨ w.heap.size ≤ x) g p G' V E K ∧ Only U w w' := by
  obtain ⟨vl', vg', he, r', o, n⟩ := h
  refine ⟨he, ⟨s, vl', vg', a, b, k, r', rp.onlyS17 o (fun x hx hy => hd x hy hx), fun x hx hy => ?_, fun x hx => (n x hx).imp (h1 x) id, fun x hx => .inl (h2 x hx)⟩, o.mono (fun x _ hx => h1 x hx)⟩
  rcases n x hx with h | h
  · exact hd x h hy
  · have := rp.lt17 x hy; omega
theorem recvP17 (w : World) (y : SysP17 w U g p G V E K) :
    Calls Tryd.prog 40 #[.pointer (some ⟨g, 0, none⟩)] w fun e w' => e = .returned (.int .i64 (recE17 G)) ∧ SysP17 w' (fun x => U x ∨ w.heap.size ≤ x) g p (recT17 G) V E K ∧ Only U w w' := by
  obtain ⟨s, vl, vg, a, b, k, r, rp, hd, h1, h2⟩ := y
  exact (recv17_any w r).mono fun _ _ h => sysP17_call rp hd h1 h2 h
theorem releaseP17 (h : Int) (w : World) (y : SysP17 w U g p G V E K) :
    Calls Tryd.prog 41 #[.pointer (some ⟨g, 0, none⟩), .int .i64 h] w fun e w' => e = .returned (.int .i64 (relE17 G h)) ∧ SysP17 w' (fun x => U x ∨ w.heap.size ≤ x) g p (relT17 G h) V E K ∧ Only U w w' := by
  obtain ⟨s, vl, vg, a, b, k, r, rp, hd, h1, h2⟩ := y
  exact (release17_any h w r).mono fun _ _ h => sysP17_call rp hd h1 h2 h

set_option maxRecDepth 100000 in
set_option maxHeartbeats 400000 in
theorem step17_nil (v : Value) (w : World) : Calls Tryd.prog 44 #[.pointer none, v] w fun e w' => e = .returned (.tuple #[.bool true, .int .i64 1]) ∧ w = w' := by
  go_enter Tryd.func44, Tryd.ntmps44
  go_wp2
  go_ret2
  exact ⟨rfl, rfl⟩

set_option maxRecDepth 100000 in
set_option maxHeartbeats 400000 in
theorem step17_idle (v : Value) (w : World) (y : KIs w U g G) (h0 : G.st = 0) : Calls Tryd.prog 44 #[.pointer (some ⟨g, 0, none⟩), v] w fun e w' => e = .returned (.tuple #[.bool true, .int .i64 13]) ∧ w = w' := by
  obtain ⟨s, vl, vg, r, hU⟩ := y
  have KB := Lib.hid (busy17_any w r)
  rw [h0] at KB
  clear r hU h0
  go_enter Tryd.func44, Tryd.ntmps44
  go_wp2_with fail
  refine KB.out.mono ?_
  rintro e w' ⟨rfl, rfl⟩
  go_wp2
  go_ret2
  exact ⟨rfl, rfl⟩

set_option maxRecDepth 100000 in
set_option maxHeartbeats 1000000 in
theorem stepT17 (w : World) (y : Sys17 w U g t p G V E K T) (hA : Acc17 G) (hF : Fit17 G) (hT : TabAt w) (hl : T.length ≤ 65536) :
    Calls Tryd.prog 44 #[.pointer (some ⟨g, 0, none⟩), tface14 t] w fun e w' => e = .returned (ansV17 (aft17 G (aN17 V E (tch17 G))).2) ∧ Sys17 w' (fun x => U x ∨ w.heap.size ≤ x) g t p ((aft17 G (aN17 V E (tch17 G))).1) (aV17 V (tch17 G)) E (aK17 K (tch17 G)) (T ++ aT17 V E (tch17 G)) ∧ Only U w w' := by
  obtain ⟨s, vl, vg, a, b, k, v, r, rp, hd, hu1, hu2⟩ := y
  obtain ⟨h1, h14⟩ := hF.st
  have KB := Lib.hid (busy17_any w r)
  have e0 : ((G.st : Int) != 0) = true := by simp; omega
  rw [e0] at KB
  have KA := Lib.hid (accT17_any w r hA rp hT hd hl ⟨h1, h14⟩)
  obtain ⟨n, hn⟩ : ∃ n, aN17 V E (tch17 G) = n := ⟨_, rfl⟩
  rw [hn] at KA ⊢
  have c7 := r.row.cell 7
  simp only [tkC, List.getElem?_cons_zero, List.getElem?_cons_succ] at c7
  rw [hA.ins] at c7
  have HF := Lib.hid hF
  have HL := Lib.hid (fun x (hx : own17 g s vl vg x) => own17_lt r.toKAtW hx)
  have HD := Lib.hid hd
  have HU1 := Lib.hid hu1
  have HU2 := Lib.hid hu2
  have HG := Lib.hid r.row.lt
  clear r rp hd hu1 hu2 hA hF hT hn e0 h1 h14 hl
  unfold tface14 at *
  go_enter Tryd.func44, Tryd.ntmps44
  go_wp2_with fail
  refine KB.out.mono ?_
  rintro e w' ⟨rfl, rfl⟩
  go_wp2_with fail
  refine KA.out.mono ?_
  rintro e w2 ⟨k2, v2, rfl, r2, rp2, o2, hk2, hv2⟩
  have KF := Lib.hid (fol17_any n w2 r2 HF.out)
  unfold ansV17 at KF
  have RP2 := Lib.hid rp2
  have O2 := Lib.hid o2
  have HK2 := Lib.hid hk2
  have HV2 := Lib.hid hv2
  clear r2 rp2 o2 hk2 hv2
  go_wp2_with fail
  refine KF.out.mono ?_
  rintro e w3 ⟨vl3, vg3, rfl, r3, o3, n3⟩
  have R3 := Lib.hid r3
  have O3 := Lib.hid o3
  have N3 := Lib.hid n3
  clear r3 o3 n3
  go_wp2
  go_ret2
  have hs2 := O2.out.size
  have hout : ∀ x, own14 t p a k2 v2 x ∨ x = b → (own14 t p a k v x ∨ x = b) ∨ w.heap.size ≤ x := by
    rintro x (hx | hx)
    · rcases hx with hx | hx | hx | hx | hx
      · exact .inl (.inl (.inl hx))
      · exact .inl (.inl (.inr (.inl hx)))
      · exact .inl (.inl (.inr (.inr (.inl hx))))
      · rcases HK2.out with h | ⟨y, h, hy⟩
        · exact .inl (.inl (.inr (.inr (.inr (.inl (by rw [← h]; exact hx))))))
        · rw [hx] at h; injection h with h; exact .inr (by omega)
      · rcases HV2.out with h | ⟨y, h, hy⟩
        · exact .inl (.inl (.inr (.inr (.inr (.inr (by rw [← h]; exact hx))))))
        · rw [hx] at h; injection h with h; exact .inr (by omega)
    · exact .inl (.inr hx)
  refine ⟨rfl, ⟨s, vl3, vg3, a, b, k2, v2, R3.out, RP2.out.only O3.out (fun x hx hy => ?_), fun x hx hy => ?_, fun x hx => ?_, fun x hx => ?_⟩, (O2.out.mono (fun x _ hx => ?_)).trans (O3.out.mono (fun x _ hx => HU1.out x hx))⟩
  · rcases hout x hx with h | h
    · exact HD.out x hy h
    · have := HL.out x hy; omega
  · have hlt := RP2.out.lt x hy
    rcases N3.out x hx with h | h
    · rcases hout x hy with h' | h'
      · exact HD.out x h h'
      · have := HL.out x h; omega
    · omega
  · rcases N3.out x hx with h | h
    · exact .inl (HU1.out x h)
    · exact .inr (by omega)
  · rcases hout x hx with h | h
    · exact .inl (HU2.out x h)
    · exact .inr h
  · rcases hx with hx | rfl
    · exact HU2.out x (.inl hx)
    · exact HU1.out x (.inl rfl)

set_option maxRecDepth 100000 in
set_option maxHeartbeats 1000000 in
theorem stepP17 (w : World) (y : SysP17 w U g p G V E K) (hA : Acc17 G) (hF : Fit17 G) (hT : TabAt w) :
    Calls Tryd.prog 44 #[.pointer (some ⟨g, 0, none⟩), face14 p] w fun e w' => e = .returned (ansV17 (aft17 G (aN17 V E (tch17 G))).2) ∧ SysP17 w' (fun x => U x ∨ w.heap.size ≤ x) g p ((aft17 G (aN17 V E (tch17 G))).1) (aV17 V (tch17 G)) E (aK17 K (tch17 G)) ∧ Only U w w' := by
  obtain ⟨s, vl, vg, a, b, k, r, rp, hd, hu1, hu2⟩ := y
  obtain ⟨h1, h14⟩ := hF.st
  have KB := Lib.hid (busy17_any w r)
  have e0 : ((G.st : Int) != 0) = true := by simp; omega
  rw [e0] at KB
  have KA := Lib.hid (accP17_any w r hA rp hT hd ⟨h1, h14⟩)
  obtain ⟨n, hn⟩ : ∃ n, aN17 V E (tch17 G) = n := ⟨_, rfl⟩
  rw [hn] at KA ⊢
  have c7 := r.row.cell 7
  simp only [tkC, List.getElem?_cons_zero, List.getElem?_cons_succ] at c7
  rw [hA.ins] at c7
  have HF := Lib.hid hF
  have HL := Lib.hid (fun x (hx : own17 g s vl vg x) => own17_lt r.toKAtW hx)
  have HD := Lib.hid hd
  have HU1 := Lib.hid hu1
  have HU2 := Lib.hid hu2
  have HG := Lib.hid r.row.lt
  clear r rp hd hu1 hu2 hA hF hT hn e0 h1 h14
  unfold face14 at *
  go_enter Tryd.func44, Tryd.ntmps44
  go_wp2_with fail
  refine KB.out.mono ?_
  rintro e w' ⟨rfl, rfl⟩
  go_wp2_with fail
  refine KA.out.mono ?_
  rintro e w2 ⟨k2, rfl, r2, rp2, o2, hk2⟩
  have KF := Lib.hid (fol17_any n w2 r2 HF.out)
  unfold ansV17 at KF
  have RP2 := Lib.hid rp2
  have O2 := Lib.hid o2
  have HK2 := Lib.hid hk2
  clear r2 rp2 o2 hk2
  go_wp2_with fail
  refine KF.out.mono ?_
  rintro e w3 ⟨vl3, vg3, rfl, r3, o3, n3⟩
  have R3 := Lib.hid r3
  have O3 := Lib.hid o3
  have N3 := Lib.hid n3
  clear r3 o3 n3
  go_wp2
  go_ret2
  have hs2 := O2.out.size
  have hout : ∀ x, own17p p a k2 x ∨ x = b → (own17p p a k x ∨ x = b) ∨ w.heap.size ≤ x := by
    rintro x (hx | hx)
    · rcases hx with hx | hx | hx
      · exact .inl (.inl (.inl hx))
      · exact .inl (.inl (.inr (.inl hx)))
      · rcases HK2.out with h | ⟨y, h, hy⟩
        · exact .inl (.inl (.inr (.inr (by rw [← h]; exact hx))))
        · rw [hx] at h; injection h with h; exact .inr (by omega)
    · exact .inl (.inr hx)
  refine ⟨rfl, ⟨s, vl3, vg3, a, b, k2, R3.out, RP2.out.onlyS17 O3.out (fun x hx hy => ?_), fun x hx hy => ?_, fun x hx => ?_, fun x hx => ?_⟩, (O2.out.mono (fun x _ hx => ?_)).trans (O3.out.mono (fun x _ hx => HU1.out x hx))⟩
  · rcases hout x hx with h | h
    · exact HD.out x hy h
    · have := HL.out x hy; omega
  · have hlt := RP2.out.lt17 x hy
    rcases N3.out x hx with h | h
    · rcases hout x hy with h' | h'
      · exact HD.out x h h'
      · have := HL.out x h; omega
    · omega
  · rcases N3.out x hx with h | h
    · exact .inl (HU1.out x h)
    · exact .inr (by omega)
  · rcases hout x hx with h | h
    · exact .inl (HU2.out x h)
    · exact .inr h
  · rcases hx with hx | rfl
    · exact HU2.out x (.inl hx)
    · exact HU1.out x (.inl rfl)
end

#print axioms stepT17
#print axioms stepP17
end Go.Proofs.YtgdbaaoifnedbaaDoor
