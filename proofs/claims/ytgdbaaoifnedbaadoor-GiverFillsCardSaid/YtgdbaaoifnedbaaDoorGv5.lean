/-
  Layer 16 (giver): asked, judge, take, regain.
  Conditions: those that each theorem states.
-/
import Derived.Test.YtgdbaaoifnedbaaDoorGv4
namespace Go.Proofs.YtgdbaaoifnedbaaDoor
open Go.ChangeShapes Go.WideShapes Go.ChangeAt Go.RowKit

section
variable {g : Nat} {G : Gv} {vf vo vl : Value} {w w1 : World}

/-- Another list lies in the place of the free slots. -/
theorem GAt.setFree (r : GAt w g G vf vo vl) {v' : Value} {xs : List Int} (ho : Only (fun x => vf.ownBlock = some x) w w1) (o1 : w1.ownsRow 0 3 1 v' xs.length (ints xs)) (hat : v'.ownBlock = vf.ownBlock ∨ ∃ x, v'.ownBlock = some x ∧ w.heap.size ≤ x) :
    GAt (w1.setCell ⟨g, 9, none⟩ v') g { G with free := xs } v' vo vl ∧ Only (own16 g vf vo vl) w (w1.setCell ⟨g, 9, none⟩ v') ∧ ∀ x, own16 g v' vo vl x → own16 g vf vo vl x ∨ w.heap.size ≤ x := by
  have r1 := r.row.only ho (fun e => r.fg e)
  have h2 := only_put16 w1 g 9 v'
  have hne : ∀ x, v'.ownBlock = some x → ¬ x = g := fun x hx e => by
    rcases hat with h | ⟨y, h, hy⟩
    · exact r.fg (by rw [← h, hx, e])
    · rw [hx] at h; injection h with h; have := r.row.lt; omega
  have hnx : ∀ (u : Value) (n : Nat) (xs : List Value), w.ownsRow 0 3 1 u n xs → (∀ x, vf.ownBlock = some x → u.ownBlock ≠ some x) → ∀ x, v'.ownBlock = some x → u.ownBlock ≠ some x := fun u n xs hu hd x hx e => by
    rcases hat with h | ⟨y, h, hy⟩
    · exact hd x (by rw [← h, hx]) e
    · rw [hx] at h; injection h with h; have := (hu.lt x e).2; omega
  have hO := (ho.mono (T := own16 g vf vo vl) (fun _ _ h => .inr (.inl h))).trans (h2.mono (fun _ _ h => .inl h))
  refine ⟨⟨?_, own_quiet o1 (fun x hx => h2.block x (o1.lt x hx).2 (hne x hx)), ?_, ?_, ?_, ?_, r.ol⟩, hO, fun x h => ?_⟩
  · exact r1.put 9 v'
  · exact own_quiet (own_quiet r.out (fun x hx => ho.block x (r.out.lt x hx).2 (fun e => r.fo x e hx))) (fun x hx => h2.block x (Nat.lt_of_lt_of_le (r.out.lt x hx).2 ho.size) (fun e => r.og (by rw [hx, e])))
  · exact own_quiet (own_quiet r.load (fun x hx => ho.block x (r.load.lt x hx).2 (fun e => r.fl x e hx))) (fun x hx => h2.block x (Nat.lt_of_lt_of_le (r.load.lt x hx).2 ho.size) (fun e => r.lg (by rw [hx, e])))
  · exact hnx _ _ _ r.out r.fo
  · exact hnx _ _ _ r.load r.fl
  · rcases h with h | h | h | h
    · exact .inl (.inl h)
    · rcases hat with e | ⟨y, e, hy⟩
      · exact .inl (.inr (.inl (by rw [← e, h])))
      · rw [h] at e; injection e with e; exact .inr (by omega)
    · exact .inl (.inr (.inr (.inl h)))
    · exact .inl (.inr (.inr (.inr h)))

/-- Another list lies in the place of the slots that are out. -/
theorem GAt.setOut (r : GAt w g G vf vo vl) {v' : Value} {xs : List Int} (ho : Only (fun x => vo.ownBlock = some x) w w1) (o1 : w1.ownsRow 0 3 1 v' xs.length (ints xs)) (hat : v'.ownBlock = vo.ownBlock ∨ ∃ x, v'.ownBlock = some x ∧ w.heap.size ≤ x) :
    GAt (w1.setCell ⟨g, 10, none⟩ v') g { G with out := xs } vf v' vl ∧ Only (own16 g vf vo vl) w (w1.setCell ⟨g, 10, none⟩ v') ∧ ∀ x, own16 g vf v' vl x → own16 g vf vo vl x ∨ w.heap.size ≤ x := by
  have r1 := r.row.only ho (fun e => r.og e)
  have h2 := only_put16 w1 g 10 v'
  have hne : ∀ x, v'.ownBlock = some x → ¬ x = g := fun x hx e => by
    rcases hat with h | ⟨y, h, hy⟩
    · exact r.og (by rw [← h, hx, e])
    · rw [hx] at h; injection h with h; have := r.row.lt; omega
  have hO := (ho.mono (T := own16 g vf vo vl) (fun _ _ h => .inr (.inr (.inl h)))).trans (h2.mono (fun _ _ h => .inl h))
  refine ⟨⟨?_, ?_, own_quiet o1 (fun x hx => h2.block x (o1.lt x hx).2 (hne x hx)), ?_, fun x hx e => ?_, r.fl, fun x hx e => ?_⟩, hO, fun x h => ?_⟩
  · exact r1.put 10 v'
  · exact own_quiet (own_quiet r.free (fun x hx => ho.block x (r.free.lt x hx).2 (fun e => r.fo x hx e))) (fun x hx => h2.block x (Nat.lt_of_lt_of_le (r.free.lt x hx).2 ho.size) (fun e => r.fg (by rw [hx, e])))
  · exact own_quiet (own_quiet r.load (fun x hx => ho.block x (r.load.lt x hx).2 (fun e => r.ol x e hx))) (fun x hx => h2.block x (Nat.lt_of_lt_of_le (r.load.lt x hx).2 ho.size) (fun e => r.lg (by rw [hx, e])))
  · rcases hat with h | ⟨y, h, hy⟩
    · exact r.fo x hx (by rw [← h, e])
    · rw [e] at h; injection h with h; have := (r.free.lt x hx).2; omega
  · rcases hat with h | ⟨y, h, hy⟩
    · exact r.ol x (by rw [← h, hx]) e
    · rw [hx] at h; injection h with h; have := (r.load.lt x e).2; omega
  · rcases h with h | h | h | h
    · exact .inl (.inl h)
    · exact .inl (.inr (.inl h))
    · rcases hat with e | ⟨y, e, hy⟩
      · exact .inl (.inr (.inr (.inl (by rw [← e, h]))))
      · rw [h] at e; injection e with e; exact .inr (by omega)
    · exact .inl (.inr (.inr (.inr h)))

/-- One call behind another. -/
theorem GP16.trans {w2 : World} {G2 : Gv} {vf1 vo1 vl1 ans : Value} {e : Ending} (h1 : Only (own16 g vf vo vl) w w1) (n1 : ∀ x, own16 g vf1 vo1 vl1 x → own16 g vf vo vl x ∨ w.heap.size ≤ x) (h2 : GP16 g G2 vf1 vo1 vl1 ans w1 e w2) : GP16 g G2 vf vo vl ans w e w2 := by
  obtain ⟨vf', vo', vl', he, r, o2, n2⟩ := h2
  have hs := h1.size
  refine ⟨vf', vo', vl', he, r, h1.then14 o2 (fun x hx h => (n1 x h).resolve_right (by omega)), fun x h => ?_⟩
  rcases n2 x h with h | h
  · exact n1 x h
  · exact .inr (by omega)

/-- What asked answers, and what it leaves. -/
def askN16 (G : Gv) (x : Int) : Bool := !G.knows || x != G.known
def askS16 (G : Gv) (x : Int) : Nat := if askN16 G x then 2 else if G.linked then 6 else 5
def askG16 (G : Gv) (x : Int) : Gv := if askN16 G x then { G with known := x, knows := true } else G

set_option maxRecDepth 100000 in
set_option maxHeartbeats 1000000 in
theorem asked16_any (x : Int) (w : World) (r : GAt w g G vf vo vl) :
    Calls Tryd.prog 92 #[.pointer (some ⟨g, 0, none⟩), .int .i64 x] w (GP16 g (askG16 G x) vf vo vl (.int .i64 (askS16 G x : Int)) w) := by
  have R := Lib.hid r
  have c4 := r.row.cell 4
  have c5 := r.row.cell 5
  have c8 := r.row.cell 8
  have f4 := r.row.soft 4
  have f5 := r.row.soft 5
  simp only [gvC, List.getElem?_cons_zero, List.getElem?_cons_succ] at c4 c5 c8
  have fin1 : askN16 G x = true → ∀ w', Only (· = g) w w' → Row w' g 99 (gvC { G with known := x, knows := true } vf vo vl) → GP16 g (askG16 G x) vf vo vl (.int .i64 (askS16 G x : Int)) w (.returned (.int .i64 2)) w' := fun h w' ho hr => by
    have e1 : askS16 G x = 2 := by unfold askS16; rw [h]; rfl
    have e2 : askG16 G x = { G with known := x, knows := true } := by unfold askG16; rw [if_pos h]
    rw [e1, e2]
    exact GP16.one R.out ho hr rfl rfl rfl
  have fin2 : askN16 G x = false → ∀ n : Nat, (if G.linked then 6 else 5) = n → GP16 g (askG16 G x) vf vo vl (.int .i64 (askS16 G x : Int)) w (.returned (.int .i64 (n : Int))) w := fun h n hn => by
    have e1 : askS16 G x = n := by unfold askS16; rw [h, ← hn]; rfl
    have e2 : askG16 G x = G := by unfold askG16; rw [h]; rfl
    rw [e1, e2]
    exact GP16.one R.out (Only.refl _ _) R.out.row rfl rfl rfl
  have F1 := Lib.hid fin1
  have F2 := Lib.hid fin2
  have hr1 : Row ((w.setCell ⟨g, 4, none⟩ (.int .i64 x)).setCell ⟨g, 5, none⟩ (.bool true)) g 99 (gvC { G with known := x, knows := true } vf vo vl) := (r.row.put 4 (.int .i64 x)).put 5 (.bool true)
  have HR1 := Lib.hid hr1
  clear r fin1 fin2 hr1
  cases hk : G.knows with
  | false =>
    rw [hk] at c5
    have HN : Hid (askN16 G x = true) := Lib.hid (by unfold askN16; rw [hk]; rfl)
    clear hk
    go_enter Tryd.func92, Tryd.ntmps92
    go_wp2
    go_ret
    exact F1.out HN.out _ ((only_put16 w g 4 _).put16 5 _) HR1.out
  | true =>
    rw [hk] at c5
    by_cases hx : x = G.known
    · have HN : Hid (askN16 G x = false) := Lib.hid (by unfold askN16; rw [hk]; simp [hx])
      have e0 : (x != G.known) = false := by simp [hx]
      clear hk hx
      cases hl : G.linked with
      | false =>
        rw [hl] at c8
        have HL := Lib.hid hl; clear hl
        go_enter Tryd.func92, Tryd.ntmps92
        go_wp2
        go_ret
        exact F2.out HN.out 5 (by rw [HL.out]; rfl)
      | true =>
        rw [hl] at c8
        have HL := Lib.hid hl; clear hl
        go_enter Tryd.func92, Tryd.ntmps92
        go_wp2
        go_ret
        exact F2.out HN.out 6 (by rw [HL.out]; rfl)
    · have HN : Hid (askN16 G x = true) := Lib.hid (by unfold askN16; rw [hk]; simpa using hx)
      have e0 : (x != G.known) = true := by simpa using hx
      clear hk hx
      go_enter Tryd.func92, Tryd.ntmps92
      go_wp2
      go_ret
      exact F1.out HN.out _ ((only_put16 w g 4 _).put16 5 _) HR1.out

/-- What judge answers, and what it leaves. -/
def judE16 (G : Gv) (x : Int) : Int := if x = G.known then G.res else 8
def judG16 (G : Gv) (x : Int) : Gv := if x = G.known ∧ G.res = 0 then { G with next := addW G.next 1 } else G

set_option maxRecDepth 100000 in
set_option maxHeartbeats 1000000 in
theorem judge16_any (x : Int) (w : World) (r : GAt w g G vf vo vl) :
    Calls Tryd.prog 97 #[.pointer (some ⟨g, 0, none⟩), .int .i64 x] w (GP16 g (judG16 G x) vf vo vl (.int .i64 (judE16 G x)) w) := by
  have R := Lib.hid r
  have c4 := r.row.cell 4
  have c11 := r.row.cell 11
  have c16 := r.row.cell 16
  have f11 := r.row.soft 11
  simp only [gvC, List.getElem?_cons_zero, List.getElem?_cons_succ] at c4 c11 c16
  have HR1 : Hid (Row (w.setCell ⟨g, 11, none⟩ (.int .i64 (addW G.next 1))) g 99 (gvC { G with next := addW G.next 1 } vf vo vl)) := Lib.hid (r.row.put 11 (.int .i64 (addW G.next 1)))
  have AD := Lib.hid (fun W => add_any G.next 1 W)
  clear r
  by_cases hx : x = G.known
  · have e0 : (x != G.known) = false := by simp [hx]
    by_cases h0 : G.res = 0
    · have HE : Hid (judE16 G x = 0 ∧ judG16 G x = { G with next := addW G.next 1 }) := Lib.hid ⟨by unfold judE16; rw [if_pos hx, h0], by unfold judG16; rw [if_pos ⟨hx, h0⟩]⟩
      have hcell : (w.setCell ⟨g, 11, none⟩ (.int .i64 (addW G.next 1))).cell? ⟨g, 16, none⟩ = some (.int .i64 0) := by rw [HR1.out.cell 16]; simp [gvC, h0]
      rw [h0] at c16
      clear hx h0
      go_enter Tryd.func97, Tryd.ntmps97
      go_wp2_with (go_at_call 102; refine (AD.out _).mono ?_; rintro e w' ⟨rfl, rfl⟩)
      go_ret
      rw [HE.out.1, HE.out.2]
      exact GP16.one R.out (only_put16 _ _ _ _) HR1.out rfl rfl rfl
    · have HE : Hid (judE16 G x = G.res ∧ judG16 G x = G) := Lib.hid ⟨by unfold judE16; rw [if_pos hx], by unfold judG16; rw [if_neg (fun h => h0 h.2)]⟩
      have e1 : (G.res == 0) = false := by simpa using h0
      clear hx h0
      go_enter Tryd.func97, Tryd.ntmps97
      go_wp2
      go_ret
      rw [HE.out.1, HE.out.2]
      exact GP16.one R.out (Only.refl _ _) R.out.row rfl rfl rfl
  · have e0 : (x != G.known) = true := by simpa using hx
    have HE : Hid (judE16 G x = 8 ∧ judG16 G x = G) := Lib.hid ⟨by unfold judE16; rw [if_neg hx], by unfold judG16; rw [if_neg (fun h => hx h.1)]⟩
    clear hx
    go_enter Tryd.func97, Tryd.ntmps97
    go_wp2
    go_ret
    rw [HE.out.1, HE.out.2]
    exact GP16.one R.out (Only.refl _ _) R.out.row rfl rfl rfl

/-- What take answers, and what it leaves. -/
def takB16 (G : Gv) : Bool := !G.free.isEmpty
def takG16 (G : Gv) : Gv := match G.free with | [] => G | d :: fs => { G with free := fs, out := G.out ++ [d] }

set_option maxRecDepth 100000 in
set_option maxHeartbeats 4000000 in
theorem take16_any (w : World) (r : GAt w g G vf vo vl) (hl : G.out.length ≤ 100) (hf : G.free.length ≤ 100) :
    Calls Tryd.prog 98 #[.pointer (some ⟨g, 0, none⟩)] w (GP16 g (takG16 G) vf vo vl (.bool (takB16 G)) w) := by
  obtain ⟨i0, hi0, hz0, hz1, hz2⟩ := info_parts int_info
  have R := Lib.hid r
  have c9 := r.row.cell 9
  have c10 := r.row.cell 10
  simp only [gvC, List.getElem?_cons_zero, List.getElem?_cons_succ] at c9 c10
  cases hfr : G.free with
  | nil =>
    have HE : Hid (takB16 G = false ∧ takG16 G = G) := Lib.hid ⟨by unfold takB16; rw [hfr]; rfl, by unfold takG16; rw [hfr]⟩
    obtain ⟨A, c, rfl⟩ := own_open14 r.free
    rw [hfr] at c9
    have hfl : G.free.length = 0 := by rw [hfr]; rfl
    clear r
    go_enter Tryd.func98, Tryd.ntmps98
    go_wp2
    go_ret
    rw [HE.out.1, HE.out.2]
    exact GP16.one R.out (Only.refl _ _) R.out.row rfl rfl rfl
  | cons d fs =>
    have HE : Hid (takB16 G = true ∧ takG16 G = { G with free := fs, out := G.out ++ [d] }) := Lib.hid ⟨by unfold takB16; rw [hfr]; rfl, by unfold takG16; rw [hfr]⟩
    obtain ⟨k, hk⟩ : ∃ k, fs.length = k := ⟨_, rfl⟩
    have hfk : G.free.length = k + 1 := by rw [hfr, List.length_cons, hk]
    have OF := r.free
    rw [hfk] at OF hf
    obtain ⟨b, cf, rfl, _, hblt⟩ := OF.form (by omega)
    have OF0 : w.cell? ⟨b, 0, none⟩ = some (.int .i64 d) := (OF.cellAt 0 (by omega)).trans (by rw [hfr]; rfl)
    obtain ⟨A, c, rfl⟩ := own_open14 r.out
    obtain ⟨n, hn⟩ : ∃ n, G.out.length = n := ⟨_, rfl⟩
    have OO := r.out
    rw [hn] at c10 R hl OO ⊢
    have HO := Lib.hid OO
    have HN := Lib.hid hn
    have HFR := Lib.hid hfr
    have hgl := r.row.lt
    have e1 : (((k + 1 : Nat) : Int) == 0) = false := by simp; omega
    have e2 : ((k : Int) + 1 == 0) = false := by simp; omega
    have e3 : (0 : Int) < (k : Int) + 1 := by omega
    have e4 : (0 : Int) < ((k + 1 : Nat) : Int) := by omega
    clear r hn hfr OF OO
    go_enter Tryd.func98, Tryd.ntmps98
    go_wp2
    go_region_law (refine app14_step _ rfl (.tmp 15) (.tmp 23) 33 rfl 0 3 i0 _ 1 8 Tryd.underlying33 hi0 hz0 hz1 hz2 rfl (by omega) _ _ _ rfl (own_quiet HO.out (fun x hx => (show Below w.heap.size w _ from by go_grown).block x (HO.out.lt x hx).2)) _ 1 1 [.int .i64 d] rfl rfl (cells_new14 _ _ _ _ (by simp)) (by intro q hq; simp at hq; subst hq; rfl) (by unfold maxLen; omega) (by omega) (by simp) ?_; intro v1 w1 hown1 hg1 hat1; obtain ⟨g', cap', rfl, hbg, hlt'⟩ := hown1.form (by omega); have HR1 := Lib.hid ((R.out.row.below (show Below w.heap.size w _ from by go_grown)).of_grown hg1 (fun e => R.out.og e.symm)); have hc1 := HR1.out.cell 10; simp only [gvC, List.getElem?_cons_zero, List.getElem?_cons_succ] at hc1; have hf1 := HR1.out.soft 10; have OG1 := Lib.hid ((Only.of_below (show Below w.heap.size w _ from by go_grown) (fun x => (Value.slice A n c).ownBlock = some x)).trans (Only.of_own hg1)); have HA1 : Hid (Value.ownBlock (.slice (some ⟨g', 0, none⟩) (n + 1) cap') = (Value.slice A n c).ownBlock ∨ ∃ x, Value.ownBlock (.slice (some ⟨g', 0, none⟩) (n + 1) cap') = some x ∧ w.heap.size ≤ x) := Lib.hid (hat1.imp id (fun e => ⟨_, e, by simp⟩)); have HO1 := Lib.hid hown1; clear hown1 hg1 hat1 HR1)
    all_goals
      have S2 := Lib.hid (R.out.setOut (xs := G.out ++ [d]) OG1.out (by rw [List.length_append, HN.out, ints_append]; exact HO1.out) HA1.out)
      obtain ⟨w2, hw2⟩ : ∃ w2, w2 = w1.setCell ⟨g, 10, none⟩ (.slice (some ⟨g', 0, none⟩) (n + 1) cap') := ⟨_, rfl⟩
      rw [← hw2] at S2 ⊢
      clear hc1 hf1 hw2
      have d9 := S2.out.1.row.cell 9
      have hf2 := S2.out.1.free
      have KD := Lib.hid (del16_any _ _ 0 0 1 rfl rfl w2 hf2 (by show 0 < G.free.length; omega) (by show G.free.length ≤ 65536; omega))
      simp only [gvC, List.getElem?_cons_zero, List.getElem?_cons_succ] at d9
      clear hf2
      go_wp2_with fail
      refine KD.out.mono ?_
      rintro e w3 ⟨v3, rfl, o3, hb3, ho3⟩
      have HR3 := Lib.hid (S2.out.1.row.only ho3 (fun e => S2.out.1.fg e))
      have hc3 := HR3.out.cell 9
      have hf3 := HR3.out.soft 9
      simp only [gvC, List.getElem?_cons_zero, List.getElem?_cons_succ] at hc3
      have e9 : (({ G with out := G.out ++ [d] } : Gv).free.eraseIdx 0) = fs := by show G.free.eraseIdx 0 = fs; rw [HFR.out]; rfl
      rw [e9] at o3
      have S3 := Lib.hid (S2.out.1.setFree ho3 o3 (.inl hb3))
      have o4 : w3.ownsRow 0 3 1 v3 k (ints fs) := by rw [← hk]; exact o3
      obtain ⟨A3, c3, rfl⟩ := own_open14 o4
      clear o4 e9
      clear o3 hb3 ho3
      go_wp2
      go_ret
      rw [HE.out.1, HE.out.2]
      obtain ⟨r3, oo3, n3⟩ := S3.out
      exact GP16.trans S2.out.2.1 S2.out.2.2 ⟨_, _, _, rfl, r3, oo3, n3⟩

/-- What regain leaves where the slot is out. -/
def regG16 (G : Gv) (x : Int) : Gv := { G with out := G.out.erase x, free := G.free ++ [x], tail := addW G.tail 1 }

theorem idx_erase {l : List Int} {x : Int} {k : Nat} (h : l[k]? = some x) (hn : NoneTo l x k) : l.eraseIdx k = l.erase x := by
  induction l generalizing k with
  | nil => simp at h
  | cons a l ih =>
    cases k with
    | zero =>
      simp only [List.getElem?_cons_zero, Option.some.injEq] at h
      subst h
      simp
    | succ k =>
      have ha : a ≠ x := fun e => hn 0 (by omega) (by rw [e]; rfl)
      rw [List.erase_cons_tail (by simpa using ha), List.eraseIdx_cons_succ, ih (by simpa using h) (fun j hj e => hn (j + 1) (by omega) (by simpa using e))]

set_option maxRecDepth 100000 in
set_option maxHeartbeats 1000000 in
theorem regain16_no (x : Int) (w : World) (r : GAt w g G vf vo vl) (hl : G.out.length ≤ 100) (hx : x ∉ G.out) :
    Calls Tryd.prog 96 #[.pointer (some ⟨g, 0, none⟩), .int .i64 x] w fun e w' => e = .returned (.bool false) ∧ w = w' := by
  have c10 := r.row.cell 10
  simp only [gvC, List.getElem?_cons_zero, List.getElem?_cons_succ] at c10
  have KI := Lib.hid (index16_any _ G.out _ x w (Lies.of_own r.out) (by omega))
  obtain ⟨A, c, rfl⟩ := own_open14 r.out
  have HX := Lib.hid hx
  clear r hx
  go_enter Tryd.func96, Tryd.ntmps96
  go_wp2_with fail
  refine KI.out.mono ?_
  rintro e w' ⟨⟨n, rfl, hn⟩, rfl⟩
  rcases hn with ⟨rfl, _⟩ | ⟨k, rfl, hk, _⟩
  · go_wp2
    go_ret
    exact ⟨rfl, rfl⟩
  · exact absurd (List.mem_of_getElem? hk) HX.out

set_option maxRecDepth 100000 in
set_option maxHeartbeats 4000000 in
theorem regain16_yes (x : Int) (w : World) (r : GAt w g G vf vo vl) (hl : G.out.length ≤ 100) (hf : G.free.length ≤ 100) (hx : x ∈ G.out) :
    Calls Tryd.prog 96 #[.pointer (some ⟨g, 0, none⟩), .int .i64 x] w (GP16 g (regG16 G x) vf vo vl (.bool true) w) := by
  obtain ⟨i0, hi0, hz0, hz1, hz2⟩ := info_parts int_info
  have c10 := r.row.cell 10
  simp only [gvC, List.getElem?_cons_zero, List.getElem?_cons_succ] at c10
  have KI := Lib.hid (index16_any _ G.out _ x w (Lies.of_own r.out) (by omega))
  have HDL := Lib.hid (fun (k : Nat) (hk : k < G.out.length) => del16_any vo G.out k (k : Int) ((k : Int) + 1) rfl rfl w r.out hk (by omega))
  obtain ⟨A, c, rfl⟩ := own_open14 r.out
  obtain ⟨Af, cf, rfl⟩ := own_open14 r.free
  obtain ⟨nf, hnf⟩ : ∃ n, G.free.length = n := ⟨_, rfl⟩
  have OFl := r.free
  have R := Lib.hid r
  rw [hnf] at hf OFl R ⊢
  have HNF := Lib.hid hnf
  have HX := Lib.hid hx
  have AD := Lib.hid (fun W => add_any G.tail 1 W)
  clear r hx hnf
  go_enter Tryd.func96, Tryd.ntmps96
  go_wp2_with fail
  refine KI.out.mono ?_
  rintro e w' ⟨⟨n, rfl, hn⟩, rfl⟩
  rcases hn with ⟨_, hn⟩ | ⟨k, rfl, hk, hno⟩
  · exact absurd HX.out hn
  have hkl := lt_of_at hk
  have hk0 : ¬ (k : Int) < 0 := by omega
  have KD := Lib.hid (HDL.out k hkl)
  have HE := Lib.hid (idx_erase hk hno)
  have hkw : IntKind.i64.wrap ((k : Int) + 1) = (k : Int) + 1 := IntWalk.i64_in _ (by omega)
  clear hk hno HDL OFl
  go_wp2_with fail
  refine KD.out.mono ?_
  rintro e w1 ⟨v1, rfl, o1, hb1, ho1⟩
  rw [HE.out] at o1
  have HR1 := Lib.hid (R.out.row.only ho1 (fun e => R.out.og e))
  have hc9 := HR1.out.cell 9
  have hc1 := HR1.out.cell 10
  have hf1 := HR1.out.soft 10
  simp only [gvC, List.getElem?_cons_zero, List.getElem?_cons_succ] at hc1 hc9
  have S1 := Lib.hid (R.out.setOut ho1 o1 (.inl hb1))
  obtain ⟨n1, hn1⟩ : ∃ n, (G.out.erase x).length = n := ⟨_, rfl⟩
  rw [hn1] at o1
  obtain ⟨A1, c1, rfl⟩ := own_open14 o1
  have hF2 := S1.out.1.free
  have hF3 : (w1.setCell ⟨g, 10, none⟩ (.slice A1 n1 c1)).ownsRow 0 3 1 (.slice Af nf cf) nf (ints G.free) := by rw [← HNF.out]; rw [← HNF.out] at hF2; exact hF2
  have HF := Lib.hid hF3
  clear o1 hb1 ho1 hF2 hF3
  go_wp2_with (first
    | (go_at_call 102; refine (AD.out _).mono ?_; rintro e w' ⟨rfl, rfl⟩)
    | (at_builtin; go_must ((refine app14_walk rfl (.tmp 33) (.tmp 35) 33 rfl 0 3 i0 _ 1 8 Tryd.underlying33 hi0 hz0 hz1 hz2 rfl (by omega) _ _ _ rfl (HF.out.alloc _) ⟨_, 0, none⟩ 1 1 [.int .i64 x] rfl rfl (cells_new14 _ _ _ _ (by simp [World.setCell])) (by intro u hu; simp at hu; subst hu; rfl) (by unfold maxLen; omega) (by omega) (by simp) ?_); intro v3 w3 hown3 hg3 hat3; obtain ⟨g', cap', rfl, hbg, hlt'⟩ := hown3.form (by omega); have HR3 := Lib.hid ((S1.out.1.row.below (below_al _ (.cells #[.int .i64 x] 3))).of_grown hg3 (fun e => S1.out.1.fg e.symm)); have hd9 := HR3.out.cell 9; have hd12 := HR3.out.cell 12; have hg9 := HR3.out.soft 9; have hg12 := HR3.out.soft 12; simp only [gvC, List.getElem?_cons_zero, List.getElem?_cons_succ] at hd9 hd12; have OG3 := Lib.hid ((Only.of_below (below_al (w1.setCell ⟨g, 10, none⟩ (.slice A1 n1 c1)) (.cells #[.int .i64 x] 3)) (fun y => (Value.slice Af nf cf).ownBlock = some y)).trans (Only.of_own hg3)); have HA3 : Hid (Value.ownBlock (.slice (some ⟨g', 0, none⟩) (nf + 1) cap') = (Value.slice Af nf cf).ownBlock ∨ ∃ y, Value.ownBlock (.slice (some ⟨g', 0, none⟩) (nf + 1) cap') = some y ∧ (w1.setCell ⟨g, 10, none⟩ (.slice A1 n1 c1)).heap.size ≤ y) := Lib.hid (hat3.imp id (fun e => ⟨_, e, by simp⟩)); have HO3 := Lib.hid hown3; clear hown3 hg3 hat3 hc9 hc1 hf1)))
  go_ret
  have S3 := S1.out.1.setFree (xs := G.free ++ [x]) OG3.out (by rw [List.length_append, HNF.out, ints_append]; exact HO3.out) HA3.out
  refine GP16.trans S1.out.2.1 S1.out.2.2 ⟨.slice (some ⟨g', 0, none⟩) (nf + 1) cap', .slice A1 n1 c1, vl, rfl, ?_, S3.2.1.trans ((only_put16 _ g 12 _).mono (fun _ _ h => .inl h)), S3.2.2⟩
  exact S3.1.turn (only_put16 _ g 12 _) (S3.1.row.put 12 _) rfl rfl rfl
end

#print axioms asked16_any
#print axioms judge16_any
#print axioms take16_any
end Go.Proofs.YtgdbaaoifnedbaaDoor
