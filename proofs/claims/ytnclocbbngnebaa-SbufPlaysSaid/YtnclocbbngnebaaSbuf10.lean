/-
  The walk of the law SbufPlays: it returns true for every input, and nothing that was there before the call changes.
  Conditions: none.
-/
import Derived.Test.YtnclocbbngnebaaSbuf9
import Derived.Test.YtnclocbbngnebaaArgs2
namespace Go.Proofs.Ytnclocbbngnebaa
open Go.ChangeShapes Go.WideShapes Go.ChangeAt Go.RowKit

/-- Blocks that are neither the buffer's nor R. -/
def Free (g : Nat) (h : Option Nat) (R : Nat) (b : Nat) : Prop := b ≠ g ∧ h ≠ some b ∧ b ≠ R

/-- The state of the law's loop: the buffer, the reference's buffer in block R, the call more in block B. -/
structure Play5 (w wr : World) (g : Nat) (h : Option Nat) (N R B : Nat) (q : List (Int × Int)) (A : Option Addr) (n c : Nat) (K a b : Int) : Prop where
  buf : BufQ wr g h N q
  row : Row wr R 33 [.int .i64 N, .slice A n c]
  two : Two wr (Free g h R) (.slice A n c) (sts q)
  cap : CapOk (.slice A n c)
  more : Row wr B 26 [.int .i64 K, .int .i64 a, .int .i64 b]
  below : Below w.heap.size w wr
  ne : R ≠ g ∧ B ≠ g ∧ B ≠ R
  neh : ∀ x, h = some x → x ≠ R ∧ x ≠ B
  new : w.heap.size ≤ g ∧ w.heap.size ≤ R
  newh : ∀ x, h = some x → w.heap.size ≤ x

/-- The world behind the store of the reference's buffer into its variable. -/
def stored5 (w2 : World) (R : Nat) (u0 u1 : Value) (o1 o2 : Obj) : World := (((w2.setCell ⟨R, 0, none⟩ u0).setCell ⟨R, 1, none⟩ u1).alloc o1).alloc o2

theorem stored5_only (w2 : World) (R : Nat) (u0 u1 : Value) (o1 o2 : Obj) : Only (fun b => b = R) w2 (stored5 w2 R u0 u1 o1 o2) := by
  unfold stored5
  exact ((((Only.refl (fun b => b = R) w2).setCell (p := ⟨R, 0, none⟩) (.inl rfl) u0).setCell (p := ⟨R, 1, none⟩) (.inl rfl) u1).alloc o1).alloc o2

theorem stored5_size (w2 : World) (R : Nat) (u0 u1 : Value) (o1 o2 : Obj) : (stored5 w2 R u0 u1 o1 o2).heap.size = w2.heap.size + 1 + 1 := by simp [stored5, World.setCell]

theorem stored5_new (w2 : World) (R : Nat) (u0 u1 x y : Value) (t : TypeId) (o1 : Obj) : Row (stored5 w2 R u0 u1 o1 (.cells #[x, y] t)) (w2.heap.size + 1) t [x, y] := by
  have h := Row.new (((w2.setCell ⟨R, 0, none⟩ u0).setCell ⟨R, 1, none⟩ u1).alloc o1) t #[x, y]
  simpa [stored5, World.setCell] using h

section
variable {w wr w2 w4 : World} {g : Nat} {h h' : Option Nat} {N R B : Nat} {q q' : List (Int × Int)} {A A2 : Option Addr} {n c n2 c2 : Nat} {K a b : Int} {o1 o2 : Obj}

theorem Play5.quiet (s : Play5 w wr g h N R B q A n c K a b) (hb : Below wr.heap.size wr w2) : Play5 w w2 g h N R B q A n c K a b :=
  ⟨s.buf.below hb, s.row.below hb, s.two.below hb, s.cap, s.more.below hb, below_on s.below hb, s.ne, s.neh, s.new, s.newh⟩

theorem Play5.mid (s : Play5 w w2 g h N R B q A n c K a b) (u0 u1 : Value) (o1 o2 : Obj) : BufQ (stored5 w2 R u0 u1 o1 o2) g h N q :=
  s.buf.only (stored5_only _ _ _ _ _ _) (fun e => s.ne.1 e.symm) (fun x hx e => (s.neh x hx).1 e)

theorem Play5.step (s : Play5 w w2 g h N R B q A n c K a b) (hv : Two w2 (Free g h R) (.slice A2 n2 c2) (sts q')) (hcap : CapOk (.slice A2 n2 c2)) (r : BufQ w4 g h' N q')
    (ho : Only (fun b => b = g ∨ h = some b) (stored5 w2 R (.int .i64 N) (.slice A2 n2 c2) o1 o2) w4) (hh : ∀ x, h' = some x → h = some x ∨ (stored5 w2 R (.int .i64 N) (.slice A2 n2 c2) o1 o2).heap.size ≤ x) :
    Play5 w w4 g h' N R B q' A2 n2 c2 K a b := by
  have hO := stored5_only w2 R (.int .i64 N) (.slice A2 n2 c2) o1 o2
  have hr : Row (stored5 w2 R (.int .i64 N) (.slice A2 n2 c2) o1 o2) R 33 [.int .i64 N, .slice A2 n2 c2] := by
    have h1 := (((s.row.put 0 (.int .i64 N)).put 1 (.slice A2 n2 c2)).below (below_al _ o1)).below (below_al _ o2)
    simp only [List.set_cons_succ, List.set_cons_zero] at h1
    exact h1
  have hn := s.ne
  have hw := s.new
  have hrl := s.row.lt
  have hml := s.more.lt
  have hbs := s.below.size
  have hRn : ¬ (R = g ∨ h = some R) := by
    rintro (e | e)
    · exact hn.1 e
    · exact (s.neh R e).1 rfl
  have hBn : ¬ (B = g ∨ h = some B) := by
    rintro (e | e)
    · exact hn.2.1 e
    · exact (s.neh B e).2 rfl
  rw [stored5_size] at hh
  refine ⟨r, hr.only ho hRn, ?_, hcap, (s.more.only hO hn.2.2).only ho hBn, ?_, s.ne, fun x hx => ?_, s.new, fun x hx => ?_⟩
  · have h1 : Two (stored5 w2 R (.int .i64 N) (.slice A2 n2 c2) o1 o2) (fun b => Free g h R b ∧ Free g h' R b) (.slice A2 n2 c2) (sts q') := by
      refine (hv.weak (Q := fun b => Free g h R b ∧ Free g h' R b) (fun x hx hp => ⟨hp, hp.1, fun e => ?_, hp.2.2⟩)).only hO (fun x e hp => hp.1.2.2 e)
      rcases hh x e with e | e
      · exact hp.2.1 e
      · omega
    exact (h1.only ho (fun x e hp => by rcases e with e | e; exact hp.1.1 e; exact hp.1.2.1 e)).weak (fun _ _ hp => hp.2)
  · exact Only.below (Only.below s.below hO s.below.size (fun x hx e => by omega)) ho (Nat.le_trans s.below.size hO.size) (fun x hx e => by rcases e with e | e; omega; have := s.newh x e; omega)
  · rcases hh x hx with e | e
    · exact s.neh x e
    · exact ⟨by omega, by omega⟩
  · rcases hh x hx with e | e
    · exact s.newh x e
    · omega
end

theorem neq_same (x y : Int) (W : World) : (binOp .neq 24 (.agg #[.int .i64 x, .int .i64 y]) (.agg #[.int .i64 x, .int .i64 y])).run Try.prog W = .ok (.bool false) W := by
  rw [neq_st]; simp
theorem eql_same (x y : Int) (W : World) : (binOp .eql 24 (.agg #[.int .i64 x, .int .i64 y]) (.agg #[.int .i64 x, .int .i64 y])).run Try.prog W = .ok (.bool true) W := by
  rw [eql_st]; simp

set_option maxHeartbeats 2000000 in
theorem sbufPlays_main (N : Nat) (v : Value) (R : List (List Int)) (K' a' b' : Int) (w : World) (hN0 : 1 ≤ N) (hN1 : N ≤ 16) (hR : Recs w 3 v R) (hm : R.length ≤ 100) :
    Calls Try.prog 3 #[.int .i64 (N : Int), v, opV5 K' a' b'] w fun e w' => e = .returned (.bool true) ∧ Below w.heap.size w w' := by
  have HR := Lib.hid hR
  obtain ⟨A, c, rfl, hA⟩ := hR
  clear hA
  obtain ⟨m, hm'⟩ : ∃ m, R.length = m := ⟨_, rfl⟩
  rw [hm'] at hm HR ⊢
  have HM := Lib.hid hm'; clear hm'
  have g3 : ¬ (100 < (m : Int)) := by omega
  unfold opV5
  go_enter Try.func3, Try.ntmps3
  go_wp2_with fail
  refine (bufNew_yes N _ hN0 hN1).mono ?_
  rintro e w1 ⟨g, rfl, r1, hg1, hb1⟩
  unfold ptr
  go_wp2_with fail
  refine (ris5_yes _ _ (by omega) (by omega)).mono ?_
  rintro e w' ⟨rfl, rfl⟩
  have hf1 := r1.fit
  simp at hg1
  have hs1 := hb1.size
  simp at hs1
  have h0 : Play5 w (w1.alloc (.cells #[.int .i64 N, .slice none 0 0] 33)) g none N w1.heap.size w.heap.size [] none 0 0 K' a' b' :=
    ⟨r1.below (below_al _ _), Row.new w1 _ #[.int .i64 N, .slice none 0 0], Two.nil_ _ _, rfl, ((Row.new w 26 #[.int .i64 K', .int .i64 a', .int .i64 b']).below hb1).below (below_al _ _),
      below_on (below_on (below_al _ _) hb1) (below_al _ _), by omega, fun x hx => (by cases hx), by omega, fun x hx => (by cases hx)⟩
  have H0 := Lib.hid h0
  obtain ⟨R0, hR0⟩ : ∃ R0, w1.heap.size = R0 := ⟨_, rfl⟩
  rw [hR0] at H0
  clear h0 r1 hg1 hb1 hf1 hs1
  go_wp2
  clear hR0
  go_loopw [42] (fun i wr => ∃ (k : Nat) (h : Option Nat) (q : List (Int × Int)) (A : Option Addr) (n c : Nat), k ≤ m ∧ i = .int .i64 k ∧ Hid (Play5 w wr g h N R0 w.heap.size q A n c K' a' b')) (fun i _ => m - (intOf i).toNat)
  case atStart => exact ⟨0, none, [], none, 0, 0, Nat.zero_le _, rfl, H0⟩
  case round =>
    clear H0
    obtain ⟨k, h, q, A0, n0, c0, hk, rfl, S⟩ := hrel
    by_cases hlt : k < m
    · obtain ⟨ad, c', K, a, b, hzs, hv', hz, z0, z1, z2, hadl⟩ := Recs.three HR.out S.out.below (by rw [HM.out]; exact hlt)
      rw [HM.out] at hv'
      injection hv' with hv' _ hv2
      subst hv' hv2
      clear hzs hz
      have S1 := Lib.hid (S.out.quiet (below_al wr (.cells #[.int .i64 K, .int .i64 a, .int .i64 b] 26)))
      have hsz := S.out.below.size
      have hR0 := S.out.row.lt
      have f0 := S.out.row.cell 0
      have f1 := S.out.row.cell 1
      simp only [List.getElem?_cons_zero, List.getElem?_cons_succ] at f0 f1
      have hfit := S.out.buf.fit
      have hnew := S.out.new
      go_wp2_with fail
      refine (rdo5_any _ N _ q K a b _ S1.out.two S1.out.cap hfit.1 hN1 (fun x hx => by simp at hx; exact ⟨by omega, fun e => (by have := (hfit.2.2.2.2.1 x e).1; omega), by omega⟩)).mono ?_
      rintro e w2 ⟨v2, rfl, hv2, hcap2, hb2⟩
      obtain ⟨A2, n2, c2, rfl, HN2, HV2⟩ := hv2.open_
      have hsz2 := hb2.size
      simp at hsz2
      have S2 := Lib.hid (S1.out.quiet hb2)
      have t0 := S2.out.row.cell 0
      have t1 := S2.out.row.cell 1
      have y0 := S2.out.row.soft 0
      have y1 := S2.out.row.soft 1
      simp only [List.getElem?_cons_zero, List.getElem?_cons_succ] at t0 t1
      have ro := (Row.new wr 26 #[.int .i64 K, .int .i64 a, .int .i64 b]).below hb2
      have o0 := ro.cell 0
      have o1 := ro.cell 1
      have o2 := ro.cell 2
      simp only [List.getElem?_cons_zero, List.getElem?_cons_succ] at o0 o1 o2
      have x1 : w2.heap.size ≠ R0 := by omega
      have x2 : R0 < w2.heap.size := by omega
      have x3 : wr.heap.size < w2.heap.size := by omega
      have x4 : wr.heap.size ≠ R0 := by omega
      have x5 : R0 ≠ wr.heap.size := by omega
      have x6 : w2.heap.size + 1 ≠ R0 := by omega
      obtain ⟨X, hX⟩ : ∃ X, doX5 q K a = X := ⟨_, rfl⟩
      obtain ⟨F, hF⟩ : ∃ F, doF5 N q K a b = F := ⟨_, rfl⟩
      have dd := Lib.hid (fun u0 u1 o1 o2 => do5_any g h N q K a b _ (S2.out.mid u0 u1 o1 o2))
      rw [hX, hF] at dd
      rw [hX, hF]
      have ex := neq_same X.1 X.2
      have ef : (F != F) = false := by simp
      clear f0 f1 z0 z1 z2 hv2 S S1 hb2 ro hX hF
      unfold rbufV stV
      unfold ptr opV5 stV at dd
      go_wp2_with fail
      refine (dd.out _ _ _ _).mono ?_
      rintro e w4 ⟨h', rfl, r4, ho4, hh4⟩
      have hfl := hfit.2.2.2.2.1
      have rx := (stored5_new w2 R0 (.int .i64 N) (.slice A2 n2 c2) (.int .i64 X.1) (.int .i64 X.2) 24 (.cells #[.int .i64 N, .slice A2 n2 c2] 33)).only ho4 (by rintro (e | e); omega; have := (hfl _ e).1; omega)
      have S4 := Lib.hid (S2.out.step HV2.out hcap2 r4 ho4 hh4)
      have q0 := S4.out.row.cell 0
      have q1 := S4.out.row.cell 1
      have p0 := rx.cell 0
      have p1 := rx.cell 1
      have p2 := rx.lt
      have hR4 := S4.out.row.lt
      simp only [List.getElem?_cons_zero, List.getElem?_cons_succ] at q0 q1 p0 p1
      have S5 := Lib.hid (fun o => S4.out.quiet (below_al w4 o))
      have lk := Lib.hid (fun o => like_yes g h' N _ _ _ _ (S5.out o).buf (S5.out o).two)
      unfold ptr rbufV at lk
      have m1 : w4.heap.size ≠ R0 := by omega
      have m2 : w4.heap.size ≠ w2.heap.size + 1 := by omega
      have m3 : R0 ≠ w4.heap.size := by omega
      have m4 : w2.heap.size + 1 ≠ w4.heap.size := by omega
      clear t0 t1 y0 y1 o0 o1 o2 x1 x2 x3 x4 x5 x6 S2 HV2 r4 ho4 hh4 hcap2 hsz2 rx dd
      go_wp2_with fail
      refine (lk.out _).mono ?_
      rintro e w6 ⟨rfl, hb6⟩
      have S6 := Lib.hid ((S5.out _).quiet hb6)
      clear S4 S5 lk hb6 q0 q1 p0 p1
      go_wp2
      go_roundw
      case rel => exact ⟨k + 1, _, _, _, _, _, by omega, by go_num, S6⟩
      case measure => simp [intOf]; omega
    · obtain rfl : k = m := by omega
      have cl := Lib.hid (bclone_any g h N q _ S.out.buf)
      unfold ptr at cl
      go_wp2_with fail
      refine cl.out.mono ?_
      rintro e w2 ⟨g', h'', rfl, r2, hg2, hh2, hb2⟩
      unfold ptr
      have hfit := S.out.buf.fit
      have hfl := hfit.2.2.2.2.1
      have hnew := S.out.new
      have hnewh := S.out.newh
      have hsz := S.out.below.size
      have hRl := S.out.row.lt
      have hBl := S.out.more.lt
      have hne := S.out.ne
      have S2 := Lib.hid (S.out.quiet hb2)
      have L2 := Lib.hid ((S.out.two.weak (Q := fun b => b ≠ g' ∧ h'' ≠ some b) (fun x hx _ => ⟨by omega, fun e => by have := hh2 x e; omega⟩)).below hb2)
      have t0 := S2.out.row.cell 0
      have t1 := S2.out.row.cell 1
      have z0 := S2.out.more.cell 0
      have z1 := S2.out.more.cell 1
      have z2 := S2.out.more.cell 2
      simp only [List.getElem?_cons_zero, List.getElem?_cons_succ] at t0 t1 z0 z1 z2
      have hr2 := r2.fit
      have hrl2 := hr2.2.2.2.2.1
      have hs2 := hb2.size
      clear cl S hb2
      go_wp2_with fail
      refine (rdo5_any _ N _ q K' a' b' _ L2.out S2.out.cap hfit.1 hN1 (fun x hx => ⟨by omega, fun e => by have := (hrl2 x e).1; omega⟩)).mono ?_
      rintro e w3 ⟨v3, rfl, hv3, hcap3, hb3⟩
      obtain ⟨A3, n3, c3, rfl, HN3, HV3⟩ := hv3.open_
      have S3 := Lib.hid (S2.out.quiet hb3)
      have r3 := Lib.hid (r2.below hb3)
      have L3 := Lib.hid (L2.out.below hb3)
      have y0 := S3.out.more.cell 0
      have y1 := S3.out.more.cell 1
      have y2 := S3.out.more.cell 2
      simp only [List.getElem?_cons_zero, List.getElem?_cons_succ] at y0 y1 y2
      have hs3 := hb3.size
      obtain ⟨X, hX⟩ : ∃ X, doX5 q K' a' = X := ⟨_, rfl⟩
      obtain ⟨F, hF⟩ : ∃ F, doF5 N q K' a' b' = F := ⟨_, rfl⟩
      have dd := Lib.hid (fun o1 o2 => do5_any g' h'' N q K' a' b' _ ((r3.out.below (below_al w3 o1)).below (below_al _ o2)))
      rw [hX, hF] at dd
      rw [hX, hF]
      have ex := eql_same X.1 X.2
      have ef : (F == F) = true := by simp
      have x3 : w.heap.size < w3.heap.size := by omega
      have x4 : w3.heap.size ≠ w.heap.size := by omega
      have x5 : w.heap.size ≠ w3.heap.size := by omega
      unfold rbufV stV
      unfold ptr opV5 stV at dd
      clear t0 t1 z0 z1 z2 L2 S2 hv3 r2 hb3 hcap3 hX hF
      go_wp2_with fail
      refine (dd.out _ _).mono ?_
      rintro e w5 ⟨h3, rfl, r5, ho5, hh5⟩
      have hB4 : Below w3.heap.size w3 ((w3.alloc (.cells #[.int .i64 N, .slice A3 n3 c3] 33)).alloc (.cells #[.int .i64 X.1, .int .i64 X.2] 24)) := below_on (below_al _ _) (below_al _ _)
      have hno : ∀ x, (x < wr.heap.size ∨ w3.heap.size ≤ x) → ¬ (x = g' ∨ h'' = some x) := by
        rintro x hx (e | e)
        · omega
        · have := hh2 x e
          have := (hrl2 x e).1
          omega
      have rv := ((Row.new w3 33 #[.int .i64 N, .slice A3 n3 c3]).below (below_al _ (.cells #[.int .i64 X.1, .int .i64 X.2] 24))).only ho5 (hno _ (.inr (Nat.le_refl _)))
      have rx0 := Row.new (w3.alloc (.cells #[.int .i64 N, .slice A3 n3 c3] 33)) 24 #[.int .i64 X.1, .int .i64 X.2]
      rw [World.size_alloc] at rx0
      have rx := rx0.only ho5 (hno _ (.inr (by omega)))
      have buf5 := (S3.out.buf.below hB4).only ho5 (hno g (.inl hfit.2.2.2.1)) (fun x hx => hno x (.inl (hfl x hx).1))
      have row5 := (S3.out.row.below hB4).only ho5 (hno R0 (.inl hRl))
      have two5 := (L3.out.below hB4).only ho5 (fun x e hp => by rcases e with e | e; exact hp.1 e; exact hp.2 e)
      have hv5 := (HV3.out.below hB4).only ho5 (fun x e hp => by rcases e with e | e; exact hp.1 e; exact hp.2 e)
      have HB5 := Lib.hid (Only.below (below_on S3.out.below hB4) ho5 (by have := (below_on S3.out.below hB4).size; omega) (fun x hx => hno x (.inl (by omega))))
      have u0 := rv.cell 0
      have u1 := rv.cell 1
      have p0 := rx.cell 0
      have p1 := rx.cell 1
      simp only [List.getElem?_cons_zero, List.getElem?_cons_succ] at u0 u1 p0 p1
      have hl1 := rx.lt
      have hl2 := row5.lt
      have hl3 : w3.heap.size < w5.heap.size := by omega
      have m1 : w5.heap.size ≠ w3.heap.size := by omega
      have m2 : w3.heap.size ≠ w5.heap.size := by omega
      have m3 : w5.heap.size ≠ w3.heap.size + 1 := by omega
      have m4 : w3.heap.size + 1 ≠ w5.heap.size := by omega
      have lk := Lib.hid (fun o => like_yes g' h3 N _ _ _ _ (r5.below (below_al w5 o)) (hv5.below (below_al w5 o)))
      unfold ptr rbufV at lk
      have BF := Lib.hid buf5
      have RW := Lib.hid row5
      have TW := Lib.hid two5
      clear rv rx0 rx buf5 row5 two5 hv5 r5 ho5 hh5 dd S3 r3 L3 HV3 y0 y1 y2 hB4 hno x3 x4 x5
      go_wp2_with fail
      refine (lk.out _).mono ?_
      rintro e w6 ⟨rfl, hb6⟩
      have hb56 := Lib.hid (below_on (below_al w5 (.cells #[.int .i64 X.1, .int .i64 X.2] 24)) hb6)
      have row6 := RW.out.below hb56.out
      have s0 := row6.cell 0
      have s1 := row6.cell 1
      simp only [List.getElem?_cons_zero, List.getElem?_cons_succ] at s0 s1
      have lk2 := Lib.hid (like_yes g h N _ _ _ _ (BF.out.below hb56.out) (TW.out.below hb56.out))
      unfold ptr rbufV at lk2
      clear row6 lk hb6 u0 u1 p0 p1
      go_wp2_with fail
      refine lk2.out.mono ?_
      rintro e w7 ⟨rfl, hb7⟩
      go_wp2_with fail
      refine (sbuf_alive _).mono ?_
      rintro e w8 ⟨rfl, hb8⟩
      go_wp2
      go_ret
      exact ⟨rfl, below_on (below_on (below_on HB5.out hb56.out) hb7) hb8⟩

set_option maxHeartbeats 800000 in
theorem sbufPlays_any (n : Int) (v : Value) (R : List (List Int)) (K a b : Int) (w : World) (hR : Recs w 3 v R) (hm : R.length ≤ maxLen) :
    Calls Try.prog 3 #[.int .i64 n, v, opV5 K a b] w fun e w' => e = .returned (.bool true) ∧ Below w.heap.size w w' := by
  unfold maxLen at hm
  have al := fun W => Lib.hid (sbuf_alive W)
  by_cases h1 : 100 < R.length
  · obtain ⟨A, c, rfl, hA⟩ := hR
    clear hA
    have h1' : (100 : Int) < (R.length : Int) := by omega
    unfold opV5
    go_enter Try.func3, Try.ntmps3
    go_wp2_with (go_at_call 6; refine (al _).out.mono ?_; rintro e w3 ⟨rfl, hb3⟩)
    go_ret
    exact ⟨rfl, below_on (below_al _ _) hb3⟩
  · by_cases h3 : n < 1 ∨ 16 < n
    · obtain ⟨A, c, rfl, hA⟩ := hR
      clear hA
      have h1' : ¬ ((100 : Int) < (R.length : Int)) := by omega
      have nw := fun W => Lib.hid (bufNew_no n W h3)
      have is := fun W => Lib.hid (ris5_no n W h3)
      clear h3
      unfold opV5
      go_enter Try.func3, Try.ntmps3
      go_wp2_with (first
        | (go_at_call 7; refine (nw _).out.mono ?_; rintro e w' ⟨rfl, rfl⟩)
        | (go_at_call 8; refine (is _).out.mono ?_; rintro e w' ⟨rfl, rfl⟩)
        | (go_at_call 6; refine (al _).out.mono ?_; rintro e w3 ⟨rfl, hb3⟩))
      go_ret
      exact ⟨rfl, below_on (below_al _ _) hb3⟩
    · obtain ⟨N, rfl⟩ := Int.eq_ofNat_of_zero_le (show 0 ≤ n by omega)
      exact sbufPlays_main N v R K a b w (by omega) (by omega) hR (by omega)

#print axioms sbufPlays_any
end Go.Proofs.Ytnclocbbngnebaa
