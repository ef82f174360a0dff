/-
  The walk of the law GrantPlays: it returns true for every input, and nothing that was there before the call changes.
  Conditions: none.
-/
import Derived.Test.YtikndnagflpckaaRGr3
import Derived.Test.YtikndnagflpckaaArgs2
namespace Go.Proofs.Ytikndnagflpckaa
open Go.ChangeShapes Go.WideShapes Go.ChangeAt Go.RowKit

theorem Recs.two15 {w wr : World} {v : Value} {recs : List (List Int)} {k : Nat} (h : Recs w 2 v recs) (hb : Below w.heap.size w wr) (hk : k < recs.length) :
    ∃ (ad : Addr) (c : Nat) (K x : Int), recs[k]? = some [K, x] ∧ v = .slice (some ad) recs.length c ∧
      wr.cell? (ad.add (k * 2)) = some (.int .i64 K) ∧ wr.cell? ⟨(ad.add (k * 2)).block, (ad.add (k * 2)).off + 1, none⟩ = some (.int .i64 x) ∧ ad.block < wr.heap.size := by
  obtain ⟨A, c, rfl, hA⟩ := h.below hb
  obtain ⟨ad, rfl, hlt, hc⟩ := hA (by omega)
  obtain ⟨zs, hzs⟩ : ∃ z, recs[k]? = some z := ⟨_, List.getElem?_eq_getElem hk⟩
  obtain ⟨h2, hz, hcell⟩ := hc k zs hzs
  obtain ⟨K, x, rfl⟩ := list2 h2
  have c0 := hcell 0 (.int .i64 K) rfl
  have c1 := hcell 1 (.int .i64 x) rfl
  refine ⟨ad, c, K, x, hzs, rfl, ?_, ?_, hlt⟩
  · rw [← c0]
    congr 1
  · rw [← c1]
    congr 1

/-- The state of the law's loop: the table, the reference's table, the call more in block B. -/
structure Play15 (w wr : World) (g B : Nat) (l : List (Int × Bool)) (A : Option Addr) (n c : Nat) (K x : Int) : Prop where
  tab : GrAt wr g l
  ref : RTab wr (fun b => b ≠ g ∧ b ≠ B) l (.slice A n c)
  more : Row wr B 24 [.int .i64 K, .int .i64 x]
  below : Below w.heap.size w wr
  new : w.heap.size ≤ g ∧ B ≠ g ∧ w.heap.size ≤ B
theorem Play15.quiet {w wr w2 : World} {g B : Nat} {l : List (Int × Bool)} {A : Option Addr} {n c : Nat} {K x : Int} (s : Play15 w wr g B l A n c K x) (hb : Below wr.heap.size wr w2) : Play15 w w2 g B l A n c K x :=
  ⟨s.tab.below hb, s.ref.below hb, s.more.below hb, below_on s.below hb, s.new⟩
theorem Play15.step {w w2 w4 : World} {g B : Nat} {l l' : List (Int × Bool)} {A A2 : Option Addr} {n c n2 c2 : Nat} {K x : Int} (s : Play15 w w2 g B l A n c K x) (hv : RTab w2 (fun b => b ≠ g ∧ b ≠ B) l' (.slice A2 n2 c2)) (r : GrAt w4 g l') (ho : Only (· = g) w2 w4) : Play15 w w4 g B l' A2 n2 c2 K x :=
  ⟨r, hv.only ho (fun _ e hp => hp.1 e), s.more.only ho s.new.2.1, below_tab15 s.below s.new.1 ho, s.new⟩
/-- What holds behind stores into a block that is newer than what was known. -/
theorem Play15.since {w wr w2 w3 : World} {g B q : Nat} {l : List (Int × Bool)} {A : Option Addr} {n c : Nat} {K x : Int} (s : Play15 w wr g B l A n c K x) (hb : Below wr.heap.size wr w2) (ho : Only (· = q) w2 w3) (hq : wr.heap.size ≤ q) : Play15 w w3 g B l A n c K x :=
  s.quiet (Only.below hb ho hb.size (fun b hbb e => by omega))
/-- The call more is rewritten. -/
theorem Play15.turn {w wr w2 : World} {g B : Nat} {l : List (Int × Bool)} {A : Option Addr} {n c : Nat} {K x K' x' : Int} (s : Play15 w wr g B l A n c K x) (ho : Only (· = B) wr w2) (hr : Row w2 B 24 [.int .i64 K', .int .i64 x']) : Play15 w w2 g B l A n c K' x' :=
  ⟨s.tab.only ho (fun e => s.new.2.1 e.symm), s.ref.only ho (fun _ e hp => hp.2 e), hr, Only.below s.below ho s.below.size (fun b hb e => by have := s.new.2.2; omega), s.new⟩

theorem kN15_no {K : Int} (h : K ≠ 3) : kN15 K = K := if_neg h
theorem xN15_no {l : List (Int × Bool)} {K x : Int} (h : K ≠ 3) : xN15 l K x = x := if_neg h
theorem kN15_yes {K : Int} (h : K = 3) : kN15 K = 1 := if_pos h
theorem xN15_yes {l : List (Int × Bool)} {K x : Int} (h : K = 3) : xN15 l K x = hanL15 l x := if_pos h

/-- Two lists of their own, of the same numbers, are the same. -/
theorem OwnP15.same {xs : List Int} {v u : Value} {w2 w3 : World} {b1 b2 : Nat} (h1 : w2.ownsRow b1 3 1 v xs.length (ints xs)) (hb : Below w2.heap.size w2 w3) (h2 : w3.ownsRow b2 3 1 u xs.length (ints xs)) (hx : xs.length ≤ 65536) :
    Calls Try.prog 13 #[v, u] w3 fun e w' => e = .returned (.bool true) ∧ Below w3.heap.size w3 w' :=
  rsame_yes _ _ v u xs w3 ((Lies.of_own h1).below hb) (Lies.of_own h2) hx

theorem made15 (C : Nat) (w : World) : RTab (w.alloc (.cells (madeCells #[.int .i64 0, .bool false] (C * 2)) 55)) (fun b => w.heap.size ≤ b) (new15 C) (.slice (some ⟨w.heap.size, 0, none⟩) C C) := by
  refine ⟨⟨_, C, by rw [rp15_len]; simp [new15], fun _ => ⟨w.heap.size, 0, rfl, Nat.le_refl _, by simp, fun j u hu => ?_⟩⟩, Nat.le_refl _⟩
  have hj : j < C * 2 := by have := (List.getElem?_eq_some_iff.1 hu).1; rw [flat_len, rp15_len] at this; simpa [new15] using this
  have hi : j / 2 < C := by omega
  have h0 := made_at #[.int .i64 0, .bool false] 2 C (j / 2) (j % 2) rfl hi (by omega)
  have e : j / 2 * 2 + j % 2 = j := by omega
  rw [e] at h0
  rw [Nat.zero_add, Row.cell (Row.new w 55 _) j, h0, ← hu]
  have hr := flat_at (rp15_at (l := new15 C) (k := j / 2) (e := 0) (b := false) (by simp [new15, hi]))
  rcases Nat.mod_two_eq_zero_or_one j with hm | hm
  · rw [hm]
    have : (flat (rp15 (new15 C)))[j]? = (flat (rp15 (new15 C)))[j / 2 * 2]? := congrArg (fun i => (flat (rp15 (new15 C)))[i]?) (by omega)
    rw [this, hr.1]
    rfl
  · rw [hm]
    have : (flat (rp15 (new15 C)))[j]? = (flat (rp15 (new15 C)))[j / 2 * 2 + 1]? := congrArg (fun i => (flat (rp15 (new15 C)))[i]?) (by omega)
    rw [this, hr.2]
    rfl

/-- The memory behind the clone: both tables, the reference's table, the call more. -/
structure Mid15 (w wr : World) (g g' B : Nat) (l l' : List (Int × Bool)) (v v' : Value) (K x : Int) : Prop where
  one : GrAt wr g l
  two : GrAt wr g' l
  ref : RTab wr (fun b => b ≠ g' ∧ b ≠ g ∧ b ≠ B) l v
  ref' : RTab wr (fun b => b ≠ g' ∧ b ≠ g ∧ b ≠ B) l' v'
  more : Row wr B 24 [.int .i64 K, .int .i64 x]
  below : Below w.heap.size w wr
  new : w.heap.size ≤ g ∧ w.heap.size ≤ g' ∧ w.heap.size ≤ B ∧ g ≠ g' ∧ g ≠ B ∧ g' ≠ B
theorem Mid15.quiet {w wr w2 : World} {g g' B : Nat} {l l' : List (Int × Bool)} {v v' : Value} {K x : Int} (s : Mid15 w wr g g' B l l' v v' K x) (hb : Below wr.heap.size wr w2) : Mid15 w w2 g g' B l l' v v' K x :=
  ⟨s.one.below hb, s.two.below hb, s.ref.below hb, s.ref'.below hb, s.more.below hb, below_on s.below hb, s.new⟩
theorem Mid15.turn {w wr w2 : World} {g g' B : Nat} {l l' : List (Int × Bool)} {v v' : Value} {K x K' x' : Int} (s : Mid15 w wr g g' B l l' v v' K x) (ho : Only (· = B) wr w2) (hr : Row w2 B 24 [.int .i64 K', .int .i64 x']) : Mid15 w w2 g g' B l l' v v' K' x' :=
  ⟨s.one.only ho s.new.2.2.2.2.1, s.two.only ho s.new.2.2.2.2.2, s.ref.only ho (fun _ e hp => hp.2.2 e), s.ref'.only ho (fun _ e hp => hp.2.2 e), hr, Only.below s.below ho s.below.size (fun b hb e => by have := s.new.2.2.1; omega), s.new⟩

/-- The memory behind the last call. -/
structure End15 (w wr : World) (g g' : Nat) (l l' : List (Int × Bool)) (v v' : Value) : Prop where
  one : GrAt wr g l
  two : GrAt wr g' l'
  ref : ∃ P, RTab wr P l v
  ref' : ∃ P, RTab wr P l' v'
  below : Below w.heap.size w wr
theorem End15.quiet {w wr w2 : World} {g g' : Nat} {l l' : List (Int × Bool)} {v v' : Value} (s : End15 w wr g g' l l' v v') (hb : Below wr.heap.size wr w2) : End15 w w2 g g' l l' v v' :=
  ⟨s.one.below hb, s.two.below hb, s.ref.elim fun P h => ⟨P, h.below hb⟩, s.ref'.elim fun P h => ⟨P, h.below hb⟩, below_on s.below hb⟩
theorem Mid15.done {w wr w2 : World} {g g' B : Nat} {l l' : List (Int × Bool)} {v v' : Value} {K x : Int} (s : Mid15 w wr g g' B l l' v v' K x) (r : GrAt w2 g' l') (ho : Only (· = g') wr w2) : End15 w w2 g g' l l' v v' :=
  ⟨s.one.only ho s.new.2.2.2.1, r, ⟨_, s.ref.only ho (fun _ e hp => hp.1 e)⟩, ⟨_, s.ref'.only ho (fun _ e hp => hp.1 e)⟩, Only.below s.below ho s.below.size (fun b hb e => by have := s.new.2.1; omega)⟩
theorem End15.held' {w wr : World} {g g' : Nat} {l l' : List (Int × Bool)} {v v' : Value} (s : End15 w wr g g' l l' v v') : Calls Try.prog 15 #[v'] wr (OwnP15 (onL15 l' l'.length) wr) :=
  s.ref'.elim fun P h => rheld15_any P _ l' wr h s.two.n64
theorem End15.held {w wr : World} {g g' : Nat} {l l' : List (Int × Bool)} {v v' : Value} (s : End15 w wr g g' l l' v v') : Calls Try.prog 15 #[v] wr (OwnP15 (onL15 l l.length) wr) :=
  s.ref.elim fun P h => rheld15_any P _ l wr h s.one.n64

set_option maxRecDepth 100000 in
set_option maxHeartbeats 16000000 in
theorem grantPlays_main (C : Nat) (v : Value) (R : List (List Int)) (K' x' : Int) (w : World) (c0 : 1 ≤ C) (c64 : C ≤ 64) (hR : Recs w 2 v R) (hm : R.length ≤ 150) :
    Calls Try.prog 3 #[.int .i64 (C : Int), v, opV15 K' x'] w fun e w' => e = .returned (.bool true) ∧ Below w.heap.size w w' := by
  have HR := Lib.hid hR
  obtain ⟨A, d, rfl, hA⟩ := hR
  clear hA
  obtain ⟨m, hm'⟩ : ∃ m, R.length = m := ⟨_, rfl⟩
  rw [hm'] at hm HR ⊢
  have HM := Lib.hid hm'; clear hm'
  have g3 : ¬ (150 < (m : Int)) := by omega
  have nw := Lib.hid (fun W => new15_yes C W c0 c64)
  have is := Lib.hid (fun W => ris15_yes C W (by omega) (by omega))
  have hmk := fun W => run_make_rowN (P := Try.prog) 31 55 _ 2 16 Try.underlying31 one15_info .i64 .i64 C (by omega) (by omega) W
  unfold opV15
  go_enter Try.func3, Try.ntmps3
  go_wp2_with fail
  refine (nw.out _).mono ?_
  rintro e w1 ⟨g, rfl, r1, hg1, hb1⟩
  unfold ptr
  go_wp2_with fail
  refine (is.out _).mono ?_
  rintro e w' ⟨rfl, rfl⟩
  have LE := Lib.hid (len15_any g _ w1 r1)
  rw [show ((new15 C).length : Int) = (C : Int) from by simp [new15]] at LE
  unfold ptr at LE
  have hcc : ((C : Int) != (C : Int)) = false := by simp
  go_wp2_with fail
  refine LE.out.mono ?_
  rintro e w' ⟨rfl, rfl⟩
  have hg2 : w.heap.size + 1 ≤ g := by simpa using hg1
  have hgl := r1.row.lt
  have MD := made15 C w1
  have MB := below_al w1 (.cells (madeCells #[.int .i64 0, .bool false] (C * 2)) 55)
  have s0 : Play15 w (w1.alloc (.cells (madeCells #[.int .i64 0, .bool false] (C * 2)) 55)) g w.heap.size (new15 C) (some ⟨w1.heap.size, 0, none⟩) C C K' x' :=
    ⟨r1.below MB, MD.weak (fun b _ (h : w1.heap.size ≤ b) => ⟨by omega, by omega⟩), ((Row.new w 24 #[.int .i64 K', .int .i64 x']).below hb1).below MB, below_on (below_on (below_al _ _) hb1) MB, by omega, by omega, Nat.le_refl _⟩
  have S0 := Lib.hid s0
  have HL0 : Hid ((new15 C).length = C) := Lib.hid (by simp [new15])
  clear s0 r1 hg1 hb1 nw is MD MB hgl LE
  go_wp2
  clear hmk
  go_loopw [8, 48] (fun sv i wr => ∃ (k : Nat) (l : List (Int × Bool)) (A : Option Addr) (c : Nat), k ≤ m ∧ sv = .slice A C c ∧ i = .int .i64 k ∧ Hid (l.length = C) ∧ Hid (Play15 w wr g w.heap.size l A C c K' x')) (fun _ i _ => m - (intOf i).toNat)
  case atStart => exact ⟨0, _, _, _, Nat.zero_le _, rfl, rfl, HL0, S0⟩
  case round =>
    clear S0 HL0
    obtain ⟨k, l, A0, n0, hk, rfl, rfl, HL, S⟩ := hrel
    by_cases hlt : k < m
    · obtain ⟨ad, c', K, x, hzs, hv', z0, z1, hadl⟩ := Recs.two15 HR.out S.out.below (by rw [HM.out]; exact hlt)
      rw [HM.out] at hv'
      injection hv' with hv' _ hv2
      subst hv' hv2
      clear hzs
      have S1 := Lib.hid (S.out.quiet (below_al wr (.cells #[.int .i64 K, .int .i64 x] 24)))
      have IR := Lib.hid (Row.new wr 24 #[.int .i64 K, .int .i64 x])
      have hgl := S1.out.tab.row.lt
      have hgl0 := S.out.tab.row.lt
      have hBl0 := S.out.more.lt
      have hsz := S.out.below.size
      by_cases h3 : K = 3
      · subst h3
        have kh := rhandle15_any _ _ l x _ S1.out.ref S1.out.tab.n64 S1.out.tab.gen
        obtain ⟨y, hy⟩ : ∃ y, hanL15 l x = y := ⟨_, rfl⟩
        rw [hy] at kh
        have KH := Lib.hid kh
        clear kh hy
        go_wp2_with fail
        refine KH.out.mono ?_
        rintro e w2 ⟨rfl, hb2⟩
        have row2 := IR.out.below hb2
        have fz0 := row2.soft 0
        have fz1 := row2.soft 1
        have o0 := row2.cell 0
        have o1 := row2.cell 1
        simp only [List.getElem?_cons_zero, List.getElem?_cons_succ] at o0 o1
        have row3 := (row2.put 0 (.int .i64 1)).put 1 (.int .i64 y)
        simp only [List.set_cons_zero, List.set_cons_succ] at row3
        have OO : Only (· = wr.heap.size) w2 ((w2.setCell ⟨wr.heap.size, 0, none⟩ (.int .i64 1)).setCell ⟨wr.heap.size, 1, none⟩ (.int .i64 y)) := ((only_put15 _ _ 0 _).trans (only_put15 _ _ 1 _))
        have S3 := Lib.hid (S.out.since (below_on (below_al wr (.cells #[.int .i64 3, .int .i64 x] 24)) hb2) OO (Nat.le_refl _))
        have IR3 := Lib.hid row3
        have hs2 := hb2.size
        rw [size_al] at hs2
        clear row2 row3 OO hb2 KH S1 IR z0 z1
        have rd := rdo15_any _ _ l 1 y _ S3.out.ref S3.out.tab.n64 S3.out.tab.gen (fun b hb => by simp [World.setCell] at hb; exact ⟨by omega, by omega⟩)
        rw [kN15_no (by omega), xN15_no (by omega)] at rd
        have dl := dL15_len l 1 y
        rw [HL.out] at dl
        obtain ⟨V, hV⟩ : ∃ V, dV15 l 1 y = V := ⟨_, rfl⟩
        obtain ⟨E, hE⟩ : ∃ E, dE15 l 1 y = E := ⟨_, rfl⟩
        obtain ⟨l', hl'⟩ : ∃ l', dL15 l 1 y = l' := ⟨_, rfl⟩
        have dd := Lib.hid (fun W r => do15_any g l 1 y W r)
        rw [hE, hV, hl'] at rd dd
        rw [hl'] at dl
        have DL := Lib.hid dl
        have RD := Lib.hid rd
        unfold ptr opV15 at dd
        unfold opV15 at RD
        clear dl hE hV hl' rd
        go_wp2_with fail
        refine RD.out.mono ?_
        rintro e w4 ⟨v4, rfl, r4, hb4⟩
        obtain ⟨A4, n4, c4, rfl, HN4, R4⟩ := r4.open_
        obtain rfl : n4 = C := by rw [← HN4.out]; exact DL.out
        have S4 := Lib.hid (S3.out.quiet hb4)
        have I4 := IR3.out.below hb4
        have p0 := I4.cell 0
        have p1 := I4.cell 1
        simp only [List.getElem?_cons_zero, List.getElem?_cons_succ] at p0 p1
        have DD := Lib.hid (dd.out w4 S4.out.tab)
        clear r4 hb4 RD S S3 I4 IR3 dd
        go_wp2_with fail
        refine DD.out.mono ?_
        rintro e w5 ⟨rfl, r5, ho5⟩
        have S5 := Lib.hid (S4.out.step R4.out r5 ho5)
        have hfE : (E != E) = false := by simp
        have hfV : (V != V) = false := by simp
        have DN := Lib.hid (held15_any g l' w5 r5)
        have HX : Hid ((onL15 l' l'.length).length ≤ 65536) := Lib.hid (by have := onL15_len l' l'.length; rw [DL.out] at this ⊢; omega)
        unfold ptr at DN
        clear r5 ho5 DD S4 R4 p0 p1
        go_wp2_with fail
        refine DN.out.mono ?_
        rintro e w6 ⟨v6, rfl, own6, hb6⟩
        obtain ⟨A6, c6, rfl⟩ := own15_is own6
        have S6 := Lib.hid (S5.out.quiet hb6)
        have O6 := Lib.hid own6
        have RH := Lib.hid (rheld15_any _ _ l' w6 S6.out.ref S6.out.tab.n64)
        clear S5 own6 hb6 DN
        go_wp2_with fail
        refine RH.out.mono ?_
        rintro e w7 ⟨v7, rfl, own7, hb7⟩
        obtain ⟨A7, c7, rfl⟩ := own15_is own7
        have S7 := Lib.hid (S6.out.quiet hb7)
        have SM := Lib.hid (OwnP15.same O6.out hb7 own7 HX.out)
        clear S6 own7 hb7 RH
        go_wp2_with fail
        refine SM.out.mono ?_
        rintro e w8 ⟨rfl, hb8⟩
        have S8 := Lib.hid (S7.out.quiet hb8)
        clear S7 hb8 SM
        go_wp2
        go_roundw
        case rel => exact ⟨k + 1, l', A4, c4, by omega, rfl, by go_num, DL, S8⟩
        case measure => simp [intOf]; omega
      · have rd := rdo15_any _ _ l K x _ S1.out.ref S1.out.tab.n64 S1.out.tab.gen (fun b hb => by simp at hb; exact ⟨by omega, by omega⟩)
        rw [kN15_no h3, xN15_no h3] at rd
        have S3 := S1
        have IR3 := IR
        have h3' : (K == 3) = false := by simpa using h3
        clear S1 IR h3
        have dl := dL15_len l K x
        rw [HL.out] at dl
        obtain ⟨V, hV⟩ : ∃ V, dV15 l K x = V := ⟨_, rfl⟩
        obtain ⟨E, hE⟩ : ∃ E, dE15 l K x = E := ⟨_, rfl⟩
        obtain ⟨l', hl'⟩ : ∃ l', dL15 l K x = l' := ⟨_, rfl⟩
        have dd := Lib.hid (fun W r => do15_any g l K x W r)
        rw [hE, hV, hl'] at rd dd
        rw [hl'] at dl
        have DL := Lib.hid dl
        have RD := Lib.hid rd
        unfold ptr opV15 at dd
        unfold opV15 at RD
        clear dl hE hV hl' rd
        go_wp2_with fail
        refine RD.out.mono ?_
        rintro e w4 ⟨v4, rfl, r4, hb4⟩
        obtain ⟨A4, n4, c4, rfl, HN4, R4⟩ := r4.open_
        obtain rfl : n4 = C := by rw [← HN4.out]; exact DL.out
        have S4 := Lib.hid (S3.out.quiet hb4)
        have I4 := IR3.out.below hb4
        have p0 := I4.cell 0
        have p1 := I4.cell 1
        simp only [List.getElem?_cons_zero, List.getElem?_cons_succ] at p0 p1
        have DD := Lib.hid (dd.out w4 S4.out.tab)
        clear r4 hb4 RD S S3 I4 IR3 dd
        go_wp2_with fail
        refine DD.out.mono ?_
        rintro e w5 ⟨rfl, r5, ho5⟩
        have S5 := Lib.hid (S4.out.step R4.out r5 ho5)
        have hfE : (E != E) = false := by simp
        have hfV : (V != V) = false := by simp
        have DN := Lib.hid (held15_any g l' w5 r5)
        have HX : Hid ((onL15 l' l'.length).length ≤ 65536) := Lib.hid (by have := onL15_len l' l'.length; rw [DL.out] at this ⊢; omega)
        unfold ptr at DN
        clear r5 ho5 DD S4 R4 p0 p1
        go_wp2_with fail
        refine DN.out.mono ?_
        rintro e w6 ⟨v6, rfl, own6, hb6⟩
        obtain ⟨A6, c6, rfl⟩ := own15_is own6
        have S6 := Lib.hid (S5.out.quiet hb6)
        have O6 := Lib.hid own6
        have RH := Lib.hid (rheld15_any _ _ l' w6 S6.out.ref S6.out.tab.n64)
        clear S5 own6 hb6 DN
        go_wp2_with fail
        refine RH.out.mono ?_
        rintro e w7 ⟨v7, rfl, own7, hb7⟩
        obtain ⟨A7, c7, rfl⟩ := own15_is own7
        have S7 := Lib.hid (S6.out.quiet hb7)
        have SM := Lib.hid (OwnP15.same O6.out hb7 own7 HX.out)
        clear S6 own7 hb7 RH
        go_wp2_with fail
        refine SM.out.mono ?_
        rintro e w8 ⟨rfl, hb8⟩
        have S8 := Lib.hid (S7.out.quiet hb8)
        clear S7 hb8 SM
        go_wp2
        go_roundw
        case rel => exact ⟨k + 1, l', A4, c4, by omega, rfl, by go_num, DL, S8⟩
        case measure => simp [intOf]; omega
    · obtain rfl : k = m := by omega
      have cl := Lib.hid (clone15_any g l _ S.out.tab)
      unfold ptr at cl
      go_wp2_with fail
      refine cl.out.mono ?_
      rintro e w2 ⟨g', rfl, r2, hg2', hb2⟩
      unfold ptr
      have hg'l := r2.row.lt
      have hgl := S.out.tab.row.lt
      have hBl := S.out.more.lt
      have hsz := S.out.below.size
      have S2 := Lib.hid (S.out.quiet hb2)
      have R2 := Lib.hid r2
      have RF2 := Lib.hid ((S.out.ref.weak (Q := fun b => b ≠ g' ∧ b ≠ g ∧ b ≠ w.heap.size) (fun b hb h => ⟨by omega, h⟩)).below hb2)
      have LE := Lib.hid (len15_any g' l w2 r2)
      unfold ptr at LE
      rw [HL.out] at LE
      have hs2 := hb2.size
      clear cl S hb2 r2
      go_wp2_with fail
      refine LE.out.mono ?_
      rintro e w' ⟨rfl, rfl⟩
      have x0 := S2.out.more.cell 0
      have x1 := S2.out.more.cell 1
      simp only [List.getElem?_cons_zero, List.getElem?_cons_succ] at x0 x1
      have rd := rdo15_any _ _ l K' x' w2 RF2.out R2.out.n64 R2.out.gen (fun b hb => ⟨by omega, by omega, by omega⟩)
      by_cases h3 : K' = 3
      · rw [kN15_yes h3, xN15_yes h3] at rd
        subst h3
        have kh := Lib.hid (fun W r => rhandle15_any (fun b => b ≠ g' ∧ b ≠ g ∧ b ≠ w.heap.size) (.slice A0 C n0) l x' W r R2.out.n64 R2.out.gen)
        obtain ⟨y, hy⟩ : ∃ y, hanL15 l x' = y := ⟨_, rfl⟩
        rw [hy] at kh rd
        clear hy
        obtain ⟨V, hV⟩ : ∃ V, dV15 l 1 y = V := ⟨_, rfl⟩
        obtain ⟨E, hE⟩ : ∃ E, dE15 l 1 y = E := ⟨_, rfl⟩
        have dl := dL15_len l 1 y
        obtain ⟨l', hl'⟩ : ∃ l', dL15 l 1 y = l' := ⟨_, rfl⟩
        have dd := Lib.hid (fun W r => do15_any g' l 1 y W r)
        rw [hE, hV, hl'] at rd dd
        rw [hl'] at dl
        have DL := Lib.hid dl
        have RD := Lib.hid rd
        unfold ptr opV15 at dd
        unfold opV15 at RD
        clear dl hE hV hl' rd LE
        go_wp2_with fail
        refine RD.out.mono ?_
        rintro e w4 ⟨v4, rfl, r4, hb4⟩
        obtain ⟨A4, n4, c4, rfl, HN4, V4⟩ := r4.open_
        have M4 := Lib.hid (show Mid15 w w4 g g' w.heap.size l l' (.slice A0 C n0) (.slice A4 n4 c4) 3 x' from ⟨S2.out.tab.below hb4, R2.out.below hb4, RF2.out.below hb4, V4.out, S2.out.more.below hb4, below_on S2.out.below hb4, by omega, by omega, Nat.le_refl _, by omega, by omega, by omega⟩)
        have y0 := M4.out.more.cell 0
        have y1 := M4.out.more.cell 1
        simp only [List.getElem?_cons_zero, List.getElem?_cons_succ] at y0 y1
        have KH := Lib.hid (kh.out w4 M4.out.ref)
        clear x0 x1 S2 R2 RF2 r4 hb4 RD V4 kh
        go_wp2_with fail
        refine KH.out.mono ?_
        rintro e w5 ⟨rfl, hb5⟩
        have row5 := M4.out.more.below hb5
        have fz0 := row5.soft 0
        have fz1 := row5.soft 1
        have u0 := row5.cell 0
        have u1 := row5.cell 1
        simp only [List.getElem?_cons_zero, List.getElem?_cons_succ] at u0 u1
        have row6 := (row5.put 0 (.int .i64 1)).put 1 (.int .i64 y)
        simp only [List.set_cons_zero, List.set_cons_succ] at row6
        have OO : Only (· = w.heap.size) w5 ((w5.setCell ⟨w.heap.size, 0, none⟩ (.int .i64 1)).setCell ⟨w.heap.size, 1, none⟩ (.int .i64 y)) := ((only_put15 _ _ 0 _).trans (only_put15 _ _ 1 _))
        have M6 := Lib.hid ((M4.out.quiet hb5).turn OO row6)
        clear row5 row6 OO hb5 KH M4 y0 y1
        have q0 := M6.out.more.cell 0
        have q1 := M6.out.more.cell 1
        simp only [List.getElem?_cons_zero, List.getElem?_cons_succ] at q0 q1
        have DD := Lib.hid (dd.out _ M6.out.two)
        clear dd
        go_wp2_with fail
        refine DD.out.mono ?_
        rintro e w7 ⟨rfl, r7, ho7⟩
        have E7 := Lib.hid (M6.out.done r7 ho7)
        have hEE : (E == E) = true := by simp
        have hVV : (V == V) = true := by simp
        clear M6 q0 q1 r7 ho7 DD
        have DN1 := Lib.hid (held15_any g' l' w7 E7.out.two)
        unfold ptr at DN1
        go_wp2_with fail
        refine DN1.out.mono ?_
        rintro e w8 ⟨y1, rfl, own8, hb1⟩
        obtain ⟨B1, d1, rfl⟩ := own15_is own8
        have E8 := Lib.hid (E7.out.quiet hb1)
        have OW1 := Lib.hid own8
        clear E7 DN1 own8 hb1
        have DN2 := Lib.hid E8.out.held'
        go_wp2_with fail
        refine DN2.out.mono ?_
        rintro e w9 ⟨y2, rfl, own9, hb2⟩
        obtain ⟨B2, d2, rfl⟩ := own15_is own9
        have E9 := Lib.hid (E8.out.quiet hb2)
        have k3 := Lib.hid (OwnP15.same OW1.out hb2 own9 (by have := onL15_len l' l'.length; have := E9.out.two.n64; omega))
        clear E8 DN2 own9 hb2
        go_wp2_with fail
        refine k3.out.mono ?_
        rintro e w10 ⟨rfl, hb10⟩
        have E10 := Lib.hid (E9.out.quiet hb10)
        clear E9 k3 hb10
        have DN3 := Lib.hid (held15_any g l w10 E10.out.one)
        unfold ptr at DN3
        go_wp2_with fail
        refine DN3.out.mono ?_
        rintro e w11 ⟨y3, rfl, own11, hb3⟩
        obtain ⟨B3, d3, rfl⟩ := own15_is own11
        have E11 := Lib.hid (E10.out.quiet hb3)
        have OW3 := Lib.hid own11
        clear E10 DN3 own11 hb3
        have DN4 := Lib.hid E11.out.held
        go_wp2_with fail
        refine DN4.out.mono ?_
        rintro e w12 ⟨y4, rfl, own12, hb4⟩
        obtain ⟨B4, d4, rfl⟩ := own15_is own12
        have E12 := Lib.hid (E11.out.quiet hb4)
        have k4 := Lib.hid (OwnP15.same OW3.out hb4 own12 (by have := onL15_len l l.length; have := E12.out.one.n64; omega))
        clear E11 DN4 own12 hb4
        go_wp2_with fail
        refine k4.out.mono ?_
        rintro e w13 ⟨rfl, hb13⟩
        have E13 := Lib.hid (E12.out.quiet hb13)
        clear E12 k4 hb13
        go_wp2_with fail
        refine (alive15 _).mono ?_
        rintro e w14 ⟨rfl, hb14⟩
        have HB14 := Lib.hid (below_on E13.out.below hb14)
        clear hb14
        go_wp2
        go_ret
        exact ⟨rfl, HB14.out⟩
      · rw [kN15_no h3, xN15_no h3] at rd
        have h3' : (K' == 3) = false := by simpa using h3
        obtain ⟨V, hV⟩ : ∃ V, dV15 l K' x' = V := ⟨_, rfl⟩
        obtain ⟨E, hE⟩ : ∃ E, dE15 l K' x' = E := ⟨_, rfl⟩
        have dl := dL15_len l K' x'
        obtain ⟨l', hl'⟩ : ∃ l', dL15 l K' x' = l' := ⟨_, rfl⟩
        have dd := Lib.hid (fun W r => do15_any g' l K' x' W r)
        rw [hE, hV, hl'] at rd dd
        rw [hl'] at dl
        have DL := Lib.hid dl
        have RD := Lib.hid rd
        unfold ptr opV15 at dd
        unfold opV15 at RD
        clear dl hE hV hl' rd LE h3
        go_wp2_with fail
        refine RD.out.mono ?_
        rintro e w4 ⟨v4, rfl, r4, hb4⟩
        obtain ⟨A4, n4, c4, rfl, HN4, V4⟩ := r4.open_
        have M6 := Lib.hid (show Mid15 w w4 g g' w.heap.size l l' (.slice A0 C n0) (.slice A4 n4 c4) K' x' from ⟨S2.out.tab.below hb4, R2.out.below hb4, RF2.out.below hb4, V4.out, S2.out.more.below hb4, below_on S2.out.below hb4, by omega, by omega, Nat.le_refl _, by omega, by omega, by omega⟩)
        clear x0 x1 S2 R2 RF2 r4 hb4 RD V4
        have q0 := M6.out.more.cell 0
        have q1 := M6.out.more.cell 1
        simp only [List.getElem?_cons_zero, List.getElem?_cons_succ] at q0 q1
        have DD := Lib.hid (dd.out _ M6.out.two)
        clear dd
        go_wp2_with fail
        refine DD.out.mono ?_
        rintro e w7 ⟨rfl, r7, ho7⟩
        have E7 := Lib.hid (M6.out.done r7 ho7)
        have hEE : (E == E) = true := by simp
        have hVV : (V == V) = true := by simp
        clear M6 q0 q1 r7 ho7 DD
        have DN1 := Lib.hid (held15_any g' l' w7 E7.out.two)
        unfold ptr at DN1
        go_wp2_with fail
        refine DN1.out.mono ?_
        rintro e w8 ⟨y1, rfl, own8, hb1⟩
        obtain ⟨B1, d1, rfl⟩ := own15_is own8
        have E8 := Lib.hid (E7.out.quiet hb1)
        have OW1 := Lib.hid own8
        clear E7 DN1 own8 hb1
        have DN2 := Lib.hid E8.out.held'
        go_wp2_with fail
        refine DN2.out.mono ?_
        rintro e w9 ⟨y2, rfl, own9, hb2⟩
        obtain ⟨B2, d2, rfl⟩ := own15_is own9
        have E9 := Lib.hid (E8.out.quiet hb2)
        have k3 := Lib.hid (OwnP15.same OW1.out hb2 own9 (by have := onL15_len l' l'.length; have := E9.out.two.n64; omega))
        clear E8 DN2 own9 hb2
        go_wp2_with fail
        refine k3.out.mono ?_
        rintro e w10 ⟨rfl, hb10⟩
        have E10 := Lib.hid (E9.out.quiet hb10)
        clear E9 k3 hb10
        have DN3 := Lib.hid (held15_any g l w10 E10.out.one)
        unfold ptr at DN3
        go_wp2_with fail
        refine DN3.out.mono ?_
        rintro e w11 ⟨y3, rfl, own11, hb3⟩
        obtain ⟨B3, d3, rfl⟩ := own15_is own11
        have E11 := Lib.hid (E10.out.quiet hb3)
        have OW3 := Lib.hid own11
        clear E10 DN3 own11 hb3
        have DN4 := Lib.hid E11.out.held
        go_wp2_with fail
        refine DN4.out.mono ?_
        rintro e w12 ⟨y4, rfl, own12, hb4⟩
        obtain ⟨B4, d4, rfl⟩ := own15_is own12
        have E12 := Lib.hid (E11.out.quiet hb4)
        have k4 := Lib.hid (OwnP15.same OW3.out hb4 own12 (by have := onL15_len l l.length; have := E12.out.one.n64; omega))
        clear E11 DN4 own12 hb4
        go_wp2_with fail
        refine k4.out.mono ?_
        rintro e w13 ⟨rfl, hb13⟩
        have E13 := Lib.hid (E12.out.quiet hb13)
        clear E12 k4 hb13
        go_wp2_with fail
        refine (alive15 _).mono ?_
        rintro e w14 ⟨rfl, hb14⟩
        have HB14 := Lib.hid (below_on E13.out.below hb14)
        clear hb14
        go_wp2
        go_ret
        exact ⟨rfl, HB14.out⟩

set_option maxRecDepth 100000 in
set_option maxHeartbeats 2000000 in
theorem grantPlays_any (n : Int) (v : Value) (R : List (List Int)) (K x : Int) (w : World) (hR : Recs w 2 v R) (hm : R.length ≤ maxLen) :
    Calls Try.prog 3 #[.int .i64 n, v, opV15 K x] w fun e w' => e = .returned (.bool true) ∧ Below w.heap.size w w' := by
  unfold maxLen at hm
  have al := Lib.hid (fun W => alive15 W)
  by_cases h1 : 150 < R.length
  · obtain ⟨A, cc, rfl, hA⟩ := hR
    clear hA
    have h1' : (150 : Int) < (R.length : Int) := by omega
    unfold opV15
    go_enter Try.func3, Try.ntmps3
    go_wp2_with fail
    refine (al.out _).mono ?_
    rintro e w3 ⟨rfl, hb3⟩
    go_wp2
    go_ret
    exact ⟨rfl, below_on (below_al _ _) hb3⟩
  · by_cases h3 : n < 1 ∨ 64 < n
    · obtain ⟨A, cc, rfl, hA⟩ := hR
      clear hA
      have h1' : ¬ ((150 : Int) < (R.length : Int)) := by omega
      have nw := Lib.hid (fun W => new15_no n W h3)
      have is := Lib.hid (fun W => ris15_no n W h3)
      clear h3
      unfold opV15
      go_enter Try.func3, Try.ntmps3
      go_wp2_with fail
      refine (nw.out _).mono ?_
      rintro e w' ⟨rfl, rfl⟩
      go_wp2_with fail
      refine (is.out _).mono ?_
      rintro e w' ⟨rfl, rfl⟩
      go_wp2_with fail
      refine (al.out _).mono ?_
      rintro e w3 ⟨rfl, hb3⟩
      go_wp2
      go_ret
      exact ⟨rfl, below_on (below_al _ _) hb3⟩
    · obtain ⟨C, rfl⟩ := Int.eq_ofNat_of_zero_le (show 0 ≤ n by omega)
      exact grantPlays_main C v R K x w (by omega) (by omega) hR (by omega)

#print axioms grantPlays_any
end Go.Proofs.Ytikndnagflpckaa
