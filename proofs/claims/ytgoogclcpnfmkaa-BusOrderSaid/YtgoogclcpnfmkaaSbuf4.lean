/-
  Contracts of layer 5 (sbuf), third part: Drain, All, Clone.
  Conditions: those that each theorem states.
-/
import Derived.Test.YtgoogclcpnfmkaaSbuf3
namespace Go.Proofs.Ytgoogclcpnfmkaa
open Go.ChangeShapes Go.WideShapes Go.ChangeAt Go.RowKit

set_option maxRecDepth 100000 in
set_option maxHeartbeats 400000 in
theorem bdrain_nil (w : World) :
    Calls Try.prog 81 #[.pointer none] w fun e w' => e = .returned (.tuple #[.int .i64 0, .int .i64 0, .bool false]) ∧ w = w' := by
  go_enter Try.func81, Try.ntmps81
  go_wp2_with (go_at_call 52; refine (blen_nil _).mono ?_; rintro e w' ⟨rfl, rfl⟩)
  go_ret3
  exact ⟨rfl, rfl⟩

/-- What Drain answers. -/
def drV : List (Int × Int) → Value
  | [] => .tuple #[.int .i64 0, .int .i64 0, .bool false]
  | p :: _ => .tuple #[.int .i64 p.1, .int .i64 p.2, .bool true]

set_option maxRecDepth 100000 in
set_option maxHeartbeats 400000 in
theorem bdrain_empty (g : Nat) (h : Option Nat) (N : Nat) (w : World) (r : BufQ w g h N []) :
    Calls Try.prog 81 #[ptr g] w (BufP g h N [] (.tuple #[.int .i64 0, .int .i64 0, .bool false]) w) := by
  have k := Lib.hid (blen_any g h N [] w r)
  have R := Lib.hid r
  clear r
  unfold ptr at k ⊢
  go_enter Try.func81, Try.ntmps81
  go_wp2_with (go_at_call 52; refine k.out.mono ?_; rintro e w' ⟨rfl, rfl⟩)
  go_ret3
  exact ⟨h, rfl, R.out, Only.refl _ _, fun b hb => .inl hb⟩

/-- A slice cut from 1 to its length, with no spare capacity. -/
theorem slice_cut (A : Option Addr) (n c : Nat) (hn : 1 ≤ n) (hc : n ≤ c) (W : World) :
    (Instr.slice 55 (.slice A n c) (some (.int .i64 1)) (some (.int .i64 (n : Int))) (some (.int .i64 (n : Int)))).run Try.prog W = .ok (.slice (if n = 1 then A else A.map (·.add 1)) (n - 1) (n - 1)) W := by
  have hz : (sizeOf (Try.prog.elem 55)).run Try.prog W = .ok 1 W := by
    have : Try.prog.elem 55 = 112 := by kernel_rfl
    rw [this]
    obtain ⟨i, hi, hs⟩ := Option.map_eq_some_iff.1 cpx_size
    simp [sizeOf, typeInfo, hi, hs]
  rw [run_slice_lhm (P := Try.prog) (w := W) 55 A n c (by kernel_rfl) .i64 .i64 .i64 1 (n : Int) (n : Int) (by omega) (by omega) (by omega) (by omega), hz]
  have e1 : ((n : Int)).toNat = n := by omega
  have e2 : (1 : Int).toNat = 1 := rfl
  simp only [Result.andThen, sliced, e1, e2, Nat.mul_one]

set_option maxRecDepth 100000 in
set_option maxHeartbeats 1000000 in
theorem bdrain_some (g : Nat) (h : Option Nat) (N : Nat) (a b : Int) (t : List (Int × Int)) (w : World) (r : BufQ w g h N ((a, b) :: t)) :
    Calls Try.prog 81 #[ptr g] w (BufP g h N t (.tuple #[.int .i64 a, .int .i64 b, .bool true]) w) := by
  have k := blen_any g h N _ w r
  obtain ⟨A, c, r⟩ := r
  obtain ⟨n, hn⟩ : ∃ n, t.length = n := ⟨_, rfl⟩
  have hn1 : ((a, b) :: t).length = n + 1 := by rw [List.length_cons, hn]
  rw [hn1] at k
  have hcap := r.cap
  have hfit := r.fit
  have hmost := r.most
  have htop := r.top
  rw [hn1] at hcap hfit htop
  rcases r.mem with ⟨h0, _⟩ | ⟨bk, off, cs, hh, rfl, hrow, hlen, hcs⟩
  · omega
  have hc1 : w.cell? ⟨g, 1, none⟩ = some (.slice (some ⟨bk, off, none⟩) (n + 1) c) := htop.cell 1
  have hs1 := htop.soft 1
  have hcell : w.cell? ⟨bk, off, none⟩ = some (cellV a b) := by
    have := hcs 0 _ (cvs_at (q := (a, b) :: t) (k := 0) rfl)
    rw [Nat.add_zero] at this
    rw [hrow.cell]
    exact this
  have hgood := r.good
  obtain ⟨b1, b2, b3, b4⟩ := hgood.at (k := 0) (p := (a, b)) rfl
  have hsl := fun W => slice_cut (some ⟨bk, off, none⟩) (n + 1) c (by omega) hcap W
  rw [Nat.add_sub_cancel] at hsl
  obtain ⟨B, hB⟩ : ∃ B, B = (if n + 1 = 1 then some ⟨bk, off, none⟩ else (some (⟨bk, off, none⟩ : Addr)).map (·.add 1)) := ⟨_, rfl⟩
  rw [← hB] at hsl
  have hcast : ((n + 1 : Nat) : Int) = (n : Int) + 1 := by omega
  rw [hcast] at k hsl
  have hgb : g ≠ bk := htop.ne hrow (by decide)
  have hpos := r.pos
  have K := Lib.hid k; clear k
  have HB := Lib.hid hB; clear hB
  have HN := Lib.hid hn; clear hn
  have HT := Lib.hid htop; clear htop
  have HRow := Lib.hid hrow; clear hrow
  have HCs := Lib.hid hcs; clear hcs
  have HLen := Lib.hid hlen; clear hlen
  have HG := Lib.hid hgood; clear hgood r hn1 hcast
  have hz : ((n : Int) + 1 == 0) = false := by simp; omega
  unfold ptr at K ⊢
  go_enter Try.func81, Try.ntmps81
  go_wp2_with (first
    | (go_at_call 52; refine K.out.mono ?_; rintro e w' ⟨rfl, rfl⟩)
    | (go_at_call 89; refine (parts_fl _ _ _ (by assumption) (by assumption) (by assumption) (by assumption)).mono ?_; rintro e w' ⟨rfl, rfl⟩))
  go_ret3
  have ho : Only (fun b => b = g ∨ h = some b) w (w.setCell ⟨g, 1, none⟩ (.slice B n n)) := (Only.refl _ w).setCell (.inl (.inl rfl)) _
  have htop := HT.out.put 1 (.slice B n n)
  simp only [List.set_cons_succ, List.set_cons_zero] at htop
  rw [← HN.out] at htop hfit
  by_cases h0 : n = 0
  · refine ⟨none, rfl, ⟨B, n, ?_, .inl ⟨h0, rfl⟩, HG.out.tail, hpos, hmost, by omega, by rw [HN.out]; omega, fun _ => h0⟩, ho, fun x hx => by cases hx⟩
    rw [HN.out] at htop ⊢
    exact htop
  · have hB := HB.out
    rw [if_neg (by omega)] at hB
    refine ⟨h, rfl, ⟨B, n, ?_, .inr ⟨bk, off + 1, cs, hh, by rw [hB]; simp [Addr.add], HRow.out.far (p := ⟨g, 1, none⟩) (fun e => hgb e.symm) _, by have := HLen.out; omega, ?_⟩, HG.out.tail, hpos, hmost, by omega, by rw [HN.out]; omega, fun e => by rw [hB] at e; cases e⟩, ho, fun x hx => .inl hx⟩
    · rw [HN.out] at htop ⊢
      exact htop
    · intro j u hu
      have := HCs.out (j + 1) u (by simpa [cvs] using hu)
      rw [← this]
      congr 1
      omega

theorem bdrain_any (g : Nat) (h : Option Nat) (N : Nat) (q : List (Int × Int)) (w : World) (r : BufQ w g h N q) :
    Calls Try.prog 81 #[ptr g] w (BufP g h N q.tail (drV q) w) := by
  cases q with
  | nil => exact bdrain_empty g h N w r
  | cons p t => exact bdrain_some g h N p.1 p.2 t w r

set_option maxRecDepth 100000 in
set_option maxHeartbeats 400000 in
theorem ball_nil (w : World) :
    Calls Try.prog 64 #[.pointer none] w fun e w' => e = .returned (.slice none 0 0) ∧ w = w' := by
  go_enter Try.func64, Try.ntmps64
  go_wp2
  go_ret
  exact ⟨rfl, rfl⟩

/-- What All leaves, seen from an earlier world: a new list. -/
def BAllP (q : List (Int × Int)) (w0 : World) (e : Ending) (w' : World) : Prop :=
  ∃ b, e = .returned (.slice (some ⟨b, 0, none⟩) q.length q.length) ∧ Hid (Row w' b 112 (cvs q)) ∧ w0.heap.size ≤ b ∧ Below w0.heap.size w0 w'

theorem made_len (z : Value) (n : Nat) : (madeCells #[z] n).toList.length = n := by simp [madeCells]

set_option maxRecDepth 100000 in
set_option maxHeartbeats 1000000 in
theorem ball_any (g : Nat) (h : Option Nat) (N : Nat) (q : List (Int × Int)) (w : World) (r : BufQ w g h N q) :
    Calls Try.prog 64 #[ptr g] w (BAllP q w) := by
  obtain ⟨A, c, r⟩ := r
  obtain ⟨n, hn⟩ : ∃ n, q.length = n := ⟨_, rfl⟩
  have hc1 : w.cell? ⟨g, 1, none⟩ = some (.slice A n c) := by rw [← hn]; exact r.top.cell 1
  have hgl := r.top.lt
  have hfit := r.fit
  have hmost := r.most
  have hL := r.lies
  rw [hn] at hL hfit
  have hmk := fun W => run_make_row' (P := Try.prog) 55 112 (.complex .f64 0 0) 16 Try.underlying55 cpx_info rfl .i64 .i64 n (by omega) (by omega) W
  obtain ⟨Z, hZ⟩ : ∃ Z, Z = madeCells #[Value.complex .f64 0 0] n := ⟨_, rfl⟩
  have hr := Row.new w 112 Z
  have lZ : Z.toList.length = n := by rw [hZ]; exact made_len _ n
  rw [← hZ] at hmk
  have HR := Lib.hid hr; clear hr hZ
  have HZ := Lib.hid lZ; clear lZ
  have HN := Lib.hid hn; clear hn
  have HL := Lib.hid hL; clear hL r
  unfold ptr
  go_enter Try.func64, Try.ntmps64
  go_wp2_with (with_reducible refine wpList_copy_splice rfl (.tmp 12) (.tmp 16) 55 55 rfl 112 Try.underlying55 cpx_size (some ⟨w.heap.size, 0, none⟩) A n n n c rfl rfl w.heap.size 0 _ 112 HR.out.raw (cvs q) ?c1 ?c2 ?c3 (cvs_one q) w.heap.size w (below_al _ _) (Nat.le_refl _) ?_)
  case c1 => rw [cvs_len, HN.out]; exact (Nat.min_self _).symm
  case c2 =>
    intro hp
    obtain ⟨A', c', hv, hA⟩ := HL.out.below (below_al w (.cells Z 112))
    injection hv with e1 e2 e3
    subst e1
    obtain ⟨g1, o1, rfl, _, _, hc⟩ := hA hp
    exact ⟨_, rfl, fun j u hu => by rw [Addr.add_lit]; exact hc j u hu⟩
  case c3 => rw [Nat.zero_add, cvs_len, HN.out, HZ.out]; exact Nat.le_refl _
  intro w2 hw2 hb2
  go_wp2
  go_ret
  have hrow : Row w2 w.heap.size 112 (cvs q) := by
    have := hw2.out
    rwa [splice_all _ _ (by rw [cvs_len, HN.out, HZ.out])] at this
  exact ⟨w.heap.size, by rw [HN.out]; rfl, Lib.hid hrow, Nat.le_refl _, hb2⟩

theorem ball_since (g : Nat) (h : Option Nat) (N : Nat) (q : List (Int × Int)) (w : World) (r : BufQ w g h N q) (W : World) (hb : Below w.heap.size w W) :
    Calls Try.prog 64 #[.pointer (some ⟨g, 0, none⟩)] W (BAllP q w) :=
  (ball_any g h N q W (r.below hb)).mono fun _ _ ⟨b, he, hr, hlt, hb'⟩ => ⟨b, he, hr, Nat.le_trans hb.size hlt, below_on hb hb'⟩

set_option maxRecDepth 100000 in
set_option maxHeartbeats 400000 in
theorem bclone_nil (w : World) :
    Calls Try.prog 45 #[.pointer none] w fun e w' => e = .returned (.pointer none) ∧ w = w' := by
  go_enter Try.func45, Try.ntmps45
  go_wp2
  go_ret
  exact ⟨rfl, rfl⟩

/-- What Clone leaves: a new buffer with the same stores. -/
def BCloneP (N : Nat) (q : List (Int × Int)) (w : World) (e : Ending) (w' : World) : Prop :=
  ∃ g h, e = .returned (ptr g) ∧ BufQ w' g h N q ∧ w.heap.size ≤ g ∧ (∀ b, h = some b → w.heap.size ≤ b) ∧ Below w.heap.size w w'

set_option maxRecDepth 100000 in
set_option maxHeartbeats 1000000 in
theorem bclone_any (g : Nat) (h : Option Nat) (N : Nat) (q : List (Int × Int)) (w : World) (r : BufQ w g h N q) :
    Calls Try.prog 45 #[ptr g] w (BCloneP N q w) := by
  have al := ball_since g h N q w r
  have hf := r.fit
  obtain ⟨A, c, r⟩ := r
  obtain ⟨n, hn⟩ : ∃ n, q.length = n := ⟨_, rfl⟩
  unfold BAllP at al
  rw [hn] at al hf
  have hc0 : w.cell? ⟨g, 0, none⟩ = some (.int .i64 N) := r.top.cell 0
  have hgl := r.top.lt
  have hb0 : Below w.heap.size w w := Below.refl _ _
  have AL := Lib.hid al; clear al r
  have HN := Lib.hid hn; clear hn
  have HF := Lib.hid hf; clear hf
  unfold ptr
  go_enter Try.func45, Try.ntmps45
  go_wp2
  go_region_held3 (fun w' => w'.cell? ⟨g, 0, none⟩ = some (.int .i64 N) ∧ Below w.heap.size w w')
    (first | exact ⟨by simpa using hc0, hb0.drew⟩ | exact ⟨by simpa using hc0, hb0⟩ | exact ⟨((hb2.alloc hb2.size _).cell (p := ⟨g, 0, none⟩) hgl).trans hc0, hb2.alloc hb2.size _⟩ | exact ⟨(hb2.cell (p := ⟨g, 0, none⟩) hgl).trans hc0, hb2⟩ | go_keep)
    (first
      | (go_at_call 64; refine (AL.out _ ?_).mono ?_; (go_split_ands; assumption); rintro e w2 ⟨b2, rfl, hr2, hlt2, hb2⟩))
  go_wp2
  go_ret
  have hf := HF.out
  have hbz : Below w2.heap.size w2 ((w2.alloc (.cells #[.int .i64 N, .slice (some ⟨b2, 0, none⟩) n n] 119))) := below_al _ _
  refine ⟨w2.heap.size, some b2, rfl, ⟨some ⟨b2, 0, none⟩, n, ?_, .inr ⟨b2, 0, cvs q, rfl, rfl, hr2.out.below hbz, by rw [Nat.zero_add, cvs_len, HN.out]; exact Nat.le_refl _, fun j u hu => by rw [Nat.zero_add]; exact hu⟩, hf.2.2.2.2.2, hf.2.1, hf.2.2.1, by rw [HN.out]; exact hf.1, by rw [HN.out]; exact Nat.le_refl _, fun e => by cases e⟩, hb2.size, fun x hx => by injection hx with hx; omega, below_on hb2 hbz⟩
  rw [HN.out]
  exact Row.new w2 119 #[.int .i64 N, .slice (some ⟨b2, 0, none⟩) n n]

#print axioms bdrain_any
#print axioms bclone_any
end Go.Proofs.Ytgoogclcpnfmkaa
