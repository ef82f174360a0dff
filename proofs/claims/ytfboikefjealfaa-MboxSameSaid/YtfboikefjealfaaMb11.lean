/-
  Layer 9 (mbox): New: mailboxes in the making (MkAt9), their steps, and New's contract.
  Conditions: those that each theorem states.
-/
import Derived.Test.YtfboikefjealfaaMb10
namespace Go.Proofs.Ytfboikefjealfaa
open Go.ChangeShapes Go.WideShapes Go.ChangeAt Go.RowKit

theorem run_make_rowN {P : Program} (t e : TypeId) (z : Value) (size bytes : Nat) (ht : P.underlying t = some (.slice e)) (hinfo : (P.info? e).map (fun i => (i.zero, i.size, i.bytes)) = some (some z, size, bytes))
    (kl kc : IntKind) (n : Nat) (hbytes : bytes * n ≤ 281474976710656) (h63 : n ≤ 9223372036854775807) (w : World) :
    (Instr.makeSlice t (.int kl (n : Int)) (.int kc (n : Int))).run P w = .ok (.slice (some ⟨w.heap.size, 0, none⟩) n n) (w.alloc (.cells (madeCells z.cells (n * size)) e)) := by
  obtain ⟨i, hi, hzz⟩ := Option.map_eq_some_iff.1 hinfo
  simp only [Prod.mk.injEq] at hzz
  obtain ⟨hz, hs, hb⟩ := hzz
  have hb' : (i.bytes : Int) * (n : Int) ≤ 281474976710656 := by
    have h : ((i.bytes * n : Nat) : Int) ≤ 281474976710656 := by rw [hb]; omega
    rwa [Int.natCast_mul] at h
  have hr := run_make (P := P) w t e i z ht hi hz kl kc n n (by omega) (Int.le_refl _) hb' (by omega)
  simp only [Int.toNat_natCast, hs] at hr
  exact hr

theorem made_at (z : Array Value) (s n i j : Nat) (hz : z.size = s) (hi : i < n) (hj : j < s) : (madeCells z (n * s)).toList[i * s + j]? = z[j]? := by
  have hlt : i * s + j < n * s := by
    have : (i + 1) * s ≤ n * s := Nat.mul_le_mul_right s hi
    rw [Nat.add_mul, Nat.one_mul] at this
    omega
  have hm : (i * s + j) % s = j := by rw [Nat.mul_comm, Nat.mul_add_mod, Nat.mod_eq_of_lt hj]
  subst hz
  simp [madeCells, hlt, hm, hj]

theorem box_info : (Try.prog.info? 66).map (fun i => (i.zero, i.size, i.bytes)) = some (some (.agg #[.int .i64 0, .pointer none]), 2, 16) := by kernel_rfl

/-- A row of mailboxes in the making: the first k are there. -/
def mk0 : Value × Value := (.int .i64 0, .pointer none)
def mkL (gf : Nat → Nat) (ms : List Mail) (k : Nat) : List (Value × Value) := (ms.take k).mapIdx (mcell gf) ++ List.replicate (ms.length - k) mk0
theorem mkL_at (gf : Nat → Nat) (ms : List Mail) (k j : Nat) : (mkL gf ms k)[j]? = if j < k then (ms[j]?).map (mcell gf j) else if j < ms.length then some mk0 else none := by
  unfold mkL
  by_cases hk : k ≤ ms.length
  · rw [List.getElem?_append, List.length_mapIdx, List.length_take, Nat.min_eq_left hk]
    by_cases h : j < k
    · rw [if_pos h, if_pos h, List.getElem?_mapIdx, List.getElem?_take, if_pos h]
    · rw [if_neg h, if_neg h, List.getElem?_replicate]
      by_cases h2 : j < ms.length
      · rw [if_pos (by omega), if_pos h2]
      · rw [if_neg (by omega), if_neg h2]
  · rw [Nat.sub_eq_zero_of_le (by omega), List.replicate_zero, List.append_nil, List.getElem?_mapIdx, List.getElem?_take]
    by_cases h : j < k
    · rw [if_pos h, if_pos h]
    · rw [if_neg h, if_neg h, if_neg (by omega)]
      rfl

theorem mkL_step {gf : Nat → Nat} {ms : List Mail} {k g : Nat} {m : Mail} (hm : ms[k]? = some m) : (mkL gf ms k).set k (mcell (fun j => if j = k then g else gf j) k m) = mkL (fun j => if j = k then g else gf j) ms (k + 1) := by
  have hk := lt_of_at hm
  apply List.ext_getElem?
  intro j
  rw [List.getElem?_set]
  have hlen : (mkL gf ms k).length = ms.length := by unfold mkL; rw [List.length_append, List.length_mapIdx, List.length_take, List.length_replicate]; omega
  by_cases e : k = j
  · subst e
    rw [if_pos rfl, if_pos (by omega), mkL_at, if_pos (by omega), hm]
    rfl
  · rw [if_neg e, mkL_at, mkL_at]
    by_cases h : j < k
    · rw [if_pos h, if_pos (by omega)]
      have : ¬ j = k := by omega
      cases ms[j]? with
      | none => rfl
      | some x => simp [mcell, this]
    · rw [if_neg h, if_neg (show ¬ j < k + 1 by omega)]

theorem mkL_whole (gf : Nat → Nat) (ms : List Mail) : flat (mkL gf ms ms.length) = mc gf ms := by
  unfold mkL mc
  rw [List.take_length, Nat.sub_self, List.replicate_zero, List.append_nil]

theorem flat_set2 : ∀ (l : List (Value × Value)) (i : Nat) (p : Value × Value), ((flat l).set (i * 2) p.1).set (i * 2 + 1) p.2 = flat (l.set i p)
  | [], i, p => by simp [flat]
  | q :: l, 0, p => by simp [flat]
  | q :: l, i + 1, p => by
    have e : (i + 1) * 2 = i * 2 + 1 + 1 := by omega
    rw [e]
    simp only [flat, List.set_cons_succ]
    rw [flat_set2 l i p]

theorem flat_snd {l : List (Value × Value)} {k : Nat} {p : Value × Value} (h : l[k]? = some p) (y : Value) : (flat l).set (k * 2 + 1) y = flat (l.set k (p.1, y)) := by
  rw [← flat_set2 l k (p.1, y), set_same (flat_at h).1]

/-- Mailboxes in the making; s: what is newer than this is their own. -/
structure MkAt9 (w wr : World) (s tb rb : Nat) (ms : List Mail) (k : Nat) (gf hf : Nat → Nat) : Prop where
  top : Row wr tb 62 [.slice (some ⟨rb, 0, none⟩) ms.length ms.length]
  row : Row wr rb 66 (flat (mkL gf ms k))
  q : ∀ (i : Nat) (m : Mail), i < k → ms[i]? = some m → LaneQ wr (gf i) (hf i) 16 (jns m.2)
  gne : ∀ i j, i < k → j < k → i ≠ j → gf i ≠ gf j
  hne : ∀ i j, i < k → j < k → i ≠ j → hf i ≠ hf j
  new : s ≤ tb ∧ s ≤ rb
  newg : ∀ i, i < k → s ≤ gf i ∧ s ≤ hf i
  bel : Below s w wr
  lim : k ≤ ms.length
  base : s ≤ wr.heap.size

theorem MkAt9.step {w wr w1 w2 : World} {s tb rb : Nat} {ms : List Mail} {k : Nat} {gf hf : Nat → Nat} (m : MkAt9 w wr s tb rb ms k gf hf) (hb : Below wr.heap.size wr w1) {g h : Nat} {x : Mail} (hx : ms[k]? = some x)
    (hq : LaneQ w1 g h 16 (jns x.2)) (hg : wr.heap.size ≤ g) (hh : wr.heap.size ≤ h) (ho : Only (fun b => b = rb) w1 w2) (hrow : Row w2 rb 66 (flat (mkL (fun j => if j = k then g else gf j) ms (k + 1)))) :
    MkAt9 w w2 s tb rb ms (k + 1) (fun j => if j = k then g else gf j) (fun j => if j = k then h else hf j) := by
  have hk := lt_of_at hx
  have t1 := m.top.below hb
  have r1 := m.row.below hb
  have old : ∀ i, i < k → gf i < wr.heap.size ∧ hf i < wr.heap.size := fun i hi => by
    have := (m.q i _ hi (List.getElem?_eq_getElem (by omega))).fit
    exact ⟨this.2.2.2.1, this.2.2.2.2⟩
  have far : ∀ {a b : Nat} {q : List Int}, LaneQ w1 a b 16 q → LaneQ w2 a b 16 q := fun hq' => by
    obtain ⟨cs, ds, h1, h2⟩ := hq'.rows
    exact hq'.only ho (fun e => h1.ne r1 (by decide) e) (fun e => h2.ne r1 (by decide) e)
  refine ⟨t1.only ho (fun e => t1.ne r1 (by decide) e), hrow, ?_, ?_, ?_, m.new, ?_, ?_, hk, ?_⟩
  · intro i x' hi hx'
    by_cases e : i = k
    · subst e
      rw [hx] at hx'
      injection hx' with hx'
      subst hx'
      rw [if_pos rfl, if_pos rfl]
      exact far hq
    · rw [if_neg e, if_neg e]
      exact far ((m.q i x' (by omega) hx').below hb)
  · intro i j hi hj hij
    by_cases e : i = k
    · rw [if_pos e, if_neg (by omega)]
      have := (old j (by omega)).1
      omega
    · rw [if_neg e]
      by_cases e2 : j = k
      · rw [if_pos e2]
        have := (old i (by omega)).1
        omega
      · rw [if_neg e2]
        exact m.gne i j (by omega) (by omega) hij
  · intro i j hi hj hij
    by_cases e : i = k
    · rw [if_pos e, if_neg (by omega)]
      have := (old j (by omega)).2
      omega
    · rw [if_neg e]
      by_cases e2 : j = k
      · rw [if_pos e2]
        have := (old i (by omega)).2
        omega
      · rw [if_neg e2]
        exact m.hne i j (by omega) (by omega) hij
  · intro i hi
    have := m.base
    by_cases e : i = k
    · rw [if_pos e, if_pos e]; omega
    · rw [if_neg e, if_neg e]; exact m.newg i (by omega)
  · exact Only.below (m.bel.trans (hb.mono m.base)) ho (Nat.le_trans m.base hb.size) (fun g hg e => by have := m.new.2; omega)
  · exact Nat.le_trans (Nat.le_trans m.base hb.size) ho.size

theorem MkAt9.done {w wr : World} {s tb rb k : Nat} {ms : List Mail} {gf hf : Nat → Nat} (m : MkAt9 w wr s tb rb ms k gf hf) (hk : k = ms.length) (hok : ∀ (i : Nat) (m : Mail), ms[i]? = some m → MailOk m) (h1 : 1 ≤ ms.length) (h2 : ms.length ≤ 8) :
    BoxAt wr ⟨tb, rb, gf, hf⟩ ms ∧ ∀ b, (⟨tb, rb, gf, hf⟩ : MLay).fp ms.length b → s ≤ b := by
  subst hk
  refine ⟨⟨m.top, ?_, fun i x h => m.q i x (lt_of_at h) h, hok, m.gne, m.hne, h1, h2⟩, ?_⟩
  · have := m.row
    rwa [mkL_whole] at this
  · rintro b (rfl | rfl | ⟨i, hi, rfl | rfl⟩)
    · exact m.new.1
    · exact m.new.2
    · exact (m.newg i hi).1
    · exact (m.newg i hi).2

/-- What a call leaves that returns new mailboxes. -/
def MadeB (ms : List Mail) (w : World) (e : Ending) (w' : World) : Prop :=
  ∃ L : MLay, e = .returned (.pointer (some ⟨L.g, 0, none⟩)) ∧ BoxAt w' L ms ∧ (∀ b, L.fp ms.length b → w.heap.size ≤ b) ∧ Below w.heap.size w w'

theorem made_zero (n : Nat) (gf : Nat → Nat) (ms : List Mail) (h : ms.length = n) : (madeCells (Value.cells (.agg #[.int .i64 0, .pointer none])) (n * 2)).toList = flat (mkL gf ms 0) := by
  have hz : (Value.cells (.agg #[.int .i64 0, .pointer none])) = #[.int .i64 0, .pointer none] := by simp [go_sem]
  rw [hz]
  apply List.ext_getElem?
  intro j
  have hj : j = j / 2 * 2 + j % 2 := by omega
  have hlen : (flat (mkL gf ms 0)).length = n * 2 := by rw [flat_len]; simp [mkL, h]
  by_cases hlt : j < n * 2
  · have hl := made_at #[.int .i64 0, .pointer none] 2 n (j / 2) (j % 2) rfl (by omega) (by omega)
    rw [← hj] at hl
    rw [hl]
    have hat : (mkL gf ms 0)[j / 2]? = some mk0 := by rw [mkL_at, if_neg (by omega), if_pos (by omega)]
    obtain ⟨f1, f2⟩ := flat_at hat
    have : j % 2 = 0 ∨ j % 2 = 1 := by omega
    rcases this with e | e
    · rw [e]
      rw [show j = j / 2 * 2 from by omega]
      exact f1.symm
    · rw [e]
      rw [show (flat (mkL gf ms 0))[j]? = (flat (mkL gf ms 0))[j / 2 * 2 + 1]? from by rw [← e, ← hj]]
      exact f2.symm
  · rw [List.getElem?_eq_none (by simp [madeCells]; omega), List.getElem?_eq_none (by omega)]

set_option maxRecDepth 100000 in
set_option maxHeartbeats 400000 in
theorem new9_no (c : Int) (w : World) (h : c < 1 ∨ 8 < c) :
    Calls Try.prog 8 #[.int .i64 c] w fun e w' => e = .returned (.pointer none) ∧ w = w' := by
  by_cases h0 : c < 1
  · clear h
    go_enter Try.func8, Try.ntmps8
    go_wp2
    go_ret
    exact ⟨rfl, rfl⟩
  · have h1 : 8 < c := by omega
    clear h
    go_enter Try.func8, Try.ntmps8
    go_wp2
    go_ret
    exact ⟨rfl, rfl⟩

set_option maxRecDepth 100000 in
set_option maxHeartbeats 2000000 in
theorem new9_yes (n : Nat) (w : World) (h0 : 1 ≤ n) (h1 : n ≤ 8) :
    Calls Try.prog 8 #[.int .i64 (n : Int)] w (MadeB (List.replicate n mail0) w) := by
  have hmk := fun W => run_make_rowN (P := Try.prog) 60 66 _ 2 16 Try.underlying60 box_info .i64 .i64 n (by omega) (by omega) W
  have g1 : ¬ ((n : Int) < 1) := by omega
  have g2 : ¬ (8 < (n : Int)) := by omega
  obtain ⟨Z, hZ⟩ : ∃ Z, Z = madeCells (Value.cells (.agg #[.int .i64 0, .pointer none])) (n * 2) := ⟨_, rfl⟩
  rw [← hZ] at hmk
  have HZ := Lib.hid hZ
  clear hZ
  go_enter Try.func8, Try.ntmps8
  go_wp2
  go_loopw [20] (fun c wr => ∃ k : Nat, k ≤ n ∧ c = .int .i64 k ∧ Hid (∃ gf hf, MkAt9 w wr w.heap.size (w.heap.size + 1) w.heap.size (List.replicate n mail0) k gf hf)) (fun c _ => n - (intOf c).toNat)
  case atStart =>
    have hrow := Row.new w 66 Z
    rw [HZ.out, made_zero n (fun _ => 0) (List.replicate n mail0) (by simp)] at hrow
    have htop := Row.new (w.alloc (.cells Z 66)) 62 #[.slice (some ⟨w.heap.size, 0, none⟩) n n]
    rw [size_al] at htop
    refine ⟨0, Nat.zero_le _, rfl, Lib.hid ⟨fun _ => 0, fun _ => 0, ?_, ?_, fun i _ hi => by omega, fun i j hi => by omega, fun i j hi => by omega, ⟨by omega, by omega⟩, fun i hi => by omega, below_on (below_al _ _) (below_al _ _), Nat.zero_le _, by simp only [size_al]; omega⟩⟩
    · rw [List.length_replicate]
      exact htop
    · rw [HZ.out]
      exact hrow.below (below_al _ _)
  case round =>
    obtain ⟨k, hk, rfl, hs⟩ := hrel
    obtain ⟨gf, hf, m⟩ := hs.out
    have ht := m.top
    rw [List.length_replicate] at ht
    have c1 : wr.cell? ⟨w.heap.size + 1, 0, none⟩ = some (.slice (some ⟨w.heap.size, 0, none⟩) n n) := ht.cell 0
    have HT := Lib.hid ht
    have HRW := Lib.hid m.row
    have M := Lib.hid m
    clear hs m ht
    by_cases hlt : k < n
    · have hat : (mkL gf (List.replicate n mail0) k)[k]? = some mk0 := by rw [mkL_at, if_neg (by omega), if_pos (by simpa using hlt)]
      have HAT := Lib.hid hat
      clear hat
      go_wp2_with fail
      go_region_with (go_at_call 21; refine (laneNew_yes 16 (wr.drewN _) (by omega) (by omega)).mono ?_; rintro e w2 ⟨g, h, rfl, hbq, hlt2, hlt3, hb2⟩; have HB2 := Lib.hid (below_on (below_q wr _) hb2); have d1 : w2.cell? ⟨w.heap.size + 1, 0, none⟩ = some (.slice (some ⟨w.heap.size, 0, none⟩) n n) := (HT.out.below HB2.out).cell 0; have d2 : w2.cell? ⟨w.heap.size, k * 2 + 1, none⟩ = some (.pointer none) := (by rw [(HRW.out.below HB2.out).cell]; exact (flat_at HAT.out).2); have d3 := (HRW.out.below HB2.out).soft (k * 2 + 1); have HQ := Lib.hid hbq; have HL := Lib.hid hlt2; have HL2 := Lib.hid hlt3; clear hbq hlt2 hlt3 hb2; unfold ptr)
      all_goals go_wp2_with fail
      all_goals go_roundw
      case rel =>
        have hx : (List.replicate n mail0)[k]? = some mail0 := by rw [List.getElem?_replicate, if_pos hlt]
        have hrow := (HRW.out.below HB2.out).put (k * 2 + 1) (.pointer (some ⟨g, 0, none⟩))
        rw [flat_snd HAT.out] at hrow
        have e : (mk0.1, Value.pointer (some ⟨g, 0, none⟩)) = mcell (fun j => if j = k then g else gf j) k mail0 := by simp [mcell, mk0, ptr, maskB_mail0]
        rw [e, mkL_step hx] at hrow
        exact ⟨k + 1, by omega, by go_num, Lib.hid ⟨_, _, M.out.step HB2.out hx HQ.out HL.out HL2.out (only_put _ _ _ _) hrow⟩⟩
      case measure => simp [intOf]; omega
      case rel =>
        have hx : (List.replicate n mail0)[k]? = some mail0 := by rw [List.getElem?_replicate, if_pos hlt]
        have hrow := (HRW.out.below HB2.out).put (k * 2 + 1) (.pointer (some ⟨g, 0, none⟩))
        rw [flat_snd HAT.out] at hrow
        have e : (mk0.1, Value.pointer (some ⟨g, 0, none⟩)) = mcell (fun j => if j = k then g else gf j) k mail0 := by simp [mcell, mk0, ptr, maskB_mail0]
        rw [e, mkL_step hx] at hrow
        exact ⟨k + 1, by omega, by go_num, Lib.hid ⟨_, _, M.out.step HB2.out hx HQ.out HL.out HL2.out (only_put _ _ _ _) hrow⟩⟩
      case measure => simp [intOf]; omega
    · obtain rfl : k = n := by omega
      go_wp2
      go_ret
      obtain ⟨h2, h3⟩ := M.out.done (by simp) (fun i x hx => by rw [List.getElem?_replicate] at hx; split at hx; (injection hx with hx; subst hx; exact mail0_ok); cases hx) (by simpa using h0) (by simpa using h1)
      exact ⟨_, rfl, h2, h3, M.out.bel⟩

#print axioms MkAt9.step
#print axioms MkAt9.done
#print axioms new9_yes
end Go.Proofs.Ytfboikefjealfaa
