/-
  Contracts of layer 5 (sbuf), second part: Put, Drain, All, Clone.
  Conditions: those that each theorem states.
-/
import Derived.Test.YtgoogclcpnfmkaaSbuf2
import Derived.Deep.RegionHeld3
namespace Go.Proofs.Ytgoogclcpnfmkaa
open Go.ChangeShapes Go.WideShapes Go.ChangeAt Go.RowKit

def okB (a b : Int) : Bool := decide (0 ≤ a ∧ a ≤ 65535 ∧ 0 ≤ b ∧ b ≤ 65535)
def bputE (N : Nat) (q : List (Int × Int)) (a b : Int) : Int := if okB a b = false then 2 else if q.length = N then 5 else 0
def bputQ (N : Nat) (q : List (Int × Int)) (a b : Int) : List (Int × Int) := if okB a b = false then q else if q.length = N then q else q ++ [(a, b)]

set_option maxRecDepth 100000 in
set_option maxHeartbeats 400000 in
theorem bput_nil (a b : Int) (w : World) :
    Calls Try.prog 55 #[.pointer none, .int .i64 a, .int .i64 b] w fun e w' => e = .returned (.int .i64 1) ∧ w = w' := by
  go_enter Try.func55, Try.ntmps55
  go_wp2
  go_ret
  exact ⟨rfl, rfl⟩

set_option maxRecDepth 100000 in
set_option maxHeartbeats 400000 in
theorem bput_bad (g : Nat) (h : Option Nat) (N : Nat) (q : List (Int × Int)) (a b : Int) (w : World) (r : BufQ w g h N q) (hbad : ¬ (0 ≤ a ∧ a ≤ 65535 ∧ 0 ≤ b ∧ b ≤ 65535)) :
    Calls Try.prog 55 #[ptr g, .int .i64 a, .int .i64 b] w (BufP g h N q (.int .i64 2) w) := by
  have R := Lib.hid r
  clear r
  have k := Lib.hid (of_no a b w hbad)
  clear hbad
  unfold ptr
  go_enter Try.func55, Try.ntmps55
  go_wp2_with (go_at_call 80; refine k.out.mono ?_; rintro e w' ⟨rfl, rfl⟩)
  go_ret
  exact ⟨h, rfl, R.out, Only.refl _ _, fun b hb => .inl hb⟩

set_option maxRecDepth 100000 in
set_option maxHeartbeats 400000 in
theorem bput_full (g : Nat) (h : Option Nat) (N : Nat) (q : List (Int × Int)) (a b : Int) (w : World) (r : BufQ w g h N q) (hok : okC a b) (hfull : q.length = N) :
    Calls Try.prog 55 #[ptr g, .int .i64 a, .int .i64 b] w (BufP g h N q (.int .i64 5) w) := by
  have R := Lib.hid r
  obtain ⟨A, c, r⟩ := r
  have hc0 : w.cell? ⟨g, 0, none⟩ = some (.int .i64 N) := r.top.cell 0
  have hc1 : w.cell? ⟨g, 1, none⟩ = some (.slice A N c) := by have := r.top.cell 1; rw [hfull] at this; exact this
  have k := Lib.hid (of_yes a b w hok.1 hok.2.1 hok.2.2.1 hok.2.2.2)
  have hb : ((N : Int) == (N : Int)) = true := by simp
  clear hok r hfull
  unfold ptr
  go_enter Try.func55, Try.ntmps55
  go_wp2_with (go_at_call 80; refine k.out.mono ?_; rintro e w' ⟨rfl, rfl⟩)
  go_quiet (fail)
  go_wp2
  go_ret
  exact ⟨h, rfl, R.out.below (below_q w _), Only.of_below (below_q w _) _, fun b hb => .inl hb⟩

/-- The memory of a row of the call's own. -/
theorem mem_of_own {w : World} {base n : Nat} {v : Value} {q : List (Int × Int)} (h : w.ownsRow base 112 1 v n (cvs q)) (hn : 0 < n) :
    ∃ b cap, v = .slice (some ⟨b, 0, none⟩) n cap ∧ base ≤ b ∧ b < w.heap.size ∧ n ≤ cap ∧ BufMem w (some ⟨b, 0, none⟩) cap (some b) q := by
  rcases h.2 with ⟨_, h0⟩ | ⟨b, cap, cur, hv, hb, hg, hc, hm, hs, ht⟩
  · omega
  · refine ⟨b, cap, hv, hb, (Array.getElem?_eq_some_iff.1 hg).1, hc, .inr ⟨b, 0, cur.toList, rfl, rfl, by unfold Row; simpa using hg, by simp [hs], fun j u hu => ?_⟩⟩
    rw [← ht, List.getElem?_take] at hu
    rw [Nat.zero_add]
    split at hu
    · exact hu
    · cases hu

theorem cell_new_c (w : World) (m : Nat) (u : Value) (t : TypeId) : ∀ j u', [u][j]? = some u' → ((w.drewN m).alloc (.cells #[u] t)).cell? ((⟨w.heap.size, 0, none⟩ : Addr).add j) = some u' := by
  intro j u' h
  have := Row.cell (Row.new (w.drewN m) t #[u]) (0 + j)
  rw [Addr.add_lit]
  rw [Nat.zero_add] at this ⊢
  exact this.trans h

theorem cell_parts (a b : Int) : ∃ X Y, cellV a b = .complex .f64 X Y := ⟨_, _, rfl⟩

set_option maxRecDepth 100000 in
set_option maxHeartbeats 1000000 in
theorem bput_grow (g : Nat) (h : Option Nat) (N : Nat) (A : Option Addr) (c : Nat) (q : List (Int × Int)) (a b : Int) (w : World) (r : BufAt w g h N A c q) (hok : okC a b) (hroom : q.length < N) (hfull : c < q.length + 1) :
    Calls Try.prog 55 #[ptr g, .int .i64 a, .int .i64 b] w (BufP g h N (q ++ [(a, b)]) (.int .i64 0) w) := by
  obtain ⟨i0, hi0, hz0, hz1, hz2⟩ := info_parts cpx_info
  obtain ⟨n, hn⟩ : ∃ n, q.length = n := ⟨_, rfl⟩
  have hc0 : w.cell? ⟨g, 0, none⟩ = some (.int .i64 N) := r.top.cell 0
  have hc1 : w.cell? ⟨g, 1, none⟩ = some (.slice A n c) := by rw [← hn]; exact r.top.cell 1
  obtain ⟨X, Y, hXY⟩ := cell_parts a b
  have k := of_yes a b w hok.1 hok.2.1 hok.2.2.1 hok.2.2.2
  rw [hXY] at k
  have e3 : cvs q ++ [.complex .f64 X Y] = cvs (q ++ [(a, b)]) := by rw [cvs_append, ← hXY]; rfl
  have K := Lib.hid k; clear k hXY
  have E3 := Lib.hid e3; clear e3
  have hmost := r.most
  have hnone : A = none → n = 0 ∧ c = 0 := fun e => by have := r.none_ e; have := r.cap; omega
  have holds : ∀ W, Below w.heap.size w W → ∀ ad, A = some ad → ∀ j u, (cvs q)[j]? = some u → W.cell? (ad.add j) = some u := by
    intro W hb ad hA j u hu
    obtain ⟨A', c', hv, hL⟩ := r.lies.below hb
    injection hv with e1 e2 e3
    subst e1
    obtain ⟨g1, o1, hA1, _, _, hc⟩ := hL (by have := (List.getElem?_eq_some_iff.1 hu).1; omega)
    rw [hA] at hA1
    injection hA1 with hA1
    subst hA1
    rw [Addr.add_lit]
    exact hc j u hu
  have hgl := r.top.lt
  rw [hn] at hroom hfull
  have hb : ((n : Int) == (N : Int)) = false := by simp; omega
  have hl : (cvs q).length = n * 1 := by rw [cvs_len, hn, Nat.mul_one]
  have HNone := Lib.hid hnone; clear hnone
  have HOlds := Lib.hid holds; clear holds
  have HL := Lib.hid hl; clear hl
  have HN := Lib.hid hn; clear hn
  have RR := Lib.hid r; clear r
  have HK := Lib.hid hok; clear hok
  unfold ptr
  go_enter Try.func55, Try.ntmps55
  go_wp2_with (go_at_call 80; refine K.out.mono ?_; rintro e w' ⟨rfl, rfl⟩)
  go_quiet (fail)
  go_wp2_with (at_builtin
               refine wpList_append_grows _ rfl (.tmp 35) (.tmp 37) 55 rfl 112 i0 _ 1 16 Try.underlying55 hi0 hz0 hz1 hz2 rfl (by omega) A n c (cvs q) rfl HNone.out HL.out (HOlds.out _ (below_on (below_q _ _) (below_al _ _))) ⟨w.heap.size, 0, none⟩ 1 1 [.complex .f64 X Y] rfl rfl (cell_new_c _ _ _ _) (by intro u hu; simp at hu; subst hu; rfl) hfull (by unfold maxLen; omega) (by omega) ?_
               intro v3 w3 hown3 hg3
               have hb3 : Below w.heap.size w w3 := below_on (below_on (below_q _ _) (below_al _ _)) (gr_none hg3)
               rw [E3.out] at hown3
               obtain ⟨b', cap', rfl, hbb, hlt', hcap', hmem⟩ := mem_of_own hown3 (by omega)
               have hbb' : w.heap.size ≤ b' := (by simp at hbb; omega)
               have t3 := RR.out.top.below hb3
               have d1 := t3.cell 1
               have s1 := t3.soft 1
               simp only [List.getElem?_cons_zero, List.getElem?_cons_succ] at d1
               have HM := Lib.hid hmem
               have HB := Lib.hid hb3
               clear hg3 hown3 hb3 t3 hmem hbb)
  go_ret
  have ho : Only (fun b => b = g ∨ h = some b) w3 (w3.setCell ⟨g, 1, none⟩ (.slice (some ⟨b', 0, none⟩) (n + 1) cap')) := (Only.refl _ w3).setCell (.inl (.inl rfl)) _
  have ho' : Only (fun b => b = g) w3 (w3.setCell ⟨g, 1, none⟩ (.slice (some ⟨b', 0, none⟩) (n + 1) cap')) := (Only.refl (fun b => b = g) w3).setCell (p := ⟨g, 1, none⟩) (.inl rfl) _
  refine ⟨some b', rfl, ⟨_, cap', ?_, HM.out.only ho' (fun x hx => by injection hx with hx; omega), RR.out.good.snoc HK.out, RR.out.pos, RR.out.most, by simp [HN.out]; omega, by simp [HN.out]; omega, fun e => by cases e⟩, (Only.of_below HB.out _).trans ho, fun x hx => .inr (by injection hx with hx; omega)⟩
  rw [List.length_append, HN.out]
  exact (RR.out.top.below HB.out).put 1 _

set_option maxRecDepth 100000 in
set_option maxHeartbeats 1000000 in
theorem bput_spare (g : Nat) (h : Option Nat) (N : Nat) (A : Option Addr) (c : Nat) (q : List (Int × Int)) (a b : Int) (w : World) (r : BufAt w g h N A c q) (hok : okC a b) (hroom : q.length < N) (hsp : q.length + 1 ≤ c) :
    Calls Try.prog 55 #[ptr g, .int .i64 a, .int .i64 b] w (BufP g h N (q ++ [(a, b)]) (.int .i64 0) w) := by
  obtain ⟨i0, hi0, hz0, hz1, hz2⟩ := info_parts cpx_info
  obtain ⟨n, hn⟩ : ∃ n, q.length = n := ⟨_, rfl⟩
  rcases r.mem with ⟨h0, _⟩ | ⟨bk, off, cs, hh, rfl, hrow, hlen, hcs⟩
  · omega
  have hc0 : w.cell? ⟨g, 0, none⟩ = some (.int .i64 N) := r.top.cell 0
  have hc1 : w.cell? ⟨g, 1, none⟩ = some (.slice (some ⟨bk, off, none⟩) n c) := by rw [← hn]; exact r.top.cell 1
  obtain ⟨X, Y, hXY⟩ := cell_parts a b
  have k := of_yes a b w hok.1 hok.2.1 hok.2.2.1 hok.2.2.2
  rw [hXY] at k
  have e3 : cvs q ++ [.complex .f64 X Y] = cvs (q ++ [(a, b)]) := by rw [cvs_append, ← hXY]; rfl
  have K := Lib.hid k; clear k hXY
  have E3 := Lib.hid e3; clear e3
  have hmost := r.most
  have hgl := r.top.lt
  have hbl := hrow.lt
  have hgb : g ≠ bk := r.top.ne hrow (by decide)
  rw [hn] at hroom hsp
  have hb : ((n : Int) == (N : Int)) = false := by simp; omega
  have hl : (cvs q).length = n * 1 := by rw [cvs_len, hn, Nat.mul_one]
  have HL := Lib.hid hl; clear hl
  have HN := Lib.hid hn; clear hn
  have RR := Lib.hid r; clear r
  have HK := Lib.hid hok; clear hok
  have HRow := Lib.hid hrow; clear hrow
  have HCs := Lib.hid hcs; clear hcs
  have HLen := Lib.hid hlen; clear hlen
  unfold ptr
  go_enter Try.func55, Try.ntmps55
  go_wp2_with (go_at_call 80; refine K.out.mono ?_; rintro e w' ⟨rfl, rfl⟩)
  go_quiet (fail)
  go_wp2_with (at_builtin
               refine wpList_append_arg _ rfl (.tmp 35) (.tmp 37) 55 rfl 112 i0 _ 1 16 Try.underlying55 hi0 hz0 hz1 hz2 rfl (by omega) bk off n c (cvs q) rfl HL.out (fun j u hu => by rw [(HRow.out.below (below_on (below_q _ _) (below_al _ _))).cell]; exact HCs.out j u hu) ⟨w.heap.size, 0, none⟩ 1 1 [.complex .f64 X Y] rfl rfl (cell_new_c _ _ _ _) (by intro u hu; simp at hu; subst hu; rfl) (fun _ j hj => ⟨by rw [(HRow.out.below (below_on (below_q _ _) (below_al _ _))).cell]; simp at hj; simp; have := HLen.out; omega, (HRow.out.below (below_on (below_q _ _) (below_al _ _))).soft _⟩) (by unfold maxLen; omega) (by omega) (fun _ => ?_) (fun hx => absurd hx (by omega))
               generalize hW3 : World.setCells _ _ _ _ = w3
               simp only [World.setCells, Nat.mul_one] at hW3
               have rb : Row w3 bk 112 (cs.set (off + n) (.complex .f64 X Y)) := (by rw [← hW3]; exact (HRow.out.below (below_on (below_q _ _) (below_al _ _))).put _ _)
               have rg : Row w3 g 119 [.int .i64 N, .slice (some ⟨bk, off, none⟩) q.length c] := (by rw [← hW3]; exact (RR.out.top.below (below_on (below_q _ _) (below_al _ _))).far hgb _)
               have ho3 : Only (fun b => b = g ∨ h = some b) w w3 := (by rw [← hW3]; exact (Only.of_below (below_on (below_q _ _) (below_al _ _)) _).setCell (.inl (.inr hh)) _)
               have d1 := rg.cell 1
               have s1 := rg.soft 1
               simp only [List.getElem?_cons_zero, List.getElem?_cons_succ] at d1
               have RB := Lib.hid rb
               have RG := Lib.hid rg
               have HO := Lib.hid ho3
               clear hW3 rb rg ho3)
  go_ret
  have ho : Only (fun b => b = g ∨ h = some b) w3 (w3.setCell ⟨g, 1, none⟩ (.slice (some ⟨bk, off, none⟩) (n + 1) c)) := (Only.refl _ w3).setCell (.inl (.inl rfl)) _
  refine ⟨h, rfl, ⟨_, c, ?_, .inr ⟨bk, off, _, hh, rfl, RB.out.far (p := ⟨g, 1, none⟩) (fun e => hgb e.symm) _, by rw [List.length_set]; exact HLen.out, ?_⟩, RR.out.good.snoc HK.out, RR.out.pos, RR.out.most, by simp [HN.out]; omega, by simp [HN.out]; omega, fun e => by cases e⟩, HO.out.trans ho, fun x hx => .inl hx⟩
  · rw [List.length_append, HN.out]
    exact RG.out.put 1 _
  · intro j u hu
    have hl := HL.out
    have hcl := HLen.out
    rw [Nat.mul_one] at hl
    rw [← E3.out] at hu
    by_cases hj : j < n
    · rw [List.getElem?_append_left (by omega)] at hu
      rw [List.getElem?_set_ne (by omega)]
      exact HCs.out j u hu
    · rw [List.getElem?_append_right (by omega), hl] at hu
      obtain ⟨hj1, hj2⟩ := List.getElem?_eq_some_iff.1 hu
      simp at hj1
      have hjn : j = n := by omega
      subst hjn
      rw [List.getElem?_set_self (by omega)]
      simpa using hu

theorem bput_room (g : Nat) (h : Option Nat) (N : Nat) (q : List (Int × Int)) (a b : Int) (w : World) (r : BufQ w g h N q) (hok : okC a b) (hroom : q.length < N) :
    Calls Try.prog 55 #[ptr g, .int .i64 a, .int .i64 b] w (BufP g h N (q ++ [(a, b)]) (.int .i64 0) w) := by
  obtain ⟨A, c, r⟩ := r
  by_cases hc : c < q.length + 1
  · exact bput_grow g h N A c q a b w r hok hroom hc
  · exact bput_spare g h N A c q a b w r hok hroom (by omega)

theorem bput_any (g : Nat) (h : Option Nat) (N : Nat) (q : List (Int × Int)) (a b : Int) (w : World) (r : BufQ w g h N q) :
    Calls Try.prog 55 #[ptr g, .int .i64 a, .int .i64 b] w (BufP g h N (bputQ N q a b) (.int .i64 (bputE N q a b)) w) := by
  unfold bputQ bputE
  by_cases hok : okB a b = false
  · rw [if_pos hok, if_pos hok]
    exact bput_bad g h N q a b w r (by simpa [okB] using hok)
  · have hok' : okC a b := by unfold okC; simpa [okB] using hok
    rw [if_neg hok, if_neg hok]
    by_cases hf : q.length = N
    · rw [if_pos hf, if_pos hf]
      exact bput_full g h N q a b w r hok' hf
    · rw [if_neg hf, if_neg hf]
      exact bput_room g h N q a b w r hok' (by have := r.fit.1; omega)

#print axioms bput_any
end Go.Proofs.Ytgoogclcpnfmkaa
