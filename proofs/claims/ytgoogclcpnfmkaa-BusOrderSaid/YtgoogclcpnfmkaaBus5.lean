/-
  Layer 6 (bus): the requests (closures) of Fence, Drain, Lose, Waits, Swap.
  Conditions: those that each theorem states.
-/
import Derived.Test.YtgoogclcpnfmkaaBus4
namespace Go.Proofs.Ytgoogclcpnfmkaa
open Go.ChangeShapes Go.WideShapes Go.ChangeAt Go.RowKit

/-- What a request leaves that tells a value in a variable of the method's (block c, type t): its error, the value, and the bus. -/
def CloP (L : Lay) (N : Nat) (l : List Int) (qs : List (List (Int × Int))) (c : Nat) (t : TypeId) (v : Value) (z : Int) (w : World) (e : Ending) (w' : World) : Prop :=
  ∃ f, e = .returned (.int .i64 z) ∧ BusAt w' (L.up f) N l qs ∧ Row w' c t [v] ∧ Ext L f w ∧ Only (fun b => L.fp qs.length b ∨ b = c) w w'

/-- A store into a variable that is not the bus's. -/
theorem BusAt.setVar {w : World} {L : Lay} {N : Nat} {l : List Int} {qs : List (List (Int × Int))} (r : BusAt w L N l qs) {c : Nat} (hc : ¬ L.fp qs.length c) (j : Nat) (u : Value) : BusAt (w.setCell ⟨c, j, none⟩ u) L N l qs :=
  r.only (S := fun b => b = c) ((Only.refl (fun b => b = c) w).setCell (p := ⟨c, j, none⟩) (.inl rfl) u) (fun _ hb e => hc (e ▸ hb))

theorem Ext.not {L : Lay} {f : Nat → Option Nat} {w : World} (h : Ext L f w) {n c : Nat} (hc : ¬ L.fp n c) (hlt : c < w.heap.size) : ¬ (L.up f).fp n c := fun hb => (h.fp hb).elim hc (fun h => by omega)

theorem clo_of {L : Lay} {N : Nat} {l : List Int} {qs : List (List (Int × Int))} {c : Nat} {t : TypeId} {v0 v : Value} {w w1 : World} {f : Nat → Option Nat} (hc : Row w c t [v0]) (hn : ¬ L.fp qs.length c)
    (hr : BusAt w1 (L.up f) N l qs) (he : Ext L f w) (ho : Only (L.fp qs.length) w w1) (z : Int) : CloP L N l qs c t v z w (.returned (.int .i64 z)) (w1.setCell ⟨c, 0, none⟩ v) :=
  ⟨f, rfl, hr.setVar (he.not hn hc.lt) 0 v, (hc.only ho hn).put 0 v, he, (ho.mono (fun _ _ h => .inl h)).setCell (.inl (.inr rfl)) v⟩

set_option maxRecDepth 100000 in
set_option maxHeartbeats 1000000 in
theorem fenceC_any (L : Lay) (N : Nat) (l : List Int) (qs : List (List (Int × Int))) (i : Nat) (q : List (Int × Int)) (v0 : Int) (cb cn : Nat) (w : World) (r : BusAt w L N l qs) (hq : qs[i]? = some q)
    (c1 : Row w cb 25 [ptr L.g]) (c2 : Row w cn 3 [.int .i64 v0]) (n2 : ¬ L.fp qs.length cn) :
    Calls Try.prog 59 #[ptr (L.gf i), ptr cb, ptr cn] w (CloP L N (drs l q) (qs.set i []) cn 3 (.int .i64 q.length) 0 w) := by
  have d1 : w.cell? ⟨cb, 0, none⟩ = some (.pointer (some ⟨L.g, 0, none⟩)) := c1.cell 0
  have dr := Lib.hid (drainAll_any L N l qs i q w r hq)
  have C2 := Lib.hid c2
  clear r c1 c2
  unfold ptr at dr ⊢
  go_enter Try.func59, Try.ntmps59
  go_wp2_with (go_at_call 60
               refine dr.out.mono ?_
               rintro e w1 ⟨f1, rfl, hr1, he1, ho1⟩
               have k2 : w1.cell? ⟨cn, 0, none⟩ = some (.int .i64 v0) := (C2.out.only ho1 (by rw [List.length_set]; exact n2)).cell 0
               have s2 := (C2.out.only ho1 (by rw [List.length_set]; exact n2)).soft 0
               have R1 := Lib.hid hr1
               have HE1 := Lib.hid he1
               have HO1 := Lib.hid ho1
               clear hr1 he1 ho1)
  go_ret
  exact clo_of C2.out (by rw [List.length_set]; exact n2) R1.out HE1.out HO1.out 0

set_option maxRecDepth 100000 in
set_option maxHeartbeats 1000000 in
theorem drainC_any (L : Lay) (N : Nat) (l : List Int) (qs : List (List (Int × Int))) (i : Nat) (q : List (Int × Int)) (v0 : Bool) (cb cn : Nat) (w : World) (r : BusAt w L N l qs) (hq : qs[i]? = some q)
    (c1 : Row w cb 25 [ptr L.g]) (c2 : Row w cn 4 [.bool v0]) (n2 : ¬ L.fp qs.length cn) :
    Calls Try.prog 72 #[ptr (L.gf i), ptr cb, ptr cn] w (CloP L N (drs l (q.take 1)) (qs.set i (q.drop 1)) cn 4 (.bool (anyB q)) 0 w) := by
  have d1 : w.cell? ⟨cb, 0, none⟩ = some (.pointer (some ⟨L.g, 0, none⟩)) := c1.cell 0
  have dr := Lib.hid (drain_any L N l qs i q w r hq)
  have C2 := Lib.hid c2
  clear r c1 c2
  unfold ptr at dr ⊢
  go_enter Try.func72, Try.ntmps72
  go_wp2_with (go_at_call 54
               refine dr.out.mono ?_
               rintro e w1 ⟨f1, rfl, hr1, he1, ho1⟩
               have k2 : w1.cell? ⟨cn, 0, none⟩ = some (.bool v0) := (C2.out.only ho1 (by rw [List.length_set]; exact n2)).cell 0
               have s2 := (C2.out.only ho1 (by rw [List.length_set]; exact n2)).soft 0
               have R1 := Lib.hid hr1
               have HE1 := Lib.hid he1
               have HO1 := Lib.hid ho1
               clear hr1 he1 ho1)
  go_ret
  exact clo_of C2.out (by rw [List.length_set]; exact n2) R1.out HE1.out HO1.out 0

set_option maxRecDepth 100000 in
set_option maxHeartbeats 1000000 in
theorem loseC_any (L : Lay) (N : Nat) (l : List Int) (qs : List (List (Int × Int))) (i : Nat) (q : List (Int × Int)) (v0 : Int) (cn : Nat) (w : World) (r : BusAt w L N l qs) (hq : qs[i]? = some q)
    (c2 : Row w cn 3 [.int .i64 v0]) (n2 : ¬ L.fp qs.length cn) :
    Calls Try.prog 75 #[ptr (L.gf i), ptr cn] w (CloP L N l (qs.set i []) cn 3 (.int .i64 q.length) 0 w) := by
  have hi := lt_of_at hq
  have cl := Lib.hid (bclear_any (L.gf i) (L.hf i) N q w (r.buf i q hq))
  have C2 := Lib.hid c2
  have R := Lib.hid r
  clear r c2
  unfold ptr at cl ⊢
  go_enter Try.func75, Try.ntmps75
  go_wp2_with (go_at_call 76
               refine cl.out.mono ?_
               rintro e w1 ⟨h', rfl, hb, ho, hh⟩
               have ho1 : Only (L.fp qs.length) w w1 := ho.mono (fun b _ hb => hb.elim (fun e => e ▸ L.fp_gf hi) (fun e => L.fp_hf hi e))
               have k2 : w1.cell? ⟨cn, 0, none⟩ = some (.int .i64 v0) := (C2.out.only ho1 n2).cell 0
               have s2 := (C2.out.only ho1 n2).soft 0
               have R1 := Lib.hid (R.out.putBuf hi hb ho hh (fun p hp => by simp at hp))
               have HE1 := Lib.hid (Ext.one hh)
               have HO1 := Lib.hid ho1
               clear hb ho hh ho1)
  go_ret
  exact clo_of C2.out (by rw [List.length_set]; exact n2) R1.out HE1.out (by rw [List.length_set]; exact HO1.out) 0

/-- What the request of Waits leaves: the stores as a list in a new block. -/
def WaitC (c : Nat) (q : List (Int × Int)) (w : World) (e : Ending) (w' : World) : Prop :=
  ∃ b, e = .returned (.int .i64 0) ∧ Row w' c 55 [.slice (some ⟨b, 0, none⟩) q.length q.length] ∧ Row w' b 112 (cvs q) ∧ w.heap.size ≤ b ∧ Only (fun b => b = c) w w'

set_option maxRecDepth 100000 in
set_option maxHeartbeats 1000000 in
theorem waitC_any (g : Nat) (h : Option Nat) (N : Nat) (q : List (Int × Int)) (cn : Nat) (w : World) (r : BufQ w g h N q)
    (c2 : Row w cn 55 [.slice none 0 0]) :
    Calls Try.prog 63 #[ptr g, ptr cn] w (WaitC cn q w) := by
  have al := Lib.hid (ball_any g h N q w r)
  have C2 := Lib.hid c2
  clear r c2
  unfold ptr at al ⊢
  go_enter Try.func63, Try.ntmps63
  go_wp2_with (go_at_call 64
               refine al.out.mono ?_
               rintro e w1 ⟨b, rfl, hr, hlt, hb⟩
               have k2 : w1.cell? ⟨cn, 0, none⟩ = some (.slice none 0 0) := (C2.out.below hb).cell 0
               have s2 := (C2.out.below hb).soft 0
               have HR := hr
               have HB := Lib.hid hb
               have HLT := Lib.hid hlt
               clear hr hb hlt)
  go_ret
  have hcl := C2.out.lt
  have hlt := HLT.out
  exact ⟨b, rfl, (C2.out.below HB.out).put 0 _, HR.out.far (p := ⟨cn, 0, none⟩) (by show b ≠ cn; omega) _, hlt, (Only.of_below HB.out (fun b => b = cn)).setCell (p := ⟨cn, 0, none⟩) (.inl rfl) _⟩

/-- The words and what is told behind a Swap. -/
def swL (l : List Int) (q : List (Int × Int)) (a x : Int) : List Int := if fillE l.length a 1 x = 0 then fillL (drs l q) a 1 x else l
def swQ (l : List Int) (q : List (Int × Int)) (a x : Int) : List (Int × Int) := if fillE l.length a 1 x = 0 then [] else q
def swV (l : List Int) (q : List (Int × Int)) (a x : Int) : Int := if fillE l.length a 1 x = 0 then loadV (drs l q) a else 0

set_option maxRecDepth 100000 in
set_option maxHeartbeats 1000000 in
theorem swapC_bad (L : Lay) (N : Nat) (l : List Int) (qs : List (List (Int × Int))) (i : Nat) (a x v0 : Int) (cb ca cx cn : Nat) (w : World) (r : BusAt w L N l qs)
    (c1 : Row w cb 25 [ptr L.g]) (c2 : Row w ca 3 [.int .i64 a]) (c3 : Row w cx 3 [.int .i64 x]) (c4 : Row w cn 3 [.int .i64 v0]) (hE : fillE l.length a 1 x ≠ 0) :
    Calls Try.prog 73 #[ptr (L.gf i), ptr cb, ptr ca, ptr cx, ptr cn] w (CloP L N l qs cn 3 (.int .i64 v0) (fillE l.length a 1 x) w) := by
  have d1 : w.cell? ⟨cb, 0, none⟩ = some (.pointer (some ⟨L.g, 0, none⟩)) := c1.cell 0
  have d2 : w.cell? ⟨ca, 0, none⟩ = some (.int .i64 a) := c2.cell 0
  have d3 : w.cell? ⟨cx, 0, none⟩ = some (.int .i64 x) := c3.cell 0
  have ck := Lib.hid (check6_any L N l qs a x w r)
  obtain ⟨z, hz⟩ : ∃ z, fillE l.length a 1 x = z := ⟨_, rfl⟩
  rw [hz] at ck hE ⊢
  have hb : (z != 0) = true := by simpa using hE
  have R := Lib.hid r
  have C4 := Lib.hid c4
  clear r c1 c2 c3 hz hE c4
  unfold ptr at ck ⊢
  go_enter Try.func73, Try.ntmps73
  go_wp2_with (go_at_call 51; refine ck.out.mono ?_; rintro e w' ⟨rfl, rfl⟩)
  go_ret
  exact ⟨L.hf, rfl, R.out, C4.out, Ext.refl _ _, Only.refl _ _⟩

theorem swap_mid {L : Lay} {N : Nat} {l : List Int} {qs : List (List (Int × Int))} {f1 : Nat → Option Nat} {n : Nat} {w w1 w2 : World} {cb ca cx cn : Nat} {a x v0 : Int} {m : Nat} {u : Value} (hW : (w1.drewN m).setCell ⟨cn, 0, none⟩ u = w2)
    (r1 : BusAt w1 (L.up f1) N l qs) (he1 : Ext L f1 w) (ho1 : Only (L.fp n) w w1) (hn : qs.length = n)
    (c1 : Row w cb 25 [ptr L.g]) (c2 : Row w ca 3 [.int .i64 a]) (c3 : Row w cx 3 [.int .i64 x]) (c4 : Row w cn 3 [.int .i64 v0])
    (n1 : ¬ L.fp n cb) (n2 : ¬ L.fp n ca) (n3 : ¬ L.fp n cx) (n4 : ¬ L.fp n cn) (m1 : cb ≠ cn) (m2 : ca ≠ cn) (m3 : cx ≠ cn) :
    BusAt w2 (L.up f1) N l qs ∧ Row w2 cn 3 [u] ∧ Only (fun b => L.fp n b ∨ b = cn) w w2 ∧ w2.cell? ⟨cb, 0, none⟩ = some (.pointer (some ⟨L.g, 0, none⟩)) ∧ w2.cell? ⟨ca, 0, none⟩ = some (.int .i64 a) ∧ w2.cell? ⟨cx, 0, none⟩ = some (.int .i64 x) := by
  subst hW
  subst hn
  refine ⟨(r1.below (below_q w1 _)).setVar (he1.not n4 c4.lt) 0 u, ((c4.only ho1 n4).drewN m).put 0 u, ((ho1.mono (fun _ _ h => .inl h)).drewN m).setCell (.inl (.inr rfl)) u, ?_, ?_, ?_⟩
  · exact (((c1.only ho1 n1).drewN m).far (p := ⟨cn, 0, none⟩) m1 u).cell 0
  · exact (((c2.only ho1 n2).drewN m).far (p := ⟨cn, 0, none⟩) m2 u).cell 0
  · exact (((c3.only ho1 n3).drewN m).far (p := ⟨cn, 0, none⟩) m3 u).cell 0

theorem swap_fin {L : Lay} {N : Nat} {l : List Int} {qs : List (List (Int × Int))} {f1 : Nat → Option Nat} {n : Nat} {w w2 w3 : World} {cn : Nat} {a x : Int} {m : Nat} {u : Value} (hn : qs.length = n) (n4 : ¬ L.fp n cn) (he1 : Ext L f1 w)
    (r2 : BusAt w2 (L.up f1) N l qs) (g2 : Row w2 cn 3 [u]) (o2 : Only (fun b => L.fp n b ∨ b = cn) w w2) (hr : RamAt w3 L.rg L.rh (fillL l a 1 x)) (hg : (w2.drewN m).grownBy w3 (some L.rh)) :
    CloP L N (fillL l a 1 x) qs cn 3 u 0 w (.returned (.int .i64 0)) w3 := by
  subst hn
  exact ⟨f1, rfl, (r2.below (below_q w2 m)).putRam hr (Only.of_gr hg rfl) (fillL_len _ _ _ _), (g2.drewN m).of_grown hg (fun e => n4 (by injection e with e; rw [e]; exact L.fp_rh _)), he1, (o2.drewN m).trans (Only.of_gr hg (.inl (L.fp_rh _)))⟩

set_option maxRecDepth 100000 in
set_option maxHeartbeats 2000000 in
theorem swapC_ok (L : Lay) (N : Nat) (l : List Int) (qs : List (List (Int × Int))) (i : Nat) (q : List (Int × Int)) (a x v0 : Int) (cb ca cx cn : Nat) (w : World) (r : BusAt w L N l qs) (hq : qs[i]? = some q)
    (c1 : Row w cb 25 [ptr L.g]) (c2 : Row w ca 3 [.int .i64 a]) (c3 : Row w cx 3 [.int .i64 x]) (c4 : Row w cn 3 [.int .i64 v0])
    (n1 : ¬ L.fp qs.length cb) (n2 : ¬ L.fp qs.length ca) (n3 : ¬ L.fp qs.length cx) (n4 : ¬ L.fp qs.length cn) (m2 : ca ≠ cn) (m3 : cx ≠ cn) (hE : fillE l.length a 1 x = 0) :
    Calls Try.prog 73 #[ptr (L.gf i), ptr cb, ptr ca, ptr cx, ptr cn] w (CloP L N (fillL (drs l q) a 1 x) (qs.set i []) cn 3 (.int .i64 (loadV (drs l q) a)) 0 w) := by
  have d1 : w.cell? ⟨cb, 0, none⟩ = some (.pointer (some ⟨L.g, 0, none⟩)) := c1.cell 0
  have d2 : w.cell? ⟨ca, 0, none⟩ = some (.int .i64 a) := c2.cell 0
  have d3 : w.cell? ⟨cx, 0, none⟩ = some (.int .i64 x) := c3.cell 0
  have m1 : cb ≠ cn := c1.ne c4 (by decide)
  have m5 : L.g ≠ cn := fun e => n4 (e ▸ L.fp_g _)
  have ck := check6_any L N l qs a x w r
  rw [hE] at ck
  have CK := Lib.hid ck
  have dr := Lib.hid (drainAll_any L N l qs i q w r hq)
  have hE2 : fillE (drs l q).length a 1 x = 0 := by rw [drs_len]; exact hE
  have HE2 := Lib.hid hE2
  have C1 := Lib.hid c1
  have C2 := Lib.hid c2
  have C3 := Lib.hid c3
  have C4 := Lib.hid c4
  clear r c1 c2 c3 c4 ck hE hE2
  unfold ptr at CK dr ⊢
  go_enter Try.func73, Try.ntmps73
  go_wp2_with (first
    | (go_at_call 51; refine CK.out.mono ?_; rintro e w' ⟨rfl, rfl⟩)
    | (go_at_call 60
       refine dr.out.mono ?_
       rintro e w1 ⟨f1, rfl, hr1, he1, ho1⟩
       rw [List.length_set] at ho1
       have k1 : w1.cell? ⟨cb, 0, none⟩ = some (.pointer (some ⟨L.g, 0, none⟩)) := (C1.out.only ho1 n1).cell 0
       have k2 : w1.cell? ⟨ca, 0, none⟩ = some (.int .i64 a) := (C2.out.only ho1 n2).cell 0
       have k3 : w1.cell? ⟨cx, 0, none⟩ = some (.int .i64 x) := (C3.out.only ho1 n3).cell 0
       have k4 : w1.cell? ⟨cn, 0, none⟩ = some (.int .i64 v0) := (C4.out.only ho1 n4).cell 0
       have k5 : w1.cell? ⟨L.g, 0, none⟩ = some (.pointer (some ⟨L.rg, 0, none⟩)) := hr1.top.cell 0
       have s4 := (C4.out.only ho1 n4).soft 0
       have R1 := Lib.hid hr1
       have HE1 := Lib.hid he1
       have HO1 := Lib.hid ho1
       clear hr1 he1 ho1))
  go_region_with (go_at_call 58; refine (load_any L.rg L.rh (drs l q) a (w1.drewN _) (R1.out.ram.below (below_q w1 _))).mono ?_; rintro e w' ⟨rfl, rfl⟩)
  all_goals go_wp2
  all_goals
    generalize hW2 : World.setCell (w1.drewN _) _ _ = w2
    obtain ⟨r2, g2, o2, e1, e2, e3⟩ := swap_mid hW2 R1.out HE1.out HO1.out List.length_set C1.out C2.out C3.out C4.out n1 n2 n3 n4 m1 m2 m3
    have e5 : w2.cell? ⟨L.g, 0, none⟩ = some (.pointer (some ⟨L.rg, 0, none⟩)) := r2.top.cell 0
    have R2 := Lib.hid r2
    have G2 := Lib.hid g2
    have O2 := Lib.hid o2
    clear r2 g2 o2 hW2 k1 k2 k3 k4 k5 s4
    go_region_with (go_at_call 74; refine (store_any L.rg L.rh (drs l q) a x (w2.drewN _) (R2.out.ram.below (below_q w2 _))).mono ?_; rintro e w3 ⟨rfl, hr3, hg3⟩)
    all_goals go_wp2
    all_goals go_ret
    all_goals rw [HE2.out]
    all_goals exact swap_fin List.length_set n4 HE1.out R2.out G2.out O2.out hr3 hg3

theorem swapC_any (L : Lay) (N : Nat) (l : List Int) (qs : List (List (Int × Int))) (i : Nat) (q : List (Int × Int)) (a x : Int) (cb ca cx cn : Nat) (w : World) (r : BusAt w L N l qs) (hq : qs[i]? = some q)
    (c1 : Row w cb 25 [ptr L.g]) (c2 : Row w ca 3 [.int .i64 a]) (c3 : Row w cx 3 [.int .i64 x]) (c4 : Row w cn 3 [.int .i64 0])
    (n1 : ¬ L.fp qs.length cb) (n2 : ¬ L.fp qs.length ca) (n3 : ¬ L.fp qs.length cx) (n4 : ¬ L.fp qs.length cn) (m2 : ca ≠ cn) (m3 : cx ≠ cn) :
    Calls Try.prog 73 #[ptr (L.gf i), ptr cb, ptr ca, ptr cx, ptr cn] w (CloP L N (swL l q a x) (qs.set i (swQ l q a x)) cn 3 (.int .i64 (swV l q a x)) (fillE l.length a 1 x) w) := by
  unfold swL swQ swV
  by_cases hE : fillE l.length a 1 x = 0
  · rw [if_pos hE, if_pos hE, if_pos hE, hE]
    exact swapC_ok L N l qs i q a x 0 cb ca cx cn w r hq c1 c2 c3 c4 n1 n2 n3 n4 m2 m3 hE
  · rw [if_neg hE, if_neg hE, if_neg hE, set_same hq]
    exact swapC_bad L N l qs i a x 0 cb ca cx cn w r c1 c2 c3 c4 hE

#print axioms fenceC_any
#print axioms drainC_any
#print axioms loseC_any
#print axioms waitC_any
#print axioms swapC_any
end Go.Proofs.Ytgoogclcpnfmkaa
