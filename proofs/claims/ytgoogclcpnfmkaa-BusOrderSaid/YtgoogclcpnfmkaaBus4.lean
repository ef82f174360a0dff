/-
  Layer 6 (bus): the requests (closures) of Store and Load.
  Conditions: those that each theorem states.
-/
import Derived.Test.YtgoogclcpnfmkaaBus3
import Derived.Deep.RegionWith
namespace Go.Proofs.Ytgoogclcpnfmkaa
open Go.ChangeShapes Go.WideShapes Go.ChangeAt Go.RowKit

/-- The words and a core's stores behind a Store; the word that a Load tells. -/
def stoL (N : Nat) (l : List Int) (q : List (Int × Int)) (a x : Int) : List Int := if fillE l.length a 1 x = 0 then (if q.length = N then drs l (q.take 1) else l) else l
def stoQ (N : Nat) (l : List Int) (q : List (Int × Int)) (a x : Int) : List (Int × Int) := if fillE l.length a 1 x = 0 then (if q.length = N then q.drop 1 else q) ++ [(a, x)] else q
def ldV (l : List Int) (q : List (Int × Int)) (a : Int) : Int := match fnd q a with | some x => x | none => loadV l a

theorem fillE_word {l : List Int} {a x : Int} (h : fillE l.length a 1 x = 0) (hl : l.length ≤ 65536) : okC a x ∧ a < l.length := by
  obtain ⟨h1, h2⟩ := fillE_ok h
  obtain ⟨h3, h4⟩ := runE_word h1 (by omega)
  have h5 : 0 ≤ x ∧ x ≤ 65535 := by simpa [isW] using h2
  exact ⟨⟨h3, h4, h5.1, h5.2⟩, by have := (runE_ok h1).2.2; omega⟩

set_option maxRecDepth 100000 in
set_option maxHeartbeats 1000000 in
theorem storeC_bad (L : Lay) (N : Nat) (l : List Int) (qs : List (List (Int × Int))) (i : Nat) (a x : Int) (cb ca cx : Nat) (w : World) (r : BusAt w L N l qs)
    (c1 : Row w cb 25 [ptr L.g]) (c2 : Row w ca 3 [.int .i64 a]) (c3 : Row w cx 3 [.int .i64 x]) (hE : fillE l.length a 1 x ≠ 0) :
    Calls Try.prog 50 #[ptr (L.gf i), ptr cb, ptr ca, ptr cx] w (BusP L N l qs (.int .i64 (fillE l.length a 1 x)) w) := by
  have d1 : w.cell? ⟨cb, 0, none⟩ = some (.pointer (some ⟨L.g, 0, none⟩)) := c1.cell 0
  have d2 : w.cell? ⟨ca, 0, none⟩ = some (.int .i64 a) := c2.cell 0
  have d3 : w.cell? ⟨cx, 0, none⟩ = some (.int .i64 x) := c3.cell 0
  have ck := Lib.hid (check6_any L N l qs a x w r)
  obtain ⟨z, hz⟩ : ∃ z, fillE l.length a 1 x = z := ⟨_, rfl⟩
  rw [hz] at ck hE ⊢
  have hb : (z != 0) = true := by simpa using hE
  have R := Lib.hid r
  clear r c1 c2 c3 hz hE
  unfold ptr at ck ⊢
  go_enter Try.func50, Try.ntmps50
  go_wp2_with (go_at_call 51; refine ck.out.mono ?_; rintro e w' ⟨rfl, rfl⟩)
  go_ret
  exact ⟨L.hf, rfl, R.out, Ext.refl _ _, Only.refl _ _⟩

set_option maxRecDepth 100000 in
set_option maxHeartbeats 1000000 in
theorem storeC_room (L : Lay) (N : Nat) (l : List Int) (qs : List (List (Int × Int))) (i : Nat) (q : List (Int × Int)) (a x : Int) (cb ca cx : Nat) (w : World) (r : BusAt w L N l qs) (hq : qs[i]? = some q)
    (c1 : Row w cb 25 [ptr L.g]) (c2 : Row w ca 3 [.int .i64 a]) (c3 : Row w cx 3 [.int .i64 x]) (hE : fillE l.length a 1 x = 0) (hN : q.length ≠ N) :
    Calls Try.prog 50 #[ptr (L.gf i), ptr cb, ptr ca, ptr cx] w (BusP L N l (qs.set i (q ++ [(a, x)])) (.int .i64 0) w) := by
  have hi := lt_of_at hq
  have d1 : w.cell? ⟨cb, 0, none⟩ = some (.pointer (some ⟨L.g, 0, none⟩)) := c1.cell 0
  have d2 : w.cell? ⟨ca, 0, none⟩ = some (.int .i64 a) := c2.cell 0
  have d3 : w.cell? ⟨cx, 0, none⟩ = some (.int .i64 x) := c3.cell 0
  have ck := check6_any L N l qs a x w r
  rw [hE] at ck
  obtain ⟨hok, hal⟩ := fillE_word hE r.ram.len
  have hb := r.buf i q hq
  have hf := hb.fit
  have ln := Lib.hid (blen_any (L.gf i) (L.hf i) N q w hb)
  have cp := Lib.hid (bcap_any (L.gf i) (L.hf i) N q w hb)
  have pt := Lib.hid (bput_room (L.gf i) (L.hf i) N q a x w hb hok (by omega))
  have hne : ((q.length : Int) == (N : Int)) = false := by simp; omega
  have ha : ∀ p ∈ q ++ [(a, x)], p.1 < l.length := fun p hp => by
    rcases List.mem_append.1 hp with hp | hp
    · exact r.adr i q hq p hp
    · simp at hp; subst hp; exact hal
  have CK := Lib.hid ck
  have R := Lib.hid r
  have HA := Lib.hid ha
  clear r c1 c2 c3 hE ck hb hf hok hal hN ha
  unfold ptr at CK ln cp pt ⊢
  go_enter Try.func50, Try.ntmps50
  go_wp2_with (first
    | (go_at_call 51; refine CK.out.mono ?_; rintro e w' ⟨rfl, rfl⟩)
    | (go_at_call 52; refine ln.out.mono ?_; rintro e w' ⟨rfl, rfl⟩)
    | (go_at_call 53; refine cp.out.mono ?_; rintro e w' ⟨rfl, rfl⟩)
    | (go_at_call 55; refine pt.out.mono ?_; rintro e w' ⟨h', rfl, hb, ho, hh⟩))
  go_ret
  refine ⟨_, rfl, R.out.putBuf hi hb ho hh HA.out, Ext.one hh, ?_⟩
  rw [List.length_set]
  exact ho.mono (fun b _ hb => hb.elim (fun e => e ▸ L.fp_gf hi) (fun e => L.fp_hf hi e))

set_option maxRecDepth 100000 in
set_option maxHeartbeats 1000000 in
theorem storeC_full (L : Lay) (N : Nat) (l : List Int) (qs : List (List (Int × Int))) (i : Nat) (q : List (Int × Int)) (a x : Int) (cb ca cx : Nat) (w : World) (r : BusAt w L N l qs) (hq : qs[i]? = some q)
    (c1 : Row w cb 25 [ptr L.g]) (c2 : Row w ca 3 [.int .i64 a]) (c3 : Row w cx 3 [.int .i64 x]) (n2 : ¬ L.fp qs.length ca) (n3 : ¬ L.fp qs.length cx) (hE : fillE l.length a 1 x = 0) (hN : q.length = N) :
    Calls Try.prog 50 #[ptr (L.gf i), ptr cb, ptr ca, ptr cx] w (BusP L N (drs l (q.take 1)) (qs.set i (q.drop 1 ++ [(a, x)])) (.int .i64 0) w) := by
  have hi := lt_of_at hq
  have d1 : w.cell? ⟨cb, 0, none⟩ = some (.pointer (some ⟨L.g, 0, none⟩)) := c1.cell 0
  have d2 : w.cell? ⟨ca, 0, none⟩ = some (.int .i64 a) := c2.cell 0
  have d3 : w.cell? ⟨cx, 0, none⟩ = some (.int .i64 x) := c3.cell 0
  have ck := check6_any L N l qs a x w r
  rw [hE] at ck
  obtain ⟨hok, hal⟩ := fillE_word hE r.ram.len
  have hb := r.buf i q hq
  have hf := hb.fit
  have ln := blen_any (L.gf i) (L.hf i) N q w hb
  rw [hN] at ln
  have LN := Lib.hid ln
  have cp := Lib.hid (bcap_any (L.gf i) (L.hf i) N q w hb)
  have dr := Lib.hid (drain_any L N l qs i q w r hq)
  have hne : ((N : Int) == (N : Int)) = true := by simp
  have ha : ∀ p ∈ q.drop 1 ++ [(a, x)], p.1 < (drs l (q.take 1)).length := fun p hp => by
    rw [drs_len]
    rcases List.mem_append.1 hp with hp | hp
    · exact r.adr i q hq p (List.mem_of_mem_drop hp)
    · simp at hp; subst hp; exact hal
  have hlen : (q.drop 1).length < N := by rw [List.length_drop]; omega
  have CK := Lib.hid ck
  have R := Lib.hid r
  have HA := Lib.hid ha
  have HL := Lib.hid hlen
  have HOK := Lib.hid hok
  have C2 := Lib.hid c2
  have C3 := Lib.hid c3
  clear r c1 c2 c3 hE ck hb hf hok hal hN ha ln hlen
  unfold ptr at CK LN cp dr ⊢
  go_enter Try.func50, Try.ntmps50
  go_wp2_with (first
    | (go_at_call 51; refine CK.out.mono ?_; rintro e w' ⟨rfl, rfl⟩)
    | (go_at_call 52; refine LN.out.mono ?_; rintro e w' ⟨rfl, rfl⟩)
    | (go_at_call 53; refine cp.out.mono ?_; rintro e w' ⟨rfl, rfl⟩)
    | (go_at_call 54
       refine dr.out.mono ?_
       rintro e w1 ⟨f1, rfl, hr1, he1, ho1⟩
       rw [List.length_set] at ho1
       have k2 : w1.cell? ⟨ca, 0, none⟩ = some (.int .i64 a) := (C2.out.only ho1 n2).cell 0
       have k3 : w1.cell? ⟨cx, 0, none⟩ = some (.int .i64 x) := (C3.out.only ho1 n3).cell 0
       have R1 := Lib.hid hr1
       have HE1 := Lib.hid he1
       have HO1 := Lib.hid ho1
       clear hr1 he1 ho1)
    | (go_at_call 55; refine (bput_room (L.gf i) (f1 i) N (q.drop 1) a x w1 (R1.out.buf i _ (set_at _ hi)) HOK.out HL.out).mono ?_; rintro e w2 ⟨h', rfl, hb, ho, hh⟩))
  go_ret
  have r2 := R1.out.putBuf (i := i) (by rw [List.length_set]; exact hi) hb ho hh HA.out
  rw [List.set_set] at r2
  refine ⟨_, rfl, r2, HE1.out.trans (Ext.one hh) HO1.out.size, ?_⟩
  rw [List.length_set]
  exact HO1.out.up HE1.out (ho.mono (fun b _ hb => hb.elim (fun e => e ▸ (L.up f1).fp_gf hi) (fun e => (L.up f1).fp_hf hi e)))

theorem storeC_any (L : Lay) (N : Nat) (l : List Int) (qs : List (List (Int × Int))) (i : Nat) (q : List (Int × Int)) (a x : Int) (cb ca cx : Nat) (w : World) (r : BusAt w L N l qs) (hq : qs[i]? = some q)
    (c1 : Row w cb 25 [ptr L.g]) (c2 : Row w ca 3 [.int .i64 a]) (c3 : Row w cx 3 [.int .i64 x]) (n2 : ¬ L.fp qs.length ca) (n3 : ¬ L.fp qs.length cx) :
    Calls Try.prog 50 #[ptr (L.gf i), ptr cb, ptr ca, ptr cx] w (BusP L N (stoL N l q a x) (qs.set i (stoQ N l q a x)) (.int .i64 (fillE l.length a 1 x)) w) := by
  unfold stoL stoQ
  by_cases hE : fillE l.length a 1 x = 0
  · rw [if_pos hE, if_pos hE]
    by_cases hN : q.length = N
    · rw [if_pos hN, if_pos hN, hE]
      exact storeC_full L N l qs i q a x cb ca cx w r hq c1 c2 c3 n2 n3 hE hN
    · rw [if_neg hN, if_neg hN, hE]
      exact storeC_room L N l qs i q a x cb ca cx w r hq c1 c2 c3 hE hN
  · rw [if_neg hE, if_neg hE, set_same hq]
    exact storeC_bad L N l qs i a x cb ca cx w r c1 c2 c3 hE

/-- A store that is found has an address that there is. -/
theorem fnd_mem {q : List (Int × Int)} {a x : Int} (h : fnd q a = some x) : ∃ p ∈ q, p.1 = a ∧ p.2 = x := by
  have key : ∀ (q : List (Int × Int)) (o : Option Int), q.foldl (fun r p => if p.1 = a then some p.2 else r) o = some x → o = some x ∨ ∃ p ∈ q, p.1 = a ∧ p.2 = x := by
    intro q
    induction q with
    | nil => intro o h; exact .inl h
    | cons p t ih =>
      intro o h
      rcases ih _ h with h1 | ⟨p', hp, h1⟩
      · simp only at h1
        by_cases e : p.1 = a
        · rw [if_pos e] at h1
          injection h1 with h1
          exact .inr ⟨p, List.mem_cons_self, e, h1⟩
        · rw [if_neg e] at h1
          exact .inl h1
      · exact .inr ⟨p', List.mem_cons_of_mem _ hp, h1⟩
  rcases key q none h with h1 | h1
  · cases h1
  · exact h1

theorem runE_one {N a : Int} (h0 : 0 ≤ a) (h1 : a < N) : runE N a 1 = 0 := by
  unfold runE; rw [if_neg (by omega), if_neg (by omega)]

/-- What the request of Load leaves: its error, the word in its variable, and another error in the variable of the error. -/
def LoadP (cw ce : Nat) (v z : Int) (w : World) (e : Ending) (w' : World) : Prop :=
  e = .returned (.int .i64 z) ∧ Row w' cw 3 [.int .i64 v] ∧ (∃ y, Row w' ce 26 [.int .i64 y]) ∧ Only (fun b => b = cw ∨ b = ce) w w'

set_option maxRecDepth 100000 in
set_option maxHeartbeats 1000000 in
theorem loadC_found (L : Lay) (N : Nat) (q : List (Int × Int)) (i : Nat) (a : Int) (v y : Int) (ca cw cb ce : Nat) (w : World) (hb : BufQ w (L.gf i) (L.hf i) N q)
    (c1 : Row w ca 3 [.int .i64 a]) (c2 : Row w cw 3 [.int .i64 v]) (c4 : Row w ce 26 [.int .i64 y]) (x : Int) (hf : fnd q a = some x) :
    Calls Try.prog 56 #[ptr (L.gf i), ptr ca, ptr cw, ptr cb, ptr ce] w (LoadP cw ce x 0 w) := by
  have d1 : w.cell? ⟨ca, 0, none⟩ = some (.int .i64 a) := c1.cell 0
  have d2 : w.cell? ⟨cw, 0, none⟩ = some (.int .i64 v) := c2.cell 0
  have s2 := c2.soft 0
  have fd := bfind_any (L.gf i) (L.hf i) N q a w hb
  rw [hf] at fd
  have FD := Lib.hid fd
  have hne : ce ≠ cw := c4.ne c2 (by decide)
  have C2 := Lib.hid c2
  have C4 := Lib.hid c4
  clear fd c1 c2 c4 hb hf
  unfold ptr at FD ⊢
  go_enter Try.func56, Try.ntmps56
  go_wp2_with (go_at_call 57; refine FD.out.mono ?_; rintro e w' ⟨rfl, rfl⟩)
  go_ret
  exact ⟨rfl, C2.out.put 0 _, ⟨y, C4.out.far (p := ⟨cw, 0, none⟩) hne _⟩, (Only.refl _ w).setCell (.inl (.inl rfl)) _⟩

theorem loadC_fin1 {w : World} {cw ce : Nat} {v y : Int} (c2 : Row w cw 3 [.int .i64 v]) (c4 : Row w ce 26 [.int .i64 y]) (m : Nat) (x z : Int) :
    LoadP cw ce x z w (.returned (.int .i64 z)) (((w.drewN m).setCell ⟨cw, 0, none⟩ (.int .i64 x)).setCell ⟨ce, 0, none⟩ (.int .i64 z)) := by
  have hne : ce ≠ cw := c4.ne c2 (by decide)
  exact ⟨rfl, ((c2.drewN m).put 0 _).far (p := ⟨ce, 0, none⟩) (fun e => hne e.symm) _, ⟨z, ((c4.drewN m).far (p := ⟨cw, 0, none⟩) hne _).put 0 _⟩, (((Only.refl _ w).drewN m).setCell (.inl (.inl rfl)) _).setCell (.inl (.inr rfl)) _⟩

theorem loadC_fin2 {w : World} {cw ce : Nat} {v y : Int} (c2 : Row w cw 3 [.int .i64 v]) (c4 : Row w ce 26 [.int .i64 y]) (m : Nat) (x z : Int) :
    LoadP cw ce x z w (.returned (.int .i64 z)) (((w.drewN m).setCell ⟨ce, 0, none⟩ (.int .i64 z)).setCell ⟨cw, 0, none⟩ (.int .i64 x)) := by
  have hne : ce ≠ cw := c4.ne c2 (by decide)
  exact ⟨rfl, ((c2.drewN m).far (p := ⟨ce, 0, none⟩) (fun e => hne e.symm) _).put 0 _, ⟨z, ((c4.drewN m).put 0 _).far (p := ⟨cw, 0, none⟩) hne _⟩, (((Only.refl _ w).drewN m).setCell (.inl (.inr rfl)) _).setCell (.inl (.inl rfl)) _⟩

set_option maxRecDepth 100000 in
set_option maxHeartbeats 1000000 in
theorem loadC_ram (L : Lay) (N : Nat) (l : List Int) (qs : List (List (Int × Int))) (q : List (Int × Int)) (i : Nat) (a : Int) (v y : Int) (ca cw cb ce : Nat) (w : World) (r : BusAt w L N l qs) (hq : qs[i]? = some q)
    (c1 : Row w ca 3 [.int .i64 a]) (c2 : Row w cw 3 [.int .i64 v]) (c3 : Row w cb 25 [ptr L.g]) (c4 : Row w ce 26 [.int .i64 y]) (hf : fnd q a = none) :
    Calls Try.prog 56 #[ptr (L.gf i), ptr ca, ptr cw, ptr cb, ptr ce] w (LoadP cw ce (loadV l a) (runE l.length a 1) w) := by
  have d1 : w.cell? ⟨ca, 0, none⟩ = some (.int .i64 a) := c1.cell 0
  have d2 : w.cell? ⟨cw, 0, none⟩ = some (.int .i64 v) := c2.cell 0
  have d3 : w.cell? ⟨cb, 0, none⟩ = some (.pointer (some ⟨L.g, 0, none⟩)) := c3.cell 0
  have d4 : w.cell? ⟨ce, 0, none⟩ = some (.int .i64 y) := c4.cell 0
  have d5 : w.cell? ⟨L.g, 0, none⟩ = some (.pointer (some ⟨L.rg, 0, none⟩)) := r.top.cell 0
  have s2 := c2.soft 0
  have s4 := c4.soft 0
  have fd := bfind_any (L.gf i) (L.hf i) N q a w (r.buf i q hq)
  rw [hf] at fd
  have FD := Lib.hid fd
  have LD := Lib.hid (fun m : Nat => load_any L.rg L.rh l a (w.drewN m) (r.ram.below (below_q w m)))
  have hne : ce ≠ cw := c4.ne c2 (by decide)
  have hne' : cw ≠ ce := fun e => hne e.symm
  have C2 := Lib.hid c2
  have C4 := Lib.hid c4
  clear fd c1 c2 c3 c4 hf r
  unfold ptr at FD LD ⊢
  go_enter Try.func56, Try.ntmps56
  go_wp2_with (go_at_call 57; refine FD.out.mono ?_; rintro e w' ⟨rfl, rfl⟩)
  go_region_with (go_at_call 58; refine (LD.out _).mono ?_; rintro e w' ⟨rfl, rfl⟩)
  all_goals go_wp2
  all_goals go_ret
  all_goals first
    | exact loadC_fin1 C2.out C4.out _ _ _
    | exact loadC_fin2 C2.out C4.out _ _ _

theorem loadC_any (L : Lay) (N : Nat) (l : List Int) (qs : List (List (Int × Int))) (q : List (Int × Int)) (i : Nat) (a : Int) (v y : Int) (ca cw cb ce : Nat) (w : World) (r : BusAt w L N l qs) (hq : qs[i]? = some q)
    (c1 : Row w ca 3 [.int .i64 a]) (c2 : Row w cw 3 [.int .i64 v]) (c3 : Row w cb 25 [ptr L.g]) (c4 : Row w ce 26 [.int .i64 y]) :
    Calls Try.prog 56 #[ptr (L.gf i), ptr ca, ptr cw, ptr cb, ptr ce] w (LoadP cw ce (ldV l q a) (runE l.length a 1) w) := by
  cases hf : fnd q a with
  | none =>
    have e : ldV l q a = loadV l a := by unfold ldV; rw [hf]
    rw [e]
    exact loadC_ram L N l qs q i a v y ca cw cb ce w r hq c1 c2 c3 c4 hf
  | some x =>
    have e : ldV l q a = x := by unfold ldV; rw [hf]
    obtain ⟨p, hp, h1, _⟩ := fnd_mem hf
    have h2 : runE l.length a 1 = 0 := runE_one (by rw [← h1]; exact ((r.buf i q hq).fit.2.2.2.2.2 p hp).1) (by rw [← h1]; exact r.adr i q hq p hp)
    rw [e, h2]
    exact loadC_found L N q i a v y ca cw cb ce w (r.buf i q hq) c1 c2 c4 x hf

#print axioms storeC_any
#print axioms loadC_any
end Go.Proofs.Ytgoogclcpnfmkaa
