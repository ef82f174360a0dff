/-
  Texts merged, with what one theorem needs of them.
  Conditions: those that each theorem states.
-/
import Derived.Test.YtiofipofbeodpaaGreatDoorRows
import Derived.Test.YtiofipofbeodpaaGreatDoorZ1
import Derived.Test.YtiofipofbeodpaaGreatDoorZ2
import Derived.Test.YtiofipofbeodpaaGreatDoorZ3
import Derived.Test.YtiofipofbeodpaaGreatDoorZ4
import Derived.Test.YtiofipofbeodpaaGreatDoorZ5
import Derived.Test.YtiofipofbeodpaaGreatDoorZ6
import Derived.Test.YtiofipofbeodpaaGreatDoorZ7
import Derived.Test.YtiofipofbeodpaaGreatDoorZ8
import Derived.Test.YtiofipofbeodpaaGreatDoorZ9
import Derived.Test.YtiofipofbeodpaaGreatDoorZ10
import Derived.Test.YtiofipofbeodpaaGreatDoorZ11
import Derived.Test.YtiofipofbeodpaaGreatDoorZ12
import Derived.Test.YtiofipofbeodpaaGreatDoorZ13
import Derived.Test.YtiofipofbeodpaaGreatDoorZ14
import Derived.Test.YtiofipofbeodpaaGreatDoorZ15
import Derived.Test.YtiofipofbeodpaaGreatDoorZ16
import Derived.Test.YtiofipofbeodpaaGreatDoorZ17
import Derived.Test.YtiofipofbeodpaaGreatDoorZ18
import Derived.Test.YtiofipofbeodpaaGreatDoorZ19
import Derived.Test.YtiofipofbeodpaaGreatDoorZ20
import Derived.Test.YtiofipofbeodpaaGreatDoorZ21
import Derived.Test.YtiofipofbeodpaaGreatDoorZ22
import Derived.Test.YtiofipofbeodpaaGreatDoorZ23
import Derived.Test.YtiofipofbeodpaaGreatDoorZ24
import Derived.Test.YtiofipofbeodpaaGreatDoorZ25
import Derived.Test.YtiofipofbeodpaaGreatDoorZ26
import Derived.Test.YtiofipofbeodpaaGreatDoorZ27
import Derived.Test.YtiofipofbeodpaaGreatDoorZ28
import Derived.Below
import Derived.BigQuiet
import Derived.Carry
import Derived.ChangeSame
import Derived.Deep.AppendLies
import Derived.Deep.DeepMust
import Derived.Deep.Draws
import Derived.Deep.Fields
import Derived.Deep.MidRow
import Derived.Deep.OwnRows
import Derived.Deep.QuietTactic
import Derived.Deep.RegionHeld3
import Derived.Deep.RegionLaw
import Derived.Deep.RegionWith
import Derived.Deep.Slices
import Derived.Defers
import Derived.Great.BuildSlice
import Derived.Handy
import Derived.IntWalk
import Derived.KernelRfl
import Derived.LaidLaws
import Derived.LaidMore
import Derived.Laws.BitsLemmas
import Derived.Laws.CopyOwn
import Derived.Laws.OwnMore
import Derived.Laws.Rows
import Derived.Lib.Hide
import Derived.Lib.SliceRun
import Derived.Lib.SmallJoins
import Derived.MakeChecks
import Derived.Maps.AppendAt
import Derived.OpenShut
import Derived.OwnWalk
import Derived.ProofKit
import Derived.Recover
import Derived.RegionTactic
import Derived.Scope
import Derived.WalkKit
import Derived.WalkMore
namespace Go.Proofs.YtiofipofbeodpaaGreatDoor

section
open Go.ChangeShapes Go.WideShapes Go.ChangeAt Go.RowKit
/-- The reference's taker behind Recv, behind Release. -/
def rrcN (H : Tk) (G : Tv) : Tv := if H.st = 0 then { G with at_ := 1, handle := -1, load := [], got := 0 } else G
def rrlN (H : Tk) (G : Tv) (h : Int) : Tv := if H.st = 0 ∧ slotB15 H.tab h = true then { G with tab := dropL15 G.tab h, d := slotV15 G.tab h, at_ := 1, handle := h, load := [], got := 0 } else G
theorem rel17_rcN {H : Tk} {G : Tv} (h : Rel17 H G) : Rel17 (recT17 H) (rrcN H G) := by
  unfold rrcN
  by_cases h0 : H.st = 0
  · rw [if_pos h0]; exact rel17_recv h h0
  · rw [if_neg h0, show recT17 H = H by unfold recT17; exact if_neg h0]; exact h
theorem dropE15_slot (l : List (Int × Bool)) (h : Int) : dropE15 l h = if slotB15 l h = true then 0 else 7 := by
  unfold dropE15 slotB15
  cases slotO15 l h <;> simp
theorem rel17_rlN {H : Tk} {G : Tv} (h : Rel17 H G) (ok : Wd15 H.tab) (x : Int) : Rel17 (relT17 H x) (rrlN H G x) := by
  unfold rrlN
  by_cases hc : H.st = 0 ∧ slotB15 H.tab x = true
  · rw [if_pos hc]; exact rel17_rel h ok x hc.1 hc.2
  · rw [if_neg hc, show relT17 H x = H by
      unfold relT17
      refine if_neg (fun f => hc ⟨f.1, ?_⟩)
      have f2 := f.2
      rw [dropE15_slot] at f2
      by_cases hs : slotB15 H.tab x = true
      · exact hs
      · rw [if_neg hs] at f2; omega]
    exact h
section
variable {At Al : Option Addr} {nt ct nl cl : Nat}
theorem trecv_rel (P : Nat → Prop) (H : Tk) (G : Tv) (w : World) (r : TvL w P G (.slice At nt ct) (.slice Al nl cl)) (h : Rel17 H G) :
    Calls Tryz.prog 11 #[tvV G (.slice At nt ct) (.slice Al nl cl)] w (TVA P (rrcN H G) (recE17 H) w) := by
  have hat := h.at_
  unfold rrcN recE17
  by_cases h0 : H.st = 0
  · rw [if_pos h0, if_pos h0]
    exact (trecv_ok G w (by omega)).mono fun _ _ h => tva_drop r rfl rfl h
  · rw [if_neg h0, if_neg h0]
    exact (trecv_busy G w (by omega)).mono fun _ _ h => tva_keep r rfl rfl h
theorem trel_rel (P : Nat → Prop) (H : Tk) (G : Tv) (x : Int) (w : World) (r : TvL w P G (.slice At nt ct) (.slice Al nl cl)) (h : Rel17 H G) (wd : Wd15 H.tab) (h64 : H.tab.length ≤ 64) :
    Calls Tryz.prog 14 #[tvV G (.slice At nt ct) (.slice Al nl cl), .int .i64 x] w (TVA P (rrlN H G x) (relE17 H x) w) := by
  have hat := h.at_
  have ht := h.tab
  unfold rrlN relE17
  by_cases h0 : H.st = 0
  · rw [if_pos h0, dropE15_slot]
    by_cases hs : slotB15 H.tab x = true
    · rw [if_pos ⟨h0, hs⟩, if_pos hs]
      exact trel_ok P G x w (by omega) r.tab (by rw [ht]; exact h64) (by rw [ht]; exact wd) (by rw [ht]; exact hs)
    · rw [if_neg (fun f => hs f.2), if_neg hs]
      exact (trel_no P G x w (by omega) r.tab (by rw [ht]; exact h64) (by rw [ht]; exact wd) (by rw [ht]; simpa using hs)).mono fun _ _ h => tva_keep r rfl rfl h
  · rw [if_neg (fun f => h0 f.1), if_neg h0]
    exact (trel_busy G x w (by omega)).mono fun _ _ h => tva_keep r rfl rfl h
end
end

section
open Go.ChangeShapes Go.WideShapes Go.ChangeAt Go.RowKit
/-- A step in numbers: what is read, the answer, the takers, the words, the kicks, the touches. -/
def xN17 (H : Tk) (V E : List Int) : Int := dN14 V E (tch17 H).1 (tch17 H).2.1
def sA17 (H : Tk) (V E : List Int) : Option Int := if H.st = 0 then some 13 else (aft17 H (xN17 H V E)).2
def sG17 (H : Tk) (V E : List Int) : Tk := if H.st = 0 then H else (aft17 H (xN17 H V E)).1
def sR17 (H : Tk) (G : Tv) (V E : List Int) : Tv := if H.st = 0 then G else (aftTT G (xN17 H V E)).1
def sV17 (H : Tk) (V : List Int) : List Int := if H.st = 0 then V else aV17 V (tch17 H)
def sK17 (H : Tk) : List Int := if H.st = 0 then [] else aK17 [] (tch17 H)
def sT17 (H : Tk) (V E : List Int) : List Tch := if H.st = 0 then [] else aT17 V E (tch17 H)
def sX17 (H : Tk) (V E : List Int) : Tch := (sT17 H V E).headD (0, 0, 0)
theorem nth14_ge {l : List Int} (h : ∀ x ∈ l, 0 ≤ x ∧ x ≤ 65535) (i : Int) : 0 ≤ nth14 l i := by
  cases hi : in14 l i with
  | false => rw [nth14_out hi]; exact Int.le_refl 0
  | true =>
    obtain ⟨k, x, _, hx, _, e, _⟩ := in14_at hi
    rw [e]
    exact (h x (List.mem_of_getElem? hx)).1
theorem xN17_pos {H : Tk} {V E : List Int} (hV : ∀ x ∈ V, 0 ≤ x ∧ x ≤ 65535) (hE : ∀ x ∈ E, 0 ≤ x ∧ x ≤ 65535) : 0 ≤ xN17 H V E := by
  unfold xN17 dN14
  split
  · exact nth14_ge hV _
  · split
    · exact nth14_ge hE _
    · exact Int.le_refl 0
theorem aft17_pos {H : Tk} {x n : Int} (hp : 0 ≤ H.res) (h : (aft17 H x).2 = some n) : 0 ≤ n := by
  unfold aft17 at h
  repeat' (split at h)
  all_goals first
    | (cases h; done)
    | (have h2 := Option.some.inj h; rw [← h2]; first | omega | (unfold judE17; split <;> omega))
theorem sG17_ok {H : Tk} (h : Ok17 H) (V E : List Int) : Ok17 (sG17 H V E) := by unfold sG17; split; exact h; exact ok17_aft h _
theorem sG17_same (H : Tk) (V E : List Int) : Same17 H (sG17 H V E) := by unfold sG17; split; exact ⟨rfl, rfl, rfl, rfl⟩; exact same17_aft _ _
theorem sV17_len (H : Tk) (V : List Int) : (sV17 H V).length = V.length := by unfold sV17; split; rfl; exact dV14_len _ _ _ _
theorem sR17_rel {H : Tk} {G : Tv} (h : Rel17 H G) (ok : Ok17 H) {V E : List Int} (hV : ∀ x ∈ V, 0 ≤ x ∧ x ≤ 65535) (hE : ∀ x ∈ E, 0 ≤ x ∧ x ≤ 65535) : Rel17 (sG17 H V E) (sR17 H G V E) := by
  unfold sG17 sR17
  split
  · exact h
  · rename_i h0; exact (rel17_aft h ok _ (xN17_pos hV hE) h0).1
/-- Either no call runs and nothing is touched, or one touch is made. -/
theorem sT17_one {H : Tk} (h : Ok17 H) (V E : List Int) : (sT17 H V E = [] ∧ sX17 H V E = (0, 0, 0)) ∨ (sT17 H V E = [sX17 H V E] ∧ (sX17 H V E).1 ≠ 0) := by
  unfold sX17
  by_cases h0 : H.st = 0
  · left
    unfold sT17
    rw [if_pos h0]
    exact ⟨rfl, rfl⟩
  · right
    obtain ⟨x, hx, hm⟩ := mayT17 h h0 V E
    have e : sT17 H V E = [x] := by unfold sT17; rw [if_neg h0]; exact hx
    rw [e]
    refine ⟨rfl, ?_⟩
    show x.1 ≠ 0
    rcases hm with hm | ⟨hm, _⟩ | ⟨f, s, j, _, _, _, _, hk⟩
    · omega
    · omega
    · omega
theorem qk17 {H : Tk} {G : Tv} (h : Rel17 H G) (ok : Ok17 H) (h0 : H.st ≠ 0) : Qk17 G := by
  have hR := ok.R.bd
  have hB := ok.B
  have hh := ok.head
  have hu := ok.used
  have ht := ok.tab
  have hl := ok.load
  have hst := ok.st
  exact { B := by rw [h.B]; omega
          R := by rw [h.R]; omega
          at1 := by rw [h.at_]; omega
          head := by rw [h.head]; omega
          used := by rw [h.used]; omega
          len := by rw [h.tab, h.R, ht]
          tab64 := by rw [h.tab, ht]; omega
          load := by rw [h.load h0]; omega
          i := fun e => by have e9 : H.st = 9 := by (have := h.at_; omega)
                           rw [h.i e9]; omega }
section
variable {At Al : Option Addr} {nt ct nl cl : Nat} {A1 A2 A3 : Option Addr} {n1 c1 n2 c2 n3 c3 : Nat}
theorem tstep_all (P Pp : Nat → Prop) (H : Tk) (G : Tv) (V E : List Int) (w : World) (r : TvL w P G (.slice At nt ct) (.slice Al nl cl)) (rp : RPl14 w Pp V E [] (.slice A1 n1 c1) (.slice A2 n2 c2) (.slice A3 n3 c3)) (h : Rel17 H G) (ok : Ok17 H) (hl : V.length ≤ 65536) (hV : ∀ x ∈ V, 0 ≤ x ∧ x ≤ 65535) (hE : ∀ x ∈ E, 0 ≤ x ∧ x ≤ 65535) :
    Calls Tryz.prog 17 #[tvV G (.slice At nt ct) (.slice Al nl cl), .agg #[.slice A1 n1 c1, .slice A2 n2 c2, .slice A3 n3 c3]] w (TStp P Pp (sR17 H G V E) (sV17 H V) E (sK17 H) (sX17 H V E) (sA17 H V E).isSome ((sA17 H V E).getD 0) w) := by
  by_cases h0 : H.st = 0
  · have e : sA17 H V E = some 13 := by unfold sA17; rw [if_pos h0]
    have e1 : sR17 H G V E = G := by unfold sR17; rw [if_pos h0]
    have e2 : sV17 H V = V := by unfold sV17; rw [if_pos h0]
    have e3 : sK17 H = [] := by unfold sK17; rw [if_pos h0]
    have e4 : sX17 H V E = (0, 0, 0) := by unfold sX17 sT17; rw [if_pos h0]; rfl
    rw [e, e1, e2, e3, e4]
    exact tstep_idle P Pp G V E [] w r rp (by rw [h.at_, h0]; rfl)
  · have hp := xN17_pos (H := H) hV hE
    have ha := (rel17_aft h ok _ hp h0).2
    have ht := rel17_tch h
    have q := qk17 h ok h0
    have e1 : sR17 H G V E = (aftTT G (xN17 H V E)).1 := by unfold sR17; rw [if_neg h0]
    have e2 : sV17 H V = dV14 V (tchTT G).1 (tchTT G).2.1 (tchTT G).2.2 := by unfold sV17; rw [if_neg h0, ht]; rfl
    have e3 : sK17 H = dK14 [] (tchTT G).1 (tchTT G).2.1 := by unfold sK17; rw [if_neg h0, ht]; rfl
    have e4 : sX17 H V E = dX14 V E (tchTT G).1 (tchTT G).2.1 (tchTT G).2.2 := by unfold sX17 sT17; rw [if_neg h0, ht]; rfl
    have e5 : sA17 H V E = (aft17 H (xN17 H V E)).2 := by unfold sA17; rw [if_neg h0]
    have en : dN14 V E (tchTT G).1 (tchTT G).2.1 = xN17 H V E := by rw [ht]; rfl
    rw [e1, e2, e3, e4, e5]
    cases hA : (aft17 H (xN17 H V E)).2 with
    | none =>
      rw [hA] at ha
      exact tstep_more P Pp G V E [] _ w r rp q hp hl (by simp) hV en ha
    | some m =>
      rw [hA] at ha
      exact tstep_done P Pp G V E [] _ w r rp q hp hl (by simp) hV en m ha (aft17_pos h.pos hA)
end
theorem qstep_all {U : Nat → Prop} {g t p : Nat} (H : Tk) (V E : List Int) (w : World) (s : Sys17 w U g t p H V E [] []) (ok : Ok17 H) (hT : TabAt w) :
    Calls Tryz.prog 21 #[.pointer (some ⟨g, 0, none⟩), tface14 t] w fun e w' => e = .returned (ansV17 (sA17 H V E)) ∧ Sys17 w' (fun x => U x ∨ w.heap.size ≤ x) g t p (sG17 H V E) (sV17 H V) E (sK17 H) (sT17 H V E) ∧ Only U w w' := by
  unfold sA17 sG17 sV17 sK17 sT17
  by_cases h0 : H.st = 0
  · simp only [if_pos h0]
    refine (step17_idle (tface14 t) w s.gis h0).mono ?_
    rintro e w' ⟨rfl, rfl⟩
    exact ⟨rfl, s.weak (fun _ _ h => .inl h), Only.refl _ _⟩
  · simp only [if_neg h0]
    exact stT17 (⟨H, V, [], []⟩ : Run17) w s ok h0 hT (by simp)
end

section
open Go.ChangeShapes Go.WideShapes Go.ChangeAt Go.RowKit
/-- The memory of TakerSteps' loop: that of TakerSafe's, and the reference's taker (block rb). -/
structure Ls17 (w wr : World) (g rb : Nat) (bs : List Value) (G : Tk) (V E : List Int) (v1 v2 : Value) (R : Tv) (vt vl : Value) (U P : Nat → Prop) : Prop where
  lp : Lq17 w wr g bs G V E v1 v2 U P
  ref : Row wr rb 37 (tvC R vt vl)
  lists : TvL wr P R vt vl
  rbn : w.heap.size < rb ∧ ¬ U rb ∧ ¬ P rb
section
variable {w wr : World} {g rb : Nat} {bs : List Value} {G : Tk} {V E : List Int} {v1 v2 : Value} {R : Tv} {vt vl : Value} {U P : Nat → Prop}
theorem Ls17.quiet (L : Ls17 w wr g rb bs G V E v1 v2 R vt vl U P) {w1 : World} (hb : Below wr.heap.size wr w1) : Ls17 w w1 g rb bs G V E v1 v2 R vt vl U P :=
  ⟨L.lp.quiet hb, L.ref.below hb, L.lists.below hb, L.rbn⟩
theorem Ls17.taker (L : Ls17 w wr g rb bs G V E v1 v2 R vt vl U P) {w1 : World} {G' : Tk} (hg : KIs w1 (fun x => U x ∨ wr.heap.size ≤ x) g G') (ho : Only U wr w1) :
    Ls17 w w1 g rb bs G' V E v1 v2 R vt vl (fun x => U x ∨ wr.heap.size ≤ x) (fun x => P x ∧ x < wr.heap.size) :=
  ⟨L.lp.taker hg ho, L.ref.only ho L.rbn.2.1, (L.lists.weak (Q := fun x => P x ∧ x < wr.heap.size) (fun _ h p => And.intro p h)).only ho (fun x hx hp => L.lp.disj x hx hp.1), L.rbn.1, fun h => by rcases h with h | h; exact L.rbn.2.1 h; have := L.ref.lt; omega, fun h => L.rbn.2.2 h.1⟩
theorem Ls17.setV (L : Ls17 w wr g rb bs G V E v1 v2 R vt vl U P) {w1 : World} {V' : List Int} {u : Value} (hb : Below wr.heap.size wr w1) (ho : w1.ownsRow wr.heap.size 3 1 u V'.length (ints V')) :
    Ls17 w w1 g rb bs G V' E u v2 R vt vl (fun x => U x ∧ x < wr.heap.size) (fun x => P x ∨ wr.heap.size ≤ x) :=
  ⟨L.lp.setV hb ho, L.ref.below hb, (L.lists.below hb).weak (fun _ _ h => .inl h), L.rbn.1, fun h => L.rbn.2.1 h.1, fun h => by rcases h with h | h; exact L.rbn.2.2 h; have := L.ref.lt; omega⟩
theorem Ls17.setE (L : Ls17 w wr g rb bs G V E v1 v2 R vt vl U P) {w1 : World} {E' : List Int} {u : Value} (hb : Below wr.heap.size wr w1) (ho : w1.ownsRow wr.heap.size 3 1 u E'.length (ints E')) :
    Ls17 w w1 g rb bs G V E' v1 u R vt vl (fun x => U x ∧ x < wr.heap.size) (fun x => P x ∨ wr.heap.size ≤ x) :=
  ⟨L.lp.setE hb ho, L.ref.below hb, (L.lists.below hb).weak (fun _ _ h => .inl h), L.rbn.1, fun h => L.rbn.2.1 h.1, fun h => by rcases h with h | h; exact L.rbn.2.2 h; have := L.ref.lt; omega⟩
/-- The reference's taker is another one; its table and its list may be new. -/
theorem Ls17.refer (L : Ls17 w wr g rb bs G V E v1 v2 R vt vl U P) {w1 w2 : World} {R' : Tv} {ut ul : Value} (hb : Below wr.heap.size wr w1) (hl : TvL w1 (fun x => P x ∨ wr.heap.size ≤ x) R' ut ul) (hr : Row w2 rb 37 (tvC R' ut ul)) (ho : Only (· = rb) w1 w2) :
    Ls17 w w2 g rb bs G V E v1 v2 R' ut ul (fun x => U x ∧ x < wr.heap.size) (fun x => P x ∨ wr.heap.size ≤ x) := by
  have hrl := L.ref.lt
  have hs := L.lp.below.size
  have hbl := L.lp.base.lt
  have hwl := hb.size
  have hnP : ∀ x, P x ∨ wr.heap.size ≤ x → ¬ (x = rb) := fun x hp e => by
    subst e
    rcases hp with hp | hp
    · exact L.rbn.2.2 hp
    · omega
  refine ⟨⟨(L.lp.base.below hb).only ho (fun e => by have := L.rbn.1; omega), ?_, ?_, fun x hx hp => ?_, fun x hx => L.lp.hU x hx.1, fun x hx => ?_, Only.below (L.lp.below.trans (hb.mono hs)) ho (by omega) (fun x hx h => by have := L.rbn.1; omega)⟩, hr, hl.only ho (fun x hx hp => hnP x hp hx), L.rbn.1, fun h => L.rbn.2.1 h.1, fun h => hnP rb h rfl⟩
  · exact ((L.lp.kis.weak (U' := fun x => U x ∧ x < wr.heap.size) (fun x hx hu => ⟨hu, hx⟩)).below hb).only ho (fun x _ hu h => by subst h; exact L.rbn.2.1 hu.1)
  · exact ((L.lp.wld.below hb).weak (fun _ _ h => .inl h)).only ho (fun x hx hp => hnP x hp hx)
  · rcases hp with hp | hp
    · exact L.lp.disj x hx.1 hp
    · omega
  · rcases hx with hx | hx
    · exact L.lp.hP x hx
    · omega
/-- Behind a Step, and behind the words that the port then holds. -/
theorem Ls17.port (L : Ls17 w wr g rb bs G V E v1 v2 R vt vl U P) {w5 w6 w7 : World} {t p : Nat} {u : Value} {G' : Tk} {V6 E6 K6 V7 : List Int} {T6 : List Tch} (b5 : Below wr.heap.size wr w5) (s6 : Sys17 w6 (fun x => (U x ∨ wr.heap.size ≤ x) ∨ w5.heap.size ≤ x) g t p G' V6 E6 K6 T6)
    (o6 : Only (fun x => U x ∨ wr.heap.size ≤ x) w5 w6) (b7 : Below w6.heap.size w6 w7) (own7 : w7.ownsRow w6.heap.size 3 1 u V7.length (ints V7)) :
    Ls17 w w7 g rb bs G' V7 E u v2 R vt vl (fun x => (U x ∨ wr.heap.size ≤ x) ∧ x < w6.heap.size) (fun x => (P x ∧ x < wr.heap.size) ∨ w6.heap.size ≤ x) := by
  have hrl := L.ref.lt
  have hs5 := b5.size
  have hs6 := o6.size
  have hnU : ∀ x, x < wr.heap.size → ¬ U x → ¬ (U x ∨ wr.heap.size ≤ x) := fun x h1 h2 h => h.elim h2 (by omega)
  refine ⟨(L.lp.port b5 s6 o6 b7 own7).1, ((L.ref.below b5).only o6 (hnU _ hrl L.rbn.2.1)).below b7, ?_, L.rbn.1, fun h => ?_, fun h => ?_⟩
  · exact ((((L.lists.weak (Q := fun x => P x ∧ x < wr.heap.size) (fun _ h p => And.intro p h)).below b5).only o6 (fun x hx hp => hnU x hp.2 (fun h => L.lp.disj x h hp.1) hx)).below b7).weak (fun x _ h => .inl h)
  · rcases h.1 with h' | h'
    · exact L.rbn.2.1 h'
    · omega
  · rcases h with h | h
    · exact L.rbn.2.2 h.1
    · omega
end
/-- The invariant of the law's loop. -/
def Inv17s (w wr : World) (g rb : Nat) (bs : List Value) (G0 : Tk) (N : Nat) (v1 v2 : Value) : Prop :=
  ∃ G V E R At nt ct Al nl cl U P, Ok17 G ∧ Same17 G0 G ∧ V.length = N ∧ E.length = 8 ∧ Rel17 G R ∧ Ls17 w wr g rb bs G V E v1 v2 R (.slice At nt ct) (.slice Al nl cl) U P
end

section
open Go.ChangeShapes Go.WideShapes Go.ChangeAt Go.RowKit
section
variable {At Al : Option Addr} {nt ct nl cl : Nat}
/-- What Told leaves: the list that the program's taker tells. -/
theorem ttold_any (P : Nat → Prop) (H : Tk) (G : Tv) (w : World) (r : TvL w P G (.slice At nt ct) (.slice Al nl cl)) (h : Rel17 H G) :
    Calls Tryz.prog 48 #[tvV G (.slice At nt ct) (.slice Al nl cl)] w fun e w' => ∃ A n c, e = .returned (.tuple #[.slice A n c, .int .i64 H.gh]) ∧ Lies w' P (.slice A n c) (ints (gotL17 H)) ∧ Below w.heap.size w w' := by
  have hg := h.got
  by_cases hh : H.gh = 0
  · have hL : gotL17 H = [] := by unfold gotL17; exact if_pos hh
    rw [hL, hh]
    by_cases h0 : G.at_ = 0
    · refine (ttold_none G w h0 (by omega)).mono ?_
      rintro e w' ⟨rfl, b⟩
      exact ⟨none, 0, 0, rfl, Lies.nil_ _ _, b⟩
    · refine (ttold_busy G w h0).mono ?_
      rintro e w' ⟨rfl, b⟩
      exact ⟨none, 0, 0, rfl, Lies.nil_ _ _, b⟩
  · have hL : gotL17 H = H.gl := by unfold gotL17; exact if_neg hh
    have hst : H.st = 0 := by
      by_cases hs : H.st = 0
      · exact hs
      · exact absurd (h.none hs) hh
    have h0 : G.at_ = 0 := by rw [h.at_, hst]; rfl
    have hne : G.got ≠ 0 := by rw [hg]; exact hh
    rw [hL]
    refine (ttold_yes G w h0 hne).mono ?_
    rintro e w' ⟨rfl, b⟩
    refine ⟨Al, nl, cl, by rw [hg], ?_, b⟩
    rw [← h.gl hne]
    exact r.load.below b
end
end

section
open Go.ChangeShapes Go.WideShapes Go.ChangeAt Go.RowKit
theorem keep17l {W W' : World} {b : Nat} {x y z : Value} (h : W.cell? ⟨b, 6, none⟩ = some x ∧ W.cell? ⟨b, 9, none⟩ = some y ∧ W.cell? ⟨b, 10, none⟩ = some z) (hb : Below W.heap.size W W') (lt : b < W.heap.size) : W'.cell? ⟨b, 6, none⟩ = some x ∧ W'.cell? ⟨b, 9, none⟩ = some y ∧ W'.cell? ⟨b, 10, none⟩ = some z :=
  ⟨(hb.cell (p := ⟨b, 6, none⟩) lt).trans h.1, (hb.cell (p := ⟨b, 9, none⟩) lt).trans h.2.1, (hb.cell (p := ⟨b, 10, none⟩) lt).trans h.2.2⟩
section
variable {At Al : Option Addr} {nt ct nl cl : Nat}
set_option maxRecDepth 100000 in
set_option maxHeartbeats 8000000 in
theorem like17_any (P : Nat → Prop) {k s : Nat} {vl vg : Value} (H : Tk) (R : Tv) (x : Int) (w : World) (r : KAt w k H s vl vg) (rt : TvL w P R (.slice At nt ct) (.slice Al nl cl)) (h : Rel17 H R) (wd : Wd15 H.tab) (h64 : H.tab.length ≤ 64) (hgl : H.gl.length ≤ 65536) :
    Calls Tryz.prog 25 #[.pointer (some ⟨k, 0, none⟩), tvV R (.slice At nt ct) (.slice Al nl cl), .int .i64 x] w fun e w' => e = .returned (.bool true) ∧ Below w.heap.size w w' := by
  have KG := Lib.hid (fun W (hb : Below w.heap.size w W) => got17_any W (r.below hb) hgl)
  have KT := Lib.hid (fun W (hb : Below w.heap.size w W) => ttold_any P H R W (rt.below hb) h)
  unfold tvV at KT
  have KS := Lib.hid (fun W (hb : Below w.heap.size w W) => slot17_any x W (r.below hb))
  have KS2 := Lib.hid (fun W (hb : Below w.heap.size w W) => rslot15_any P _ R.tab x W (rt.tab.below hb) (by rw [h.tab]; exact h64) (by rw [h.tab]; exact wd))
  have KB := Lib.hid (fun W (hb : Below w.heap.size w W) => busy17_any W (r.below hb))
  have KL := Lib.hid (fun W (hb : Below w.heap.size w W) => linked17_any W (r.below hb))
  have KH := Lib.hid (fun W (hb : Below w.heap.size w W) => held17_any W (r.below hb))
  have KH2 := Lib.hid (fun W (hb : Below w.heap.size w W) => rheld15_any P _ R.tab W (rt.tab.below hb) (by rw [h.tab]; exact h64))
  rw [h.tab] at KS2 KH2
  have hL : (gotL17 H).length ≤ 65536 := by unfold gotL17; split; simp; exact hgl
  have hO : (onL15 H.tab H.tab.length).length ≤ 65536 := by have := onL15_len H.tab H.tab.length; omega
  have HL := Lib.hid hL
  have HO := Lib.hid hO
  have EA := Lib.hid h.at_
  have EL := Lib.hid h.linked
  clear r rt h wd h64 hgl hL hO
  unfold tvV
  go_enter Tryz.func25, Tryz.ntmps25
  go_wp2_with (first
    | ((with_reducible refine box_walk rfl 37 (.tmp 1) rfl (tvC R (.slice At nt ct) (.slice Al nl cl)) rfl ?_); go_must (intro w1 r1 b1 z1; have R1 := Lib.hid r1; have B1 := Lib.hid b1; have hlt1 := r1.lt; clear r1 b1 z1))
    | (go_at_call 47; refine (KG.out _ B1.out).mono ?_; rintro e w2 ⟨v, rfl, ov, bv⟩; go_must (obtain ⟨Av, cv, rfl⟩ := own_open14 ov; have R2 := Lib.hid (R1.out.below bv); have B2 := Lib.hid (below_on B1.out bv); have OV := Lib.hid (Lies.of_own ov); clear ov bv))
    | (with_reducible refine loadRow_walk rfl 37 (.tmp 4) rfl w.heap.size rfl (tvC R (.slice At nt ct) (.slice Al nl cl)) tv_struct (tv_size.trans (congrArg some (tv_len R _ _).symm)) 37 R2.out ?_)
    | (go_at_call 48; refine (KT.out _ B2.out).mono ?_; rintro e w3 ⟨Au, nu, cu, rfl, lu, bu⟩; go_must (have R3 := Lib.hid (R2.out.below bu); have B3 := Lib.hid (below_on B2.out bu); have OV3 := Lib.hid (OV.out.below bu); have LU := Lib.hid lu; have c6 := R3.out.cell 6; have c9 := R3.out.cell 9; have c10 := R3.out.cell 10; simp only [tvC, List.getElem?_cons_zero, List.getElem?_cons_succ] at c6 c9 c10; rw [EL.out] at c6; rw [EA.out] at c10; have LT3 := R3.out.lt; clear lu bu))
    | (go_at_call 49; refine (KS.out _ B3.out).mono ?_; rintro e w4 ⟨rfl, rfl⟩)
    | (go_at_call 34; refine (KS2.out _ B3.out).mono ?_; rintro e w4 ⟨rfl, rfl⟩))
  have K1 := Lib.hid (fun W (hb : Below w3.heap.size w3 W) => rsame_yes _ _ _ _ (gotL17 H) W (OV3.out.below hb) (LU.out.below hb) HL.out)
  have hS3 : w3.drew.cell? ⟨w.heap.size, 6, none⟩ = some (.bool H.linked) ∧ w3.drew.cell? ⟨w.heap.size, 9, none⟩ = some (.slice At nt ct) ∧ w3.drew.cell? ⟨w.heap.size, 10, none⟩ = some (.int .i64 (H.st : Int)) := ⟨c6, c9, c10⟩
  have hb3 : Below w3.heap.size w3 w3.drew := (Below.refl _ _).drew
  have hw3 : Below w.heap.size w w3.drew := B3.out.drew
  refine wp_region_held_drew (S := fun W => W.cell? ⟨w.heap.size, 6, none⟩ = some (.bool H.linked) ∧ W.cell? ⟨w.heap.size, 9, none⟩ = some (.slice At nt ct) ∧ W.cell? ⟨w.heap.size, 10, none⟩ = some (.int .i64 (H.st : Int))) (by kernel_rfl) hS3 (fun hHeld => ?_)
  refine' wpAnyH_take (i := 0) (oi := ⟨some 38, .move (.tmp 7), 35, "law.go:59", #[], none⟩) (v := _) rfl (by kernel_rfl) (by kernel_rfl) (by kernel_rfl) (fun _ _ _ h => h) (Or.inl ⟨by rfl, ?hy1⟩) (by assumption) ?rest1
  case hy1 => (intro w hSw; (try dsimp only at hSw); go_simp; try with_reducible rfl)
  try simp only [Act.put, List.setIfInBounds_toArray, List.set_cons_zero, List.set_cons_succ]
  refine' wpAnyH_take (i := 1) (oi := ⟨some 39, .move (.tmp 9), 35, "law.go:59", #[], none⟩) (v := _) rfl (by kernel_rfl) (by kernel_rfl) (by kernel_rfl) (fun _ _ _ h => h) (Or.inl ⟨by rfl, ?hy2⟩) (by assumption) ?rest2
  case hy2 => (intro w hSw; (try dsimp only at hSw); go_simp; try with_reducible rfl)
  try simp only [Act.put, List.setIfInBounds_toArray, List.set_cons_zero, List.set_cons_succ]
  refine wpAnyH_ready (rs := [2]) (by kernel_rfl) (by simp) ?_
  refine AllReadyH.cons (o := ⟨some 40, .call { callee := .value (.func 23), args := #[.tmp 38, .tmp 39], argTypes := #[35, 35] }, 4, "law.go:59", #[⟨0, .data⟩, ⟨1, .data⟩], none⟩) rfl (fun K hK => ?_) AllReadyH.nil
  go_simp
  refine (K1.out _ hb3).mono ?_
  rintro e w5 ⟨rfl, b5⟩
  have hw5 := below_on hw3 b5
  have hS5 := keep17l hS3 b5 LT3
  have LT5 : w.heap.size < w5.heap.size := Nat.lt_of_lt_of_le LT3 b5.size
  go_wp2_with fail
  refine hK.out _ _ hS5 (fun hSx => ?_)
  clear hK K
  try simp only [Act.put, List.setIfInBounds_toArray, List.set_cons_zero, List.set_cons_succ]
  refine' wpAnyH_take (i := 3) (oi := ⟨some 41, .move (.tmp 40), 4, "law.go:59", #[⟨2, .data⟩, ⟨2, .chain⟩], none⟩) (v := _) rfl (by kernel_rfl) (by kernel_rfl) (by kernel_rfl) (fun _ _ _ h => h) (Or.inl ⟨by rfl, ?hy4⟩) (by assumption) ?rest4
  case hy4 => (intro w hSw; (try dsimp only at hSw); go_simp; try with_reducible rfl)
  try simp only [Act.put, List.setIfInBounds_toArray, List.set_cons_zero, List.set_cons_succ]
  refine' wpAnyH_take (i := 4) (oi := ⟨some 42, .move (.tmp 8), 3, "law.go:59", #[⟨3, .guard⟩], some (3, true)⟩) (v := _) rfl (by kernel_rfl) (by kernel_rfl) (by kernel_rfl) (fun _ _ _ h => h) (Or.inl ⟨by rfl, ?hy5⟩) (by assumption) ?rest5
  case hy5 => (intro w hSw; (try dsimp only at hSw); go_simp; try with_reducible rfl)
  try simp only [Act.put, List.setIfInBounds_toArray, List.set_cons_zero, List.set_cons_succ]
  refine' wpAnyH_take (i := 5) (oi := ⟨some 43, .move (.tmp 10), 3, "law.go:59", #[⟨3, .guard⟩], some (3, true)⟩) (v := _) rfl (by kernel_rfl) (by kernel_rfl) (by kernel_rfl) (fun _ _ _ h => h) (Or.inl ⟨by rfl, ?hy6⟩) (by assumption) ?rest6
  case hy6 => (intro w hSw; (try dsimp only at hSw); go_simp; try with_reducible rfl)
  try simp only [Act.put, List.setIfInBounds_toArray, List.set_cons_zero, List.set_cons_succ]
  refine' wpAnyH_take (i := 6) (oi := ⟨some 44, .binOp .eql 3 (.tmp 42) (.tmp 43) 3, 4, "law.go:59", #[⟨4, .data⟩, ⟨5, .data⟩, ⟨3, .guard⟩], some (3, true)⟩) (v := _) rfl (by kernel_rfl) (by kernel_rfl) (by kernel_rfl) (fun _ _ _ h => h) (Or.inl ⟨by rfl, ?hy7⟩) (by assumption) ?rest7
  case hy7 => (intro w hSw; (try dsimp only at hSw); go_simp; try with_reducible rfl)
  try simp only [Act.put, List.setIfInBounds_toArray, List.set_cons_zero, List.set_cons_succ]
  refine' wpAnyH_take (i := 7) (oi := ⟨some 45, .pick (.tmp 41) (.tmp 44) (.const (.bool false)), 4, "law.go:59", #[⟨3, .data⟩, ⟨6, .data⟩], none⟩) (v := _) rfl (by kernel_rfl) (by kernel_rfl) (by kernel_rfl) (fun _ _ _ h => h) (Or.inl ⟨by rfl, ?hy8⟩) (by assumption) ?rest8
  case hy8 => (intro w hSw; (try dsimp only at hSw); go_simp; try with_reducible rfl)
  try simp only [Act.put, List.setIfInBounds_toArray, List.set_cons_zero, List.set_cons_succ]
  refine' wpAnyH_take (i := 8) (oi := ⟨some 46, .move (.tmp 45), 4, "law.go:59", #[⟨7, .data⟩, ⟨3, .chain⟩], none⟩) (v := _) rfl (by kernel_rfl) (by kernel_rfl) (by kernel_rfl) (fun _ _ _ h => h) (Or.inl ⟨by rfl, ?hy9⟩) (by assumption) ?rest9
  case hy9 => (intro w hSw; (try dsimp only at hSw); go_simp; try with_reducible rfl)
  try simp only [Act.put, List.setIfInBounds_toArray, List.set_cons_zero, List.set_cons_succ]
  refine' wpAnyH_take (i := 9) (oi := ⟨some 47, .move (.tmp 0), 29, "law.go:59", #[⟨8, .guard⟩], some (8, true)⟩) (v := _) rfl (by kernel_rfl) (by kernel_rfl) (by kernel_rfl) (fun _ _ _ h => h) (Or.inl ⟨by rfl, ?hy10⟩) (by assumption) ?rest10
  case hy10 => (intro w hSw; (try dsimp only at hSw); go_simp; try with_reducible rfl)
  try simp only [Act.put, List.setIfInBounds_toArray, List.set_cons_zero, List.set_cons_succ]
  refine' wpAnyH_take (i := 11) (oi := ⟨some 49, .fieldAddr 37 (.tmp 4) 10, 0, "law.go:59", #[⟨8, .guard⟩], some (8, true)⟩) (v := _) rfl (by kernel_rfl) (by kernel_rfl) (by kernel_rfl) (fun _ _ _ h => h) (Or.inl ⟨by rfl, ?hy12⟩) (by assumption) ?rest12
  case hy12 => (intro w hSw; (try dsimp only at hSw); go_simp; try with_reducible rfl)
  try simp only [Act.put, List.setIfInBounds_toArray, List.set_cons_zero, List.set_cons_succ]
  refine' wpAnyH_take (i := 12) (oi := ⟨some 50, .load 3 (.tmp 49), 3, "law.go:59", #[⟨11, .data⟩, ⟨8, .guard⟩], some (8, true)⟩) (v := _) rfl (by kernel_rfl) (by kernel_rfl) (by kernel_rfl) (fun _ _ _ h => h) (Or.inl ⟨by rfl, ?hy14⟩) (by assumption) ?rest14
  case hy14 => (intro w hSw; (try dsimp only at hSw); go_simp; try with_reducible rfl)
  try simp only [Act.put, List.setIfInBounds_toArray, List.set_cons_zero, List.set_cons_succ]
  refine' wpAnyH_take (i := 13) (oi := ⟨some 51, .binOp .neq 3 (.tmp 50) (.const (.int .i64 0)) 3, 4, "law.go:59", #[⟨12, .data⟩, ⟨8, .guard⟩], some (8, true)⟩) (v := _) rfl (by kernel_rfl) (by kernel_rfl) (by kernel_rfl) (fun _ _ _ h => h) (Or.inl ⟨by rfl, ?hy16⟩) (by assumption) ?rest16
  case hy16 => (intro w hSw; (try dsimp only at hSw); go_simp; try with_reducible rfl)
  try simp only [Act.put, List.setIfInBounds_toArray, List.set_cons_zero, List.set_cons_succ]
  refine wpAnyH_ready (rs := [10]) (by kernel_rfl) (by simp) ?_
  refine AllReadyH.cons (o := ⟨some 48, .call { callee := .value (.func 26), args := #[.tmp 47], argTypes := #[29] }, 4, "law.go:59", #[⟨9, .data⟩, ⟨8, .chain⟩, ⟨8, .guard⟩], some (8, true)⟩) rfl (fun K hK => ?_) AllReadyH.nil
  go_simp
  refine (KB.out _ hw5).mono ?_
  rintro e w4 ⟨rfl, rfl⟩
  go_wp2_with fail
  refine hK.out _ _ hS5 (fun hSx => ?_)
  clear hK K
  try simp only [Act.put, List.setIfInBounds_toArray, List.set_cons_zero, List.set_cons_succ]
  refine' wpAnyH_take (i := 14) (oi := ⟨some 52, .binOp .eql 4 (.tmp 48) (.tmp 51) 4, 4, "law.go:59", #[⟨10, .data⟩, ⟨13, .data⟩, ⟨8, .guard⟩], some (8, true)⟩) (v := _) rfl (by kernel_rfl) (by kernel_rfl) (by kernel_rfl) (fun _ _ _ h => h) (Or.inl ⟨by rfl, ?hy18⟩) (by assumption) ?rest18
  case hy18 => (intro w hSw; (try dsimp only at hSw); go_simp; try with_reducible rfl)
  try simp only [Act.put, List.setIfInBounds_toArray, List.set_cons_zero, List.set_cons_succ]
  refine' wpAnyH_take (i := 15) (oi := ⟨some 53, .pick (.tmp 46) (.tmp 52) (.const (.bool false)), 4, "law.go:59", #[⟨8, .data⟩, ⟨14, .data⟩], none⟩) (v := _) rfl (by kernel_rfl) (by kernel_rfl) (by kernel_rfl) (fun _ _ _ h => h) (Or.inl ⟨by rfl, ?hy19⟩) (by assumption) ?rest19
  case hy19 => (intro w hSw; (try dsimp only at hSw); go_simp; try with_reducible rfl)
  try simp only [Act.put, List.setIfInBounds_toArray, List.set_cons_zero, List.set_cons_succ]
  refine' wpAnyH_take (i := 16) (oi := ⟨some 54, .move (.tmp 53), 4, "law.go:59", #[⟨15, .data⟩, ⟨10, .chain⟩], none⟩) (v := _) rfl (by kernel_rfl) (by kernel_rfl) (by kernel_rfl) (fun _ _ _ h => h) (Or.inl ⟨by rfl, ?hy20⟩) (by assumption) ?rest20
  case hy20 => (intro w hSw; (try dsimp only at hSw); go_simp; try with_reducible rfl)
  try simp only [Act.put, List.setIfInBounds_toArray, List.set_cons_zero, List.set_cons_succ]
  refine' wpAnyH_take (i := 17) (oi := ⟨some 55, .move (.tmp 0), 29, "law.go:59", #[⟨16, .guard⟩], some (16, true)⟩) (v := _) rfl (by kernel_rfl) (by kernel_rfl) (by kernel_rfl) (fun _ _ _ h => h) (Or.inl ⟨by rfl, ?hy21⟩) (by assumption) ?rest21
  case hy21 => (intro w hSw; (try dsimp only at hSw); go_simp; try with_reducible rfl)
  try simp only [Act.put, List.setIfInBounds_toArray, List.set_cons_zero, List.set_cons_succ]
  refine' wpAnyH_take (i := 19) (oi := ⟨some 57, .fieldAddr 37 (.tmp 4) 6, 0, "law.go:59", #[⟨16, .guard⟩], some (16, true)⟩) (v := _) rfl (by kernel_rfl) (by kernel_rfl) (by kernel_rfl) (fun _ _ _ h => h) (Or.inl ⟨by rfl, ?hy23⟩) (by assumption) ?rest23
  case hy23 => (intro w hSw; (try dsimp only at hSw); go_simp; try with_reducible rfl)
  try simp only [Act.put, List.setIfInBounds_toArray, List.set_cons_zero, List.set_cons_succ]
  refine' wpAnyH_take (i := 20) (oi := ⟨some 58, .load 4 (.tmp 57), 4, "law.go:59", #[⟨19, .data⟩, ⟨16, .guard⟩], some (16, true)⟩) (v := _) rfl (by kernel_rfl) (by kernel_rfl) (by kernel_rfl) (fun _ _ _ h => h) (Or.inl ⟨by rfl, ?hy25⟩) (by assumption) ?rest25
  case hy25 => (intro w hSw; (try dsimp only at hSw); go_simp; try with_reducible rfl)
  try simp only [Act.put, List.setIfInBounds_toArray, List.set_cons_zero, List.set_cons_succ]
  refine wpAnyH_ready (rs := [18]) (by kernel_rfl) (by simp) ?_
  refine AllReadyH.cons (o := ⟨some 56, .call { callee := .value (.func 27), args := #[.tmp 55], argTypes := #[29] }, 4, "law.go:59", #[⟨17, .data⟩, ⟨16, .chain⟩, ⟨16, .guard⟩], some (16, true)⟩) rfl (fun K hK => ?_) AllReadyH.nil
  go_simp
  refine (KL.out _ hw5).mono ?_
  rintro e w4 ⟨rfl, rfl⟩
  go_wp2_with fail
  refine hK.out _ _ hS5 (fun hSx => ?_)
  clear hK K
  try simp only [Act.put, List.setIfInBounds_toArray, List.set_cons_zero, List.set_cons_succ]
  refine' wpAnyH_take (i := 21) (oi := ⟨some 59, .binOp .eql 4 (.tmp 56) (.tmp 58) 4, 4, "law.go:59", #[⟨18, .data⟩, ⟨20, .data⟩, ⟨16, .guard⟩], some (16, true)⟩) (v := _) rfl (by kernel_rfl) (by kernel_rfl) (by kernel_rfl) (fun _ _ _ h => h) (Or.inl ⟨by rfl, ?hy27⟩) (by assumption) ?rest27
  case hy27 => (intro w hSw; (try dsimp only at hSw); go_simp; try with_reducible rfl)
  try simp only [Act.put, List.setIfInBounds_toArray, List.set_cons_zero, List.set_cons_succ]
  refine' wpAnyH_take (i := 22) (oi := ⟨some 60, .pick (.tmp 54) (.tmp 59) (.const (.bool false)), 4, "law.go:59", #[⟨16, .data⟩, ⟨21, .data⟩], none⟩) (v := _) rfl (by kernel_rfl) (by kernel_rfl) (by kernel_rfl) (fun _ _ _ h => h) (Or.inl ⟨by rfl, ?hy28⟩) (by assumption) ?rest28
  case hy28 => (intro w hSw; (try dsimp only at hSw); go_simp; try with_reducible rfl)
  try simp only [Act.put, List.setIfInBounds_toArray, List.set_cons_zero, List.set_cons_succ]
  refine' wpAnyH_take (i := 23) (oi := ⟨some 61, .move (.tmp 60), 4, "law.go:59", #[⟨22, .data⟩, ⟨18, .chain⟩], none⟩) (v := _) rfl (by kernel_rfl) (by kernel_rfl) (by kernel_rfl) (fun _ _ _ h => h) (Or.inl ⟨by rfl, ?hy29⟩) (by assumption) ?rest29
  case hy29 => (intro w hSw; (try dsimp only at hSw); go_simp; try with_reducible rfl)
  try simp only [Act.put, List.setIfInBounds_toArray, List.set_cons_zero, List.set_cons_succ]
  refine' wpAnyH_take (i := 24) (oi := ⟨some 62, .move (.tmp 0), 29, "law.go:59", #[⟨23, .guard⟩], some (23, true)⟩) (v := _) rfl (by kernel_rfl) (by kernel_rfl) (by kernel_rfl) (fun _ _ _ h => h) (Or.inl ⟨by rfl, ?hy30⟩) (by assumption) ?rest30
  case hy30 => (intro w hSw; (try dsimp only at hSw); go_simp; try with_reducible rfl)
  try simp only [Act.put, List.setIfInBounds_toArray, List.set_cons_zero, List.set_cons_succ]
  refine' wpAnyH_take (i := 26) (oi := ⟨some 64, .fieldAddr 37 (.tmp 4) 9, 0, "law.go:59", #[⟨23, .guard⟩], some (23, true)⟩) (v := _) rfl (by kernel_rfl) (by kernel_rfl) (by kernel_rfl) (fun _ _ _ h => h) (Or.inl ⟨by rfl, ?hy32⟩) (by assumption) ?rest32
  case hy32 => (intro w hSw; (try dsimp only at hSw); go_simp; try with_reducible rfl)
  try simp only [Act.put, List.setIfInBounds_toArray, List.set_cons_zero, List.set_cons_succ]
  refine' wpAnyH_take (i := 27) (oi := ⟨some 65, .load 34 (.tmp 64), 34, "law.go:59", #[⟨26, .data⟩, ⟨23, .guard⟩], some (23, true)⟩) (v := _) rfl (by kernel_rfl) (by kernel_rfl) (by kernel_rfl) (fun _ _ _ h => h) (Or.inl ⟨by rfl, ?hy34⟩) (by assumption) ?rest34
  case hy34 => (intro w hSw; (try dsimp only at hSw); go_simp; try with_reducible rfl)
  try simp only [Act.put, List.setIfInBounds_toArray, List.set_cons_zero, List.set_cons_succ]
  refine wpAnyH_ready (rs := [25]) (by kernel_rfl) (by simp) ?_
  refine AllReadyH.cons (o := ⟨some 63, .call { callee := .value (.func 50), args := #[.tmp 62], argTypes := #[29] }, 35, "law.go:59", #[⟨24, .data⟩, ⟨23, .chain⟩, ⟨23, .guard⟩], some (23, true)⟩) rfl (fun K hK => ?_) AllReadyH.nil
  go_simp
  refine (KH.out _ hw5).mono ?_
  rintro e w6 ⟨v6, rfl, o6, b6⟩
  obtain ⟨A6, q6, rfl⟩ := own_open14 o6
  have hw6 : Below w.heap.size w w6 := below_on hw5 b6
  have hS6 := keep17l hS5 b6 LT5
  have LT6 : w.heap.size < w6.heap.size := Nat.lt_of_lt_of_le LT5 b6.size
  go_wp2_with fail
  refine hK.out _ _ hS6 (fun hSx => ?_)
  clear hK K
  try simp only [Act.put, List.setIfInBounds_toArray, List.set_cons_zero, List.set_cons_succ]
  refine wpAnyH_ready (rs := [28]) (by kernel_rfl) (by simp) ?_
  refine AllReadyH.cons (o := ⟨some 66, .call { callee := .value (.func 33), args := #[.tmp 65], argTypes := #[34] }, 35, "law.go:59", #[⟨27, .data⟩, ⟨25, .chain⟩, ⟨23, .guard⟩], some (23, true)⟩) rfl (fun K hK => ?_) AllReadyH.nil
  go_simp
  refine (KH2.out _ hw6).mono ?_
  rintro e w7 ⟨v7, rfl, o7, b7⟩
  obtain ⟨A7, q7, rfl⟩ := own_open14 o7
  have hw7 : Below w.heap.size w w7 := below_on hw6 b7
  have hS7 := keep17l hS6 b7 LT6
  have LT7 : w.heap.size < w7.heap.size := Nat.lt_of_lt_of_le LT6 b7.size
  go_wp2_with fail
  refine hK.out _ _ hS7 (fun hSx => ?_)
  clear hK K
  try simp only [Act.put, List.setIfInBounds_toArray, List.set_cons_zero, List.set_cons_succ]
  refine wpAnyH_ready (rs := [29]) (by kernel_rfl) (by simp) ?_
  refine AllReadyH.cons (o := ⟨some 67, .call { callee := .value (.func 23), args := #[.tmp 63, .tmp 66], argTypes := #[35, 35] }, 4, "law.go:59", #[⟨25, .data⟩, ⟨28, .data⟩, ⟨28, .chain⟩, ⟨23, .guard⟩], some (23, true)⟩) rfl (fun K hK => ?_) AllReadyH.nil
  go_simp
  refine (rsame_yes _ _ _ _ (onL15 H.tab H.tab.length) _ ((Lies.of_own o6).below b7) (Lies.of_own o7) HO.out).mono ?_
  rintro e w8 ⟨rfl, b8⟩
  have hw8 : Below w.heap.size w w8 := below_on hw7 b8
  have hS8 := keep17l hS7 b8 LT7
  go_wp2_with fail
  refine hK.out _ _ hS8 (fun hSx => ?_)
  clear hK K
  try simp only [Act.put, List.setIfInBounds_toArray, List.set_cons_zero, List.set_cons_succ]
  refine' wpAnyH_take (i := 30) (oi := ⟨some 68, .pick (.tmp 61) (.tmp 67) (.const (.bool false)), 4, "law.go:59", #[⟨23, .data⟩, ⟨29, .data⟩], none⟩) (v := _) rfl (by kernel_rfl) (by kernel_rfl) (by kernel_rfl) (fun _ _ _ h => h) (Or.inl ⟨by rfl, ?hy38⟩) (by assumption) ?rest38
  case hy38 => (intro w hSw; (try dsimp only at hSw); go_simp; try with_reducible rfl)
  try simp only [Act.put, List.setIfInBounds_toArray, List.set_cons_zero, List.set_cons_succ]
  refine' wpAnyH_take (i := 31) (oi := ⟨some 69, .move (.tmp 68), 4, "law.go:59", #[⟨30, .data⟩, ⟨29, .chain⟩], none⟩) (v := _) rfl (by kernel_rfl) (by kernel_rfl) (by kernel_rfl) (fun _ _ _ h => h) (Or.inl ⟨by rfl, ?hy39⟩) (by assumption) ?rest39
  case hy39 => (intro w hSw; (try dsimp only at hSw); go_simp; try with_reducible rfl)
  try simp only [Act.put, List.setIfInBounds_toArray, List.set_cons_zero, List.set_cons_succ]
  refine' wpAnyH_take (i := 32) (oi := ⟨some 70, .move (.tmp 11), 3, "law.go:59", #[⟨31, .guard⟩], some (31, true)⟩) (v := _) rfl (by kernel_rfl) (by kernel_rfl) (by kernel_rfl) (fun _ _ _ h => h) (Or.inl ⟨by rfl, ?hy40⟩) (by assumption) ?rest40
  case hy40 => (intro w hSw; (try dsimp only at hSw); go_simp; try with_reducible rfl)
  try simp only [Act.put, List.setIfInBounds_toArray, List.set_cons_zero, List.set_cons_succ]
  refine' wpAnyH_take (i := 33) (oi := ⟨some 71, .move (.tmp 13), 3, "law.go:59", #[⟨31, .guard⟩], some (31, true)⟩) (v := _) rfl (by kernel_rfl) (by kernel_rfl) (by kernel_rfl) (fun _ _ _ h => h) (Or.inl ⟨by rfl, ?hy41⟩) (by assumption) ?rest41
  case hy41 => (intro w hSw; (try dsimp only at hSw); go_simp; try with_reducible rfl)
  try simp only [Act.put, List.setIfInBounds_toArray, List.set_cons_zero, List.set_cons_succ]
  refine' wpAnyH_take (i := 34) (oi := ⟨some 72, .binOp .eql 3 (.tmp 70) (.tmp 71) 3, 4, "law.go:59", #[⟨32, .data⟩, ⟨33, .data⟩, ⟨31, .guard⟩], some (31, true)⟩) (v := _) rfl (by kernel_rfl) (by kernel_rfl) (by kernel_rfl) (fun _ _ _ h => h) (Or.inl ⟨by rfl, ?hy42⟩) (by assumption) ?rest42
  case hy42 => (intro w hSw; (try dsimp only at hSw); go_simp; try with_reducible rfl)
  try simp only [Act.put, List.setIfInBounds_toArray, List.set_cons_zero, List.set_cons_succ]
  refine' wpAnyH_take (i := 35) (oi := ⟨some 73, .pick (.tmp 69) (.tmp 72) (.const (.bool false)), 4, "law.go:59", #[⟨31, .data⟩, ⟨34, .data⟩], none⟩) (v := _) rfl (by kernel_rfl) (by kernel_rfl) (by kernel_rfl) (fun _ _ _ h => h) (Or.inl ⟨by rfl, ?hy43⟩) (by assumption) ?rest43
  case hy43 => (intro w hSw; (try dsimp only at hSw); go_simp; try with_reducible rfl)
  try simp only [Act.put, List.setIfInBounds_toArray, List.set_cons_zero, List.set_cons_succ]
  refine' wpAnyH_take (i := 36) (oi := ⟨some 74, .move (.tmp 73), 4, "law.go:59", #[⟨35, .data⟩, ⟨31, .chain⟩], none⟩) (v := _) rfl (by kernel_rfl) (by kernel_rfl) (by kernel_rfl) (fun _ _ _ h => h) (Or.inl ⟨by rfl, ?hy44⟩) (by assumption) ?rest44
  case hy44 => (intro w hSw; (try dsimp only at hSw); go_simp; try with_reducible rfl)
  try simp only [Act.put, List.setIfInBounds_toArray, List.set_cons_zero, List.set_cons_succ]
  refine' wpAnyH_take (i := 37) (oi := ⟨some 75, .move (.tmp 12), 4, "law.go:59", #[⟨36, .guard⟩], some (36, true)⟩) (v := _) rfl (by kernel_rfl) (by kernel_rfl) (by kernel_rfl) (fun _ _ _ h => h) (Or.inl ⟨by rfl, ?hy45⟩) (by assumption) ?rest45
  case hy45 => (intro w hSw; (try dsimp only at hSw); go_simp; try with_reducible rfl)
  try simp only [Act.put, List.setIfInBounds_toArray, List.set_cons_zero, List.set_cons_succ]
  refine' wpAnyH_take (i := 38) (oi := ⟨some 76, .move (.tmp 14), 4, "law.go:59", #[⟨36, .guard⟩], some (36, true)⟩) (v := _) rfl (by kernel_rfl) (by kernel_rfl) (by kernel_rfl) (fun _ _ _ h => h) (Or.inl ⟨by rfl, ?hy46⟩) (by assumption) ?rest46
  case hy46 => (intro w hSw; (try dsimp only at hSw); go_simp; try with_reducible rfl)
  try simp only [Act.put, List.setIfInBounds_toArray, List.set_cons_zero, List.set_cons_succ]
  refine' wpAnyH_take (i := 39) (oi := ⟨some 77, .binOp .eql 4 (.tmp 75) (.tmp 76) 4, 4, "law.go:59", #[⟨37, .data⟩, ⟨38, .data⟩, ⟨36, .guard⟩], some (36, true)⟩) (v := _) rfl (by kernel_rfl) (by kernel_rfl) (by kernel_rfl) (fun _ _ _ h => h) (Or.inl ⟨by rfl, ?hy47⟩) (by assumption) ?rest47
  case hy47 => (intro w hSw; (try dsimp only at hSw); go_simp; try with_reducible rfl)
  try simp only [Act.put, List.setIfInBounds_toArray, List.set_cons_zero, List.set_cons_succ]
  refine' wpAnyH_take (i := 40) (oi := ⟨some 78, .pick (.tmp 74) (.tmp 77) (.const (.bool false)), 4, "law.go:59", #[⟨36, .data⟩, ⟨39, .data⟩], none⟩) (v := _) rfl (by kernel_rfl) (by kernel_rfl) (by kernel_rfl) (fun _ _ _ h => h) (Or.inl ⟨by rfl, ?hy48⟩) (by assumption) ?rest48
  case hy48 => (intro w hSw; (try dsimp only at hSw); go_simp; try with_reducible rfl)
  try simp only [Act.put, List.setIfInBounds_toArray, List.set_cons_zero, List.set_cons_succ]
  refine' wpAnyH_take (i := 41) (oi := ⟨some 6, .assign (.tmp 78), 4, "law.go:59", #[⟨40, .data⟩, ⟨36, .chain⟩, ⟨0, .phase⟩, ⟨1, .phase⟩, ⟨2, .phase⟩, ⟨3, .phase⟩, ⟨4, .phase⟩, ⟨5, .phase⟩, ⟨6, .phase⟩, ⟨7, .phase⟩, ⟨8, .phase⟩, ⟨9, .phase⟩, ⟨10, .phase⟩, ⟨11, .phase⟩, ⟨12, .phase⟩, ⟨13, .phase⟩, ⟨14, .phase⟩, ⟨15, .phase⟩, ⟨16, .phase⟩, ⟨17, .phase⟩, ⟨18, .phase⟩, ⟨19, .phase⟩, ⟨20, .phase⟩, ⟨21, .phase⟩, ⟨22, .phase⟩, ⟨23, .phase⟩, ⟨24, .phase⟩, ⟨25, .phase⟩, ⟨26, .phase⟩, ⟨27, .phase⟩, ⟨28, .phase⟩, ⟨29, .phase⟩, ⟨30, .phase⟩, ⟨31, .phase⟩, ⟨32, .phase⟩, ⟨33, .phase⟩, ⟨34, .phase⟩, ⟨35, .phase⟩, ⟨36, .phase⟩, ⟨37, .phase⟩, ⟨38, .phase⟩, ⟨39, .phase⟩, ⟨40, .phase⟩], none⟩) (v := _) rfl (by kernel_rfl) (by kernel_rfl) (by kernel_rfl) (fun _ _ _ h => h) (Or.inl ⟨by rfl, ?hy49⟩) (by assumption) ?rest49
  case hy49 => (intro w hSw; (try dsimp only at hSw); go_simp; try with_reducible rfl)
  try simp only [Act.put, List.setIfInBounds_toArray, List.set_cons_zero, List.set_cons_succ]
  refine wpAnyH_done (by kernel_rfl) ?_ _
  go_wp2
  go_ret
  exact ⟨rfl, hw8⟩
end
end

section
open Go.ChangeShapes Go.WideShapes Go.ChangeAt Go.RowKit
set_option maxRecDepth 100000 in
set_option maxHeartbeats 4000000 in
theorem ris17g_any (B R self peer own : Int) (w : World) :
    Calls Tryz.prog 29 #[.int .i64 B, .int .i64 R, .int .i64 self, .int .i64 peer, .int .i64 own] w fun e w' => e = .returned (.bool (decide (ok17 B R self peer own))) ∧ w = w' := by
  have KR := Lib.hid (fun W => rring13_any R W)
  obtain ⟨b, hb⟩ : ∃ b, decide (ok17 B R self peer own) = b := ⟨_, rfl⟩
  rw [hb]
  by_cases c0 : okRing R
  rotate_left
  · obtain rfl : false = b := by rw [← hb]; symm; simp only [decide_eq_false_iff_not]; intro h; unfold ok17 at h; exact c0 (by exact h.1)
    have e0 : decide (okRing R) = false := by simp [c0]
    rw [e0] at KR
    clear hb c0
    go_enter Tryz.func29, Tryz.ntmps29
    go_wp2_with fail
    refine (KR.out _).mono ?_
    rintro e w' ⟨rfl, rfl⟩
    go_wp2
    go_ret
    exact ⟨rfl, rfl⟩
  by_cases c1 : 0 ≤ B
  rotate_left
  · obtain rfl : false = b := by rw [← hb]; symm; simp only [decide_eq_false_iff_not]; intro h; unfold ok17 at h; exact c1 (by omega)
    have e0 : decide (okRing R) = true := by simp [c0]
    rw [e0] at KR
    have e1 : decide ((0 : Int) ≤ B) = false := decide_eq_false c1
    clear hb c0 c1
    go_enter Tryz.func29, Tryz.ntmps29
    go_wp2_with fail
    refine (KR.out _).mono ?_
    rintro e w' ⟨rfl, rfl⟩
    go_wp2
    go_ret
    exact ⟨rfl, rfl⟩
  by_cases c2 : B < 65536
  rotate_left
  · obtain rfl : false = b := by rw [← hb]; symm; simp only [decide_eq_false_iff_not]; intro h; unfold ok17 at h; exact c2 (by omega)
    have e0 : decide (okRing R) = true := by simp [c0]
    rw [e0] at KR
    have e1 : decide ((0 : Int) ≤ B) = true := decide_eq_true c1
    have e2 : decide (B < 65536) = false := decide_eq_false c2
    clear hb c0 c1 c2
    go_enter Tryz.func29, Tryz.ntmps29
    go_wp2_with fail
    refine (KR.out _).mono ?_
    rintro e w' ⟨rfl, rfl⟩
    go_wp2
    go_ret
    exact ⟨rfl, rfl⟩
  by_cases c3 : 0 ≤ self
  rotate_left
  · obtain rfl : false = b := by rw [← hb]; symm; simp only [decide_eq_false_iff_not]; intro h; unfold ok17 at h; exact c3 (by omega)
    have e0 : decide (okRing R) = true := by simp [c0]
    rw [e0] at KR
    have e1 : decide ((0 : Int) ≤ B) = true := decide_eq_true c1
    have e2 : decide (B < 65536) = true := decide_eq_true c2
    have e3 : decide ((0 : Int) ≤ self) = false := decide_eq_false c3
    clear hb c0 c1 c2 c3
    go_enter Tryz.func29, Tryz.ntmps29
    go_wp2_with fail
    refine (KR.out _).mono ?_
    rintro e w' ⟨rfl, rfl⟩
    go_wp2
    go_ret
    exact ⟨rfl, rfl⟩
  by_cases c4 : self < 8
  rotate_left
  · obtain rfl : false = b := by rw [← hb]; symm; simp only [decide_eq_false_iff_not]; intro h; unfold ok17 at h; exact c4 (by omega)
    have e0 : decide (okRing R) = true := by simp [c0]
    rw [e0] at KR
    have e1 : decide ((0 : Int) ≤ B) = true := decide_eq_true c1
    have e2 : decide (B < 65536) = true := decide_eq_true c2
    have e3 : decide ((0 : Int) ≤ self) = true := decide_eq_true c3
    have e4 : decide (self < 8) = false := decide_eq_false c4
    clear hb c0 c1 c2 c3 c4
    go_enter Tryz.func29, Tryz.ntmps29
    go_wp2_with fail
    refine (KR.out _).mono ?_
    rintro e w' ⟨rfl, rfl⟩
    go_wp2
    go_ret
    exact ⟨rfl, rfl⟩
  by_cases c5 : 0 ≤ peer
  rotate_left
  · obtain rfl : false = b := by rw [← hb]; symm; simp only [decide_eq_false_iff_not]; intro h; unfold ok17 at h; exact c5 (by omega)
    have e0 : decide (okRing R) = true := by simp [c0]
    rw [e0] at KR
    have e1 : decide ((0 : Int) ≤ B) = true := decide_eq_true c1
    have e2 : decide (B < 65536) = true := decide_eq_true c2
    have e3 : decide ((0 : Int) ≤ self) = true := decide_eq_true c3
    have e4 : decide (self < 8) = true := decide_eq_true c4
    have e5 : decide ((0 : Int) ≤ peer) = false := decide_eq_false c5
    clear hb c0 c1 c2 c3 c4 c5
    go_enter Tryz.func29, Tryz.ntmps29
    go_wp2_with fail
    refine (KR.out _).mono ?_
    rintro e w' ⟨rfl, rfl⟩
    go_wp2
    go_ret
    exact ⟨rfl, rfl⟩
  by_cases c6 : peer < 8
  rotate_left
  · obtain rfl : false = b := by rw [← hb]; symm; simp only [decide_eq_false_iff_not]; intro h; unfold ok17 at h; exact c6 (by omega)
    have e0 : decide (okRing R) = true := by simp [c0]
    rw [e0] at KR
    have e1 : decide ((0 : Int) ≤ B) = true := decide_eq_true c1
    have e2 : decide (B < 65536) = true := decide_eq_true c2
    have e3 : decide ((0 : Int) ≤ self) = true := decide_eq_true c3
    have e4 : decide (self < 8) = true := decide_eq_true c4
    have e5 : decide ((0 : Int) ≤ peer) = true := decide_eq_true c5
    have e6 : decide (peer < 8) = false := decide_eq_false c6
    clear hb c0 c1 c2 c3 c4 c5 c6
    go_enter Tryz.func29, Tryz.ntmps29
    go_wp2_with fail
    refine (KR.out _).mono ?_
    rintro e w' ⟨rfl, rfl⟩
    go_wp2
    go_ret
    exact ⟨rfl, rfl⟩
  by_cases c7 : self ≠ peer
  rotate_left
  · obtain rfl : false = b := by rw [← hb]; symm; simp only [decide_eq_false_iff_not]; intro h; unfold ok17 at h; exact c7 (by exact h.2.2.2.2.1)
    have e0 : decide (okRing R) = true := by simp [c0]
    rw [e0] at KR
    have e1 : decide ((0 : Int) ≤ B) = true := decide_eq_true c1
    have e2 : decide (B < 65536) = true := decide_eq_true c2
    have e3 : decide ((0 : Int) ≤ self) = true := decide_eq_true c3
    have e4 : decide (self < 8) = true := decide_eq_true c4
    have e5 : decide ((0 : Int) ≤ peer) = true := decide_eq_true c5
    have e6 : decide (peer < 8) = true := decide_eq_true c6
    have e7 : (self != peer) = false := by simpa using c7
    clear hb c0 c1 c2 c3 c4 c5 c6 c7
    go_enter Tryz.func29, Tryz.ntmps29
    go_wp2_with fail
    refine (KR.out _).mono ?_
    rintro e w' ⟨rfl, rfl⟩
    go_wp2
    go_ret
    exact ⟨rfl, rfl⟩
  by_cases c8 : 0 ≤ own
  rotate_left
  · obtain rfl : false = b := by rw [← hb]; symm; simp only [decide_eq_false_iff_not]; intro h; unfold ok17 at h; exact c8 (by omega)
    have e0 : decide (okRing R) = true := by simp [c0]
    rw [e0] at KR
    have e1 : decide ((0 : Int) ≤ B) = true := decide_eq_true c1
    have e2 : decide (B < 65536) = true := decide_eq_true c2
    have e3 : decide ((0 : Int) ≤ self) = true := decide_eq_true c3
    have e4 : decide (self < 8) = true := decide_eq_true c4
    have e5 : decide ((0 : Int) ≤ peer) = true := decide_eq_true c5
    have e6 : decide (peer < 8) = true := decide_eq_true c6
    have e7 : (self != peer) = true := by simpa using c7
    have e8 : decide ((0 : Int) ≤ own) = false := decide_eq_false c8
    clear hb c0 c1 c2 c3 c4 c5 c6 c7 c8
    go_enter Tryz.func29, Tryz.ntmps29
    go_wp2_with fail
    refine (KR.out _).mono ?_
    rintro e w' ⟨rfl, rfl⟩
    go_wp2
    go_ret
    exact ⟨rfl, rfl⟩
  by_cases c9 : own < 65536
  rotate_left
  · obtain rfl : false = b := by rw [← hb]; symm; simp only [decide_eq_false_iff_not]; intro h; unfold ok17 at h; exact c9 (by omega)
    have e0 : decide (okRing R) = true := by simp [c0]
    rw [e0] at KR
    have e1 : decide ((0 : Int) ≤ B) = true := decide_eq_true c1
    have e2 : decide (B < 65536) = true := decide_eq_true c2
    have e3 : decide ((0 : Int) ≤ self) = true := decide_eq_true c3
    have e4 : decide (self < 8) = true := decide_eq_true c4
    have e5 : decide ((0 : Int) ≤ peer) = true := decide_eq_true c5
    have e6 : decide (peer < 8) = true := decide_eq_true c6
    have e7 : (self != peer) = true := by simpa using c7
    have e8 : decide ((0 : Int) ≤ own) = true := decide_eq_true c8
    have e9 : decide (own < 65536) = false := decide_eq_false c9
    clear hb c0 c1 c2 c3 c4 c5 c6 c7 c8 c9
    go_enter Tryz.func29, Tryz.ntmps29
    go_wp2_with fail
    refine (KR.out _).mono ?_
    rintro e w' ⟨rfl, rfl⟩
    go_wp2
    go_ret
    exact ⟨rfl, rfl⟩
  obtain rfl : true = b := by rw [← hb]; symm; simp only [decide_eq_true_eq]; exact ⟨c0, ⟨c1, c2⟩, ⟨c3, c4⟩, ⟨c5, c6⟩, c7, c8, c9⟩
  have e0 : decide (okRing R) = true := by simp [c0]
  rw [e0] at KR
  have e1 : decide ((0 : Int) ≤ B) = true := decide_eq_true c1
  have e2 : decide (B < 65536) = true := decide_eq_true c2
  have e3 : decide ((0 : Int) ≤ self) = true := decide_eq_true c3
  have e4 : decide (self < 8) = true := decide_eq_true c4
  have e5 : decide ((0 : Int) ≤ peer) = true := decide_eq_true c5
  have e6 : decide (peer < 8) = true := decide_eq_true c6
  have e7 : (self != peer) = true := by simpa using c7
  have e8 : decide ((0 : Int) ≤ own) = true := decide_eq_true c8
  have e9 : decide (own < 65536) = true := decide_eq_true c9
  clear hb c0 c1 c2 c3 c4 c5 c6 c7 c8 c9
  go_enter Tryz.func29, Tryz.ntmps29
  go_wp2_with fail
  refine (KR.out _).mono ?_
  rintro e w' ⟨rfl, rfl⟩
  go_wp2
  go_ret
  exact ⟨rfl, rfl⟩
set_option maxRecDepth 100000 in
set_option maxHeartbeats 400000 in
theorem ris17_any (B R self peer own : Int) (w : World) :
    Calls Tryz.prog 7 #[.int .i64 B, .int .i64 R, .int .i64 self, .int .i64 peer, .int .i64 own] w fun e w' => e = .returned (.bool (decide (ok17 B R self peer own))) ∧ w = w' := by
  have K := Lib.hid (ris17g_any B R self peer own w)
  obtain ⟨q, hq⟩ : ∃ q, decide (ok17 B R self peer own) = q := ⟨_, rfl⟩
  rw [hq] at K ⊢
  clear hq
  go_enter Tryz.func7, Tryz.ntmps7
  go_wp2_with fail
  refine K.out.mono ?_
  rintro e w' ⟨rfl, rfl⟩
  go_wp2
  go_ret
  exact ⟨rfl, rfl⟩
end

end Go.Proofs.YtiofipofbeodpaaGreatDoor
