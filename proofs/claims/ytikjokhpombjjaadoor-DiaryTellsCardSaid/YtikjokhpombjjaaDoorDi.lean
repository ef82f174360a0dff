/-
  Layer 19 (diary): entries in numbers, slices of entries, few.
  Conditions: those that each theorem states.
-/
import Derived.Test.YtikjokhpombjjaaDoorApp
import Derived.Test.YtikjokhpombjjaaDoorWhole
import Derived.Test.YtikjokhpombjjaaDoorWords
namespace Go.Proofs.YtikjokhpombjjaaDoor
open Go.ChangeShapes Go.WideShapes Go.ChangeAt Go.RowKit

/-- An entry in numbers. -/
structure En where
  core : Int
  peer : Int
  kind : Int
  beg : Int
  fin : Int
  err : Int
  load : List Int
  hnd : Int
deriving DecidableEq

/-- Its cells, where u is what its list's cell holds. -/
def row19 (x : En) (u : Value) : List Value := [.int .i64 x.core, .int .i64 x.peer, .int .i64 x.kind, .int .i64 x.beg, .int .i64 x.fin, .int .i64 x.err, u, .int .i64 x.hnd]

/-- u is a slice that holds the entry's list. -/
def Ld (w : World) (x : En) (u : Value) : Prop := Lies w (fun _ => True) u (ints x.load) ∧ CapOk u

theorem Ld.below {w w' : World} {x : En} {u : Value} (h : Ld w x u) (hb : Below w.heap.size w w') : Ld w' x u := ⟨h.1.below hb, h.2⟩

/-- The eight cells from an address on hold an entry. -/
def EnAt (w : World) (g o : Nat) (x : En) : Prop := ∃ u, (∀ j v, (row19 x u)[j]? = some v → w.cell? ⟨g, o + j, none⟩ = some v) ∧ Ld w x u

/-- The slice v holds the entries l. -/
def Ens (w : World) (v : Value) (l : List En) : Prop :=
  ∃ A c, v = .slice A l.length c ∧ (0 < l.length → ∃ g o, A = some ⟨g, o, none⟩ ∧ g < w.heap.size ∧ ∀ k x, l[k]? = some x → EnAt w g (o + k * 8) x)

theorem EnAt.below {w w' : World} {g o : Nat} {x : En} (h : EnAt w g o x) (hb : Below w.heap.size w w') : EnAt w' g o x := by
  obtain ⟨u, hc, hl⟩ := h
  have hlt := World.block_lt_of_cell? w _ (hc 0 _ rfl)
  exact ⟨u, fun j v hv => (hb.cell (p := ⟨g, o + j, none⟩) hlt).trans (hc j v hv), hl.below hb⟩

theorem Ens.below {w w' : World} {v : Value} {l : List En} (h : Ens w v l) (hb : Below w.heap.size w w') : Ens w' v l := by
  obtain ⟨A, c, rfl, hA⟩ := h
  refine ⟨A, c, rfl, fun hp => ?_⟩
  obtain ⟨g, o, rfl, hg, hc⟩ := hA hp
  exact ⟨g, o, rfl, Nat.lt_of_lt_of_le hg hb.size, fun k x hk => (hc k x hk).below hb⟩

theorem Ens.open_ {w : World} {v : Value} {l : List En} (h : Ens w v l) : ∃ A n c, v = .slice A n c ∧ Hid (l.length = n) ∧ Hid (Ens w (.slice A n c) l) := by
  have h0 := h
  obtain ⟨A, c, rfl, _⟩ := h
  exact ⟨A, _, c, rfl, rfl, h0⟩

/-- Entry number k, in cells. -/
theorem Ens.cells {w : World} {A : Option Addr} {n c k : Nat} {l : List En} {x : En} (h : Ens w (.slice A n c) l) (hk : l[k]? = some x) :
    ∃ g o u, A = some ⟨g, o, none⟩ ∧ g < w.heap.size ∧ Ld w x u ∧ w.cell? ⟨g, o + k * 8, none⟩ = some (.int .i64 x.core) ∧ w.cell? ⟨g, o + k * 8 + 1, none⟩ = some (.int .i64 x.peer) ∧ w.cell? ⟨g, o + k * 8 + 2, none⟩ = some (.int .i64 x.kind) ∧ w.cell? ⟨g, o + k * 8 + 3, none⟩ = some (.int .i64 x.beg) ∧ w.cell? ⟨g, o + k * 8 + 4, none⟩ = some (.int .i64 x.fin) ∧ w.cell? ⟨g, o + k * 8 + 5, none⟩ = some (.int .i64 x.err) ∧ w.cell? ⟨g, o + k * 8 + 6, none⟩ = some u ∧ w.cell? ⟨g, o + k * 8 + 7, none⟩ = some (.int .i64 x.hnd) := by
  obtain ⟨A', c', hv, hA⟩ := h
  injection hv with e1 e2 e3
  subst e1
  have hlt := lt_of_at hk
  obtain ⟨g, o, rfl, hg, hc⟩ := hA (by omega)
  obtain ⟨u, hr, hl⟩ := hc k x hk
  exact ⟨g, o, u, rfl, hg, hl, hr 0 _ rfl, hr 1 _ rfl, hr 2 _ rfl, hr 3 _ rfl, hr 4 _ rfl, hr 5 _ rfl, hr 6 _ rfl, hr 7 _ rfl⟩

theorem ld_open {w : World} {x : En} {u : Value} (h : Ld w x u) : ∃ A n c, u = .slice A n c ∧ Hid (x.load.length = n) ∧ Hid (Ld w x (.slice A n c)) := by
  have h0 := h
  obtain ⟨⟨A, c, rfl, _⟩, _⟩ := h
  exact ⟨A, _, c, rfl, Lib.hid (ints_len _).symm, Lib.hid h0⟩

/-- What Few answers. -/
def few19 (l : List En) (m : Int) : Bool := decide ((l.length : Int) ≤ m) && l.all (fun x => decide (x.load.length ≤ 100))
theorem few19_yes {l : List En} {m : Int} (h : few19 l m = true) : (l.length : Int) ≤ m ∧ ∀ x ∈ l, x.load.length ≤ 100 := by
  simpa [few19] using h

set_option maxRecDepth 100000 in
set_option maxHeartbeats 2000000 in
theorem few19_any (m : Int) (v : Value) (l : List En) (w : World) (hv : Ens w v l) (hm : l.length ≤ maxLen) :
    Calls Tryd.prog 7 #[v, .int .i64 m] w fun e w' => e = .returned (.bool (few19 l m)) ∧ Below w.heap.size w w' := by
  obtain ⟨A, n, c, rfl, HN, HV⟩ := hv.open_
  unfold maxLen at hm
  rw [HN.out] at hm
  by_cases h1 : (n : Int) ≤ m
  · have g1 : ¬ m < (n : Int) := by omega
    have HM := Lib.hid h1
    clear hv h1
    go_enter Tryd.func7, Tryd.ntmps7
    go_wp2
    go_loopw [13] (fun iv wr => ∃ k : Nat, k ≤ n ∧ iv = .int .i64 k ∧ Hid ((l.take k).all (fun x => decide (x.load.length ≤ 100)) = true) ∧ Hid (Below w.heap.size w wr)) (fun iv _ => n - (intOf iv).toNat)
    case atStart => exact ⟨0, Nat.zero_le _, rfl, Lib.hid (by simp), Lib.hid (Below.refl _ _)⟩
    case round =>
      obtain ⟨k, hk, rfl, HA, HB⟩ := hrel
      by_cases hlt : k < n
      · obtain ⟨x, hx⟩ : ∃ x, l[k]? = some x := ⟨_, List.getElem?_eq_getElem (by rw [HN.out]; exact hlt)⟩
        obtain ⟨g, o, u, rfl, hg, hl, c0, c1, c2, c3, c4, c5, c6, c7⟩ := (HV.out.below HB.out).cells hx
        obtain ⟨Au, nu, cu, rfl, HNU, HU⟩ := ld_open hl
        have hkn : (k : Int) < (n : Int) := by omega
        have HX := Lib.hid hx
        clear hl hx
        by_cases h50 : nu ≤ 100
        · have g3 : ¬ (100 : Int) < (nu : Int) := by omega
          have HA2 : Hid ((l.take (k + 1)).all (fun x => decide (x.load.length ≤ 100)) = true) := Lib.hid (by
            rw [List.take_add_one, HX.out]
            simp only [Option.toList_some, List.all_append, HA.out, List.all_cons, List.all_nil]
            rw [HNU.out]
            simpa using h50)
          clear h50
          go_wp2
          go_roundw
          case rel => exact ⟨k + 1, by omega, by go_num, HA2, Lib.hid (below_on HB.out (show Below wr.heap.size wr _ from by go_grown))⟩
          case measure => simp [intOf]; omega
        · have g3 : (100 : Int) < (nu : Int) := by omega
          have HF : Hid (few19 l m = false) := Lib.hid (by
            unfold few19
            have : l.all (fun x => decide (x.load.length ≤ 100)) = false := by
              rw [List.all_eq_false]
              exact ⟨x, List.mem_of_getElem? HX.out, by rw [HNU.out]; simpa using h50⟩
            rw [this]
            simp)
          clear h50
          go_wp2
          go_ret
          exact ⟨by rw [HF.out]; rfl, below_on HB.out (show Below wr.heap.size wr _ from by go_grown)⟩
      · obtain rfl : n = k := by omega
        have HF : Hid (few19 l m = true) := Lib.hid (by
          have := HA.out
          rw [← HN.out, List.take_length] at this
          unfold few19
          rw [this, HN.out, decide_eq_true HM.out]
          rfl)
        go_wp2
        go_ret
        exact ⟨by rw [HF.out]; rfl, HB.out⟩
  · have g1 : m < (n : Int) := by omega
    have HF : Hid (few19 l m = false) := Lib.hid (by unfold few19; rw [HN.out, decide_eq_false h1]; rfl)
    clear hv h1
    go_enter Tryd.func7, Tryd.ntmps7
    go_wp2
    go_ret
    exact ⟨by rw [HF.out]; rfl, Below.refl _ _⟩

#print axioms few19_any
end Go.Proofs.YtikjokhpombjjaaDoor
