/-
  Layer 16 (giver): a call to its end (the laws' run).
  Conditions: those that each theorem states.
-/
import Derived.Test.YtgdbaaoifnedbaaDoorGv12
namespace Go.Proofs.YtgdbaaoifnedbaaDoor
open Go.ChangeShapes Go.WideShapes Go.ChangeAt Go.RowKit

theorem Only.then_ {S T : Nat → Prop} {a b c : World} (h : Only S a b) (k : Only T b c) (hT : ∀ x, x < a.heap.size → T x → S x) : Only S a c :=
  ⟨k.os.trans h.os, k.tape.trans h.tape, k.output.trans h.output, Nat.le_trans h.size k.size, fun i hi hn => (k.block i (Nat.lt_of_lt_of_le hi h.size) (fun ht => hn (hT i hi ht))).trans (h.block i hi hn)⟩

/-- The call that is under way ends with its step number n (counted from 0), and answers e. -/
structure Ends16 (E : List Int) (s : Run16) (n : Nat) (e : Int) : Prop where
  none_ : ∀ k, k < n → ra16 E (it16 E s k) = none
  some_ : ra16 E (it16 E s n) = some e
  ok : Ok16 s.G
  st : s.G.st ≠ 0

theorem kicks_grow {K : List Int} {o : Tch} : (aK16 K o).length ≤ K.length + 1 := by
  unfold aK16 dK14
  split <;> simp

theorem it16_kicks (E : List Int) (s : Run16) : ∀ k, (it16 E s k).K.length ≤ s.K.length + k
  | 0 => Nat.le_refl _
  | k + 1 => by
    have h := it16_kicks E s k
    have h2 : (it16 E s (k + 1)).K.length ≤ (it16 E s k).K.length + 1 := kicks_grow
    omega

theorem it16_pot {E : List Int} {s : Run16} (ho : Ok16 s.G) (h0 : s.G.st ≠ 0) : ∀ k, (∀ j, j < k → ra16 E (it16 E s j) = none) → (it16 E s k).G.st ≠ 0 ∧ pot16 (it16 E s k).G + k ≤ pot16 s.G
  | 0, _ => ⟨h0, Nat.le_refl _⟩
  | k + 1, h => by
    obtain ⟨h1, h2⟩ := it16_pot ho h0 k (fun j hj => h j (by omega))
    have hp := pot16_aft (it16_ok ho k (E := E)) h1 (rn16 E (it16 E s k))
    have hn := hp.2.1 (h k (by omega))
    exact ⟨hn.2, by have := hp.1; show pot16 (aft16 (it16 E s k).G (rn16 E (it16 E s k))).1 + (k + 1) ≤ _; omega⟩

/-- Every call that is under way ends, behind at most as many steps as the bound says. -/
theorem ends16_ex {E : List Int} {s : Run16} (ho : Ok16 s.G) (h0 : s.G.st ≠ 0) : ∃ n e, Ends16 E s n e ∧ n < pot16 s.G := by
  have key : ∀ m k, (∀ j, j < k → ra16 E (it16 E s j) = none) → pot16 s.G ≤ k + m → ∃ n e, Ends16 E s n e ∧ n < pot16 s.G := by
    intro m
    induction m with
    | zero =>
      intro k hk hm
      obtain ⟨h1, h2⟩ := it16_pot ho h0 k hk
      have hp := (pot16_aft (it16_ok ho k (E := E)) h1 (rn16 E (it16 E s k))).1
      omega
    | succ m ih =>
      intro k hk hm
      obtain ⟨h1, h2⟩ := it16_pot ho h0 k hk
      have hp := (pot16_aft (it16_ok ho k (E := E)) h1 (rn16 E (it16 E s k))).1
      cases hr : ra16 E (it16 E s k) with
      | some e => exact ⟨k, e, ⟨hk, hr, ho, h0⟩, by omega⟩
      | none =>
        refine ih (k + 1) (fun j hj => ?_) (by omega)
        by_cases hjk : j = k
        · rw [hjk]; exact hr
        · exact hk j (by omega)
  exact key (pot16 s.G) 0 (fun j hj => by omega) (by omega)

theorem Ends16.step {E : List Int} {s : Run16} {n : Nat} {e : Int} (h : Ends16 E s n e) {k : Nat} (hk : k ≤ n) : (it16 E s k).G.st ≠ 0 ∧ Ok16 (it16 E s k).G :=
  ⟨(it16_pot h.ok h.st k (fun j hj => h.none_ j (by omega))).1, it16_ok h.ok k⟩

set_option maxRecDepth 100000 in
set_option maxHeartbeats 1000000 in
theorem run16_any {U : Nat → Prop} {g p : Nat} {E : List Int} (s : Run16) (n : Nat) (e : Int) (w : World) (hs : SysP16 w U g p s.G s.V E s.K) (he : Ends16 E s n e) (hn : n < 100) (hk : s.K.length ≤ 60000) (hT : ∀ wr, Only U w wr → TabAt wr) :
    Calls Tryd.prog 33 #[.pointer (some ⟨g, 0, none⟩), face14 p] w fun r w' => r = .returned (.int .i64 e) ∧ SysP16 w' (fun x => U x ∨ w.heap.size ≤ x) g p (it16 E s (n + 1)).G (it16 E s (n + 1)).V E (it16 E s (n + 1)).K ∧ Only U w w' := by
  have HE := Lib.hid he
  have HS : Hid (SysP16 w (fun x => U x ∨ w.heap.size ≤ x) g p (it16 E s 0).G (it16 E s 0).V E (it16 E s 0).K) := Lib.hid (hs.weak (fun x _ h => .inl h))
  have HO := Lib.hid (Only.refl U w)
  have HT := Lib.hid hT
  have HK := Lib.hid hk
  clear he hs hT hk
  unfold face14
  go_enter Tryd.func33, Tryd.ntmps33
  go_wp2
  go_loopw [7] (fun iv wr => ∃ k : Nat, k ≤ n ∧ iv = .int .i64 (k : Int) ∧ Hid (SysP16 wr (fun x => U x ∨ w.heap.size ≤ x) g p (it16 E s k).G (it16 E s k).V E (it16 E s k).K) ∧ Hid (Only U w wr)) (fun iv _ => 101 - (intOf iv).toNat)
  case atStart => exact ⟨0, Nat.zero_le _, rfl, HS, HO⟩
  case round =>
    clear HS HO
    obtain ⟨k, hkn, rfl, SR, OR⟩ := hrel
    have hst := HE.out.step hkn
    have KS := Lib.hid (stepP16 wr SR.out hst.2.acc (hst.2.fit hst.1) (HT.out wr OR.out) (by have := it16_kicks E s k; have := HK.out; omega))
    unfold face14 at KS
    have hk100 : (k : Int) < 100 := by omega
    clear hst
    by_cases hlt : k < n
    · have ha : (aft16 (it16 E s k).G (aN16 (it16 E s k).V E (tch16 (it16 E s k).G))).2 = none := HE.out.none_ k hlt
      rw [ha] at KS
      unfold ansV16 at KS
      clear ha
      go_wp2_with fail
      refine KS.out.mono ?_
      rintro e w6 ⟨rfl, s6, o6⟩
      have S6 : Hid (SysP16 w6 (fun x => U x ∨ w.heap.size ≤ x) g p (it16 E s (k + 1)).G (it16 E s (k + 1)).V E (it16 E s (k + 1)).K) := Lib.hid (SysP16.weak s6 (fun x _ h => by
        rcases h with h | h
        · exact h
        · exact .inr (by have := OR.out.size; omega)))
      have O6 : Hid (Only U w w6) := Lib.hid (OR.out.then_ o6 (fun x hx h => by
        rcases h with h | h
        · exact h
        · omega))
      clear s6 o6 KS SR OR
      go_wp2
      go_roundw
      case rel => exact ⟨k + 1, by omega, by go_num, S6, O6⟩
      case measure => simp [intOf]; omega
    · obtain rfl : n = k := by omega
      have ha : (aft16 (it16 E s n).G (aN16 (it16 E s n).V E (tch16 (it16 E s n).G))).2 = some e := HE.out.some_
      rw [ha] at KS
      unfold ansV16 at KS
      clear ha
      go_wp2_with fail
      refine KS.out.mono ?_
      rintro e w6 ⟨rfl, s6, o6⟩
      have S6 : Hid (SysP16 w6 (fun x => U x ∨ w.heap.size ≤ x) g p (it16 E s (n + 1)).G (it16 E s (n + 1)).V E (it16 E s (n + 1)).K) := Lib.hid (SysP16.weak s6 (fun x _ h => by
        rcases h with h | h
        · exact h
        · exact .inr (by have := OR.out.size; omega)))
      have O6 : Hid (Only U w w6) := Lib.hid (OR.out.then_ o6 (fun x hx h => by
        rcases h with h | h
        · exact h
        · omega))
      clear s6 o6 KS SR OR
      go_wp2
      go_ret
      exact ⟨rfl, S6.out, O6.out⟩

#print axioms ends16_ex
#print axioms run16_any
end Go.Proofs.YtgdbaaoifnedbaaDoor
