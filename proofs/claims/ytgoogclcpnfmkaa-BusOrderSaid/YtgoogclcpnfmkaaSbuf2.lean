/-
  Contracts of layer 5 (sbuf): New, Cap, Len, Find, Put, Drain, Clear, for a buffer that is known whole, and for a nil buffer.
  Conditions: those that each theorem states.
-/
import Derived.Test.YtgoogclcpnfmkaaSbuf
import Derived.ArgAppend
namespace Go.Proofs.Ytgoogclcpnfmkaa
open Go.ChangeShapes Go.WideShapes Go.ChangeAt Go.RowKit

theorem cpx_info : (Try.prog.info? 112).map (fun i => (i.zero, i.size, i.bytes)) = some (some (.complex .f64 0 0), 1, 16) := by kernel_rfl
theorem cpx_size : (Try.prog.info? 112).map (·.size) = some 1 := by kernel_rfl

/-- The memory of a buffer's slice at address A with capacity c: none, or block b from an offset on; the stores are q. -/
def BufMem (w : World) (A : Option Addr) (c : Nat) (h : Option Nat) (q : List (Int × Int)) : Prop :=
  (c = 0 ∧ h = none) ∨ ∃ b off cs, h = some b ∧ A = some ⟨b, off, none⟩ ∧ Row w b 112 cs ∧ off + c ≤ cs.length ∧ ∀ j u, (cvs q)[j]? = some u → cs[off + j]? = some u

/-- A buffer: its struct is block g, its slice's memory is block h (if it has any); the stores that wait are q. -/
structure BufAt (w : World) (g : Nat) (h : Option Nat) (N : Nat) (A : Option Addr) (c : Nat) (q : List (Int × Int)) : Prop where
  top : Row w g 119 [.int .i64 N, .slice A q.length c]
  mem : BufMem w A c h q
  good : Good q
  pos : 1 ≤ N
  most : N ≤ 16
  fit : q.length ≤ N
  cap : q.length ≤ c
  none_ : A = none → c = 0

def BufQ (w : World) (g : Nat) (h : Option Nat) (N : Nat) (q : List (Int × Int)) : Prop := ∃ A c, BufAt w g h N A c q

theorem BufMem.only {S : Nat → Prop} {w w' : World} {A : Option Addr} {c : Nat} {h : Option Nat} {q : List (Int × Int)} (m : BufMem w A c h q) (ho : Only S w w') (hn : ∀ b, h = some b → ¬ S b) : BufMem w' A c h q := by
  rcases m with m | ⟨b, off, cs, hh, hA, hr, hl, hc⟩
  · exact .inl m
  · exact .inr ⟨b, off, cs, hh, hA, hr.only ho (hn b hh), hl, hc⟩

theorem BufQ.only {S : Nat → Prop} {w w' : World} {g : Nat} {h : Option Nat} {N : Nat} {q : List (Int × Int)} (r : BufQ w g h N q) (ho : Only S w w') (h1 : ¬ S g) (h2 : ∀ b, h = some b → ¬ S b) : BufQ w' g h N q := by
  obtain ⟨A, c, r⟩ := r
  exact ⟨A, c, r.top.only ho h1, r.mem.only ho h2, r.good, r.pos, r.most, r.fit, r.cap, r.none_⟩

theorem BufQ.below {w w' : World} {g : Nat} {h : Option Nat} {N : Nat} {q : List (Int × Int)} (r : BufQ w g h N q) (hb : Below w.heap.size w w') : BufQ w' g h N q :=
  r.only (Only.of_below hb (fun _ => False)) (fun h => h) (fun _ _ h => h)

theorem BufAt.lies {w : World} {g : Nat} {h : Option Nat} {N : Nat} {A : Option Addr} {c : Nat} {q : List (Int × Int)} (r : BufAt w g h N A c q) : Lies w (fun b => h = some b) (.slice A q.length c) (cvs q) := by
  refine ⟨A, c, by rw [cvs_len], fun hp => ?_⟩
  rcases r.mem with ⟨h0, _⟩ | ⟨b, off, cs, hh, hA, hr, hl, hc⟩
  · have := r.cap
    rw [cvs_len] at hp
    omega
  · exact ⟨b, off, hA, hh, hr.lt, fun j u hu => by rw [hr.cell]; exact hc j u hu⟩

theorem BufQ.fit {w : World} {g : Nat} {h : Option Nat} {N : Nat} {q : List (Int × Int)} (r : BufQ w g h N q) : q.length ≤ N ∧ 1 ≤ N ∧ N ≤ 16 ∧ g < w.heap.size ∧ (∀ b, h = some b → b < w.heap.size ∧ b ≠ g) ∧ Good q := by
  obtain ⟨A, c, r⟩ := r
  refine ⟨r.fit, r.pos, r.most, r.top.lt, ?_, r.good⟩
  rcases r.mem with ⟨_, rfl⟩ | ⟨b, off, cs, rfl, hA, hr, hl, hc⟩
  · intro b hb; cases hb
  · intro b' hb
    injection hb with hb
    subst hb
    exact ⟨hr.lt, (r.top.ne hr (by decide)).symm⟩

set_option maxRecDepth 100000 in
set_option maxHeartbeats 400000 in
theorem bufNew_no (n : Int) (w : World) (h : n < 1 ∨ 16 < n) :
    Calls Try.prog 31 #[.int .i64 n] w fun e w' => e = .returned (.pointer none) ∧ w = w' := by
  rcases h with h | h
  · go_enter Try.func31, Try.ntmps31
    go_wp2
    go_ret
    exact ⟨rfl, rfl⟩
  · have h' : ¬ n < 1 := by omega
    go_enter Try.func31, Try.ntmps31
    go_wp2
    go_ret
    exact ⟨rfl, rfl⟩

/-- What New leaves. -/
def BufNewP (N : Nat) (w : World) (e : Ending) (w' : World) : Prop :=
  ∃ g, e = .returned (ptr g) ∧ BufQ w' g none N [] ∧ w.heap.size ≤ g ∧ Below w.heap.size w w'

set_option maxRecDepth 100000 in
set_option maxHeartbeats 400000 in
theorem bufNew_yes (n : Nat) (w : World) (h0 : 1 ≤ n) (h1 : n ≤ 16) :
    Calls Try.prog 31 #[.int .i64 (n : Int)] w (BufNewP n w) := by
  have g1 : ¬ ((n : Int) < 1) := by omega
  have g2 : ¬ (16 < (n : Int)) := by omega
  go_enter Try.func31, Try.ntmps31
  go_wp2
  go_ret
  exact ⟨w.heap.size, rfl, ⟨none, 0, Row.new w 119 #[.int .i64 n, .slice none 0 0], .inl ⟨rfl, rfl⟩, Good.nil, h0, h1, by simp, by simp, fun _ => rfl⟩, Nat.le_refl _, below_al _ _⟩

set_option maxRecDepth 100000 in
set_option maxHeartbeats 400000 in
theorem bcap_nil (w : World) :
    Calls Try.prog 53 #[.pointer none] w fun e w' => e = .returned (.int .i64 0) ∧ w = w' := by
  go_enter Try.func53, Try.ntmps53
  go_wp2
  go_ret
  exact ⟨rfl, rfl⟩

set_option maxRecDepth 100000 in
set_option maxHeartbeats 400000 in
theorem bcap_any (g : Nat) (h : Option Nat) (N : Nat) (q : List (Int × Int)) (w : World) (r : BufQ w g h N q) :
    Calls Try.prog 53 #[ptr g] w fun e w' => e = .returned (.int .i64 N) ∧ w = w' := by
  obtain ⟨A, c, r⟩ := r
  have hc : w.cell? ⟨g, 0, none⟩ = some (.int .i64 N) := r.top.cell 0
  unfold ptr
  go_enter Try.func53, Try.ntmps53
  go_wp2
  go_ret
  exact ⟨rfl, rfl⟩

set_option maxRecDepth 100000 in
set_option maxHeartbeats 400000 in
theorem blen_nil (w : World) :
    Calls Try.prog 52 #[.pointer none] w fun e w' => e = .returned (.int .i64 0) ∧ w = w' := by
  go_enter Try.func52, Try.ntmps52
  go_wp2
  go_ret
  exact ⟨rfl, rfl⟩

set_option maxRecDepth 100000 in
set_option maxHeartbeats 400000 in
theorem blen_any (g : Nat) (h : Option Nat) (N : Nat) (q : List (Int × Int)) (w : World) (r : BufQ w g h N q) :
    Calls Try.prog 52 #[ptr g] w fun e w' => e = .returned (.int .i64 q.length) ∧ w = w' := by
  obtain ⟨A, c, r⟩ := r
  have hc : w.cell? ⟨g, 1, none⟩ = some (.slice A q.length c) := r.top.cell 1
  unfold ptr
  go_enter Try.func52, Try.ntmps52
  go_wp2
  go_ret
  exact ⟨rfl, rfl⟩

set_option maxRecDepth 100000 in
set_option maxHeartbeats 400000 in
theorem bfind_nil (a : Int) (w : World) :
    Calls Try.prog 57 #[.pointer none, .int .i64 a] w fun e w' => e = .returned (.tuple #[.int .i64 0, .bool false]) ∧ w = w' := by
  go_enter Try.func57, Try.ntmps57
  go_wp2
  go_ret2
  exact ⟨rfl, rfl⟩

set_option maxRecDepth 100000 in
set_option maxHeartbeats 400000 in
theorem bfind_any (g : Nat) (h : Option Nat) (N : Nat) (q : List (Int × Int)) (a : Int) (w : World) (r : BufQ w g h N q) :
    Calls Try.prog 57 #[ptr g, .int .i64 a] w fun e w' => e = .returned (.tuple #[.int .i64 (fV (fnd q a)), .bool (fB (fnd q a))]) ∧ w = w' := by
  obtain ⟨A, c, r⟩ := r
  have hc : w.cell? ⟨g, 1, none⟩ = some (.slice A q.length c) := r.top.cell 1
  have k := Lib.hid (cfind_any _ _ q a w r.lies r.good (by have := r.fit; have := r.most; omega))
  obtain ⟨f, hf⟩ : ∃ f, fnd q a = f := ⟨_, rfl⟩
  rw [hf] at k ⊢
  clear hf
  unfold ptr
  go_enter Try.func57, Try.ntmps57
  go_wp2_with (go_at_call 82; refine k.out.mono ?_; rintro e w' ⟨rfl, rfl⟩)
  go_ret2
  exact ⟨rfl, rfl⟩

/-- What a call that may write the buffer leaves: its answer, and the buffer. -/
def BufP (g : Nat) (h : Option Nat) (N : Nat) (q : List (Int × Int)) (a : Value) (w : World) (e : Ending) (w' : World) : Prop :=
  ∃ h', e = .returned a ∧ BufQ w' g h' N q ∧ Only (fun b => b = g ∨ h = some b) w w' ∧ ∀ b, h' = some b → h = some b ∨ w.heap.size ≤ b

set_option maxRecDepth 100000 in
set_option maxHeartbeats 400000 in
theorem bclear_nil (w : World) :
    Calls Try.prog 76 #[.pointer none] w fun e w' => e = .returned (.int .i64 0) ∧ w = w' := by
  go_enter Try.func76, Try.ntmps76
  go_wp2
  go_ret
  exact ⟨rfl, rfl⟩

set_option maxRecDepth 100000 in
set_option maxHeartbeats 400000 in
theorem bclear_any (g : Nat) (h : Option Nat) (N : Nat) (q : List (Int × Int)) (w : World) (r : BufQ w g h N q) :
    Calls Try.prog 76 #[ptr g] w (BufP g h N [] (.int .i64 q.length) w) := by
  obtain ⟨A, c, r⟩ := r
  have hc : w.cell? ⟨g, 1, none⟩ = some (.slice A q.length c) := r.top.cell 1
  have hs := r.top.soft 1
  unfold ptr
  go_enter Try.func76, Try.ntmps76
  go_wp2
  go_ret
  refine ⟨none, rfl, ⟨none, 0, ?_, .inl ⟨rfl, rfl⟩, Good.nil, r.pos, r.most, by simp, by simp, fun _ => rfl⟩, (Only.refl _ w).setCell (.inl (.inl rfl)) _, fun b hb => by cases hb⟩
  exact r.top.put 1 (.slice none 0 0)

#print axioms bfind_any
#print axioms bclear_any
end Go.Proofs.Ytgoogclcpnfmkaa
