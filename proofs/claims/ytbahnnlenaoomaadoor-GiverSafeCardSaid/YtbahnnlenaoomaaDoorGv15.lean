/-
  Layer 16 (giver): the law's once and may.
  Conditions: those that each theorem states.
-/
import Derived.Test.YtbahnnlenaoomaaDoorGv14
import Derived.Test.YtbahnnlenaoomaaDoorRPl2
namespace Go.Proofs.YtbahnnlenaoomaaDoor
open Go.ChangeShapes Go.WideShapes Go.ChangeAt Go.RowKit

theorem upto16_nodup (n : Nat) : (upto16 n).Nodup := by
  unfold upto16
  exact (List.nodup_range (n := n)).map _ (fun a b h e => h (by have e' : (a : Int) = (b : Int) := e; omega))
theorem upto16_mem {n : Nat} {x : Int} : x ∈ upto16 n ↔ 0 ≤ x ∧ x < (n : Int) := by
  unfold upto16
  simp only [List.mem_map, List.mem_range]
  constructor
  · rintro ⟨k, hk, rfl⟩; omega
  · intro h; exact ⟨x.toNat, by omega, by omega⟩
theorem perm16_count {L : List Int} {n j : Nat} (h : L.Perm (upto16 n)) (hj : j < n) : L.count (j : Int) = 1 := by
  rw [h.count_eq]
  rw [(upto16_nodup n).count, if_pos (upto16_mem.2 (by omega))]
theorem count_more {L : List Int} {k : Nat} {x j : Int} (h : L[k]? = some x) : (L.take (k + 1)).count j = (L.take k).count j + (if x = j then 1 else 0) := by
  rw [List.take_add_one, h]
  simp [List.count_append, List.count_cons]

set_option maxRecDepth 100000 in
set_option maxHeartbeats 2000000 in
theorem once16_any {U : Nat → Prop} {g : Nat} {G : Gv} (w : World) (s : GIs w U g G) (ho : Ok16 G) :
    Calls Tryd.prog 31 #[.pointer (some ⟨g, 0, none⟩), .int .i64 (G.R : Int)] w fun e w' => e = .returned (.bool true) ∧ Below w.heap.size w w' := by
  obtain ⟨i0, hi0, hz0, hz1, hz2⟩ := info_parts int_info
  obtain ⟨vf, vo, vl, r, -⟩ := s
  have hlen := ho.len
  have hR := ho.R64
  have HP := Lib.hid ho.perm
  have K1 := Lib.hid (free16_any w r (by omega))
  have R := Lib.hid r
  have HLO := Lib.hid (show G.out.length ≤ 65536 by omega)
  obtain ⟨nf, hnf⟩ : ∃ n, G.free.length = n := ⟨_, rfl⟩
  obtain ⟨no, hno⟩ : ∃ n, G.out.length = n := ⟨_, rfl⟩
  obtain ⟨m, hm⟩ : ∃ m, G.R = m := ⟨_, rfl⟩
  rw [hnf, hno, hm] at hlen
  rw [hm] at hR HP ⊢
  have HLL : Hid ((G.free ++ G.out).length = m) := Lib.hid (by rw [List.length_append, hnf, hno]; exact hlen)
  have HNF := Lib.hid hnf
  have HNO := Lib.hid hno
  have O2 := Lib.hid (ints_one G.out)
  clear r ho hnf hno hm
  go_enter Tryd.func31, Tryd.ntmps31
  go_wp2_with fail
  refine K1.out.mono ?_
  rintro e w1 ⟨v1, rfl, o1, b1⟩
  rw [HNF.out] at o1
  obtain ⟨A1, c1, rfl⟩ := own_open14 o1
  have H1 := Lib.hid o1
  have B1 := Lib.hid b1
  have K2 := Lib.hid (out16_any w1 (R.out.below b1) HLO.out)
  clear o1 b1 K1
  go_wp2_with fail
  refine K2.out.mono ?_
  rintro e w2 ⟨v2, rfl, o2, b2⟩
  rw [HNO.out] at o2
  obtain ⟨A2, c2, rfl⟩ := own_open14 o2
  have L2 := Lib.hid (Lies.of_own o2)
  have C2 := Lib.hid (CapOk.of_own o2)
  have H2 := Lib.hid (own_quiet H1.out (fun x hx => b2.block x (H1.out.lt x hx).2))
  have B2 := Lib.hid (below_on B1.out b2)
  clear o2 b2 K2 H1 B1
  go_wp2_with (at_builtin; go_must (refine app_walk _ rfl (.tmp 11) (.tmp 13) 33 rfl w.heap.size 3 i0 _ 8 Tryd.underlying33 hi0 hz0 hz1 hz2 rfl (.slice A1 nf c1) nf (ints G.free) rfl H2.out _ A2 no c2 (ints G.out) rfl L2.out C2.out O2.out (by unfold maxLen; omega) (by omega) B2.out.size ?_; intro v3 w3 hown3 hg3 hat3; rw [← ints_append, hlen] at hown3; obtain ⟨A3, c3, rfl⟩ := own_open14 hown3; have HO := Lib.hid hown3; have L3 := Lib.hid (Lies.of_own hown3); have HB := Lib.hid (B2.out.grown hg3 B2.out.size (fun q hq => (H2.out.lt q hq).1)); clear hown3 hg3 hat3))
  obtain ⟨L, hL⟩ : ∃ L, G.free ++ G.out = L := ⟨_, rfl⟩
  rw [hL] at HP HLL L3 HO
  clear hL
  go_loopw [6] (fun iv wr => ∃ j : Nat, j ≤ m ∧ iv = .int .i64 j ∧ w3 = wr) (fun iv _ => m - (intOf iv).toNat)
  case atStart => exact ⟨0, Nat.zero_le _, rfl, rfl⟩
  case round =>
    obtain ⟨j, hj, rfl, rfl⟩ := hrel
    by_cases hlt : j < m
    · have hjm : (j : Int) < (m : Int) := by omega
      have HC := Lib.hid (perm16_count HP.out hlt)
      go_wp2
      go_loopw [7, 22] (fun nv kv wq => ∃ k z : Nat, k ≤ m ∧ kv = .int .i64 k ∧ nv = .int .i64 (z : Int) ∧ z ≤ k ∧ Hid ((L.take k).count (j : Int) = z) ∧ w3 = wq) (fun _ kv _ => m - (intOf kv).toNat)
      case atStart => exact ⟨0, 0, Nat.zero_le _, rfl, rfl, Nat.le_refl _, Lib.hid (by simp), rfl⟩
      case round =>
        obtain ⟨k, z, hk, rfl, rfl, hz, HZ, rfl⟩ := hrel
        by_cases hkl : k < m
        · obtain ⟨y, hy⟩ : ∃ y, L[k]? = some y := ⟨_, List.getElem?_eq_getElem (by rw [HLL.out]; exact hkl)⟩
          obtain ⟨b, o, rfl, _, hb, hc⟩ := lies_at L3.out hy
          have hkm : (k : Int) < (m : Int) := by omega
          have HM := Lib.hid (count_more (j := (j : Int)) hy)
          clear hy
          by_cases hyj : y = (j : Int)
          · have e0 : (y == (j : Int)) = true := by simp [hyj]
            have HZ2 : Hid ((L.take (k + 1)).count (j : Int) = z + 1) := Lib.hid (by rw [HM.out, HZ.out, if_pos hyj])
            clear hyj HM
            go_wp2
            go_roundw
            case rel => exact ⟨k + 1, z + 1, by omega, by go_num, by go_num, by omega, HZ2, trivial⟩
            case measure => simp [intOf]; omega
          · have e0 : (y == (j : Int)) = false := by simpa using hyj
            have HZ2 : Hid ((L.take (k + 1)).count (j : Int) = z) := Lib.hid (by rw [HM.out, HZ.out, if_neg hyj]; rfl)
            clear hyj HM
            go_wp2
            go_roundw
            case rel => exact ⟨k + 1, z, by omega, by go_num, rfl, by omega, HZ2, trivial⟩
            case measure => simp [intOf]; omega
        · obtain rfl : m = k := by omega
          obtain rfl : z = 1 := by
            have := HZ.out
            rw [List.take_of_length_le (by rw [HLL.out]; exact Nat.le_refl _), HC.out] at this
            exact this.symm
          go_wp2
          go_roundw
          case rel => exact ⟨j + 1, by omega, by go_num, trivial⟩
          case measure => simp [intOf]; omega
    · obtain rfl : m = j := by omega
      go_wp2
      go_ret
      exact ⟨by simp, HB.out⟩

/-- The touch is one of those that a giver may make. -/
def MayT (B : Int) (R : Nat) (peer : Int) (x : Tch) : Prop :=
  x.1 = 3 ∨ ((x.1 = 4 ∨ x.1 = 5) ∧ x.2.1 = peer) ∨ ∃ f s i : Nat, 1 ≤ f ∧ f ≤ 8 ∧ okWord (R : Int) f s i ∧ x.2.1 = B + offP (R : Int) f s i ∧ ((f = 2 ∨ f = 4 ∨ f = 6) ∧ x.1 = 1 ∨ ¬ (f = 2 ∨ f = 4 ∨ f = 6) ∧ x.1 = 2)

set_option maxRecDepth 100000 in
set_option maxHeartbeats 4000000 in
theorem may16_word (B self peer own : Int) (R f s i : Nat) (κ u : Int) (w : World) (hR : okRing (R : Int)) (hB : 0 ≤ B ∧ B ≤ 65535) (hf : 1 ≤ f ∧ f ≤ 8) (hw : okWord (R : Int) f s i) (hk : (f = 2 ∨ f = 4 ∨ f = 6) ∧ κ = 1 ∨ ¬ (f = 2 ∨ f = 4 ∨ f = 6) ∧ κ = 2) :
    Calls Tryd.prog 30 #[baseV B (R : Int) self peer own, .agg #[.int .i64 κ, .int .i64 (B + offP (R : Int) f s i), .int .i64 u]] w fun e w' => e = .returned (.bool true) ∧ Below w.heap.size w w' := by
  have hR64 := hR.bd
  have hs : s < R ∧ i < 8 := by unfold okWord at hw; omega
  have HAT := Lib.hid (fun (F S I : Nat) W => rat13_any B (R : Int) F S I (by omega) (by omega) W)
  have HIN := Lib.hid (fun (F S I : Nat) (h : okWord (R : Int) F S I) (e : B + offP (R : Int) F S I = B + offP (R : Int) f s i) => off_inj hR h hw (by omega))
  have HW := Lib.hid hw
  obtain ⟨X, hX⟩ : ∃ X, B + offP (R : Int) f s i = X := ⟨_, rfl⟩
  have HX := Lib.hid hX
  rw [hX] at HIN ⊢
  obtain ⟨w2, hw2⟩ : ∃ w2, w2 = ((w.alloc (.cells #[.int .i64 B, .int .i64 (R : Int), .int .i64 self, .int .i64 peer, .int .i64 own] 25)).alloc (.cells #[.int .i64 κ, .int .i64 X, .int .i64 u] 64)) := ⟨_, rfl⟩
  have BB : Hid (Below w.heap.size w w2) := Lib.hid (by rw [hw2]; exact below_on (below_al _ _) (below_al _ _))
  have r0 : Row w2 w.heap.size 25 [.int .i64 B, .int .i64 (R : Int), .int .i64 self, .int .i64 peer, .int .i64 own] := by rw [hw2]; exact (Row.new w _ #[.int .i64 B, .int .i64 (R : Int), .int .i64 self, .int .i64 peer, .int .i64 own]).below (below_al _ _)
  have r1 : Row w2 (w.heap.size + 1) 64 [.int .i64 κ, .int .i64 X, .int .i64 u] := by
    have := Row.new (w.alloc (.cells #[.int .i64 B, .int .i64 (R : Int), .int .i64 self, .int .i64 peer, .int .i64 own] 25)) 64 #[.int .i64 κ, .int .i64 X, .int .i64 u]
    rw [size_al] at this
    rw [hw2]
    exact this
  have c0 := r0.cell 0
  have c1 := r0.cell 1
  have d0 := r1.cell 0
  have d1 := r1.cell 1
  simp only [List.getElem?_cons_zero, List.getElem?_cons_succ] at c0 c1 d0 d1
  have k3 : (κ == 3) = false := by simp; omega
  have k4 : (κ == 4) = false := by simp; omega
  have k5 : (κ == 5) = false := by simp; omega
  unfold baseV
  clear hR hw hX r0 r1
  go_enter Tryd.func30, Tryd.ntmps30
  go_wp2
  rw [← hw2]
  clear hw2
  go_loopw [5] (fun fv wr => ∃ F : Nat, 1 ≤ F ∧ F ≤ f ∧ fv = .int .i64 F ∧ w2 = wr) (fun fv _ => 9 - (intOf fv).toNat)
  case atStart => exact ⟨1, Nat.le_refl _, hf.1, rfl, rfl⟩
  case round =>
    obtain ⟨F, hF1, hFf, rfl, rfl⟩ := hrel
    have e8 : (F : Int) ≤ 8 := by omega
    by_cases h2 : F = 2
    · have f2 : ((F : Int) == 2) = true := by simp; omega
      have HF : Hid (F = 2 ∨ F = 4 ∨ F = 6) := Lib.hid (.inl h2)
      clear h2
      go_wp2
      go_loopw [7] (fun sv wq => ∃ S : Nat, S ≤ R ∧ Hid (F = f → S ≤ s) ∧ sv = .int .i64 S ∧ w2 = wq) (fun sv _ => R - (intOf sv).toNat)
      case atStart => exact ⟨0, Nat.zero_le _, Lib.hid (fun _ => Nat.zero_le _), rfl, rfl⟩
      case round =>
        obtain ⟨S, hS, hSs, rfl, rfl⟩ := hrel
        by_cases hSR : S < R
        · have e1 : (S : Int) < (R : Int) := by omega
          go_wp2
          go_loopw [8] (fun kv wz => ∃ I : Nat, I ≤ 8 ∧ Hid (F = f → S = s → I ≤ i) ∧ kv = .int .i64 I ∧ w2 = wz) (fun kv _ => 8 - (intOf kv).toNat)
          case atStart => exact ⟨0, Nat.zero_le _, Lib.hid (fun _ _ => Nat.zero_le _), rfl, rfl⟩
          case round =>
            obtain ⟨I, hI, hIi, rfl, rfl⟩ := hrel
            by_cases hI8 : I < 8
            · have e2 : (I : Int) < 8 := by omega
              have KA := Lib.hid (HAT.out F S I w2)
              by_cases hm : F = f ∧ S = s ∧ I = i
              · obtain ⟨rfl, rfl, rfl⟩ := hm
                have e3 : decide (okWord (R : Int) F S I) = true := decide_eq_true HW.out
                have e4 : atV13 B (R : Int) F S I = X := by rw [← HX.out]; exact if_pos HW.out
                rw [e3, e4] at KA
                have k1 : (κ == 1) = true := by have := HF.out; simp; omega
                clear e3 e4
                go_wp2_with fail
                refine KA.out.mono ?_
                rintro e w' ⟨rfl, rfl⟩
                go_wp2
                go_ret
                exact ⟨by simp, BB.out⟩
              · have hne : Hid (F = f → S = s → I + 1 ≤ i) := Lib.hid (fun a b => by have := hIi.out a b; omega)
                by_cases hok : okWord (R : Int) F S I
                · have e3 : decide (okWord (R : Int) F S I) = true := decide_eq_true hok
                  have e4 : (atV13 B (R : Int) F S I == X) = false := by
                    rw [show atV13 B (R : Int) F S I = B + offP (R : Int) F S I from if_pos hok]
                    simp only [beq_eq_false_iff_ne, ne_eq]
                    intro e
                    have := HIN.out F S I hok e
                    omega
                  rw [e3] at KA
                  clear hm hok e3
                  go_wp2_with fail
                  refine KA.out.mono ?_
                  rintro e w' ⟨rfl, rfl⟩
                  go_wp2
                  go_roundw
                  case rel => exact ⟨I + 1, by omega, hne, by go_num, trivial⟩
                  case measure => simp [intOf]; omega
                · have e3 : decide (okWord (R : Int) F S I) = false := decide_eq_false hok
                  rw [e3] at KA
                  clear hm hok e3
                  go_wp2_with fail
                  refine KA.out.mono ?_
                  rintro e w' ⟨rfl, rfl⟩
                  go_wp2
                  go_roundw
                  case rel => exact ⟨I + 1, by omega, hne, by go_num, trivial⟩
                  case measure => simp [intOf]; omega
            · obtain rfl : I = 8 := by omega
              go_wp2
              go_roundw
              case rel => exact ⟨S + 1, by omega, Lib.hid (fun a => by have := hSs.out a; have := hIi.out a; omega), by go_num, trivial⟩
              case measure => simp [intOf]; omega
        · obtain rfl : R = S := by omega
          go_wp2
          go_roundw
          case rel => exact ⟨F + 1, by omega, by have := hSs.out; omega, by go_num, trivial⟩
          case measure => simp [intOf]; omega
    · have f2 : ((F : Int) == 2) = false := by simp; omega
      by_cases h4 : F = 4
      · have f4 : ((F : Int) == 4) = true := by simp; omega
        have HF : Hid (F = 2 ∨ F = 4 ∨ F = 6) := Lib.hid (.inr (.inl h4))
        clear h2 h4
        go_wp2
        go_loopw [7] (fun sv wq => ∃ S : Nat, S ≤ R ∧ Hid (F = f → S ≤ s) ∧ sv = .int .i64 S ∧ w2 = wq) (fun sv _ => R - (intOf sv).toNat)
        case atStart => exact ⟨0, Nat.zero_le _, Lib.hid (fun _ => Nat.zero_le _), rfl, rfl⟩
        case round =>
          obtain ⟨S, hS, hSs, rfl, rfl⟩ := hrel
          by_cases hSR : S < R
          · have e1 : (S : Int) < (R : Int) := by omega
            go_wp2
            go_loopw [8] (fun kv wz => ∃ I : Nat, I ≤ 8 ∧ Hid (F = f → S = s → I ≤ i) ∧ kv = .int .i64 I ∧ w2 = wz) (fun kv _ => 8 - (intOf kv).toNat)
            case atStart => exact ⟨0, Nat.zero_le _, Lib.hid (fun _ _ => Nat.zero_le _), rfl, rfl⟩
            case round =>
              obtain ⟨I, hI, hIi, rfl, rfl⟩ := hrel
              by_cases hI8 : I < 8
              · have e2 : (I : Int) < 8 := by omega
                have KA := Lib.hid (HAT.out F S I w2)
                by_cases hm : F = f ∧ S = s ∧ I = i
                · obtain ⟨rfl, rfl, rfl⟩ := hm
                  have e3 : decide (okWord (R : Int) F S I) = true := decide_eq_true HW.out
                  have e4 : atV13 B (R : Int) F S I = X := by rw [← HX.out]; exact if_pos HW.out
                  rw [e3, e4] at KA
                  have k1 : (κ == 1) = true := by have := HF.out; simp; omega
                  clear e3 e4
                  go_wp2_with fail
                  refine KA.out.mono ?_
                  rintro e w' ⟨rfl, rfl⟩
                  go_wp2
                  go_ret
                  exact ⟨by simp, BB.out⟩
                · have hne : Hid (F = f → S = s → I + 1 ≤ i) := Lib.hid (fun a b => by have := hIi.out a b; omega)
                  by_cases hok : okWord (R : Int) F S I
                  · have e3 : decide (okWord (R : Int) F S I) = true := decide_eq_true hok
                    have e4 : (atV13 B (R : Int) F S I == X) = false := by
                      rw [show atV13 B (R : Int) F S I = B + offP (R : Int) F S I from if_pos hok]
                      simp only [beq_eq_false_iff_ne, ne_eq]
                      intro e
                      have := HIN.out F S I hok e
                      omega
                    rw [e3] at KA
                    clear hm hok e3
                    go_wp2_with fail
                    refine KA.out.mono ?_
                    rintro e w' ⟨rfl, rfl⟩
                    go_wp2
                    go_roundw
                    case rel => exact ⟨I + 1, by omega, hne, by go_num, trivial⟩
                    case measure => simp [intOf]; omega
                  · have e3 : decide (okWord (R : Int) F S I) = false := decide_eq_false hok
                    rw [e3] at KA
                    clear hm hok e3
                    go_wp2_with fail
                    refine KA.out.mono ?_
                    rintro e w' ⟨rfl, rfl⟩
                    go_wp2
                    go_roundw
                    case rel => exact ⟨I + 1, by omega, hne, by go_num, trivial⟩
                    case measure => simp [intOf]; omega
              · obtain rfl : I = 8 := by omega
                go_wp2
                go_roundw
                case rel => exact ⟨S + 1, by omega, Lib.hid (fun a => by have := hSs.out a; have := hIi.out a; omega), by go_num, trivial⟩
                case measure => simp [intOf]; omega
          · obtain rfl : R = S := by omega
            go_wp2
            go_roundw
            case rel => exact ⟨F + 1, by omega, by have := hSs.out; omega, by go_num, trivial⟩
            case measure => simp [intOf]; omega
      · have f4 : ((F : Int) == 4) = false := by simp; omega
        by_cases h6 : F = 6
        · have f6 : ((F : Int) == 6) = true := by simp; omega
          have HF : Hid (F = 2 ∨ F = 4 ∨ F = 6) := Lib.hid (.inr (.inr h6))
          clear h2 h4 h6
          go_wp2
          go_loopw [7] (fun sv wq => ∃ S : Nat, S ≤ R ∧ Hid (F = f → S ≤ s) ∧ sv = .int .i64 S ∧ w2 = wq) (fun sv _ => R - (intOf sv).toNat)
          case atStart => exact ⟨0, Nat.zero_le _, Lib.hid (fun _ => Nat.zero_le _), rfl, rfl⟩
          case round =>
            obtain ⟨S, hS, hSs, rfl, rfl⟩ := hrel
            by_cases hSR : S < R
            · have e1 : (S : Int) < (R : Int) := by omega
              go_wp2
              go_loopw [8] (fun kv wz => ∃ I : Nat, I ≤ 8 ∧ Hid (F = f → S = s → I ≤ i) ∧ kv = .int .i64 I ∧ w2 = wz) (fun kv _ => 8 - (intOf kv).toNat)
              case atStart => exact ⟨0, Nat.zero_le _, Lib.hid (fun _ _ => Nat.zero_le _), rfl, rfl⟩
              case round =>
                obtain ⟨I, hI, hIi, rfl, rfl⟩ := hrel
                by_cases hI8 : I < 8
                · have e2 : (I : Int) < 8 := by omega
                  have KA := Lib.hid (HAT.out F S I w2)
                  by_cases hm : F = f ∧ S = s ∧ I = i
                  · obtain ⟨rfl, rfl, rfl⟩ := hm
                    have e3 : decide (okWord (R : Int) F S I) = true := decide_eq_true HW.out
                    have e4 : atV13 B (R : Int) F S I = X := by rw [← HX.out]; exact if_pos HW.out
                    rw [e3, e4] at KA
                    have k1 : (κ == 1) = true := by have := HF.out; simp; omega
                    clear e3 e4
                    go_wp2_with fail
                    refine KA.out.mono ?_
                    rintro e w' ⟨rfl, rfl⟩
                    go_wp2
                    go_ret
                    exact ⟨by simp, BB.out⟩
                  · have hne : Hid (F = f → S = s → I + 1 ≤ i) := Lib.hid (fun a b => by have := hIi.out a b; omega)
                    by_cases hok : okWord (R : Int) F S I
                    · have e3 : decide (okWord (R : Int) F S I) = true := decide_eq_true hok
                      have e4 : (atV13 B (R : Int) F S I == X) = false := by
                        rw [show atV13 B (R : Int) F S I = B + offP (R : Int) F S I from if_pos hok]
                        simp only [beq_eq_false_iff_ne, ne_eq]
                        intro e
                        have := HIN.out F S I hok e
                        omega
                      rw [e3] at KA
                      clear hm hok e3
                      go_wp2_with fail
                      refine KA.out.mono ?_
                      rintro e w' ⟨rfl, rfl⟩
                      go_wp2
                      go_roundw
                      case rel => exact ⟨I + 1, by omega, hne, by go_num, trivial⟩
                      case measure => simp [intOf]; omega
                    · have e3 : decide (okWord (R : Int) F S I) = false := decide_eq_false hok
                      rw [e3] at KA
                      clear hm hok e3
                      go_wp2_with fail
                      refine KA.out.mono ?_
                      rintro e w' ⟨rfl, rfl⟩
                      go_wp2
                      go_roundw
                      case rel => exact ⟨I + 1, by omega, hne, by go_num, trivial⟩
                      case measure => simp [intOf]; omega
                · obtain rfl : I = 8 := by omega
                  go_wp2
                  go_roundw
                  case rel => exact ⟨S + 1, by omega, Lib.hid (fun a => by have := hSs.out a; have := hIi.out a; omega), by go_num, trivial⟩
                  case measure => simp [intOf]; omega
            · obtain rfl : R = S := by omega
              go_wp2
              go_roundw
              case rel => exact ⟨F + 1, by omega, by have := hSs.out; omega, by go_num, trivial⟩
              case measure => simp [intOf]; omega
        · have f6 : ((F : Int) == 6) = false := by simp; omega
          have HF : Hid (¬ (F = 2 ∨ F = 4 ∨ F = 6)) := Lib.hid (by omega)
          clear h2 h4 h6
          go_wp2
          go_loopw [7] (fun sv wq => ∃ S : Nat, S ≤ R ∧ Hid (F = f → S ≤ s) ∧ sv = .int .i64 S ∧ w2 = wq) (fun sv _ => R - (intOf sv).toNat)
          case atStart => exact ⟨0, Nat.zero_le _, Lib.hid (fun _ => Nat.zero_le _), rfl, rfl⟩
          case round =>
            obtain ⟨S, hS, hSs, rfl, rfl⟩ := hrel
            by_cases hSR : S < R
            · have e1 : (S : Int) < (R : Int) := by omega
              go_wp2
              go_loopw [8] (fun kv wz => ∃ I : Nat, I ≤ 8 ∧ Hid (F = f → S = s → I ≤ i) ∧ kv = .int .i64 I ∧ w2 = wz) (fun kv _ => 8 - (intOf kv).toNat)
              case atStart => exact ⟨0, Nat.zero_le _, Lib.hid (fun _ _ => Nat.zero_le _), rfl, rfl⟩
              case round =>
                obtain ⟨I, hI, hIi, rfl, rfl⟩ := hrel
                by_cases hI8 : I < 8
                · have e2 : (I : Int) < 8 := by omega
                  have KA := Lib.hid (HAT.out F S I w2)
                  by_cases hm : F = f ∧ S = s ∧ I = i
                  · obtain ⟨rfl, rfl, rfl⟩ := hm
                    have e3 : decide (okWord (R : Int) F S I) = true := decide_eq_true HW.out
                    have e4 : atV13 B (R : Int) F S I = X := by rw [← HX.out]; exact if_pos HW.out
                    rw [e3, e4] at KA
                    have k1 : (κ == 1) = false := by have := HF.out; simp; omega
                    clear e3 e4
                    go_wp2_with fail
                    refine KA.out.mono ?_
                    rintro e w' ⟨rfl, rfl⟩
                    go_wp2
                    go_ret
                    exact ⟨by simp, BB.out⟩
                  · have hne : Hid (F = f → S = s → I + 1 ≤ i) := Lib.hid (fun a b => by have := hIi.out a b; omega)
                    by_cases hok : okWord (R : Int) F S I
                    · have e3 : decide (okWord (R : Int) F S I) = true := decide_eq_true hok
                      have e4 : (atV13 B (R : Int) F S I == X) = false := by
                        rw [show atV13 B (R : Int) F S I = B + offP (R : Int) F S I from if_pos hok]
                        simp only [beq_eq_false_iff_ne, ne_eq]
                        intro e
                        have := HIN.out F S I hok e
                        omega
                      rw [e3] at KA
                      clear hm hok e3
                      go_wp2_with fail
                      refine KA.out.mono ?_
                      rintro e w' ⟨rfl, rfl⟩
                      go_wp2
                      go_roundw
                      case rel => exact ⟨I + 1, by omega, hne, by go_num, trivial⟩
                      case measure => simp [intOf]; omega
                    · have e3 : decide (okWord (R : Int) F S I) = false := decide_eq_false hok
                      rw [e3] at KA
                      clear hm hok e3
                      go_wp2_with fail
                      refine KA.out.mono ?_
                      rintro e w' ⟨rfl, rfl⟩
                      go_wp2
                      go_roundw
                      case rel => exact ⟨I + 1, by omega, hne, by go_num, trivial⟩
                      case measure => simp [intOf]; omega
                · obtain rfl : I = 8 := by omega
                  go_wp2
                  go_roundw
                  case rel => exact ⟨S + 1, by omega, Lib.hid (fun a => by have := hSs.out a; have := hIi.out a; omega), by go_num, trivial⟩
                  case measure => simp [intOf]; omega
            · obtain rfl : R = S := by omega
              go_wp2
              go_roundw
              case rel => exact ⟨F + 1, by omega, by have := hSs.out; omega, by go_num, trivial⟩
              case measure => simp [intOf]; omega

#print axioms once16_any
end Go.Proofs.YtbahnnlenaoomaaDoor
