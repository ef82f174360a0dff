/-
  Layer 7 (litmus): outcome.
  Conditions: those that each theorem states.
-/
import Derived.Test.YtgljgpllooehkaaLit11
import Derived.Laws.MakeOwn
namespace Go.Proofs.Ytgljgpllooehkaa
open Go.ChangeShapes Go.WideShapes Go.ChangeAt Go.RowKit

/-- make([]T, 0, c). -/
theorem make_walk {P : Program} {w : World} {ops : Array Oper} {rest : List Oper} {o : Oper} {a : Act} {Q : Exit → Act → World → Prop} (hgd : o.guard = none) (T e : TypeId) (y x : Operand) (ho : o.op = .makeSlice T y x) (hy : a.eval y = .int .i64 0) (ci : Int) (c : Nat) (hc : ci = (c : Int)) (hx : a.eval x = .int .i64 ci)
    (base : Nat) (i : TypeInfo) (z : Value) (size : Nat) (ht : P.underlying T = some (.slice e)) (hi : P.info? e = some i) (hz : i.zero = some z) (hsize : i.size = size) (hbytes : i.bytes * c ≤ 281474976710656) (h63 : c ≤ maxLen) (hbase : base ≤ w.heap.size)
    (h : ∀ w', w'.ownsRow base e size (.slice (some ⟨w.heap.size, 0, none⟩) 0 c) 0 [] → Below w.heap.size w w' → wpList P ops Q rest (a.put o.dst (.slice (some ⟨w.heap.size, 0, none⟩) 0 c)) w') : wpList P ops Q (o :: rest) a w := by
  obtain ⟨w', hrun, h1, h2⟩ := run_make_own (P := P) w base T e i z size ht hi hz hsize .i64 .i64 c hbytes h63 hbase
  refine wpList_plain hgd fun K hK => ?_
  unfold Oper.wp
  rw [← hc] at hrun
  simp [execOp, ho, hy, hx, hrun, Result.andThen]
  exact hK _ _ (h w' h1 (gr_none h2))

theorem core_size : (Try.prog.info? 55).map (·.size) = some 14 := by kernel_rfl
theorem core_zero : (Try.prog.info? 55).map (·.zero) = some (some (.agg (ints (List.replicate 14 0)).toArray)) := by kernel_rfl
theorem core_struct : isStruct Try.prog 55 = true := by kernel_rfl

theorem lies_part {w : World} {b : Nat} {t : TypeId} {l : List Int} (r : Row w b t (ints l)) (o : Nat) (xs : List Int) (h : ∀ j x, xs[j]? = some x → l[o + j]? = some x) (c : Nat) : Lies w (· = b) (.slice (some ⟨b, o, none⟩) (ints xs).length c) (ints xs) :=
  ⟨_, c, rfl, fun _ => ⟨b, o, rfl, rfl, r.lt, fun j u hu => by
    simp only [ints, List.getElem?_map, Option.map_eq_some_iff] at hu
    obtain ⟨x, hx, rfl⟩ := hu
    exact row_cell r (h j x hx)⟩⟩

def regsTo (s : St) (k : Nat) : List Int := (s.cores.take k).flatMap (·.regs)

theorem regs_more {s : St} {k : Nat} {c : Core} (h : s.cores[k]? = some c) : regsTo s (k + 1) = regsTo s k ++ c.regs := by
  unfold regsTo
  rw [List.take_add_one, h]
  simp

/-- What outcome leaves. -/
def OutP (xs : List Int) (w : World) (e : Ending) (w' : World) : Prop := ∃ v, e = .returned v ∧ w'.ownsRow w.heap.size 3 1 v xs.length (ints xs) ∧ Below w.heap.size w w'

set_option maxRecDepth 100000 in
set_option maxHeartbeats 2000000 in
theorem outcome_any (b m : Nat) (s : St) (w : World) (r : StAt w b s) (h : Shape s) (hm : m ≤ 3) :
    Calls Try.prog 23 #[ptr b, .int .i64 (m : Int)] w (OutP (outS m s) w) := by
  obtain ⟨i0, hi0, hz0, hz1, hz2⟩ := info_parts int_info
  have hbl := Row.lt r
  have R := Lib.hid r
  have H := Lib.hid h
  have m0 : (0 : Int) ≤ (m : Int) := by omega
  have m3 : (m : Int) ≤ 3 := by omega
  have cM : (m : Int) * 4 + 4 = ((m * 4 + 4 : Nat) : Int) := by omega
  have CM := Lib.hid cM
  clear r h cM
  unfold ptr
  go_enter Try.func23, Try.ntmps23
  go_wp2_with ((with_reducible refine make_walk rfl 35 3 (.const (.int .i64 0)) (.tmp 10) rfl rfl ((m : Int) * 4 + 4) (m * 4 + 4) CM.out rfl w.heap.size i0 _ 1 Try.underlying35 hi0 hz0 hz1 (by rw [hz2]; omega) (by unfold maxLen; omega) (Nat.le_refl _) ?_); intro w1 own1 b1; have O1 := Lib.hid own1; have B1 := Lib.hid b1; clear own1 b1)
  go_loopw [5, 18] (fun lv idx wr => ∃ k : Nat, k ≤ m ∧ idx = .int .i64 k ∧ Hid (wr.ownsRow w.heap.size 3 1 lv (k * 4) (ints (regsTo s k)) ∧ Below w.heap.size w wr)) (fun _ idx _ => m - (intOf idx).toNat)
  case atStart => exact ⟨0, Nat.zero_le _, rfl, Lib.hid ⟨O1.out, B1.out⟩⟩
  case round =>
    obtain ⟨k, hk, rfl, HK⟩ := hrel
    have hbel := HK.out.2
    by_cases hlt : k < m
    · obtain ⟨c, hc⟩ : ∃ c, s.cores[k]? = some c := ⟨_, List.getElem?_eq_getElem (by rw [H.out.len]; omega)⟩
      have hok := H.out.core k c hc
      have hcl := coreL_len hok
      have SZ : Hid ((Try.prog.info? 55).map (·.size) = some (ints (coreL c)).length) := Lib.hid (by rw [ints_len, hcl]; exact core_size)
      have ZL : Hid ((ints (List.replicate 14 0)).length = (ints (coreL c)).length) := Lib.hid (by rw [ints_len, ints_len, hcl, List.length_replicate])
      have HCELL : Hid (∀ j u, (ints (coreL c))[j]? = some u → wr.cell? ((⟨b, k * 14, none⟩ : Addr).add j) = some u) := Lib.hid (fun j u hu => by
        simp only [ints, List.getElem?_map, Option.map_eq_some_iff] at hu
        obtain ⟨x, hx, rfl⟩ := hu
        have hj : j < 14 := by have := (List.getElem?_eq_some_iff.1 hx).1; omega
        rw [Addr.add_lit, hbel.cell hbl]
        exact R.out.core H.out hc hj hx)
      have RG : Hid (∀ j x, c.regs[j]? = some x → (coreL c)[1 + j]? = some x) := Lib.hid (fun j x hx => by
        have hj : j < 4 := by have := (List.getElem?_eq_some_iff.1 hx).1; rw [hok.regs] at this; exact this
        rw [reg_at hok hj]; exact hx)
      have RL : Hid ((ints c.regs).length = 4) := Lib.hid (by rw [ints_len, hok.regs])
      have HRM := Lib.hid (regs_more hc)
      have HBE := Lib.hid hbel
      have i1 : (0 : Int) ≤ (k : Int) := by omega
      have i2 : (k : Int) < (m : Int) := by omega
      clear hc hok hcl hbel
      go_wp2_with (first
        | (with_reducible refine load_walk rfl 55 (.tmp 20) rfl ⟨b, k * 14, none⟩ rfl (ints (coreL c)) core_struct SZ.out HCELL.out ?_)
        | ((with_reducible refine alloc_walk (o := ⟨some 7, _, _, _, _, _⟩) rfl 55 rfl _ core_zero ?_); intro y1 ry1 by1 zy1; clear zy1)
        | ((with_reducible refine storeRow_walk rfl 55 (.tmp 7) (.tmp 21) rfl wr.heap.size rfl (ints (coreL c)) rfl SZ.out 55 (ints (List.replicate 14 0)) ry1 ZL.out (ints_one _) ?_); intro y2 ry2 oy2 zy2; have BY := Lib.hid (Only.below by1 oy2 by1.size (fun g hg => Nat.ne_of_lt hg)); have LY := Lib.hid (lies_part ry2 1 c.regs RG.out 4); clear zy2 oy2 ry1 by1 ry2)
        | (at_builtin; go_must ((have LY4 := LY.out; rw [RL.out] at LY4; refine app_walk _ rfl (.tmp 22) (.tmp 24) 35 rfl w.heap.size 3 i0 _ 8 Try.underlying35 hi0 hz0 hz1 hz2 rfl u5 (k * 4) (ints (regsTo s k)) rfl (own_only HK.out.1 (Only.of_below BY.out (fun _ => False)) (fun _ _ h => h.elim)) (· = wr.heap.size) (some ⟨wr.heap.size, 1, none⟩) 4 4 (ints c.regs) rfl LY4 (Nat.le_refl _) (ints_one _) (by unfold maxLen; omega) (by omega) (Nat.le_trans HBE.out.size BY.out.size) ?_); intro yv y3 s3 g3 l3; have O3 := Lib.hid s3; have B3 := Lib.hid ((HBE.out.trans (BY.out.mono HBE.out.size)).grown g3 (Nat.le_trans HBE.out.size BY.out.size) (own_base HK.out.1)); clear s3 g3 l3 LY4)))
      go_roundw
      case rel =>
        refine ⟨k + 1, by omega, by go_num, Lib.hid ⟨?_, B3.out⟩⟩
        rw [HRM.out, ints_append, Nat.succ_mul]
        exact O3.out
      case measure => simp [intOf]; omega
    · obtain rfl : k = m := by omega
      have hmem : Hid (∀ j x, s.mem[j]? = some x → (stL s)[42 + j]? = some x) := Lib.hid (fun j x hx => by rw [stL_mem H.out]; exact hx)
      have LM := Lib.hid (lies_part (Row.of_below R.out hbel hbl) 42 s.mem hmem.out 4)
      have ML : Hid ((ints s.mem).length = 4) := Lib.hid (by rw [ints_len, H.out.mem])
      have HBE := Lib.hid hbel
      clear hbel
      go_wp2_with (at_builtin; go_must ((have LY4 := LM.out; rw [ML.out] at LY4; refine app_walk _ rfl (.tmp 27) (.tmp 31) 35 rfl w.heap.size 3 i0 _ 8 Try.underlying35 hi0 hz0 hz1 hz2 rfl u5 (k * 4) (ints (regsTo s k)) rfl HK.out.1 (· = b) (some ⟨b, 42, none⟩) 4 4 (ints s.mem) rfl LY4 (Nat.le_refl _) (ints_one _) (by unfold maxLen; omega) (by omega) HBE.out.size ?_); intro yv y3 s3 g3 l3; have O3 := Lib.hid s3; have B3 := Lib.hid (HBE.out.grown g3 HBE.out.size (own_base HK.out.1)); clear s3 g3 l3 LY4))
      go_ret
      refine ⟨_, rfl, ?_, B3.out⟩
      have hl : (outS k s).length = k * 4 + 4 := by
        have := O3.out.1
        rw [← ints_append, ints_len] at this
        simpa [outS, regsTo] using this
      have := O3.out
      rw [← ints_append] at this
      rw [hl]
      exact this

#print axioms outcome_any
end Go.Proofs.Ytgljgpllooehkaa
