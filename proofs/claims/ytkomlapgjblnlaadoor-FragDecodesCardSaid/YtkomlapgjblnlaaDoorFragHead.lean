/-
  A FRAGMENT'S HEAD, an array of eleven bytes in a block of its own, and WHAT THE PROGRAM'S METHODS ON IT ANSWER (cut, get, put, sumWith). The table of half a byte's steps must lie in its block as start-up lays it.
-/
import Derived.Test.YtkomlapgjblnlaaDoorFragMath
import Derived.Test.YtkomlapgjblnlaaDoorPut
import Derived.Test.YtkomlapgjblnlaaDoorCut
import Derived.Test.YtkomlapgjblnlaaDoorBelow
import Derived.Test.YtkomlapgjblnlaaDoorCrcCode
import Derived.Test.YtkomlapgjblnlaaDoorRegion
import Derived.Deep.MidRow
import Derived.Deep.WholeRow
import Derived.Lib.SmallJoins
import Derived.ChangeKeysEq
import Derived.DeepKeys
import Derived.Laws.StructEq
namespace Go.Proofs.YtkomlapgjblnlaaDoor
open Go.RowKit
/-- bytes as an array's value -/
def av (zs : List Int) : Array Value := (il .u8 zs).toArray
theorem av_size (zs : List Int) : (av zs).size = zs.length := by simp [av, il_length]
theorem av_one (zs : List Int) : (av zs).all (·.oneCell') = true := all_oneCell_toArray (il_one _ _)
theorem av_get (zs : List Int) (j : Nat) (h : j < zs.length) : (av zs)[j]? = some (.int .u8 (zs.getD j 0)) := by
  have := il_get .u8 zs j h
  simpa [av] using this
def z11 : List Int := List.replicate 11 0
theorem z11_length : z11.length = 11 := by simp [z11]
theorem z11_cells : av z11 = #[.int .u8 0, .int .u8 0, .int .u8 0, .int .u8 0, .int .u8 0, .int .u8 0, .int .u8 0, .int .u8 0, .int .u8 0, .int .u8 0, .int .u8 0] := rfl
theorem hd_info (c : Array Value) (h : c.size = 11) : (Tryd.prog.info? 41).map (·.size) = some c.size := by rw [h]; kernel_rfl
theorem av_info (zs : List Int) (h : zs.length = 11) : (Tryd.prog.info? 41).map (·.size) = some (av zs).size := hd_info _ (by rw [av_size, h])
/-- a block that holds a head -/
def HD (w : World) (b : Nat) (zs : List Int) : Prop := w.heap[b]? = some (.cells (av zs) 41 (0, 0)) ∧ zs.length = 11
theorem HD.lt {w : World} {b : Nat} {c : List Int} (h : HD w b c) : b < w.heap.size := (Array.getElem?_eq_some_iff.1 h.1).1
theorem HD.keep {w w' : World} {b : Nat} {c : List Int} (h : HD w b c) (hb : Below w.heap.size w w') : HD w' b c := ⟨by rw [hb.block b h.lt]; exact h.1, h.2⟩
theorem HD.cell {w : World} {b : Nat} {c : List Int} (h : HD w b c) (j : Nat) (hj : j < 11) : w.cell? ⟨b, j, none⟩ = some (.int .u8 (c.getD j 0)) := by
  rw [Joins.cell_of_block h.1 j, av_get _ _ (by rw [h.2]; exact hj)]
theorem HD.row {w : World} {b : Nat} {c c' : List Int} (h : HD w b c) (hc : c'.length = 11) : HD (w.setRow b (av c')) b c' := ⟨setRow_heap w b (av c) (av c') _ _ h.1, hc⟩
theorem HD.new (w : World) (zs : List Int) (h : zs.length = 11) : HD (w.alloc (.cells (av zs) 41)) w.heap.size zs := ⟨heap_alloc_last w _, h⟩
/-- a part of a head, as a slice of bytes -/
theorem HD.ri {w : World} {g : Nat} {l : List Int} (h : HD w g l) (m d : Nat) (hm : m + d ≤ 11) : RI .u8 w (.slice (some ⟨g, m, none⟩) d d) d ((l.drop m).take d) := by
  refine ⟨_, d, rfl, by simp [h.2]; omega, Nat.le_refl _, by omega, fun h => by simp at h, fun _ => ⟨g, m, rfl, fun j hj => ?_⟩⟩
  rw [h.cell (m + j) (by omega)]
  simp only [List.getD, List.getElem?_take, hj, if_true, List.getElem?_drop]
theorem run_items11 {w : World} (a b : List Int) (ha : a.length = 11) (hb : b.length = 11) : ∀ is : List Nat, (∀ i ∈ is, i < 11) →
    (Op.eqItems 9999 5 1 (av a) (av b) is).run Tryd.prog w = .ok (is.all fun i => a.getD i 0 == b.getD i 0) w
  | [], _ => by simp [Op.eqItems]
  | i :: is, h => by
    have hi : i < 11 := h i (by simp)
    have p1 := run_part_plain (P := Tryd.prog) (w := w) (e := 5) (by kernel_rfl) (xs := av a) (off := i * 1) (v := .int .u8 (a.getD i 0)) (by rw [Nat.mul_one]; exact av_get a i (by omega))
    have p2 := run_part_plain (P := Tryd.prog) (w := w) (e := 5) (by kernel_rfl) (xs := av b) (off := i * 1) (v := .int .u8 (b.getD i 0)) (by rw [Nat.mul_one]; exact av_get b i (by omega))
    have p3 := run_equalIn_int (P := Tryd.prog) w 9998 5 .u8 .u8 (a.getD i 0) (b.getD i 0) Tryd.underlying5
    have p4 := run_items11 (w := w) a b ha hb is (fun j hj => h j (List.mem_cons_of_mem _ hj))
    simp only [Op.eqItems, Sem.run_bind, p1, p2, Result.andThen_ok, List.all_cons]
    rw [p3]
    simp only [Result.andThen_ok]
    cases hc : (a.getD i 0 == b.getD i 0)
    · simp
    · simpa using p4
theorem run_eq_head (a b : List Int) (ha : a.length = 11) (hb : b.length = 11) (w : World) : (Op.equalIn 10000 41 (.agg (av a)) (.agg (av b))).run Tryd.prog w = .ok (decide (a = b)) w := by
  obtain ⟨i, hi⟩ : ∃ i, Tryd.prog.info? 5 = some i := info_of_underlying Tryd.underlying5
  have hc : Tryd.prog.cellsOf 5 = 1 := by kernel_rfl
  have h1 := run_equalIn_array w (P := Tryd.prog) 9999 (av a) (av b) Tryd.underlying41 hi
  rw [hc, run_items11 a b ha hb _ (fun i hi => List.mem_range.1 hi)] at h1
  rw [h1]
  refine congrArg (fun x => Result.ok x w) ?_
  rw [Bool.eq_iff_iff, List.all_eq_true, decide_eq_true_eq]
  constructor
  · intro h
    refine List.ext_getElem (by omega) fun j h1 h2 => ?_
    have := h j (List.mem_range.2 (by omega))
    simpa [List.getD, h1, h2] using this
  · rintro rfl j _
    simp
theorem und_head : Tryd.prog.underlying 41 = some (.array (Tryd.prog.arrayLen 41) (Tryd.prog.elem 41)) := by rw [Tryd.underlying41]; rfl
theorem hd_cell1 {w : World} : (sizeOf (Tryd.prog.elem 41)).run Tryd.prog w = .ok 1 w := by
  have he : Tryd.prog.elem 41 = 5 := rfl
  obtain ⟨i, hi, _, hz1, _⟩ := info_parts Tryd.info_u8
  simp [sizeOf, typeInfo, he, hi, hz1]
set_option maxRecDepth 8000 in
set_option maxHeartbeats 1000000 in
theorem hcut_any (b f n t : Nat) (ht : f + n = t) (h1 : t ≤ 11) (h0 : 0 < n) (w : World) :
    Calls Tryd.prog 17 #[.pointer (some ⟨b, 0, none⟩), .int .i64 f, .int .i64 t] w fun e w' => e = .returned (.slice (some ⟨b, f, none⟩) n n) ∧ w = w' := by
  have hf : (f : Int) ≤ (t : Int) := by omega
  have ht1 : (t : Int) ≤ 11 := by omega
  have hne : ¬ t = f := by omega
  have hs : t - f = n := by omega
  clear ht h1 h0
  go_enter Tryd.func17, Tryd.ntmps17
  go_wp2
  go_ret
  exact ⟨by rfl, rfl⟩
theorem hd_size1 : (Tryd.prog.info? 5).map (·.size) = some 1 := by kernel_rfl
theorem hd_splice (k : IntKind) (l cs : List Int) (off : Nat) : splice (il k l) off (il k cs) = il k (splice l off cs) := by simp [splice, il]
/-- copy into a head -/
theorem wpl_copy_head {ops : Array Oper} {rest : List Oper} {o : Oper} {a : Act} {w : World} {Q : Exit → Act → World → Prop} (hgd : o.guard = none) (d s : Operand)
    (ho : o.op = .call { callee := .builtin .copy, args := #[d, s], argTypes := #[23, 23] }) (g off m : Nat) (l : List Int) (hblk : HD w g l)
    (hd : a.eval d = .slice (some ⟨g, off, none⟩) m m) (v : Value) (zs : List Int) (hs : a.eval s = v) (hri : RI .u8 w v m zs) (hfit : off + m ≤ 11)
    (h : ∀ w', Hid (HD w' g (splice l off zs)) → Hid (Below g w w') → wpList Tryd.prog ops Q rest (a.put o.dst (goInt (m : Int))) w') : wpList Tryd.prog ops Q (o :: rest) a w := by
  refine wpList_plain hgd fun K hK => ?_
  obtain ⟨sp, sCap, rfl, hl, _, _, _, hc⟩ := hri
  have hcl : (il .u8 zs).length = min m m := by rw [il_length, Nat.min_self]; exact hl
  have h1 := step_copy_splice (ops := ops) (K := K) (Q := Q) (E := True) hgd d s 23 23 ho 5 Tryd.underlying23 hd_size1 (some ⟨g, off, none⟩) sp m m m sCap hd hs g off (il .u8 l) 41 hblk.1 (il .u8 zs) hcl ?_ (by rw [hcl, il_length, hblk.2]; omega) (il_one _ _) g w (Below.refl _ _) (Nat.le_refl _) ?_
  · rwa [if_pos (by simp [Region.wanted, hgd])] at h1
  · intro hp
    rw [hcl] at hp
    obtain ⟨b, of2, rfl, hcell⟩ := hc (by omega)
    refine ⟨rfl, _, rfl, fun j u hj => ?_⟩
    have hjl : j < zs.length := by have := (List.getElem?_eq_some_iff.1 hj).1; rwa [il_length] at this
    rw [il_get _ _ _ hjl] at hj
    have h2 := hcell j (by omega)
    rw [← hj]
    by_cases h0 : j = 0
    · subst h0; simpa [Addr.add] using h2
    · simpa [Addr.add, h0] using h2
  · intro w' hg hb
    have e : goInt (il .u8 zs).length = goInt (m : Int) := by rw [hcl, Nat.min_self]
    rw [e]
    refine hK _ _ (h w' ⟨?_, by rw [length_splice _ _ _ (by rw [hblk.2]; omega)]; exact hblk.2⟩ hb)
    have := hg.out
    rwa [hd_splice] at this
theorem hget_any (b f n t : Nat) (ht : f + n = t) (h1 : t ≤ 11) (h0 : 0 < n) (h8 : n ≤ 8) {w : World} {zs : List Int} (hh : HD w b zs) (hb : isB zs) {x : Int} (hx : num zs f n = x) :
    Calls Tryd.prog 22 #[.pointer (some ⟨b, 0, none⟩), .int .i64 f, .int .i64 t] w fun e w' => e = .returned (.int .u64 x) ∧ w = w' := by
  have HC := Lib.hid (hcut_any b f n t ht h1 h0)
  have HG : Hid (Calls Tryd.prog 31 #[.slice (some ⟨b, f, none⟩) n n] w fun e w' => e = .returned (.int .u64 x) ∧ w = w') := Lib.hid (by
    have hr := hh.ri f n (by omega)
    obtain ⟨b2, of2, e1, hcell⟩ := hr.at_ h0
    obtain ⟨rfl, rfl⟩ : b = b2 ∧ f = of2 := by simpa using e1
    have := get_some b f n n ((zs.drop f).take n) w (bytes_of_mem ((hb.drop f).take n)) h0 (by omega) hcell
    rw [Nat.min_eq_left h8, getI_take _ _ _ (Nat.le_refl _), show getI (zs.drop f) n = x from hx] at this
    exact this)
  clear ht h1 h0 h8 hh hb hx
  go_enter Tryd.func22, Tryd.ntmps22
  go_wp2_with (first
    | (go_at_call 17; (with_reducible refine (HC.out _).mono ?_); rintro e w' ⟨rfl, rfl⟩)
    | (go_at_call 31; (with_reducible refine (HG.out).mono ?_); rintro e w' ⟨rfl, rfl⟩))
  go_ret
  exact ⟨rfl, rfl⟩
theorem more_of (a b : List Int) (ha : isB a) : moreS (ofS a) b = ofS (a ++ b) := by
  have h := reg_lt a ha 4294967295 (by omega)
  unfold ofS moreS
  rw [reg_append, show 4294967295 - (4294967295 - reg (4294967295 - 0) a) = reg (4294967295 - 0) a from by simp only [Nat.sub_zero]; omega]
theorem hsum_any (b : Nat) {w : World} {zs : List Int} (hT : Tab w) (hh : HD w b zs) (hb : isB zs) {v : Value} {n : Nat} {d : List Int} (hr : RI .u8 w v n d) (hd : isB d) {m : Nat} (hm : maskS (ofS (zs.drop 4 ++ d)) = m) :
    Calls Tryd.prog 16 #[.pointer (some ⟨b, 0, none⟩), v] w fun e w' => e = .returned (.int .u64 m) ∧ w = w' := by
  have hh4 := hh.ri 4 7 (by omega)
  rw [List.take_of_length_le (by simp [hh.2])] at hh4
  obtain ⟨o, ho⟩ : ∃ o, ofS (zs.drop 4) = o := ⟨_, rfl⟩
  obtain ⟨q, hq⟩ : ∃ q, moreS o d = q := ⟨_, rfl⟩
  have hq2 : ofS (zs.drop 4 ++ d) = q := by rw [← more_of _ _ (hb.drop 4), ho, hq]
  rw [hq2] at hm
  have HC : Hid (∀ w, Calls Tryd.prog 17 #[.pointer (some ⟨b, 0, none⟩), .int .i64 4, .int .i64 11] w fun e w' => e = .returned (.slice (some ⟨b, 4, none⟩) 7 7) ∧ w = w') := Lib.hid (hcut_any b 4 7 11 rfl (by omega) (by omega))
  have HO : Hid (Calls Tryd.prog 28 #[.slice (some ⟨b, 4, none⟩) 7 7] w fun e w' => e = .returned (.int .u32 o) ∧ w = w') := Lib.hid (of_any hT hh4 (hb.drop 4) ho)
  have HM : Hid (Calls Tryd.prog 27 #[.int .u32 o, v] w fun e w' => e = .returned (.int .u32 q) ∧ w = w') := Lib.hid (more_any (by rw [← ho]; exact ofS_lt _) hT hr hd hq)
  have HK : Hid (∀ w, Calls Tryd.prog 29 #[.int .u32 q] w fun e w' => e = .returned (.int .u32 m) ∧ w = w') := Lib.hid fun w => mask_any q m (by rw [← hq]; exact moreS_lt _ _) hm w
  have hm9 : (m : Int) ≤ 4294967295 := by have := maskS_lt q; omega
  clear hT hh hb hr hd hm hh4 ho hq hq2
  go_enter Tryd.func16, Tryd.ntmps16
  go_wp2_with (first
    | (go_at_call 17; (with_reducible refine (HC.out _).mono ?_); rintro e w' ⟨rfl, rfl⟩)
    | (go_at_call 28; (with_reducible refine (HO.out).mono ?_); rintro e w' ⟨rfl, rfl⟩)
    | (go_at_call 27; (with_reducible refine (HM.out).mono ?_); rintro e w' ⟨rfl, rfl⟩)
    | (go_at_call 29; (with_reducible refine (HK.out _).mono ?_); rintro e w' ⟨rfl, rfl⟩))
  go_ret
  exact ⟨rfl, rfl⟩
theorem hput_any (b f n t : Nat) (ht : f + n = t) (h1 : t ≤ 11) (h0 : 0 < n) (h8 : n ≤ 8) (x : Int) {w : World} {zs : List Int} (hh : HD w b zs) :
    Calls Tryd.prog 15 #[.pointer (some ⟨b, 0, none⟩), .int .i64 f, .int .i64 t, .int .u64 x] w fun e w' => e = .returned (.tuple #[]) ∧ HD w' b (splice zs f (putL x n)) ∧ Below b w w' := by
  have HC := Lib.hid (hcut_any b f n t ht h1 h0)
  have HP : Hid (∀ w, Calls Tryd.prog 26 #[.int .u64 x, .int .i64 n] w fun e w' => ∃ c, e = .returned (.slice (some ⟨w.heap.size, 0, none⟩) n c) ∧ RI .u8 w' (.slice (some ⟨w.heap.size, 0, none⟩) n c) n (putL x n) ∧ Below w.heap.size w w') := Lib.hid fun w =>
    (put_any x n n (by unfold I63; omega) (by unfold clampI; omega) w).mono fun _ _ ⟨he, ho, hb⟩ => ⟨n, he, RI.own ho, hb⟩
  have HH := Lib.hid hh
  have HN : Hid (f + n ≤ 11) := Lib.hid (by omega)
  have hn : (n : Int) ≤ 8 := by omega
  have hn2 : (t : Int) - (f : Int) = (n : Int) := by omega
  have hlt := hh.lt
  clear ht h1 h0 h8 hh
  go_enter Tryd.func15, Tryd.ntmps15
  go_wp2_with (first
    | (go_at_call 17; (with_reducible refine (HC.out _).mono ?_); rintro e w' ⟨rfl, rfl⟩)
    | (go_at_call 26; (with_reducible refine (HP.out _).mono ?_); rintro e w1 ⟨c1, rfl, hr1, hb1⟩; have HR1 := Lib.hid hr1; have HB1 := Lib.hid hb1; have HH1 := Lib.hid (HH.out.keep hb1); clear hr1 hb1)
    | (refine wpl_copy_head rfl (.tmp 11) (.tmp 16) rfl b f n zs HH1.out rfl _ (putL x n) rfl HR1.out HN.out ?_; intro w2 HH2 HB2))
  go_end0
  exact ⟨rfl, HH2.out, (HB1.out.mono (Nat.le_of_lt hlt)).trans HB2.out⟩
/-- a head's bytes lie there -/
def HAt (w : World) (b off : Nat) (zs : List Int) : Prop := zs.length = 11 ∧ ∀ k, k < 11 → w.cell? ⟨b, off + k, none⟩ = some (.int .u8 (zs.getD k 0))
theorem run_load_hat {w : World} {b off : Nat} {zs : List Int} (h : HAt w b off zs) : (loadVar 41 ⟨b, off, none⟩).run Tryd.prog w = .ok (.agg (av zs)) w := by
  have hl : (loadCells ⟨b, off, none⟩ (il .u8 zs).length).run Tryd.prog w = .ok (il .u8 zs).toArray w :=
    run_loadCells_list (P := Tryd.prog) w ⟨b, off, none⟩ (il .u8 zs) (fun j v hv => by
      have hadd : (⟨b, off, none⟩ : Addr).add j = ⟨b, off + j, none⟩ := by unfold Addr.add; split <;> simp_all
      have hj : j < zs.length := by have := (List.getElem?_eq_some_iff.1 hv).1; rwa [il_length] at this
      rw [il_get _ _ _ hj] at hv
      rw [hadd, h.2 j (by rw [← h.1]; exact hj)]
      exact hv)
  have hi := av_info zs h.1
  cases hq : Tryd.prog.info? 41 with
  | none => simp [hq] at hi
  | some i =>
    have hs : i.size = 11 := by simpa [hq, av_size, h.1] using hi
    have hagg : (isAgg 41).run Tryd.prog w = .ok true w := by
      unfold isAgg
      rw [Sem.run_bind, run_underlying Tryd.underlying41 w]
      rfl
    rw [il_length, h.1] at hl
    simp [loadVar, Sem.run_bind, hagg, sizeOf, typeInfo, hq, hs, hl, av]
/-- a head is loaded out of bytes -/
theorem exec_load_hat {a : Act} {o : Oper} {w : World} {b off : Nat} {zs : List Int} (x : Operand) (ho : o.op = .load 41 x) (hx : a.eval x = .pointer (some ⟨b, off, none⟩)) (h : HAt w b off zs) :
    (execOp a.eval o).run Tryd.prog w = .ok (.value (.agg (av zs))) w := by
  unfold execOp
  simp only [ho, hx, Instr.loadAt, Instr.sureAddr, Sem.run_bind, Sem.run_pure, Result.andThen_ok, run_load_hat h]
/-- bytes as an array: where they lie -/
theorem exec_arrptr {a : Act} {o : Oper} {w : World} (x : Operand) (ho : o.op = .sliceToArrayPointer 41 x) (p : Option Addr) (n c : Nat) (hx : a.eval x = .slice p n c) (h : 11 ≤ n) :
    (execOp a.eval o).run Tryd.prog w = .ok (.value (.pointer p)) w := by
  have hn : ¬ n < 11 := by omega
  unfold execOp
  simp only [ho, hx, Instr.arrayAt, Sem.run_bind, run_underlying Tryd.underlying41, Result.andThen_ok]
  simp [hn, Result.andThen]
end Go.Proofs.YtkomlapgjblnlaaDoor
