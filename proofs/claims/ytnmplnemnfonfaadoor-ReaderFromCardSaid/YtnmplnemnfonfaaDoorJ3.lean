/-
  TEXTS JOINED: FragRef, Cut, CrcCode, FragHead, FragKind, PutGet, FragGet. Each one's own words stand at its head.
-/
import Derived.Test.YtnmplnemnfonfaaDoorJ1
import Derived.Test.YtnmplnemnfonfaaDoorJ2
import Derived.Laws.Slices
import Derived.Deep.WholeRow
import Derived.Lib.SmallJoins
import Derived.Lib.SlBytesConst
import Derived.Deep.MidRow
import Derived.ChangeKeysEq
import Derived.DeepKeys
import Derived.Laws.StructEq
namespace Go.Proofs.YtnmplnemnfonfaaDoor
open Go.RowKit
theorem rput_own (x : Int) (n : Nat) (hx : U64 x) (hn : n ≤ 8) (w : World) :
    Calls Tryd.prog 57 #[.int .u64 x, .int .i64 n] w fun e w' => ∃ a c, e = .returned (.slice a n c) ∧ w'.ownsRow w.heap.size 5 1 (.slice a n c) n (il .u8 (putL x n)) ∧ Below w.heap.size w w' :=
  (rput_any x n n hx (by unfold I63; omega) (by unfold clampI; omega) w).mono fun _ _ ⟨v, he, ho, hb⟩ => by
    obtain ⟨a, c, rfl⟩ := own_form ho
    exact ⟨a, c, he, ho, hb⟩
theorem u8_fit {k : Int} (h0 : 0 ≤ k) (h1 : k ≤ 255) : IntKind.u8.wrap k = k := by simp [IntKind.wrap, IntKind.signed, IntKind.bits]; omega
set_option maxRecDepth 8000 in
set_option maxHeartbeats 2000000 in
theorem rfbytes_any (k e : Int) (v : Value) (n : Nat) (d : List Int) (w : World) (hr : fragOk k n = true) (he : 0 ≤ e ∧ e ≤ 4294967295) (hri : RI .u8 w v n d) (hbd : isB d) :
    Calls Tryd.prog 43 #[.agg (fA k e v)] w fun r w' => ∃ a c, r = .returned (.slice a (11 + n) c) ∧ w'.ownsRow w.heap.size 5 1 (.slice a (11 + n) c) (11 + n) (il .u8 (fragB k e d)) ∧ Below w.heap.size w w' := by
  have hp := fok_parts hr
  have hd := hri.length
  obtain ⟨he0, he1⟩ := he
  have hwk := u8_fit (k := k) (by omega) (by omega)
  obtain ⟨o, ho⟩ : ∃ o, ofS (fragT k e d) = o := ⟨_, rfl⟩
  obtain ⟨m, hm⟩ : ∃ m, maskS o = m := ⟨_, rfl⟩
  have hm9 : m < 4294967296 := by rw [← hm]; exact maskS_lt o
  have HO := Lib.hid ho
  have HOL : Hid (o < 4294967296) := Lib.hid (by rw [← ho]; exact ofS_lt _)
  have HM := Lib.hid hm
  have HFB : Hid (putL m 4 ++ fragT k e d = fragB k e d ∧ (fragB k e d).length = 11 + n) := Lib.hid ⟨by unfold fragB fragS; rw [ho, hm], by rw [fragB_length, hd]⟩
  have HT : Hid (putL n 2 ++ [k] ++ putL e 4 ++ d = fragT k e d ∧ (fragT k e d).length = 7 + n) := Lib.hid ⟨by unfold fragT fragK; rw [hd], by rw [fragT_length, hd]⟩
  have HTB : Hid (∀ x ∈ fragT k e d, 0 ≤ x ∧ x ≤ 255) := Lib.hid (fragT_bytes (by omega) e hbd)
  have HP1 : Hid (∀ w, Calls Tryd.prog 57 #[.int .u64 n, .int .i64 2] w fun e w' => ∃ a c, e = .returned (.slice a 2 c) ∧ w'.ownsRow w.heap.size 5 1 (.slice a 2 c) 2 (il .u8 (putL n 2)) ∧ Below w.heap.size w w') := Lib.hid (rput_own n 2 (by unfold U64; omega) (by omega))
  have HP2 : Hid (∀ w, Calls Tryd.prog 57 #[.int .u64 e, .int .i64 4] w fun e' w' => ∃ a c, e' = .returned (.slice a 4 c) ∧ w'.ownsRow w.heap.size 5 1 (.slice a 4 c) 4 (il .u8 (putL e 4)) ∧ Below w.heap.size w w') := Lib.hid (rput_own e 4 (by unfold U64; omega) (by omega))
  have HP3 : Hid (∀ w, Calls Tryd.prog 57 #[.int .u64 m, .int .i64 4] w fun e' w' => ∃ a c, e' = .returned (.slice a 4 c) ∧ w'.ownsRow w.heap.size 5 1 (.slice a 4 c) 4 (il .u8 (putL m 4)) ∧ Below w.heap.size w w') := Lib.hid (rput_own m 4 (by unfold U64; omega) (by omega))
  obtain ⟨w0, hw0⟩ : ∃ q, w.alloc (.cells (fA k e v) 43) = q := ⟨_, rfl⟩
  have HA : Hid (FO w0 w.heap.size k e v) := Lib.hid (by rw [← hw0]; exact FO.alloc w)
  have HB : Hid (Below w.heap.size w w0) := Lib.hid (by rw [← hw0]; exact balloc w _)
  have HR := Lib.hid (hri.keep HB.out)
  have HN : Hid (n ≤ 197) := Lib.hid hp.2.2
  obtain ⟨a, cap, rfl⟩ : ∃ a cap, v = .slice a n cap := by obtain ⟨a, c, e, _⟩ := hri; exact ⟨a, c, e⟩
  obtain ⟨z0, z1, z2⟩ := HA.out.cells
  have hn9 : (n : Int) ≤ 197 := by omega
  have hm8 : (m : Int) ≤ 4294967295 := by omega
  clear hr hri hp hd ho hm hm9 hbd
  go_enter Tryd.func43, Tryd.ntmps43
  go_wp2_with (first
    | (go_at_call 57; (with_reducible refine (HP1.out _).mono ?_); rintro r w1 ⟨a1, c1, rfl, ho1, hb1⟩; have HO1 := Lib.hid ho1; have HB1 := Lib.hid hb1; obtain ⟨x0, x1, x2⟩ := (HA.out.keep hb1).cells; clear ho1 hb1)
    | (at_builtin; refine wpl_appn rfl (.tmp 29) (.tmp 30) 25 rfl 5 .u8 1 Tryd.underlying25 Tryd.info_u8 w5.heap.size _ 4 (putL m 4) rfl HO6 _ (7 + n) (fragT k e d) rfl ((RI.own HO5F.out).keep HB6.out) (by have := HN.out; omega) (by have := HN.out; omega) w5.heap.size w5 HB6 (Nat.le_refl _) HB6.out.size ?_; intro v7 w7 HO7 HB7)
    | (at_builtin; refine wpl_appn rfl (.tmp 21) (.tmp 23) 25 rfl 5 .u8 1 Tryd.underlying25 Tryd.info_u8 w0.heap.size _ (2 + 1 + 4) (putL n 2 ++ [k] ++ putL e 4) rfl HO4 _ n d rfl (HR.out.keep HB4.out) (by have := HN.out; omega) (by have := HN.out; omega) w0.heap.size w0 HB4 (Nat.le_refl _) HB4.out.size ?_; intro v5 w5 HO5 HB5; have HO5F := Lib.hid (own_fin HO5.out HT.out.1 HT.out.2))
    | (at_builtin; refine wpl_appn rfl (.tmp 15) (.tmp 19) 25 rfl 5 .u8 1 Tryd.underlying25 Tryd.info_u8 w0.heap.size _ (2 + 1) (putL n 2 ++ [k]) rfl HO2K _ 4 (putL e 4) rfl (RI.own HO3.out) (by omega) (by omega) w0.heap.size w0 HB3 (Nat.le_refl _) HB3.out.size ?_; intro v4 w4 HO4 HB4; obtain ⟨q0, q1, q2⟩ := (HA.out.keep HB4.out).cells)
    | (at_builtin; refine wpl_app1 rfl (.tmp 9) (.tmp 13) 25 rfl 5 .u8 1 Tryd.underlying25 Tryd.info_u8 w0.heap.size _ 2 (putL n 2) rfl (Lib.hid (HO1.out.alloc _)) ⟨w1.heap.size, 0, none⟩ k rfl (alloc_cell w1 _ _) (by omega) (by omega) w0.heap.size w0 (Lib.hid (bch HB1.out (balloc _ _))) (Nat.le_refl _) (by have := HB1.out.size; simp; omega) ?_; intro v2 w2 HO2 HB2; obtain ⟨y0, y1, y2⟩ := (HA.out.keep HB2.out).cells)
    | (go_at_call 57; (with_reducible refine (HP2.out _).mono ?_); rintro r w3 ⟨a3, c3, rfl, ho3, hb3⟩; have HO2K := Lib.hid (own_keep HO2.out hb3); have HO3 := Lib.hid ho3; have HB3 := Lib.hid (bch HB2.out hb3); clear ho3 hb3)
    | (go_at_call 59; (with_reducible refine (rof_any (RI.own HO5F.out) HTB.out HO.out).mono ?_); rintro e w' ⟨rfl, rfl⟩)
    | (go_at_call 58; (with_reducible refine (rmask_at o m HOL.out HM.out _).mono ?_); rintro e w' ⟨rfl, rfl⟩)
    | (go_at_call 57; (with_reducible refine (HP3.out _).mono ?_); rintro r w6 ⟨a6, c6, rfl, ho6, hb6⟩; have HO6 := Lib.hid ho6; have HB6 := Lib.hid hb6; clear ho6 hb6))
  go_ret
  have h7 := own_fin HO7.out HFB.out.1 HFB.out.2
  obtain ⟨a7, c7, rfl⟩ := own_form h7
  have hb5 := bch HB.out HB5.out
  exact ⟨a7, c7, rfl, own_mono h7 hb5.size, bch hb5 HB7.out⟩
end Go.Proofs.YtnmplnemnfonfaaDoor
namespace Go.Proofs.YtnmplnemnfonfaaDoor
open Go.RowKit
theorem RI.cut {k : IntKind} {w : World} {a : Option Addr} {len cap : Nat} {zs : List Int} (h : RI k w (.slice a len cap) len zs) (l n m : Nat) (hl : l + n ≤ len) (hm : l + n ≤ m) (hm2 : m ≤ cap) :
    RI k w (sliced a l (l + n) m 1) n ((zs.drop l).take n) := by
  obtain ⟨a', cap', e, h1, h2, h3, h4, hc⟩ := h
  simp only [Value.slice.injEq, true_and] at e
  obtain ⟨rfl, rfl⟩ := e
  have hz : ((zs.drop l).take n).length = n := by simp; omega
  unfold sliced
  rw [show l + n - l = n from by omega]
  by_cases h0 : m = l
  · rw [if_pos h0]
    exact ⟨a, m - l, rfl, hz, by omega, by omega, fun e => by have := h4 e; omega, fun h => absurd h (by omega)⟩
  · rw [if_neg h0]
    cases a with
    | none => have := h4 rfl; omega
    | some x =>
      refine ⟨some (x.add (l * 1)), m - l, rfl, hz, by omega, by omega, fun h => by simp at h, fun hp => ?_⟩
      obtain ⟨b, off, hx, hcell⟩ := hc (by omega)
      obtain rfl := Option.some.inj hx
      refine ⟨b, off + l, by simp [Addr.add], fun j hj => ?_⟩
      rw [Nat.add_assoc, hcell (l + j) (by omega)]
      simp only [List.getD, List.getElem?_take, hj, if_true, List.getElem?_drop]
section
variable {w : World} {o : Oper} {a : Act}
set_option maxRecDepth 20000 in
theorem u8_cell1 : (sizeOf (Tryd.prog.elem 25)).run Tryd.prog w = .ok 1 w := by
  have he : Tryd.prog.elem 25 = 5 := rfl
  obtain ⟨i, hi, _, hz1, _⟩ := info_parts Tryd.info_u8
  simp [sizeOf, typeInfo, he, hi, hz1]
set_option maxRecDepth 20000 in
theorem und_bytes : Tryd.prog.underlying 25 = some (.slice (Tryd.prog.elem 25)) := by rw [Tryd.underlying25]; rfl
theorem exec_cut_lh (x lo hi : Operand) (ho : o.op = .slice 25 x (some lo) (some hi) none) (p : Option Addr) (len cap l n : Nat) (hx : a.eval x = .slice p len cap) (hlo : a.eval lo = .int .i64 (l : Int)) (hhi : a.eval hi = .int .i64 ((l + n : Nat) : Int)) (hc : l + n ≤ cap) :
    (execOp a.eval o).run Tryd.prog w = .ok (.value (sliced p l (l + n) cap 1)) w := by
  have h1 := run_slice_lh (P := Tryd.prog) w 25 p len cap und_bytes .i64 .i64 (l : Int) ((l + n : Nat) : Int) (by omega) (by omega) (by omega)
  rw [u8_cell1] at h1
  simp only [Result.andThen_ok, Int.toNat_natCast] at h1
  simp only [Int.natCast_add] at h1
  simp [execOp, ho, hx, hlo, hhi, run_sliceAt_slice _ _ _ _ _ _ und_bytes, h1, Result.andThen]
theorem exec_cut_h (x hi : Operand) (ho : o.op = .slice 25 x none (some hi) none) (p : Option Addr) (len cap n : Nat) (hx : a.eval x = .slice p len cap) (hhi : a.eval hi = .int .i64 (n : Int)) (hc : n ≤ cap) :
    (execOp a.eval o).run Tryd.prog w = .ok (.value (sliced p 0 n cap 1)) w := by
  have h1 := run_slice_h (P := Tryd.prog) w 25 p len cap und_bytes .i64 (n : Int) (by omega) (by omega)
  rw [u8_cell1] at h1
  simp only [Result.andThen_ok, Int.toNat_natCast] at h1
  simp [execOp, ho, hx, hhi, run_sliceAt_slice _ _ _ _ _ _ und_bytes, h1, Result.andThen]
theorem exec_cut_lhm (x lo hi mx : Operand) (ho : o.op = .slice 25 x (some lo) (some hi) (some mx)) (p : Option Addr) (len cap l n m : Nat) (hx : a.eval x = .slice p len cap) (hlo : a.eval lo = .int .i64 (l : Int)) (hhi : a.eval hi = .int .i64 ((l + n : Nat) : Int)) (hmx : a.eval mx = .int .i64 (m : Int)) (hm : l + n ≤ m) (hc : m ≤ cap) :
    (execOp a.eval o).run Tryd.prog w = .ok (.value (sliced p l (l + n) m 1)) w := by
  have h1 := run_slice_lhm (P := Tryd.prog) w 25 p len cap und_bytes .i64 .i64 .i64 (l : Int) ((l + n : Nat) : Int) (m : Int) (by omega) (by omega) (by omega) (by omega)
  rw [u8_cell1] at h1
  simp only [Result.andThen_ok, Int.toNat_natCast] at h1
  simp only [Int.natCast_add] at h1
  simp [execOp, ho, hx, hlo, hhi, hmx, run_sliceAt_slice _ _ _ _ _ _ und_bytes, h1, Result.andThen]
theorem sliced_form (p : Option Addr) (l n m s : Nat) : ∃ q c, sliced p l (l + n) m s = .slice q n c := ⟨_, _, by unfold sliced; rw [show l + n - l = n from by omega]⟩
section
variable {ops : Array Oper} {rest : List Oper} {Q : Exit → Act → World → Prop}
theorem wpl_val (hw : o.guard = none) {v : Value} (he : (execOp a.eval o).run Tryd.prog w = .ok (.value v) w) (h : wpList Tryd.prog ops Q rest (a.put o.dst v) w) : wpList Tryd.prog ops Q (o :: rest) a w := by
  refine wpList_plain hw fun K hK => ?_
  unfold Oper.wp
  rw [he]
  simp only [Oper.upon]
  exact hK _ _ h
theorem wpl_cut_lh (hg : o.guard = none) (x lo hi : Operand) (ho : o.op = .slice 25 x (some lo) (some hi) none) (v : Value) (len l n : Nat) (zs : List Int) (hx : a.eval x = v) (hlo : a.eval lo = .int .i64 (l : Int)) (hhi : a.eval hi = .int .i64 ((l + n : Nat) : Int)) (hr : RI .u8 w v len zs) (hl : l + n ≤ len)
    (h : ∀ p c, RI .u8 w (.slice p n c) n ((zs.drop l).take n) → wpList Tryd.prog ops Q rest (a.put o.dst (.slice p n c)) w) : wpList Tryd.prog ops Q (o :: rest) a w := by
  obtain ⟨p, cap, rfl, _, hc, _⟩ := id hr
  obtain ⟨q, c, e⟩ := sliced_form p l n cap 1
  have he := exec_cut_lh (w := w) x lo hi ho p len cap l n hx hlo hhi (by omega)
  have hR := hr.cut l n cap hl (by omega) (Nat.le_refl _)
  rw [e] at he hR
  exact wpl_val hg he (h q c hR)
theorem wpl_cut_lhm (hg : o.guard = none) (x lo hi mx : Operand) (ho : o.op = .slice 25 x (some lo) (some hi) (some mx)) (v : Value) (len l n m : Nat) (zs : List Int) (hx : a.eval x = v) (hlo : a.eval lo = .int .i64 (l : Int)) (hhi : a.eval hi = .int .i64 ((l + n : Nat) : Int)) (hmx : a.eval mx = .int .i64 (m : Int)) (hr : RI .u8 w v len zs) (hl : l + n ≤ len) (hm : l + n ≤ m) (hm2 : m ≤ len)
    (h : ∀ p c, RI .u8 w (.slice p n c) n ((zs.drop l).take n) → wpList Tryd.prog ops Q rest (a.put o.dst (.slice p n c)) w) : wpList Tryd.prog ops Q (o :: rest) a w := by
  obtain ⟨p, cap, rfl, _, hc, _⟩ := id hr
  obtain ⟨q, c, e⟩ := sliced_form p l n m 1
  have he := exec_cut_lhm (w := w) x lo hi mx ho p len cap l n m hx hlo hhi hmx hm (by omega)
  have hR := hr.cut l n m hl hm (by omega)
  rw [e] at he hR
  exact wpl_val hg he (h q c hR)
end
end
end Go.Proofs.YtnmplnemnfonfaaDoor
namespace Go.Proofs.YtnmplnemnfonfaaDoor
open Go.RowKit
def Tab (w : World) : Prop := ∀ j : Nat, j < 16 → w.cell? ⟨0, j, none⟩ = some (.int .u32 ((stn 4 j : Nat) : Int))
theorem half_list : ∀ j : Nat, j < 16 → ([0, 274646895, 549293790, 820201905, 1098587580, 1361435347, 1640403810, 1905808397, 2197175160, 2460548119, 2722870694, 2987750089, 3280807620, 3553878443, 3811616794, 4084100981] : List Int).getD j 0 = ((stn 4 j : Nat) : Int) := by decide
theorem tab_of {w : World} (h : ∀ j : Nat, j < 16 → w.cell? ⟨0, j, none⟩ = some (.int .u32 (([0, 274646895, 549293790, 820201905, 1098587580, 1361435347, 1640403810, 1905808397, 2197175160, 2460548119, 2722870694, 2987750089, 3280807620, 3553878443, 3811616794, 4084100981] : List Int).getD j 0))) : Tab w :=
  fun j hj => by rw [h j hj, half_list j hj]
theorem Tab.keep {w w' : World} (h : Tab w) (hb : Below w.heap.size w w') : Tab w' := fun j hj => cell_keep hb (h j hj)
theorem flip32 (s : Nat) (h : s < 4294967296) : bits .xor .u32 IntKind.u32.max (s : Int) = ((4294967295 - s : Nat) : Int) := by
  rw [show IntKind.u32.max = ((4294967295 : Nat) : Int) from by decide, u32_xor_nat _ _ (by omega) h, not32 s h, Nat.xor_comm]
theorem half_bits (r : Nat) (h : r < 4294967296) : bits .xor .u32 ((r : Int) / 16) ((stn 4 (r % 16) : Nat) : Int) = ((stn 4 r : Nat) : Int) := by
  have := u32_xor_nat (r / 16) (stn 4 (r % 16)) (by omega) (stn_lt 4 _ (by omega))
  rw [← half_step] at this
  rw [← this]; congr 1
theorem four_any (r : Nat) (h : r < 4294967296) {w : World} (ht : Tab w) {m : Nat} (hm : stn 4 r = m) : Calls Tryd.prog 72 #[.int .u32 r] w fun e w' => e = .returned (.int .u32 m) ∧ w = w' := by
  have hc := ht (r % 16) (by omega)
  have hy := half_bits r h
  rw [hm] at hy
  have hr : (r : Int) ≤ 4294967295 := by omega
  clear ht hm h
  go_enter Tryd.func72, Tryd.ntmps72
  go_wp2
  go_ret
  exact ⟨rfl, rfl⟩
theorem eight_any (r : Nat) (h : r < 4294967296) {w : World} (ht : Tab w) {m : Nat} (hm : stn 8 r = m) : Calls Tryd.prog 69 #[.int .u32 r] w fun e w' => e = .returned (.int .u32 m) ∧ w = w' := by
  obtain ⟨r1, hr1⟩ : ∃ r1, stn 4 r = r1 := ⟨_, rfl⟩
  have H1 := Lib.hid hr1
  have H2 := Lib.hid (show stn 4 r1 = m from by rw [← hr1, ← hm, show (8 : Nat) = 4 + 4 from rfl, stn_add])
  have HL := Lib.hid (show r1 < 4294967296 from by rw [← hr1]; exact stn_lt 4 r h)
  have HR := Lib.hid h
  have HT := Lib.hid ht
  clear hr1 hm h ht
  go_enter Tryd.func69, Tryd.ntmps69
  go_wp2_with (first | (go_at_call 72; first | ((with_reducible refine (four_any r HR.out HT.out H1.out).mono ?_); rintro e w' ⟨rfl, rfl⟩) | ((with_reducible refine (four_any r1 HL.out HT.out H2.out).mono ?_); rintro e w' ⟨rfl, rfl⟩)))
  go_ret
  exact ⟨rfl, rfl⟩
set_option maxRecDepth 8000 in
set_option maxHeartbeats 800000 in
theorem more_some (s : Nat) (h : s < 4294967296) (b off len cap : Nat) (zs : List Int) (w : World) (ht : Tab w) (hz : zs.length = len) (hb : ∀ x ∈ zs, 0 ≤ x ∧ x ≤ 255) (hl : (len : Int) ≤ 9223372036854775807)
    (hc : ∀ j, j < len → w.cell? ⟨b, off + j, none⟩ = some (.int .u8 (zs.getD j 0))) :
    Calls Tryd.prog 63 #[.int .u32 s, .slice (some ⟨b, off, none⟩) len cap] w fun e w' => e = .returned (.int .u32 (moreS s zs)) ∧ w = w' := by
  have hs : (s : Int) ≤ 4294967295 := by omega
  obtain ⟨m, hm⟩ : ∃ m, moreS s zs = m := ⟨_, rfl⟩
  rw [hm]
  have HM := Lib.hid hm
  have HC := Lib.hid hc
  have HZ := Lib.hid hz
  have HB := Lib.hid hb
  have HS := Lib.hid h
  have HT := Lib.hid ht
  have hf := flip32 s h
  obtain ⟨f, hfe⟩ : ∃ f, 4294967295 - s = f := ⟨_, rfl⟩
  rw [hfe] at hf
  have HF := Lib.hid hfe
  clear hm hc hz hb h ht hfe
  go_enter Tryd.func63, Tryd.ntmps63
  go_wp2
  go_loop [5, 12] (fun x i => ∃ (k r : Nat), i = .int .i64 k ∧ x = .int .u32 r ∧ k ≤ len ∧ Hid (r < 4294967296) ∧ Hid (reg r (zs.drop k) = reg f zs)) (fun _ i => len - (intOf i).toNat)
  case atStart => exact ⟨0, f, rfl, rfl, by omega, Lib.hid (by have := HF.out; omega), rfl⟩
  case round =>
    obtain ⟨k, r, rfl, rfl, hk, HR, HG⟩ := hrel
    by_cases hlt : k < len
    · obtain ⟨x, hx⟩ : ∃ x, zs.getD k 0 = x := ⟨_, rfl⟩
      have hcell : w.cell? ⟨b, off + k, none⟩ = some (.int .u8 x) := by rw [← hx]; exact HC.out k hlt
      have hxb : 0 ≤ x ∧ x ≤ 255 := by
        rw [← hx]; exact (bytes_of_mem HB.out) k
      have HD := Lib.hid (show reg r (x :: zs.drop (k + 1)) = reg f zs from by rw [← hx, ← drop_getD zs k (by rw [HZ.out]; exact hlt)]; exact HG.out)
      obtain ⟨y, rfl⟩ : ∃ y : Nat, x = (y : Int) := ⟨x.toNat, by omega⟩
      have hxx := u32_xor_nat r y HR.out (by omega)
      obtain ⟨r0, hr0⟩ : ∃ r0, r ^^^ y = r0 := ⟨_, rfl⟩
      have h0 : r0 < 4294967296 := by rw [← hr0]; exact xor_lt r y HR.out (by omega)
      rw [hr0] at hxx
      have H0 := Lib.hid h0
      obtain ⟨r2, hr2⟩ : ∃ r2, stn 8 r0 = r2 := ⟨_, rfl⟩
      have H2 := Lib.hid (show r2 < 4294967296 from by rw [← hr2]; exact stn_lt 8 r0 h0)
      have HE := Lib.hid (show stn 8 (r ^^^ y) = r2 from by rw [hr0, hr2])
      have HF8 := Lib.hid hr2
      clear hr0 hr2 hx HG h0
      go_wp2_with (first | (go_at_call 69; (with_reducible refine (eight_any r0 H0.out HT.out HF8.out).mono ?_); rintro e w' ⟨rfl, rfl⟩))
      go_round
      case rel =>
        refine ⟨k + 1, r2, by go_num, rfl, by omega, H2, ?_⟩
        have h3 := HD.out
        rw [reg_cons, Int.toNat_natCast, HE.out] at h3
        exact h3
      case measure => simp [intOf]; omega
    · have hg := HG.out
      rw [show zs.drop k = [] from List.drop_eq_nil_of_le (by rw [HZ.out]; omega), reg_nil] at hg
      have hm := HM.out
      unfold moreS at hm
      rw [HF.out, ← hg] at hm
      have hfr := flip32 r HR.out
      rw [hm] at hfr
      clear hg hm
      go_wp2
      go_ret
      exact ⟨rfl, rfl⟩
set_option maxRecDepth 8000 in
set_option maxHeartbeats 400000 in
theorem more_zero (s : Nat) (h : s < 4294967296) (a : Option Addr) (cap : Nat) (w : World) :
    Calls Tryd.prog 63 #[.int .u32 s, .slice a 0 cap] w fun e w' => e = .returned (.int .u32 (moreS s [])) ∧ w = w' := by
  have hf := flip32 s h
  obtain ⟨f, hfe⟩ : ∃ f, 4294967295 - s = f := ⟨_, rfl⟩
  rw [hfe] at hf
  have hg := flip32 f (by omega)
  obtain ⟨m, hm⟩ : ∃ m, moreS s [] = m := ⟨_, rfl⟩
  rw [hm]
  unfold moreS at hm
  rw [reg_nil, hfe] at hm
  rw [hm] at hg
  have hs : (s : Int) ≤ 4294967295 := by omega
  clear hm hfe h
  go_enter Tryd.func63, Tryd.ntmps63
  go_wp2
  refine wp_loop_rounds 1 ?_
  rw [rounds_succ]
  go_wp2
  go_ret
  exact ⟨rfl, rfl⟩
theorem more_any {s len : Nat} (h : s < 4294967296) {v : Value} {zs : List Int} {w : World} (ht : Tab w) (hri : RI .u8 w v len zs) (hb : ∀ x ∈ zs, 0 ≤ x ∧ x ≤ 255) {m : Nat} (hm : moreS s zs = m) :
    Calls Tryd.prog 63 #[.int .u32 s, v] w fun e w' => e = .returned (.int .u32 m) ∧ w = w' := by
  subst hm
  obtain ⟨a, cap, rfl, hl, h1, h2, _, hc⟩ := hri
  by_cases h0 : 0 < len
  · obtain ⟨b, off, rfl, hcell⟩ := hc h0
    exact more_some s h b off len cap zs w ht hl hb (by omega) hcell
  · obtain rfl : len = 0 := by omega
    obtain rfl : zs = [] := List.length_eq_zero_iff.1 hl
    exact more_zero s h a cap w
theorem more_0 {len : Nat} {v : Value} {zs : List Int} {w : World} (ht : Tab w) (hri : RI .u8 w v len zs) (hb : ∀ x ∈ zs, 0 ≤ x ∧ x ≤ 255) {m : Nat} (hm : moreS 0 zs = m) :
    Calls Tryd.prog 63 #[.int .u32 0, v] w fun e w' => e = .returned (.int .u32 m) ∧ w = w' := more_any (s := 0) (by omega) ht hri hb hm
theorem of_any {len : Nat} {v : Value} {zs : List Int} {w : World} (ht : Tab w) (hri : RI .u8 w v len zs) (hb : ∀ x ∈ zs, 0 ≤ x ∧ x ≤ 255) {m : Nat} (hm : ofS zs = m) :
    Calls Tryd.prog 64 #[v] w fun e w' => e = .returned (.int .u32 m) ∧ w = w' := by
  have HR := Lib.hid hri
  have HB := Lib.hid hb
  have HT := Lib.hid ht
  have HM := Lib.hid (show moreS 0 zs = m from hm)
  clear hri hb hm ht
  go_enter Tryd.func64, Tryd.ntmps64
  go_wp2_with (first | (go_at_call 63; (with_reducible refine (more_0 HT.out HR.out HB.out HM.out).mono ?_); rintro e w' ⟨rfl, rfl⟩))
  go_ret
  exact ⟨rfl, rfl⟩
theorem or17 (n : Nat) (h : n < 4294967296) : bits .or .u32 ((n : Int) * 131072 % 4294967296) ((n : Int) / 32768) = ((n / 32768 + n % 32768 * 131072 : Nat) : Int) := by
  have h1 := u32_or_nat (2 ^ 17 * (n % 32768)) (n / 32768) (by omega) (by omega)
  rw [← Nat.two_pow_add_eq_or_of_lt (show n / 32768 < 2 ^ 17 by omega)] at h1
  rw [show (n : Int) / 32768 = ((n / 32768 : Nat) : Int) from by omega, show (n : Int) * 131072 % 4294967296 = ((2 ^ 17 * (n % 32768) : Nat) : Int) from by omega, h1]
  omega
set_option maxRecDepth 8000 in
theorem rot_right (n : Nat) (h : n < 4294967296) (w : World) : Calls Tryd.prog 70 #[.int .u32 n, .int .i64 (-15)] w fun e w' => e = .returned (.int .u32 ((n / 32768 + n % 32768 * 131072 : Nat) : Int)) ∧ w = w' := by
  have hn : (n : Int) ≤ 4294967295 := by omega
  have hw : bits .and .u64 (IntKind.u64.wrap (-15)) 31 = 17 := by decide
  have HO := Lib.hid (or17 n h)
  go_enter Tryd.func70, Tryd.ntmps70
  go_wp2
  go_ret
  refine ⟨ret_int ?_, rfl⟩
  rw [← HO.out]
set_option maxRecDepth 8000 in
theorem mask_any (n m : Nat) (h : n < 4294967296) (hm : maskS n = m) (w : World) : Calls Tryd.prog 65 #[.int .u32 n] w fun e w' => e = .returned (.int .u32 m) ∧ w = w' := by
  have HN := Lib.hid h
  clear h
  go_enter Tryd.func65, Tryd.ntmps65
  go_wp2_with (first | (go_at_call 70; (with_reducible refine (rot_right n HN.out _).mono ?_); rintro e w' ⟨rfl, rfl⟩))
  go_ret
  refine ⟨ret_int ?_, rfl⟩
  rw [← hm]
  unfold maskS
  omega
theorem RI.const (w : World) (e : TypeId) (k : IntKind) (zs : List Int) (fr : Nat × Nat) (n : Nat) (hn : zs.length = n) (h63 : n ≤ 9223372036854775807) :
    RI k (w.alloc (.cells (il k zs).toArray e fr)) (.slice (some ⟨w.heap.size, 0, none⟩) n n) n zs := by
  refine ⟨_, n, rfl, hn, Nat.le_refl _, h63, fun h => by simp at h, fun _ => ⟨w.heap.size, 0, rfl, fun j hj => ?_⟩⟩
  have hg : (w.alloc (.cells (il k zs).toArray e fr)).heap[w.heap.size]? = some (.cells (il k zs).toArray e fr) := by
    show (w.heap.push _)[w.heap.size]? = _
    simp
  rw [Nat.zero_add, cell_of_row _ w.heap.size j _ e fr hg]
  simpa using il_get k zs j (by omega)
end Go.Proofs.YtnmplnemnfonfaaDoor
namespace Go.Proofs.YtnmplnemnfonfaaDoor
open Go.RowKit
def av (zs : List Int) : Array Value := (il .u8 zs).toArray
theorem av_size (zs : List Int) : (av zs).size = zs.length := by simp [av, il_length]
theorem av_one (zs : List Int) : (av zs).all (·.oneCell') = true := all_oneCell_toArray (il_one _ _)
theorem av_get (zs : List Int) (j : Nat) (h : j < zs.length) : (av zs)[j]? = some (.int .u8 (zs.getD j 0)) := by
  have := il_get .u8 zs j h
  simpa [av] using this
def z11 : List Int := List.replicate 11 0
theorem z11_length : z11.length = 11 := by simp [z11]
theorem fh_info (c : Array Value) (h : c.size = 11) : (Tryd.prog.info? 97).map (·.size) = some c.size := by rw [h]; kernel_rfl
theorem av_info (zs : List Int) (h : zs.length = 11) : (Tryd.prog.info? 97).map (·.size) = some (av zs).size := fh_info _ (by rw [av_size, h])
def HD (w : World) (b : Nat) (zs : List Int) : Prop := w.heap[b]? = some (.cells (av zs) 97 (0, 0)) ∧ zs.length = 11
theorem HD.lt {w : World} {b : Nat} {c : List Int} (h : HD w b c) : b < w.heap.size := (Array.getElem?_eq_some_iff.1 h.1).1
theorem HD.keep {w w' : World} {b : Nat} {c : List Int} (h : HD w b c) (hb : Below w.heap.size w w') : HD w' b c := ⟨by rw [hb.block b h.lt]; exact h.1, h.2⟩
theorem HD.cell {w : World} {b : Nat} {c : List Int} (h : HD w b c) (j : Nat) (hj : j < 11) : w.cell? ⟨b, j, none⟩ = some (.int .u8 (c.getD j 0)) := by
  rw [Joins.cell_of_block h.1 j, av_get _ _ (by rw [h.2]; exact hj)]
theorem HD.row {w : World} {b : Nat} {c c' : List Int} (h : HD w b c) (hc : c'.length = 11) : HD (w.setRow b (av c')) b c' := ⟨setRow_heap w b (av c) (av c') _ _ h.1, hc⟩
theorem HD.new (w : World) (zs : List Int) (h : zs.length = 11) : HD (w.alloc (.cells (av zs) 97)) w.heap.size zs := ⟨heap_alloc_last w _, h⟩
theorem HD.ri {w : World} {g : Nat} {l : List Int} (h : HD w g l) (m d : Nat) (hm : m + d ≤ 11) : RI .u8 w (.slice (some ⟨g, m, none⟩) d d) d ((l.drop m).take d) := by
  refine ⟨_, d, rfl, by simp [h.2]; omega, Nat.le_refl _, by omega, fun h => by simp at h, fun _ => ⟨g, m, rfl, fun j hj => ?_⟩⟩
  rw [h.cell (m + j) (by omega)]
  simp only [List.getD, List.getElem?_take, hj, if_true, List.getElem?_drop]
theorem run_items11 {w : World} (a b : List Int) (ha : a.length = 11) (hb : b.length = 11) : ∀ is : List Nat, (∀ i ∈ is, i < 11) →
    (Op.eqItems 9999 5 1 (av a) (av b) is).run Tryd.prog w = .ok (is.all fun i => a.getD i 0 == b.getD i 0) w
  | [], _ => by simp [Op.eqItems]
  | i :: is, h => by
    have hi : i < 11 := h i (by simp)
    have p1 := run_part_plain (P := Tryd.prog) (w := w) (e := 5) (by kernel_rfl) (xs := av a) (off := i * 1) (v := .int .u8 (a.getD i 0)) (by rw [Nat.mul_one]; exact av_get a i (by omega))
    have p2 := run_part_plain (P := Tryd.prog) (w := w) (e := 5) (by kernel_rfl) (xs := av b) (off := i * 1) (v := .int .u8 (b.getD i 0)) (by rw [Nat.mul_one]; exact av_get b i (by omega))
    have p3 := run_equalIn_int (P := Tryd.prog) w 9998 5 .u8 .u8 (a.getD i 0) (b.getD i 0) Tryd.underlying5
    have p4 := run_items11 (w := w) a b ha hb is (fun j hj => h j (List.mem_cons_of_mem _ hj))
    simp only [Op.eqItems, Sem.run_bind, p1, p2, Result.andThen_ok, List.all_cons]
    rw [p3]
    simp only [Result.andThen_ok]
    cases hc : (a.getD i 0 == b.getD i 0)
    · simp
    · simpa using p4
theorem run_eq_head (a b : List Int) (ha : a.length = 11) (hb : b.length = 11) (w : World) : (Op.equalIn 10000 97 (.agg (av a)) (.agg (av b))).run Tryd.prog w = .ok (decide (a = b)) w := by
  obtain ⟨i, hi⟩ : ∃ i, Tryd.prog.info? 5 = some i := info_of_underlying Tryd.underlying5
  have hc : Tryd.prog.cellsOf 5 = 1 := by kernel_rfl
  have h1 := run_equalIn_array w (P := Tryd.prog) 9999 (av a) (av b) Tryd.underlying97 hi
  rw [hc, run_items11 a b ha hb _ (fun i hi => List.mem_range.1 hi)] at h1
  rw [h1]
  refine congrArg (fun x => Result.ok x w) ?_
  rw [Bool.eq_iff_iff, List.all_eq_true, decide_eq_true_eq]
  constructor
  · intro h
    refine List.ext_getElem (by omega) fun j h1 h2 => ?_
    have := h j (List.mem_range.2 (by omega))
    simpa [List.getD, h1, h2] using this
  · rintro rfl j _
    simp
set_option maxRecDepth 8000 in
set_option maxHeartbeats 1000000 in
theorem hcut_any (b f n t : Nat) (ht : f + n = t) (h1 : t ≤ 11) (h0 : 0 < n) (w : World) :
    Calls Tryd.prog 62 #[.pointer (some ⟨b, 0, none⟩), .int .i64 f, .int .i64 t] w fun e w' => e = .returned (.slice (some ⟨b, f, none⟩) n n) ∧ w = w' := by
  have hf : (f : Int) ≤ (t : Int) := by omega
  have ht1 : (t : Int) ≤ 11 := by omega
  have hne : ¬ t = f := by omega
  have hs : t - f = n := by omega
  clear ht h1 h0
  go_enter Tryd.func62, Tryd.ntmps62
  go_wp2
  go_ret
  exact ⟨by rfl, rfl⟩
theorem more_of (a b : List Int) (ha : isB a) : moreS (ofS a) b = ofS (a ++ b) := by
  have h := reg_lt a ha 4294967295 (by omega)
  unfold ofS moreS
  rw [reg_append, show 4294967295 - (4294967295 - reg (4294967295 - 0) a) = reg (4294967295 - 0) a from by simp only [Nat.sub_zero]; omega]
theorem fsmh_any (b : Nat) {w : World} {zs : List Int} (hT : Tab w) (hh : HD w b zs) (hb : isB zs) {v : Value} {n : Nat} {d : List Int} (hr : RI .u8 w v n d) (hd : isB d) {m : Nat} (hm : maskS (ofS (zs.drop 4 ++ d)) = m) :
    Calls Tryd.prog 49 #[.pointer (some ⟨b, 0, none⟩), v] w fun e w' => e = .returned (.int .u64 m) ∧ w = w' := by
  have hh4 := hh.ri 4 7 (by omega)
  rw [List.take_of_length_le (by simp [hh.2])] at hh4
  obtain ⟨o, ho⟩ : ∃ o, ofS (zs.drop 4) = o := ⟨_, rfl⟩
  obtain ⟨q, hq⟩ : ∃ q, moreS o d = q := ⟨_, rfl⟩
  have hq2 : ofS (zs.drop 4 ++ d) = q := by rw [← more_of _ _ (hb.drop 4), ho, hq]
  rw [hq2] at hm
  have HC : Hid (∀ w, Calls Tryd.prog 62 #[.pointer (some ⟨b, 0, none⟩), .int .i64 4, .int .i64 11] w fun e w' => e = .returned (.slice (some ⟨b, 4, none⟩) 7 7) ∧ w = w') := Lib.hid (hcut_any b 4 7 11 rfl (by omega) (by omega))
  have HO : Hid (Calls Tryd.prog 64 #[.slice (some ⟨b, 4, none⟩) 7 7] w fun e w' => e = .returned (.int .u32 o) ∧ w = w') := Lib.hid (of_any hT hh4 (hb.drop 4) ho)
  have HM : Hid (Calls Tryd.prog 63 #[.int .u32 o, v] w fun e w' => e = .returned (.int .u32 q) ∧ w = w') := Lib.hid (more_any (by rw [← ho]; exact ofS_lt _) hT hr hd hq)
  have HK : Hid (∀ w, Calls Tryd.prog 65 #[.int .u32 q] w fun e w' => e = .returned (.int .u32 m) ∧ w = w') := Lib.hid fun w => mask_any q m (by rw [← hq]; exact moreS_lt _ _) hm w
  have hm9 : (m : Int) ≤ 4294967295 := by have := maskS_lt q; omega
  clear hT hh hb hr hd hm hh4 ho hq hq2
  go_enter Tryd.func49, Tryd.ntmps49
  go_wp2_with (first
    | (go_at_call 62; (with_reducible refine (HC.out _).mono ?_); rintro e w' ⟨rfl, rfl⟩)
    | (go_at_call 64; (with_reducible refine (HO.out).mono ?_); rintro e w' ⟨rfl, rfl⟩)
    | (go_at_call 63; (with_reducible refine (HM.out).mono ?_); rintro e w' ⟨rfl, rfl⟩)
    | (go_at_call 65; (with_reducible refine (HK.out _).mono ?_); rintro e w' ⟨rfl, rfl⟩))
  go_ret
  exact ⟨rfl, rfl⟩
def HAt (w : World) (b off : Nat) (zs : List Int) : Prop := zs.length = 11 ∧ ∀ k, k < 11 → w.cell? ⟨b, off + k, none⟩ = some (.int .u8 (zs.getD k 0))
theorem run_load_hat {w : World} {b off : Nat} {zs : List Int} (h : HAt w b off zs) : (loadVar 97 ⟨b, off, none⟩).run Tryd.prog w = .ok (.agg (av zs)) w := by
  have hl : (loadCells ⟨b, off, none⟩ (il .u8 zs).length).run Tryd.prog w = .ok (il .u8 zs).toArray w :=
    run_loadCells_list (P := Tryd.prog) w ⟨b, off, none⟩ (il .u8 zs) (fun j v hv => by
      have hadd : (⟨b, off, none⟩ : Addr).add j = ⟨b, off + j, none⟩ := by unfold Addr.add; split <;> simp_all
      have hj : j < zs.length := by have := (List.getElem?_eq_some_iff.1 hv).1; rwa [il_length] at this
      rw [il_get _ _ _ hj] at hv
      rw [hadd, h.2 j (by rw [← h.1]; exact hj)]
      exact hv)
  have hi := av_info zs h.1
  cases hq : Tryd.prog.info? 97 with
  | none => simp [hq] at hi
  | some i =>
    have hs : i.size = 11 := by simpa [hq, av_size, h.1] using hi
    have hagg : (isAgg 97).run Tryd.prog w = .ok true w := by
      unfold isAgg
      rw [Sem.run_bind, run_underlying Tryd.underlying97 w]
      rfl
    rw [il_length, h.1] at hl
    simp [loadVar, Sem.run_bind, hagg, sizeOf, typeInfo, hq, hs, hl, av]
theorem exec_load_hat {a : Act} {o : Oper} {w : World} {b off : Nat} {zs : List Int} (x : Operand) (ho : o.op = .load 97 x) (hx : a.eval x = .pointer (some ⟨b, off, none⟩)) (h : HAt w b off zs) :
    (execOp a.eval o).run Tryd.prog w = .ok (.value (.agg (av zs))) w := by
  unfold execOp
  simp only [ho, hx, Instr.loadAt, Instr.sureAddr, Sem.run_bind, Sem.run_pure, Result.andThen_ok, run_load_hat h]
theorem exec_arrptr {a : Act} {o : Oper} {w : World} (x : Operand) (ho : o.op = .sliceToArrayPointer 97 x) (p : Option Addr) (n c : Nat) (hx : a.eval x = .slice p n c) (h : 11 ≤ n) :
    (execOp a.eval o).run Tryd.prog w = .ok (.value (.pointer p)) w := by
  have hn : ¬ n < 11 := by omega
  unfold execOp
  simp only [ho, hx, Instr.arrayAt, Sem.run_bind, run_underlying Tryd.underlying97, Result.andThen_ok]
  simp [hn, Result.andThen]
end Go.Proofs.YtnmplnemnfonfaaDoor
namespace Go.Proofs.YtnmplnemnfonfaaDoor
open Go.RowKit
theorem fkind_any (k : Int) (w : World) : Calls Tryd.prog 48 #[.int .i64 k] w fun e w' => e = .returned (.bool (decide (1 ≤ k ∧ k ≤ 4))) ∧ w = w' := by
  rcases (by omega : (1 ≤ k ∧ k ≤ 4) ∨ k < 1 ∨ (1 ≤ k ∧ 4 < k)) with ⟨h1, h2⟩ | h1 | ⟨h1, h2⟩
  · rw [show decide (1 ≤ k ∧ k ≤ 4) = true from decide_eq_true ⟨h1, h2⟩]
    go_enter Tryd.func48, Tryd.ntmps48
    go_wp2
    go_ret
    exact ⟨rfl, rfl⟩
  · rw [show decide (1 ≤ k ∧ k ≤ 4) = false from decide_eq_false (by omega)]
    go_enter Tryd.func48, Tryd.ntmps48
    go_wp2
    go_ret
    exact ⟨rfl, rfl⟩
  · rw [show decide (1 ≤ k ∧ k ≤ 4) = false from decide_eq_false (by omega)]
    go_enter Tryd.func48, Tryd.ntmps48
    go_wp2
    go_ret
    first
      | exact ⟨rfl, rfl⟩
      | exact ⟨ret_bool (decide_eq_false (by omega)), rfl⟩
end Go.Proofs.YtnmplnemnfonfaaDoor
namespace Go.Proofs.YtnmplnemnfonfaaDoor
open Go.RowKit
set_option maxHeartbeats 400000 in
theorem get_some (b off len cap : Nat) (zs : List Int) (w : World) (hz : Bytes zs) (hlen : 0 < len) (hmax : len ≤ 9223372036854775807)
    (hc : ∀ j, j < len → w.cell? ⟨b, off + j, none⟩ = some (.int .u8 (zs.getD j 0))) :
    Calls Tryd.prog 60 #[.slice (some ⟨b, off, none⟩) len cap] w fun e w' => e = .returned (.int .u64 (getI zs (min len 8))) ∧ w = w' := by
  obtain ⟨m, hm, hm1, hm2, hm3⟩ : ∃ m : Nat, min len 8 = m ∧ m ≤ len ∧ m ≤ 8 ∧ (m = len ∨ m = 8) := ⟨_, rfl, by omega, by omega, by omega⟩
  rw [hm]
  have HM := Lib.hid hm; clear hm
  go_enter Tryd.func60, Tryd.ntmps60
  rcases (by have := HM.out; omega : (len : Int) ≤ 8 ∧ len ≤ m ∨ 8 < (len : Int) ∧ 8 ≤ m) with ⟨h8, hl⟩ | ⟨h8, hl⟩
  all_goals
    go_wp2
    go_loop [3, 8] (fun n i => ∃ k : Nat, k ≤ m ∧ i = .int .i64 k ∧ n = .int .u64 (getI zs k)) (fun _ i => m - (intOf i).toNat)
    case atStart => exact ⟨0, by omega, rfl, rfl⟩
    case round =>
      obtain ⟨k, hk, rfl, rfl⟩ := hrel
      have hb : 0 ≤ zs[k]?.getD 0 ∧ zs[k]?.getD 0 ≤ 255 := hz k
      by_cases hlt : k < m
      · have hcell : w.cell? ⟨b, off + k, none⟩ = some (.int .u8 (zs.getD k 0)) := hc k (by omega)
        have HG := Lib.hid (getI_or zs hz k (by omega))
        go_wp2
        go_round
        case rel => exact ⟨k + 1, by omega, by go_num, by rw [← HG.out]; rfl⟩
        case measure => simp [intOf]; omega
      · go_wp2
        go_ret
        exact ⟨ret_int (by congr 1; omega), rfl⟩
end Go.Proofs.YtnmplnemnfonfaaDoor
namespace Go.Proofs.YtnmplnemnfonfaaDoor
open Go.RowKit
theorem hget_any (b f n t : Nat) (ht : f + n = t) (h1 : t ≤ 11) (h0 : 0 < n) (h8 : n ≤ 8) {w : World} {zs : List Int} (hh : HD w b zs) (hb : isB zs) {x : Int} (hx : num zs f n = x) :
    Calls Tryd.prog 47 #[.pointer (some ⟨b, 0, none⟩), .int .i64 f, .int .i64 t] w fun e w' => e = .returned (.int .u64 x) ∧ w = w' := by
  have HC := Lib.hid (hcut_any b f n t ht h1 h0)
  have HG : Hid (Calls Tryd.prog 60 #[.slice (some ⟨b, f, none⟩) n n] w fun e w' => e = .returned (.int .u64 x) ∧ w = w') := Lib.hid (by
    have hr := hh.ri f n (by omega)
    obtain ⟨b2, of2, e1, hcell⟩ := hr.at_ h0
    obtain ⟨rfl, rfl⟩ : b = b2 ∧ f = of2 := by simpa using e1
    have := get_some b f n n ((zs.drop f).take n) w (bytes_of_mem ((hb.drop f).take n)) h0 (by omega) hcell
    rw [Nat.min_eq_left h8, getI_take _ _ _ (Nat.le_refl _), show getI (zs.drop f) n = x from hx] at this
    exact this)
  clear ht h1 h0 h8 hh hb hx
  go_enter Tryd.func47, Tryd.ntmps47
  go_wp2_with (first
    | (go_at_call 62; (with_reducible refine (HC.out _).mono ?_); rintro e w' ⟨rfl, rfl⟩)
    | (go_at_call 60; (with_reducible refine (HG.out).mono ?_); rintro e w' ⟨rfl, rfl⟩))
  go_ret
  exact ⟨rfl, rfl⟩
end Go.Proofs.YtnmplnemnfonfaaDoor
