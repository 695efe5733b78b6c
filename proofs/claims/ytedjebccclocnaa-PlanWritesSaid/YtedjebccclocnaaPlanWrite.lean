/-
  LAYER 16 (plan), Write and Whole: what the program's answer. No condition.
-/
import Derived.Test.YtedjebccclocnaaPlanRow
import Derived.Test.YtedjebccclocnaaPlanPart
import Derived.Test.YtedjebccclocnaaStampOpen
namespace Go.Proofs.Ytedjebccclocnaa
open Go.RowKit
theorem wpl_make_row {w : World} {ops : Array Oper} {rest : List Oper} {o : Oper} {a : Act} {Q : Exit → Act → World → Prop} (hgd : o.guard = none) (x y : Operand) (ho : o.op = Op.makeSlice 23 x y) (n : Nat) (hx : a.eval x = .int .i64 (n : Int)) (hy : a.eval y = .int .i64 (n : Int)) (hn : n ≤ 1000000)
    (h : ∀ g w', Hid (RW w' g (List.replicate (n * 64) 0)) → Hid (w.heap.size ≤ g) → Hid (Below w.heap.size w w') → wpList Try.prog ops Q rest (a.put o.dst (.slice (some ⟨g, 0, none⟩) n n)) w') : wpList Try.prog ops Q (o :: rest) a w := by
  refine wpList_plain hgd fun K hK => ?_
  have hrun := make_row_run n (by omega) w
  unfold Oper.wp
  simp [execOp, ho, hx, hy, hrun, Result.andThen]
  exact hK _ _ (h _ _ (heap_alloc_last w _) (Nat.le_refl _) (below_alloc w _))
set_option maxRecDepth 8000 in
set_option maxHeartbeats 1000000 in
theorem write_any (x : Int) (hx : U64 x) (v : Value) (len : Nat) (zs : List Int) (hlen : len ≤ 1000000) (f t : Int) (hf : I63 f) (ht : I63 t) (w : World) (h : RI .u8 w v len zs) (a d : Nat) (ha : (touchN (nr f) (nr t)).1 = a) (hd : (touchN (nr f) (nr t)).2 - a = d) :
    Calls Try.prog 11 #[.int .u64 x, v, .int .i64 f, .int .i64 t] w fun e w' => ∃ g, e = .returned (.tuple #[.int .i64 (a : Int), .slice (some ⟨g, 0, none⟩) d d]) ∧
      FS w' (.slice (some ⟨g, 0, none⟩) d d) d (writeB x zs a d) ∧ Below w.heap.size w w' := by
  have HT : Hid (∀ w : World, Calls Try.prog 20 #[.int .i64 f, .int .i64 t] w fun e w' => e = .returned (.tuple #[.int .i64 ((touchN (nr f) (nr t)).1 : Int), .int .i64 ((touchN (nr f) (nr t)).2 : Int)]) ∧ Below w.heap.size w w') := fun w => touch_any f t hf ht w
  obtain ⟨hab, hb16, h0⟩ := touch_le (nr f) (nr t) (nr_le t)
  clear h0
  rw [ha] at HT hab
  generalize (touchN (nr f) (nr t)).2 = b at *
  clear ha
  have hdb : (b : Int) - (a : Int) = (d : Int) := by omega
  have hd16 : d ≤ 16 := by omega
  have ha16 : a + d ≤ 16 := by omega
  have HR := Lib.hid h
  have HX := Lib.hid hx
  clear h hx hf ht hd hab hb16
  go_enter Try.func11, Try.ntmps11
  go_wp2_with (first
    | (go_at_call 20; (with_reducible refine (HT.out _).mono ?_); rintro e w1 ⟨rfl, hb⟩; have HB1 := Lib.hid hb; clear hb)
    | (refine wpl_make_row rfl _ _ rfl d rfl rfl (by omega) ?_; intro g w2 HW0 HG hb; have HG := Lib.hid (Nat.le_trans HB1.out.size HG.out); have HB0 := Lib.hid (bch HB1.out hb.out); clear hb))
  have HWZ : Hid (RW w2 g (rowAt x zs a d 0)) := Lib.hid (by rw [rowAt_zero]; exact HW0.out)
  clear HW0
  go_wp2
  go_loopw [27] (fun iv wr => ∃ k : Nat, iv = .int .i64 k ∧ k ≤ d ∧ Hid (RW wr g (rowAt x zs a d k)) ∧ Hid (Below w.heap.size w wr)) (fun iv _ => d - (intOf iv).toNat)
  case atStart => exact ⟨0, rfl, by omega, HWZ, HB0⟩
  case round =>
    obtain ⟨k, rfl, hk, HW, HB⟩ := hrel
    by_cases hlt : (k : Int) < (d : Int)
    · obtain ⟨q, hq⟩ : ∃ q : Nat, a + k = q := ⟨_, rfl⟩
      have hqi : (a : Int) + (k : Int) = (q : Int) := by omega
      have hq16 : q ≤ 16 := by omega
      obtain ⟨l, hl⟩ : ∃ l, sealed x (q : Int) (partB zs q) = l := ⟨_, rfl⟩
      have HLL := Lib.hid (show l.length = 64 from by rw [← hl]; exact sealed_length _ _ _)
      have HRL := Lib.hid (rowAt_length x zs a d k hk)
      have HNX := Lib.hid (rowAt_next x zs a d k (by omega))
      rw [hq, hl] at HNX
      have HS : Hid (∀ (v : Value) (n : Nat) (w : World), RI .u8 w v n (partB zs q) → Calls Try.prog 22 #[.int .u64 x, .int .i64 (q : Int), v] w fun e w' => e = .returned (.agg (sv l)) ∧ Below w.heap.size w w') := fun v n w h => by
        rw [← hl]; exact seal_any x q HX.out (by unfold I63; omega) v n _ w h
      have HR1 := Lib.hid (HR.out.keep HB.out)
      clear hl hq
      go_wp2_with (first
        | (go_at_call 18; (with_reducible refine (part_ri v len q zs hlen (by omega) _ HR1.out).mono ?_); rintro e w3 ⟨v3, rfl, hr, rfl⟩; have HR3 := Lib.hid hr; clear hr)
        | (go_at_call 22; (with_reducible refine (HS.out _ _ _ HR3.out).mono ?_); rintro e w4 ⟨rfl, hb⟩; have HW4 := Lib.hid (HW.out.keep hb); have HB4 := Lib.hid (bch HB.out hb); clear hb)
        | (refine wpl_put_row rfl _ _ rfl g d k _ l HW4.out HRL.out (by omega) HLL.out (k * 64) rfl rfl rfl ?_; intro w5 HW5 hg5; have HW5 := Lib.hid (HNX.out ▸ HW5.out); have HB5 := Lib.hid (below_grown HB4.out hg5.out HG.out HB4.out.size); clear hg5))
      go_roundw
      case rel => exact ⟨k + 1, by simp, by omega, HW5, HB5⟩
      case measure => simp [intOf]; omega
    · obtain rfl : k = d := by omega
      go_wp2
      go_ret2
      have h1 := HW.out
      rw [rowAt_end] at h1
      exact ⟨g, rfl, h1.fs (writeB_length x zs a k) (by omega), HB.out⟩
set_option maxRecDepth 8000 in
set_option maxHeartbeats 1000000 in
theorem whole_any (x : Int) (hx : U64 x) (v : Value) (len : Nat) (zs : List Int) (hlen : len ≤ 1000000) (t : Int) (ht : I63 t) (w : World) (h : RI .u8 w v len zs) :
    Calls Try.prog 14 #[.int .u64 x, v, .int .i64 t] w fun e w' => ∃ v', e = .returned v' ∧ FS w' v' 16 (wholeK x zs (touchN 0 (nr t)).2 16) ∧ Below w.heap.size w w' := by
  obtain ⟨hab, hb16, h0⟩ := touch_le 0 (nr t) (nr_le t)
  have hz := touch_zero (nr t)
  have h00 : nr 0 = 0 := by decide
  have HWR : Hid (∀ (w : World), RI .u8 w v len zs → Calls Try.prog 11 #[.int .u64 x, v, .int .i64 0, .int .i64 t] w fun e w' => ∃ g, e = .returned (.tuple #[.int .i64 0, .slice (some ⟨g, 0, none⟩) (touchN 0 (nr t)).2 (touchN 0 (nr t)).2]) ∧
      FS w' (.slice (some ⟨g, 0, none⟩) (touchN 0 (nr t)).2 (touchN 0 (nr t)).2) (touchN 0 (nr t)).2 (writeB x zs 0 (touchN 0 (nr t)).2) ∧ Below w.heap.size w w') := fun w h =>
    write_any x hx v len zs hlen 0 t (by unfold I63; omega) ht w h 0 (touchN 0 (nr t)).2 (by rw [h00]; exact hz) (by rw [h00]; rfl)
  generalize (touchN 0 (nr t)).2 = b at *
  have HSP := Lib.hid (whole_splice x zs b hb16)
  have HR := Lib.hid h
  clear h hx ht hab h0 hz h00
  go_enter Try.func14, Try.ntmps14
  go_wp2_with (first
    | (refine wpl_make_row rfl _ _ rfl 16 rfl rfl (by omega) ?_; intro g w1 HW1 HG hb; have HR1 := Lib.hid (HR.out.keep hb.out); have HB1 := Lib.hid hb.out; clear hb)
    | (go_at_call 11; (with_reducible refine (HWR.out _ HR1.out).mono ?_); rintro e w2 ⟨g2, rfl, hf, hb⟩; have HF2 := Lib.hid hf; have HW2 := Lib.hid (HW1.out.keep hb); have HB2 := Lib.hid (bch HB1.out hb); clear hf hb)
    | (refine wpl_copy_row rfl _ _ rfl g 16 16 _ HW2.out (by rw [List.length_replicate]) rfl _ b _ rfl HF2.out hb16 ?_; intro w3 HW3 hg3; have HW3 := Lib.hid (HSP.out ▸ HW3.out); have HB3 := Lib.hid (below_grown HB2.out hg3.out HG.out HB2.out.size); clear hg3))
  go_ret
  exact ⟨_, rfl, HW3.out.fs (wholeK_length x zs b 16) (by omega), HB3.out⟩
end Go.Proofs.Ytedjebccclocnaa
