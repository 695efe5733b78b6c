/-
  THE WALK OF THE LAW CrcJoins: whatever number, number of bytes and two texts come in (within the form's own reach): the call returns true and changes nothing that was there.
-/
import Derived.Test.YtneggofhahjkmaaDoorCrcShift
namespace Go.Proofs.YtneggofhahjkmaaDoor
open Go.RowKit
theorem Tryd.info_u8 : (Tryd.prog.info? 5).map (fun i => (i.zero, i.size, i.bytes)) = some (some (.int .u8 0), 1, 1) := by kernel_rfl
theorem rshift_max (x m : Nat) (n : Int) (h : x < 4294967296) (hn : n ≤ 2000) (hm : stn (8 * n.toNat) x = m) (w : World) :
    Calls Tryd.prog 15 #[.int .u32 x, .int .i64 (max 0 n)] w fun e w' => e = .returned (.int .u32 m) ∧ w = w' := by
  have := rshift_any x n.toNat h (by omega) w
  rw [show ((n.toNat : Nat) : Int) = max 0 n from by omega, hm] at this
  exact this
theorem shift_at (x m : Nat) (n : Int) (h : x < 4294967296) (hi : I63 n) (hn : n ≤ 2000) (hm : stn (8 * n.toNat) x = m) {w : World} (ht : Tab w) (hB : Bits w) :
    Calls Tryd.prog 14 #[.int .u32 x, .int .i64 n] w fun e w' => e = .returned (.int .u32 m) ∧ Below w.heap.size w w' :=
  (shift_any x n h hi ht hB).mono fun _ _ ⟨he, hb⟩ => ⟨by rw [he, ← hm, show shiftN n = n.toNat from by unfold shiftN; omega], hb⟩
theorem join_at (x y len m : Nat) (h : x < 4294967296) (k : y < 4294967296) (hl : (len : Int) ≤ 2000) (hm : stn (8 * len) x ^^^ y = m) {w : World} (ht : Tab w) (hB : Bits w) :
    Calls Tryd.prog 16 #[.int .u32 x, .int .u32 y, .int .i64 len] w fun e w' => e = .returned (.int .u32 m) ∧ Below w.heap.size w w' :=
  (join_any x y len h k (by unfold I63; omega) ht hB).mono fun _ _ ⟨he, hb⟩ => ⟨by rw [he, ← hm, show shiftN (len : Int) = len from by unfold shiftN; omega], hb⟩
set_option maxRecDepth 8000 in
set_option maxHeartbeats 2000000 in
theorem joins_walk (x : Nat) (n : Int) (a : Option Addr) (al ac : Nat) (xs : List Int) (b : Option Addr) (bl bc : Nat) (bs : List Int) (W : World) (ht : Tab W) (hbt : Bits W) (h : x < 4294967296) (hi : I63 n)
    (hra : RI .u8 W (.slice a al ac) al xs) (hrb : RI .u8 W (.slice b bl bc) bl bs) (ha : ∀ x ∈ xs, 0 ≤ x ∧ x ≤ 255) (hb : ∀ x ∈ bs, 0 ≤ x ∧ x ≤ 255) :
    Calls Tryd.prog 4 #[.int .u32 x, .int .i64 n, .agg #[.slice a al ac, .slice b bl bc]] W fun e w' => e = .returned (.bool true) ∧ Below W.heap.size W w' := by
  have hx : (x : Int) ≤ 4294967295 := by omega
  have hi2 := hi
  unfold I63 at hi2
  have hal : (al : Int) ≤ 9223372036854775807 := by have := hra.le; omega
  have hbl : (bl : Int) ≤ 9223372036854775807 := by have := hrb.le; omega
  have HX := Lib.hid h
  have HI := Lib.hid hi
  have HT := Lib.hid ht
  have HBT := Lib.hid hbt
  have HRA := Lib.hid hra
  have HRB := Lib.hid hrb
  have HA := Lib.hid ha
  have HB := Lib.hid hb
  have HAB := Lib.hid (show ∀ x ∈ [] ++ xs ++ bs, 0 ≤ x ∧ x ≤ 255 from fun x hx => (List.mem_append.1 hx).elim (ha x) (hb x))
  have HBX := Lib.hid ((Below.refl W.heap.size W).alloc (Nat.le_refl _) (.cells #[.slice a al ac, .slice b bl bc] 29))
  have hc1 : (W.alloc (.cells #[.slice a al ac, .slice b bl bc] 29)).cell? ⟨W.heap.size, 0, none⟩ = some (.slice a al ac) := by simp
  have hc2 : (W.alloc (.cells #[.slice a al ac, .slice b bl bc] 29)).cell? ⟨W.heap.size, 1, none⟩ = some (.slice b bl bc) := by simp
  clear h hi ht hbt hra hrb ha hb
  rcases (by omega : (2000 < (al : Int) ∨ 2000 < (bl : Int) ∨ 2000 < n) ∨ ((al : Int) ≤ 2000 ∧ (bl : Int) ≤ 2000 ∧ n ≤ 2000)) with h2 | ⟨h2, h3, h4⟩
  · have hd : (decide (2000 < (al : Int)) || decide (2000 < (bl : Int)) || decide (2000 < n)) = true := by
      rcases h2 with h | h | h <;> simp [h]
    clear h2
    go_enter Tryd.func4, Tryd.ntmps4
    go_wp2_with fail
    go_quiet (fail)
    have HB1 := Lib.hid (show Below W.heap.size W ((W.alloc (.cells #[.slice a al ac, .slice b bl bc] 29)).drewN nq) from HBX.out.trans ⟨rfl, rfl, rfl, Nat.le_refl _, fun _ _ => rfl⟩)
    go_wp2_with (first
      | (go_at_call 6; (with_reducible refine (awake_any (HT.out.keep HB1.out)).mono ?_); rintro e w2 ⟨rfl, hb⟩; have HB5 := Lib.hid hb; clear hb))
    all_goals
      go_ret
      exact ⟨rfl, HB1.out.trans (HB5.out.mono HB1.out.size)⟩
  · have hd : (decide (2000 < (al : Int)) || decide (2000 < (bl : Int)) || decide (2000 < n)) = false := by
      rw [Bool.or_eq_false_iff, Bool.or_eq_false_iff]; exact ⟨⟨by simp; omega, by simp; omega⟩, by simp; omega⟩
    obtain ⟨oa, hoa⟩ : ∃ o, ofS xs = o := ⟨_, rfl⟩
    obtain ⟨ob, hob⟩ : ∃ o, ofS bs = o := ⟨_, rfl⟩
    obtain ⟨oc, hoc⟩ : ∃ o, ofS (xs ++ bs) = o := ⟨_, rfl⟩
    obtain ⟨m, hm⟩ : ∃ m, stn (8 * n.toNat) x = m := ⟨_, rfl⟩
    have HOA := Lib.hid hoa
    have HOB := Lib.hid hob
    have HOC := Lib.hid (show ofS ([] ++ xs ++ bs) = oc from hoc)
    have HM := Lib.hid hm
    have HLA := Lib.hid (show oa < 4294967296 from by rw [← hoa]; exact ofS_lt xs)
    have HLB := Lib.hid (show ob < 4294967296 from by rw [← hob]; exact ofS_lt bs)
    have HJ := Lib.hid (show stn (8 * bl) oa ^^^ ob = oc from by
      rw [← hoa, ← hob, ← hoc, ofS_join xs bs HA.out HB.out, HRB.out.length])
    have H4 := Lib.hid h4
    have H3 := Lib.hid h3
    clear hoa hob hoc hm
    go_enter Tryd.func4, Tryd.ntmps4
    go_wp2_with fail
    go_quiet (fail)
    have HB1 := Lib.hid (show Below W.heap.size W ((W.alloc (.cells #[.slice a al ac, .slice b bl bc] 29)).drewN nq) from HBX.out.trans ⟨rfl, rfl, rfl, Nat.le_refl _, fun _ _ => rfl⟩)
    go_wp2_with (first
      | (at_builtin; refine wpl_appn rfl (.tmp 27) (.tmp 28) 23 rfl 5 .u8 1 Tryd.underlying23 Tryd.info_u8 W.heap.size _ 0 [] rfl (own_empty (by simp) (by omega)) _ al xs rfl (HRA.out.keep (HB1.out.alloc HB1.out.size _)) (by omega) (by omega) W.heap.size W (HB1.out.alloc HB1.out.size _) (Nat.le_refl _) (by simp; omega) ?_; intro v1 w4 HO1 HB2)
      | (at_builtin; refine wpl_appn rfl (.tmp 29) (.tmp 30) 23 rfl 5 .u8 1 Tryd.underlying23 Tryd.info_u8 W.heap.size _ (0 + al) ([] ++ xs) rfl HO1 _ bl bs rfl (HRB.out.keep HB2.out) (by omega) (by omega) W.heap.size W HB2 (Nat.le_refl _) HB2.out.size ?_; intro v2 w5 HO2 HB3)
      | (go_at_call 14; (with_reducible refine (shift_at x m n HX.out HI.out H4.out HM.out (HT.out.keep HB3.out) (HBT.out.keep HB3.out)).mono ?_); rintro e w6 ⟨rfl, hb⟩; have HB4 := Lib.hid (HB3.out.trans (hb.mono HB3.out.size)); have HB4' := Lib.hid hb; clear hb)
      | (go_at_call 15; (with_reducible refine (rshift_max x m n HX.out H4.out HM.out _).mono ?_); rintro e w' ⟨rfl, rfl⟩)
      | (go_at_call 7; first | ((with_reducible refine (of_any (HT.out.keep HB4.out) (HRA.out.keep HB4.out) HA.out HOA.out).mono ?_); rintro e w' ⟨rfl, rfl⟩) | ((with_reducible refine (of_any (HT.out.keep HB4.out) (HRB.out.keep HB4.out) HB.out HOB.out).mono ?_); rintro e w' ⟨rfl, rfl⟩))
      | (go_at_call 16; (with_reducible refine (join_at oa ob bl oc HLA.out HLB.out H3.out HJ.out (HT.out.keep HB4.out) (HBT.out.keep HB4.out)).mono ?_); rintro e w7 ⟨rfl, hb⟩; have HB5 := Lib.hid (HB4.out.trans (hb.mono HB4.out.size)); have HB5' := Lib.hid hb; clear hb)
      | (go_at_call 8; (with_reducible refine (rof_any (((RI.own HO2.out).keep HB4'.out).keep HB5'.out) HAB.out HOC.out).mono ?_); rintro e w' ⟨rfl, rfl⟩)
      | (go_at_call 6; (with_reducible refine (awake_any (HT.out.keep HB5.out)).mono ?_); rintro e w2 ⟨rfl, hb⟩; have HB6 := Lib.hid hb; clear hb))
    all_goals
      go_ret
      exact ⟨rfl, HB5.out.trans (HB6.out.mono HB5.out.size)⟩
end Go.Proofs.YtneggofhahjkmaaDoor
