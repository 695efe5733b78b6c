/-
  TEXTS JOINED: Put, FragRef, CrcCode, FragHead, FragKind, FragHput, FragRight. Each one's own words stand at its head.
-/
import Derived.Test.YtgegbpnmfpjdmaaGreatDoorJ5
import Derived.Test.YtgegbpnmfpjdmaaGreatDoorJ3
import Derived.Test.YtgegbpnmfpjdmaaGreatDoorJ14
import Derived.Test.YtgegbpnmfpjdmaaGreatDoorJ7
import Derived.Lib.SlBytesConst
import Derived.Deep.MidRow
import Derived.Deep.WholeRow
import Derived.Lib.SmallJoins
import Derived.ChangeKeysEq
import Derived.DeepKeys
import Derived.Laws.StructEq
namespace Go.Proofs.YtgegbpnmfpjdmaaGreatDoor
open Go.RowKit
set_option maxHeartbeats 400000 in
theorem btw_any (n m : Int) (h : I63 n) (h2 : I63 m) (w : World) : Calls Tryz.prog 131 #[.int .i64 n, .int .i64 m] w fun e w' => e = .returned (.int .i64 (clampI n m)) ∧ w = w' := by
  obtain ⟨_h, _h2⟩ := And.intro h h2
  unfold I63 at _h _h2
  go_enter Tryz.func131, Tryz.ntmps131
  go_wp2
  all_goals (go_ret; refine ⟨ret_int ?_, rfl⟩; unfold clampI; omega)
theorem btw_nat (n m : Int) (k : Nat) (h : I63 n) (h2 : I63 m) (hk : clampI n m = k) (w : World) : Calls Tryz.prog 131 #[.int .i64 n, .int .i64 m] w fun e w' => e = .returned (.int .i64 k) ∧ w = w' :=
  (btw_any n m h h2 w).mono fun _ _ ⟨he, hw⟩ => ⟨by rw [he, hk], hw⟩
def bl (l : List Int) : List Value := l.map (Value.int .u8)
theorem bl_set (l : List Int) (j : Nat) (x : Int) : (bl l).set j (.int .u8 x) = bl (l.set j x) := by simp [bl, List.map_set]
theorem bl_get (l : List Int) (j : Nat) (h : j < l.length) : (bl l)[j]? = some (.int .u8 (l.getD j 0)) := by simp [bl, List.getD, h]
theorem bl_append (a b : List Int) : bl (a ++ b) = bl a ++ bl b := by simp [bl]
set_option maxHeartbeats 800000 in
theorem put_any (n m : Int) (k : Nat) (h2 : I63 m) (hk : clampI m 8 = k) (w : World) :
    Calls Tryz.prog 115 #[.int .u64 n, .int .i64 m] w fun e w' => e = .returned (.slice (some ⟨w.heap.size, 0, none⟩) k k) ∧
      w'.ownsRow w.heap.size 5 1 (.slice (some ⟨w.heap.size, 0, none⟩) k k) k (bl (putL n k)) ∧ Below w.heap.size w w' := by
  obtain ⟨i0, hi, hz0, hz1, hz2⟩ := info_parts Tryz.info_u8
  have hk8 : k ≤ 8 := by unfold clampI at hk; omega
  have HC := Lib.hid hk; clear hk
  have hB2 : i0.bytes * k ≤ 281474976710656 := by rw [hz2]; omega
  have HI := Lib.hid hi; clear hi
  have HZ0 := Lib.hid hz0; clear hz0
  have HZ1 := Lib.hid hz1; clear hz1
  clear hz2
  go_enter Tryz.func115, Tryz.ntmps115
  go_wp2_with (first
    | (go_at_call 131; refine (btw_nat _ _ k h2 (by unfold I63; omega) HC.out _).mono ?_; rintro e w' ⟨rfl, rfl⟩)
    | (at_make; refine wpList_make_full _ rfl (.tmp 9) (.tmp 9) 43 rfl w.heap.size 5 i0 (.int .u8 0) 1 Tryz.underlying43 HI.out HZ0.out HZ1.out .i64 .i64 k k k rfl rfl rfl rfl hB2 (by unfold maxLen; omega) (Nat.le_refl _) ?_; intro w1 hown hgrow))
  have HO := Lib.hid hown; clear hown
  have HB := Lib.hid ((Below.refl w.heap.size w).grown hgrow (Nat.le_refl _) (by simp)); clear hgrow
  go_wp2
  go_loopw [12] (fun i wr => ∃ j : Nat, j ≤ k ∧ i = .int .i64 j ∧ wr.ownsRow w.heap.size 5 1 (.slice (some ⟨w.heap.size, 0, none⟩) k k) k (bl (putP n j k)) ∧ Below w.heap.size w wr) (fun i _ => k - (intOf i).toNat)
  case atStart => exact ⟨0, by omega, rfl, by have := HO.out; rw [Nat.mul_one, show (Value.int IntKind.u8 0).cells = #[.int .u8 0] from rfl, toList_madeCells_one] at this; rw [putP_zero]; simpa [bl] using this, HB.out⟩
  case round =>
    obtain ⟨j, hj, rfl, ho, hb⟩ := hrel
    by_cases hlt : j < k
    · have hcell : wr.cell? ⟨w.heap.size, j, none⟩ = some (.int .u8 ((putP n j k).getD j 0)) := by
        rw [ho.cellAt j (by omega), bl_get _ _ (by simp [putP]; omega)]
      have hfr : wr.frozen? ⟨w.heap.size, j, none⟩ = false := ho.frozenAt j
      have HO := Lib.hid ho; clear ho
      have HB := Lib.hid hb; clear hb
      go_wp2
      go_roundw
      case rel => exact ⟨j + 1, by omega, by go_num, by rw [← putP_succ, ← bl_set]; exact (HO.out.stored j _).1, HB.out.setCell (Nat.le_refl _) _⟩
      case measure => simp [intOf]; omega
    · go_wp2
      go_ret
      have e : j = k := by omega
      subst e
      exact ⟨rfl, by rw [← putP_full]; exact ho, hb⟩
theorem div_step (n : Int) (j : Nat) : n / 2 ^ (8 * j) / 256 = n / 2 ^ (8 * (j + 1)) := by
  rw [Int.ediv_ediv_of_nonneg (Int.le_of_lt (pow_pos' _)), show 8 * (j + 1) = 8 * j + 8 from by omega, Int.pow_add]; rfl
set_option maxRecDepth 20000 in
set_option maxHeartbeats 800000 in
theorem rput_any (n m : Int) (k : Nat) (h : U64 n) (h2 : I63 m) (hk : clampI m 8 = k) (w : World) :
    Calls Tryz.prog 122 #[.int .u64 n, .int .i64 m] w fun e w' => ∃ v, e = .returned v ∧
      w'.ownsRow w.heap.size 5 1 v k (bl (putL n k)) ∧ Below w.heap.size w w' := by
  unfold U64 at h
  unfold I63 at h2
  obtain ⟨i0, hi, hz0, hz1, hz2⟩ := info_parts Tryz.info_u8
  have hk1 : k ≤ 8 := by unfold clampI at hk; omega
  have hk2 : ∀ j : Nat, j < k → (j : Int) < m ∧ (j : Int) < 8 := by unfold clampI at hk; omega
  have hk3 : ∀ j : Nat, k ≤ j → m ≤ (j : Int) ∨ ((j : Int) < m ∧ 8 ≤ (j : Int)) := by unfold clampI at hk; omega
  clear hk
  have HI := Lib.hid hi; clear hi
  have HZ0 := Lib.hid hz0; clear hz0
  have HZ1 := Lib.hid hz1; clear hz1
  have HZ2 := Lib.hid hz2; clear hz2
  go_enter Tryz.func122, Tryz.ntmps122
  go_wp2
  go_loopw [0, 5, 6] (fun nn v i wr => ∃ j : Nat, j ≤ k ∧ i = .int .i64 j ∧ nn = .int .u64 (n / 2 ^ (8 * j)) ∧ wr.ownsRow w.heap.size 5 1 v j (bl (putL n j)) ∧ Below w.heap.size w wr) (fun _ _ i _ => k - (intOf i).toNat)
  case atStart => exact ⟨0, by omega, rfl, by simp, World.ownsRow_nil _ _ _ _, Below.refl _ _⟩
  case round =>
    obtain ⟨j, hj, rfl, rfl, ho, hb⟩ := hrel
    have hx : 0 ≤ n / 2 ^ (8 * j) := Int.ediv_nonneg h.1 (Int.le_of_lt (pow_pos' _))
    have hx2 : n / 2 ^ (8 * j) ≤ n := Int.ediv_le_self _ h.1
    have HO := Lib.hid ho; clear ho
    have HB := Lib.hid hb; clear hb
    by_cases hlt : j < k
    · obtain ⟨g1, g2⟩ := hk2 j hlt
      clear hk2 hk3
      go_wp2_with (first
        | (at_builtin; refine wpList_append_own _ rfl (.tmp 16) (.tmp 20) 43 rfl w.heap.size 5 i0 (.int .u8 0) 1 1 Tryz.underlying43 HI.out HZ0.out HZ1.out HZ2.out rfl (by decide) _ _ _ rfl (HO.out.alloc _) ⟨wr.heap.size, 0, none⟩ 1 1 (bl [n / 2 ^ (8 * j) % 256]) rfl rfl ?c1 ?c2 ?c3 ?c4 ?c5 ?_))
      case c1 =>
        intro i u hi
        match i, hi with
        | 0, hi => simp [bl] at hi; subst hi; simp [Addr.add]
      case c2 => intro u hu; simp [bl] at hu; subst hu; rfl
      case c3 => unfold maxLen; omega
      case c4 => omega
      case c5 => have := HB.out.size; simp; omega
      intro v' w1 hown' hgrow _
      have HO1 := Lib.hid (show w1.ownsRow w.heap.size 5 1 v' (j + 1) (bl (putL n (j + 1))) by rw [putL_succ, bl_append]; exact hown')
      have HB1 := Lib.hid ((HB.out.alloc HB.out.size _).grown hgrow (by have := HB.out.size; simp; omega) (fun q hq => (HO.out.lt q hq).1))
      clear hown' hgrow
      go_wp2
      go_roundw
      case rel => exact ⟨j + 1, by omega, by go_num, by rw [div_step], HO1.out, HB1.out⟩
      case measure => simp [intOf]; omega
    · rcases hk3 j (by omega) with g1 | ⟨g1, g2⟩
      all_goals
        clear hk2 hk3
        go_wp2
        go_ret
        have e : j = k := by omega
        subst e
        exact ⟨_, rfl, HO.out, HB.out⟩
end Go.Proofs.YtgegbpnmfpjdmaaGreatDoor
namespace Go.Proofs.YtgegbpnmfpjdmaaGreatDoor
open Go.RowKit
theorem rput_own (x : Int) (n : Nat) (hx : U64 x) (hn : n ≤ 8) (w : World) :
    Calls Tryz.prog 122 #[.int .u64 x, .int .i64 n] w fun e w' => ∃ a c, e = .returned (.slice a n c) ∧ w'.ownsRow w.heap.size 5 1 (.slice a n c) n (il .u8 (putL x n)) ∧ Below w.heap.size w w' :=
  (rput_any x n n hx (by unfold I63; omega) (by unfold clampI; omega) w).mono fun _ _ ⟨v, he, ho, hb⟩ => by
    obtain ⟨a, c, rfl⟩ := own_form ho
    exact ⟨a, c, he, ho, hb⟩
theorem u8_fit {k : Int} (h0 : 0 ≤ k) (h1 : k ≤ 255) : IntKind.u8.wrap k = k := by simp [IntKind.wrap, IntKind.signed, IntKind.bits]; omega
set_option maxRecDepth 8000 in
set_option maxHeartbeats 2000000 in
theorem rfbytes_any (k e : Int) (v : Value) (n : Nat) (d : List Int) (w : World) (hr : fragOk k n = true) (he : 0 ≤ e ∧ e ≤ 4294967295) (hri : RI .u8 w v n d) (hbd : isB d) :
    Calls Tryz.prog 103 #[.agg (fA k e v)] w fun r w' => ∃ a c, r = .returned (.slice a (11 + n) c) ∧ w'.ownsRow w.heap.size 5 1 (.slice a (11 + n) c) (11 + n) (il .u8 (fragB k e d)) ∧ Below w.heap.size w w' := by
  have hp := fok_parts hr
  have hd := hri.length
  obtain ⟨he0, he1⟩ := he
  have hwk := u8_fit (k := k) (by omega) (by omega)
  obtain ⟨o, ho⟩ : ∃ o, ofS (fragT k e d) = o := ⟨_, rfl⟩
  obtain ⟨m, hm⟩ : ∃ m, maskS o = m := ⟨_, rfl⟩
  have hm9 : m < 4294967296 := by rw [← hm]; exact maskS_lt o
  have HO := Lib.hid ho
  have HOL : Hid (o < 4294967296) := Lib.hid (by rw [← ho]; exact ofS_lt _)
  have HM := Lib.hid hm
  have HFB : Hid (putL m 4 ++ fragT k e d = fragB k e d ∧ (fragB k e d).length = 11 + n) := Lib.hid ⟨by unfold fragB fragS; rw [ho, hm], by rw [fragB_length, hd]⟩
  have HT : Hid (putL n 2 ++ [k] ++ putL e 4 ++ d = fragT k e d ∧ (fragT k e d).length = 7 + n) := Lib.hid ⟨by unfold fragT fragK; rw [hd], by rw [fragT_length, hd]⟩
  have HTB : Hid (∀ x ∈ fragT k e d, 0 ≤ x ∧ x ≤ 255) := Lib.hid (fragT_bytes (by omega) e hbd)
  have HP1 : Hid (∀ w, Calls Tryz.prog 122 #[.int .u64 n, .int .i64 2] w fun e w' => ∃ a c, e = .returned (.slice a 2 c) ∧ w'.ownsRow w.heap.size 5 1 (.slice a 2 c) 2 (il .u8 (putL n 2)) ∧ Below w.heap.size w w') := Lib.hid (rput_own n 2 (by unfold U64; omega) (by omega))
  have HP2 : Hid (∀ w, Calls Tryz.prog 122 #[.int .u64 e, .int .i64 4] w fun e' w' => ∃ a c, e' = .returned (.slice a 4 c) ∧ w'.ownsRow w.heap.size 5 1 (.slice a 4 c) 4 (il .u8 (putL e 4)) ∧ Below w.heap.size w w') := Lib.hid (rput_own e 4 (by unfold U64; omega) (by omega))
  have HP3 : Hid (∀ w, Calls Tryz.prog 122 #[.int .u64 m, .int .i64 4] w fun e' w' => ∃ a c, e' = .returned (.slice a 4 c) ∧ w'.ownsRow w.heap.size 5 1 (.slice a 4 c) 4 (il .u8 (putL m 4)) ∧ Below w.heap.size w w') := Lib.hid (rput_own m 4 (by unfold U64; omega) (by omega))
  obtain ⟨w0, hw0⟩ : ∃ q, w.alloc (.cells (fA k e v) 143) = q := ⟨_, rfl⟩
  have HA : Hid (FO w0 w.heap.size k e v) := Lib.hid (by rw [← hw0]; exact FO.alloc w)
  have HB : Hid (Below w.heap.size w w0) := Lib.hid (by rw [← hw0]; exact balloc w _)
  have HR := Lib.hid (hri.keep HB.out)
  have HN : Hid (n ≤ 197) := Lib.hid hp.2.2
  obtain ⟨a, cap, rfl⟩ : ∃ a cap, v = .slice a n cap := by obtain ⟨a, c, e, _⟩ := hri; exact ⟨a, c, e⟩
  obtain ⟨z0, z1, z2⟩ := HA.out.cells
  have hn9 : (n : Int) ≤ 197 := by omega
  have hm8 : (m : Int) ≤ 4294967295 := by omega
  clear hr hri hp hd ho hm hm9 hbd
  go_enter Tryz.func103, Tryz.ntmps103
  go_wp2_with (first
    | (go_at_call 122; (with_reducible refine (HP1.out _).mono ?_); rintro r w1 ⟨a1, c1, rfl, ho1, hb1⟩; have HO1 := Lib.hid ho1; have HB1 := Lib.hid hb1; obtain ⟨x0, x1, x2⟩ := (HA.out.keep hb1).cells; clear ho1 hb1)
    | (at_builtin; refine wpl_appn rfl (.tmp 29) (.tmp 30) 43 rfl 5 .u8 1 Tryz.underlying43 Tryz.info_u8 w5.heap.size _ 4 (putL m 4) rfl HO6 _ (7 + n) (fragT k e d) rfl ((RI.own HO5F.out).keep HB6.out) (by have := HN.out; omega) (by have := HN.out; omega) w5.heap.size w5 HB6 (Nat.le_refl _) HB6.out.size ?_; intro v7 w7 HO7 HB7)
    | (at_builtin; refine wpl_appn rfl (.tmp 21) (.tmp 23) 43 rfl 5 .u8 1 Tryz.underlying43 Tryz.info_u8 w0.heap.size _ (2 + 1 + 4) (putL n 2 ++ [k] ++ putL e 4) rfl HO4 _ n d rfl (HR.out.keep HB4.out) (by have := HN.out; omega) (by have := HN.out; omega) w0.heap.size w0 HB4 (Nat.le_refl _) HB4.out.size ?_; intro v5 w5 HO5 HB5; have HO5F := Lib.hid (own_fin HO5.out HT.out.1 HT.out.2))
    | (at_builtin; refine wpl_appn rfl (.tmp 15) (.tmp 19) 43 rfl 5 .u8 1 Tryz.underlying43 Tryz.info_u8 w0.heap.size _ (2 + 1) (putL n 2 ++ [k]) rfl HO2K _ 4 (putL e 4) rfl (RI.own HO3.out) (by omega) (by omega) w0.heap.size w0 HB3 (Nat.le_refl _) HB3.out.size ?_; intro v4 w4 HO4 HB4; obtain ⟨q0, q1, q2⟩ := (HA.out.keep HB4.out).cells)
    | (at_builtin; refine wpl_app1 rfl (.tmp 9) (.tmp 13) 43 rfl 5 .u8 1 Tryz.underlying43 Tryz.info_u8 w0.heap.size _ 2 (putL n 2) rfl (Lib.hid (HO1.out.alloc _)) ⟨w1.heap.size, 0, none⟩ k rfl (alloc_cell w1 _ _) (by omega) (by omega) w0.heap.size w0 (Lib.hid (bch HB1.out (balloc _ _))) (Nat.le_refl _) (by have := HB1.out.size; simp; omega) ?_; intro v2 w2 HO2 HB2; obtain ⟨y0, y1, y2⟩ := (HA.out.keep HB2.out).cells)
    | (go_at_call 122; (with_reducible refine (HP2.out _).mono ?_); rintro r w3 ⟨a3, c3, rfl, ho3, hb3⟩; have HO2K := Lib.hid (own_keep HO2.out hb3); have HO3 := Lib.hid ho3; have HB3 := Lib.hid (bch HB2.out hb3); clear ho3 hb3)
    | (go_at_call 124; (with_reducible refine (rof_any (RI.own HO5F.out) HTB.out HO.out).mono ?_); rintro e w' ⟨rfl, rfl⟩)
    | (go_at_call 123; (with_reducible refine (rmask_at o m HOL.out HM.out _).mono ?_); rintro e w' ⟨rfl, rfl⟩)
    | (go_at_call 122; (with_reducible refine (HP3.out _).mono ?_); rintro r w6 ⟨a6, c6, rfl, ho6, hb6⟩; have HO6 := Lib.hid ho6; have HB6 := Lib.hid hb6; clear ho6 hb6))
  go_ret
  have h7 := own_fin HO7.out HFB.out.1 HFB.out.2
  obtain ⟨a7, c7, rfl⟩ := own_form h7
  have hb5 := bch HB.out HB5.out
  exact ⟨a7, c7, rfl, own_mono h7 hb5.size, bch hb5 HB7.out⟩
end Go.Proofs.YtgegbpnmfpjdmaaGreatDoor
namespace Go.Proofs.YtgegbpnmfpjdmaaGreatDoor
open Go.RowKit
def Tab (w : World) : Prop := ∀ j : Nat, j < 16 → w.cell? ⟨1, j, none⟩ = some (.int .u32 ((stn 4 j : Nat) : Int))
theorem half_list : ∀ j : Nat, j < 16 → ([0, 274646895, 549293790, 820201905, 1098587580, 1361435347, 1640403810, 1905808397, 2197175160, 2460548119, 2722870694, 2987750089, 3280807620, 3553878443, 3811616794, 4084100981] : List Int).getD j 0 = ((stn 4 j : Nat) : Int) := by decide
theorem tab_of {w : World} (h : ∀ j : Nat, j < 16 → w.cell? ⟨1, j, none⟩ = some (.int .u32 (([0, 274646895, 549293790, 820201905, 1098587580, 1361435347, 1640403810, 1905808397, 2197175160, 2460548119, 2722870694, 2987750089, 3280807620, 3553878443, 3811616794, 4084100981] : List Int).getD j 0))) : Tab w :=
  fun j hj => by rw [h j hj, half_list j hj]
theorem Tab.keep {w w' : World} (h : Tab w) (hb : Below w.heap.size w w') : Tab w' := fun j hj => cell_keep hb (h j hj)
theorem flip32 (s : Nat) (h : s < 4294967296) : bits .xor .u32 IntKind.u32.max (s : Int) = ((4294967295 - s : Nat) : Int) := by
  rw [show IntKind.u32.max = ((4294967295 : Nat) : Int) from by decide, u32_xor_nat _ _ (by omega) h, not32 s h, Nat.xor_comm]
theorem half_bits (r : Nat) (h : r < 4294967296) : bits .xor .u32 ((r : Int) / 16) ((stn 4 (r % 16) : Nat) : Int) = ((stn 4 r : Nat) : Int) := by
  have := u32_xor_nat (r / 16) (stn 4 (r % 16)) (by omega) (stn_lt 4 _ (by omega))
  rw [← half_step] at this
  rw [← this]; congr 1
theorem four_any (r : Nat) (h : r < 4294967296) {w : World} (ht : Tab w) {m : Nat} (hm : stn 4 r = m) : Calls Tryz.prog 161 #[.int .u32 r] w fun e w' => e = .returned (.int .u32 m) ∧ w = w' := by
  have hc := ht (r % 16) (by omega)
  have hy := half_bits r h
  rw [hm] at hy
  have hr : (r : Int) ≤ 4294967295 := by omega
  clear ht hm h
  go_enter Tryz.func161, Tryz.ntmps161
  go_wp2
  go_ret
  exact ⟨rfl, rfl⟩
theorem eight_any (r : Nat) (h : r < 4294967296) {w : World} (ht : Tab w) {m : Nat} (hm : stn 8 r = m) : Calls Tryz.prog 149 #[.int .u32 r] w fun e w' => e = .returned (.int .u32 m) ∧ w = w' := by
  obtain ⟨r1, hr1⟩ : ∃ r1, stn 4 r = r1 := ⟨_, rfl⟩
  have H1 := Lib.hid hr1
  have H2 := Lib.hid (show stn 4 r1 = m from by rw [← hr1, ← hm, show (8 : Nat) = 4 + 4 from rfl, stn_add])
  have HL := Lib.hid (show r1 < 4294967296 from by rw [← hr1]; exact stn_lt 4 r h)
  have HR := Lib.hid h
  have HT := Lib.hid ht
  clear hr1 hm h ht
  go_enter Tryz.func149, Tryz.ntmps149
  go_wp2_with (first | (go_at_call 161; first | ((with_reducible refine (four_any r HR.out HT.out H1.out).mono ?_); rintro e w' ⟨rfl, rfl⟩) | ((with_reducible refine (four_any r1 HL.out HT.out H2.out).mono ?_); rintro e w' ⟨rfl, rfl⟩)))
  go_ret
  exact ⟨rfl, rfl⟩
set_option maxRecDepth 8000 in
set_option maxHeartbeats 800000 in
theorem more_some (s : Nat) (h : s < 4294967296) (b off len cap : Nat) (zs : List Int) (w : World) (ht : Tab w) (hz : zs.length = len) (hb : ∀ x ∈ zs, 0 ≤ x ∧ x ≤ 255) (hl : (len : Int) ≤ 9223372036854775807)
    (hc : ∀ j, j < len → w.cell? ⟨b, off + j, none⟩ = some (.int .u8 (zs.getD j 0))) :
    Calls Tryz.prog 130 #[.int .u32 s, .slice (some ⟨b, off, none⟩) len cap] w fun e w' => e = .returned (.int .u32 (moreS s zs)) ∧ w = w' := by
  have hs : (s : Int) ≤ 4294967295 := by omega
  obtain ⟨m, hm⟩ : ∃ m, moreS s zs = m := ⟨_, rfl⟩
  rw [hm]
  have HM := Lib.hid hm
  have HC := Lib.hid hc
  have HZ := Lib.hid hz
  have HB := Lib.hid hb
  have HS := Lib.hid h
  have HT := Lib.hid ht
  have hf := flip32 s h
  obtain ⟨f, hfe⟩ : ∃ f, 4294967295 - s = f := ⟨_, rfl⟩
  rw [hfe] at hf
  have HF := Lib.hid hfe
  clear hm hc hz hb h ht hfe
  go_enter Tryz.func130, Tryz.ntmps130
  go_wp2
  go_loop [5, 12] (fun x i => ∃ (k r : Nat), i = .int .i64 k ∧ x = .int .u32 r ∧ k ≤ len ∧ Hid (r < 4294967296) ∧ Hid (reg r (zs.drop k) = reg f zs)) (fun _ i => len - (intOf i).toNat)
  case atStart => exact ⟨0, f, rfl, rfl, by omega, Lib.hid (by have := HF.out; omega), rfl⟩
  case round =>
    obtain ⟨k, r, rfl, rfl, hk, HR, HG⟩ := hrel
    by_cases hlt : k < len
    · obtain ⟨x, hx⟩ : ∃ x, zs.getD k 0 = x := ⟨_, rfl⟩
      have hcell : w.cell? ⟨b, off + k, none⟩ = some (.int .u8 x) := by rw [← hx]; exact HC.out k hlt
      have hxb : 0 ≤ x ∧ x ≤ 255 := by
        rw [← hx]; exact (bytes_of_mem HB.out) k
      have HD := Lib.hid (show reg r (x :: zs.drop (k + 1)) = reg f zs from by rw [← hx, ← drop_getD zs k (by rw [HZ.out]; exact hlt)]; exact HG.out)
      obtain ⟨y, rfl⟩ : ∃ y : Nat, x = (y : Int) := ⟨x.toNat, by omega⟩
      have hxx := u32_xor_nat r y HR.out (by omega)
      obtain ⟨r0, hr0⟩ : ∃ r0, r ^^^ y = r0 := ⟨_, rfl⟩
      have h0 : r0 < 4294967296 := by rw [← hr0]; exact xor_lt r y HR.out (by omega)
      rw [hr0] at hxx
      have H0 := Lib.hid h0
      obtain ⟨r2, hr2⟩ : ∃ r2, stn 8 r0 = r2 := ⟨_, rfl⟩
      have H2 := Lib.hid (show r2 < 4294967296 from by rw [← hr2]; exact stn_lt 8 r0 h0)
      have HE := Lib.hid (show stn 8 (r ^^^ y) = r2 from by rw [hr0, hr2])
      have HF8 := Lib.hid hr2
      clear hr0 hr2 hx HG h0
      go_wp2_with (first | (go_at_call 149; (with_reducible refine (eight_any r0 H0.out HT.out HF8.out).mono ?_); rintro e w' ⟨rfl, rfl⟩))
      go_round
      case rel =>
        refine ⟨k + 1, r2, by go_num, rfl, by omega, H2, ?_⟩
        have h3 := HD.out
        rw [reg_cons, Int.toNat_natCast, HE.out] at h3
        exact h3
      case measure => simp [intOf]; omega
    · have hg := HG.out
      rw [show zs.drop k = [] from List.drop_eq_nil_of_le (by rw [HZ.out]; omega), reg_nil] at hg
      have hm := HM.out
      unfold moreS at hm
      rw [HF.out, ← hg] at hm
      have hfr := flip32 r HR.out
      rw [hm] at hfr
      clear hg hm
      go_wp2
      go_ret
      exact ⟨rfl, rfl⟩
set_option maxRecDepth 8000 in
set_option maxHeartbeats 400000 in
theorem more_zero (s : Nat) (h : s < 4294967296) (a : Option Addr) (cap : Nat) (w : World) :
    Calls Tryz.prog 130 #[.int .u32 s, .slice a 0 cap] w fun e w' => e = .returned (.int .u32 (moreS s [])) ∧ w = w' := by
  have hf := flip32 s h
  obtain ⟨f, hfe⟩ : ∃ f, 4294967295 - s = f := ⟨_, rfl⟩
  rw [hfe] at hf
  have hg := flip32 f (by omega)
  obtain ⟨m, hm⟩ : ∃ m, moreS s [] = m := ⟨_, rfl⟩
  rw [hm]
  unfold moreS at hm
  rw [reg_nil, hfe] at hm
  rw [hm] at hg
  have hs : (s : Int) ≤ 4294967295 := by omega
  clear hm hfe h
  go_enter Tryz.func130, Tryz.ntmps130
  go_wp2
  refine wp_loop_rounds 1 ?_
  rw [rounds_succ]
  go_wp2
  go_ret
  exact ⟨rfl, rfl⟩
theorem more_any {s len : Nat} (h : s < 4294967296) {v : Value} {zs : List Int} {w : World} (ht : Tab w) (hri : RI .u8 w v len zs) (hb : ∀ x ∈ zs, 0 ≤ x ∧ x ≤ 255) {m : Nat} (hm : moreS s zs = m) :
    Calls Tryz.prog 130 #[.int .u32 s, v] w fun e w' => e = .returned (.int .u32 m) ∧ w = w' := by
  subst hm
  obtain ⟨a, cap, rfl, hl, h1, h2, _, hc⟩ := hri
  by_cases h0 : 0 < len
  · obtain ⟨b, off, rfl, hcell⟩ := hc h0
    exact more_some s h b off len cap zs w ht hl hb (by omega) hcell
  · obtain rfl : len = 0 := by omega
    obtain rfl : zs = [] := List.length_eq_zero_iff.1 hl
    exact more_zero s h a cap w
theorem more_0 {len : Nat} {v : Value} {zs : List Int} {w : World} (ht : Tab w) (hri : RI .u8 w v len zs) (hb : ∀ x ∈ zs, 0 ≤ x ∧ x ≤ 255) {m : Nat} (hm : moreS 0 zs = m) :
    Calls Tryz.prog 130 #[.int .u32 0, v] w fun e w' => e = .returned (.int .u32 m) ∧ w = w' := more_any (s := 0) (by omega) ht hri hb hm
theorem of_any {len : Nat} {v : Value} {zs : List Int} {w : World} (ht : Tab w) (hri : RI .u8 w v len zs) (hb : ∀ x ∈ zs, 0 ≤ x ∧ x ≤ 255) {m : Nat} (hm : ofS zs = m) :
    Calls Tryz.prog 119 #[v] w fun e w' => e = .returned (.int .u32 m) ∧ w = w' := by
  have HR := Lib.hid hri
  have HB := Lib.hid hb
  have HT := Lib.hid ht
  have HM := Lib.hid (show moreS 0 zs = m from hm)
  clear hri hb hm ht
  go_enter Tryz.func119, Tryz.ntmps119
  go_wp2_with (first | (go_at_call 130; (with_reducible refine (more_0 HT.out HR.out HB.out HM.out).mono ?_); rintro e w' ⟨rfl, rfl⟩))
  go_ret
  exact ⟨rfl, rfl⟩
theorem or17 (n : Nat) (h : n < 4294967296) : bits .or .u32 ((n : Int) * 131072 % 4294967296) ((n : Int) / 32768) = ((n / 32768 + n % 32768 * 131072 : Nat) : Int) := by
  have h1 := u32_or_nat (2 ^ 17 * (n % 32768)) (n / 32768) (by omega) (by omega)
  rw [← Nat.two_pow_add_eq_or_of_lt (show n / 32768 < 2 ^ 17 by omega)] at h1
  rw [show (n : Int) / 32768 = ((n / 32768 : Nat) : Int) from by omega, show (n : Int) * 131072 % 4294967296 = ((2 ^ 17 * (n % 32768) : Nat) : Int) from by omega, h1]
  omega
set_option maxRecDepth 8000 in
theorem rot_right (n : Nat) (h : n < 4294967296) (w : World) : Calls Tryz.prog 143 #[.int .u32 n, .int .i64 (-15)] w fun e w' => e = .returned (.int .u32 ((n / 32768 + n % 32768 * 131072 : Nat) : Int)) ∧ w = w' := by
  have hn : (n : Int) ≤ 4294967295 := by omega
  have hw : bits .and .u64 (IntKind.u64.wrap (-15)) 31 = 17 := by decide
  have HO := Lib.hid (or17 n h)
  go_enter Tryz.func143, Tryz.ntmps143
  go_wp2
  go_ret
  refine ⟨ret_int ?_, rfl⟩
  rw [← HO.out]
set_option maxRecDepth 8000 in
theorem mask_any (n m : Nat) (h : n < 4294967296) (hm : maskS n = m) (w : World) : Calls Tryz.prog 118 #[.int .u32 n] w fun e w' => e = .returned (.int .u32 m) ∧ w = w' := by
  have HN := Lib.hid h
  clear h
  go_enter Tryz.func118, Tryz.ntmps118
  go_wp2_with (first | (go_at_call 143; (with_reducible refine (rot_right n HN.out _).mono ?_); rintro e w' ⟨rfl, rfl⟩))
  go_ret
  refine ⟨ret_int ?_, rfl⟩
  rw [← hm]
  unfold maskS
  omega
theorem RI.const (w : World) (e : TypeId) (k : IntKind) (zs : List Int) (fr : Nat × Nat) (n : Nat) (hn : zs.length = n) (h63 : n ≤ 9223372036854775807) :
    RI k (w.alloc (.cells (il k zs).toArray e fr)) (.slice (some ⟨w.heap.size, 0, none⟩) n n) n zs := by
  refine ⟨_, n, rfl, hn, Nat.le_refl _, h63, fun h => by simp at h, fun _ => ⟨w.heap.size, 0, rfl, fun j hj => ?_⟩⟩
  have hg : (w.alloc (.cells (il k zs).toArray e fr)).heap[w.heap.size]? = some (.cells (il k zs).toArray e fr) := by
    show (w.heap.push _)[w.heap.size]? = _
    simp
  rw [Nat.zero_add, cell_of_row _ w.heap.size j _ e fr hg]
  simpa using il_get k zs j (by omega)
end Go.Proofs.YtgegbpnmfpjdmaaGreatDoor
namespace Go.Proofs.YtgegbpnmfpjdmaaGreatDoor
open Go.RowKit
def av (zs : List Int) : Array Value := (il .u8 zs).toArray
theorem av_get (zs : List Int) (j : Nat) (h : j < zs.length) : (av zs)[j]? = some (.int .u8 (zs.getD j 0)) := by
  have := il_get .u8 zs j h
  simpa [av] using this
def z11 : List Int := List.replicate 11 0
theorem z11_length : z11.length = 11 := by simp [z11]
def HD (w : World) (b : Nat) (zs : List Int) : Prop := w.heap[b]? = some (.cells (av zs) 162 (0, 0)) ∧ zs.length = 11
theorem HD.lt {w : World} {b : Nat} {c : List Int} (h : HD w b c) : b < w.heap.size := (Array.getElem?_eq_some_iff.1 h.1).1
theorem HD.keep {w w' : World} {b : Nat} {c : List Int} (h : HD w b c) (hb : Below w.heap.size w w') : HD w' b c := ⟨by rw [hb.block b h.lt]; exact h.1, h.2⟩
theorem HD.cell {w : World} {b : Nat} {c : List Int} (h : HD w b c) (j : Nat) (hj : j < 11) : w.cell? ⟨b, j, none⟩ = some (.int .u8 (c.getD j 0)) := by
  rw [Joins.cell_of_block h.1 j, av_get _ _ (by rw [h.2]; exact hj)]
theorem HD.row {w : World} {b : Nat} {c c' : List Int} (h : HD w b c) (hc : c'.length = 11) : HD (w.setRow b (av c')) b c' := ⟨setRow_heap w b (av c) (av c') _ _ h.1, hc⟩
theorem HD.new (w : World) (zs : List Int) (h : zs.length = 11) : HD (w.alloc (.cells (av zs) 162)) w.heap.size zs := ⟨heap_alloc_last w _, h⟩
theorem HD.ri {w : World} {g : Nat} {l : List Int} (h : HD w g l) (m d : Nat) (hm : m + d ≤ 11) : RI .u8 w (.slice (some ⟨g, m, none⟩) d d) d ((l.drop m).take d) := by
  refine ⟨_, d, rfl, by simp [h.2]; omega, Nat.le_refl _, by omega, fun h => by simp at h, fun _ => ⟨g, m, rfl, fun j hj => ?_⟩⟩
  rw [h.cell (m + j) (by omega)]
  simp only [List.getD, List.getElem?_take, hj, if_true, List.getElem?_drop]
set_option maxRecDepth 8000 in
set_option maxHeartbeats 1000000 in
theorem hcut_any (b f n t : Nat) (ht : f + n = t) (h1 : t ≤ 11) (h0 : 0 < n) (w : World) :
    Calls Tryz.prog 114 #[.pointer (some ⟨b, 0, none⟩), .int .i64 f, .int .i64 t] w fun e w' => e = .returned (.slice (some ⟨b, f, none⟩) n n) ∧ w = w' := by
  have hf : (f : Int) ≤ (t : Int) := by omega
  have ht1 : (t : Int) ≤ 11 := by omega
  have hne : ¬ t = f := by omega
  have hs : t - f = n := by omega
  clear ht h1 h0
  go_enter Tryz.func114, Tryz.ntmps114
  go_wp2
  go_ret
  exact ⟨by rfl, rfl⟩
theorem hd_size1 : (Tryz.prog.info? 5).map (·.size) = some 1 := by kernel_rfl
theorem hd_splice (k : IntKind) (l cs : List Int) (off : Nat) : splice (il k l) off (il k cs) = il k (splice l off cs) := by simp [splice, il]
theorem wpl_copy_head {ops : Array Oper} {rest : List Oper} {o : Oper} {a : Act} {w : World} {Q : Exit → Act → World → Prop} (hgd : o.guard = none) (d s : Operand)
    (ho : o.op = .call { callee := .builtin .copy, args := #[d, s], argTypes := #[43, 43] }) (g off m : Nat) (l : List Int) (hblk : HD w g l)
    (hd : a.eval d = .slice (some ⟨g, off, none⟩) m m) (v : Value) (zs : List Int) (hs : a.eval s = v) (hri : RI .u8 w v m zs) (hfit : off + m ≤ 11)
    (h : ∀ w', Hid (HD w' g (splice l off zs)) → Hid (Below g w w') → wpList Tryz.prog ops Q rest (a.put o.dst (goInt (m : Int))) w') : wpList Tryz.prog ops Q (o :: rest) a w := by
  refine wpList_plain hgd fun K hK => ?_
  obtain ⟨sp, sCap, rfl, hl, _, _, _, hc⟩ := hri
  have hcl : (il .u8 zs).length = min m m := by rw [il_length, Nat.min_self]; exact hl
  have h1 := step_copy_splice (ops := ops) (K := K) (Q := Q) (E := True) hgd d s 43 43 ho 5 Tryz.underlying43 hd_size1 (some ⟨g, off, none⟩) sp m m m sCap hd hs g off (il .u8 l) 162 hblk.1 (il .u8 zs) hcl ?_ (by rw [hcl, il_length, hblk.2]; omega) (il_one _ _) g w (Below.refl _ _) (Nat.le_refl _) ?_
  · rwa [if_pos (by simp [Region.wanted, hgd])] at h1
  · intro hp
    rw [hcl] at hp
    obtain ⟨b, of2, rfl, hcell⟩ := hc (by omega)
    refine ⟨rfl, _, rfl, fun j u hj => ?_⟩
    have hjl : j < zs.length := by have := (List.getElem?_eq_some_iff.1 hj).1; rwa [il_length] at this
    rw [il_get _ _ _ hjl] at hj
    have h2 := hcell j (by omega)
    rw [← hj]
    by_cases h0 : j = 0
    · subst h0; simpa [Addr.add] using h2
    · simpa [Addr.add, h0] using h2
  · intro w' hg hb
    have e : goInt (il .u8 zs).length = goInt (m : Int) := by rw [hcl, Nat.min_self]
    rw [e]
    refine hK _ _ (h w' ⟨?_, by rw [length_splice _ _ _ (by rw [hblk.2]; omega)]; exact hblk.2⟩ hb)
    have := hg.out
    rwa [hd_splice] at this
theorem more_of (a b : List Int) (ha : isB a) : moreS (ofS a) b = ofS (a ++ b) := by
  have h := reg_lt a ha 4294967295 (by omega)
  unfold ofS moreS
  rw [reg_append, show 4294967295 - (4294967295 - reg (4294967295 - 0) a) = reg (4294967295 - 0) a from by simp only [Nat.sub_zero]; omega]
theorem fsmh_any (b : Nat) {w : World} {zs : List Int} (hT : Tab w) (hh : HD w b zs) (hb : isB zs) {v : Value} {n : Nat} {d : List Int} (hr : RI .u8 w v n d) (hd : isB d) {m : Nat} (hm : maskS (ofS (zs.drop 4 ++ d)) = m) :
    Calls Tryz.prog 113 #[.pointer (some ⟨b, 0, none⟩), v] w fun e w' => e = .returned (.int .u64 m) ∧ w = w' := by
  have hh4 := hh.ri 4 7 (by omega)
  rw [List.take_of_length_le (by simp [hh.2])] at hh4
  obtain ⟨o, ho⟩ : ∃ o, ofS (zs.drop 4) = o := ⟨_, rfl⟩
  obtain ⟨q, hq⟩ : ∃ q, moreS o d = q := ⟨_, rfl⟩
  have hq2 : ofS (zs.drop 4 ++ d) = q := by rw [← more_of _ _ (hb.drop 4), ho, hq]
  rw [hq2] at hm
  have HC : Hid (∀ w, Calls Tryz.prog 114 #[.pointer (some ⟨b, 0, none⟩), .int .i64 4, .int .i64 11] w fun e w' => e = .returned (.slice (some ⟨b, 4, none⟩) 7 7) ∧ w = w') := Lib.hid (hcut_any b 4 7 11 rfl (by omega) (by omega))
  have HO : Hid (Calls Tryz.prog 119 #[.slice (some ⟨b, 4, none⟩) 7 7] w fun e w' => e = .returned (.int .u32 o) ∧ w = w') := Lib.hid (of_any hT hh4 (hb.drop 4) ho)
  have HM : Hid (Calls Tryz.prog 130 #[.int .u32 o, v] w fun e w' => e = .returned (.int .u32 q) ∧ w = w') := Lib.hid (more_any (by rw [← ho]; exact ofS_lt _) hT hr hd hq)
  have HK : Hid (∀ w, Calls Tryz.prog 118 #[.int .u32 q] w fun e w' => e = .returned (.int .u32 m) ∧ w = w') := Lib.hid fun w => mask_any q m (by rw [← hq]; exact moreS_lt _ _) hm w
  have hm9 : (m : Int) ≤ 4294967295 := by have := maskS_lt q; omega
  clear hT hh hb hr hd hm hh4 ho hq hq2
  go_enter Tryz.func113, Tryz.ntmps113
  go_wp2_with (first
    | (go_at_call 114; (with_reducible refine (HC.out _).mono ?_); rintro e w' ⟨rfl, rfl⟩)
    | (go_at_call 119; (with_reducible refine (HO.out).mono ?_); rintro e w' ⟨rfl, rfl⟩)
    | (go_at_call 130; (with_reducible refine (HM.out).mono ?_); rintro e w' ⟨rfl, rfl⟩)
    | (go_at_call 118; (with_reducible refine (HK.out _).mono ?_); rintro e w' ⟨rfl, rfl⟩))
  go_ret
  exact ⟨rfl, rfl⟩
end Go.Proofs.YtgegbpnmfpjdmaaGreatDoor
namespace Go.Proofs.YtgegbpnmfpjdmaaGreatDoor
open Go.RowKit
theorem fkind_any (k : Int) (w : World) : Calls Tryz.prog 129 #[.int .i64 k] w fun e w' => e = .returned (.bool (decide (1 ≤ k ∧ k ≤ 4))) ∧ w = w' := by
  rcases (by omega : (1 ≤ k ∧ k ≤ 4) ∨ k < 1 ∨ (1 ≤ k ∧ 4 < k)) with ⟨h1, h2⟩ | h1 | ⟨h1, h2⟩
  · rw [show decide (1 ≤ k ∧ k ≤ 4) = true from decide_eq_true ⟨h1, h2⟩]
    go_enter Tryz.func129, Tryz.ntmps129
    go_wp2
    go_ret
    exact ⟨rfl, rfl⟩
  · rw [show decide (1 ≤ k ∧ k ≤ 4) = false from decide_eq_false (by omega)]
    go_enter Tryz.func129, Tryz.ntmps129
    go_wp2
    go_ret
    exact ⟨rfl, rfl⟩
  · rw [show decide (1 ≤ k ∧ k ≤ 4) = false from decide_eq_false (by omega)]
    go_enter Tryz.func129, Tryz.ntmps129
    go_wp2
    go_ret
    first
      | exact ⟨rfl, rfl⟩
      | exact ⟨ret_bool (decide_eq_false (by omega)), rfl⟩
end Go.Proofs.YtgegbpnmfpjdmaaGreatDoor
namespace Go.Proofs.YtgegbpnmfpjdmaaGreatDoor
open Go.RowKit
theorem fpth_any (b f n t : Nat) (ht : f + n = t) (h1 : t ≤ 11) (h0 : 0 < n) (h8 : n ≤ 8) (x : Int) {w : World} {zs : List Int} (hh : HD w b zs) :
    Calls Tryz.prog 112 #[.pointer (some ⟨b, 0, none⟩), .int .i64 f, .int .i64 t, .int .u64 x] w fun e w' => e = .returned (.tuple #[]) ∧ HD w' b (splice zs f (putL x n)) ∧ Below b w w' := by
  have HC := Lib.hid (hcut_any b f n t ht h1 h0)
  have HP : Hid (∀ w, Calls Tryz.prog 115 #[.int .u64 x, .int .i64 n] w fun e w' => ∃ c, e = .returned (.slice (some ⟨w.heap.size, 0, none⟩) n c) ∧ RI .u8 w' (.slice (some ⟨w.heap.size, 0, none⟩) n c) n (putL x n) ∧ Below w.heap.size w w') := Lib.hid fun w =>
    (put_any x n n (by unfold I63; omega) (by unfold clampI; omega) w).mono fun _ _ ⟨he, ho, hb⟩ => ⟨n, he, RI.own ho, hb⟩
  have HH := Lib.hid hh
  have HN : Hid (f + n ≤ 11) := Lib.hid (by omega)
  have hn : (n : Int) ≤ 8 := by omega
  have hn2 : (t : Int) - (f : Int) = (n : Int) := by omega
  have hlt := hh.lt
  clear ht h1 h0 h8 hh
  go_enter Tryz.func112, Tryz.ntmps112
  go_wp2_with (first
    | (go_at_call 114; (with_reducible refine (HC.out _).mono ?_); rintro e w' ⟨rfl, rfl⟩)
    | (go_at_call 115; (with_reducible refine (HP.out _).mono ?_); rintro e w1 ⟨c1, rfl, hr1, hb1⟩; have HR1 := Lib.hid hr1; have HB1 := Lib.hid hb1; have HH1 := Lib.hid (HH.out.keep hb1); clear hr1 hb1)
    | (refine wpl_copy_head rfl (.tmp 11) (.tmp 16) rfl b f n zs HH1.out rfl _ (putL x n) rfl HR1.out HN.out ?_; intro w2 HH2 HB2))
  go_end0
  exact ⟨rfl, HH2.out, (HB1.out.mono (Nat.le_of_lt hlt)).trans HB2.out⟩
end Go.Proofs.YtgegbpnmfpjdmaaGreatDoor
namespace Go.Proofs.YtgegbpnmfpjdmaaGreatDoor
open Go.RowKit
set_option maxRecDepth 8000 in
set_option maxHeartbeats 1000000 in
theorem fright_any (k e : Int) (a : Option Addr) (n cap : Nat) (w : World) :
    Calls Tryz.prog 111 #[.agg (fA k e (.slice a n cap))] w fun r w' => r = .returned (.bool (fragOk k n)) ∧ Below w.heap.size w w' := by
  obtain ⟨y, hy⟩ : ∃ y, decide (1 ≤ k ∧ k ≤ 4) = y := ⟨_, rfl⟩
  have HK : Hid (∀ w, Calls Tryz.prog 129 #[.int .i64 k] w fun e w' => e = .returned (.bool y) ∧ w = w') := Lib.hid fun w => by rw [← hy]; exact fkind_any k w
  have hall : fragOk k n = (y && decide ((n : Int) ≤ 197)) := by
    rw [← hy, Bool.eq_iff_iff]; unfold fragOk; simp; omega
  rw [hall]
  cases y with
  | false =>
    clear hy hall
    go_enter Tryz.func111, Tryz.ntmps111
    go_wp2_with (first
      | (go_at_call 129; (with_reducible refine (HK.out _).mono ?_); rintro e w' ⟨rfl, rfl⟩))
    go_ret
    exact ⟨rfl, balloc _ _⟩
  | true =>
    clear hy hall
    go_enter Tryz.func111, Tryz.ntmps111
    go_wp2_with (first
      | (go_at_call 129; (with_reducible refine (HK.out _).mono ?_); rintro e w' ⟨rfl, rfl⟩))
    go_ret
    exact ⟨rfl, balloc _ _⟩
end Go.Proofs.YtgegbpnmfpjdmaaGreatDoor
