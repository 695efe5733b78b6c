/-
  TEXTS JOINED: PlanRef, PlanRefWh, ImgSecF, ImgRefL. Each one's own words stand at its head.
-/
import Derived.Test.YthickhfbllddjaaDoorJ3
import Derived.Test.YthickhfbllddjaaDoorBelow
import Derived.Test.YthickhfbllddjaaDoorJ9
import Derived.Test.YthickhfbllddjaaDoorJ8
import Derived.Test.YthickhfbllddjaaDoorSlices
import Derived.Test.YthickhfbllddjaaDoorJB
import Derived.Test.YthickhfbllddjaaDoorJD
import Derived.Test.YthickhfbllddjaaDoorJ5
/-
  LAYER 16 (plan): what the reference's Sector, Write, Whole answer. No condition.
-/
namespace Go.Proofs.YthickhfbllddjaaDoor
open Go.RowKit
set_option maxRecDepth 8000 in
set_option maxHeartbeats 1000000 in
theorem rsector_any (x : Int) (hx : U64 x) (v : Value) (len : Nat) (zs : List Int) (hlen : len ≤ 1000000) (i : Nat) (hi : i ≤ 1000) (w : World) (h : RI .u8 w v len zs) :
    Calls Tryd.prog 43 #[.int .u64 x, v, .int .i64 (i : Int)] w fun e w' => e = .returned (.agg (sv (sealed x (i : Int) (partB zs i)))) ∧ Below w.heap.size w w' := by
  obtain ⟨w0, hw0⟩ : ∃ w0, w.alloc (.cells (sv z64) 74) = w0 := ⟨_, rfl⟩
  have hb0 := below_alloc w (.cells (sv z64) 74)
  have hs0 := alloc_size w (.cells (sv z64) 74)
  have hk0 := Blk.new w z64 z64_length
  rw [hw0] at hb0 hs0 hk0
  have HK0 := Lib.hid hk0
  have HB0 := Lib.hid hb0
  have HS0 := Lib.hid hs0
  have HW := Lib.hid hw0
  have HZ := Lib.hid z64_cells
  have HR := Lib.hid (h.keep hb0)
  have HL := Lib.hid h.length
  obtain ⟨a, cap, rfl, _⟩ := id h
  obtain ⟨p, hp⟩ : ∃ p : Nat, 52 * i = p := ⟨_, rfl⟩
  obtain ⟨m, hm⟩ : ∃ m : Nat, min 52 (len - p) = m := ⟨_, rfl⟩
  have hpi : 52 * (i : Int) = (p : Int) := by omega
  obtain ⟨l, hl⟩ : ∃ l, sealed x (i : Int) (partB zs i) = l := ⟨_, rfl⟩
  have HPT : Hid ((zs.drop p).take m = partB zs i) := Lib.hid (by
    have hzl := HL.out
    unfold partB; rw [hp, ← hm]
    by_cases h1 : 52 ≤ len - p
    · rw [Nat.min_eq_left h1]
    · rw [Nat.min_eq_right (by omega), List.take_of_length_le (by simp; omega), List.take_of_length_le (by simp; omega)])
  have HSE : Hid (∀ (v : Value) (n : Nat) (w : World), RI .u8 w v n (partB zs i) → Calls Tryd.prog 54 #[.int .u64 x, .int .i64 (i : Int), v] w fun e w' => e = .returned (.agg (sv l)) ∧ Below w.heap.size w w') := fun v n w h => by
    rw [← hl]; exact rseal_any x i hx (by unfold I63; omega) v n _ w h
  have HLL := Lib.hid (show l.length = 64 from by rw [← hl]; exact sealed_length _ _ _)
  have hp2 : p ≤ 52000 := by omega
  have hm52 : m ≤ 52 := by omega
  have hml : m ≤ len - p := by omega
  have HM := Lib.hid hm
  rw [hl]
  clear hk0 hb0 hs0 hw0 h hx hl hm hp
  go_enter Tryd.func43, Tryd.ntmps43
  go_wp2
  rw [← HZ.out, HW.out]
  go_loopw [7, 8] (fun v iv wr => ∃ k : Nat, iv = .int .i64 ((p + k : Nat) : Int) ∧ k ≤ m ∧ Hid (wr.ownsRow w0.heap.size 5 1 v k (il .u8 ((zs.drop p).take k))) ∧ Hid (Below w0.heap.size w0 wr)) (fun _ iv _ => p + m - (intOf iv).toNat)
  case atStart => exact ⟨0, rfl, by omega, Lib.hid (World.ownsRow_nil _ _ _ _), Lib.hid (Below.refl _ _)⟩
  case round =>
    obtain ⟨k, rfl, hk, HO, HB⟩ := hrel
    obtain ⟨q, hq⟩ : ∃ q : Nat, p + k = q := ⟨_, rfl⟩
    rw [hq]
    by_cases hlt : k < m
    · have h1 : (q : Int) < (p : Int) + 52 := by omega
      have h2 : (q : Int) < (len : Int) := by omega
      obtain ⟨b, off, cp, e, _, _, hcell⟩ := (HR.out.keep HB.out).open_ (by omega)
      simp only [Value.slice.injEq, true_and] at e
      obtain ⟨rfl, rfl⟩ := e
      have hc1 := hcell q (by omega)
      obtain ⟨z, hz⟩ : ∃ z, zs.getD q 0 = z := ⟨_, rfl⟩
      rw [hz] at hc1
      have HT := Lib.hid (show (zs.drop p).take (k + 1) = (zs.drop p).take k ++ [z] from by
        have hzl := HL.out
        rw [← hz, List.take_add_one, List.getElem?_drop, hq, List.getElem?_eq_getElem (by omega)]
        simp [List.getD, List.getElem?_eq_getElem (show q < zs.length by omega)])
      have HQ := Lib.hid hq
      clear hz hcell hq
      go_wp2_with (first
        | (at_builtin; refine wpl_app1 rfl (.tmp 24) (.tmp 29) 38 rfl 5 .u8 1 Tryd.underlying38 Tryd.info_u8 w0.heap.size _ k ((zs.drop p).take k) rfl (HO.out.alloc _) ⟨wr.heap.size, 0, none⟩ z rfl (by simp) (by omega) (by omega) w0.heap.size w0 (HB.out.alloc HB.out.size _) (Nat.le_refl _) (by have := HB.out.size; simp; omega) ?_; intro v' w3 HO3 HB3))
      go_roundw
      case rel => exact ⟨k + 1, by rw [← Nat.add_assoc, HQ.out]; go_num, by omega, Lib.hid (by rw [HT.out]; exact HO3.out), HB3⟩
      case measure => simp [intOf]; have := HQ.out; omega
    · obtain rfl : k = m := by omega
      have HRP := Lib.hid (HPT.out ▸ RI.own HO.out)
      have HK1 := Lib.hid (HK0.out.keep HB.out)
      have HB1 := Lib.hid (bch HB0.out HB.out)
      by_cases h1 : (q : Int) < (p : Int) + 52
      · have h2 : ¬ (q : Int) < (len : Int) := by have := HM.out; omega
        go_wp2_with (first
          | (go_at_call 54; (refine (HSE.out _ _ _ HRP.out).mono ?_); rintro e w4 ⟨rfl, hb⟩; have HK4 := Lib.hid (HK1.out.keep hb); have HB4 := Lib.hid (bch HB1.out hb); clear hb)
          | (refine wpList_store_row rfl 74 _ _ rfl w.heap.size (sv l) rfl rfl _ (sv z64) HK4.out.1 (sv_info _ HLL.out) (by rw [sv_size, sv_size, HLL.out, z64_length]) (sv_one _) ?_))
        exact bodyPost_ret_by (v := .agg (sv l)) (results_cell_row rfl _ _ w.heap.size _ (sv l) (0, 0) _ rfl (HK4.out.row HLL.out).1 Tryd.underlying74 rfl (sv_info _ HLL.out)) rfl ⟨rfl, below_row HB4.out (Nat.le_refl _) _⟩
      · go_wp2_with (first
          | (go_at_call 54; (refine (HSE.out _ _ _ HRP.out).mono ?_); rintro e w4 ⟨rfl, hb⟩; have HK4 := Lib.hid (HK1.out.keep hb); have HB4 := Lib.hid (bch HB1.out hb); clear hb)
          | (refine wpList_store_row rfl 74 _ _ rfl w.heap.size (sv l) rfl rfl _ (sv z64) HK4.out.1 (sv_info _ HLL.out) (by rw [sv_size, sv_size, HLL.out, z64_length]) (sv_one _) ?_))
        exact bodyPost_ret_by (v := .agg (sv l)) (results_cell_row rfl _ _ w.heap.size _ (sv l) (0, 0) _ rfl (HK4.out.row HLL.out).1 Tryd.underlying74 rfl (sv_info _ HLL.out)) rfl ⟨rfl, below_row HB4.out (Nat.le_refl _) _⟩
end Go.Proofs.YthickhfbllddjaaDoor
/-
  LAYER 16 (plan): what the reference's Write and Whole answer. No condition.
-/
namespace Go.Proofs.YthickhfbllddjaaDoor
open Go.RowKit
set_option maxRecDepth 8000 in
set_option maxHeartbeats 1000000 in
theorem rwhole_any (x : Int) (hx : U64 x) (v : Value) (len : Nat) (zs : List Int) (hlen : len ≤ 1000000) (t : Int) (ht : I63 t) (w : World) (h : RI .u8 w v len zs) :
    Calls Tryd.prog 26 #[.int .u64 x, v, .int .i64 t] w fun e w' => ∃ v', e = .returned v' ∧ FS w' v' 16 (wholeK x zs (touchN 0 (nr t)).2 16) ∧ Below w.heap.size w w' := by
  have h00 : nr 0 = 0 := by decide
  have HT : Hid (∀ w : World, Calls Tryd.prog 42 #[.int .i64 0, .int .i64 t] w fun e w' => e = .returned (.tuple #[.int .i64 ((touchN 0 (nr t)).1 : Int), .int .i64 ((touchN 0 (nr t)).2 : Int)]) ∧ w' = w) := fun w => by
    have := rtouch_any 0 t (by unfold I63; omega) ht w
    rwa [h00] at this
  obtain ⟨_, hb16, _⟩ := touch_le 0 (nr t) (nr_le t)
  generalize (touchN 0 (nr t)).2 = b at *
  generalize (touchN 0 (nr t)).1 = a at *
  have HR := Lib.hid h
  have HX := Lib.hid hx
  have HZ := Lib.hid z64_cells
  clear h hx ht h00
  go_enter Tryd.func26, Tryd.ntmps26
  go_wp2_with (first
    | (go_at_call 42; (with_reducible refine (HT.out _).mono ?_); rintro e w1 ⟨rfl, hw⟩; obtain rfl := hw.symm))
  go_loopw [9, 10] (fun v iv wr => ∃ k : Nat, iv = .int .i64 (k : Int) ∧ k ≤ 16 ∧ Hid (wr.ownsRow w.heap.size 74 64 v k (il .u8 (wholeK x zs b k))) ∧ Hid (Below w.heap.size w wr)) (fun _ iv _ => 16 - (intOf iv).toNat)
  case atStart => exact ⟨0, rfl, by omega, Lib.hid (World.ownsRow_nil _ _ _ _), Lib.hid (Below.refl _ _)⟩
  case round =>
    obtain ⟨k, rfl, hk, HO, HB⟩ := hrel
    by_cases hlt : (k : Int) < 16
    · by_cases hkb : (k : Int) < (b : Int)
      · obtain ⟨l, hl⟩ : ∃ l, sealed x (k : Int) (partB zs k) = l := ⟨_, rfl⟩
        have HLL := Lib.hid (show l.length = 64 from by rw [← hl]; exact sealed_length _ _ _)
        have HNX := Lib.hid (show wholeK x zs b k ++ l = wholeK x zs b (k + 1) from by rw [wholeK, hl, if_pos (by omega)])
        have HS : Hid (∀ (w : World), RI .u8 w v len zs → Calls Tryd.prog 43 #[.int .u64 x, v, .int .i64 (k : Int)] w fun e w' => e = .returned (.agg (sv l)) ∧ Below w.heap.size w w') := fun w h => by
          rw [← hl]; exact rsector_any x HX.out v len zs hlen k (by omega) w h
        have HR1 := Lib.hid (HR.out.keep HB.out)
        clear hl
        go_wp2_with (first
          | (go_at_call 43; (with_reducible refine (HS.out _ HR1.out).mono ?_); rintro e w3 ⟨rfl, hb⟩; have HO3 := Lib.hid (own_keep HO.out hb); have HB3 := Lib.hid (bch HB.out hb); clear hb)
          | (refine wpl_build_sec rfl _ rfl l HLL.out rfl ?_)
          | (at_builtin; refine wpl_app_sec rfl (.tmp 23) (.tmp 28) rfl w.heap.size _ k _ rfl (HO3.out.alloc _) w3.heap.size l rfl (Blk.new w3 l HLL.out) (by omega) w.heap.size w (HB3.out.alloc HB3.out.size _) (Nat.le_refl _) (by have := HB3.out.size; simp; omega) ?_; intro v' w4 HO4 HB4; have HO4 := Lib.hid (HNX.out ▸ HO4.out)))
        go_roundw
        case rel => exact ⟨k + 1, by go_num, by omega, HO4, HB4⟩
        case measure => simp [intOf]; omega
      · have HNX := Lib.hid (show wholeK x zs b k ++ z64 = wholeK x zs b (k + 1) from by rw [wholeK, if_neg (by omega)])
        go_wp2_with (first
          | (rw [← HZ.out]; refine wpl_build_sec rfl _ rfl z64 z64_length rfl ?_)
          | (refine wpl_build_sec rfl _ rfl z64 z64_length (by rw [HZ.out]; rfl) ?_)
          | (at_builtin; refine wpl_app_sec rfl (.tmp 30) (.tmp 32) rfl w.heap.size _ k _ rfl (HO.out.alloc _) wr.heap.size z64 rfl (Blk.new wr z64 z64_length) (by omega) w.heap.size w (HB.out.alloc HB.out.size _) (Nat.le_refl _) (by have := HB.out.size; simp; omega) ?_; intro v' w4 HO4 HB4; have HO4 := Lib.hid (HNX.out ▸ HO4.out)))
        go_roundw
        case rel => exact ⟨k + 1, by go_num, by omega, HO4, HB4⟩
        case measure => simp [intOf]; omega
    · obtain rfl : k = 16 := by omega
      go_wp2
      go_ret
      exact ⟨_, rfl, FS.own HO.out, HB.out⟩
end Go.Proofs.YthickhfbllddjaaDoor
/-
  LAYER 17 (image): what Sectors is to answer. No condition.
-/
namespace Go.Proofs.YthickhfbllddjaaDoor
open Go.RowKit
/-- what Sectors answers -/
def SecF (w : World) (ls : List (List Int)) (ep : Int) (e : Ending) (w' : World) : Prop :=
  (fitsF ls = true ∧ ∃ v, e = .returned (.tuple #[v, .bool true]) ∧ FS w' v 16 (wholeK ep (bodyF (ep % 4294967296) ls) (touchN 0 (endF ls)).2 16) ∧ Below w.heap.size w w') ∨
  (fitsF ls = false ∧ e = .returned (.tuple #[.slice none 0 0, .bool false]) ∧ Below w.heap.size w w')
end Go.Proofs.YthickhfbllddjaaDoor
/-
  LAYER 17 (image): what the reference's Lay and Sectors answer, of any records that lie somewhere, of any number.
-/
namespace Go.Proofs.YthickhfbllddjaaDoor
open Go.RowKit
theorem Tryd.info_i64 : (Tryd.prog.info? 3).map (fun i => (i.zero, i.size, i.bytes)) = some (some (.int .i64 0), 1, 8) := by kernel_rfl
theorem results_tmp4 {fn : Func} {t u v x : Tmp} (h : fn.results = #[.tmp t, .tmp u, .tmp v, .tmp x]) (tmps : Array Value) (P : Program) (w : World) :
    (results fn tmps).run P w = .ok (.tuple #[tmps.getD t undef, tmps.getD u undef, tmps.getD v undef, tmps.getD x undef]) w := by
  simp [results, h]
theorem YB.ne_own {w : World} {g : Nat} {zs : List Int} (h : YB w g zs) {base n : Nat} {u : Value} {xs : List Value} (ho : w.ownsRow base 3 1 u n xs) : u.ownBlock ≠ some g := by
  intro hq
  rcases ho.2 with ⟨rfl, _⟩ | ⟨q, cap, cur, rfl, _, hcur, _⟩
  · simp [Value.ownBlock] at hq
  · simp only [Value.ownBlock, Option.some.injEq] at hq
    subst hq
    unfold YB at h
    rw [h] at hcur
    simp only [Option.some.injEq, Obj.cells.injEq] at hcur
    exact absurd hcur.2.1 (by decide)
theorem YB.grown {w w' : World} {g : Nat} {zs : List Int} (h : YB w g zs) {base n : Nat} {u : Value} {xs : List Value} (ho : w.ownsRow base 3 1 u n xs) (hg : w.grownBy w' u.ownBlock) : YB w' g zs :=
  (hg.block g h.lt (fun e => h.ne_own ho e.symm)).trans h
theorem ri_new1 (w : World) (x : Int) : RI .i64 (w.alloc (.cells #[.int .i64 x] 3)) (.slice (some ⟨w.heap.size, 0, none⟩) 1 1) 1 [x] := by
  refine ⟨_, 1, rfl, rfl, Nat.le_refl _, by omega, fun h => by simp at h, fun _ => ⟨w.heap.size, 0, rfl, fun j hj => ?_⟩⟩
  obtain rfl : j = 0 := by omega
  rw [Nat.zero_add, cell_of_row _ w.heap.size 0 _ _ _ (heap_alloc_last w _)]
  rfl
/-- as many records as fit are few -/
theorem good_few {ls : List (List Int)} : ∀ {k : Nat}, GoodF ls k → k ≤ ls.length → k ≤ endF (ls.take k)
  | 0, _, _ => Nat.zero_le _
  | k + 1, h, hk => by
    have ih := good_few (k := k) (fun j hj => h j (by omega)) (by omega)
    have h1 := (end_gt (h k (by omega))).1
    rw [nr_nat _ (endF_le _)] at h1
    rw [endF_next ls k (by omega)]
    omega
/-- what Lay answers -/
def LayF (w : World) (ls : List (List Int)) (e32 : Int) (N : Nat) (e : Ending) (w' : World) : Prop :=
  (fitsF ls = true ∧ ∃ g pa pc, e = .returned (.tuple #[.slice (some ⟨g, 0, none⟩) 832 832, .slice pa N pc, .int .i64 (endF ls : Nat), .bool true]) ∧ YB w' g (bodyF e32 ls) ∧ w'.ownsRow w.heap.size 3 1 (.slice pa N pc) N (il .i64 (placesF ls)) ∧ Below w.heap.size w w') ∨
  (fitsF ls = false ∧ e = .returned (.tuple #[.slice none 0 0, .slice none 0 0, .int .i64 0, .bool false]) ∧ Below w.heap.size w w')
set_option maxRecDepth 8000 in
set_option maxHeartbeats 8000000 in
theorem rlay_any (ep : Int) (hep : U64 ep) (lv : Value) (N : Nat) (ls : List (List Int)) (hN : (N : Int) ≤ 9223372036854775807) (hlb : ∀ l ∈ ls, isB l) (w : World) (hrl : RL .u8 w lv N ls) :
    Calls Tryd.prog 14 #[.int .u64 ep, lv] w (LayF w ls (ep % 4294967296) N) := by
  have hll := hrl.length
  obtain ⟨la, lc, rfl, _⟩ := hrl.form
  obtain ⟨e32, he⟩ : ∃ e32, ep % 4294967296 = e32 := ⟨_, rfl⟩
  rw [he]
  have HAF : Hid (∀ (a : Nat) (b : List Int) (bv dv : Value) (n : Nat) (zs : List Int) (w : World), a ≤ 832 → isB zs → b.length = 832 → RI .u8 w bv 832 b → RI .u8 w dv n zs → fitI (a : Nat) n = true → Calls Tryd.prog 27 #[.int .u64 ep, bv, .int .i64 (a : Nat), dv] w fun e w' => ∃ g, e = .returned (.tuple #[.slice (some ⟨g, 0, none⟩) 832 832, .int .i64 (endI (a : Nat) n : Nat), .bool true]) ∧
      YB w' g (layR e32 b (a : Nat) zs) ∧ w.heap.size ≤ g ∧ Below w.heap.size w w') := Lib.hid fun a b bv dv n zs w h1 h2 h3 h4 h5 h6 => by
    have := radd_fit ep (a : Nat) (by unfold I63; omega) hep bv 832 b dv n zs h2 w h4 h5 h6
    rwa [he, pad8_full h3] at this
  have HLL := Lib.hid hll
  have HLB := Lib.hid hlb
  have HRL := Lib.hid hrl
  have HBG : Hid (∀ (a : Nat) (w : World), a ≤ 832 → Calls Tryd.prog 20 #[.int .i64 (a : Nat)] w fun e w' => e = .returned (.int .i64 (beginN a : Int)) ∧ w = w') := Lib.hid fun a w h => (rbegin_any a (by unfold I63; omega) w).mono fun e w' ⟨h1, h2⟩ => ⟨by rw [h1, nr_nat _ h], h2.symm⟩
  clear hep hll hlb hrl he
  go_enter Tryd.func14, Tryd.ntmps14
  go_wp2_with (first
    | (refine wpl_mk_yb rfl _ _ rfl 832 rfl rfl (by omega) ?_; intro g0 w1 HY1 HG1 HB1))
  go_loopw [8, 9, 10, 11, 12] (fun bv pv ev kv iv wr => ∃ (i g : Nat) (pa : Option Addr) (pc a : Nat), iv = .int .i64 (i : Int) ∧ kv = .bool true ∧ bv = .slice (some ⟨g, 0, none⟩) 832 832 ∧ pv = .slice pa i pc ∧ ev = .int .i64 (a : Int) ∧ i ≤ N ∧ a ≤ 832 ∧ Hid (endF (ls.take i) = a) ∧ Hid (GoodF ls i) ∧ Hid (YB wr g (bodyF e32 (ls.take i))) ∧ Hid (wr.ownsRow w.heap.size 3 1 (.slice pa i pc) i (il .i64 (placesF (ls.take i)))) ∧ Hid (Below w.heap.size w wr)) (fun _ _ _ _ iv _ => N - (intOf iv).toNat)
  case atStart => exact ⟨0, g0, none, 0, 0, rfl, rfl, rfl, rfl, rfl, by omega, by omega, Lib.hid (by simp [endF_nil]), Lib.hid (GoodF.zero ls), Lib.hid (by rw [List.take_zero, bodyF_nil]; exact HY1.out), Lib.hid (World.ownsRow_nil _ _ _ _), HB1⟩
  case round =>
    obtain ⟨i, g, pa, pc, a, rfl, rfl, rfl, rfl, rfl, hi, ha, HA, HGD, HY, HO, HB⟩ := hrel
    have hi8 : i ≤ 832 := by have h1 := good_few HGD.out (by rw [HLL.out]; exact hi); rw [HA.out] at h1; omega
    by_cases hlt : (i : Int) < (N : Int)
    · obtain ⟨b, off, rfl, hat⟩ := HRL.out.at_ (by omega)
      obtain ⟨x, c, hc, hr⟩ := hat i (by omega)
      obtain ⟨zs, hzs⟩ : ∃ zs, ls.getD i [] = zs := ⟨_, rfl⟩
      rw [hzs] at hc hr
      obtain ⟨n, hn⟩ : ∃ n, zs.length = n := ⟨_, rfl⟩
      rw [hn] at hc hr
      have hzb : isB zs := HLB.out zs (by rw [← hzs]; simp [List.getD, show i < ls.length by rw [HLL.out]; omega])
      have HPN := Lib.hid (placesF_next ls i (by rw [HLL.out]; omega))
      have HBN := Lib.hid (bodyF_next e32 ls i (by rw [HLL.out]; omega))
      have HEN := Lib.hid (endF_next ls i (by rw [HLL.out]; omega))
      rw [HA.out] at HPN HBN HEN
      rw [hzs] at HBN HEN
      rw [hn] at HEN
      obtain ⟨bg, hbg⟩ : ∃ bg, beginN a = bg := ⟨_, rfl⟩
      have H1 := HBG.out a
      rw [hbg] at H1 HPN
      have H1 := Lib.hid H1
      have HC := Lib.hid hc
      have HR := Lib.hid hr
      have HZB := Lib.hid hzb
      have HBL := Lib.hid (bodyF_at e32 ls i (by rw [HLL.out]; omega))
      have HIN : Hid (i + 1 ≤ ls.length) := Lib.hid (by rw [HLL.out]; omega)
      have HFT : Hid (fitI (endF (ls.take i) : Nat) (ls.getD i []).length = fitI (a : Nat) n) := Lib.hid (by rw [HA.out, hzs, hn])
      obtain ⟨a9, ha9⟩ : ∃ a9, endI (a : Nat) n = a9 := ⟨_, rfl⟩
      have ha98 : a9 ≤ 832 := by rw [← ha9]; exact end_le _ _
      rw [ha9] at HEN
      have HA1 : ∀ (bv dv : Value) (w : World), RI .u8 w bv 832 (bodyF e32 (ls.take i)) → RI .u8 w dv n zs → fitI (a : Nat) n = true → Calls Tryd.prog 27 #[.int .u64 ep, bv, .int .i64 (a : Nat), dv] w fun e w' => ∃ g, e = .returned (.tuple #[.slice (some ⟨g, 0, none⟩) 832 832, .int .i64 (a9 : Nat), .bool true]) ∧ YB w' g (bodyF e32 (ls.take (i + 1))) ∧ w.heap.size ≤ g ∧ Below w.heap.size w w' := fun bv dv w h1 h2 h3 => by
        rw [HBN.out, ← ha9]; exact HAF.out a _ bv dv n zs w ha HZB.out HBL.out h1 h2 h3
      have HA1 := Lib.hid HA1
      have HA0 : ∀ (bv : Value) (w : World), fitI (a : Nat) n = false → Calls Tryd.prog 27 #[.int .u64 ep, bv, .int .i64 (a : Nat), .slice x n c] w fun e w' => e = .returned (.tuple #[.slice none 0 0, .int .i64 0, .bool false]) ∧ Below w.heap.size w w' := fun bv w h => radd_no ep (a : Nat) (by unfold I63; omega) bv x n c (by have := HR.out.le; omega) w h
      have HA0 := Lib.hid HA0
      clear hc hr hzb hat hzs hn ha9 hbg
      cases hf : fitI (a : Nat) n with
      | true =>
        have HA2 : Hid (∀ (bv dv : Value) (w : World), RI .u8 w bv 832 (bodyF e32 (ls.take i)) → RI .u8 w dv n zs → Calls Tryd.prog 27 #[.int .u64 ep, bv, .int .i64 (a : Nat), dv] w fun e w' => ∃ g, e = .returned (.tuple #[.slice (some ⟨g, 0, none⟩) 832 832, .int .i64 (a9 : Nat), .bool true]) ∧ YB w' g (bodyF e32 (ls.take (i + 1))) ∧ w.heap.size ≤ g ∧ Below w.heap.size w w') := Lib.hid fun bv dv w h1 h2 => HA1.out bv dv w h1 h2 hf
        have HGN : Hid (GoodF ls (i + 1)) := Lib.hid (HGD.out.next (by rw [HFT.out]; exact hf))
        clear HA1 HA0 hf
        go_wp2_with (first
          | (go_at_call 20; (with_reducible refine (H1.out _ ha).mono ?_); rintro e w' ⟨rfl, rfl⟩)
          | (at_builtin; refine wpl_appw rfl (.tmp 20) (.tmp 23) 26 rfl 3 .i64 8 Tryd.underlying26 Tryd.info_i64 w.heap.size _ i _ rfl (HO.out.alloc _) _ 1 [(bg : Int)] rfl (ri_new1 wr bg) (by omega) (by omega) (by have := HB.out.size; simp; omega) ?_; intro v2 w2 HO2 HG2 _; rw [← HPN.out] at HO2; obtain ⟨a2, c2, rfl⟩ := own_form HO2.out; have HY2 := Lib.hid ((HY.out.keep (balloc wr _)).grown (HO.out.alloc _) HG2.out); have HB2 : Hid (Below w.heap.size w w2) := Lib.hid ((HB.out.alloc HB.out.size _).grown HG2.out (by have := HB.out.size; simp; omega) (fun q hq => (HO.out.lt q hq).1)); have hc2 := cell_keep HB2.out HC.out)
          | (go_at_call 27; (with_reducible refine (HA2.out _ _ _ (HY2.out.ri HBL.out (by omega)) (HR.out.keep HB2.out)).mono ?_); rintro e w3 ⟨g3, rfl, hy, _, hb⟩; have HY3 := Lib.hid hy; have HO3 := Lib.hid (own_keep HO2.out hb); have HB3 := Lib.hid (bch HB2.out hb); clear hy hb))
        go_roundw
        case rel => exact ⟨i + 1, g3, a2, c2, a9, by go_num, rfl, rfl, rfl, rfl, by omega, ha98, HEN, HGN, HY3, HO3, HB3⟩
        case measure => simp [intOf]; omega
      | false =>
        have HA2 : Hid (∀ (bv : Value) (w : World), Calls Tryd.prog 27 #[.int .u64 ep, bv, .int .i64 (a : Nat), .slice x n c] w fun e w' => e = .returned (.tuple #[.slice none 0 0, .int .i64 0, .bool false]) ∧ Below w.heap.size w w') := Lib.hid fun bv w => HA0.out bv w hf
        have HNO : Hid (fitsF ls = false) := Lib.hid (fitsF_bad ⟨i, HIN.out, by rw [HFT.out]; exact hf⟩)
        clear HA1 HA0 hf
        go_wp2_with (first
          | (go_at_call 20; (with_reducible refine (H1.out _ ha).mono ?_); rintro e w' ⟨rfl, rfl⟩)
          | (at_builtin; refine wpl_appw rfl (.tmp 20) (.tmp 23) 26 rfl 3 .i64 8 Tryd.underlying26 Tryd.info_i64 w.heap.size _ i _ rfl (HO.out.alloc _) _ 1 [(bg : Int)] rfl (ri_new1 wr bg) (by omega) (by omega) (by have := HB.out.size; simp; omega) ?_; intro v2 w2 HO2 HG2 _; rw [← HPN.out] at HO2; obtain ⟨a2, c2, rfl⟩ := own_form HO2.out; have HY2 := Lib.hid ((HY.out.keep (balloc wr _)).grown (HO.out.alloc _) HG2.out); have HB2 : Hid (Below w.heap.size w w2) := Lib.hid ((HB.out.alloc HB.out.size _).grown HG2.out (by have := HB.out.size; simp; omega) (fun q hq => (HO.out.lt q hq).1)); have hc2 := cell_keep HB2.out HC.out)
          | (go_at_call 27; (with_reducible refine (HA2.out _ _).mono ?_); rintro e w3 ⟨rfl, hb⟩; have HB3 := Lib.hid (bch HB2.out hb); clear hb))
        (try simp only [Exit.inBlock, Exit.then]); refine bodyPost_ret (results_tmp4 rfl _ _ _) rfl ?_
        exact .inr ⟨HNO.out, rfl, HB3.out⟩
    · obtain rfl : i = N := by omega
      have HFT : Hid (fitsF ls = true) := Lib.hid (fitsF_good (by rw [HLL.out]; exact HGD.out))
      have HTK : Hid (ls.take i = ls) := Lib.hid (List.take_of_length_le (by rw [HLL.out]; omega))
      rw [HTK.out] at HA HY HO
      go_wp2
      (try simp only [Exit.inBlock, Exit.then]); refine bodyPost_ret (results_tmp4 rfl _ _ _) rfl ?_
      exact .inl ⟨HFT.out, g, pa, pc, by rw [HA.out]; rfl, HY.out, HO.out, HB.out⟩
theorem lay_yes {w : World} {ls : List (List Int)} {e32 : Int} {N : Nat} {fn : Nat} {args : Array Value} (h : Calls Tryd.prog fn args w (LayF w ls e32 N)) (hf : fitsF ls = true) :
    Calls Tryd.prog fn args w fun e w' => ∃ g pa pc, e = .returned (.tuple #[.slice (some ⟨g, 0, none⟩) 832 832, .slice pa N pc, .int .i64 (endF ls : Nat), .bool true]) ∧ YB w' g (bodyF e32 ls) ∧ w'.ownsRow w.heap.size 3 1 (.slice pa N pc) N (il .i64 (placesF ls)) ∧ Below w.heap.size w w' :=
  h.mono fun e w' h => by
    rcases h with ⟨_, h⟩ | ⟨h, _⟩
    · exact h
    · rw [hf] at h; cases h
theorem lay_not {w : World} {ls : List (List Int)} {e32 : Int} {N : Nat} {fn : Nat} {args : Array Value} (h : Calls Tryd.prog fn args w (LayF w ls e32 N)) (hf : fitsF ls = false) :
    Calls Tryd.prog fn args w fun e w' => e = .returned (.tuple #[.slice none 0 0, .slice none 0 0, .int .i64 0, .bool false]) ∧ Below w.heap.size w w' :=
  h.mono fun e w' h => by
    rcases h with ⟨h, _⟩ | ⟨_, h⟩
    · rw [hf] at h; cases h
    · exact h
set_option maxRecDepth 8000 in
set_option maxHeartbeats 2000000 in
theorem rsectors_any (ep : Int) (hep : U64 ep) (lv : Value) (N : Nat) (ls : List (List Int)) (hN : (N : Int) ≤ 9223372036854775807) (hlb : ∀ l ∈ ls, isB l) (w : World) (hrl : RL .u8 w lv N ls) :
    Calls Tryd.prog 12 #[.int .u64 ep, lv] w (SecF w ls ep) := by
  have HL : Hid (∀ w, RL .u8 w lv N ls → Calls Tryd.prog 14 #[.int .u64 ep, lv] w (LayF w ls (ep % 4294967296) N)) := Lib.hid fun w h => rlay_any ep hep lv N ls hN hlb w h
  have HEP := Lib.hid hep
  have HRL := Lib.hid hrl
  have HBL := Lib.hid (bodyF_len (ep % 4294967296) ls)
  have HEL := endF_le ls
  unfold SecF
  cases hf : fitsF ls with
  | true =>
    have HL2 : Hid (∀ w, RL .u8 w lv N ls → Calls Tryd.prog 14 #[.int .u64 ep, lv] w fun e w' => ∃ g pa pc, e = .returned (.tuple #[.slice (some ⟨g, 0, none⟩) 832 832, .slice pa N pc, .int .i64 (endF ls : Nat), .bool true]) ∧ YB w' g (bodyF (ep % 4294967296) ls) ∧ w'.ownsRow w.heap.size 3 1 (.slice pa N pc) N (il .i64 (placesF ls)) ∧ Below w.heap.size w w') := Lib.hid fun w h => lay_yes (HL.out w h) hf
    generalize bodyF (ep % 4294967296) ls = bd at *
    generalize endF ls = en at *
    have HW : Hid (∀ (v : Value) (w : World), RI .u8 w v 832 bd → Calls Tryd.prog 26 #[.int .u64 ep, v, .int .i64 (en : Nat)] w fun e w' => ∃ v', e = .returned v' ∧ FS w' v' 16 (wholeK ep bd (touchN 0 en).2 16) ∧ Below w.heap.size w w') := Lib.hid fun v w h => by
      have := rwhole_any ep hep v 832 bd (by omega) (en : Nat) (by unfold I63; omega) w h
      rwa [nr_nat _ HEL] at this
    clear hep hlb hrl HL hf
    go_enter Tryd.func12, Tryd.ntmps12
    go_wp2_with (first
      | (go_at_call 14; (with_reducible refine (HL2.out _ HRL.out).mono ?_); rintro e w1 ⟨g1, pa, pc, rfl, hy, _, hb⟩; have HY1 := Lib.hid hy; have HB1 := Lib.hid hb; clear hy hb)
      | (go_at_call 26; (with_reducible refine (HW.out _ _ (HY1.out.ri HBL.out (by omega))).mono ?_); rintro e w2 ⟨v2, rfl, hs, hb⟩; have HS2 := Lib.hid hs; have HB2 := Lib.hid (bch HB1.out hb); clear hs hb))
    go_ret2
    exact .inl ⟨trivial, _, rfl, HS2.out, HB2.out⟩
  | false =>
    have HL2 : Hid (∀ w, RL .u8 w lv N ls → Calls Tryd.prog 14 #[.int .u64 ep, lv] w fun e w' => e = .returned (.tuple #[.slice none 0 0, .slice none 0 0, .int .i64 0, .bool false]) ∧ Below w.heap.size w w') := Lib.hid fun w h => lay_not (HL.out w h) hf
    clear hep hlb hrl HL hf HEL
    go_enter Tryd.func12, Tryd.ntmps12
    go_wp2_with (first
      | (go_at_call 14; (with_reducible refine (HL2.out _ HRL.out).mono ?_); rintro e w1 ⟨rfl, hb⟩; have HB1 := Lib.hid hb; clear hb))
    go_ret2
    exact .inr ⟨trivial, rfl, HB1.out⟩
end Go.Proofs.YthickhfbllddjaaDoor
