/-
  TEXTS JOINED: PlanRefWh, ImgSecF, ImgRefL, TearDef, FragKind, FragDec, SpanCode. Each one's own words stand at its head.
-/
import Derived.Test.YtepaghohojomeaaDoorJ4
import Derived.Test.YtepaghohojomeaaDoorJ11
import Derived.Test.YtepaghohojomeaaDoorJ5
import Derived.Test.YtepaghohojomeaaDoorJ7
import Derived.Test.YtepaghohojomeaaDoorJ8
import Derived.Test.YtepaghohojomeaaDoorJ9
import Derived.Test.YtepaghohojomeaaDoorJ3
/-
  LAYER 16 (plan): what the reference's Write and Whole answer. No condition.
-/
namespace Go.Proofs.YtepaghohojomeaaDoor
open Go.RowKit
set_option maxRecDepth 8000 in
set_option maxHeartbeats 1000000 in
theorem rwhole_any (x : Int) (hx : U64 x) (v : Value) (len : Nat) (zs : List Int) (hlen : len ≤ 1000000) (t : Int) (ht : I63 t) (w : World) (h : RI .u8 w v len zs) :
    Calls Tryd.prog 29 #[.int .u64 x, v, .int .i64 t] w fun e w' => ∃ v', e = .returned v' ∧ FS w' v' 16 (wholeK x zs (touchN 0 (nr t)).2 16) ∧ Below w.heap.size w w' := by
  have h00 : nr 0 = 0 := by decide
  have HT : Hid (∀ w : World, Calls Tryd.prog 54 #[.int .i64 0, .int .i64 t] w fun e w' => e = .returned (.tuple #[.int .i64 ((touchN 0 (nr t)).1 : Int), .int .i64 ((touchN 0 (nr t)).2 : Int)]) ∧ w' = w) := fun w => by
    have := rtouch_any 0 t (by unfold I63; omega) ht w
    rwa [h00] at this
  obtain ⟨_, hb16, _⟩ := touch_le 0 (nr t) (nr_le t)
  generalize (touchN 0 (nr t)).2 = b at *
  generalize (touchN 0 (nr t)).1 = a at *
  have HR := Lib.hid h
  have HX := Lib.hid hx
  have HZ := Lib.hid z64_cells
  clear h hx ht h00
  go_enter Tryd.func29, Tryd.ntmps29
  go_wp2_with (first
    | (go_at_call 54; (with_reducible refine (HT.out _).mono ?_); rintro e w1 ⟨rfl, hw⟩; obtain rfl := hw.symm))
  go_loopw [9, 10] (fun v iv wr => ∃ k : Nat, iv = .int .i64 (k : Int) ∧ k ≤ 16 ∧ Hid (wr.ownsRow w.heap.size 28 64 v k (il .u8 (wholeK x zs b k))) ∧ Hid (Below w.heap.size w wr)) (fun _ iv _ => 16 - (intOf iv).toNat)
  case atStart => exact ⟨0, rfl, by omega, Lib.hid (World.ownsRow_nil _ _ _ _), Lib.hid (Below.refl _ _)⟩
  case round =>
    obtain ⟨k, rfl, hk, HO, HB⟩ := hrel
    by_cases hlt : (k : Int) < 16
    · by_cases hkb : (k : Int) < (b : Int)
      · obtain ⟨l, hl⟩ : ∃ l, sealed x (k : Int) (partB zs k) = l := ⟨_, rfl⟩
        have HLL := Lib.hid (show l.length = 64 from by rw [← hl]; exact sealed_length _ _ _)
        have HNX := Lib.hid (show wholeK x zs b k ++ l = wholeK x zs b (k + 1) from by rw [wholeK, hl, if_pos (by omega)])
        have HS : Hid (∀ (w : World), RI .u8 w v len zs → Calls Tryd.prog 55 #[.int .u64 x, v, .int .i64 (k : Int)] w fun e w' => e = .returned (.agg (sv l)) ∧ Below w.heap.size w w') := fun w h => by
          rw [← hl]; exact rsector_any x HX.out v len zs hlen k (by omega) w h
        have HR1 := Lib.hid (HR.out.keep HB.out)
        clear hl
        go_wp2_with (first
          | (go_at_call 55; (with_reducible refine (HS.out _ HR1.out).mono ?_); rintro e w3 ⟨rfl, hb⟩; have HO3 := Lib.hid (own_keep HO.out hb); have HB3 := Lib.hid (bch HB.out hb); clear hb)
          | (refine wpl_build_sec rfl _ rfl l HLL.out rfl ?_)
          | (at_builtin; refine wpl_app_sec rfl (.tmp 23) (.tmp 28) rfl w.heap.size _ k _ rfl (HO3.out.alloc _) w3.heap.size l rfl (Blk.new w3 l HLL.out) (by omega) w.heap.size w (HB3.out.alloc HB3.out.size _) (Nat.le_refl _) (by have := HB3.out.size; simp; omega) ?_; intro v' w4 HO4 HB4; have HO4 := Lib.hid (HNX.out ▸ HO4.out)))
        go_roundw
        case rel => exact ⟨k + 1, by go_num, by omega, HO4, HB4⟩
        case measure => simp [intOf]; omega
      · have HNX := Lib.hid (show wholeK x zs b k ++ z64 = wholeK x zs b (k + 1) from by rw [wholeK, if_neg (by omega)])
        go_wp2_with (first
          | (rw [← HZ.out]; refine wpl_build_sec rfl _ rfl z64 z64_length rfl ?_)
          | (refine wpl_build_sec rfl _ rfl z64 z64_length (by rw [HZ.out]; rfl) ?_)
          | (at_builtin; refine wpl_app_sec rfl (.tmp 30) (.tmp 32) rfl w.heap.size _ k _ rfl (HO.out.alloc _) wr.heap.size z64 rfl (Blk.new wr z64 z64_length) (by omega) w.heap.size w (HB.out.alloc HB.out.size _) (Nat.le_refl _) (by have := HB.out.size; simp; omega) ?_; intro v' w4 HO4 HB4; have HO4 := Lib.hid (HNX.out ▸ HO4.out)))
        go_roundw
        case rel => exact ⟨k + 1, by go_num, by omega, HO4, HB4⟩
        case measure => simp [intOf]; omega
    · obtain rfl : k = 16 := by omega
      go_wp2
      go_ret
      exact ⟨_, rfl, FS.own HO.out, HB.out⟩
end Go.Proofs.YtepaghohojomeaaDoor
/-
  LAYER 17 (image): what Sectors is to answer. No condition.
-/
namespace Go.Proofs.YtepaghohojomeaaDoor
open Go.RowKit
/-- what Sectors answers -/
def SecF (w : World) (ls : List (List Int)) (ep : Int) (e : Ending) (w' : World) : Prop :=
  (fitsF ls = true ∧ ∃ v, e = .returned (.tuple #[v, .bool true]) ∧ FS w' v 16 (wholeK ep (bodyF (ep % 4294967296) ls) (touchN 0 (endF ls)).2 16) ∧ Below w.heap.size w w') ∨
  (fitsF ls = false ∧ e = .returned (.tuple #[.slice none 0 0, .bool false]) ∧ Below w.heap.size w w')
end Go.Proofs.YtepaghohojomeaaDoor
/-
  LAYER 17 (image): what the reference's Lay and Sectors answer, of any records that lie somewhere, of any number.
-/
namespace Go.Proofs.YtepaghohojomeaaDoor
open Go.RowKit
theorem Tryd.info_i64 : (Tryd.prog.info? 3).map (fun i => (i.zero, i.size, i.bytes)) = some (some (.int .i64 0), 1, 8) := by kernel_rfl
theorem results_tmp4 {fn : Func} {t u v x : Tmp} (h : fn.results = #[.tmp t, .tmp u, .tmp v, .tmp x]) (tmps : Array Value) (P : Program) (w : World) :
    (results fn tmps).run P w = .ok (.tuple #[tmps.getD t undef, tmps.getD u undef, tmps.getD v undef, tmps.getD x undef]) w := by
  simp [results, h]
theorem YB.ne_own {w : World} {g : Nat} {zs : List Int} (h : YB w g zs) {base n : Nat} {u : Value} {xs : List Value} (ho : w.ownsRow base 3 1 u n xs) : u.ownBlock ≠ some g := by
  intro hq
  rcases ho.2 with ⟨rfl, _⟩ | ⟨q, cap, cur, rfl, _, hcur, _⟩
  · simp [Value.ownBlock] at hq
  · simp only [Value.ownBlock, Option.some.injEq] at hq
    subst hq
    unfold YB at h
    rw [h] at hcur
    simp only [Option.some.injEq, Obj.cells.injEq] at hcur
    exact absurd hcur.2.1 (by decide)
theorem YB.grown {w w' : World} {g : Nat} {zs : List Int} (h : YB w g zs) {base n : Nat} {u : Value} {xs : List Value} (ho : w.ownsRow base 3 1 u n xs) (hg : w.grownBy w' u.ownBlock) : YB w' g zs :=
  (hg.block g h.lt (fun e => h.ne_own ho e.symm)).trans h
theorem ri_new1 (w : World) (x : Int) : RI .i64 (w.alloc (.cells #[.int .i64 x] 3)) (.slice (some ⟨w.heap.size, 0, none⟩) 1 1) 1 [x] := by
  refine ⟨_, 1, rfl, rfl, Nat.le_refl _, by omega, fun h => by simp at h, fun _ => ⟨w.heap.size, 0, rfl, fun j hj => ?_⟩⟩
  obtain rfl : j = 0 := by omega
  rw [Nat.zero_add, cell_of_row _ w.heap.size 0 _ _ _ (heap_alloc_last w _)]
  rfl
/-- as many records as fit are few -/
theorem good_few {ls : List (List Int)} : ∀ {k : Nat}, GoodF ls k → k ≤ ls.length → k ≤ endF (ls.take k)
  | 0, _, _ => Nat.zero_le _
  | k + 1, h, hk => by
    have ih := good_few (k := k) (fun j hj => h j (by omega)) (by omega)
    have h1 := (end_gt (h k (by omega))).1
    rw [nr_nat _ (endF_le _)] at h1
    rw [endF_next ls k (by omega)]
    omega
/-- what Lay answers -/
def LayF (w : World) (ls : List (List Int)) (e32 : Int) (N : Nat) (e : Ending) (w' : World) : Prop :=
  (fitsF ls = true ∧ ∃ g pa pc, e = .returned (.tuple #[.slice (some ⟨g, 0, none⟩) 832 832, .slice pa N pc, .int .i64 (endF ls : Nat), .bool true]) ∧ YB w' g (bodyF e32 ls) ∧ w'.ownsRow w.heap.size 3 1 (.slice pa N pc) N (il .i64 (placesF ls)) ∧ Below w.heap.size w w') ∨
  (fitsF ls = false ∧ e = .returned (.tuple #[.slice none 0 0, .slice none 0 0, .int .i64 0, .bool false]) ∧ Below w.heap.size w w')
set_option maxRecDepth 8000 in
set_option maxHeartbeats 8000000 in
theorem rlay_any (ep : Int) (hep : U64 ep) (lv : Value) (N : Nat) (ls : List (List Int)) (hN : (N : Int) ≤ 9223372036854775807) (hlb : ∀ l ∈ ls, isB l) (w : World) (hrl : RL .u8 w lv N ls) :
    Calls Tryd.prog 18 #[.int .u64 ep, lv] w (LayF w ls (ep % 4294967296) N) := by
  have hll := hrl.length
  obtain ⟨la, lc, rfl, _⟩ := hrl.form
  obtain ⟨e32, he⟩ : ∃ e32, ep % 4294967296 = e32 := ⟨_, rfl⟩
  rw [he]
  have HAF : Hid (∀ (a : Nat) (b : List Int) (bv dv : Value) (n : Nat) (zs : List Int) (w : World), a ≤ 832 → isB zs → b.length = 832 → RI .u8 w bv 832 b → RI .u8 w dv n zs → fitI (a : Nat) n = true → Calls Tryd.prog 33 #[.int .u64 ep, bv, .int .i64 (a : Nat), dv] w fun e w' => ∃ g, e = .returned (.tuple #[.slice (some ⟨g, 0, none⟩) 832 832, .int .i64 (endI (a : Nat) n : Nat), .bool true]) ∧
      YB w' g (layR e32 b (a : Nat) zs) ∧ w.heap.size ≤ g ∧ Below w.heap.size w w') := Lib.hid fun a b bv dv n zs w h1 h2 h3 h4 h5 h6 => by
    have := radd_fit ep (a : Nat) (by unfold I63; omega) hep bv 832 b dv n zs h2 w h4 h5 h6
    rwa [he, pad8_full h3] at this
  have HLL := Lib.hid hll
  have HLB := Lib.hid hlb
  have HRL := Lib.hid hrl
  have HBG : Hid (∀ (a : Nat) (w : World), a ≤ 832 → Calls Tryd.prog 30 #[.int .i64 (a : Nat)] w fun e w' => e = .returned (.int .i64 (beginN a : Int)) ∧ w = w') := Lib.hid fun a w h => (rbegin_any a (by unfold I63; omega) w).mono fun e w' ⟨h1, h2⟩ => ⟨by rw [h1, nr_nat _ h], h2.symm⟩
  clear hep hll hlb hrl he
  go_enter Tryd.func18, Tryd.ntmps18
  go_wp2_with (first
    | (refine wpl_mk_yb rfl _ _ rfl 832 rfl rfl (by omega) ?_; intro g0 w1 HY1 HG1 HB1))
  go_loopw [8, 9, 10, 11, 12] (fun bv pv ev kv iv wr => ∃ (i g : Nat) (pa : Option Addr) (pc a : Nat), iv = .int .i64 (i : Int) ∧ kv = .bool true ∧ bv = .slice (some ⟨g, 0, none⟩) 832 832 ∧ pv = .slice pa i pc ∧ ev = .int .i64 (a : Int) ∧ i ≤ N ∧ a ≤ 832 ∧ Hid (endF (ls.take i) = a) ∧ Hid (GoodF ls i) ∧ Hid (YB wr g (bodyF e32 (ls.take i))) ∧ Hid (wr.ownsRow w.heap.size 3 1 (.slice pa i pc) i (il .i64 (placesF (ls.take i)))) ∧ Hid (Below w.heap.size w wr)) (fun _ _ _ _ iv _ => N - (intOf iv).toNat)
  case atStart => exact ⟨0, g0, none, 0, 0, rfl, rfl, rfl, rfl, rfl, by omega, by omega, Lib.hid (by simp [endF_nil]), Lib.hid (GoodF.zero ls), Lib.hid (by rw [List.take_zero, bodyF_nil]; exact HY1.out), Lib.hid (World.ownsRow_nil _ _ _ _), HB1⟩
  case round =>
    obtain ⟨i, g, pa, pc, a, rfl, rfl, rfl, rfl, rfl, hi, ha, HA, HGD, HY, HO, HB⟩ := hrel
    have hi8 : i ≤ 832 := by have h1 := good_few HGD.out (by rw [HLL.out]; exact hi); rw [HA.out] at h1; omega
    by_cases hlt : (i : Int) < (N : Int)
    · obtain ⟨b, off, rfl, hat⟩ := HRL.out.at_ (by omega)
      obtain ⟨x, c, hc, hr⟩ := hat i (by omega)
      obtain ⟨zs, hzs⟩ : ∃ zs, ls.getD i [] = zs := ⟨_, rfl⟩
      rw [hzs] at hc hr
      obtain ⟨n, hn⟩ : ∃ n, zs.length = n := ⟨_, rfl⟩
      rw [hn] at hc hr
      have hzb : isB zs := HLB.out zs (by rw [← hzs]; simp [List.getD, show i < ls.length by rw [HLL.out]; omega])
      have HPN := Lib.hid (placesF_next ls i (by rw [HLL.out]; omega))
      have HBN := Lib.hid (bodyF_next e32 ls i (by rw [HLL.out]; omega))
      have HEN := Lib.hid (endF_next ls i (by rw [HLL.out]; omega))
      rw [HA.out] at HPN HBN HEN
      rw [hzs] at HBN HEN
      rw [hn] at HEN
      obtain ⟨bg, hbg⟩ : ∃ bg, beginN a = bg := ⟨_, rfl⟩
      have H1 := HBG.out a
      rw [hbg] at H1 HPN
      have H1 := Lib.hid H1
      have HC := Lib.hid hc
      have HR := Lib.hid hr
      have HZB := Lib.hid hzb
      have HBL := Lib.hid (bodyF_at e32 ls i (by rw [HLL.out]; omega))
      have HIN : Hid (i + 1 ≤ ls.length) := Lib.hid (by rw [HLL.out]; omega)
      have HFT : Hid (fitI (endF (ls.take i) : Nat) (ls.getD i []).length = fitI (a : Nat) n) := Lib.hid (by rw [HA.out, hzs, hn])
      obtain ⟨a9, ha9⟩ : ∃ a9, endI (a : Nat) n = a9 := ⟨_, rfl⟩
      have ha98 : a9 ≤ 832 := by rw [← ha9]; exact end_le _ _
      rw [ha9] at HEN
      have HA1 : ∀ (bv dv : Value) (w : World), RI .u8 w bv 832 (bodyF e32 (ls.take i)) → RI .u8 w dv n zs → fitI (a : Nat) n = true → Calls Tryd.prog 33 #[.int .u64 ep, bv, .int .i64 (a : Nat), dv] w fun e w' => ∃ g, e = .returned (.tuple #[.slice (some ⟨g, 0, none⟩) 832 832, .int .i64 (a9 : Nat), .bool true]) ∧ YB w' g (bodyF e32 (ls.take (i + 1))) ∧ w.heap.size ≤ g ∧ Below w.heap.size w w' := fun bv dv w h1 h2 h3 => by
        rw [HBN.out, ← ha9]; exact HAF.out a _ bv dv n zs w ha HZB.out HBL.out h1 h2 h3
      have HA1 := Lib.hid HA1
      have HA0 : ∀ (bv : Value) (w : World), fitI (a : Nat) n = false → Calls Tryd.prog 33 #[.int .u64 ep, bv, .int .i64 (a : Nat), .slice x n c] w fun e w' => e = .returned (.tuple #[.slice none 0 0, .int .i64 0, .bool false]) ∧ Below w.heap.size w w' := fun bv w h => radd_no ep (a : Nat) (by unfold I63; omega) bv x n c (by have := HR.out.le; omega) w h
      have HA0 := Lib.hid HA0
      clear hc hr hzb hat hzs hn ha9 hbg
      cases hf : fitI (a : Nat) n with
      | true =>
        have HA2 : Hid (∀ (bv dv : Value) (w : World), RI .u8 w bv 832 (bodyF e32 (ls.take i)) → RI .u8 w dv n zs → Calls Tryd.prog 33 #[.int .u64 ep, bv, .int .i64 (a : Nat), dv] w fun e w' => ∃ g, e = .returned (.tuple #[.slice (some ⟨g, 0, none⟩) 832 832, .int .i64 (a9 : Nat), .bool true]) ∧ YB w' g (bodyF e32 (ls.take (i + 1))) ∧ w.heap.size ≤ g ∧ Below w.heap.size w w') := Lib.hid fun bv dv w h1 h2 => HA1.out bv dv w h1 h2 hf
        have HGN : Hid (GoodF ls (i + 1)) := Lib.hid (HGD.out.next (by rw [HFT.out]; exact hf))
        clear HA1 HA0 hf
        go_wp2_with (first
          | (go_at_call 30; (with_reducible refine (H1.out _ ha).mono ?_); rintro e w' ⟨rfl, rfl⟩)
          | (at_builtin; refine wpl_appw rfl (.tmp 20) (.tmp 23) 32 rfl 3 .i64 8 Tryd.underlying32 Tryd.info_i64 w.heap.size _ i _ rfl (HO.out.alloc _) _ 1 [(bg : Int)] rfl (ri_new1 wr bg) (by omega) (by omega) (by have := HB.out.size; simp; omega) ?_; intro v2 w2 HO2 HG2 _; rw [← HPN.out] at HO2; obtain ⟨a2, c2, rfl⟩ := own_form HO2.out; have HY2 := Lib.hid ((HY.out.keep (balloc wr _)).grown (HO.out.alloc _) HG2.out); have HB2 : Hid (Below w.heap.size w w2) := Lib.hid ((HB.out.alloc HB.out.size _).grown HG2.out (by have := HB.out.size; simp; omega) (fun q hq => (HO.out.lt q hq).1)); have hc2 := cell_keep HB2.out HC.out)
          | (go_at_call 33; (with_reducible refine (HA2.out _ _ _ (HY2.out.ri HBL.out (by omega)) (HR.out.keep HB2.out)).mono ?_); rintro e w3 ⟨g3, rfl, hy, _, hb⟩; have HY3 := Lib.hid hy; have HO3 := Lib.hid (own_keep HO2.out hb); have HB3 := Lib.hid (bch HB2.out hb); clear hy hb))
        go_roundw
        case rel => exact ⟨i + 1, g3, a2, c2, a9, by go_num, rfl, rfl, rfl, rfl, by omega, ha98, HEN, HGN, HY3, HO3, HB3⟩
        case measure => simp [intOf]; omega
      | false =>
        have HA2 : Hid (∀ (bv : Value) (w : World), Calls Tryd.prog 33 #[.int .u64 ep, bv, .int .i64 (a : Nat), .slice x n c] w fun e w' => e = .returned (.tuple #[.slice none 0 0, .int .i64 0, .bool false]) ∧ Below w.heap.size w w') := Lib.hid fun bv w => HA0.out bv w hf
        have HNO : Hid (fitsF ls = false) := Lib.hid (fitsF_bad ⟨i, HIN.out, by rw [HFT.out]; exact hf⟩)
        clear HA1 HA0 hf
        go_wp2_with (first
          | (go_at_call 30; (with_reducible refine (H1.out _ ha).mono ?_); rintro e w' ⟨rfl, rfl⟩)
          | (at_builtin; refine wpl_appw rfl (.tmp 20) (.tmp 23) 32 rfl 3 .i64 8 Tryd.underlying32 Tryd.info_i64 w.heap.size _ i _ rfl (HO.out.alloc _) _ 1 [(bg : Int)] rfl (ri_new1 wr bg) (by omega) (by omega) (by have := HB.out.size; simp; omega) ?_; intro v2 w2 HO2 HG2 _; rw [← HPN.out] at HO2; obtain ⟨a2, c2, rfl⟩ := own_form HO2.out; have HY2 := Lib.hid ((HY.out.keep (balloc wr _)).grown (HO.out.alloc _) HG2.out); have HB2 : Hid (Below w.heap.size w w2) := Lib.hid ((HB.out.alloc HB.out.size _).grown HG2.out (by have := HB.out.size; simp; omega) (fun q hq => (HO.out.lt q hq).1)); have hc2 := cell_keep HB2.out HC.out)
          | (go_at_call 33; (with_reducible refine (HA2.out _ _).mono ?_); rintro e w3 ⟨rfl, hb⟩; have HB3 := Lib.hid (bch HB2.out hb); clear hb))
        (try simp only [Exit.inBlock, Exit.then]); refine bodyPost_ret (results_tmp4 rfl _ _ _) rfl ?_
        exact .inr ⟨HNO.out, rfl, HB3.out⟩
    · obtain rfl : i = N := by omega
      have HFT : Hid (fitsF ls = true) := Lib.hid (fitsF_good (by rw [HLL.out]; exact HGD.out))
      have HTK : Hid (ls.take i = ls) := Lib.hid (List.take_of_length_le (by rw [HLL.out]; omega))
      rw [HTK.out] at HA HY HO
      go_wp2
      (try simp only [Exit.inBlock, Exit.then]); refine bodyPost_ret (results_tmp4 rfl _ _ _) rfl ?_
      exact .inl ⟨HFT.out, g, pa, pc, by rw [HA.out]; rfl, HY.out, HO.out, HB.out⟩
theorem lay_yes {w : World} {ls : List (List Int)} {e32 : Int} {N : Nat} {fn : Nat} {args : Array Value} (h : Calls Tryd.prog fn args w (LayF w ls e32 N)) (hf : fitsF ls = true) :
    Calls Tryd.prog fn args w fun e w' => ∃ g pa pc, e = .returned (.tuple #[.slice (some ⟨g, 0, none⟩) 832 832, .slice pa N pc, .int .i64 (endF ls : Nat), .bool true]) ∧ YB w' g (bodyF e32 ls) ∧ w'.ownsRow w.heap.size 3 1 (.slice pa N pc) N (il .i64 (placesF ls)) ∧ Below w.heap.size w w' :=
  h.mono fun e w' h => by
    rcases h with ⟨_, h⟩ | ⟨h, _⟩
    · exact h
    · rw [hf] at h; cases h
theorem lay_not {w : World} {ls : List (List Int)} {e32 : Int} {N : Nat} {fn : Nat} {args : Array Value} (h : Calls Tryd.prog fn args w (LayF w ls e32 N)) (hf : fitsF ls = false) :
    Calls Tryd.prog fn args w fun e w' => e = .returned (.tuple #[.slice none 0 0, .slice none 0 0, .int .i64 0, .bool false]) ∧ Below w.heap.size w w' :=
  h.mono fun e w' h => by
    rcases h with ⟨h, _⟩ | ⟨_, h⟩
    · rw [hf] at h; cases h
    · exact h
set_option maxRecDepth 8000 in
set_option maxHeartbeats 2000000 in
theorem rsectors_any (ep : Int) (hep : U64 ep) (lv : Value) (N : Nat) (ls : List (List Int)) (hN : (N : Int) ≤ 9223372036854775807) (hlb : ∀ l ∈ ls, isB l) (w : World) (hrl : RL .u8 w lv N ls) :
    Calls Tryd.prog 15 #[.int .u64 ep, lv] w (SecF w ls ep) := by
  have HL : Hid (∀ w, RL .u8 w lv N ls → Calls Tryd.prog 18 #[.int .u64 ep, lv] w (LayF w ls (ep % 4294967296) N)) := Lib.hid fun w h => rlay_any ep hep lv N ls hN hlb w h
  have HEP := Lib.hid hep
  have HRL := Lib.hid hrl
  have HBL := Lib.hid (bodyF_len (ep % 4294967296) ls)
  have HEL := endF_le ls
  unfold SecF
  cases hf : fitsF ls with
  | true =>
    have HL2 : Hid (∀ w, RL .u8 w lv N ls → Calls Tryd.prog 18 #[.int .u64 ep, lv] w fun e w' => ∃ g pa pc, e = .returned (.tuple #[.slice (some ⟨g, 0, none⟩) 832 832, .slice pa N pc, .int .i64 (endF ls : Nat), .bool true]) ∧ YB w' g (bodyF (ep % 4294967296) ls) ∧ w'.ownsRow w.heap.size 3 1 (.slice pa N pc) N (il .i64 (placesF ls)) ∧ Below w.heap.size w w') := Lib.hid fun w h => lay_yes (HL.out w h) hf
    generalize bodyF (ep % 4294967296) ls = bd at *
    generalize endF ls = en at *
    have HW : Hid (∀ (v : Value) (w : World), RI .u8 w v 832 bd → Calls Tryd.prog 29 #[.int .u64 ep, v, .int .i64 (en : Nat)] w fun e w' => ∃ v', e = .returned v' ∧ FS w' v' 16 (wholeK ep bd (touchN 0 en).2 16) ∧ Below w.heap.size w w') := Lib.hid fun v w h => by
      have := rwhole_any ep hep v 832 bd (by omega) (en : Nat) (by unfold I63; omega) w h
      rwa [nr_nat _ HEL] at this
    clear hep hlb hrl HL hf
    go_enter Tryd.func15, Tryd.ntmps15
    go_wp2_with (first
      | (go_at_call 18; (with_reducible refine (HL2.out _ HRL.out).mono ?_); rintro e w1 ⟨g1, pa, pc, rfl, hy, _, hb⟩; have HY1 := Lib.hid hy; have HB1 := Lib.hid hb; clear hy hb)
      | (go_at_call 29; (with_reducible refine (HW.out _ _ (HY1.out.ri HBL.out (by omega))).mono ?_); rintro e w2 ⟨v2, rfl, hs, hb⟩; have HS2 := Lib.hid hs; have HB2 := Lib.hid (bch HB1.out hb); clear hs hb))
    go_ret2
    exact .inl ⟨trivial, _, rfl, HS2.out, HB2.out⟩
  | false =>
    have HL2 : Hid (∀ w, RL .u8 w lv N ls → Calls Tryd.prog 18 #[.int .u64 ep, lv] w fun e w' => e = .returned (.tuple #[.slice none 0 0, .slice none 0 0, .int .i64 0, .bool false]) ∧ Below w.heap.size w w') := Lib.hid fun w h => lay_not (HL.out w h) hf
    clear hep hlb hrl HL hf HEL
    go_enter Tryd.func15, Tryd.ntmps15
    go_wp2_with (first
      | (go_at_call 18; (with_reducible refine (HL2.out _ HRL.out).mono ?_); rintro e w1 ⟨rfl, hb⟩; have HB1 := Lib.hid hb; clear hb))
    go_ret2
    exact .inr ⟨trivial, rfl, HB1.out⟩
end Go.Proofs.YtepaghohojomeaaDoor
/-
  LAYER 20 (tear): the places at which another fragment is told than the intended one, as one list. No condition.
-/
namespace Go.Proofs.YtepaghohojomeaaDoor
/-- the places at which another fragment is told -/
noncomputable def tclF (x : Int) (n : Nat) (fs : List Int) (ls : List (List Int)) : List Int :=
  if fitsF ls = true then clF (x % 4294967296) (flatB x n fs 16) (flatK x n fs 16) ls ls.length else []
theorem flatB_isB (x : Int) (n : Nat) {fs : List Int} (h : isB fs) : ∀ k, isB (flatB x n fs k)
  | 0 => isB.nil
  | k + 1 => by
    rw [flatB]
    refine (flatB_isB x n h k).append ?_
    unfold roomAt
    split
    · exact ((h.drop _).take _).drop 12
    · intro y hy; have := List.eq_of_mem_replicate hy; omega
end Go.Proofs.YtepaghohojomeaaDoor
/-
  WHAT THE PROGRAM'S OWN FUNCTIONS OF LAYER 13 (frag) ANSWER: isKind. No condition of ours.
-/
namespace Go.Proofs.YtepaghohojomeaaDoor
open Go.RowKit
theorem fkind_any (k : Int) (w : World) : Calls Tryd.prog 85 #[.int .i64 k] w fun e w' => e = .returned (.bool (decide (1 ≤ k ∧ k ≤ 4))) ∧ w = w' := by
  rcases (by omega : (1 ≤ k ∧ k ≤ 4) ∨ k < 1 ∨ (1 ≤ k ∧ 4 < k)) with ⟨h1, h2⟩ | h1 | ⟨h1, h2⟩
  · rw [show decide (1 ≤ k ∧ k ≤ 4) = true from decide_eq_true ⟨h1, h2⟩]
    go_enter Tryd.func85, Tryd.ntmps85
    go_wp2
    go_ret
    exact ⟨rfl, rfl⟩
  · rw [show decide (1 ≤ k ∧ k ≤ 4) = false from decide_eq_false (by omega)]
    go_enter Tryd.func85, Tryd.ntmps85
    go_wp2
    go_ret
    exact ⟨rfl, rfl⟩
  · rw [show decide (1 ≤ k ∧ k ≤ 4) = false from decide_eq_false (by omega)]
    go_enter Tryd.func85, Tryd.ntmps85
    go_wp2
    go_ret
    first
      | exact ⟨rfl, rfl⟩
      | exact ⟨ret_bool (decide_eq_false (by omega)), rfl⟩
end Go.Proofs.YtepaghohojomeaaDoor
/-
  WHAT THE PROGRAM'S Decode OF LAYER 13 (frag) ANSWERS (written by wip/gen/g20.py). The table of half a byte's steps must lie in its block as start-up lays it.
-/
namespace Go.Proofs.YtepaghohojomeaaDoor
open Go.RowKit
set_option maxRecDepth 8000 in
set_option maxHeartbeats 4000000 in
theorem fdec_any (v : Value) (len : Nat) (zs : List Int) (ep : Int) (w : World) (ht : Tab w) (hri : RI .u8 w v len zs) (hbz : isB zs) : Calls Tryd.prog 65 #[v, .int .u32 ep] w (DecF zs ep w) := by
  have hz := hri.length
  obtain ⟨w0, hw0⟩ : ∃ q, w.alloc (.cells (fA 0 0 (.slice none 0 0)) 70) = q := ⟨_, rfl⟩
  have HA : Hid (FO w0 w.heap.size 0 0 (.slice none 0 0)) := Lib.hid (by rw [← hw0]; exact FO.alloc w)
  have HB : Hid (Below w.heap.size w w0) := Lib.hid (by rw [← hw0]; exact balloc w _)
  have HR := Lib.hid (hri.keep HB.out)
  have HT := Lib.hid (ht.keep HB.out)
  obtain ⟨a, cap, rfl, hlc⟩ : ∃ a cap, v = .slice a len cap ∧ len ≤ cap := by obtain ⟨a, c, e, _, h, _⟩ := hri; exact ⟨a, c, e, h⟩
  by_cases h1 : zs.length < 11
  · have hR := Lib.hid (fragD_short (ep := ep) h1)
    have h1' : (len : Int) < 11 := by omega
    clear h1 hz hri hbz ht hlc
    go_enter Tryd.func65, Tryd.ntmps65
    go_wp2_with (first
      | (refine wpList_store_row rfl 70 _ _ rfl w.heap.size (fA 0 0 (.slice none 0 0)) rfl rfl _ _ HA.out (fr_info _ rfl) rfl (fr_one _ _ _ _ _) ?_))
    refine bodyPost_ret_by (results_row_tmp2 rfl _ _ w.heap.size _ rfl (HA.out.row 0 0 (.slice none 0 0)).load) rfl ?_
    exact decf_none hR.out (brow HB.out (Nat.le_refl _) (Nat.le_refl _) _)
  have h1' : ¬ (len : Int) < 11 := by omega
  have hcap : (11 : Int) ≤ (cap : Int) := by omega
  obtain ⟨h11, k, e, n, s, hh, hhl, hhb, hk, he, hn, hs, gk, ge, gn, gs, k0, k1, e0, e1, n1, s1⟩ := head_nums zs hbz (by omega)
  have hnn : (num zs 4 2).toNat = n := by omega
  obtain ⟨x, off, rfl, hcell⟩ := HR.out.at_ (by omega)
  have HAT : Hid (HAt w0 x off h11) := Lib.hid ⟨hhl, fun j hj => by
    rw [hcell j (by omega), ← hh]
    simp only [List.getD, List.getElem?_take, hj, if_true]⟩
  have HL := Lib.hid hhl
  have HG6 : Hid (∀ w, HD w w0.heap.size h11 → Calls Tryd.prog 84 #[.pointer (some ⟨w0.heap.size, 0, none⟩), .int .i64 6, .int .i64 7] w fun e w' => e = .returned (.int .u64 k) ∧ w = w') := Lib.hid fun w h => hget_any w0.heap.size 6 1 7 rfl (by omega) (by omega) (by omega) h hhb gk
  have HG7 : Hid (∀ w, HD w w0.heap.size h11 → Calls Tryd.prog 84 #[.pointer (some ⟨w0.heap.size, 0, none⟩), .int .i64 7, .int .i64 11] w fun e' w' => e' = .returned (.int .u64 e) ∧ w = w') := Lib.hid fun w h => hget_any w0.heap.size 7 4 11 rfl (by omega) (by omega) (by omega) h hhb ge
  have HG4 : Hid (∀ w, HD w w0.heap.size h11 → Calls Tryd.prog 84 #[.pointer (some ⟨w0.heap.size, 0, none⟩), .int .i64 4, .int .i64 6] w fun e w' => e = .returned (.int .u64 n) ∧ w = w') := Lib.hid fun w h => hget_any w0.heap.size 4 2 6 rfl (by omega) (by omega) (by omega) h hhb gn
  have HG0 : Hid (∀ w, HD w w0.heap.size h11 → Calls Tryd.prog 84 #[.pointer (some ⟨w0.heap.size, 0, none⟩), .int .i64 0, .int .i64 4] w fun e w' => e = .returned (.int .u64 s) ∧ w = w') := Lib.hid fun w h => hget_any w0.heap.size 0 4 4 rfl (by omega) (by omega) (by omega) h hhb gs
  have hq : ∀ w, (Op.equalIn 10000 145 (.agg (av h11)) (.agg #[.int .u8 0, .int .u8 0, .int .u8 0, .int .u8 0, .int .u8 0, .int .u8 0, .int .u8 0, .int .u8 0, .int .u8 0, .int .u8 0, .int .u8 0])).run Tryd.prog w = .ok (decide (h11 = z11)) w := fun w => run_eq_head h11 z11 hhl z11_length w
  obtain ⟨sz, hsz⟩ : ∃ sz, 11 + n = sz := ⟨_, rfl⟩
  have hszI : (11 : Int) + (n : Int) = (sz : Int) := by omega
  have hszb : (sz : Int) ≤ 65546 := by omega
  have hnb : (n : Int) ≤ 65535 := by omega
  have hz11 : (h11 = z11) ↔ zs.take 11 = List.replicate 11 0 := by rw [hh]; rfl
  by_cases h2 : zs.take 11 = List.replicate 11 0
  · have hR := Lib.hid (fragD_none (ep := ep) h1 h2)
    rw [show decide (h11 = z11) = true from decide_eq_true (hz11.2 h2)] at hq
    clear h1 h2 hz hri hbz ht hlc hh hhl hhb hk he hn hs gk ge gn gs hcell hnn hsz n1 s1 hz11
    go_enter Tryd.func65, Tryd.ntmps65
    go_wp2_with (first
      | (refine wpl_val rfl (exec_arrptr (.tmp 17) rfl _ 11 11 rfl (by omega)) ?_)
      | (refine wpl_val rfl (exec_load_hat (.tmp 18) rfl rfl HAT.out) ?_)
      | (refine wpList_store_row rfl 145 _ _ rfl w0.heap.size (av h11) rfl rfl _ (av z11) (HD.new w0 z11 z11_length).1 (av_info _ HL.out) (by rw [av_size, av_size, HL.out, z11_length]) (av_one _) ?_; obtain ⟨w1, hw1⟩ : ∃ q, World.setRow (w0.alloc (.cells #[.int .u8 0, .int .u8 0, .int .u8 0, .int .u8 0, .int .u8 0, .int .u8 0, .int .u8 0, .int .u8 0, .int .u8 0, .int .u8 0, .int .u8 0] 145)) w0.heap.size (av h11) = q := ⟨_, rfl⟩; rw [hw1]; have HH1 : Hid (HD w1 w0.heap.size h11) := Lib.hid (by rw [← hw1]; exact (HD.new w0 z11 z11_length).row HL.out); have HB1 : Hid (Below w0.heap.size w0 w1) := Lib.hid (by rw [← hw1]; exact brow (balloc _ _) (Nat.le_refl _) (Nat.le_refl _) _); clear hw1)
      | (go_at_call 84; (with_reducible refine (HG6.out _ HH1.out).mono ?_); rintro r w' ⟨rfl, rfl⟩)
      | (go_at_call 84; (with_reducible refine (HG7.out _ HH1.out).mono ?_); rintro r w' ⟨rfl, rfl⟩)
      | (refine wpList_store_row rfl 70 _ _ rfl w1.heap.size (fA k e (.slice none 0 0)) rfl rfl _ _ (heap_alloc_last w1 _) (fr_info _ rfl) rfl (fr_one _ _ _ _ _) ?_; obtain ⟨w2, hw2⟩ : ∃ q, World.setRow (w1.alloc (.cells (fA 0 0 (.slice none 0 0)) 70)) w1.heap.size (fA k e (.slice none 0 0)) = q := ⟨_, rfl⟩; rw [hw2]; have HF2 : Hid (FO w2 w1.heap.size k e (.slice none 0 0)) := Lib.hid (by rw [← hw2]; exact FO.new _); have HB2 : Hid (Below w1.heap.size w1 w2) := Lib.hid (by rw [← hw2]; exact bnew _ _ _); have HH2 := Lib.hid (HH1.out.keep HB2.out); have HA2 := Lib.hid ((HA.out.keep HB1.out).keep HB2.out); have HBB := Lib.hid (bch HB.out (bch HB1.out HB2.out)); have HR2 := Lib.hid ((HR.out.keep HB1.out).keep HB2.out); have HT2 := Lib.hid ((HT.out.keep HB1.out).keep HB2.out); obtain ⟨c0, c1, c2⟩ := HF2.out.cells; clear hw2)
      | (go_at_call 84; (with_reducible refine (HG4.out _ HH2.out).mono ?_); rintro r w' ⟨rfl, rfl⟩)
      | (refine wpList_load_row rfl 145 _ rfl w0.heap.size rfl _ (av h11) (0, 0) _ HH2.out.1 Tryd.underlying145 rfl (av_info _ HL.out) ?_)
      | (refine wpList_store_row rfl 70 _ _ rfl w.heap.size (fA 0 0 (.slice none 0 0)) rfl rfl _ _ HA2.out (fr_info _ rfl) rfl (fr_one _ _ _ _ _) ?_))
    refine bodyPost_ret_by (results_row_tmp2 rfl _ _ w.heap.size _ rfl (HA2.out.row 0 0 (.slice none 0 0)).load) rfl ?_
    exact decf_none hR.out (brow HBB.out (Nat.le_refl _) (Nat.le_refl _) _)
  rw [show decide (h11 = z11) = false from decide_eq_false (fun q => h2 (hz11.1 q))] at hq
  by_cases hkd : 1 ≤ k ∧ k ≤ 4
  rotate_left
  · have hR := Lib.hid (fragD_form (ep := ep) h1 h2 (Or.inl (by rw [hk, hnn]; exact fragOk_no (fun q => hkd ⟨q.1, q.2.1⟩))))
    have HKD : Hid (∀ w, Calls Tryd.prog 85 #[.int .i64 k] w fun e w' => e = .returned (.bool false) ∧ w = w') := Lib.hid fun w => by rw [← show decide (1 ≤ k ∧ k ≤ 4) = false from decide_eq_false hkd]; exact fkind_any k w
    clear h1 h2 hz hri hbz ht hlc hh hhl hhb hk he hn hs gk ge gn gs hcell hnn hsz n1 s1 hz11 hkd
    go_enter Tryd.func65, Tryd.ntmps65
    go_wp2_with (first
      | (refine wpl_val rfl (exec_arrptr (.tmp 17) rfl _ 11 11 rfl (by omega)) ?_)
      | (refine wpl_val rfl (exec_load_hat (.tmp 18) rfl rfl HAT.out) ?_)
      | (refine wpList_store_row rfl 145 _ _ rfl w0.heap.size (av h11) rfl rfl _ (av z11) (HD.new w0 z11 z11_length).1 (av_info _ HL.out) (by rw [av_size, av_size, HL.out, z11_length]) (av_one _) ?_; obtain ⟨w1, hw1⟩ : ∃ q, World.setRow (w0.alloc (.cells #[.int .u8 0, .int .u8 0, .int .u8 0, .int .u8 0, .int .u8 0, .int .u8 0, .int .u8 0, .int .u8 0, .int .u8 0, .int .u8 0, .int .u8 0] 145)) w0.heap.size (av h11) = q := ⟨_, rfl⟩; rw [hw1]; have HH1 : Hid (HD w1 w0.heap.size h11) := Lib.hid (by rw [← hw1]; exact (HD.new w0 z11 z11_length).row HL.out); have HB1 : Hid (Below w0.heap.size w0 w1) := Lib.hid (by rw [← hw1]; exact brow (balloc _ _) (Nat.le_refl _) (Nat.le_refl _) _); clear hw1)
      | (go_at_call 84; (with_reducible refine (HG6.out _ HH1.out).mono ?_); rintro r w' ⟨rfl, rfl⟩)
      | (go_at_call 84; (with_reducible refine (HG7.out _ HH1.out).mono ?_); rintro r w' ⟨rfl, rfl⟩)
      | (refine wpList_store_row rfl 70 _ _ rfl w1.heap.size (fA k e (.slice none 0 0)) rfl rfl _ _ (heap_alloc_last w1 _) (fr_info _ rfl) rfl (fr_one _ _ _ _ _) ?_; obtain ⟨w2, hw2⟩ : ∃ q, World.setRow (w1.alloc (.cells (fA 0 0 (.slice none 0 0)) 70)) w1.heap.size (fA k e (.slice none 0 0)) = q := ⟨_, rfl⟩; rw [hw2]; have HF2 : Hid (FO w2 w1.heap.size k e (.slice none 0 0)) := Lib.hid (by rw [← hw2]; exact FO.new _); have HB2 : Hid (Below w1.heap.size w1 w2) := Lib.hid (by rw [← hw2]; exact bnew _ _ _); have HH2 := Lib.hid (HH1.out.keep HB2.out); have HA2 := Lib.hid ((HA.out.keep HB1.out).keep HB2.out); have HBB := Lib.hid (bch HB.out (bch HB1.out HB2.out)); have HR2 := Lib.hid ((HR.out.keep HB1.out).keep HB2.out); have HT2 := Lib.hid ((HT.out.keep HB1.out).keep HB2.out); obtain ⟨c0, c1, c2⟩ := HF2.out.cells; clear hw2)
      | (go_at_call 84; (with_reducible refine (HG4.out _ HH2.out).mono ?_); rintro r w' ⟨rfl, rfl⟩)
      | (refine wpList_load_row rfl 145 _ rfl w0.heap.size rfl _ (av h11) (0, 0) _ HH2.out.1 Tryd.underlying145 rfl (av_info _ HL.out) ?_)
      | (go_at_call 85; (with_reducible refine (HKD.out _).mono ?_); rintro r w' ⟨rfl, rfl⟩)
      | (refine wpList_store_row rfl 70 _ _ rfl w.heap.size (fA 0 0 (.slice none 0 0)) rfl rfl _ _ HA2.out (fr_info _ rfl) rfl (fr_one _ _ _ _ _) ?_))
    refine bodyPost_ret_by (results_row_tmp2 rfl _ _ w.heap.size _ rfl (HA2.out.row 0 0 (.slice none 0 0)).load) rfl ?_
    exact decf_none hR.out (brow HBB.out (Nat.le_refl _) (Nat.le_refl _) _)
  have HKD : Hid (∀ w, Calls Tryd.prog 85 #[.int .i64 k] w fun e w' => e = .returned (.bool true) ∧ w = w') := Lib.hid fun w => by rw [← show decide (1 ≤ k ∧ k ≤ 4) = true from decide_eq_true hkd]; exact fkind_any k w
  by_cases hnm : n ≤ 197
  rotate_left
  · have hR := Lib.hid (fragD_form (ep := ep) h1 h2 (Or.inl (by rw [hk, hnn]; exact fragOk_no (fun q => hnm q.2.2))))
    have hnm' : (197 : Int) < (n : Int) := by omega
    clear h1 h2 hz hri hbz ht hlc hh hhl hhb hk he hn hs gk ge gn gs hcell hnn hsz n1 s1 hz11 hkd hnm
    go_enter Tryd.func65, Tryd.ntmps65
    go_wp2_with (first
      | (refine wpl_val rfl (exec_arrptr (.tmp 17) rfl _ 11 11 rfl (by omega)) ?_)
      | (refine wpl_val rfl (exec_load_hat (.tmp 18) rfl rfl HAT.out) ?_)
      | (refine wpList_store_row rfl 145 _ _ rfl w0.heap.size (av h11) rfl rfl _ (av z11) (HD.new w0 z11 z11_length).1 (av_info _ HL.out) (by rw [av_size, av_size, HL.out, z11_length]) (av_one _) ?_; obtain ⟨w1, hw1⟩ : ∃ q, World.setRow (w0.alloc (.cells #[.int .u8 0, .int .u8 0, .int .u8 0, .int .u8 0, .int .u8 0, .int .u8 0, .int .u8 0, .int .u8 0, .int .u8 0, .int .u8 0, .int .u8 0] 145)) w0.heap.size (av h11) = q := ⟨_, rfl⟩; rw [hw1]; have HH1 : Hid (HD w1 w0.heap.size h11) := Lib.hid (by rw [← hw1]; exact (HD.new w0 z11 z11_length).row HL.out); have HB1 : Hid (Below w0.heap.size w0 w1) := Lib.hid (by rw [← hw1]; exact brow (balloc _ _) (Nat.le_refl _) (Nat.le_refl _) _); clear hw1)
      | (go_at_call 84; (with_reducible refine (HG6.out _ HH1.out).mono ?_); rintro r w' ⟨rfl, rfl⟩)
      | (go_at_call 84; (with_reducible refine (HG7.out _ HH1.out).mono ?_); rintro r w' ⟨rfl, rfl⟩)
      | (refine wpList_store_row rfl 70 _ _ rfl w1.heap.size (fA k e (.slice none 0 0)) rfl rfl _ _ (heap_alloc_last w1 _) (fr_info _ rfl) rfl (fr_one _ _ _ _ _) ?_; obtain ⟨w2, hw2⟩ : ∃ q, World.setRow (w1.alloc (.cells (fA 0 0 (.slice none 0 0)) 70)) w1.heap.size (fA k e (.slice none 0 0)) = q := ⟨_, rfl⟩; rw [hw2]; have HF2 : Hid (FO w2 w1.heap.size k e (.slice none 0 0)) := Lib.hid (by rw [← hw2]; exact FO.new _); have HB2 : Hid (Below w1.heap.size w1 w2) := Lib.hid (by rw [← hw2]; exact bnew _ _ _); have HH2 := Lib.hid (HH1.out.keep HB2.out); have HA2 := Lib.hid ((HA.out.keep HB1.out).keep HB2.out); have HBB := Lib.hid (bch HB.out (bch HB1.out HB2.out)); have HR2 := Lib.hid ((HR.out.keep HB1.out).keep HB2.out); have HT2 := Lib.hid ((HT.out.keep HB1.out).keep HB2.out); obtain ⟨c0, c1, c2⟩ := HF2.out.cells; clear hw2)
      | (go_at_call 84; (with_reducible refine (HG4.out _ HH2.out).mono ?_); rintro r w' ⟨rfl, rfl⟩)
      | (refine wpList_load_row rfl 145 _ rfl w0.heap.size rfl _ (av h11) (0, 0) _ HH2.out.1 Tryd.underlying145 rfl (av_info _ HL.out) ?_)
      | (go_at_call 85; (with_reducible refine (HKD.out _).mono ?_); rintro r w' ⟨rfl, rfl⟩)
      | (refine wpList_store_row rfl 70 _ _ rfl w.heap.size (fA 0 0 (.slice none 0 0)) rfl rfl _ _ HA2.out (fr_info _ rfl) rfl (fr_one _ _ _ _ _) ?_))
    refine bodyPost_ret_by (results_row_tmp2 rfl _ _ w.heap.size _ rfl (HA2.out.row 0 0 (.slice none 0 0)).load) rfl ?_
    exact decf_none hR.out (brow HBB.out (Nat.le_refl _) (Nat.le_refl _) _)
  have hnm' : ¬ (197 : Int) < (n : Int) := by omega
  have hok : fragOk (num zs 6 1) (num zs 4 2).toNat = true := by rw [hk, hnn]; exact decide_eq_true ⟨hkd.1, hkd.2, hnm⟩
  by_cases hep : e = ep
  rotate_left
  · have hR := Lib.hid (fragD_form (ep := ep) h1 h2 (Or.inr (by rw [he]; exact hep)))
    have hep' : (e != ep) = true := by simpa using hep
    clear h1 h2 hz hri hbz ht hlc hh hhl hhb hk he hn hs gk ge gn gs hcell hnn hsz n1 s1 hz11 hkd hnm hok
    go_enter Tryd.func65, Tryd.ntmps65
    go_wp2_with (first
      | (refine wpl_val rfl (exec_arrptr (.tmp 17) rfl _ 11 11 rfl (by omega)) ?_)
      | (refine wpl_val rfl (exec_load_hat (.tmp 18) rfl rfl HAT.out) ?_)
      | (refine wpList_store_row rfl 145 _ _ rfl w0.heap.size (av h11) rfl rfl _ (av z11) (HD.new w0 z11 z11_length).1 (av_info _ HL.out) (by rw [av_size, av_size, HL.out, z11_length]) (av_one _) ?_; obtain ⟨w1, hw1⟩ : ∃ q, World.setRow (w0.alloc (.cells #[.int .u8 0, .int .u8 0, .int .u8 0, .int .u8 0, .int .u8 0, .int .u8 0, .int .u8 0, .int .u8 0, .int .u8 0, .int .u8 0, .int .u8 0] 145)) w0.heap.size (av h11) = q := ⟨_, rfl⟩; rw [hw1]; have HH1 : Hid (HD w1 w0.heap.size h11) := Lib.hid (by rw [← hw1]; exact (HD.new w0 z11 z11_length).row HL.out); have HB1 : Hid (Below w0.heap.size w0 w1) := Lib.hid (by rw [← hw1]; exact brow (balloc _ _) (Nat.le_refl _) (Nat.le_refl _) _); clear hw1)
      | (go_at_call 84; (with_reducible refine (HG6.out _ HH1.out).mono ?_); rintro r w' ⟨rfl, rfl⟩)
      | (go_at_call 84; (with_reducible refine (HG7.out _ HH1.out).mono ?_); rintro r w' ⟨rfl, rfl⟩)
      | (refine wpList_store_row rfl 70 _ _ rfl w1.heap.size (fA k e (.slice none 0 0)) rfl rfl _ _ (heap_alloc_last w1 _) (fr_info _ rfl) rfl (fr_one _ _ _ _ _) ?_; obtain ⟨w2, hw2⟩ : ∃ q, World.setRow (w1.alloc (.cells (fA 0 0 (.slice none 0 0)) 70)) w1.heap.size (fA k e (.slice none 0 0)) = q := ⟨_, rfl⟩; rw [hw2]; have HF2 : Hid (FO w2 w1.heap.size k e (.slice none 0 0)) := Lib.hid (by rw [← hw2]; exact FO.new _); have HB2 : Hid (Below w1.heap.size w1 w2) := Lib.hid (by rw [← hw2]; exact bnew _ _ _); have HH2 := Lib.hid (HH1.out.keep HB2.out); have HA2 := Lib.hid ((HA.out.keep HB1.out).keep HB2.out); have HBB := Lib.hid (bch HB.out (bch HB1.out HB2.out)); have HR2 := Lib.hid ((HR.out.keep HB1.out).keep HB2.out); have HT2 := Lib.hid ((HT.out.keep HB1.out).keep HB2.out); obtain ⟨c0, c1, c2⟩ := HF2.out.cells; clear hw2)
      | (go_at_call 84; (with_reducible refine (HG4.out _ HH2.out).mono ?_); rintro r w' ⟨rfl, rfl⟩)
      | (refine wpList_load_row rfl 145 _ rfl w0.heap.size rfl _ (av h11) (0, 0) _ HH2.out.1 Tryd.underlying145 rfl (av_info _ HL.out) ?_)
      | (go_at_call 85; (with_reducible refine (HKD.out _).mono ?_); rintro r w' ⟨rfl, rfl⟩)
      | (refine wpList_store_row rfl 70 _ _ rfl w.heap.size (fA 0 0 (.slice none 0 0)) rfl rfl _ _ HA2.out (fr_info _ rfl) rfl (fr_one _ _ _ _ _) ?_))
    refine bodyPost_ret_by (results_row_tmp2 rfl _ _ w.heap.size _ rfl (HA2.out.row 0 0 (.slice none 0 0)).load) rfl ?_
    exact decf_none hR.out (brow HBB.out (Nat.le_refl _) (Nat.le_refl _) _)
  subst hep
  by_cases hct : len < sz
  · have hR := Lib.hid (fragD_cut h1 h2 hok he (by omega))
    have hct' : (len : Int) < (sz : Int) := by omega
    clear h1 h2 hz hri hbz ht hlc hh hhl hhb hk he hn hs gk ge gn gs hcell hnn hsz n1 s1 hz11 hkd hnm hok hct
    go_enter Tryd.func65, Tryd.ntmps65
    go_wp2_with (first
      | (refine wpl_val rfl (exec_arrptr (.tmp 17) rfl _ 11 11 rfl (by omega)) ?_)
      | (refine wpl_val rfl (exec_load_hat (.tmp 18) rfl rfl HAT.out) ?_)
      | (refine wpList_store_row rfl 145 _ _ rfl w0.heap.size (av h11) rfl rfl _ (av z11) (HD.new w0 z11 z11_length).1 (av_info _ HL.out) (by rw [av_size, av_size, HL.out, z11_length]) (av_one _) ?_; obtain ⟨w1, hw1⟩ : ∃ q, World.setRow (w0.alloc (.cells #[.int .u8 0, .int .u8 0, .int .u8 0, .int .u8 0, .int .u8 0, .int .u8 0, .int .u8 0, .int .u8 0, .int .u8 0, .int .u8 0, .int .u8 0] 145)) w0.heap.size (av h11) = q := ⟨_, rfl⟩; rw [hw1]; have HH1 : Hid (HD w1 w0.heap.size h11) := Lib.hid (by rw [← hw1]; exact (HD.new w0 z11 z11_length).row HL.out); have HB1 : Hid (Below w0.heap.size w0 w1) := Lib.hid (by rw [← hw1]; exact brow (balloc _ _) (Nat.le_refl _) (Nat.le_refl _) _); clear hw1)
      | (go_at_call 84; (with_reducible refine (HG6.out _ HH1.out).mono ?_); rintro r w' ⟨rfl, rfl⟩)
      | (go_at_call 84; (with_reducible refine (HG7.out _ HH1.out).mono ?_); rintro r w' ⟨rfl, rfl⟩)
      | (refine wpList_store_row rfl 70 _ _ rfl w1.heap.size (fA k e (.slice none 0 0)) rfl rfl _ _ (heap_alloc_last w1 _) (fr_info _ rfl) rfl (fr_one _ _ _ _ _) ?_; obtain ⟨w2, hw2⟩ : ∃ q, World.setRow (w1.alloc (.cells (fA 0 0 (.slice none 0 0)) 70)) w1.heap.size (fA k e (.slice none 0 0)) = q := ⟨_, rfl⟩; rw [hw2]; have HF2 : Hid (FO w2 w1.heap.size k e (.slice none 0 0)) := Lib.hid (by rw [← hw2]; exact FO.new _); have HB2 : Hid (Below w1.heap.size w1 w2) := Lib.hid (by rw [← hw2]; exact bnew _ _ _); have HH2 := Lib.hid (HH1.out.keep HB2.out); have HA2 := Lib.hid ((HA.out.keep HB1.out).keep HB2.out); have HBB := Lib.hid (bch HB.out (bch HB1.out HB2.out)); have HR2 := Lib.hid ((HR.out.keep HB1.out).keep HB2.out); have HT2 := Lib.hid ((HT.out.keep HB1.out).keep HB2.out); obtain ⟨c0, c1, c2⟩ := HF2.out.cells; clear hw2)
      | (go_at_call 84; (with_reducible refine (HG4.out _ HH2.out).mono ?_); rintro r w' ⟨rfl, rfl⟩)
      | (refine wpList_load_row rfl 145 _ rfl w0.heap.size rfl _ (av h11) (0, 0) _ HH2.out.1 Tryd.underlying145 rfl (av_info _ HL.out) ?_)
      | (go_at_call 85; (with_reducible refine (HKD.out _).mono ?_); rintro r w' ⟨rfl, rfl⟩)
      | (refine wpList_store_row rfl 70 _ _ rfl w.heap.size (fA 0 0 (.slice none 0 0)) rfl rfl _ _ HA2.out (fr_info _ rfl) rfl (fr_one _ _ _ _ _) ?_))
    refine bodyPost_ret_by (results_row_tmp2 rfl _ _ w.heap.size _ rfl (HA2.out.row 0 0 (.slice none 0 0)).load) rfl ?_
    exact decf_none hR.out (brow HBB.out (Nat.le_refl _) (Nat.le_refl _) _)
  have hct' : ¬ (len : Int) < (sz : Int) := by omega
  have HSZ : Hid ((sz : Int) = ((11 + n : Nat) : Int) ∧ sz = 11 + n ∧ sz ≤ len ∧ n ≤ 197) := Lib.hid ⟨by omega, hsz.symm, by omega, hnm⟩
  obtain ⟨m, hm⟩ : ∃ m, maskS (ofS (h11.drop 4 ++ (zs.drop 11).take n)) = m := ⟨_, rfl⟩
  have hmt : maskS (ofS ((zs.take (11 + (num zs 4 2).toNat)).drop 4)) = m := by rw [hnn, tail_split zs n (by omega), hh, hm]
  have HS : Hid (∀ w v, Tab w → HD w w0.heap.size h11 → RI .u8 w v n ((zs.drop 11).take n) → Calls Tryd.prog 86 #[.pointer (some ⟨w0.heap.size, 0, none⟩), v] w fun e w' => e = .returned (.int .u64 m) ∧ w = w') := Lib.hid fun w v h1 h2 h3 => hsum_any w0.heap.size h1 h2 hhb h3 ((hbz.drop 11).take n) hm
  by_cases hsm : s = m
  rotate_left
  · have hR := Lib.hid (fragD_sum h1 h2 hok he (by omega) (by rw [hs, hmt]; omega))
    have hsm' : ((s : Int) != (m : Int)) = true := by simp; omega
    clear h1 h2 hz hri hbz ht hlc hh hhl hhb hk he hn hs gk ge gn gs hcell hnn hsz n1 s1 hz11 hkd hnm hok hct hm hmt hsm
    go_enter Tryd.func65, Tryd.ntmps65
    go_wp2_with (first
      | (refine wpl_val rfl (exec_arrptr (.tmp 17) rfl _ 11 11 rfl (by omega)) ?_)
      | (refine wpl_val rfl (exec_load_hat (.tmp 18) rfl rfl HAT.out) ?_)
      | (refine wpList_store_row rfl 145 _ _ rfl w0.heap.size (av h11) rfl rfl _ (av z11) (HD.new w0 z11 z11_length).1 (av_info _ HL.out) (by rw [av_size, av_size, HL.out, z11_length]) (av_one _) ?_; obtain ⟨w1, hw1⟩ : ∃ q, World.setRow (w0.alloc (.cells #[.int .u8 0, .int .u8 0, .int .u8 0, .int .u8 0, .int .u8 0, .int .u8 0, .int .u8 0, .int .u8 0, .int .u8 0, .int .u8 0, .int .u8 0] 145)) w0.heap.size (av h11) = q := ⟨_, rfl⟩; rw [hw1]; have HH1 : Hid (HD w1 w0.heap.size h11) := Lib.hid (by rw [← hw1]; exact (HD.new w0 z11 z11_length).row HL.out); have HB1 : Hid (Below w0.heap.size w0 w1) := Lib.hid (by rw [← hw1]; exact brow (balloc _ _) (Nat.le_refl _) (Nat.le_refl _) _); clear hw1)
      | (go_at_call 84; (with_reducible refine (HG6.out _ HH1.out).mono ?_); rintro r w' ⟨rfl, rfl⟩)
      | (go_at_call 84; (with_reducible refine (HG7.out _ HH1.out).mono ?_); rintro r w' ⟨rfl, rfl⟩)
      | (refine wpList_store_row rfl 70 _ _ rfl w1.heap.size (fA k e (.slice none 0 0)) rfl rfl _ _ (heap_alloc_last w1 _) (fr_info _ rfl) rfl (fr_one _ _ _ _ _) ?_; obtain ⟨w2, hw2⟩ : ∃ q, World.setRow (w1.alloc (.cells (fA 0 0 (.slice none 0 0)) 70)) w1.heap.size (fA k e (.slice none 0 0)) = q := ⟨_, rfl⟩; rw [hw2]; have HF2 : Hid (FO w2 w1.heap.size k e (.slice none 0 0)) := Lib.hid (by rw [← hw2]; exact FO.new _); have HB2 : Hid (Below w1.heap.size w1 w2) := Lib.hid (by rw [← hw2]; exact bnew _ _ _); have HH2 := Lib.hid (HH1.out.keep HB2.out); have HA2 := Lib.hid ((HA.out.keep HB1.out).keep HB2.out); have HBB := Lib.hid (bch HB.out (bch HB1.out HB2.out)); have HR2 := Lib.hid ((HR.out.keep HB1.out).keep HB2.out); have HT2 := Lib.hid ((HT.out.keep HB1.out).keep HB2.out); obtain ⟨c0, c1, c2⟩ := HF2.out.cells; clear hw2)
      | (go_at_call 84; (with_reducible refine (HG4.out _ HH2.out).mono ?_); rintro r w' ⟨rfl, rfl⟩)
      | (refine wpList_load_row rfl 145 _ rfl w0.heap.size rfl _ (av h11) (0, 0) _ HH2.out.1 Tryd.underlying145 rfl (av_info _ HL.out) ?_)
      | (go_at_call 85; (with_reducible refine (HKD.out _).mono ?_); rintro r w' ⟨rfl, rfl⟩)
      | (refine wpl_cut_lhm rfl (.tmp 56) (.const (.int .i64 11)) (.tmp 57) (.tmp 58) rfl _ len 11 n sz _ rfl rfl (congrArg (Value.int .i64) HSZ.out.1) rfl HR2.out (by have := HSZ.out; omega) (by have := HSZ.out; omega) (by have := HSZ.out; omega) ?_; intro p3 c3 hr3; have HR3 := Lib.hid hr3; clear hr3)
      | (go_at_call 84; (with_reducible refine (HG0.out _ HH2.out).mono ?_); rintro r w' ⟨rfl, rfl⟩)
      | (go_at_call 86; (with_reducible refine (HS.out _ _ HT2.out HH2.out HR3.out).mono ?_); rintro r w' ⟨rfl, rfl⟩)
      | (refine wpList_store_row rfl 70 _ _ rfl w.heap.size (fA 0 0 (.slice none 0 0)) rfl rfl _ _ HA2.out (fr_info _ rfl) rfl (fr_one _ _ _ _ _) ?_))
    refine bodyPost_ret_by (results_row_tmp2 rfl _ _ w.heap.size _ rfl (HA2.out.row 0 0 (.slice none 0 0)).load) rfl ?_
    exact decf_none hR.out (brow HBB.out (Nat.le_refl _) (Nat.le_refl _) _)
  subst hsm
  have hR0 := fragD_ok h1 h2 hok he (by omega) (by rw [hs, hmt])
  rw [hk, he, hnn, hsz] at hR0
  have hR := Lib.hid hR0
  clear h1 h2 hz hri hbz ht hlc hh hhl hhb hk he hn hs gk ge gn gs hcell hnn hsz n1 s1 hz11 hkd hnm hok hct hm hmt hR0
  go_enter Tryd.func65, Tryd.ntmps65
  go_wp2_with (first
    | (refine wpl_val rfl (exec_arrptr (.tmp 17) rfl _ 11 11 rfl (by omega)) ?_)
    | (refine wpl_val rfl (exec_load_hat (.tmp 18) rfl rfl HAT.out) ?_)
    | (refine wpList_store_row rfl 145 _ _ rfl w0.heap.size (av h11) rfl rfl _ (av z11) (HD.new w0 z11 z11_length).1 (av_info _ HL.out) (by rw [av_size, av_size, HL.out, z11_length]) (av_one _) ?_; obtain ⟨w1, hw1⟩ : ∃ q, World.setRow (w0.alloc (.cells #[.int .u8 0, .int .u8 0, .int .u8 0, .int .u8 0, .int .u8 0, .int .u8 0, .int .u8 0, .int .u8 0, .int .u8 0, .int .u8 0, .int .u8 0] 145)) w0.heap.size (av h11) = q := ⟨_, rfl⟩; rw [hw1]; have HH1 : Hid (HD w1 w0.heap.size h11) := Lib.hid (by rw [← hw1]; exact (HD.new w0 z11 z11_length).row HL.out); have HB1 : Hid (Below w0.heap.size w0 w1) := Lib.hid (by rw [← hw1]; exact brow (balloc _ _) (Nat.le_refl _) (Nat.le_refl _) _); clear hw1)
    | (go_at_call 84; (with_reducible refine (HG6.out _ HH1.out).mono ?_); rintro r w' ⟨rfl, rfl⟩)
    | (go_at_call 84; (with_reducible refine (HG7.out _ HH1.out).mono ?_); rintro r w' ⟨rfl, rfl⟩)
    | (refine wpList_store_row rfl 70 _ _ rfl w1.heap.size (fA k e (.slice none 0 0)) rfl rfl _ _ (heap_alloc_last w1 _) (fr_info _ rfl) rfl (fr_one _ _ _ _ _) ?_; obtain ⟨w2, hw2⟩ : ∃ q, World.setRow (w1.alloc (.cells (fA 0 0 (.slice none 0 0)) 70)) w1.heap.size (fA k e (.slice none 0 0)) = q := ⟨_, rfl⟩; rw [hw2]; have HF2 : Hid (FO w2 w1.heap.size k e (.slice none 0 0)) := Lib.hid (by rw [← hw2]; exact FO.new _); have HB2 : Hid (Below w1.heap.size w1 w2) := Lib.hid (by rw [← hw2]; exact bnew _ _ _); have HH2 := Lib.hid (HH1.out.keep HB2.out); have HA2 := Lib.hid ((HA.out.keep HB1.out).keep HB2.out); have HBB := Lib.hid (bch HB.out (bch HB1.out HB2.out)); have HR2 := Lib.hid ((HR.out.keep HB1.out).keep HB2.out); have HT2 := Lib.hid ((HT.out.keep HB1.out).keep HB2.out); obtain ⟨c0, c1, c2⟩ := HF2.out.cells; clear hw2)
    | (go_at_call 84; (with_reducible refine (HG4.out _ HH2.out).mono ?_); rintro r w' ⟨rfl, rfl⟩)
    | (refine wpList_load_row rfl 145 _ rfl w0.heap.size rfl _ (av h11) (0, 0) _ HH2.out.1 Tryd.underlying145 rfl (av_info _ HL.out) ?_)
    | (go_at_call 85; (with_reducible refine (HKD.out _).mono ?_); rintro r w' ⟨rfl, rfl⟩)
    | (refine wpl_cut_lhm rfl (.tmp 56) (.const (.int .i64 11)) (.tmp 57) (.tmp 58) rfl _ len 11 n sz _ rfl rfl (congrArg (Value.int .i64) HSZ.out.1) rfl HR2.out (by have := HSZ.out; omega) (by have := HSZ.out; omega) (by have := HSZ.out; omega) ?_; intro p3 c3 hr3; have HR3 := Lib.hid hr3; clear hr3)
    | (go_at_call 84; (with_reducible refine (HG0.out _ HH2.out).mono ?_); rintro r w' ⟨rfl, rfl⟩)
    | (go_at_call 86; (with_reducible refine (HS.out _ _ HT2.out HH2.out HR3.out).mono ?_); rintro r w' ⟨rfl, rfl⟩)
    | (go_at_call 83; (with_reducible refine (clone_any _ n _ _ HR3.out (by have := HSZ.out; omega)).mono ?_); rintro r wc ⟨vc, rfl, hoc, hbc⟩; obtain ⟨pc, cc, rfl⟩ := own_form hoc; have HAC := HA2.out.keep hbc; have HFC := HF2.out.keep hbc; have hfc := HFC.frozen 2; have hzc := HFC.cells.2.2; have HFD := Lib.hid (HFC.set2 (.slice pc n cc)); have HAD := Lib.hid (HAC.set_apart (b' := w1.heap.size) (Nat.ne_of_lt (HA.out.keep HB1.out).lt) 2 (.slice pc n cc)); have HOD := Lib.hid (HFC.set_own 2 (.slice pc n cc) (own_mono hoc HBB.out.size)); have HBD := Lib.hid (bset (bch HBB.out hbc) (b := w1.heap.size) (Nat.le_of_lt (HA.out.keep HB1.out).lt) (Nat.le_refl _) 2 (.slice pc n cc)); clear hoc hbc HAC HFC)
    | (refine wpl_load_fr rfl (.tmp 8) rfl rfl HFD.out ?_)
    | (refine wpList_store_row rfl 70 _ _ rfl w.heap.size (fA k e (.slice pc n cc)) rfl rfl _ _ HAD.out (fr_info _ rfl) rfl (fr_one _ _ _ _ _) ?_))
  refine bodyPost_ret_by (results_row_tmp2 rfl _ _ w.heap.size _ rfl (HAD.out.row k e (.slice pc n cc)).load) rfl ?_
  exact decf_some hR.out (HAD.out.row_own _ HOD.out) (brow HBD.out (Nat.le_refl _) (Nat.le_refl _) _)
end Go.Proofs.YtepaghohojomeaaDoor
/-
  WHAT THE PROGRAM'S OWN FUNCTIONS OF LAYER 7 (span) ANSWER: At, Left, Begin (place, Where: XSpanWhere). No condition.
-/
namespace Go.Proofs.YtepaghohojomeaaDoor
open Go.RowKit
/-- the place of a spot -/
def atN (s o : Int) : Nat := min ((min (max s 0) 16).toNat * 52 + (min (max o 0) 52).toNat) 832
set_option maxRecDepth 8000 in
theorem at_any (s o : Int) (h : I63 s) (h2 : I63 o) (w : World) : Calls Tryd.prog 72 #[.agg #[.int .i64 s, .int .i64 o]] w fun e w' => e = .returned (.int .i64 (atN s o : Int)) ∧ Below w.heap.size w w' := by
  obtain ⟨x, hx⟩ : ∃ x, min (max s 0) 16 = x := ⟨_, rfl⟩
  obtain ⟨y, hy⟩ : ∃ y, min (max o 0) 52 = y := ⟨_, rfl⟩
  have hx0 : 0 ≤ x := by omega
  have hx1 : x ≤ 16 := by omega
  have hy0 : 0 ≤ y := by omega
  have hy1 : y ≤ 52 := by omega
  have H1 : Hid (∀ w, Calls Tryd.prog 91 #[.int .i64 s, .int .i64 16] w fun e w' => e = .returned (.int .i64 x) ∧ w' = w) := fun w => hx ▸ nearer_any s 16 h (by omega) w
  have H2 : Hid (∀ w, Calls Tryd.prog 91 #[.int .i64 o, .int .i64 52] w fun e w' => e = .returned (.int .i64 y) ∧ w' = w) := fun w => hy ▸ nearer_any o 52 h2 (by omega) w
  have hwr : IntKind.i64.wrap (IntKind.i64.wrap (52 * x) + y) = 52 * x + y := by rw [wrap_id (52 * x) (by omega), wrap_id (52 * x + y) (by omega)]
  have H3 : Hid (∀ w, Calls Tryd.prog 74 #[.int .i64 (52 * x + y)] w fun e w' => e = .returned (.int .i64 (atN s o : Int)) ∧ w' = w) := fun w =>
    (place_any (52 * x + y) (by unfold I63; omega) w).mono fun e w' ⟨he, hw⟩ => ⟨by rw [he]; unfold nr atN; rw [hx, hy]; congr 2; omega, hw⟩
  generalize atN s o = at' at *
  clear hx hy
  unfold I63 at h h2
  go_enter Tryd.func72, Tryd.ntmps72
  go_wp2
  refine wp_region_held_drew (S := (fun w' => w' = (w.alloc (.cells #[.int .i64 s, .int .i64 o] 112)).drew)) (by kernel_rfl) rfl (fun hS => ?_)
  refine wpAnyH_take (i := 0) (oi := ({ dst := some 3, op := Op.fieldAddr 112 (Operand.tmp 1) 0, type := 0, pos := "span.go:18", after := #[], guard := none } : Oper)) (v := ?_) rfl (by kernel_rfl) (by kernel_rfl) (by kernel_rfl) (fun _ _ _ h => h) (Or.inl ⟨by rfl, ?_⟩) hS ?_
  rotate_left
  · (intro w hSw; (try dsimp only at hSw); go_simp; try with_reducible rfl)
  (try simp only [Act.put, List.setIfInBounds_toArray, List.set_cons_zero, List.set_cons_succ])
  refine wpAnyH_take (i := 1) (oi := ({ dst := some 4, op := Op.load 3 (Operand.tmp 3), type := 3, pos := "span.go:18", after := #[{ on := 0, ground := Ground.data }], guard := none } : Oper)) (v := ?_) rfl (by kernel_rfl) (by kernel_rfl) (by kernel_rfl) (fun _ _ _ h => h) (Or.inl ⟨by rfl, ?_⟩) hS ?_
  rotate_left
  · (intro w hSw; (try dsimp only at hSw); go_simp; try with_reducible rfl)
  (try simp only [Act.put, List.setIfInBounds_toArray, List.set_cons_zero, List.set_cons_succ])
  refine wpAnyH_take (i := 4) (oi := ({ dst := some 7, op := Op.fieldAddr 112 (Operand.tmp 1) 1, type := 0, pos := "span.go:18", after := #[], guard := none } : Oper)) (v := ?_) rfl (by kernel_rfl) (by kernel_rfl) (by kernel_rfl) (fun _ _ _ h => h) (Or.inl ⟨by rfl, ?_⟩) hS ?_
  rotate_left
  · (intro w hSw; (try dsimp only at hSw); go_simp; try with_reducible rfl)
  (try simp only [Act.put, List.setIfInBounds_toArray, List.set_cons_zero, List.set_cons_succ])
  refine wpAnyH_take (i := 5) (oi := ({ dst := some 8, op := Op.load 3 (Operand.tmp 7), type := 3, pos := "span.go:18", after := #[{ on := 4, ground := Ground.data }], guard := none } : Oper)) (v := ?_) rfl (by kernel_rfl) (by kernel_rfl) (by kernel_rfl) (fun _ _ _ h => h) (Or.inl ⟨by rfl, ?_⟩) hS ?_
  rotate_left
  · (intro w hSw; (try dsimp only at hSw); go_simp; try with_reducible rfl)
  (try simp only [Act.put, List.setIfInBounds_toArray, List.set_cons_zero, List.set_cons_succ])
  refine rg_one 2 ({ dst := some 5, op := Op.call { callee := Callee.value (Operand.func 91), args := #[Operand.tmp 4, Operand.const (Value.int IntKind.i64 16)], argTypes := #[3, 3] }, type := 3, pos := "span.go:18", after := #[{ on := 1, ground := Ground.data }], guard := none } : Oper) (by kernel_rfl) rfl (fun K hK => ?_)
  go_simp
  (go_at_call 91; (with_reducible refine (H1.out _).mono ?_); rintro e w2 ⟨rfl, rfl⟩)
  refine hK.out _ _ ?_ (fun hS1 => ?_)
  · (exact hS)
  clear hK K hS; have hS := hS1; clear hS1
  (try simp only [Act.put, List.setIfInBounds_toArray, List.set_cons_zero, List.set_cons_succ])
  refine wpAnyH_take (i := 3) (oi := ({ dst := some 6, op := Op.binOp BinOp.mul 3 (Operand.const (Value.int IntKind.i64 52)) (Operand.tmp 5) 3, type := 3, pos := "span.go:18", after := #[{ on := 2, ground := Ground.data }], guard := none } : Oper)) (v := ?_) rfl (by kernel_rfl) (by kernel_rfl) (by kernel_rfl) (fun _ _ _ h => h) (Or.inl ⟨by rfl, ?_⟩) hS ?_
  rotate_left
  · (intro w hSw; (try dsimp only at hSw); go_simp; try with_reducible rfl)
  (try simp only [Act.put, List.setIfInBounds_toArray, List.set_cons_zero, List.set_cons_succ])
  refine rg_one 6 ({ dst := some 9, op := Op.call { callee := Callee.value (Operand.func 91), args := #[Operand.tmp 8, Operand.const (Value.int IntKind.i64 52)], argTypes := #[3, 3] }, type := 3, pos := "span.go:18", after := #[{ on := 5, ground := Ground.data }, { on := 2, ground := Ground.chain }], guard := none } : Oper) (by kernel_rfl) rfl (fun K hK => ?_)
  go_simp
  (go_at_call 91; (with_reducible refine (H2.out _).mono ?_); rintro e w2 ⟨rfl, rfl⟩)
  refine hK.out _ _ ?_ (fun hS1 => ?_)
  · (exact hS)
  clear hK K hS; have hS := hS1; clear hS1
  (try simp only [Act.put, List.setIfInBounds_toArray, List.set_cons_zero, List.set_cons_succ])
  refine wpAnyH_take (i := 7) (oi := ({ dst := some 10, op := Op.binOp BinOp.add 3 (Operand.tmp 6) (Operand.tmp 9) 3, type := 3, pos := "span.go:18", after := #[{ on := 3, ground := Ground.data }, { on := 6, ground := Ground.data }], guard := none } : Oper)) (v := ?_) rfl (by kernel_rfl) (by kernel_rfl) (by kernel_rfl) (fun _ _ _ h => h) (Or.inl ⟨by rfl, ?_⟩) hS ?_
  rotate_left
  · (intro w hSw; (try dsimp only at hSw); go_simp; try with_reducible rfl)
  (try simp only [Act.put, List.setIfInBounds_toArray, List.set_cons_zero, List.set_cons_succ])
  refine rg_one 8 ({ dst := some 11, op := Op.call { callee := Callee.value (Operand.func 74), args := #[Operand.tmp 10], argTypes := #[3] }, type := 3, pos := "span.go:18", after := #[{ on := 7, ground := Ground.data }, { on := 6, ground := Ground.chain }], guard := none } : Oper) (by kernel_rfl) rfl (fun K hK => ?_)
  go_simp
  (go_at_call 74; (with_reducible refine (H3.out _).mono ?_); rintro e w2 ⟨rfl, rfl⟩)
  refine hK.out _ _ ?_ (fun hS1 => ?_)
  · (exact hS)
  clear hK K hS; have hS := hS1; clear hS1
  (try simp only [Act.put, List.setIfInBounds_toArray, List.set_cons_zero, List.set_cons_succ])
  refine wpAnyH_take (i := 9) (oi := ({ dst := some 2, op := Op.assign (Operand.tmp 11), type := 3, pos := "span.go:18", after := #[{ on := 8, ground := Ground.data }, { on := 8, ground := Ground.chain }, { on := 0, ground := Ground.phase }, { on := 1, ground := Ground.phase }, { on := 2, ground := Ground.phase }, { on := 3, ground := Ground.phase }, { on := 4, ground := Ground.phase }, { on := 5, ground := Ground.phase }, { on := 6, ground := Ground.phase }, { on := 7, ground := Ground.phase }, { on := 8, ground := Ground.phase }], guard := none } : Oper)) (v := ?_) rfl (by kernel_rfl) (by kernel_rfl) (by kernel_rfl) (fun _ _ _ h => h) (Or.inl ⟨by rfl, ?_⟩) hS ?_
  rotate_left
  · (intro w hSw; (try dsimp only at hSw); go_simp; try with_reducible rfl)
  (try simp only [Act.put, List.setIfInBounds_toArray, List.set_cons_zero, List.set_cons_succ])
  refine wpAnyH_done (by kernel_rfl) ?_ _
  go_wp2
  go_ret
  exact ⟨rfl, ((Below.refl _ _).alloc (Nat.le_refl _) _).drew⟩
theorem at_nat (s o a : Nat) (hs : s ≤ 16) (ho : o ≤ 51) (ha : s * 52 + o = a) (ha2 : a ≤ 832) (w : World) : Calls Tryd.prog 72 #[.agg #[.int .i64 s, .int .i64 o]] w fun e w' => e = .returned (.int .i64 (a : Int)) ∧ Below w.heap.size w w' :=
  (at_any s o (by unfold I63; omega) (by unfold I63; omega) w).mono fun e w' ⟨he, hw⟩ => ⟨by rw [he]; unfold atN; congr 2; omega, hw⟩
set_option maxRecDepth 8000 in
theorem left_any (n : Int) (h : I63 n) (w : World) : Calls Tryd.prog 66 #[.int .i64 n] w fun e w' => e = .returned (.int .i64 (leftN (nr n) : Int)) ∧ Below w.heap.size w w' := by
  have hle := nr_le n
  have HW : Hid (∀ w, Calls Tryd.prog 52 #[.int .i64 n] w fun e w' => e = .returned (.agg #[.int .i64 ((nr n / 52 : Nat) : Int), .int .i64 ((nr n % 52 : Nat) : Int)]) ∧ Below w.heap.size w w') := fun w => where_any n h w
  generalize nr n = a at *
  have HA : Hid (∀ w, Calls Tryd.prog 72 #[.agg #[.int .i64 ((a / 52 : Nat) : Int), .int .i64 ((a % 52 : Nat) : Int)]] w fun e w' => e = .returned (.int .i64 (a : Int)) ∧ Below w.heap.size w w') := fun w =>
    at_nat (a / 52) (a % 52) a (by omega) (by omega) (by omega) hle w
  have hm : (a : Int).tmod 208 = ((a % 208 : Nat) : Int) := by rw [Int.tmod_eq_emod_of_nonneg (by omega)]; omega
  have hmd := Nat.div_add_mod a 52
  obtain ⟨q, hq2⟩ : ∃ q, a / 52 = q := ⟨_, rfl⟩
  obtain ⟨r, hr2⟩ : ∃ r, a % 52 = r := ⟨_, rfl⟩
  obtain ⟨k, hk2⟩ : ∃ k, a % 208 = k := ⟨_, rfl⟩
  have hr3 : r < 52 := by omega
  have hk3 : (k : Int) < 208 := by omega
  rw [hq2, hr2] at HW HA hmd
  rw [hk2] at hm
  have HL := Lib.hid (show leftN a = if a = 832 then 0 else 208 - k by unfold leftN; rw [hk2])
  generalize leftN a = la at *
  have HM := Lib.hid hmd
  have HR := Lib.hid hr3
  clear hq2 hr2 hk2 hmd hr3
  by_cases h8 : a = 832
  · have hq : (q : Int) = 16 := by have := HM.out; have := HR.out; omega
    have hr : (r : Int) = 0 := by have := HM.out; have := HR.out; omega
    go_enter Tryd.func66, Tryd.ntmps66
    go_wp2_with (first
      | (go_at_call 52; (with_reducible refine (HW.out _).mono ?_); rintro e w1 ⟨rfl, hb⟩; have HB1 := Lib.hid hb; clear hb))
    go_ret
    exact ⟨ret_int (by rw [HL.out, if_pos h8]; rfl), HB1.out.alloc HB1.out.size _⟩
  · have hne : ¬ (q : Int) = 16 := by have := HM.out; have := HR.out; omega
    go_enter Tryd.func66, Tryd.ntmps66
    go_wp2_with (first
      | (go_at_call 52; (with_reducible refine (HW.out _).mono ?_); rintro e w1 ⟨rfl, hb⟩; have HB1 := Lib.hid hb; clear hb)
      | (go_at_call 72; (with_reducible refine (HA.out _).mono ?_); rintro e w2 ⟨rfl, hb⟩; have HB2 := Lib.hid (bchain (HB1.out.alloc HB1.out.size _) hb); clear hb))
    go_ret
    exact ⟨ret_int (by rw [HL.out, if_neg h8]; omega), HB2.out⟩
set_option maxRecDepth 8000 in
theorem begin_any (n : Int) (h : I63 n) (w : World) : Calls Tryd.prog 47 #[.int .i64 n] w fun e w' => e = .returned (.int .i64 (beginN (nr n) : Int)) ∧ Below w.heap.size w w' := by
  have hle := nr_le n
  have HW : Hid (∀ w, Calls Tryd.prog 52 #[.int .i64 n] w fun e w' => e = .returned (.agg #[.int .i64 ((nr n / 52 : Nat) : Int), .int .i64 ((nr n % 52 : Nat) : Int)]) ∧ Below w.heap.size w w') := fun w => where_any n h w
  generalize nr n = a at *
  have hb := begin_le a hle
  have hmd := Nat.div_add_mod a 52
  obtain ⟨q, hq2⟩ : ∃ q, a / 52 = q := ⟨_, rfl⟩
  obtain ⟨r, hr2⟩ : ∃ r, a % 52 = r := ⟨_, rfl⟩
  have hr3 : r < 52 := by omega
  rw [hq2, hr2] at HW
  rw [hq2, hr2] at hmd
  have hbg : beginN a = if 41 < r then (q + 1) * 52 else a := by unfold beginN; rw [hq2, hr2]
  generalize beginN a = be at *
  clear hq2 hr2
  have hr4 : (r : Int) ≤ 51 := by omega
  have hq4 : (q : Int) ≤ 16 := by omega
  by_cases h4 : 41 < r
  · rw [if_pos h4] at hbg
    have HA : Hid (∀ w, Calls Tryd.prog 72 #[.agg #[.int .i64 ((q : Int) + 1), .int .i64 0]] w fun e w' => e = .returned (.int .i64 (be : Int)) ∧ Below w.heap.size w w') := fun w =>
      at_nat (q + 1) 0 be (by omega) (by omega) (by omega) (by omega) w
    clear hmd hb hbg
    go_enter Tryd.func47, Tryd.ntmps47
    go_wp2_with (first
      | (go_at_call 52; (with_reducible refine (HW.out _).mono ?_); rintro e w1 ⟨rfl, hb⟩; have HB1 := Lib.hid hb; clear hb)
      | (go_at_call 72; (with_reducible refine (HA.out _).mono ?_); rintro e w2 ⟨rfl, hb⟩; have HB2 := Lib.hid (bchain (HB1.out.alloc HB1.out.size _) hb); clear hb))
    go_ret
    exact ⟨rfl, HB2.out⟩
  · rw [if_neg h4] at hbg
    subst hbg
    have HA : Hid (∀ w, Calls Tryd.prog 72 #[.agg #[.int .i64 (q : Int), .int .i64 (r : Int)]] w fun e w' => e = .returned (.int .i64 (be : Int)) ∧ Below w.heap.size w w') := fun w =>
      at_nat q r be (by omega) (by omega) (by omega) (by omega) w
    clear hmd hb
    go_enter Tryd.func47, Tryd.ntmps47
    go_wp2_with (first
      | (go_at_call 52; (with_reducible refine (HW.out _).mono ?_); rintro e w1 ⟨rfl, hb⟩; have HB1 := Lib.hid hb; clear hb)
      | (go_at_call 72; (with_reducible refine (HA.out _).mono ?_); rintro e w2 ⟨rfl, hb⟩; have HB2 := Lib.hid (bchain (HB1.out.alloc HB1.out.size _) hb); clear hb))
    go_ret
    exact ⟨rfl, HB2.out⟩
end Go.Proofs.YtepaghohojomeaaDoor
