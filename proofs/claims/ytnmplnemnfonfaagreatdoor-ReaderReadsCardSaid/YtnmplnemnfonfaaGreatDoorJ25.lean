/-
  TEXTS JOINED: ImgSecF, ImgRefL, JoinRefF, WholeB, ScanRl, Few, ScanAwake. Each one's own words stand at its head.
-/
import Derived.Test.YtnmplnemnfonfaaGreatDoorJ23
import Derived.Test.YtnmplnemnfonfaaGreatDoorJ14
import Derived.Test.YtnmplnemnfonfaaGreatDoorJ24
import Derived.Test.YtnmplnemnfonfaaGreatDoorJ17
import Derived.Test.YtnmplnemnfonfaaGreatDoorJ15
import Derived.Test.YtnmplnemnfonfaaGreatDoorJ11
import Derived.Test.YtnmplnemnfonfaaGreatDoorJ18
import Derived.Test.YtnmplnemnfonfaaGreatDoorJ1
import Derived.Test.YtnmplnemnfonfaaGreatDoorJ19
namespace Go.Proofs.YtnmplnemnfonfaaGreatDoor
open Go.RowKit
def SecF (w : World) (ls : List (List Int)) (ep : Int) (e : Ending) (w' : World) : Prop :=
  (fitsF ls = true ∧ ∃ v, e = .returned (.tuple #[v, .bool true]) ∧ FS w' v 16 (wholeK ep (bodyF (ep % 4294967296) ls) (touchN 0 (endF ls)).2 16) ∧ Below w.heap.size w w') ∨
  (fitsF ls = false ∧ e = .returned (.tuple #[.slice none 0 0, .bool false]) ∧ Below w.heap.size w w')
def SecO (w : World) (ls : List (List Int)) (ep : Int) (e : Ending) (w' : World) : Prop :=
  (fitsF ls = true ∧ ∃ v, e = .returned (.tuple #[v, .bool true]) ∧ w'.ownsRow w.heap.size 92 64 v 16 (il .u8 (wholeK ep (bodyF (ep % 4294967296) ls) (touchN 0 (endF ls)).2 16)) ∧ Below w.heap.size w w') ∨
  (fitsF ls = false ∧ e = .returned (.tuple #[.slice none 0 0, .bool false]) ∧ Below w.heap.size w w')
theorem SecO.f {w w' : World} {ls : List (List Int)} {ep : Int} {e : Ending} (h : SecO w ls ep e w') : SecF w ls ep e w' :=
  h.imp (fun ⟨h1, v, h2, h3, h4⟩ => ⟨h1, v, h2, FS.own h3, h4⟩) id
end Go.Proofs.YtnmplnemnfonfaaGreatDoor
namespace Go.Proofs.YtnmplnemnfonfaaGreatDoor
open Go.RowKit
theorem Tryz.info_i64 : (Tryz.prog.info? 3).map (fun i => (i.zero, i.size, i.bytes)) = some (some (.int .i64 0), 1, 8) := by kernel_rfl
theorem results_tmp4 {fn : Func} {t u v x : Tmp} (h : fn.results = #[.tmp t, .tmp u, .tmp v, .tmp x]) (tmps : Array Value) (P : Program) (w : World) :
    (results fn tmps).run P w = .ok (.tuple #[tmps.getD t undef, tmps.getD u undef, tmps.getD v undef, tmps.getD x undef]) w := by
  simp [results, h]
theorem YB.ne_own {w : World} {g : Nat} {zs : List Int} (h : YB w g zs) {base n : Nat} {u : Value} {xs : List Value} (ho : w.ownsRow base 3 1 u n xs) : u.ownBlock ≠ some g := by
  intro hq
  rcases ho.2 with ⟨rfl, _⟩ | ⟨q, cap, cur, rfl, _, hcur, _⟩
  · simp [Value.ownBlock] at hq
  · simp only [Value.ownBlock, Option.some.injEq] at hq
    subst hq
    unfold YB at h
    rw [h] at hcur
    simp only [Option.some.injEq, Obj.cells.injEq] at hcur
    exact absurd hcur.2.1 (by decide)
theorem YB.grown {w w' : World} {g : Nat} {zs : List Int} (h : YB w g zs) {base n : Nat} {u : Value} {xs : List Value} (ho : w.ownsRow base 3 1 u n xs) (hg : w.grownBy w' u.ownBlock) : YB w' g zs :=
  (hg.block g h.lt (fun e => h.ne_own ho e.symm)).trans h
theorem ri_new1 (w : World) (x : Int) : RI .i64 (w.alloc (.cells #[.int .i64 x] 3)) (.slice (some ⟨w.heap.size, 0, none⟩) 1 1) 1 [x] := by
  refine ⟨_, 1, rfl, rfl, Nat.le_refl _, by omega, fun h => by simp at h, fun _ => ⟨w.heap.size, 0, rfl, fun j hj => ?_⟩⟩
  obtain rfl : j = 0 := by omega
  rw [Nat.zero_add, cell_of_row _ w.heap.size 0 _ _ _ (heap_alloc_last w _)]
  rfl
theorem good_few {ls : List (List Int)} : ∀ {k : Nat}, GoodF ls k → k ≤ ls.length → k ≤ endF (ls.take k)
  | 0, _, _ => Nat.zero_le _
  | k + 1, h, hk => by
    have ih := good_few (k := k) (fun j hj => h j (by omega)) (by omega)
    have h1 := (end_gt (h k (by omega))).1
    rw [nr_nat _ (endF_le _)] at h1
    rw [endF_next ls k (by omega)]
    omega
def LayF (w : World) (ls : List (List Int)) (e32 : Int) (N : Nat) (e : Ending) (w' : World) : Prop :=
  (fitsF ls = true ∧ ∃ g pa pc, e = .returned (.tuple #[.slice (some ⟨g, 0, none⟩) 832 832, .slice pa N pc, .int .i64 (endF ls : Nat), .bool true]) ∧ YB w' g (bodyF e32 ls) ∧ w'.ownsRow w.heap.size 3 1 (.slice pa N pc) N (il .i64 (placesF ls)) ∧ Below w.heap.size w w') ∨
  (fitsF ls = false ∧ e = .returned (.tuple #[.slice none 0 0, .slice none 0 0, .int .i64 0, .bool false]) ∧ Below w.heap.size w w')
set_option maxRecDepth 8000 in
set_option maxHeartbeats 8000000 in
theorem rlay_any (ep : Int) (hep : U64 ep) (lv : Value) (N : Nat) (ls : List (List Int)) (hN : (N : Int) ≤ 9223372036854775807) (hlb : ∀ l ∈ ls, isB l) (w : World) (hrl : RL .u8 w lv N ls) :
    Calls Tryz.prog 15 #[.int .u64 ep, lv] w (LayF w ls (ep % 4294967296) N) := by
  have hll := hrl.length
  obtain ⟨la, lc, rfl, _⟩ := hrl.form
  obtain ⟨e32, he⟩ : ∃ e32, ep % 4294967296 = e32 := ⟨_, rfl⟩
  rw [he]
  have HAF : Hid (∀ (a : Nat) (b : List Int) (bv dv : Value) (n : Nat) (zs : List Int) (w : World), a ≤ 832 → isB zs → b.length = 832 → RI .u8 w bv 832 b → RI .u8 w dv n zs → fitI (a : Nat) n = true → Calls Tryz.prog 34 #[.int .u64 ep, bv, .int .i64 (a : Nat), dv] w fun e w' => ∃ g, e = .returned (.tuple #[.slice (some ⟨g, 0, none⟩) 832 832, .int .i64 (endI (a : Nat) n : Nat), .bool true]) ∧
      YB w' g (layR e32 b (a : Nat) zs) ∧ w.heap.size ≤ g ∧ Below w.heap.size w w') := Lib.hid fun a b bv dv n zs w h1 h2 h3 h4 h5 h6 => by
    have := radd_fit ep (a : Nat) (by unfold I63; omega) hep bv 832 b dv n zs h2 w h4 h5 h6
    rwa [he, pad8_full h3] at this
  have HLL := Lib.hid hll
  have HLB := Lib.hid hlb
  have HRL := Lib.hid hrl
  have HBG : Hid (∀ (a : Nat) (w : World), a ≤ 832 → Calls Tryz.prog 33 #[.int .i64 (a : Nat)] w fun e w' => e = .returned (.int .i64 (beginN a : Int)) ∧ w = w') := Lib.hid fun a w h => (rbegin_any a (by unfold I63; omega) w).mono fun e w' ⟨h1, h2⟩ => ⟨by rw [h1, nr_nat _ h], h2.symm⟩
  clear hep hll hlb hrl he
  go_enter Tryz.func15, Tryz.ntmps15
  go_wp2_with (first
    | (refine wpl_mk_yb rfl _ _ rfl 832 rfl rfl (by omega) ?_; intro g0 w1 HY1 HG1 HB1))
  go_loopw [8, 9, 10, 11, 12] (fun bv pv ev kv iv wr => ∃ (i g : Nat) (pa : Option Addr) (pc a : Nat), iv = .int .i64 (i : Int) ∧ kv = .bool true ∧ bv = .slice (some ⟨g, 0, none⟩) 832 832 ∧ pv = .slice pa i pc ∧ ev = .int .i64 (a : Int) ∧ i ≤ N ∧ a ≤ 832 ∧ Hid (endF (ls.take i) = a) ∧ Hid (GoodF ls i) ∧ Hid (YB wr g (bodyF e32 (ls.take i))) ∧ Hid (wr.ownsRow w.heap.size 3 1 (.slice pa i pc) i (il .i64 (placesF (ls.take i)))) ∧ Hid (Below w.heap.size w wr)) (fun _ _ _ _ iv _ => N - (intOf iv).toNat)
  case atStart => exact ⟨0, g0, none, 0, 0, rfl, rfl, rfl, rfl, rfl, by omega, by omega, Lib.hid (by simp [endF_nil]), Lib.hid (GoodF.zero ls), Lib.hid (by rw [List.take_zero, bodyF_nil]; exact HY1.out), Lib.hid (World.ownsRow_nil _ _ _ _), HB1⟩
  case round =>
    obtain ⟨i, g, pa, pc, a, rfl, rfl, rfl, rfl, rfl, hi, ha, HA, HGD, HY, HO, HB⟩ := hrel
    have hi8 : i ≤ 832 := by have h1 := good_few HGD.out (by rw [HLL.out]; exact hi); rw [HA.out] at h1; omega
    by_cases hlt : (i : Int) < (N : Int)
    · obtain ⟨b, off, rfl, hat⟩ := HRL.out.at_ (by omega)
      obtain ⟨x, c, hc, hr⟩ := hat i (by omega)
      obtain ⟨zs, hzs⟩ : ∃ zs, ls.getD i [] = zs := ⟨_, rfl⟩
      rw [hzs] at hc hr
      obtain ⟨n, hn⟩ : ∃ n, zs.length = n := ⟨_, rfl⟩
      rw [hn] at hc hr
      have hzb : isB zs := HLB.out zs (by rw [← hzs]; simp [List.getD, show i < ls.length by rw [HLL.out]; omega])
      have HPN := Lib.hid (placesF_next ls i (by rw [HLL.out]; omega))
      have HBN := Lib.hid (bodyF_next e32 ls i (by rw [HLL.out]; omega))
      have HEN := Lib.hid (endF_next ls i (by rw [HLL.out]; omega))
      rw [HA.out] at HPN HBN HEN
      rw [hzs] at HBN HEN
      rw [hn] at HEN
      obtain ⟨bg, hbg⟩ : ∃ bg, beginN a = bg := ⟨_, rfl⟩
      have H1 := HBG.out a
      rw [hbg] at H1 HPN
      have H1 := Lib.hid H1
      have HC := Lib.hid hc
      have HR := Lib.hid hr
      have HZB := Lib.hid hzb
      have HBL := Lib.hid (bodyF_at e32 ls i (by rw [HLL.out]; omega))
      have HIN : Hid (i + 1 ≤ ls.length) := Lib.hid (by rw [HLL.out]; omega)
      have HFT : Hid (fitI (endF (ls.take i) : Nat) (ls.getD i []).length = fitI (a : Nat) n) := Lib.hid (by rw [HA.out, hzs, hn])
      obtain ⟨a9, ha9⟩ : ∃ a9, endI (a : Nat) n = a9 := ⟨_, rfl⟩
      have ha98 : a9 ≤ 832 := by rw [← ha9]; exact end_le _ _
      rw [ha9] at HEN
      have HA1 : ∀ (bv dv : Value) (w : World), RI .u8 w bv 832 (bodyF e32 (ls.take i)) → RI .u8 w dv n zs → fitI (a : Nat) n = true → Calls Tryz.prog 34 #[.int .u64 ep, bv, .int .i64 (a : Nat), dv] w fun e w' => ∃ g, e = .returned (.tuple #[.slice (some ⟨g, 0, none⟩) 832 832, .int .i64 (a9 : Nat), .bool true]) ∧ YB w' g (bodyF e32 (ls.take (i + 1))) ∧ w.heap.size ≤ g ∧ Below w.heap.size w w' := fun bv dv w h1 h2 h3 => by
        rw [HBN.out, ← ha9]; exact HAF.out a _ bv dv n zs w ha HZB.out HBL.out h1 h2 h3
      have HA1 := Lib.hid HA1
      have HA0 : ∀ (bv : Value) (w : World), fitI (a : Nat) n = false → Calls Tryz.prog 34 #[.int .u64 ep, bv, .int .i64 (a : Nat), .slice x n c] w fun e w' => e = .returned (.tuple #[.slice none 0 0, .int .i64 0, .bool false]) ∧ Below w.heap.size w w' := fun bv w h => radd_no ep (a : Nat) (by unfold I63; omega) bv x n c (by have := HR.out.le; omega) w h
      have HA0 := Lib.hid HA0
      clear hc hr hzb hat hzs hn ha9 hbg
      cases hf : fitI (a : Nat) n with
      | true =>
        have HA2 : Hid (∀ (bv dv : Value) (w : World), RI .u8 w bv 832 (bodyF e32 (ls.take i)) → RI .u8 w dv n zs → Calls Tryz.prog 34 #[.int .u64 ep, bv, .int .i64 (a : Nat), dv] w fun e w' => ∃ g, e = .returned (.tuple #[.slice (some ⟨g, 0, none⟩) 832 832, .int .i64 (a9 : Nat), .bool true]) ∧ YB w' g (bodyF e32 (ls.take (i + 1))) ∧ w.heap.size ≤ g ∧ Below w.heap.size w w') := Lib.hid fun bv dv w h1 h2 => HA1.out bv dv w h1 h2 hf
        have HGN : Hid (GoodF ls (i + 1)) := Lib.hid (HGD.out.next (by rw [HFT.out]; exact hf))
        clear HA1 HA0 hf
        go_wp2_with (first
          | (go_at_call 33; (with_reducible refine (H1.out _ ha).mono ?_); rintro e w' ⟨rfl, rfl⟩)
          | (at_builtin; refine wpl_appw rfl (.tmp 20) (.tmp 23) 43 rfl 3 .i64 8 Tryz.underlying43 Tryz.info_i64 w.heap.size _ i _ rfl (HO.out.alloc _) _ 1 [(bg : Int)] rfl (ri_new1 wr bg) (by omega) (by omega) (by have := HB.out.size; simp; omega) ?_; intro v2 w2 HO2 HG2 _; rw [← HPN.out] at HO2; obtain ⟨a2, c2, rfl⟩ := own_form HO2.out; have HY2 := Lib.hid ((HY.out.keep (balloc wr _)).grown (HO.out.alloc _) HG2.out); have HB2 : Hid (Below w.heap.size w w2) := Lib.hid ((HB.out.alloc HB.out.size _).grown HG2.out (by have := HB.out.size; simp; omega) (fun q hq => (HO.out.lt q hq).1)); have hc2 := cell_keep HB2.out HC.out)
          | (go_at_call 34; (with_reducible refine (HA2.out _ _ _ (HY2.out.ri HBL.out (by omega)) (HR.out.keep HB2.out)).mono ?_); rintro e w3 ⟨g3, rfl, hy, _, hb⟩; have HY3 := Lib.hid hy; have HO3 := Lib.hid (own_keep HO2.out hb); have HB3 := Lib.hid (bch HB2.out hb); clear hy hb))
        go_roundw
        case rel => exact ⟨i + 1, g3, a2, c2, a9, by go_num, rfl, rfl, rfl, rfl, by omega, ha98, HEN, HGN, HY3, HO3, HB3⟩
        case measure => simp [intOf]; omega
      | false =>
        have HA2 : Hid (∀ (bv : Value) (w : World), Calls Tryz.prog 34 #[.int .u64 ep, bv, .int .i64 (a : Nat), .slice x n c] w fun e w' => e = .returned (.tuple #[.slice none 0 0, .int .i64 0, .bool false]) ∧ Below w.heap.size w w') := Lib.hid fun bv w => HA0.out bv w hf
        have HNO : Hid (fitsF ls = false) := Lib.hid (fitsF_bad ⟨i, HIN.out, by rw [HFT.out]; exact hf⟩)
        clear HA1 HA0 hf
        go_wp2_with (first
          | (go_at_call 33; (with_reducible refine (H1.out _ ha).mono ?_); rintro e w' ⟨rfl, rfl⟩)
          | (at_builtin; refine wpl_appw rfl (.tmp 20) (.tmp 23) 43 rfl 3 .i64 8 Tryz.underlying43 Tryz.info_i64 w.heap.size _ i _ rfl (HO.out.alloc _) _ 1 [(bg : Int)] rfl (ri_new1 wr bg) (by omega) (by omega) (by have := HB.out.size; simp; omega) ?_; intro v2 w2 HO2 HG2 _; rw [← HPN.out] at HO2; obtain ⟨a2, c2, rfl⟩ := own_form HO2.out; have HY2 := Lib.hid ((HY.out.keep (balloc wr _)).grown (HO.out.alloc _) HG2.out); have HB2 : Hid (Below w.heap.size w w2) := Lib.hid ((HB.out.alloc HB.out.size _).grown HG2.out (by have := HB.out.size; simp; omega) (fun q hq => (HO.out.lt q hq).1)); have hc2 := cell_keep HB2.out HC.out)
          | (go_at_call 34; (with_reducible refine (HA2.out _ _).mono ?_); rintro e w3 ⟨rfl, hb⟩; have HB3 := Lib.hid (bch HB2.out hb); clear hb))
        (try simp only [Exit.inBlock, Exit.then]); refine bodyPost_ret (results_tmp4 rfl _ _ _) rfl ?_
        exact .inr ⟨HNO.out, rfl, HB3.out⟩
    · obtain rfl : i = N := by omega
      have HFT : Hid (fitsF ls = true) := Lib.hid (fitsF_good (by rw [HLL.out]; exact HGD.out))
      have HTK : Hid (ls.take i = ls) := Lib.hid (List.take_of_length_le (by rw [HLL.out]; omega))
      rw [HTK.out] at HA HY HO
      go_wp2
      (try simp only [Exit.inBlock, Exit.then]); refine bodyPost_ret (results_tmp4 rfl _ _ _) rfl ?_
      exact .inl ⟨HFT.out, g, pa, pc, by rw [HA.out]; rfl, HY.out, HO.out, HB.out⟩
theorem lay_yes {w : World} {ls : List (List Int)} {e32 : Int} {N : Nat} {fn : Nat} {args : Array Value} (h : Calls Tryz.prog fn args w (LayF w ls e32 N)) (hf : fitsF ls = true) :
    Calls Tryz.prog fn args w fun e w' => ∃ g pa pc, e = .returned (.tuple #[.slice (some ⟨g, 0, none⟩) 832 832, .slice pa N pc, .int .i64 (endF ls : Nat), .bool true]) ∧ YB w' g (bodyF e32 ls) ∧ w'.ownsRow w.heap.size 3 1 (.slice pa N pc) N (il .i64 (placesF ls)) ∧ Below w.heap.size w w' :=
  h.mono fun e w' h => by
    rcases h with ⟨_, h⟩ | ⟨h, _⟩
    · exact h
    · rw [hf] at h; cases h
theorem lay_not {w : World} {ls : List (List Int)} {e32 : Int} {N : Nat} {fn : Nat} {args : Array Value} (h : Calls Tryz.prog fn args w (LayF w ls e32 N)) (hf : fitsF ls = false) :
    Calls Tryz.prog fn args w fun e w' => e = .returned (.tuple #[.slice none 0 0, .slice none 0 0, .int .i64 0, .bool false]) ∧ Below w.heap.size w w' :=
  h.mono fun e w' h => by
    rcases h with ⟨h, _⟩ | ⟨_, h⟩
    · rw [hf] at h; cases h
    · exact h
set_option maxRecDepth 8000 in
set_option maxHeartbeats 2000000 in
theorem rsectors_own (ep : Int) (hep : U64 ep) (lv : Value) (N : Nat) (ls : List (List Int)) (hN : (N : Int) ≤ 9223372036854775807) (hlb : ∀ l ∈ ls, isB l) (w : World) (hrl : RL .u8 w lv N ls) :
    Calls Tryz.prog 4 #[.int .u64 ep, lv] w (SecO w ls ep) := by
  have HL : Hid (∀ w, RL .u8 w lv N ls → Calls Tryz.prog 15 #[.int .u64 ep, lv] w (LayF w ls (ep % 4294967296) N)) := Lib.hid fun w h => rlay_any ep hep lv N ls hN hlb w h
  have HEP := Lib.hid hep
  have HRL := Lib.hid hrl
  have HBL := Lib.hid (bodyF_len (ep % 4294967296) ls)
  have HEL := endF_le ls
  unfold SecO
  cases hf : fitsF ls with
  | true =>
    have HL2 : Hid (∀ w, RL .u8 w lv N ls → Calls Tryz.prog 15 #[.int .u64 ep, lv] w fun e w' => ∃ g pa pc, e = .returned (.tuple #[.slice (some ⟨g, 0, none⟩) 832 832, .slice pa N pc, .int .i64 (endF ls : Nat), .bool true]) ∧ YB w' g (bodyF (ep % 4294967296) ls) ∧ w'.ownsRow w.heap.size 3 1 (.slice pa N pc) N (il .i64 (placesF ls)) ∧ Below w.heap.size w w') := Lib.hid fun w h => lay_yes (HL.out w h) hf
    generalize bodyF (ep % 4294967296) ls = bd at *
    generalize endF ls = en at *
    have HW : Hid (∀ (v : Value) (w : World), RI .u8 w v 832 bd → Calls Tryz.prog 16 #[.int .u64 ep, v, .int .i64 (en : Nat)] w fun e w' => ∃ v', e = .returned v' ∧ w'.ownsRow w.heap.size 92 64 v' 16 (il .u8 (wholeK ep bd (touchN 0 en).2 16)) ∧ Below w.heap.size w w') := Lib.hid fun v w h => by
      have := rwhole_own ep hep v 832 bd (by omega) (en : Nat) (by unfold I63; omega) w h
      rwa [nr_nat _ HEL] at this
    clear hep hlb hrl HL hf
    go_enter Tryz.func4, Tryz.ntmps4
    go_wp2_with (first
      | (go_at_call 15; (with_reducible refine (HL2.out _ HRL.out).mono ?_); rintro e w1 ⟨g1, pa, pc, rfl, hy, _, hb⟩; have HY1 := Lib.hid hy; have HB1 := Lib.hid hb; clear hy hb)
      | (go_at_call 16; (with_reducible refine (HW.out _ _ (HY1.out.ri HBL.out (by omega))).mono ?_); rintro e w2 ⟨v2, rfl, hs, hb⟩; have HS2 := Lib.hid hs; have HB2 := Lib.hid (bch HB1.out hb); clear hs hb))
    go_ret2
    exact .inl ⟨trivial, _, rfl, own_mono HS2.out HB1.out.size, HB2.out⟩
  | false =>
    have HL2 : Hid (∀ w, RL .u8 w lv N ls → Calls Tryz.prog 15 #[.int .u64 ep, lv] w fun e w' => e = .returned (.tuple #[.slice none 0 0, .slice none 0 0, .int .i64 0, .bool false]) ∧ Below w.heap.size w w') := Lib.hid fun w h => lay_not (HL.out w h) hf
    clear hep hlb hrl HL hf HEL
    go_enter Tryz.func4, Tryz.ntmps4
    go_wp2_with (first
      | (go_at_call 15; (with_reducible refine (HL2.out _ HRL.out).mono ?_); rintro e w1 ⟨rfl, hb⟩; have HB1 := Lib.hid hb; clear hb))
    go_ret2
    exact .inr ⟨trivial, rfl, HB1.out⟩
theorem rsectors_any (ep : Int) (hep : U64 ep) (lv : Value) (N : Nat) (ls : List (List Int)) (hN : (N : Int) ≤ 9223372036854775807) (hlb : ∀ l ∈ ls, isB l) (w : World) (hrl : RL .u8 w lv N ls) :
    Calls Tryz.prog 4 #[.int .u64 ep, lv] w (SecF w ls ep) := (rsectors_own ep hep lv N ls hN hlb w hrl).mono fun _ _ h => h.f
end Go.Proofs.YtnmplnemnfonfaaGreatDoor
namespace Go.Proofs.YtnmplnemnfonfaaGreatDoor
open Go.RowKit
abbrev kA (o : Bool) (v : Value) : Array Value := #[.bool o, v]
theorem kj_info (o : Bool) (v : Value) : (Tryz.prog.info? 79).map (·.size) = some (kA o v).size := by
  rw [show (kA o v).size = 2 from rfl]; kernel_rfl
theorem kj_one (o : Bool) (a : Option Addr) (n m : Nat) : (kA o (.slice a n m)).all (·.oneCell') = true := by simp [kA, Value.oneCell']
theorem results_row_tmp3 {fn : Func} {p u x y : Tmp} {ty : TypeId} {P : Program} (h : fn.results = #[.cell p ty, .tmp u, .tmp x, .tmp y]) (tmps : Array Value) (w : World) (g : Nat) (v : Value)
    (hp : tmps.getD p undef = .pointer (some ⟨g, 0, none⟩)) (hl : (loadVar ty ⟨g, 0, none⟩).run P w = .ok v w) :
    (results fn tmps).run P w = .ok (.tuple #[v, tmps.getD u undef, tmps.getD x undef, tmps.getD y undef]) w := by
  have hp' : tmps[p]?.getD undef = .pointer (some ⟨g, 0, none⟩) := by simpa using hp
  simp [results, h, hp', asAddr, hl, Result.andThen]
def KO (w : World) (b : Nat) (o : Bool) (v : Value) : Prop := w.heap[b]? = some (.cells (kA o v) 79 (0, 0))
section
variable {w w' : World} {b b' : Nat} {o : Bool} {v : Value}
theorem KO.lt (h : KO w b o v) : b < w.heap.size := (Array.getElem?_eq_some_iff.1 h).1
theorem KO.keep (h : KO w b o v) (hb : Below w.heap.size w w') : KO w' b o v := (hb.block b h.lt).trans h
theorem KO.row (h : KO w b o v) (o' : Bool) (v' : Value) : KO (w.setRow b (kA o' v')) b o' v' := setRow_heap w b _ _ _ _ h
theorem KO.cells (h : KO w b o v) : w.cell? ⟨b, 0, none⟩ = some (.bool o) ∧ w.cell? ⟨b, 1, none⟩ = some v := ⟨cell_of_row w b 0 _ _ _ h, cell_of_row w b 1 _ _ _ h⟩
theorem KO.load (h : KO w b o v) : (loadVar 79 ⟨b, 0, none⟩).run Tryz.prog w = .ok (.agg (kA o v)) w :=
  run_loadVar_row w b _ 79 (kA o v) (0, 0) _ h Tryz.underlying79 rfl (kj_info _ _)
theorem KO.ne_own (h : KO w b o v) {base n k : Nat} {t : TypeId} {u : Value} {xs : List Value} (ho : w.ownsRow base t k u n xs) (ht : t ≠ 79) : ∀ q, u.ownBlock = some q → q ≠ b := by
  intro q hq e
  subst e
  rcases ho.2 with ⟨rfl, _⟩ | ⟨q', cap, cur, rfl, _, hcur, _⟩
  · simp [Value.ownBlock] at hq
  · simp only [Value.ownBlock, Option.some.injEq] at hq
    subst hq
    rw [h] at hcur
    simp only [Option.some.injEq, Obj.cells.injEq] at hcur
    exact ht hcur.2.1.symm
theorem KO.row_own (h : KO w b o v) (x : Array Value) {base n k : Nat} {t : TypeId} {u : Value} {xs : List Value} (ho : w.ownsRow base t k u n xs) (ht : t ≠ 79) : (w.setRow b x).ownsRow base t k u n xs :=
  own_over ho ⟨rfl, rfl, rfl, by simp, fun i _ hne => setRow_other w b i x (fun e => hne (by rw [e]))⟩ (fun g hg e => h.ne_own ho ht g hg (Option.some.inj e))
theorem KO.grown (h : KO w b o v) {base n k : Nat} {t : TypeId} {u : Value} {xs : List Value} (ho : w.ownsRow base t k u n xs) (ht : t ≠ 79) (hg : w.grownBy w' u.ownBlock) : KO w' b o v :=
  (hg.block b h.lt (fun e => h.ne_own ho ht b e.symm rfl)).trans h
end
theorem alloc3 (w : World) (x y z : Obj) : (((w.alloc x).alloc y).alloc z).heap[w.heap.size]? = some x ∧ (((w.alloc x).alloc y).alloc z).heap[w.heap.size + 1]? = some y ∧ (((w.alloc x).alloc y).alloc z).heap[w.heap.size + 1 + 1]? = some z := by
  have h1 : (w.alloc x).heap.size = w.heap.size + 1 := by simp
  have h2 : ((w.alloc x).alloc y).heap.size = w.heap.size + 1 + 1 := by simp
  refine ⟨?_, ?_, ?_⟩
  · rw [(fbelow2 (w.alloc x) y z).block _ (by omega)]; exact heap_alloc_last w x
  · rw [(balloc ((w.alloc x).alloc y) z).block _ (by omega), ← h1]; exact heap_alloc_last _ y
  · rw [← h2]; exact heap_alloc_last _ z
theorem kbelow3 (w : World) (x y z : Obj) : Below w.heap.size w (((w.alloc x).alloc y).alloc z) := bch (fbelow2 w x y) (balloc _ z)
set_option maxRecDepth 8000 in
set_option maxHeartbeats 4000000 in
theorem rfeed_ends (o : Bool) (v : Value) (h : List Int) (k ep : Int) (dv : Value) (n : Nat) (d : List Int) (w : World) (hrh : RI .u8 w v h.length h) (hfew : h.length ≤ 512) (hri : RI .u8 w dv n d) (_hn1 : (n : Int) ≤ 140737488351232)
    (hk : (o = false ∧ k = 1) ∨ (o = true ∧ k = 4)) (hl : ¬ h.length + n > 512) :
    Calls Tryz.prog 32 #[.agg (kA o v), .agg (fA k ep dv)] w fun e w' =>
      ∃ u, e = .returned (.tuple #[.agg (kA false (.slice none 0 0)), u, .bool true, .int .i64 0]) ∧ w'.ownsRow w.heap.size 5 1 u (h ++ d).length (il .u8 (h ++ d)) ∧ Below w.heap.size w w' := by
  have hzl := hri.length
  have HR := Lib.hid hri
  obtain ⟨hn, hhn⟩ : ∃ m, h.length = m := ⟨_, rfl⟩
  rw [hhn] at hrh hl hfew
  have HH := Lib.hid hrh
  obtain ⟨va, vc, rfl⟩ : ∃ a c, v = .slice a hn c := by obtain ⟨a, c, e, _⟩ := hrh; exact ⟨a, c, e⟩
  obtain ⟨da, dc, rfl⟩ : ∃ a c, dv = .slice a n c := by obtain ⟨a, c, e, _⟩ := hri; exact ⟨a, c, e⟩
  have HN := Lib.hid hhn
  have HZ := Lib.hid hzl
  clear hri hrh hzl hhn
  rcases hk with ⟨rfl, rfl⟩ | ⟨rfl, rfl⟩
  · go_enter Tryz.func32, Tryz.ntmps32
    go_wp2_with fail
    obtain ⟨w1, hw1⟩ : ∃ q, ((w.alloc (.cells (kA false (.slice va hn vc)) 79)).alloc (.cells (fA 1 ep (.slice da n dc)) 82)).alloc (.cells (kA false (.slice none 0 0)) 79) = q := ⟨_, rfl⟩
    rw [hw1]
    obtain ⟨xb, hxb⟩ : ∃ q, w.heap.size = q := ⟨_, rfl⟩
    have hb1 : Below w.heap.size w w1 := hw1 ▸ kbelow3 w _ _ _
    have HX1 : Hid (KO w1 xb false (.slice va hn vc)) := Lib.hid (by rw [← hw1, ← hxb]; exact (alloc3 w _ _ _).1)
    have HF1 : Hid (FO w1 (xb + 1) 1 ep (.slice da n dc)) := Lib.hid (by rw [← hw1, ← hxb]; exact (alloc3 w _ _ _).2.1)
    have HK1 : Hid (KO w1 (xb + 1 + 1) false (.slice none 0 0)) := Lib.hid (by rw [← hw1, ← hxb]; exact (alloc3 w _ _ _).2.2)
    have HB1 := Lib.hid hb1
    have HXB := Lib.hid hxb
    rw [hxb]
    clear hb1 hw1 hxb
    refine wp_region_held_drew (S := (fun w' => KO w' xb false (.slice va hn vc) ∧ FO w' (xb + 1) 1 ep (.slice da n dc))) (by kernel_rfl) ⟨HX1.out.keep (Below.refl w1.heap.size w1).drew, HF1.out.keep (Below.refl w1.heap.size w1).drew⟩ (fun hS => ?_)
    refine rgw 1 ⟨some 38, .fieldAddr 79 (.tmp 2) 1, 0, _, _, none⟩ hS ?_
    refine rgw 2 ⟨some 39, .load 49 (.tmp 38), 49, _, _, none⟩ hS ?_ (v := .slice va hn vc) (hy := by intro w hSw; (try dsimp only at hSw); have z := hSw.1.cells.2; go_simp)
    refine rgw 4 ⟨some 41, .fieldAddr 82 (.tmp 3) 2, 0, _, _, none⟩ hS ?_
    refine rgw 5 ⟨some 42, .load 49 (.tmp 41), 49, _, _, none⟩ hS ?_ (v := .slice da n dc) (hy := by intro w hSw; (try dsimp only at hSw); have z := hSw.2.cells.2.2; go_simp)
    refine rg_one 0 ⟨some 37, .buildSlice 49 0 #[], 49, _, _, none⟩ (by kernel_rfl) rfl (fun K hK => ?_)
    go_simp
    (obtain ⟨w4, hw4⟩ : ∃ q, w1.alloc (.cells #[] 5) = q := ⟨_, rfl⟩; simp only [hw4]; have hb4 : Below w1.heap.size w1 w4.drew := hw4 ▸ bdrew0 w1 _; have HO4 : Hid (w4.drew.ownsRow w.heap.size 5 1 (.slice (some ⟨w1.heap.size, 0, none⟩) 0 0) 0 (il .u8 [])) := Lib.hid (World.ownsRow.drew (hw4 ▸ (own_empty rfl HB1.out.size).out)); have HB4 := Lib.hid (bch HB1.out hb4); have HX4 := Lib.hid (HX1.out.keep hb4); have HF4 := Lib.hid (HF1.out.keep hb4); have HK4 := Lib.hid (HK1.out.keep hb4); have hN := And.intro HX4.out HF4.out; clear hb4 hw4)
    refine hK.out _ _ ?_ (fun hS1 => ?_)
    · (exact hN)
    clear hK K hS; have hS := hS1; clear hS1
    (try simp only [rgp])
    refine rg_one 3 ⟨some 40, .call { callee := .builtin Builtin.append, args := #[.tmp 37, .tmp 39], argTypes := #[49, 49] }, 49, _, _, none⟩ (by kernel_rfl) rfl (fun K hK => ?_)
    (rw [if_pos (by rfl)]; refine wp_appn (.tmp 37) (.tmp 39) 49 rfl 5 .u8 1 Tryz.underlying49 Tryz.info_u8 w.heap.size (.slice (some ⟨w1.heap.size, 0, none⟩) 0 0) 0 [] rfl HO4.out (.slice va hn vc) hn h rfl (HH.out.keep HB4.out) (by omega) (by omega) HB4.out.size ?_; intro v5 w5 ho5 hg5 hl5; rw [Nat.zero_add, List.nil_append] at ho5; have HO5 := Lib.hid ho5; have HB5 := Lib.hid (HB4.out.grown hg5 HB4.out.size (fun q hq => (HO4.out.lt q hq).1)); have HX5 := Lib.hid (HX4.out.grown HO4.out (by decide) hg5); have HF5 := Lib.hid (HF4.out.grown HO4.out hg5); have HK5 := Lib.hid (HK4.out.grown HO4.out (by decide) hg5); clear hN; have hN := And.intro HX5.out HF5.out; clear ho5 hg5 hl5)
    refine hK.out _ _ ?_ (fun hS1 => ?_)
    · (exact hN)
    clear hK K hS; have hS := hS1; clear hS1
    (try simp only [rgp])
    refine rg_one 6 ⟨some 43, .call { callee := .builtin Builtin.append, args := #[.tmp 40, .tmp 42], argTypes := #[49, 49] }, 49, _, _, none⟩ (by kernel_rfl) rfl (fun K hK => ?_)
    (rw [if_pos (by rfl)]; refine wp_appn (.tmp 40) (.tmp 42) 49 rfl 5 .u8 1 Tryz.underlying49 Tryz.info_u8 w.heap.size v5 hn h rfl HO5.out (.slice da n dc) n d rfl (HR.out.keep HB5.out) (by omega) (by omega) HB5.out.size ?_; intro v6 w6 ho6 hg6 hl6; obtain ⟨a6, c6, rfl⟩ := own_form ho6; have HO6 := Lib.hid ho6; have HB6 := Lib.hid (HB5.out.grown hg6 HB5.out.size (fun q hq => (HO5.out.lt q hq).1)); have HX6 := Lib.hid (HX5.out.grown HO5.out (by decide) hg6); have HF6 := Lib.hid (HF5.out.grown HO5.out hg6); have HK6 := Lib.hid (HK5.out.grown HO5.out (by decide) hg6); clear hN; have hN := And.intro HX6.out HF6.out; clear ho6 hg6 hl6)
    refine hK.out _ _ ?_ (fun hS1 => ?_)
    · (exact hN)
    clear hK K hS; have hS := hS1; clear hS1
    (try simp only [rgp])
    refine rgw 7 ⟨some 8, .assign (.tmp 43), 49, _, _, none⟩ hS ?_
    refine wpAnyH_done (by kernel_rfl) ?_ _
    obtain ⟨f60, f61, f62⟩ := HF6.out.cells
    clear hS hN
    go_wp2_with (first
      | (refine wpList_store_row rfl 79 _ _ rfl (xb + 1 + 1) (kA false (.slice none 0 0)) rfl rfl _ _ HK6.out (kj_info _ _) rfl (kj_one _ _ _ _) ?_))
    have HK7 := HK6.out.row false (.slice none 0 0)
    refine bodyPost_ret_by (results_row_tmp3 rfl _ _ (xb + 1 + 1) _ rfl HK7.load) rfl ?_
    refine ⟨.slice a6 (hn + n) c6, rfl, ?_, brow HB6.out (by have := HXB.out; omega) (Nat.le_refl _) _⟩
    rw [List.length_append, HN.out, HZ.out]; exact HK6.out.row_own _ HO6.out (by decide)
  · go_enter Tryz.func32, Tryz.ntmps32
    go_wp2_with fail
    obtain ⟨w1, hw1⟩ : ∃ q, ((w.alloc (.cells (kA true (.slice va hn vc)) 79)).alloc (.cells (fA 4 ep (.slice da n dc)) 82)).alloc (.cells (kA false (.slice none 0 0)) 79) = q := ⟨_, rfl⟩
    rw [hw1]
    obtain ⟨xb, hxb⟩ : ∃ q, w.heap.size = q := ⟨_, rfl⟩
    have hb1 : Below w.heap.size w w1 := hw1 ▸ kbelow3 w _ _ _
    have HX1 : Hid (KO w1 xb true (.slice va hn vc)) := Lib.hid (by rw [← hw1, ← hxb]; exact (alloc3 w _ _ _).1)
    have HF1 : Hid (FO w1 (xb + 1) 4 ep (.slice da n dc)) := Lib.hid (by rw [← hw1, ← hxb]; exact (alloc3 w _ _ _).2.1)
    have HK1 : Hid (KO w1 (xb + 1 + 1) false (.slice none 0 0)) := Lib.hid (by rw [← hw1, ← hxb]; exact (alloc3 w _ _ _).2.2)
    have HB1 := Lib.hid hb1
    have HXB := Lib.hid hxb
    rw [hxb]
    clear hb1 hw1 hxb
    refine wp_region_held_drew (S := (fun w' => KO w' xb true (.slice va hn vc) ∧ FO w' (xb + 1) 4 ep (.slice da n dc))) (by kernel_rfl) ⟨HX1.out.keep (Below.refl w1.heap.size w1).drew, HF1.out.keep (Below.refl w1.heap.size w1).drew⟩ (fun hS => ?_)
    refine rgw 1 ⟨some 38, .fieldAddr 79 (.tmp 2) 1, 0, _, _, none⟩ hS ?_
    refine rgw 2 ⟨some 39, .load 49 (.tmp 38), 49, _, _, none⟩ hS ?_ (v := .slice va hn vc) (hy := by intro w hSw; (try dsimp only at hSw); have z := hSw.1.cells.2; go_simp)
    refine rgw 4 ⟨some 41, .fieldAddr 82 (.tmp 3) 2, 0, _, _, none⟩ hS ?_
    refine rgw 5 ⟨some 42, .load 49 (.tmp 41), 49, _, _, none⟩ hS ?_ (v := .slice da n dc) (hy := by intro w hSw; (try dsimp only at hSw); have z := hSw.2.cells.2.2; go_simp)
    refine rg_one 0 ⟨some 37, .buildSlice 49 0 #[], 49, _, _, none⟩ (by kernel_rfl) rfl (fun K hK => ?_)
    go_simp
    (obtain ⟨w4, hw4⟩ : ∃ q, w1.alloc (.cells #[] 5) = q := ⟨_, rfl⟩; simp only [hw4]; have hb4 : Below w1.heap.size w1 w4.drew := hw4 ▸ bdrew0 w1 _; have HO4 : Hid (w4.drew.ownsRow w.heap.size 5 1 (.slice (some ⟨w1.heap.size, 0, none⟩) 0 0) 0 (il .u8 [])) := Lib.hid (World.ownsRow.drew (hw4 ▸ (own_empty rfl HB1.out.size).out)); have HB4 := Lib.hid (bch HB1.out hb4); have HX4 := Lib.hid (HX1.out.keep hb4); have HF4 := Lib.hid (HF1.out.keep hb4); have HK4 := Lib.hid (HK1.out.keep hb4); have hN := And.intro HX4.out HF4.out; clear hb4 hw4)
    refine hK.out _ _ ?_ (fun hS1 => ?_)
    · (exact hN)
    clear hK K hS; have hS := hS1; clear hS1
    (try simp only [rgp])
    refine rg_one 3 ⟨some 40, .call { callee := .builtin Builtin.append, args := #[.tmp 37, .tmp 39], argTypes := #[49, 49] }, 49, _, _, none⟩ (by kernel_rfl) rfl (fun K hK => ?_)
    (rw [if_pos (by rfl)]; refine wp_appn (.tmp 37) (.tmp 39) 49 rfl 5 .u8 1 Tryz.underlying49 Tryz.info_u8 w.heap.size (.slice (some ⟨w1.heap.size, 0, none⟩) 0 0) 0 [] rfl HO4.out (.slice va hn vc) hn h rfl (HH.out.keep HB4.out) (by omega) (by omega) HB4.out.size ?_; intro v5 w5 ho5 hg5 hl5; rw [Nat.zero_add, List.nil_append] at ho5; have HO5 := Lib.hid ho5; have HB5 := Lib.hid (HB4.out.grown hg5 HB4.out.size (fun q hq => (HO4.out.lt q hq).1)); have HX5 := Lib.hid (HX4.out.grown HO4.out (by decide) hg5); have HF5 := Lib.hid (HF4.out.grown HO4.out hg5); have HK5 := Lib.hid (HK4.out.grown HO4.out (by decide) hg5); clear hN; have hN := And.intro HX5.out HF5.out; clear ho5 hg5 hl5)
    refine hK.out _ _ ?_ (fun hS1 => ?_)
    · (exact hN)
    clear hK K hS; have hS := hS1; clear hS1
    (try simp only [rgp])
    refine rg_one 6 ⟨some 43, .call { callee := .builtin Builtin.append, args := #[.tmp 40, .tmp 42], argTypes := #[49, 49] }, 49, _, _, none⟩ (by kernel_rfl) rfl (fun K hK => ?_)
    (rw [if_pos (by rfl)]; refine wp_appn (.tmp 40) (.tmp 42) 49 rfl 5 .u8 1 Tryz.underlying49 Tryz.info_u8 w.heap.size v5 hn h rfl HO5.out (.slice da n dc) n d rfl (HR.out.keep HB5.out) (by omega) (by omega) HB5.out.size ?_; intro v6 w6 ho6 hg6 hl6; obtain ⟨a6, c6, rfl⟩ := own_form ho6; have HO6 := Lib.hid ho6; have HB6 := Lib.hid (HB5.out.grown hg6 HB5.out.size (fun q hq => (HO5.out.lt q hq).1)); have HX6 := Lib.hid (HX5.out.grown HO5.out (by decide) hg6); have HF6 := Lib.hid (HF5.out.grown HO5.out hg6); have HK6 := Lib.hid (HK5.out.grown HO5.out (by decide) hg6); clear hN; have hN := And.intro HX6.out HF6.out; clear ho6 hg6 hl6)
    refine hK.out _ _ ?_ (fun hS1 => ?_)
    · (exact hN)
    clear hK K hS; have hS := hS1; clear hS1
    (try simp only [rgp])
    refine rgw 7 ⟨some 8, .assign (.tmp 43), 49, _, _, none⟩ hS ?_
    refine wpAnyH_done (by kernel_rfl) ?_ _
    obtain ⟨f60, f61, f62⟩ := HF6.out.cells
    clear hS hN
    go_wp2_with (first
      | (refine wpList_store_row rfl 79 _ _ rfl (xb + 1 + 1) (kA false (.slice none 0 0)) rfl rfl _ _ HK6.out (kj_info _ _) rfl (kj_one _ _ _ _) ?_))
    have HK7 := HK6.out.row false (.slice none 0 0)
    refine bodyPost_ret_by (results_row_tmp3 rfl _ _ (xb + 1 + 1) _ rfl HK7.load) rfl ?_
    refine ⟨.slice a6 (hn + n) c6, rfl, ?_, brow HB6.out (by have := HXB.out; omega) (Nat.le_refl _) _⟩
    rw [List.length_append, HN.out, HZ.out]; exact HK6.out.row_own _ HO6.out (by decide)
set_option maxRecDepth 8000 in
set_option maxHeartbeats 4000000 in
theorem rfeed_goes (o : Bool) (v : Value) (h : List Int) (k ep : Int) (dv : Value) (n : Nat) (d : List Int) (w : World) (hrh : RI .u8 w v h.length h) (hfew : h.length ≤ 512) (hri : RI .u8 w dv n d) (_hn1 : (n : Int) ≤ 140737488351232)
    (hk : (o = false ∧ k = 2) ∨ (o = true ∧ k = 3)) (hl : ¬ h.length + n > 512) :
    Calls Tryz.prog 32 #[.agg (kA o v), .agg (fA k ep dv)] w fun e w' =>
      ∃ u, e = .returned (.tuple #[.agg (kA true u), .slice none 0 0, .bool false, .int .i64 0]) ∧ w'.ownsRow w.heap.size 5 1 u (h ++ d).length (il .u8 (h ++ d)) ∧ Below w.heap.size w w' := by
  have hzl := hri.length
  have HR := Lib.hid hri
  obtain ⟨hn, hhn⟩ : ∃ m, h.length = m := ⟨_, rfl⟩
  rw [hhn] at hrh hl hfew
  have HH := Lib.hid hrh
  obtain ⟨va, vc, rfl⟩ : ∃ a c, v = .slice a hn c := by obtain ⟨a, c, e, _⟩ := hrh; exact ⟨a, c, e⟩
  obtain ⟨da, dc, rfl⟩ : ∃ a c, dv = .slice a n c := by obtain ⟨a, c, e, _⟩ := hri; exact ⟨a, c, e⟩
  have HN := Lib.hid hhn
  have HZ := Lib.hid hzl
  clear hri hrh hzl hhn
  rcases hk with ⟨rfl, rfl⟩ | ⟨rfl, rfl⟩
  · go_enter Tryz.func32, Tryz.ntmps32
    go_wp2_with fail
    obtain ⟨w1, hw1⟩ : ∃ q, ((w.alloc (.cells (kA false (.slice va hn vc)) 79)).alloc (.cells (fA 2 ep (.slice da n dc)) 82)).alloc (.cells (kA false (.slice none 0 0)) 79) = q := ⟨_, rfl⟩
    rw [hw1]
    obtain ⟨xb, hxb⟩ : ∃ q, w.heap.size = q := ⟨_, rfl⟩
    have hb1 : Below w.heap.size w w1 := hw1 ▸ kbelow3 w _ _ _
    have HX1 : Hid (KO w1 xb false (.slice va hn vc)) := Lib.hid (by rw [← hw1, ← hxb]; exact (alloc3 w _ _ _).1)
    have HF1 : Hid (FO w1 (xb + 1) 2 ep (.slice da n dc)) := Lib.hid (by rw [← hw1, ← hxb]; exact (alloc3 w _ _ _).2.1)
    have HK1 : Hid (KO w1 (xb + 1 + 1) false (.slice none 0 0)) := Lib.hid (by rw [← hw1, ← hxb]; exact (alloc3 w _ _ _).2.2)
    have HB1 := Lib.hid hb1
    have HXB := Lib.hid hxb
    rw [hxb]
    clear hb1 hw1 hxb
    refine wp_region_held_drew (S := (fun w' => KO w' xb false (.slice va hn vc) ∧ FO w' (xb + 1) 2 ep (.slice da n dc))) (by kernel_rfl) ⟨HX1.out.keep (Below.refl w1.heap.size w1).drew, HF1.out.keep (Below.refl w1.heap.size w1).drew⟩ (fun hS => ?_)
    refine rgw 1 ⟨some 38, .fieldAddr 79 (.tmp 2) 1, 0, _, _, none⟩ hS ?_
    refine rgw 2 ⟨some 39, .load 49 (.tmp 38), 49, _, _, none⟩ hS ?_ (v := .slice va hn vc) (hy := by intro w hSw; (try dsimp only at hSw); have z := hSw.1.cells.2; go_simp)
    refine rgw 4 ⟨some 41, .fieldAddr 82 (.tmp 3) 2, 0, _, _, none⟩ hS ?_
    refine rgw 5 ⟨some 42, .load 49 (.tmp 41), 49, _, _, none⟩ hS ?_ (v := .slice da n dc) (hy := by intro w hSw; (try dsimp only at hSw); have z := hSw.2.cells.2.2; go_simp)
    refine rg_one 0 ⟨some 37, .buildSlice 49 0 #[], 49, _, _, none⟩ (by kernel_rfl) rfl (fun K hK => ?_)
    go_simp
    (obtain ⟨w4, hw4⟩ : ∃ q, w1.alloc (.cells #[] 5) = q := ⟨_, rfl⟩; simp only [hw4]; have hb4 : Below w1.heap.size w1 w4.drew := hw4 ▸ bdrew0 w1 _; have HO4 : Hid (w4.drew.ownsRow w.heap.size 5 1 (.slice (some ⟨w1.heap.size, 0, none⟩) 0 0) 0 (il .u8 [])) := Lib.hid (World.ownsRow.drew (hw4 ▸ (own_empty rfl HB1.out.size).out)); have HB4 := Lib.hid (bch HB1.out hb4); have HX4 := Lib.hid (HX1.out.keep hb4); have HF4 := Lib.hid (HF1.out.keep hb4); have HK4 := Lib.hid (HK1.out.keep hb4); have hN := And.intro HX4.out HF4.out; clear hb4 hw4)
    refine hK.out _ _ ?_ (fun hS1 => ?_)
    · (exact hN)
    clear hK K hS; have hS := hS1; clear hS1
    (try simp only [rgp])
    refine rg_one 3 ⟨some 40, .call { callee := .builtin Builtin.append, args := #[.tmp 37, .tmp 39], argTypes := #[49, 49] }, 49, _, _, none⟩ (by kernel_rfl) rfl (fun K hK => ?_)
    (rw [if_pos (by rfl)]; refine wp_appn (.tmp 37) (.tmp 39) 49 rfl 5 .u8 1 Tryz.underlying49 Tryz.info_u8 w.heap.size (.slice (some ⟨w1.heap.size, 0, none⟩) 0 0) 0 [] rfl HO4.out (.slice va hn vc) hn h rfl (HH.out.keep HB4.out) (by omega) (by omega) HB4.out.size ?_; intro v5 w5 ho5 hg5 hl5; rw [Nat.zero_add, List.nil_append] at ho5; have HO5 := Lib.hid ho5; have HB5 := Lib.hid (HB4.out.grown hg5 HB4.out.size (fun q hq => (HO4.out.lt q hq).1)); have HX5 := Lib.hid (HX4.out.grown HO4.out (by decide) hg5); have HF5 := Lib.hid (HF4.out.grown HO4.out hg5); have HK5 := Lib.hid (HK4.out.grown HO4.out (by decide) hg5); clear hN; have hN := And.intro HX5.out HF5.out; clear ho5 hg5 hl5)
    refine hK.out _ _ ?_ (fun hS1 => ?_)
    · (exact hN)
    clear hK K hS; have hS := hS1; clear hS1
    (try simp only [rgp])
    refine rg_one 6 ⟨some 43, .call { callee := .builtin Builtin.append, args := #[.tmp 40, .tmp 42], argTypes := #[49, 49] }, 49, _, _, none⟩ (by kernel_rfl) rfl (fun K hK => ?_)
    (rw [if_pos (by rfl)]; refine wp_appn (.tmp 40) (.tmp 42) 49 rfl 5 .u8 1 Tryz.underlying49 Tryz.info_u8 w.heap.size v5 hn h rfl HO5.out (.slice da n dc) n d rfl (HR.out.keep HB5.out) (by omega) (by omega) HB5.out.size ?_; intro v6 w6 ho6 hg6 hl6; obtain ⟨a6, c6, rfl⟩ := own_form ho6; have HO6 := Lib.hid ho6; have HB6 := Lib.hid (HB5.out.grown hg6 HB5.out.size (fun q hq => (HO5.out.lt q hq).1)); have HX6 := Lib.hid (HX5.out.grown HO5.out (by decide) hg6); have HF6 := Lib.hid (HF5.out.grown HO5.out hg6); have HK6 := Lib.hid (HK5.out.grown HO5.out (by decide) hg6); clear hN; have hN := And.intro HX6.out HF6.out; clear ho6 hg6 hl6)
    refine hK.out _ _ ?_ (fun hS1 => ?_)
    · (exact hN)
    clear hK K hS; have hS := hS1; clear hS1
    (try simp only [rgp])
    refine rgw 7 ⟨some 8, .assign (.tmp 43), 49, _, _, none⟩ hS ?_
    refine wpAnyH_done (by kernel_rfl) ?_ _
    obtain ⟨f60, f61, f62⟩ := HF6.out.cells
    clear hS hN
    go_wp2_with (first
      | (refine wpList_store_row rfl 79 _ _ rfl (xb + 1 + 1) (kA true (.slice a6 (hn + n) c6)) rfl rfl _ _ HK6.out (kj_info _ _) rfl (kj_one _ _ _ _) ?_))
    have HK7 := HK6.out.row true (.slice a6 (hn + n) c6)
    refine bodyPost_ret_by (results_row_tmp3 rfl _ _ (xb + 1 + 1) _ rfl HK7.load) rfl ?_
    refine ⟨.slice a6 (hn + n) c6, rfl, ?_, brow HB6.out (by have := HXB.out; omega) (Nat.le_refl _) _⟩
    rw [List.length_append, HN.out, HZ.out]; exact HK6.out.row_own _ HO6.out (by decide)
  · go_enter Tryz.func32, Tryz.ntmps32
    go_wp2_with fail
    obtain ⟨w1, hw1⟩ : ∃ q, ((w.alloc (.cells (kA true (.slice va hn vc)) 79)).alloc (.cells (fA 3 ep (.slice da n dc)) 82)).alloc (.cells (kA false (.slice none 0 0)) 79) = q := ⟨_, rfl⟩
    rw [hw1]
    obtain ⟨xb, hxb⟩ : ∃ q, w.heap.size = q := ⟨_, rfl⟩
    have hb1 : Below w.heap.size w w1 := hw1 ▸ kbelow3 w _ _ _
    have HX1 : Hid (KO w1 xb true (.slice va hn vc)) := Lib.hid (by rw [← hw1, ← hxb]; exact (alloc3 w _ _ _).1)
    have HF1 : Hid (FO w1 (xb + 1) 3 ep (.slice da n dc)) := Lib.hid (by rw [← hw1, ← hxb]; exact (alloc3 w _ _ _).2.1)
    have HK1 : Hid (KO w1 (xb + 1 + 1) false (.slice none 0 0)) := Lib.hid (by rw [← hw1, ← hxb]; exact (alloc3 w _ _ _).2.2)
    have HB1 := Lib.hid hb1
    have HXB := Lib.hid hxb
    rw [hxb]
    clear hb1 hw1 hxb
    refine wp_region_held_drew (S := (fun w' => KO w' xb true (.slice va hn vc) ∧ FO w' (xb + 1) 3 ep (.slice da n dc))) (by kernel_rfl) ⟨HX1.out.keep (Below.refl w1.heap.size w1).drew, HF1.out.keep (Below.refl w1.heap.size w1).drew⟩ (fun hS => ?_)
    refine rgw 1 ⟨some 38, .fieldAddr 79 (.tmp 2) 1, 0, _, _, none⟩ hS ?_
    refine rgw 2 ⟨some 39, .load 49 (.tmp 38), 49, _, _, none⟩ hS ?_ (v := .slice va hn vc) (hy := by intro w hSw; (try dsimp only at hSw); have z := hSw.1.cells.2; go_simp)
    refine rgw 4 ⟨some 41, .fieldAddr 82 (.tmp 3) 2, 0, _, _, none⟩ hS ?_
    refine rgw 5 ⟨some 42, .load 49 (.tmp 41), 49, _, _, none⟩ hS ?_ (v := .slice da n dc) (hy := by intro w hSw; (try dsimp only at hSw); have z := hSw.2.cells.2.2; go_simp)
    refine rg_one 0 ⟨some 37, .buildSlice 49 0 #[], 49, _, _, none⟩ (by kernel_rfl) rfl (fun K hK => ?_)
    go_simp
    (obtain ⟨w4, hw4⟩ : ∃ q, w1.alloc (.cells #[] 5) = q := ⟨_, rfl⟩; simp only [hw4]; have hb4 : Below w1.heap.size w1 w4.drew := hw4 ▸ bdrew0 w1 _; have HO4 : Hid (w4.drew.ownsRow w.heap.size 5 1 (.slice (some ⟨w1.heap.size, 0, none⟩) 0 0) 0 (il .u8 [])) := Lib.hid (World.ownsRow.drew (hw4 ▸ (own_empty rfl HB1.out.size).out)); have HB4 := Lib.hid (bch HB1.out hb4); have HX4 := Lib.hid (HX1.out.keep hb4); have HF4 := Lib.hid (HF1.out.keep hb4); have HK4 := Lib.hid (HK1.out.keep hb4); have hN := And.intro HX4.out HF4.out; clear hb4 hw4)
    refine hK.out _ _ ?_ (fun hS1 => ?_)
    · (exact hN)
    clear hK K hS; have hS := hS1; clear hS1
    (try simp only [rgp])
    refine rg_one 3 ⟨some 40, .call { callee := .builtin Builtin.append, args := #[.tmp 37, .tmp 39], argTypes := #[49, 49] }, 49, _, _, none⟩ (by kernel_rfl) rfl (fun K hK => ?_)
    (rw [if_pos (by rfl)]; refine wp_appn (.tmp 37) (.tmp 39) 49 rfl 5 .u8 1 Tryz.underlying49 Tryz.info_u8 w.heap.size (.slice (some ⟨w1.heap.size, 0, none⟩) 0 0) 0 [] rfl HO4.out (.slice va hn vc) hn h rfl (HH.out.keep HB4.out) (by omega) (by omega) HB4.out.size ?_; intro v5 w5 ho5 hg5 hl5; rw [Nat.zero_add, List.nil_append] at ho5; have HO5 := Lib.hid ho5; have HB5 := Lib.hid (HB4.out.grown hg5 HB4.out.size (fun q hq => (HO4.out.lt q hq).1)); have HX5 := Lib.hid (HX4.out.grown HO4.out (by decide) hg5); have HF5 := Lib.hid (HF4.out.grown HO4.out hg5); have HK5 := Lib.hid (HK4.out.grown HO4.out (by decide) hg5); clear hN; have hN := And.intro HX5.out HF5.out; clear ho5 hg5 hl5)
    refine hK.out _ _ ?_ (fun hS1 => ?_)
    · (exact hN)
    clear hK K hS; have hS := hS1; clear hS1
    (try simp only [rgp])
    refine rg_one 6 ⟨some 43, .call { callee := .builtin Builtin.append, args := #[.tmp 40, .tmp 42], argTypes := #[49, 49] }, 49, _, _, none⟩ (by kernel_rfl) rfl (fun K hK => ?_)
    (rw [if_pos (by rfl)]; refine wp_appn (.tmp 40) (.tmp 42) 49 rfl 5 .u8 1 Tryz.underlying49 Tryz.info_u8 w.heap.size v5 hn h rfl HO5.out (.slice da n dc) n d rfl (HR.out.keep HB5.out) (by omega) (by omega) HB5.out.size ?_; intro v6 w6 ho6 hg6 hl6; obtain ⟨a6, c6, rfl⟩ := own_form ho6; have HO6 := Lib.hid ho6; have HB6 := Lib.hid (HB5.out.grown hg6 HB5.out.size (fun q hq => (HO5.out.lt q hq).1)); have HX6 := Lib.hid (HX5.out.grown HO5.out (by decide) hg6); have HF6 := Lib.hid (HF5.out.grown HO5.out hg6); have HK6 := Lib.hid (HK5.out.grown HO5.out (by decide) hg6); clear hN; have hN := And.intro HX6.out HF6.out; clear ho6 hg6 hl6)
    refine hK.out _ _ ?_ (fun hS1 => ?_)
    · (exact hN)
    clear hK K hS; have hS := hS1; clear hS1
    (try simp only [rgp])
    refine rgw 7 ⟨some 8, .assign (.tmp 43), 49, _, _, none⟩ hS ?_
    refine wpAnyH_done (by kernel_rfl) ?_ _
    obtain ⟨f60, f61, f62⟩ := HF6.out.cells
    clear hS hN
    go_wp2_with (first
      | (refine wpList_store_row rfl 79 _ _ rfl (xb + 1 + 1) (kA true (.slice a6 (hn + n) c6)) rfl rfl _ _ HK6.out (kj_info _ _) rfl (kj_one _ _ _ _) ?_))
    have HK7 := HK6.out.row true (.slice a6 (hn + n) c6)
    refine bodyPost_ret_by (results_row_tmp3 rfl _ _ (xb + 1 + 1) _ rfl HK7.load) rfl ?_
    refine ⟨.slice a6 (hn + n) c6, rfl, ?_, brow HB6.out (by have := HXB.out; omega) (Nat.le_refl _) _⟩
    rw [List.length_append, HN.out, HZ.out]; exact HK6.out.row_own _ HO6.out (by decide)
set_option maxRecDepth 8000 in
set_option maxHeartbeats 4000000 in
theorem rfeed_long (o : Bool) (v : Value) (h : List Int) (k ep : Int) (dv : Value) (n : Nat) (d : List Int) (w : World) (hrh : RI .u8 w v h.length h) (hfew : h.length ≤ 512) (hri : RI .u8 w dv n d) (hn1 : (n : Int) ≤ 140737488351232)
    (hk : jFit o k = true) (hl : h.length + n > 512) :
    Calls Tryz.prog 32 #[.agg (kA o v), .agg (fA k ep dv)] w fun e w' =>
      e = .returned (.tuple #[.agg (kA false (.slice none 0 0)), .slice none 0 0, .bool false, .int .i64 5]) ∧ Below w.heap.size w w' := by
  have hc : (o = false ∧ k = 1) ∨ (o = false ∧ k = 2) ∨ (o = true ∧ k = 3) ∨ (o = true ∧ k = 4) := by
    unfold jFit at hk
    cases o <;> simp at hk ⊢ <;> exact hk
  clear hk
  have hzl := hri.length
  have HR := Lib.hid hri
  obtain ⟨hn, hhn⟩ : ∃ m, h.length = m := ⟨_, rfl⟩
  rw [hhn] at hrh hl hfew
  have HH := Lib.hid hrh
  obtain ⟨va, vc, rfl⟩ : ∃ a c, v = .slice a hn c := by obtain ⟨a, c, e, _⟩ := hrh; exact ⟨a, c, e⟩
  obtain ⟨da, dc, rfl⟩ : ∃ a c, dv = .slice a n c := by obtain ⟨a, c, e, _⟩ := hri; exact ⟨a, c, e⟩
  have HN := Lib.hid hhn
  have HZ := Lib.hid hzl
  clear hri hrh hzl hhn
  rcases hc with ⟨rfl, rfl⟩ | ⟨rfl, rfl⟩ | ⟨rfl, rfl⟩ | ⟨rfl, rfl⟩
  · go_enter Tryz.func32, Tryz.ntmps32
    go_wp2_with fail
    obtain ⟨w1, hw1⟩ : ∃ q, ((w.alloc (.cells (kA false (.slice va hn vc)) 79)).alloc (.cells (fA 1 ep (.slice da n dc)) 82)).alloc (.cells (kA false (.slice none 0 0)) 79) = q := ⟨_, rfl⟩
    rw [hw1]
    obtain ⟨xb, hxb⟩ : ∃ q, w.heap.size = q := ⟨_, rfl⟩
    have hb1 : Below w.heap.size w w1 := hw1 ▸ kbelow3 w _ _ _
    have HX1 : Hid (KO w1 xb false (.slice va hn vc)) := Lib.hid (by rw [← hw1, ← hxb]; exact (alloc3 w _ _ _).1)
    have HF1 : Hid (FO w1 (xb + 1) 1 ep (.slice da n dc)) := Lib.hid (by rw [← hw1, ← hxb]; exact (alloc3 w _ _ _).2.1)
    have HK1 : Hid (KO w1 (xb + 1 + 1) false (.slice none 0 0)) := Lib.hid (by rw [← hw1, ← hxb]; exact (alloc3 w _ _ _).2.2)
    have HB1 := Lib.hid hb1
    have HXB := Lib.hid hxb
    rw [hxb]
    clear hb1 hw1 hxb
    refine wp_region_held_drew (S := (fun w' => KO w' xb false (.slice va hn vc) ∧ FO w' (xb + 1) 1 ep (.slice da n dc))) (by kernel_rfl) ⟨HX1.out.keep (Below.refl w1.heap.size w1).drew, HF1.out.keep (Below.refl w1.heap.size w1).drew⟩ (fun hS => ?_)
    refine rgw 1 ⟨some 38, .fieldAddr 79 (.tmp 2) 1, 0, _, _, none⟩ hS ?_
    refine rgw 2 ⟨some 39, .load 49 (.tmp 38), 49, _, _, none⟩ hS ?_ (v := .slice va hn vc) (hy := by intro w hSw; (try dsimp only at hSw); have z := hSw.1.cells.2; go_simp)
    refine rgw 4 ⟨some 41, .fieldAddr 82 (.tmp 3) 2, 0, _, _, none⟩ hS ?_
    refine rgw 5 ⟨some 42, .load 49 (.tmp 41), 49, _, _, none⟩ hS ?_ (v := .slice da n dc) (hy := by intro w hSw; (try dsimp only at hSw); have z := hSw.2.cells.2.2; go_simp)
    refine rg_one 0 ⟨some 37, .buildSlice 49 0 #[], 49, _, _, none⟩ (by kernel_rfl) rfl (fun K hK => ?_)
    go_simp
    (obtain ⟨w4, hw4⟩ : ∃ q, w1.alloc (.cells #[] 5) = q := ⟨_, rfl⟩; simp only [hw4]; have hb4 : Below w1.heap.size w1 w4.drew := hw4 ▸ bdrew0 w1 _; have HO4 : Hid (w4.drew.ownsRow w.heap.size 5 1 (.slice (some ⟨w1.heap.size, 0, none⟩) 0 0) 0 (il .u8 [])) := Lib.hid (World.ownsRow.drew (hw4 ▸ (own_empty rfl HB1.out.size).out)); have HB4 := Lib.hid (bch HB1.out hb4); have HX4 := Lib.hid (HX1.out.keep hb4); have HF4 := Lib.hid (HF1.out.keep hb4); have HK4 := Lib.hid (HK1.out.keep hb4); have hN := And.intro HX4.out HF4.out; clear hb4 hw4)
    refine hK.out _ _ ?_ (fun hS1 => ?_)
    · (exact hN)
    clear hK K hS; have hS := hS1; clear hS1
    (try simp only [rgp])
    refine rg_one 3 ⟨some 40, .call { callee := .builtin Builtin.append, args := #[.tmp 37, .tmp 39], argTypes := #[49, 49] }, 49, _, _, none⟩ (by kernel_rfl) rfl (fun K hK => ?_)
    (rw [if_pos (by rfl)]; refine wp_appn (.tmp 37) (.tmp 39) 49 rfl 5 .u8 1 Tryz.underlying49 Tryz.info_u8 w.heap.size (.slice (some ⟨w1.heap.size, 0, none⟩) 0 0) 0 [] rfl HO4.out (.slice va hn vc) hn h rfl (HH.out.keep HB4.out) (by omega) (by omega) HB4.out.size ?_; intro v5 w5 ho5 hg5 hl5; rw [Nat.zero_add, List.nil_append] at ho5; have HO5 := Lib.hid ho5; have HB5 := Lib.hid (HB4.out.grown hg5 HB4.out.size (fun q hq => (HO4.out.lt q hq).1)); have HX5 := Lib.hid (HX4.out.grown HO4.out (by decide) hg5); have HF5 := Lib.hid (HF4.out.grown HO4.out hg5); have HK5 := Lib.hid (HK4.out.grown HO4.out (by decide) hg5); clear hN; have hN := And.intro HX5.out HF5.out; clear ho5 hg5 hl5)
    refine hK.out _ _ ?_ (fun hS1 => ?_)
    · (exact hN)
    clear hK K hS; have hS := hS1; clear hS1
    (try simp only [rgp])
    refine rg_one 6 ⟨some 43, .call { callee := .builtin Builtin.append, args := #[.tmp 40, .tmp 42], argTypes := #[49, 49] }, 49, _, _, none⟩ (by kernel_rfl) rfl (fun K hK => ?_)
    (rw [if_pos (by rfl)]; refine wp_appn (.tmp 40) (.tmp 42) 49 rfl 5 .u8 1 Tryz.underlying49 Tryz.info_u8 w.heap.size v5 hn h rfl HO5.out (.slice da n dc) n d rfl (HR.out.keep HB5.out) (by omega) (by omega) HB5.out.size ?_; intro v6 w6 ho6 hg6 hl6; obtain ⟨a6, c6, rfl⟩ := own_form ho6; have HO6 := Lib.hid ho6; have HB6 := Lib.hid (HB5.out.grown hg6 HB5.out.size (fun q hq => (HO5.out.lt q hq).1)); have HX6 := Lib.hid (HX5.out.grown HO5.out (by decide) hg6); have HF6 := Lib.hid (HF5.out.grown HO5.out hg6); have HK6 := Lib.hid (HK5.out.grown HO5.out (by decide) hg6); clear hN; have hN := And.intro HX6.out HF6.out; clear ho6 hg6 hl6)
    refine hK.out _ _ ?_ (fun hS1 => ?_)
    · (exact hN)
    clear hK K hS; have hS := hS1; clear hS1
    (try simp only [rgp])
    refine rgw 7 ⟨some 8, .assign (.tmp 43), 49, _, _, none⟩ hS ?_
    refine wpAnyH_done (by kernel_rfl) ?_ _
    obtain ⟨f60, f61, f62⟩ := HF6.out.cells
    clear hS hN
    go_wp2_with (first
      | (refine wpList_store_row rfl 79 _ _ rfl (xb + 1 + 1) (kA false (.slice none 0 0)) rfl rfl _ _ HK6.out (kj_info _ _) rfl (kj_one _ _ _ _) ?_))
    have HK7 := HK6.out.row false (.slice none 0 0)
    refine bodyPost_ret_by (results_row_tmp3 rfl _ _ (xb + 1 + 1) _ rfl HK7.load) rfl ?_
    exact ⟨rfl, brow HB6.out (by have := HXB.out; omega) (Nat.le_refl _) _⟩
  · go_enter Tryz.func32, Tryz.ntmps32
    go_wp2_with fail
    obtain ⟨w1, hw1⟩ : ∃ q, ((w.alloc (.cells (kA false (.slice va hn vc)) 79)).alloc (.cells (fA 2 ep (.slice da n dc)) 82)).alloc (.cells (kA false (.slice none 0 0)) 79) = q := ⟨_, rfl⟩
    rw [hw1]
    obtain ⟨xb, hxb⟩ : ∃ q, w.heap.size = q := ⟨_, rfl⟩
    have hb1 : Below w.heap.size w w1 := hw1 ▸ kbelow3 w _ _ _
    have HX1 : Hid (KO w1 xb false (.slice va hn vc)) := Lib.hid (by rw [← hw1, ← hxb]; exact (alloc3 w _ _ _).1)
    have HF1 : Hid (FO w1 (xb + 1) 2 ep (.slice da n dc)) := Lib.hid (by rw [← hw1, ← hxb]; exact (alloc3 w _ _ _).2.1)
    have HK1 : Hid (KO w1 (xb + 1 + 1) false (.slice none 0 0)) := Lib.hid (by rw [← hw1, ← hxb]; exact (alloc3 w _ _ _).2.2)
    have HB1 := Lib.hid hb1
    have HXB := Lib.hid hxb
    rw [hxb]
    clear hb1 hw1 hxb
    refine wp_region_held_drew (S := (fun w' => KO w' xb false (.slice va hn vc) ∧ FO w' (xb + 1) 2 ep (.slice da n dc))) (by kernel_rfl) ⟨HX1.out.keep (Below.refl w1.heap.size w1).drew, HF1.out.keep (Below.refl w1.heap.size w1).drew⟩ (fun hS => ?_)
    refine rgw 1 ⟨some 38, .fieldAddr 79 (.tmp 2) 1, 0, _, _, none⟩ hS ?_
    refine rgw 2 ⟨some 39, .load 49 (.tmp 38), 49, _, _, none⟩ hS ?_ (v := .slice va hn vc) (hy := by intro w hSw; (try dsimp only at hSw); have z := hSw.1.cells.2; go_simp)
    refine rgw 4 ⟨some 41, .fieldAddr 82 (.tmp 3) 2, 0, _, _, none⟩ hS ?_
    refine rgw 5 ⟨some 42, .load 49 (.tmp 41), 49, _, _, none⟩ hS ?_ (v := .slice da n dc) (hy := by intro w hSw; (try dsimp only at hSw); have z := hSw.2.cells.2.2; go_simp)
    refine rg_one 0 ⟨some 37, .buildSlice 49 0 #[], 49, _, _, none⟩ (by kernel_rfl) rfl (fun K hK => ?_)
    go_simp
    (obtain ⟨w4, hw4⟩ : ∃ q, w1.alloc (.cells #[] 5) = q := ⟨_, rfl⟩; simp only [hw4]; have hb4 : Below w1.heap.size w1 w4.drew := hw4 ▸ bdrew0 w1 _; have HO4 : Hid (w4.drew.ownsRow w.heap.size 5 1 (.slice (some ⟨w1.heap.size, 0, none⟩) 0 0) 0 (il .u8 [])) := Lib.hid (World.ownsRow.drew (hw4 ▸ (own_empty rfl HB1.out.size).out)); have HB4 := Lib.hid (bch HB1.out hb4); have HX4 := Lib.hid (HX1.out.keep hb4); have HF4 := Lib.hid (HF1.out.keep hb4); have HK4 := Lib.hid (HK1.out.keep hb4); have hN := And.intro HX4.out HF4.out; clear hb4 hw4)
    refine hK.out _ _ ?_ (fun hS1 => ?_)
    · (exact hN)
    clear hK K hS; have hS := hS1; clear hS1
    (try simp only [rgp])
    refine rg_one 3 ⟨some 40, .call { callee := .builtin Builtin.append, args := #[.tmp 37, .tmp 39], argTypes := #[49, 49] }, 49, _, _, none⟩ (by kernel_rfl) rfl (fun K hK => ?_)
    (rw [if_pos (by rfl)]; refine wp_appn (.tmp 37) (.tmp 39) 49 rfl 5 .u8 1 Tryz.underlying49 Tryz.info_u8 w.heap.size (.slice (some ⟨w1.heap.size, 0, none⟩) 0 0) 0 [] rfl HO4.out (.slice va hn vc) hn h rfl (HH.out.keep HB4.out) (by omega) (by omega) HB4.out.size ?_; intro v5 w5 ho5 hg5 hl5; rw [Nat.zero_add, List.nil_append] at ho5; have HO5 := Lib.hid ho5; have HB5 := Lib.hid (HB4.out.grown hg5 HB4.out.size (fun q hq => (HO4.out.lt q hq).1)); have HX5 := Lib.hid (HX4.out.grown HO4.out (by decide) hg5); have HF5 := Lib.hid (HF4.out.grown HO4.out hg5); have HK5 := Lib.hid (HK4.out.grown HO4.out (by decide) hg5); clear hN; have hN := And.intro HX5.out HF5.out; clear ho5 hg5 hl5)
    refine hK.out _ _ ?_ (fun hS1 => ?_)
    · (exact hN)
    clear hK K hS; have hS := hS1; clear hS1
    (try simp only [rgp])
    refine rg_one 6 ⟨some 43, .call { callee := .builtin Builtin.append, args := #[.tmp 40, .tmp 42], argTypes := #[49, 49] }, 49, _, _, none⟩ (by kernel_rfl) rfl (fun K hK => ?_)
    (rw [if_pos (by rfl)]; refine wp_appn (.tmp 40) (.tmp 42) 49 rfl 5 .u8 1 Tryz.underlying49 Tryz.info_u8 w.heap.size v5 hn h rfl HO5.out (.slice da n dc) n d rfl (HR.out.keep HB5.out) (by omega) (by omega) HB5.out.size ?_; intro v6 w6 ho6 hg6 hl6; obtain ⟨a6, c6, rfl⟩ := own_form ho6; have HO6 := Lib.hid ho6; have HB6 := Lib.hid (HB5.out.grown hg6 HB5.out.size (fun q hq => (HO5.out.lt q hq).1)); have HX6 := Lib.hid (HX5.out.grown HO5.out (by decide) hg6); have HF6 := Lib.hid (HF5.out.grown HO5.out hg6); have HK6 := Lib.hid (HK5.out.grown HO5.out (by decide) hg6); clear hN; have hN := And.intro HX6.out HF6.out; clear ho6 hg6 hl6)
    refine hK.out _ _ ?_ (fun hS1 => ?_)
    · (exact hN)
    clear hK K hS; have hS := hS1; clear hS1
    (try simp only [rgp])
    refine rgw 7 ⟨some 8, .assign (.tmp 43), 49, _, _, none⟩ hS ?_
    refine wpAnyH_done (by kernel_rfl) ?_ _
    obtain ⟨f60, f61, f62⟩ := HF6.out.cells
    clear hS hN
    go_wp2_with (first
      | (refine wpList_store_row rfl 79 _ _ rfl (xb + 1 + 1) (kA false (.slice none 0 0)) rfl rfl _ _ HK6.out (kj_info _ _) rfl (kj_one _ _ _ _) ?_))
    have HK7 := HK6.out.row false (.slice none 0 0)
    refine bodyPost_ret_by (results_row_tmp3 rfl _ _ (xb + 1 + 1) _ rfl HK7.load) rfl ?_
    exact ⟨rfl, brow HB6.out (by have := HXB.out; omega) (Nat.le_refl _) _⟩
  · go_enter Tryz.func32, Tryz.ntmps32
    go_wp2_with fail
    obtain ⟨w1, hw1⟩ : ∃ q, ((w.alloc (.cells (kA true (.slice va hn vc)) 79)).alloc (.cells (fA 3 ep (.slice da n dc)) 82)).alloc (.cells (kA false (.slice none 0 0)) 79) = q := ⟨_, rfl⟩
    rw [hw1]
    obtain ⟨xb, hxb⟩ : ∃ q, w.heap.size = q := ⟨_, rfl⟩
    have hb1 : Below w.heap.size w w1 := hw1 ▸ kbelow3 w _ _ _
    have HX1 : Hid (KO w1 xb true (.slice va hn vc)) := Lib.hid (by rw [← hw1, ← hxb]; exact (alloc3 w _ _ _).1)
    have HF1 : Hid (FO w1 (xb + 1) 3 ep (.slice da n dc)) := Lib.hid (by rw [← hw1, ← hxb]; exact (alloc3 w _ _ _).2.1)
    have HK1 : Hid (KO w1 (xb + 1 + 1) false (.slice none 0 0)) := Lib.hid (by rw [← hw1, ← hxb]; exact (alloc3 w _ _ _).2.2)
    have HB1 := Lib.hid hb1
    have HXB := Lib.hid hxb
    rw [hxb]
    clear hb1 hw1 hxb
    refine wp_region_held_drew (S := (fun w' => KO w' xb true (.slice va hn vc) ∧ FO w' (xb + 1) 3 ep (.slice da n dc))) (by kernel_rfl) ⟨HX1.out.keep (Below.refl w1.heap.size w1).drew, HF1.out.keep (Below.refl w1.heap.size w1).drew⟩ (fun hS => ?_)
    refine rgw 1 ⟨some 38, .fieldAddr 79 (.tmp 2) 1, 0, _, _, none⟩ hS ?_
    refine rgw 2 ⟨some 39, .load 49 (.tmp 38), 49, _, _, none⟩ hS ?_ (v := .slice va hn vc) (hy := by intro w hSw; (try dsimp only at hSw); have z := hSw.1.cells.2; go_simp)
    refine rgw 4 ⟨some 41, .fieldAddr 82 (.tmp 3) 2, 0, _, _, none⟩ hS ?_
    refine rgw 5 ⟨some 42, .load 49 (.tmp 41), 49, _, _, none⟩ hS ?_ (v := .slice da n dc) (hy := by intro w hSw; (try dsimp only at hSw); have z := hSw.2.cells.2.2; go_simp)
    refine rg_one 0 ⟨some 37, .buildSlice 49 0 #[], 49, _, _, none⟩ (by kernel_rfl) rfl (fun K hK => ?_)
    go_simp
    (obtain ⟨w4, hw4⟩ : ∃ q, w1.alloc (.cells #[] 5) = q := ⟨_, rfl⟩; simp only [hw4]; have hb4 : Below w1.heap.size w1 w4.drew := hw4 ▸ bdrew0 w1 _; have HO4 : Hid (w4.drew.ownsRow w.heap.size 5 1 (.slice (some ⟨w1.heap.size, 0, none⟩) 0 0) 0 (il .u8 [])) := Lib.hid (World.ownsRow.drew (hw4 ▸ (own_empty rfl HB1.out.size).out)); have HB4 := Lib.hid (bch HB1.out hb4); have HX4 := Lib.hid (HX1.out.keep hb4); have HF4 := Lib.hid (HF1.out.keep hb4); have HK4 := Lib.hid (HK1.out.keep hb4); have hN := And.intro HX4.out HF4.out; clear hb4 hw4)
    refine hK.out _ _ ?_ (fun hS1 => ?_)
    · (exact hN)
    clear hK K hS; have hS := hS1; clear hS1
    (try simp only [rgp])
    refine rg_one 3 ⟨some 40, .call { callee := .builtin Builtin.append, args := #[.tmp 37, .tmp 39], argTypes := #[49, 49] }, 49, _, _, none⟩ (by kernel_rfl) rfl (fun K hK => ?_)
    (rw [if_pos (by rfl)]; refine wp_appn (.tmp 37) (.tmp 39) 49 rfl 5 .u8 1 Tryz.underlying49 Tryz.info_u8 w.heap.size (.slice (some ⟨w1.heap.size, 0, none⟩) 0 0) 0 [] rfl HO4.out (.slice va hn vc) hn h rfl (HH.out.keep HB4.out) (by omega) (by omega) HB4.out.size ?_; intro v5 w5 ho5 hg5 hl5; rw [Nat.zero_add, List.nil_append] at ho5; have HO5 := Lib.hid ho5; have HB5 := Lib.hid (HB4.out.grown hg5 HB4.out.size (fun q hq => (HO4.out.lt q hq).1)); have HX5 := Lib.hid (HX4.out.grown HO4.out (by decide) hg5); have HF5 := Lib.hid (HF4.out.grown HO4.out hg5); have HK5 := Lib.hid (HK4.out.grown HO4.out (by decide) hg5); clear hN; have hN := And.intro HX5.out HF5.out; clear ho5 hg5 hl5)
    refine hK.out _ _ ?_ (fun hS1 => ?_)
    · (exact hN)
    clear hK K hS; have hS := hS1; clear hS1
    (try simp only [rgp])
    refine rg_one 6 ⟨some 43, .call { callee := .builtin Builtin.append, args := #[.tmp 40, .tmp 42], argTypes := #[49, 49] }, 49, _, _, none⟩ (by kernel_rfl) rfl (fun K hK => ?_)
    (rw [if_pos (by rfl)]; refine wp_appn (.tmp 40) (.tmp 42) 49 rfl 5 .u8 1 Tryz.underlying49 Tryz.info_u8 w.heap.size v5 hn h rfl HO5.out (.slice da n dc) n d rfl (HR.out.keep HB5.out) (by omega) (by omega) HB5.out.size ?_; intro v6 w6 ho6 hg6 hl6; obtain ⟨a6, c6, rfl⟩ := own_form ho6; have HO6 := Lib.hid ho6; have HB6 := Lib.hid (HB5.out.grown hg6 HB5.out.size (fun q hq => (HO5.out.lt q hq).1)); have HX6 := Lib.hid (HX5.out.grown HO5.out (by decide) hg6); have HF6 := Lib.hid (HF5.out.grown HO5.out hg6); have HK6 := Lib.hid (HK5.out.grown HO5.out (by decide) hg6); clear hN; have hN := And.intro HX6.out HF6.out; clear ho6 hg6 hl6)
    refine hK.out _ _ ?_ (fun hS1 => ?_)
    · (exact hN)
    clear hK K hS; have hS := hS1; clear hS1
    (try simp only [rgp])
    refine rgw 7 ⟨some 8, .assign (.tmp 43), 49, _, _, none⟩ hS ?_
    refine wpAnyH_done (by kernel_rfl) ?_ _
    obtain ⟨f60, f61, f62⟩ := HF6.out.cells
    clear hS hN
    go_wp2_with (first
      | (refine wpList_store_row rfl 79 _ _ rfl (xb + 1 + 1) (kA false (.slice none 0 0)) rfl rfl _ _ HK6.out (kj_info _ _) rfl (kj_one _ _ _ _) ?_))
    have HK7 := HK6.out.row false (.slice none 0 0)
    refine bodyPost_ret_by (results_row_tmp3 rfl _ _ (xb + 1 + 1) _ rfl HK7.load) rfl ?_
    exact ⟨rfl, brow HB6.out (by have := HXB.out; omega) (Nat.le_refl _) _⟩
  · go_enter Tryz.func32, Tryz.ntmps32
    go_wp2_with fail
    obtain ⟨w1, hw1⟩ : ∃ q, ((w.alloc (.cells (kA true (.slice va hn vc)) 79)).alloc (.cells (fA 4 ep (.slice da n dc)) 82)).alloc (.cells (kA false (.slice none 0 0)) 79) = q := ⟨_, rfl⟩
    rw [hw1]
    obtain ⟨xb, hxb⟩ : ∃ q, w.heap.size = q := ⟨_, rfl⟩
    have hb1 : Below w.heap.size w w1 := hw1 ▸ kbelow3 w _ _ _
    have HX1 : Hid (KO w1 xb true (.slice va hn vc)) := Lib.hid (by rw [← hw1, ← hxb]; exact (alloc3 w _ _ _).1)
    have HF1 : Hid (FO w1 (xb + 1) 4 ep (.slice da n dc)) := Lib.hid (by rw [← hw1, ← hxb]; exact (alloc3 w _ _ _).2.1)
    have HK1 : Hid (KO w1 (xb + 1 + 1) false (.slice none 0 0)) := Lib.hid (by rw [← hw1, ← hxb]; exact (alloc3 w _ _ _).2.2)
    have HB1 := Lib.hid hb1
    have HXB := Lib.hid hxb
    rw [hxb]
    clear hb1 hw1 hxb
    refine wp_region_held_drew (S := (fun w' => KO w' xb true (.slice va hn vc) ∧ FO w' (xb + 1) 4 ep (.slice da n dc))) (by kernel_rfl) ⟨HX1.out.keep (Below.refl w1.heap.size w1).drew, HF1.out.keep (Below.refl w1.heap.size w1).drew⟩ (fun hS => ?_)
    refine rgw 1 ⟨some 38, .fieldAddr 79 (.tmp 2) 1, 0, _, _, none⟩ hS ?_
    refine rgw 2 ⟨some 39, .load 49 (.tmp 38), 49, _, _, none⟩ hS ?_ (v := .slice va hn vc) (hy := by intro w hSw; (try dsimp only at hSw); have z := hSw.1.cells.2; go_simp)
    refine rgw 4 ⟨some 41, .fieldAddr 82 (.tmp 3) 2, 0, _, _, none⟩ hS ?_
    refine rgw 5 ⟨some 42, .load 49 (.tmp 41), 49, _, _, none⟩ hS ?_ (v := .slice da n dc) (hy := by intro w hSw; (try dsimp only at hSw); have z := hSw.2.cells.2.2; go_simp)
    refine rg_one 0 ⟨some 37, .buildSlice 49 0 #[], 49, _, _, none⟩ (by kernel_rfl) rfl (fun K hK => ?_)
    go_simp
    (obtain ⟨w4, hw4⟩ : ∃ q, w1.alloc (.cells #[] 5) = q := ⟨_, rfl⟩; simp only [hw4]; have hb4 : Below w1.heap.size w1 w4.drew := hw4 ▸ bdrew0 w1 _; have HO4 : Hid (w4.drew.ownsRow w.heap.size 5 1 (.slice (some ⟨w1.heap.size, 0, none⟩) 0 0) 0 (il .u8 [])) := Lib.hid (World.ownsRow.drew (hw4 ▸ (own_empty rfl HB1.out.size).out)); have HB4 := Lib.hid (bch HB1.out hb4); have HX4 := Lib.hid (HX1.out.keep hb4); have HF4 := Lib.hid (HF1.out.keep hb4); have HK4 := Lib.hid (HK1.out.keep hb4); have hN := And.intro HX4.out HF4.out; clear hb4 hw4)
    refine hK.out _ _ ?_ (fun hS1 => ?_)
    · (exact hN)
    clear hK K hS; have hS := hS1; clear hS1
    (try simp only [rgp])
    refine rg_one 3 ⟨some 40, .call { callee := .builtin Builtin.append, args := #[.tmp 37, .tmp 39], argTypes := #[49, 49] }, 49, _, _, none⟩ (by kernel_rfl) rfl (fun K hK => ?_)
    (rw [if_pos (by rfl)]; refine wp_appn (.tmp 37) (.tmp 39) 49 rfl 5 .u8 1 Tryz.underlying49 Tryz.info_u8 w.heap.size (.slice (some ⟨w1.heap.size, 0, none⟩) 0 0) 0 [] rfl HO4.out (.slice va hn vc) hn h rfl (HH.out.keep HB4.out) (by omega) (by omega) HB4.out.size ?_; intro v5 w5 ho5 hg5 hl5; rw [Nat.zero_add, List.nil_append] at ho5; have HO5 := Lib.hid ho5; have HB5 := Lib.hid (HB4.out.grown hg5 HB4.out.size (fun q hq => (HO4.out.lt q hq).1)); have HX5 := Lib.hid (HX4.out.grown HO4.out (by decide) hg5); have HF5 := Lib.hid (HF4.out.grown HO4.out hg5); have HK5 := Lib.hid (HK4.out.grown HO4.out (by decide) hg5); clear hN; have hN := And.intro HX5.out HF5.out; clear ho5 hg5 hl5)
    refine hK.out _ _ ?_ (fun hS1 => ?_)
    · (exact hN)
    clear hK K hS; have hS := hS1; clear hS1
    (try simp only [rgp])
    refine rg_one 6 ⟨some 43, .call { callee := .builtin Builtin.append, args := #[.tmp 40, .tmp 42], argTypes := #[49, 49] }, 49, _, _, none⟩ (by kernel_rfl) rfl (fun K hK => ?_)
    (rw [if_pos (by rfl)]; refine wp_appn (.tmp 40) (.tmp 42) 49 rfl 5 .u8 1 Tryz.underlying49 Tryz.info_u8 w.heap.size v5 hn h rfl HO5.out (.slice da n dc) n d rfl (HR.out.keep HB5.out) (by omega) (by omega) HB5.out.size ?_; intro v6 w6 ho6 hg6 hl6; obtain ⟨a6, c6, rfl⟩ := own_form ho6; have HO6 := Lib.hid ho6; have HB6 := Lib.hid (HB5.out.grown hg6 HB5.out.size (fun q hq => (HO5.out.lt q hq).1)); have HX6 := Lib.hid (HX5.out.grown HO5.out (by decide) hg6); have HF6 := Lib.hid (HF5.out.grown HO5.out hg6); have HK6 := Lib.hid (HK5.out.grown HO5.out (by decide) hg6); clear hN; have hN := And.intro HX6.out HF6.out; clear ho6 hg6 hl6)
    refine hK.out _ _ ?_ (fun hS1 => ?_)
    · (exact hN)
    clear hK K hS; have hS := hS1; clear hS1
    (try simp only [rgp])
    refine rgw 7 ⟨some 8, .assign (.tmp 43), 49, _, _, none⟩ hS ?_
    refine wpAnyH_done (by kernel_rfl) ?_ _
    obtain ⟨f60, f61, f62⟩ := HF6.out.cells
    clear hS hN
    go_wp2_with (first
      | (refine wpList_store_row rfl 79 _ _ rfl (xb + 1 + 1) (kA false (.slice none 0 0)) rfl rfl _ _ HK6.out (kj_info _ _) rfl (kj_one _ _ _ _) ?_))
    have HK7 := HK6.out.row false (.slice none 0 0)
    refine bodyPost_ret_by (results_row_tmp3 rfl _ _ (xb + 1 + 1) _ rfl HK7.load) rfl ?_
    exact ⟨rfl, brow HB6.out (by have := HXB.out; omega) (Nat.le_refl _) _⟩
set_option maxRecDepth 8000 in
set_option maxHeartbeats 4000000 in
theorem rfeed_wrong (o : Bool) (v : Value) (h : List Int) (k ep : Int) (dv : Value) (n : Nat) (d : List Int) (w : World) (hrh : RI .u8 w v h.length h) (_hfew : h.length ≤ 512) (hri : RI .u8 w dv n d) (_hn1 : (n : Int) ≤ 140737488351232)
    (hk : jFit o k = false) :
    Calls Tryz.prog 32 #[.agg (kA o v), .agg (fA k ep dv)] w fun e w' =>
      e = .returned (.tuple #[.agg (kA false (.slice none 0 0)), .slice none 0 0, .bool false, .int .i64 2]) ∧ Below w.heap.size w w' := by
  have hzl := hri.length
  have HR := Lib.hid hri
  obtain ⟨hn, hhn⟩ : ∃ m, h.length = m := ⟨_, rfl⟩
  rw [hhn] at hrh _hfew
  have HH := Lib.hid hrh
  obtain ⟨va, vc, rfl⟩ : ∃ a c, v = .slice a hn c := by obtain ⟨a, c, e, _⟩ := hrh; exact ⟨a, c, e⟩
  obtain ⟨da, dc, rfl⟩ : ∃ a c, dv = .slice a n c := by obtain ⟨a, c, e, _⟩ := hri; exact ⟨a, c, e⟩
  have HN := Lib.hid hhn
  have HZ := Lib.hid hzl
  clear hri hrh hzl hhn
  cases o
  all_goals (unfold jFit at hk; simp only [Bool.false_eq_true, if_false, if_true, decide_eq_false_iff_not, not_or] at hk; obtain ⟨k1, k2⟩ := hk)
  · have e1 : (k != 1) = true := by simpa using k1
    have e2 : (k != 2) = true := by simpa using k2
    go_enter Tryz.func32, Tryz.ntmps32
    go_wp2
    have HK7 : KO (((w.alloc (.cells (kA false (.slice va hn vc)) 79)).alloc (.cells (fA k ep (.slice da n dc)) 82)).alloc (.cells (kA false (.slice none 0 0)) 79)) (w.heap.size + 1 + 1) false (.slice none 0 0) := (alloc3 w _ _ _).2.2
    refine bodyPost_ret_by (results_row_tmp3 rfl _ _ (w.heap.size + 1 + 1) _ rfl HK7.load) rfl ?_
    exact ⟨rfl, kbelow3 w _ _ _⟩
  · have e1 : (k != 3) = true := by simpa using k1
    have e2 : (k != 4) = true := by simpa using k2
    go_enter Tryz.func32, Tryz.ntmps32
    go_wp2
    have HK7 : KO (((w.alloc (.cells (kA true (.slice va hn vc)) 79)).alloc (.cells (fA k ep (.slice da n dc)) 82)).alloc (.cells (kA false (.slice none 0 0)) 79)) (w.heap.size + 1 + 1) false (.slice none 0 0) := (alloc3 w _ _ _).2.2
    refine bodyPost_ret_by (results_row_tmp3 rfl _ _ (w.heap.size + 1 + 1) _ rfl HK7.load) rfl ?_
    exact ⟨rfl, kbelow3 w _ _ _⟩
theorem rfeed_any (o : Bool) (v : Value) (h : List Int) (k ep : Int) (dv : Value) (n : Nat) (d : List Int) (w : World) (hrh : RI .u8 w v h.length h) (hfew : h.length ≤ 512) (hri : RI .u8 w dv n d) (hn1 : (n : Int) ≤ 140737488351232) :
    Calls Tryz.prog 32 #[.agg (kA o v), .agg (fA k ep dv)] w fun e w' =>
      ∃ u v', e = .returned (.tuple #[.agg (kA (jGoes o h k d) v'), u, .bool (jEnds o h k d), .int .i64 (jErr o h k d)]) ∧ w'.ownsRow w.heap.size 5 1 v' (jHad o h k d).length (il .u8 (jHad o h k d)) ∧ w'.ownsRow w.heap.size 5 1 u (jTell o h k d).length (il .u8 (jTell o h k d)) ∧ Below w.heap.size w w' := by
  have hz := hri.length
  cases hf : jFit o k with
  | false =>
    obtain ⟨e1, e2, e3, e4, e5⟩ := j_wrong (h := h) (d := d) hf
    rw [e1, e2, e3, e4, e5]
    exact (rfeed_wrong o v h k ep dv n d w hrh hfew hri hn1 hf).mono fun e w' ⟨h1, h2⟩ => ⟨_, _, h1, World.ownsRow_nil _ _ _ _, World.ownsRow_nil _ _ _ _, h2⟩
  | true =>
    by_cases hl : h.length + n > 512
    · obtain ⟨e1, e2, e3, e4, e5⟩ := j_long (h := h) (d := d) hf (by rw [hz]; exact hl)
      rw [e1, e2, e3, e4, e5]
      exact (rfeed_long o v h k ep dv n d w hrh hfew hri hn1 hf hl).mono fun e w' ⟨h1, h2⟩ => ⟨_, _, h1, World.ownsRow_nil _ _ _ _, World.ownsRow_nil _ _ _ _, h2⟩
    · cases hk : jLast k with
      | true =>
        obtain ⟨e1, e2, e3, e4, e5⟩ := j_ends (h := h) (d := d) hf (by rw [hz]; exact hl) hk
        rw [e1, e2, e3, e4, e5]
        exact (rfeed_ends o v h k ep dv n d w hrh hfew hri hn1 (by unfold jFit at hf; unfold jLast at hk; cases o <;> simp at hf hk ⊢ <;> omega) hl).mono fun e w' ⟨u, h1, h2, h3⟩ => ⟨u, _, h1, World.ownsRow_nil _ _ _ _, h2, h3⟩
      | false =>
        obtain ⟨e1, e2, e3, e4, e5⟩ := j_goes (h := h) (d := d) hf (by rw [hz]; exact hl) hk
        rw [e1, e2, e3, e4, e5]
        exact (rfeed_goes o v h k ep dv n d w hrh hfew hri hn1 (by unfold jFit at hf; unfold jLast at hk; cases o <;> simp at hf hk ⊢ <;> omega) hl).mono fun e w' ⟨u, h1, h2, h3⟩ => ⟨_, u, h1, h2, World.ownsRow_nil _ _ _ _, h3⟩
end Go.Proofs.YtnmplnemnfonfaaGreatDoor
namespace Go.Proofs.YtnmplnemnfonfaaGreatDoor
open Go.RowKit
theorem sc_whole_bytes (x : Int) (zs : List Int) (h : isB zs) (n : Nat) : ∀ k, isB (wholeK x zs n k)
  | 0 => isB.nil
  | k + 1 => by
    unfold wholeK
    refine (sc_whole_bytes x zs h n k).append ?_
    split
    · exact (sealed_bytes x k _ (bytes_of_mem ((h.drop _).take _))).mem
    · intro y hy; have := List.eq_of_mem_replicate hy; omega
end Go.Proofs.YtnmplnemnfonfaaGreatDoor
namespace Go.Proofs.YtnmplnemnfonfaaGreatDoor
open Go.RowKit
theorem SR.rl_ {base : Nat} {w : World} {v bl : Value} {es : List (List Int × Value)} {R : List (List Int)} (r : SR base w v es.length es bl) (h : es.map Prod.fst = R) : RL .u8 w v R.length R := by
  have := r.rl
  rw [h] at this
  rwa [show es.length = R.length from by rw [← h, List.length_map]] at this
end Go.Proofs.YtnmplnemnfonfaaGreatDoor
namespace Go.Proofs.YtnmplnemnfonfaaGreatDoor
open Go.RowKit
def fewB (ls : List (List Int)) : Bool := ls.all (fun l => decide (l.length ≤ 512)) && decide (ls.length ≤ 100)
set_option maxRecDepth 8000 in
set_option maxHeartbeats 2000000 in
theorem few_any (v : Value) (n : Nat) (ls : List (List Int)) (w : World) (h : RL .u8 w v n ls) : Calls Tryz.prog 5 #[v] w fun e w' => e = .returned (.bool (fewB ls)) ∧ Below w.heap.size w w' := by
  have hle := h.le
  have HL := Lib.hid h.length
  have HH := Lib.hid h
  obtain ⟨a, cap, rfl, _⟩ := h.form
  clear h
  go_enter Tryz.func5, Tryz.ntmps5
  go_wp2
  go_loopw [3] (fun iv wr => ∃ i : Nat, iv = .int .i64 (i : Int) ∧ i ≤ n ∧ Hid (∀ j, j < i → (ls.getD j []).length ≤ 512) ∧ Hid (Below w.heap.size w wr)) (fun iv _ => n - (intOf iv).toNat)
  case atStart => exact ⟨0, rfl, by omega, Lib.hid (fun j hj => absurd hj (by omega)), Lib.hid (Below.refl _ _)⟩
  case round =>
    obtain ⟨i, rfl, hi, HA, HB⟩ := hrel
    by_cases hlt : (i : Int) < (n : Int)
    · obtain ⟨b, off, rfl, hat⟩ := (HH.out.keep HB.out).at_ (by omega)
      obtain ⟨x, c, hc, _⟩ := hat i (by omega)
      obtain ⟨m, hm⟩ : ∃ m, (ls.getD i []).length = m := ⟨_, rfl⟩
      rw [hm] at hc
      have HM := Lib.hid hm
      clear hat hm
      by_cases h5 : (m : Int) > 512
      · have HNO : Hid (fewB ls = false) := Lib.hid (by
          unfold fewB
          have : ls.all (fun l => decide (l.length ≤ 512)) = false := by
            rw [Bool.eq_false_iff]
            intro hh
            have := List.all_eq_true.1 hh (ls.getD i []) (by simp [List.getD, show i < ls.length by rw [HL.out]; omega])
            have := of_decide_eq_true this
            rw [HM.out] at this
            omega
          rw [this]; rfl)
        go_wp2
        (first | go_ret2 | go_ret3 | go_ret)
        exact ⟨ret_bool HNO.out.symm, HB.out⟩
      · have HAN : Hid (∀ j, j < i + 1 → (ls.getD j []).length ≤ 512) := Lib.hid (fun j hj => by
          by_cases ej : j = i
          · rw [ej, HM.out]; omega
          · exact HA.out j (by omega))
        go_wp2
        go_roundw
        case rel => exact ⟨i + 1, by go_num, by omega, HAN, HB⟩
        case measure => simp [intOf]; omega
    · have HALL : Hid (fewB ls = decide ((n : Int) ≤ 100)) := Lib.hid (by
        unfold fewB
        have : ls.all (fun l => decide (l.length ≤ 512)) = true := List.all_eq_true.2 fun l hl => by
          obtain ⟨j, hj, rfl⟩ := List.getElem_of_mem hl
          have := HA.out j (by rw [HL.out] at hj; omega)
          simp only [List.getD, List.getElem?_eq_getElem hj, Option.getD_some] at this
          exact decide_eq_true this
        rw [this, HL.out, Bool.true_and]
        exact decide_eq_decide.2 (by omega))
      go_wp2
      go_ret
      exact ⟨ret_bool (by rw [HALL.out]), HB.out⟩
theorem fewB_parts {ls : List (List Int)} (h : fewB ls = true) : ls.length ≤ 100 ∧ ∀ z ∈ ls, z.length ≤ 512 := by
  unfold fewB at h
  rw [Bool.and_eq_true] at h
  exact ⟨of_decide_eq_true h.2, fun z hz => of_decide_eq_true (List.all_eq_true.1 h.1 z hz)⟩
end Go.Proofs.YtnmplnemnfonfaaGreatDoor
namespace Go.Proofs.YtnmplnemnfonfaaGreatDoor
open Go.RowKit
theorem sc_end_one {x : Int} {n : Nat} (hb : beginN (nr x) ≠ 832) (hn : n ≤ leftN (beginN (nr x)) - 11) : fitI x n = true ∧ endI x n = beginN (nr x) + 11 + n := by
  have h0 : Run (nr x) n 0 := Run.zero (nr_le x)
  have h1 := h0.next (.inl rfl) hb
  have hf : fS (nr x) n (0 + 1) = n := by
    rw [fS_next, fS_zero]
    show 0 + min (n - 0) (leftN (beginN (nr x)) - 11) = n
    omega
  obtain ⟨hfit, hc⟩ := h1.end_ (nr_le x) (by omega) hf
  have hcut := cuts_cnt (nr_le x) hfit
  rw [hc] at hcut
  obtain ⟨q1, _, q3⟩ := told_yes hcut hfit
  refine ⟨q1, q3.trans ?_⟩
  rw [pS_next, fS_zero]
  show beginN (nr x) + 11 + min (n - 0) (leftN (beginN (nr x)) - 11) = _
  omega
def scTwo : List (List Int) := [[97], [98, 99]]
theorem sc_two : fitsF scTwo = true ∧ endF scTwo = 25 := by
  have f0 : fitI ((0 : Nat) : Int) (1 : Nat) = true := by decide
  have f1 : fitI ((12 : Nat) : Int) (2 : Nat) = true := by decide
  have e1 : endF [[97]] = 12 := by
    have h := endF_snoc [] [97]
    rw [List.nil_append, endF_nil] at h
    rw [h]
    exact (sc_end_one (x := ((0 : Nat) : Int)) (n := 1) (by decide) (by decide)).2
  have g1 : fitsF [[97]] = true := by
    have h := fitsF_snoc [] [97]
    rw [List.nil_append] at h
    rw [h]
    have : fitsF [] = true := rfl
    rw [this, endF_nil]
    exact f0
  constructor
  · have h := fitsF_snoc [[97]] [98, 99]
    rw [show [[97]] ++ [[98, 99]] = scTwo from rfl] at h
    rw [h, g1, e1]
    exact f1
  · have h := endF_snoc [[97]] [98, 99]
    rw [show [[97]] ++ [[98, 99]] = scTwo from rfl, e1] at h
    rw [h]
    exact (sc_end_one (x := ((12 : Nat) : Int)) (n := 2) (by decide) (by decide)).2
theorem sc_two_isB : ∀ l ∈ scTwo, isB l := by
  intro l hl x hx
  simp only [scTwo, List.mem_cons, List.not_mem_nil, or_false] at hl
  rcases hl with rfl | rfl <;> simp at hx <;> omega
theorem awake_rl (w : World) : RL .u8 (((w.alloc (.cells #[.int .u8 97] 5 (1, 2))).alloc (.cells #[.int .u8 98, .int .u8 99] 5 (2, 3))).alloc (.cells #[.slice (some ⟨w.heap.size, 0, none⟩) 1 1, .slice (some ⟨w.heap.size + 1, 0, none⟩) 2 2] 49))
    (.slice (some ⟨w.heap.size + 1 + 1, 0, none⟩) 2 2) 2 scTwo := by
  obtain ⟨h1, h2, h3⟩ := alloc3 w (.cells #[.int .u8 97] 5 (1, 2)) (.cells #[.int .u8 98, .int .u8 99] 5 (2, 3)) (.cells #[.slice (some ⟨w.heap.size, 0, none⟩) 1 1, .slice (some ⟨w.heap.size + 1, 0, none⟩) 2 2] 49)
  generalize ((w.alloc (.cells #[.int .u8 97] 5 (1, 2))).alloc (.cells #[.int .u8 98, .int .u8 99] 5 (2, 3))).alloc (.cells #[.slice (some ⟨w.heap.size, 0, none⟩) 1 1, .slice (some ⟨w.heap.size + 1, 0, none⟩) 2 2] 49) = w1 at h1 h2 h3 ⊢
  refine ⟨[.slice (some ⟨w.heap.size, 0, none⟩) 1 1, .slice (some ⟨w.heap.size + 1, 0, none⟩) 2 2], ⟨_, 2, rfl, rfl, Nat.le_refl _, by omega, fun h => by simp at h, fun _ => ⟨w.heap.size + 1 + 1, 0, rfl, fun j hj => ?_⟩⟩, rfl, fun j e l he hl => ?_⟩
  · rw [Nat.zero_add, cell_of_row _ (w.heap.size + 1 + 1) j _ _ _ h3]; simp
  · match j, he, hl with
    | 0, he, hl =>
      simp [scTwo] at he hl
      subst he hl
      refine ⟨_, 1, rfl, rfl, by simp, by omega, fun e => by simp at e, fun _ => ⟨_, 0, rfl, fun j hj => ?_⟩⟩
      obtain rfl : j = 0 := by simp at hj; exact hj
      exact Joins.cell_of_block h1 0
    | 1, he, hl =>
      simp [scTwo] at he hl
      subst he hl
      refine ⟨_, 2, rfl, rfl, by simp, by omega, fun e => by simp at e, fun _ => ⟨_, 0, rfl, fun j hj => ?_⟩⟩
      match j, hj with
      | 0, _ => exact Joins.cell_of_block h2 0
      | 1, _ => exact Joins.cell_of_block h2 1
end Go.Proofs.YtnmplnemnfonfaaGreatDoor
