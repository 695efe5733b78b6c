/-
  TEXTS JOINED: ImgRefL, Appv. Each one's own words stand at its head.
-/
import Derived.Test.YtgegbpnmfpjdmaaGreatDoorJ22
import Derived.Test.YtgegbpnmfpjdmaaGreatDoorJ0
import Derived.Test.YtgegbpnmfpjdmaaGreatDoorJ3
namespace Go.Proofs.YtgegbpnmfpjdmaaGreatDoor
open Go.RowKit
theorem Tryz.info_i64 : (Tryz.prog.info? 3).map (fun i => (i.zero, i.size, i.bytes)) = some (some (.int .i64 0), 1, 8) := by kernel_rfl
theorem results_tmp4 {fn : Func} {t u v x : Tmp} (h : fn.results = #[.tmp t, .tmp u, .tmp v, .tmp x]) (tmps : Array Value) (P : Program) (w : World) :
    (results fn tmps).run P w = .ok (.tuple #[tmps.getD t undef, tmps.getD u undef, tmps.getD v undef, tmps.getD x undef]) w := by
  simp [results, h]
theorem YB.ne_own {w : World} {g : Nat} {zs : List Int} (h : YB w g zs) {base n : Nat} {u : Value} {xs : List Value} (ho : w.ownsRow base 3 1 u n xs) : u.ownBlock ≠ some g := by
  intro hq
  rcases ho.2 with ⟨rfl, _⟩ | ⟨q, cap, cur, rfl, _, hcur, _⟩
  · simp [Value.ownBlock] at hq
  · simp only [Value.ownBlock, Option.some.injEq] at hq
    subst hq
    unfold YB at h
    rw [h] at hcur
    simp only [Option.some.injEq, Obj.cells.injEq] at hcur
    exact absurd hcur.2.1 (by decide)
theorem YB.grown {w w' : World} {g : Nat} {zs : List Int} (h : YB w g zs) {base n : Nat} {u : Value} {xs : List Value} (ho : w.ownsRow base 3 1 u n xs) (hg : w.grownBy w' u.ownBlock) : YB w' g zs :=
  (hg.block g h.lt (fun e => h.ne_own ho e.symm)).trans h
theorem ri_new1 (w : World) (x : Int) : RI .i64 (w.alloc (.cells #[.int .i64 x] 3)) (.slice (some ⟨w.heap.size, 0, none⟩) 1 1) 1 [x] := by
  refine ⟨_, 1, rfl, rfl, Nat.le_refl _, by omega, fun h => by simp at h, fun _ => ⟨w.heap.size, 0, rfl, fun j hj => ?_⟩⟩
  obtain rfl : j = 0 := by omega
  rw [Nat.zero_add, cell_of_row _ w.heap.size 0 _ _ _ (heap_alloc_last w _)]
  rfl
theorem good_few {ls : List (List Int)} : ∀ {k : Nat}, GoodF ls k → k ≤ ls.length → k ≤ endF (ls.take k)
  | 0, _, _ => Nat.zero_le _
  | k + 1, h, hk => by
    have ih := good_few (k := k) (fun j hj => h j (by omega)) (by omega)
    have h1 := (end_gt (h k (by omega))).1
    rw [nr_nat _ (endF_le _)] at h1
    rw [endF_next ls k (by omega)]
    omega
def LayF (w : World) (ls : List (List Int)) (e32 : Int) (N : Nat) (e : Ending) (w' : World) : Prop :=
  (fitsF ls = true ∧ ∃ g pa pc, e = .returned (.tuple #[.slice (some ⟨g, 0, none⟩) 832 832, .slice pa N pc, .int .i64 (endF ls : Nat), .bool true]) ∧ YB w' g (bodyF e32 ls) ∧ w'.ownsRow w.heap.size 3 1 (.slice pa N pc) N (il .i64 (placesF ls)) ∧ Below w.heap.size w w') ∨
  (fitsF ls = false ∧ e = .returned (.tuple #[.slice none 0 0, .slice none 0 0, .int .i64 0, .bool false]) ∧ Below w.heap.size w w')
set_option maxRecDepth 8000 in
set_option maxHeartbeats 8000000 in
theorem rlay_any (ep : Int) (hep : U64 ep) (lv : Value) (N : Nat) (ls : List (List Int)) (hN : (N : Int) ≤ 9223372036854775807) (hlb : ∀ l ∈ ls, isB l) (w : World) (hrl : RL .u8 w lv N ls) :
    Calls Tryz.prog 42 #[.int .u64 ep, lv] w (LayF w ls (ep % 4294967296) N) := by
  have hll := hrl.length
  obtain ⟨la, lc, rfl, _⟩ := hrl.form
  obtain ⟨e32, he⟩ : ∃ e32, ep % 4294967296 = e32 := ⟨_, rfl⟩
  rw [he]
  have HAF : Hid (∀ (a : Nat) (b : List Int) (bv dv : Value) (n : Nat) (zs : List Int) (w : World), a ≤ 832 → isB zs → b.length = 832 → RI .u8 w bv 832 b → RI .u8 w dv n zs → fitI (a : Nat) n = true → Calls Tryz.prog 76 #[.int .u64 ep, bv, .int .i64 (a : Nat), dv] w fun e w' => ∃ g, e = .returned (.tuple #[.slice (some ⟨g, 0, none⟩) 832 832, .int .i64 (endI (a : Nat) n : Nat), .bool true]) ∧
      YB w' g (layR e32 b (a : Nat) zs) ∧ w.heap.size ≤ g ∧ Below w.heap.size w w') := Lib.hid fun a b bv dv n zs w h1 h2 h3 h4 h5 h6 => by
    have := radd_fit ep (a : Nat) (by unfold I63; omega) hep bv 832 b dv n zs h2 w h4 h5 h6
    rwa [he, pad8_full h3] at this
  have HLL := Lib.hid hll
  have HLB := Lib.hid hlb
  have HRL := Lib.hid hrl
  have HBG : Hid (∀ (a : Nat) (w : World), a ≤ 832 → Calls Tryz.prog 33 #[.int .i64 (a : Nat)] w fun e w' => e = .returned (.int .i64 (beginN a : Int)) ∧ w = w') := Lib.hid fun a w h => (rbegin_any a (by unfold I63; omega) w).mono fun e w' ⟨h1, h2⟩ => ⟨by rw [h1, nr_nat _ h], h2.symm⟩
  clear hep hll hlb hrl he
  go_enter Tryz.func42, Tryz.ntmps42
  go_wp2_with (first
    | (refine wpl_mk_yb rfl _ _ rfl 832 rfl rfl (by omega) ?_; intro g0 w1 HY1 HG1 HB1))
  go_loopw [8, 9, 10, 11, 12] (fun bv pv ev kv iv wr => ∃ (i g : Nat) (pa : Option Addr) (pc a : Nat), iv = .int .i64 (i : Int) ∧ kv = .bool true ∧ bv = .slice (some ⟨g, 0, none⟩) 832 832 ∧ pv = .slice pa i pc ∧ ev = .int .i64 (a : Int) ∧ i ≤ N ∧ a ≤ 832 ∧ Hid (endF (ls.take i) = a) ∧ Hid (GoodF ls i) ∧ Hid (YB wr g (bodyF e32 (ls.take i))) ∧ Hid (wr.ownsRow w.heap.size 3 1 (.slice pa i pc) i (il .i64 (placesF (ls.take i)))) ∧ Hid (Below w.heap.size w wr)) (fun _ _ _ _ iv _ => N - (intOf iv).toNat)
  case atStart => exact ⟨0, g0, none, 0, 0, rfl, rfl, rfl, rfl, rfl, by omega, by omega, Lib.hid (by simp [endF_nil]), Lib.hid (GoodF.zero ls), Lib.hid (by rw [List.take_zero, bodyF_nil]; exact HY1.out), Lib.hid (World.ownsRow_nil _ _ _ _), HB1⟩
  case round =>
    obtain ⟨i, g, pa, pc, a, rfl, rfl, rfl, rfl, rfl, hi, ha, HA, HGD, HY, HO, HB⟩ := hrel
    have hi8 : i ≤ 832 := by have h1 := good_few HGD.out (by rw [HLL.out]; exact hi); rw [HA.out] at h1; omega
    by_cases hlt : (i : Int) < (N : Int)
    · obtain ⟨b, off, rfl, hat⟩ := HRL.out.at_ (by omega)
      obtain ⟨x, c, hc, hr⟩ := hat i (by omega)
      obtain ⟨zs, hzs⟩ : ∃ zs, ls.getD i [] = zs := ⟨_, rfl⟩
      rw [hzs] at hc hr
      obtain ⟨n, hn⟩ : ∃ n, zs.length = n := ⟨_, rfl⟩
      rw [hn] at hc hr
      have hzb : isB zs := HLB.out zs (by rw [← hzs]; simp [List.getD, show i < ls.length by rw [HLL.out]; omega])
      have HPN := Lib.hid (placesF_next ls i (by rw [HLL.out]; omega))
      have HBN := Lib.hid (bodyF_next e32 ls i (by rw [HLL.out]; omega))
      have HEN := Lib.hid (endF_next ls i (by rw [HLL.out]; omega))
      rw [HA.out] at HPN HBN HEN
      rw [hzs] at HBN HEN
      rw [hn] at HEN
      obtain ⟨bg, hbg⟩ : ∃ bg, beginN a = bg := ⟨_, rfl⟩
      have H1 := HBG.out a
      rw [hbg] at H1 HPN
      have H1 := Lib.hid H1
      have HC := Lib.hid hc
      have HR := Lib.hid hr
      have HZB := Lib.hid hzb
      have HBL := Lib.hid (bodyF_at e32 ls i (by rw [HLL.out]; omega))
      have HIN : Hid (i + 1 ≤ ls.length) := Lib.hid (by rw [HLL.out]; omega)
      have HFT : Hid (fitI (endF (ls.take i) : Nat) (ls.getD i []).length = fitI (a : Nat) n) := Lib.hid (by rw [HA.out, hzs, hn])
      obtain ⟨a9, ha9⟩ : ∃ a9, endI (a : Nat) n = a9 := ⟨_, rfl⟩
      have ha98 : a9 ≤ 832 := by rw [← ha9]; exact end_le _ _
      rw [ha9] at HEN
      have HA1 : ∀ (bv dv : Value) (w : World), RI .u8 w bv 832 (bodyF e32 (ls.take i)) → RI .u8 w dv n zs → fitI (a : Nat) n = true → Calls Tryz.prog 76 #[.int .u64 ep, bv, .int .i64 (a : Nat), dv] w fun e w' => ∃ g, e = .returned (.tuple #[.slice (some ⟨g, 0, none⟩) 832 832, .int .i64 (a9 : Nat), .bool true]) ∧ YB w' g (bodyF e32 (ls.take (i + 1))) ∧ w.heap.size ≤ g ∧ Below w.heap.size w w' := fun bv dv w h1 h2 h3 => by
        rw [HBN.out, ← ha9]; exact HAF.out a _ bv dv n zs w ha HZB.out HBL.out h1 h2 h3
      have HA1 := Lib.hid HA1
      have HA0 : ∀ (bv : Value) (w : World), fitI (a : Nat) n = false → Calls Tryz.prog 76 #[.int .u64 ep, bv, .int .i64 (a : Nat), .slice x n c] w fun e w' => e = .returned (.tuple #[.slice none 0 0, .int .i64 0, .bool false]) ∧ Below w.heap.size w w' := fun bv w h => radd_no ep (a : Nat) (by unfold I63; omega) bv x n c (by have := HR.out.le; omega) w h
      have HA0 := Lib.hid HA0
      clear hc hr hzb hat hzs hn ha9 hbg
      cases hf : fitI (a : Nat) n with
      | true =>
        have HA2 : Hid (∀ (bv dv : Value) (w : World), RI .u8 w bv 832 (bodyF e32 (ls.take i)) → RI .u8 w dv n zs → Calls Tryz.prog 76 #[.int .u64 ep, bv, .int .i64 (a : Nat), dv] w fun e w' => ∃ g, e = .returned (.tuple #[.slice (some ⟨g, 0, none⟩) 832 832, .int .i64 (a9 : Nat), .bool true]) ∧ YB w' g (bodyF e32 (ls.take (i + 1))) ∧ w.heap.size ≤ g ∧ Below w.heap.size w w') := Lib.hid fun bv dv w h1 h2 => HA1.out bv dv w h1 h2 hf
        have HGN : Hid (GoodF ls (i + 1)) := Lib.hid (HGD.out.next (by rw [HFT.out]; exact hf))
        clear HA1 HA0 hf
        go_wp2_with (first
          | (go_at_call 33; (with_reducible refine (H1.out _ ha).mono ?_); rintro e w' ⟨rfl, rfl⟩)
          | (at_builtin; refine wpl_appw rfl (.tmp 20) (.tmp 23) 36 rfl 3 .i64 8 Tryz.underlying36 Tryz.info_i64 w.heap.size _ i _ rfl (HO.out.alloc _) _ 1 [(bg : Int)] rfl (ri_new1 wr bg) (by omega) (by omega) (by have := HB.out.size; simp; omega) ?_; intro v2 w2 HO2 HG2 _; rw [← HPN.out] at HO2; obtain ⟨a2, c2, rfl⟩ := own_form HO2.out; have HY2 := Lib.hid ((HY.out.keep (balloc wr _)).grown (HO.out.alloc _) HG2.out); have HB2 : Hid (Below w.heap.size w w2) := Lib.hid ((HB.out.alloc HB.out.size _).grown HG2.out (by have := HB.out.size; simp; omega) (fun q hq => (HO.out.lt q hq).1)); have hc2 := cell_keep HB2.out HC.out)
          | (go_at_call 76; (with_reducible refine (HA2.out _ _ _ (HY2.out.ri HBL.out (by omega)) (HR.out.keep HB2.out)).mono ?_); rintro e w3 ⟨g3, rfl, hy, _, hb⟩; have HY3 := Lib.hid hy; have HO3 := Lib.hid (own_keep HO2.out hb); have HB3 := Lib.hid (bch HB2.out hb); clear hy hb))
        go_roundw
        case rel => exact ⟨i + 1, g3, a2, c2, a9, by go_num, rfl, rfl, rfl, rfl, by omega, ha98, HEN, HGN, HY3, HO3, HB3⟩
        case measure => simp [intOf]; omega
      | false =>
        have HA2 : Hid (∀ (bv : Value) (w : World), Calls Tryz.prog 76 #[.int .u64 ep, bv, .int .i64 (a : Nat), .slice x n c] w fun e w' => e = .returned (.tuple #[.slice none 0 0, .int .i64 0, .bool false]) ∧ Below w.heap.size w w') := Lib.hid fun bv w => HA0.out bv w hf
        have HNO : Hid (fitsF ls = false) := Lib.hid (fitsF_bad ⟨i, HIN.out, by rw [HFT.out]; exact hf⟩)
        clear HA1 HA0 hf
        go_wp2_with (first
          | (go_at_call 33; (with_reducible refine (H1.out _ ha).mono ?_); rintro e w' ⟨rfl, rfl⟩)
          | (at_builtin; refine wpl_appw rfl (.tmp 20) (.tmp 23) 36 rfl 3 .i64 8 Tryz.underlying36 Tryz.info_i64 w.heap.size _ i _ rfl (HO.out.alloc _) _ 1 [(bg : Int)] rfl (ri_new1 wr bg) (by omega) (by omega) (by have := HB.out.size; simp; omega) ?_; intro v2 w2 HO2 HG2 _; rw [← HPN.out] at HO2; obtain ⟨a2, c2, rfl⟩ := own_form HO2.out; have HY2 := Lib.hid ((HY.out.keep (balloc wr _)).grown (HO.out.alloc _) HG2.out); have HB2 : Hid (Below w.heap.size w w2) := Lib.hid ((HB.out.alloc HB.out.size _).grown HG2.out (by have := HB.out.size; simp; omega) (fun q hq => (HO.out.lt q hq).1)); have hc2 := cell_keep HB2.out HC.out)
          | (go_at_call 76; (with_reducible refine (HA2.out _ _).mono ?_); rintro e w3 ⟨rfl, hb⟩; have HB3 := Lib.hid (bch HB2.out hb); clear hb))
        (try simp only [Exit.inBlock, Exit.then]); refine bodyPost_ret (results_tmp4 rfl _ _ _) rfl ?_
        exact .inr ⟨HNO.out, rfl, HB3.out⟩
    · obtain rfl : i = N := by omega
      have HFT : Hid (fitsF ls = true) := Lib.hid (fitsF_good (by rw [HLL.out]; exact HGD.out))
      have HTK : Hid (ls.take i = ls) := Lib.hid (List.take_of_length_le (by rw [HLL.out]; omega))
      rw [HTK.out] at HA HY HO
      go_wp2
      (try simp only [Exit.inBlock, Exit.then]); refine bodyPost_ret (results_tmp4 rfl _ _ _) rfl ?_
      exact .inl ⟨HFT.out, g, pa, pc, by rw [HA.out]; rfl, HY.out, HO.out, HB.out⟩
theorem lay_yes {w : World} {ls : List (List Int)} {e32 : Int} {N : Nat} {fn : Nat} {args : Array Value} (h : Calls Tryz.prog fn args w (LayF w ls e32 N)) (hf : fitsF ls = true) :
    Calls Tryz.prog fn args w fun e w' => ∃ g pa pc, e = .returned (.tuple #[.slice (some ⟨g, 0, none⟩) 832 832, .slice pa N pc, .int .i64 (endF ls : Nat), .bool true]) ∧ YB w' g (bodyF e32 ls) ∧ w'.ownsRow w.heap.size 3 1 (.slice pa N pc) N (il .i64 (placesF ls)) ∧ Below w.heap.size w w' :=
  h.mono fun e w' h => by
    rcases h with ⟨_, h⟩ | ⟨h, _⟩
    · exact h
    · rw [hf] at h; cases h
theorem lay_not {w : World} {ls : List (List Int)} {e32 : Int} {N : Nat} {fn : Nat} {args : Array Value} (h : Calls Tryz.prog fn args w (LayF w ls e32 N)) (hf : fitsF ls = false) :
    Calls Tryz.prog fn args w fun e w' => e = .returned (.tuple #[.slice none 0 0, .slice none 0 0, .int .i64 0, .bool false]) ∧ Below w.heap.size w w' :=
  h.mono fun e w' h => by
    rcases h with ⟨h, _⟩ | ⟨_, h⟩
    · rw [hf] at h; cases h
    · exact h
set_option maxRecDepth 8000 in
set_option maxHeartbeats 2000000 in
theorem rsectors_own (ep : Int) (hep : U64 ep) (lv : Value) (N : Nat) (ls : List (List Int)) (hN : (N : Int) ≤ 9223372036854775807) (hlb : ∀ l ∈ ls, isB l) (w : World) (hrl : RL .u8 w lv N ls) :
    Calls Tryz.prog 19 #[.int .u64 ep, lv] w (SecO w ls ep) := by
  have HL : Hid (∀ w, RL .u8 w lv N ls → Calls Tryz.prog 42 #[.int .u64 ep, lv] w (LayF w ls (ep % 4294967296) N)) := Lib.hid fun w h => rlay_any ep hep lv N ls hN hlb w h
  have HEP := Lib.hid hep
  have HRL := Lib.hid hrl
  have HBL := Lib.hid (bodyF_len (ep % 4294967296) ls)
  have HEL := endF_le ls
  unfold SecO
  cases hf : fitsF ls with
  | true =>
    have HL2 : Hid (∀ w, RL .u8 w lv N ls → Calls Tryz.prog 42 #[.int .u64 ep, lv] w fun e w' => ∃ g pa pc, e = .returned (.tuple #[.slice (some ⟨g, 0, none⟩) 832 832, .slice pa N pc, .int .i64 (endF ls : Nat), .bool true]) ∧ YB w' g (bodyF (ep % 4294967296) ls) ∧ w'.ownsRow w.heap.size 3 1 (.slice pa N pc) N (il .i64 (placesF ls)) ∧ Below w.heap.size w w') := Lib.hid fun w h => lay_yes (HL.out w h) hf
    generalize bodyF (ep % 4294967296) ls = bd at *
    generalize endF ls = en at *
    have HW : Hid (∀ (v : Value) (w : World), RI .u8 w v 832 bd → Calls Tryz.prog 43 #[.int .u64 ep, v, .int .i64 (en : Nat)] w fun e w' => ∃ v', e = .returned v' ∧ w'.ownsRow w.heap.size 60 64 v' 16 (il .u8 (wholeK ep bd (touchN 0 en).2 16)) ∧ Below w.heap.size w w') := Lib.hid fun v w h => by
      have := rwhole_own ep hep v 832 bd (by omega) (en : Nat) (by unfold I63; omega) w h
      rwa [nr_nat _ HEL] at this
    clear hep hlb hrl HL hf
    go_enter Tryz.func19, Tryz.ntmps19
    go_wp2_with (first
      | (go_at_call 42; (with_reducible refine (HL2.out _ HRL.out).mono ?_); rintro e w1 ⟨g1, pa, pc, rfl, hy, _, hb⟩; have HY1 := Lib.hid hy; have HB1 := Lib.hid hb; clear hy hb)
      | (go_at_call 43; (with_reducible refine (HW.out _ _ (HY1.out.ri HBL.out (by omega))).mono ?_); rintro e w2 ⟨v2, rfl, hs, hb⟩; have HS2 := Lib.hid hs; have HB2 := Lib.hid (bch HB1.out hb); clear hs hb))
    go_ret2
    exact .inl ⟨trivial, _, rfl, own_mono HS2.out HB1.out.size, HB2.out⟩
  | false =>
    have HL2 : Hid (∀ w, RL .u8 w lv N ls → Calls Tryz.prog 42 #[.int .u64 ep, lv] w fun e w' => e = .returned (.tuple #[.slice none 0 0, .slice none 0 0, .int .i64 0, .bool false]) ∧ Below w.heap.size w w') := Lib.hid fun w h => lay_not (HL.out w h) hf
    clear hep hlb hrl HL hf HEL
    go_enter Tryz.func19, Tryz.ntmps19
    go_wp2_with (first
      | (go_at_call 42; (with_reducible refine (HL2.out _ HRL.out).mono ?_); rintro e w1 ⟨rfl, hb⟩; have HB1 := Lib.hid hb; clear hb))
    go_ret2
    exact .inr ⟨trivial, rfl, HB1.out⟩
end Go.Proofs.YtgegbpnmfpjdmaaGreatDoor
namespace Go.Proofs.YtgegbpnmfpjdmaaGreatDoor
open Go.RowKit
theorem wp_appv {P : Program} {w : World} {o : Oper} {a : Act} {K : Act → World → Prop} {Q : Exit → Act → World → Prop} (s x : Operand) (t : TypeId) (ho : o.op = .call { callee := .builtin .append, args := #[s, x], argTypes := #[t, t] })
    (e : TypeId) (z : Value) (bytes : Nat) (ht : P.underlying t = some (.slice e)) (hinfo : (P.info? e).map (fun i => (i.zero, i.size, i.bytes)) = some (some z, 1, bytes)) (hz : z.cells.size = 1)
    (base : Nat) (v : Value) (n : Nat) (es : List Value) (hs : a.eval s = v) (hown : w.ownsRow base e 1 v n es)
    (v2 : Value) (m : Nat) (fs : List Value) (hx : a.eval x = v2) (hrv : RV w v2 m fs) (hone : ∀ u ∈ fs, u.oneCell' = true) (hbytes : ((n + m) + (n + m) / 4 + 192) * bytes ≤ 281474976710656) (h63 : n + m ≤ 9223372036854775807) (hbase : base ≤ w.heap.size)
    (h : ∀ v' w', Hid (w'.ownsRow base e 1 v' (n + m) (es ++ fs)) → Hid (w.grownBy w' v.ownBlock) → K (a.put o.dst v') w') : o.wp P a w K Q := by
  obtain ⟨i, hi, hz0, hz1, hz2⟩ := info_parts hinfo
  obtain ⟨ad, cap, rfl, hl, hlc, _, hnil, hc⟩ := hrv
  cases ad with
  | none =>
    obtain rfl : cap = 0 := hnil rfl
    obtain rfl : m = 0 := by omega
    obtain rfl : fs = [] := List.length_eq_zero_iff.1 hl
    have hrun := run_append_owned_none (P := P) (w := w) base t o.type e i 1 ht hi v n _ hown
    unfold Oper.wp
    simp [execOp, ho, resolve, invoke, builtin, hs, hx, hrun, Result.andThen]
    exact h v w (by rw [List.append_nil]; exact hown) ⟨rfl, rfl, rfl, Nat.le_refl _, fun _ _ _ => rfl⟩
  | some ad =>
    refine wp_append_own_wide w s x t ho base e i z 1 bytes ht hi hz0 hz1 hz2 hz (by omega) v n es hs hown ad m cap fs hx (by omega) ?_ hone (by unfold maxLen; omega) hbytes hbase ?_
    · intro j u hj
      have hjl := (List.getElem?_eq_some_iff.1 hj).1
      obtain ⟨b, off, e1, hcell⟩ := hc (by omega)
      obtain rfl := Option.some.inj e1
      have := hcell j (by omega)
      rw [hj] at this
      have e2 : (⟨b, off, none⟩ : Addr).add j = ⟨b, off + j, none⟩ := by unfold Addr.add; split <;> simp_all
      rw [e2]; exact this
    · intro v' w' h1 h2 _
      exact h v' w' h1 h2
theorem wpl_appv {P : Program} {w : World} {ops : Array Oper} {rest : List Oper} {o : Oper} {a : Act} {Q : Exit → Act → World → Prop} (hgd : o.guard = none) (s x : Operand) (t : TypeId) (ho : o.op = .call { callee := .builtin .append, args := #[s, x], argTypes := #[t, t] })
    (e : TypeId) (z : Value) (bytes : Nat) (ht : P.underlying t = some (.slice e)) (hinfo : (P.info? e).map (fun i => (i.zero, i.size, i.bytes)) = some (some z, 1, bytes)) (hz : z.cells.size = 1)
    (base : Nat) (v : Value) (n : Nat) (es : List Value) (hs : a.eval s = v) (hown : w.ownsRow base e 1 v n es)
    (v2 : Value) (m : Nat) (fs : List Value) (hx : a.eval x = v2) (hrv : RV w v2 m fs) (hone : ∀ u ∈ fs, u.oneCell' = true) (hbytes : ((n + m) + (n + m) / 4 + 192) * bytes ≤ 281474976710656) (h63 : n + m ≤ 9223372036854775807) (hbase : base ≤ w.heap.size)
    (h : ∀ v' w', Hid (w'.ownsRow base e 1 v' (n + m) (es ++ fs)) → Hid (w.grownBy w' v.ownBlock) → wpList P ops Q rest (a.put o.dst v') w') : wpList P ops Q (o :: rest) a w :=
  wpList_plain hgd fun _ hK => wp_appv s x t ho e z bytes ht hinfo hz base v n es hs hown v2 m fs hx hrv hone hbytes h63 hbase fun v' w' h1 h2 => hK _ _ (h v' w' h1 h2)
theorem Tryz.info_sl : (Tryz.prog.info? 43).map (fun i => (i.zero, i.size, i.bytes)) = some (some (.slice none 0 0), 1, 24) := by kernel_rfl
theorem rv_one (w : World) (y : Value) : RV (w.alloc (.cells #[y] 43)) (.slice (some ⟨w.heap.size, 0, none⟩) 1 1) 1 [y] := by
  refine ⟨_, 1, rfl, rfl, Nat.le_refl _, by omega, fun h => by simp at h, fun _ => ⟨w.heap.size, 0, rfl, fun j hj => ?_⟩⟩
  obtain rfl : j = 0 := by omega
  rw [Nat.zero_add, cell_of_row _ w.heap.size 0 _ _ _ (heap_alloc_last w _)]
  rfl
end Go.Proofs.YtgegbpnmfpjdmaaGreatDoor
