/-
  TEXTS JOINED: WrFit, WrStep, WrWrites. Each one's own words stand at its head.
-/
import Derived.Test.YtgegbpnmfpjdmaaGreatDoorJ21
import Derived.Test.YtgegbpnmfpjdmaaGreatDoorJ24
import Derived.Test.YtgegbpnmfpjdmaaGreatDoorJ1
namespace Go.Proofs.YtgegbpnmfpjdmaaGreatDoor
open Go.RowKit
structure VL (W w : World) (base : Nat) (v : Value) (k : Nat) (es : List Value) (ls : List (List Int)) : Prop where
  row : w.ownsRow base 43 1 v k es
  lel : ls.length = k
  esl : es.length = k
  at_ : ∀ (j : Nat) (e : Value) (l : List Int), es[j]? = some e → ls[j]? = some l → RI .u8 W e l.length l
theorem VL.nil (W w : World) (base : Nat) : VL W w base (.slice none 0 0) 0 [] [] := ⟨World.ownsRow_nil _ _ _ _, rfl, rfl, fun j e l he => by simp at he⟩
theorem VL.snoc {W w w' : World} {base : Nat} {v v' : Value} {k : Nat} {es : List Value} {ls : List (List Int)} (h : VL W w base v k es ls) {e : Value} {l : List Int} {n : Nat} (hr : RI .u8 W e n l) (ho : w'.ownsRow base 43 1 v' (k + 1) (es ++ [e])) : VL W w' base v' (k + 1) (es ++ [e]) (ls ++ [l]) := by
  have hn := hr.length
  subst hn
  refine ⟨ho, by simp [h.lel], by simp [h.esl], fun j x y hx hy => ?_⟩
  have h1 := h.lel
  have h2 := h.esl
  by_cases hj : j < k
  · rw [List.getElem?_append_left (by omega)] at hx hy
    exact h.at_ j x y hx hy
  · rw [List.getElem?_append_right (by omega)] at hx hy
    rw [h2] at hx
    rw [h1] at hy
    cases hq : j - k with
    | zero =>
      rw [hq] at hx hy
      simp only [List.getElem?_cons_zero, Option.some.injEq] at hx hy
      subst hx; subst hy
      exact hr
    | succ q => rw [hq] at hx; simp at hx
theorem VL.rl {W w : World} {base : Nat} {v : Value} {k : Nat} {es : List Value} {ls : List (List Int)} (h : VL W w base v k es ls) (hb : Below W.heap.size W w) : RL .u8 w v k ls :=
  ⟨es, RV.own h.row, h.lel, fun j e l he hl => (h.at_ j e l he hl).keep hb⟩
set_option maxRecDepth 8000 in
set_option maxHeartbeats 8000000 in
theorem rfit_any (lv : Value) (N : Nat) (ls : List (List Int)) (hN : N ≤ 1000) (w : World) (hrl : RL .u8 w lv N ls) :
    Calls Tryz.prog 20 #[lv] w fun e w' => ∃ v, e = .returned v ∧ ∃ k, RL .u8 w' v k (fitF ls) ∧ k ≤ N ∧ Below w.heap.size w w' := by
  have hll := hrl.length
  obtain ⟨la, lc, rfl, _⟩ := hrl.form
  have HLL := Lib.hid hll
  have HRL := Lib.hid hrl
  have HEN : Hid (∀ w, RL .u8 w (.slice la N lc) N ls → Calls Tryz.prog 11 #[.slice la N lc] w fun e w' => ∃ pa pc, e = .returned (.tuple #[.slice pa N pc, .int .i64 (endF (fitF ls) : Nat)]) ∧ w'.ownsRow w.heap.size 3 1 (.slice pa N pc) N (il .i64 (placesW ls N)) ∧ Below w.heap.size w w') := Lib.hid fun w h => rends_any _ N ls hN w h
  generalize endF (fitF ls) = en at *
  clear hll hrl
  go_enter Tryz.func20, Tryz.ntmps20
  go_wp2_with (first
    | (go_at_call 11; (with_reducible refine (HEN.out _ HRL.out).mono ?_); rintro e w1 ⟨pa, pc, rfl, ho, hb⟩; have HP1 := Lib.hid ho; have HB1 := Lib.hid hb; clear ho hb))
  go_loopw [5, 6] (fun ov iv wr => ∃ (i k : Nat) (oa : Option Addr) (oc : Nat) (es : List Value), iv = .int .i64 (i : Int) ∧ ov = .slice oa k oc ∧ i ≤ N ∧ k ≤ i ∧ Hid (VL w wr w.heap.size (.slice oa k oc) k es (fitF (ls.take i))) ∧ Hid (wr.ownsRow w.heap.size 3 1 (.slice pa N pc) N (il .i64 (placesW ls N))) ∧ Hid (Below w.heap.size w wr)) (fun _ iv _ => N - (intOf iv).toNat)
  case atStart => exact ⟨0, 0, none, 0, [], rfl, rfl, by omega, by omega, Lib.hid (VL.nil _ _ _), HP1, HB1⟩
  case round =>
    obtain ⟨i, k, oa, oc, es, rfl, rfl, hi, hk, HV, HP, HB⟩ := hrel
    by_cases hlt : (i : Int) < (N : Int)
    · obtain ⟨b, off, rfl, hat⟩ := HRL.out.at_ (by omega)
      obtain ⟨x, c, hc, hr⟩ := hat i (by omega)
      obtain ⟨pb, po, rfl, hpc⟩ := (RI.own HP.out).at_ (by omega)
      have hp0 := hpc i (by omega)
      rw [placesW_get ls N i (by omega)] at hp0
      obtain ⟨zs, hzs⟩ : ∃ zs, ls.getD i [] = zs := ⟨_, rfl⟩
      rw [hzs] at hc hr
      obtain ⟨n, hn⟩ : ∃ n, zs.length = n := ⟨_, rfl⟩
      rw [hn] at hc hr
      have HFN := fitF_next ls i (by rw [HLL.out]; omega)
      rw [hzs] at HFN
      have hc2 := cell_keep HB.out hc
      have HR := Lib.hid hr
      cases hf : fitI (endF (fitF (ls.take i)) : Nat) (ls.getD i []).length with
      | true =>
        rw [placeW_yes hf] at hp0
        rw [hzs] at hf
        rw [fitS_yes hf] at HFN
        have HF1 := Lib.hid HFN
        obtain ⟨pl, hpl⟩ : ∃ pl, beginN (endF (fitF (ls.take i))) = pl := ⟨_, rfl⟩
        rw [hpl] at hp0
        have hp1 : (0 : Int) ≤ (pl : Int) := by omega
        clear hc hr hat hzs hn HFN hf hpl hpc
        go_wp2_with (first
          | (at_builtin; refine wpl_appv rfl (.tmp 23) (.tmp 28) 23 rfl 43 (.slice none 0 0) 24 Tryz.underlying23 Tryz.info_sl rfl w.heap.size _ k es rfl (HV.out.row.alloc _) _ 1 [.slice x n c] rfl (rv_one wr _) (by simp [Value.oneCell']) (by omega) (by omega) (by have := HB.out.size; simp; omega) ?_; intro v3 w3 HO3 HG3; obtain ⟨a3, c3, rfl⟩ := own_form HO3.out; have HV3 := Lib.hid (HV.out.snoc HR.out HO3.out); have HB3 : Hid (Below w.heap.size w w3) := Lib.hid ((HB.out.alloc HB.out.size _).grown HG3.out (by have := HB.out.size; simp; omega) (fun q hq => (HV.out.row.lt q hq).1)); have HP3 := Lib.hid (own_over (HP.out.alloc (.cells #[.slice x n c] 43)) HG3.out (own_types (HP.out.alloc (.cells #[.slice x n c] 43)) (HV.out.row.alloc (.cells #[.slice x n c] 43)) (by decide)))))
        go_roundw
        case rel => exact ⟨i + 1, k + 1, a3, c3, _, by go_num, rfl, by omega, by omega, Lib.hid (by rw [HF1.out]; exact HV3.out), HP3, HB3⟩
        case measure => simp [intOf]; omega
      | false =>
        rw [placeW_no hf] at hp0
        rw [hzs] at hf
        rw [fitS_no hf] at HFN
        have HF1 := Lib.hid HFN
        clear hc hr hat hzs hn HFN hf hpc
        go_wp2
        go_roundw
        case rel => exact ⟨i + 1, k, oa, oc, es, by go_num, rfl, by omega, by omega, Lib.hid (by rw [HF1.out]; exact HV.out), HP, HB⟩
        case measure => simp [intOf]; omega
    · obtain rfl : i = N := by omega
      have HTK : Hid (ls.take i = ls) := Lib.hid (List.take_of_length_le (by rw [HLL.out]; omega))
      rw [HTK.out] at HV
      go_wp2
      go_ret
      exact ⟨_, rfl, k, HV.out.rl HB.out, hk, HB.out⟩
end Go.Proofs.YtgegbpnmfpjdmaaGreatDoor
namespace Go.Proofs.YtgegbpnmfpjdmaaGreatDoor
open Go.RowKit
variable {DK : World → Addr → (Nat → Bool) → AD → Prop}
theorem WS.foot (H : DiskSays DK) {W0 w : World} {p : Addr} {b : Nat} {s : ByteArray} {ep : Int} {B : List Int} {en : Nat} {d : AD} {F : Nat → Bool} (h : WS DK W0 p b s ep B en d F w) : Foot (orB F b) w.heap.size := fun k hk => by
  have hb := h.bd
  by_cases e : k = b
  · omega
  · exact H.foot h.dk k (by simpa [orB, e] using hk)
theorem wl_step (H : DiskSays DK) {W0 : World} (hvt : VT W0) {p : Addr} {b : Nat} {ep : Int} (hep : U64 ep) {ls : List (List Int)} (hlb : ∀ l ∈ ls, isB l) {i : Nat} (hi : i < ls.length) {las : List Int} {ws : List Bool} {o : Int} (hg : Good (dW ep las (fitF (ls.take i)) ws o)) {n : Nat} (hn : (ls.getD i []).length = n) {F : Nat → Bool} :
    ∃ (fb : Bool) (at_ er : Int), fitI (endF (fitF (ls.take i)) : Nat) n = fb ∧ ((fb = true ∧ er = 0 ∧ ∃ q : Nat, at_ = q ∧ placeW ls i = q ∧ ¬ (q : Int) < 0 ∧ (0 : Int) ≤ q) ∨ (fb = false ∧ er = 6 ∧ at_ = 0 ∧ placeW ls i = -1 ∧ True ∧ True)) ∧
      Hid (∀ da dc w', WL DK W0 p b ep (fitF (ls.take i)) (dW ep las (fitF (ls.take i)) ws o) F w' → RI .u8 w' (.slice da n dc) n (ls.getD i []) → Calls Tryz.prog 15 #[wP b, .slice da n dc] w' fun e w'' => ∃ F', e = .returned (.tuple #[.int .i64 at_, .int .i64 er]) ∧
        (∃ ws' o', WL DK W0 p b ep (fitF (ls.take (i + 1))) (dW ep las (fitF (ls.take (i + 1))) ws' o') F' w'' ∧ Good (dW ep las (fitF (ls.take (i + 1))) ws' o')) ∧ Ext (orB F b) w' w'' (orB F' b)) := by
  have hnx := fitF_next ls i hi
  have hL : ∀ l ∈ fitF (ls.take i), isB l := fun l hl => hlb l (fitF_mem ls i (by omega) hl)
  have hzb : isB (ls.getD i []) := hlb _ (by simp [List.getD, hi])
  cases hf : fitI (endF (fitF (ls.take i)) : Nat) n with
  | true =>
    have hf1 : fitI (endF (fitF (ls.take i)) : Nat) (ls.getD i []).length = true := by rw [hn]; exact hf
    rw [fitS_yes hf1] at hnx
    refine ⟨true, _, 0, rfl, .inl ⟨rfl, rfl, beginN (endF (fitF (ls.take i))), rfl, placeW_yes hf1, by omega, by omega⟩, Lib.hid fun da dc w' hw hr => ?_⟩
    refine (wl_append H hep hL hg hzb hf hw (hvt.ext hw.ex).tab hr).mono ?_
    rintro e w'' ⟨F', he, hw', hx⟩
    have hg' := dW_good hg hzb hL hf1
    rw [← hnx] at hw' hg'
    exact ⟨F', he, ⟨_, _, hw', hg'⟩, hx⟩
  | false =>
    have hf1 : fitI (endF (fitF (ls.take i)) : Nat) (ls.getD i []).length = false := by rw [hn]; exact hf
    rw [fitS_no hf1] at hnx
    refine ⟨false, 0, 6, rfl, .inr ⟨rfl, rfl, rfl, placeW_no hf1, trivial, trivial⟩, Lib.hid fun da dc w' hw hr => ?_⟩
    refine (wappend_no H W0 p b wal1 ep _ _ (endF_le _) _ da n dc hf F w' hw).mono ?_
    rintro e w'' ⟨he, hb⟩
    have hw' := hw.next H hb
    have hg' := hg
    rw [← hnx] at hw' hg'
    exact ⟨F, he, ⟨_, _, hw', hg'⟩, (Ext.below hb).orB b⟩
theorem wl_sync (H : DiskSays DK) {W0 : World} {p : Addr} {b : Nat} {ep : Int} {ls : List (List Int)} {las : List Int} {ws : List Bool} {o : Int} (hg : Good (dW ep las ls ws o)) {F : Nat → Bool} :
    Hid (∀ w, WL DK W0 p b ep ls (dW ep las ls ws o) F w → Calls Tryz.prog 16 #[wP b] w fun e w' => ∃ F', e = .returned (.int .i64 0) ∧ WL DK W0 p b ep ls (dW ep (secH (hW 1 ep) ++ segW ep ls) ls fs17 (wrap64 (o + 1))) F' w' ∧ Ext (orB F b) w w' (orB F' b)) :=
  Lib.hid fun _ h => wsync_any H wal1_size hg dW_sync h
theorem wl_none (H : DiskSays DK) {p : Addr} {ep : Int} {ls : List (List Int)} {las : List Int} {o : Int} (hg : Good (dW ep las ls fs17 o)) :
    Hid (∀ w F, DK w p F (dW ep las ls fs17 o) → Calls Tryz.prog 17 #[ptr p] w fun e w' => e = .returned (.int .i64 0) ∧ Below w.heap.size w w') :=
  Lib.hid fun w F h => by
    have := H.waiting w p F _ h hg
    rwa [lone_waits, fs17_waits] at this
theorem wl_sectors {ep : Int} (hep : U64 ep) {ls : List (List Int)} (hlb : ∀ l ∈ ls, isB l) (hf : fitsF ls = true) :
    Hid (∀ v k w, k ≤ 1000 → RL .u8 w v k ls → Calls Tryz.prog 19 #[.int .u64 ep, v] w fun e w' => ∃ v', e = .returned (.tuple #[v', .bool true]) ∧ w'.ownsRow w.heap.size 60 64 v' 16 (il .u8 (segW ep ls)) ∧ Below w.heap.size w w') :=
  Lib.hid fun v k w hk h => (rsectors_own ep hep v k ls (by omega) hlb w h).mono fun e w' h => by
    rcases h with ⟨_, v', he, hs, hb⟩ | ⟨h, _⟩
    · exact ⟨v', he, hs, hb⟩
    · rw [hf] at h; cases h
theorem wl_seen (H : DiskSays DK) {p : Addr} {ep : Int} (hep : U64 ep) (h0 : ep ≠ 0) {ls : List (List Int)} {las : List Int} {ws : List Bool} {o : Int} (hg : Good (dW ep las ls ws o)) :
    Hid (∀ w F, DK w p F (dW ep las ls ws o) → VT w → Calls Tryz.prog 18 #[ptr p, .int .i64 1] w fun e w' => ∃ v, e = .returned (.tuple #[v, .int .i64 0]) ∧ FS w' v 16 (segW ep ls) ∧ Below w.heap.size w w') :=
  Lib.hid fun w F h hv => by
    obtain ⟨t1, t2⟩ := dW_tells (las := las) (ls := ls) (ws := ws) (o := o) hep h0
    refine (ssectors_any H w p F _ 1 h hg hv (by unfold I63; omega)).mono ?_
    rintro e w' ⟨v, rfl, h2, h3⟩
    rw [t1] at h2 ⊢
    rw [t2] at h2
    exact ⟨v, rfl, h2 rfl, h3⟩
end Go.Proofs.YtgegbpnmfpjdmaaGreatDoor
namespace Go.Proofs.YtgegbpnmfpjdmaaGreatDoor
open Go.RowKit
variable {DK : World → Addr → (Nat → Bool) → AD → Prop}
set_option maxRecDepth 8000 in
set_option maxHeartbeats 8000000 in
theorem writes_walk (H : DiskSays DK) (ep : Int) (hep : U64 ep) (lv : Value) (N : Nat) (ls : List (List Int)) (hlb : ∀ l ∈ ls, isB l) (sv : Value) (m : Nat) (bs : List Bool) (W : World) (hrl : RL .u8 W lv N ls) (hsv : BS W sv m bs) (hvt : VT W) :
    Calls Tryz.prog 3 #[.int .u64 ep, lv, sv] W fun e w' => e = .returned (.bool true) ∧ Below W.heap.size W w' := by
  have hH := Lib.hid H
  have HV := Lib.hid hvt
  obtain ⟨la, lc, rfl, _⟩ := hrl.form
  have hll := hrl.length
  have HLL := Lib.hid hll
  have HRL := Lib.hid hrl
  obtain ⟨sa, sc, rfl, hsm, hsc, hsn⟩ : ∃ a c, sv = .slice a m c ∧ m ≤ c ∧ c ≤ 9223372036854775807 ∧ True := by
    obtain ⟨a, c, rfl, _, h1, h2, _⟩ := id hsv; exact ⟨a, c, rfl, h1, h2, trivial⟩
  have HSV := Lib.hid hsv
  have HAW : Hid (∀ w, Below W.heap.size W w → Calls Tryz.prog 6 #[] w fun e w' => e = .returned (.bool true) ∧ Below w.heap.size w w') := Lib.hid fun w hb => wawake_any H w (hvt.on hb)
  by_cases hno : (60 : Int) < (N : Int) ∨ ep = 0
  · clear hrl hlb hsv hvt hll
    by_cases h60 : (60 : Int) < (N : Int)
    · go_enter Tryz.func3, Tryz.ntmps3
      go_wp2_with (first
        | (go_at_call 6; (with_reducible refine (HAW.out _ (Below.refl _ _)).mono ?_); rintro e w1 ⟨rfl, hb⟩; have HB1 := Lib.hid hb; clear hb))
      go_ret
      exact ⟨rfl, HB1.out⟩
    · obtain rfl := hno.resolve_left h60
      go_enter Tryz.func3, Tryz.ntmps3
      go_wp2_with (first
        | (go_at_call 6; (with_reducible refine (HAW.out _ (Below.refl _ _)).mono ?_); rintro e w1 ⟨rfl, hb⟩; have HB1 := Lib.hid hb; clear hb))
      go_ret
      exact ⟨rfl, HB1.out⟩
  have h60 : ¬ (60 : Int) < (N : Int) := fun h => hno (.inl h)
  have h0 : ep ≠ 0 := fun h => hno (.inr h)
  have b0 : (ep == 0) = false := by simpa using h0
  have HN : Hid (N ≤ 60) := Lib.hid (by omega)
  have H0 := Lib.hid h0
  have HEP := Lib.hid hep
  have HLB := Lib.hid hlb
  have H1 : Hid (∀ w, Calls Tryz.prog 7 #[.int .i64 17] w fun e w' => ∃ p F, e = .returned (ptr p) ∧ DK w' p F (AD.newD 17) ∧ Ext noF w w' F) := Lib.hid fun w => H.new 17 w (by unfold I63; omega)
  have H2 := wl_begin H W hvt hep h0
  have H3 := wl_new H W hvt hep (dW ep (secH (hW 1 ep) ++ segW ep []) [] fs17 4)
  have HG0 := Lib.hid (good_begin hep h0)
  have HEN : Hid (∀ w, Below W.heap.size W w → Calls Tryz.prog 11 #[.slice la N lc] w fun e w' => ∃ pa pc, e = .returned (.tuple #[.slice pa N pc, .int .i64 (endF (fitF ls) : Nat)]) ∧ w'.ownsRow w.heap.size 3 1 (.slice pa N pc) N (il .i64 (placesW ls N)) ∧ Below w.heap.size w w') := Lib.hid fun w hb => rends_any _ N ls (by omega) w (hrl.keep hb)
  have HFI : Hid (∀ w, Below W.heap.size W w → Calls Tryz.prog 20 #[.slice la N lc] w fun e w' => ∃ v, e = .returned v ∧ ∃ k, RL .u8 w' v k (fitF ls) ∧ k ≤ N ∧ Below w.heap.size w w') := Lib.hid fun w hb => rfit_any _ N ls (by omega) w (hrl.keep hb)
  have HCT : Hid (∀ (a n : Nat) (w : World), a ≤ 832 → (n : Int) ≤ 9223372036854775807 → Calls Tryz.prog 12 #[.int .i64 (a : Nat), .int .i64 (n : Nat)] w fun e w' => ∃ v, e = .returned (.tuple #[v, .int .i64 (endI (a : Nat) (n : Nat) : Nat), .bool (fitI (a : Nat) (n : Nat))]) ∧ Below w.heap.size w w') := Lib.hid fun a n w h1 h2 =>
    (rcut_any (a : Nat) (n : Nat) (by unfold I63; omega) (by unfold I63; omega) w).mono fun e w' ⟨v, he, _, hb⟩ => ⟨v, he, hb⟩
  clear hrl hlb hsv hvt hll hep hno h0
  go_enter Tryz.func3, Tryz.ntmps3
  go_wp2_with (first
    | (go_at_call 7; (with_reducible refine (H1.out _).mono ?_); rintro e w1 ⟨p, F1, rfl, k1, x1⟩; have K1 := Lib.hid k1; have X1 := Lib.hid x1; clear k1 x1)
    | (go_at_call 8; (with_reducible refine (rheader_any 1 ep _).mono ?_); rintro e w2 ⟨rfl, hb⟩; have K2 := Lib.hid (hH.out.below K1.out hb); have X2 := Lib.hid (X1.out.trans (Ext.below hb)); clear hb)
    | (refine wpl_store_newH rfl _ _ rfl rfl w2.heap.size rfl (hW 1 ep) rfl rfl rfl ?_; intro w3 HA3 HB3; have K3 := Lib.hid (hH.out.below K2.out HB3.out); have X3 := Lib.hid (X2.out.trans (Ext.below HB3.out)))
    | (refine wpl_load_hd (by rfl) (.tmp 8) rfl rfl (show HB w3 w2.heap.size (hW 1 ep) from HA3.out) ?_)
    | (go_at_call 9; (with_reducible refine (H2.out _ _ _ K3.out X3.out).mono ?_); rintro e w4 ⟨F4, rfl, k4, x4⟩; have K4 := Lib.hid k4; have X4 := Lib.hid (X3.out.trans x4); have HA4 := Lib.hid (show HB w4 w2.heap.size (hW 1 ep) from ⟨(x4.block _ HA3.out.lt (foot_off (hH.out.foot K2.out) (Nat.le_refl _))).trans HA3.out.1, HA3.out.2⟩); clear k4 x4)
    | (refine wpl_load_hd (by rfl) (.tmp 8) rfl rfl HA4.out ?_)
    | (go_at_call 10; (with_reducible refine (H3.out _ _ _ K4.out X4.out).mono ?_); rintro e w5 ⟨b, rfl, hw, _, _⟩; have S5 := Lib.hid hw; clear hw)
    | (go_at_call 11; (with_reducible refine (HEN.out _ S5.out.ex.bel).mono ?_); rintro e w6 ⟨pa, pc, rfl, ho, hb⟩; have S6 := Lib.hid (S5.out.next hH.out hb); have P6 := Lib.hid (RI.own (own_mask (S5.out.foot hH.out) ho)); clear ho hb))
  go_loopw [12] (fun iv wr => ∃ (i : Nat) (F : Nat → Bool) (las : List Int) (ws : List Bool) (o : Int), iv = .int .i64 (i : Int) ∧ i ≤ N ∧ Hid (WL DK W p b ep (fitF (ls.take i)) (dW ep las (fitF (ls.take i)) ws o) F wr) ∧ Hid (Good (dW ep las (fitF (ls.take i)) ws o)) ∧ Hid (RI .i64 (mask (orB F b) wr) (.slice pa N pc) N (placesW ls N))) (fun iv _ => N - (intOf iv).toNat)
  case atStart => exact ⟨0, _, _, _, _, rfl, by omega, Lib.hid (by rw [List.take_zero]; exact S6.out), HG0, P6⟩
  case round =>
    obtain ⟨i, F, las, ws, o, rfl, hi, HS, HG, HP⟩ := hrel
    by_cases hlt : (i : Int) < (N : Int)
    · obtain ⟨lb, lo, rfl, hat⟩ := HRL.out.at_ (by omega)
      obtain ⟨x, c, hc, hr⟩ := hat i (by omega)
      obtain ⟨n, hn⟩ : ∃ n, (ls.getD i []).length = n := ⟨_, rfl⟩
      rw [hn] at hc hr
      have hnl : (n : Int) ≤ 9223372036854775807 := by have := hr.le; omega
      obtain ⟨fb, at_, er, hfb, hcase, HAP⟩ := wl_step H HV.out (p := p) (b := b) HEP.out HLB.out (i := i) (by rw [HLL.out]; omega) HG.out hn (F := F)
      obtain ⟨en, hen⟩ : ∃ en, endF (fitF (ls.take i)) = en := ⟨_, rfl⟩
      have HEE : Hid (endF (fitF (ls.take i)) = en) := Lib.hid hen
      have hen8 : en ≤ 832 := by rw [← hen]; exact endF_le _
      rw [hen] at hfb
      have HC2 := HCT.out en n
      rw [hfb] at HC2
      have HC2 := Lib.hid HC2
      have HFB := Lib.hid hfb
      have HEND : Hid (∀ w F' d B, WS DK W p b wal1 ep B (endF (fitF (ls.take i))) d F' w → Calls Tryz.prog 13 #[wP b] w fun e w' => e = .returned (.int .i64 (en : Nat)) ∧ w = w') := Lib.hid fun w F' d B h => by rw [← hen]; exact wend_any h
      have HFTS : Hid (∀ w F' d B, WS DK W p b wal1 ep B (endF (fitF (ls.take i))) d F' w → Calls Tryz.prog 14 #[wP b, .int .i64 (n : Nat)] w fun e w' => e = .returned (.bool fb) ∧ Below w.heap.size w w') := Lib.hid fun w F' d B h => by
        have := wfits_any (endF_le _) (n : Nat) h
        rwa [hen, hfb] at this
      have HBW := Lib.hid HS.out.ex.bel
      have HR := Lib.hid hr
      have HC := Lib.hid hc
      have hcd := cell_keep (Below.refl _ _).drew (cell_keep HBW.out hc)
      have HPC : Hid (∀ w F', RI .i64 (mask (orB F' b) w) (.slice pa N pc) N (placesW ls N) → ∃ pb po, pa = some ⟨pb, po, none⟩ ∧ w.cell? ⟨pb, po + i, none⟩ = some (.int .i64 (placeW ls i))) := Lib.hid fun w F' h => by
        obtain ⟨pb, po, rfl, hpc⟩ := (RI.kin (unmask _ _) h).at_ (by omega)
        have := hpc i (by omega)
        rw [placesW_get ls N i (by omega)] at this
        exact ⟨pb, po, rfl, this⟩
      obtain ⟨pb, po, rfl, -⟩ := HPC.out _ _ HP.out
      have HPC2 : Hid (∀ w F', RI .i64 (mask (orB F' b) w) (.slice (some ⟨pb, po, none⟩) N pc) N (placesW ls N) → w.cell? ⟨pb, po + i, none⟩ = some (.int .i64 (placeW ls i))) := Lib.hid fun w F' h => by
        obtain ⟨b2, o2, e, h2⟩ := HPC.out w F' h
        simp only [Option.some.injEq, Addr.mk.injEq, and_true] at e
        obtain ⟨rfl, rfl⟩ := e
        exact h2
      clear HPC hc hr hat hfb hen hn
      rcases hcase with ⟨rfl, rfl, q, rfl, hq, hq0, hq1⟩ | ⟨rfl, rfl, rfl, hq, hq0, hq1⟩
      all_goals
        rw [hq] at HPC2
        clear hq
        go_wp2_with fail
        refine wp_region_held_drew (S := (fun w' => Below wr.heap.size wr w' ∧ w'.cell? ⟨lb, lo + i, none⟩ = some (.slice x n c))) (by kernel_rfl) ⟨(Below.refl _ _).drew, hcd⟩ (fun hS => ?_)
        refine rgw 0 ⟨some 52, .move (.tmp 9), 34, _, _, none⟩ hS ?_
        refine rgw 2 ⟨some 54, .move (.tmp 1), 23, _, _, none⟩ hS ?_
        refine rgw 3 ⟨some 55, .move (.tmp 12), 3, _, _, none⟩ hS ?_
        refine rgw 4 ⟨some 56, .indexAddr 23 (.tmp 54) (.tmp 55), 0, _, _, none⟩ hS ?_
        refine rgw 5 ⟨some 57, .load 43 (.tmp 56), 43, _, _, none⟩ hS ?_
        refine rgw 6 ⟨some 58, .call { callee := .builtin Builtin.len, args := #[.tmp 57], argTypes := #[43] }, 3, _, _, none⟩ hS ?_
        refine rg_one 1 ⟨some 53, .call { callee := .value (.func 13), args := #[.tmp 52], argTypes := #[34] }, 3, _, _, none⟩ (by kernel_rfl) rfl (fun K hK => ?_)
        go_simp
        (go_at_call 13; (with_reducible refine (HEND.out _ _ _ _ (HS.out.next hH.out hS.1)).mono ?_); rintro e w2 ⟨rfl, rfl⟩; have hN := hS)
        refine hK.out _ _ ?_ (fun hS1 => ?_)
        · (exact hN)
        clear hK K hS; have hS := hS1; clear hS1
        (try simp only [rgp])
        refine rg_one 7 ⟨some 59, .call { callee := .value (.func 12), args := #[.tmp 53, .tmp 58], argTypes := #[3, 3] }, 40, _, _, none⟩ (by kernel_rfl) rfl (fun K hK => ?_)
        go_simp
        (go_at_call 12; (with_reducible refine (HC2.out _ hen8 hnl).mono ?_); rintro e w3 ⟨v3, rfl, hb⟩; have hN := (⟨bch hS.1 hb, cell_keep hb hS.2⟩ : Below wr.heap.size wr w3 ∧ w3.cell? ⟨lb, lo + i, none⟩ = some (.slice x n c)); have S3 := Lib.hid (HS.out.next hH.out hN.1); have P3 := Lib.hid (HP.out.kin (kin_mask hN.1)); have hc3 := hN.2; clear hb)
        refine hK.out _ _ ?_ (fun hS1 => ?_)
        · (exact hN)
        clear hK K hS; have hS := hS1; clear hS1
        (try simp only [rgp])
        refine rgw 8 ⟨some 51, .move (.tmp 59), 40, _, _, none⟩ hS ?_
        refine rgw 9 ⟨some 60, .extract (.tmp 51) 0, 39, _, _, none⟩ hS ?_
        refine rgw 10 ⟨some 61, .extract (.tmp 51) 1, 3, _, _, none⟩ hS ?_
        refine rgw 11 ⟨some 62, .extract (.tmp 51) 2, 4, _, _, none⟩ hS ?_
        refine rgw 12 ⟨some 13, .assign (.tmp 60), 39, _, _, none⟩ hS ?_
        refine rgw 13 ⟨some 14, .assign (.tmp 61), 3, _, _, none⟩ hS ?_
        refine rgw 14 ⟨some 15, .assign (.tmp 62), 4, _, _, none⟩ hS ?_
        refine wpAnyH_done (by kernel_rfl) ?_ _
        by_cases hsm : (i : Int) < (m : Int)
        · obtain ⟨sb, so, rfl, hsc⟩ := HSV.out.at_ i (by omega)
          cases hsb : bs.getD i false with
          | true =>
            rw [hsb] at hsc
            go_wp2_with (first
              | (go_at_call 14; (with_reducible refine (HFTS.out _ _ _ _ S3.out).mono ?_); rintro e w4 ⟨rfl, hb⟩; have S4 := Lib.hid (S3.out.next hH.out hb); have P4 := Lib.hid (P3.out.kin (kin_mask hb)); have hc4 := cell_keep hb hc3; clear hb)
              | (go_at_call 15; (with_reducible refine (HAP.out _ _ _ S4.out (HR.out.keep S4.out.ex.bel)).mono ?_); rintro e w5 ⟨F5, rfl, ⟨ws5, o5, hw, hg⟩, hx⟩; have S5' := Lib.hid hw; have G5 := Lib.hid hg; have P5 := Lib.hid (P4.out.kin hx.kin); have hp5 := HPC2.out _ _ P5.out; have hs5 := cell_keep hw.ex.bel hsc; have HSY := wl_sync hH.out hg (W0 := W) (p := p) (b := b) (F := F5); clear hw hg hx)
              | (go_at_call 16; (with_reducible refine (HSY.out _ S5'.out).mono ?_); rintro e w6 ⟨F6, rfl, hw, hx⟩; have S6' := Lib.hid hw; have G6 := Lib.hid (dW_good_sync G5.out); have P6' := Lib.hid (P5.out.kin hx.kin); have HWT := wl_none hH.out G6.out (p := p); clear hw hx)
              | (go_at_call 17; (with_reducible refine (HWT.out _ _ S6'.out.dk).mono ?_); rintro e w7 ⟨rfl, hb⟩; have S7 := Lib.hid (S6'.out.next hH.out hb); have P7 := Lib.hid (P6'.out.kin (kin_mask hb)); clear hb))
            go_roundw
            case rel => exact ⟨i + 1, F6, _, _, _, by go_num, by omega, S7, G6, P7⟩
            case measure => simp [intOf]; omega
          | false =>
            rw [hsb] at hsc
            go_wp2_with (first
              | (go_at_call 14; (with_reducible refine (HFTS.out _ _ _ _ S3.out).mono ?_); rintro e w4 ⟨rfl, hb⟩; have S4 := Lib.hid (S3.out.next hH.out hb); have P4 := Lib.hid (P3.out.kin (kin_mask hb)); have hc4 := cell_keep hb hc3; clear hb)
              | (go_at_call 15; (with_reducible refine (HAP.out _ _ _ S4.out (HR.out.keep S4.out.ex.bel)).mono ?_); rintro e w5 ⟨F5, rfl, ⟨ws5, o5, hw, hg⟩, hx⟩; have S5' := Lib.hid hw; have G5 := Lib.hid hg; have P5 := Lib.hid (P4.out.kin hx.kin); have hp5 := HPC2.out _ _ P5.out; have hs5 := cell_keep hw.ex.bel hsc; clear hw hg hx))
            go_roundw
            case rel => exact ⟨i + 1, F5, _, _, _, by go_num, by omega, S5', G5, P5⟩
            case measure => simp [intOf]; omega
        · skip
          go_wp2_with (first
            | (go_at_call 14; (with_reducible refine (HFTS.out _ _ _ _ S3.out).mono ?_); rintro e w4 ⟨rfl, hb⟩; have S4 := Lib.hid (S3.out.next hH.out hb); have P4 := Lib.hid (P3.out.kin (kin_mask hb)); have hc4 := cell_keep hb hc3; clear hb)
            | (go_at_call 15; (with_reducible refine (HAP.out _ _ _ S4.out (HR.out.keep S4.out.ex.bel)).mono ?_); rintro e w5 ⟨F5, rfl, ⟨ws5, o5, hw, hg⟩, hx⟩; have S5' := Lib.hid hw; have G5 := Lib.hid hg; have P5 := Lib.hid (P4.out.kin hx.kin); have hp5 := HPC2.out _ _ P5.out; clear hw hg hx))
          go_roundw
          case rel => exact ⟨i + 1, F5, _, _, _, by go_num, by omega, S5', G5, P5⟩
          case measure => simp [intOf]; omega
    · obtain rfl : i = N := by omega
      have HTK : Hid (ls.take i = ls) := Lib.hid (List.take_of_length_le (by rw [HLL.out]; omega))
      rw [HTK.out] at HS HG
      have HLF : Hid (∀ l ∈ fitF ls, isB l) := Lib.hid fun l hl => HLB.out l (fitF_mem ls i (by rw [HLL.out]; omega) (by rw [HTK.out]; exact hl))
      have HFF : Hid (fitsF (fitF ls) = true) := Lib.hid (by have := fitF_fits ls i (by rw [HLL.out]; omega); rwa [HTK.out] at this)
      have HSN := wl_seen hH.out HEP.out H0.out HG.out (p := p)
      have HSR := wl_sectors HEP.out HLF.out HFF.out
      have HEND : Hid (∀ w F' d B, WS DK W p b wal1 ep B (endF (fitF ls)) d F' w → Calls Tryz.prog 13 #[wP b] w fun e w' => e = .returned (.int .i64 (endF (fitF ls) : Nat)) ∧ w = w') := Lib.hid fun w F' d B h => wend_any h
      go_wp2_with (first
        | (go_at_call 18; (with_reducible refine (HSN.out _ _ HS.out.dk (HV.out.ext HS.out.ex)).mono ?_); rintro e w7 ⟨v7, rfl, hf, hb⟩; have S7 := Lib.hid (HS.out.next hH.out hb); have F7 := Lib.hid hf; clear hf hb)
        | (go_at_call 20; (with_reducible refine (HFI.out _ S7.out.ex.bel).mono ?_); rintro e w8 ⟨v8, rfl, k8, hr, hk, hb⟩; have S8 := Lib.hid (S7.out.next hH.out hb); have F8 := Lib.hid (F7.out.keep hb); have R8 := Lib.hid hr; have K8 : Hid (k8 ≤ 1000) := Lib.hid (by have := HN.out; omega); clear hr hk hb)
        | (go_at_call 19; (with_reducible refine (HSR.out _ _ _ K8.out R8.out).mono ?_); rintro e w9 ⟨v9, rfl, hf, hb⟩; have S9 := Lib.hid (S8.out.next hH.out hb); have F9 := Lib.hid (F8.out.keep hb); have Q9 := Lib.hid (FS.own hf); clear hf hb)
        | (go_at_call 13; (with_reducible refine (HEND.out _ _ _ _ S9.out).mono ?_); rintro e w' ⟨rfl, rfl⟩)
        | (go_at_call 21; (with_reducible refine (same_true _ _ 16 _ _ F9.out Q9.out).mono ?_); rintro e wA ⟨rfl, hb⟩; have SA := Lib.hid (S9.out.next hH.out hb); clear hb)
        | (go_at_call 6; (with_reducible refine (HAW.out _ SA.out.ex.bel).mono ?_); rintro e wB ⟨rfl, hb⟩; have SB := Lib.hid (SA.out.next hH.out hb); clear hb))
      go_ret
      exact ⟨rfl, SB.out.ex.bel⟩
end Go.Proofs.YtgegbpnmfpjdmaaGreatDoor
