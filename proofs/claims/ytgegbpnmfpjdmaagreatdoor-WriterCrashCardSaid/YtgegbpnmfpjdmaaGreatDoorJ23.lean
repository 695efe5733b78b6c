/-
  TEXTS JOINED: WrLaw, WrAwake, WrFit, WrStep, WrCrP, WrCrash. Each one's own words stand at its head.
-/
import Derived.Test.YtgegbpnmfpjdmaaGreatDoorJ21
import Derived.Test.YtgegbpnmfpjdmaaGreatDoorJ24
namespace Go.Proofs.YtgegbpnmfpjdmaaGreatDoor
open Go.RowKit
variable {DK : World → Addr → (Nat → Bool) → AD → Prop}
abbrev wal1 : ByteArray := ⟨#[119, 97, 108, 45, 49]⟩
theorem wal1_eq : walB 1 = wal1 := wal_lits.1
theorem wal1_size : wal1.size ≤ 281474976710656 := by decide
theorem wal1_ne : wal1 ≠ noS := by decide
theorem hW_typed {ep : Int} (h : U64 ep) : HdT (hW 1 ep) := ⟨h, by unfold I63 hW; simp, by unfold I63 hW; simp, rfl, fun x hx => by
  simp only [hW, List.mem_cons, List.not_mem_nil, or_false] at hx
  unfold I63
  omega⟩
theorem hW_ok {ep : Int} (h0 : ep ≠ 0) : hdOk (hW 1 ep) = true := hdOk_of h0 (show lsn 1 = true by decide) (show lsn 1 = true by decide) fun x hx => by
  simp only [hW, List.mem_cons, List.not_mem_nil, or_false] at hx
  show 0 ≤ x ∧ x < 1
  omega
noncomputable abbrev dW (ep : Int) (las : List Int) (ls : List (List Int)) (ws : List Bool) (o : Int) : AD := lone wal1 las (secH (hW 1 ep) ++ segW ep ls) ws o
theorem begin_dW {ep : Int} (h : U64 ep) (h0 : ep ≠ 0) : (AD.newD 17).beginR (hW 1 ep) = (dW ep (secH (hW 1 ep) ++ segW ep []) [] fs17 4, 0) := by
  have h1 := lone_begin (hW_typed h) (hW_ok h0)
  rw [show (hW 1 ep).s = 1 from rfl, wal1_eq] at h1
  rw [h1]
  have h2 : layL (hW 1 ep) 0 [] = secH (hW 1 ep) ++ segW ep [] := by rw [segW_nil]; unfold layL; rw [List.append_nil]
  rw [h2]
abbrev WL (DK : World → Addr → (Nat → Bool) → AD → Prop) (W0 : World) (p : Addr) (b : Nat) (ep : Int) (ls : List (List Int)) (d : AD) (F : Nat → Bool) (w : World) : Prop := WS DK W0 p b wal1 ep (bodyF (ep % 4294967296) ls) (endF ls) d F w
section
variable {ep : Int} {las : List Int} {ls : List (List Int)} {ws : List Bool} {o : Int} {z : List Int}
theorem dW_write (hfit : fitI (endF ls : Nat) z.length = true) :
    (dW ep las ls ws o).writeR wal1 ((1 + endF ls / 52 : Nat) : Int) ((endF (ls ++ [z]) - 1) / 52 + 1 - endF ls / 52) (writeB ep (bodyF (ep % 4294967296) (ls ++ [z])) (endF ls / 52) ((endF (ls ++ [z]) - 1) / 52 + 1 - endF ls / 52)) =
      (dW ep las (ls ++ [z]) (ws.take (1 + endF ls / 52) ++ List.replicate ((endF (ls ++ [z]) - 1) / 52 + 1 - endF ls / 52) true ++ ws.drop (1 + endF ls / 52 + ((endF (ls ++ [z]) - 1) / 52 + 1 - endF ls / 52))) (wrap64 (o + 1)), 0) := by
  have hgt := end_gt hfit
  rw [nr_nat _ (endF_le ls), ← endF_snoc] at hgt
  have hpre : (bodyF (ep % 4294967296) (ls ++ [z])).take (endF ls) = (bodyF (ep % 4294967296) ls).take (endF ls) := by
    have h := layR_take (ep := ep % 4294967296) (zs := z) (x := ((endF ls : Nat) : Int)) (bodyF_len (ep % 4294967296) ls)
    rw [nr_nat _ (endF_le ls)] at h
    rw [bodyF_snoc]; exact h
  have hs := whole_step_h ep (H := secH (hW 1 ep)) (B := bodyF (ep % 4294967296) ls) (B' := bodyF (ep % 4294967296) (ls ++ [z])) (secH_length (h := hW 1 ep) rfl) hgt.1 hgt.2 hpre (endF ls / 52) ((endF (ls ++ [z]) - 1) / 52 + 1 - endF ls / 52) rfl (by omega)
  rw [lone_write _ _ (by omega)]
  show (lone wal1 las _ _ _, (0 : Int)) = (lone wal1 las _ _ _, (0 : Int))
  unfold segW
  rw [hs]
theorem dW_good (hg : Good (dW ep las ls ws o)) (hep : isB z) (hb : ∀ l ∈ ls, isB l) (hfit : fitI (endF ls : Nat) z.length = true) :
    Good (dW ep las (ls ++ [z]) (ws.take (1 + endF ls / 52) ++ List.replicate ((endF (ls ++ [z]) - 1) / 52 + 1 - endF ls / 52) true ++ ws.drop (1 + endF ls / 52 + ((endF (ls ++ [z]) - 1) / 52 + 1 - endF ls / 52))) (wrap64 (o + 1))) := by
  have h := hg.write wal1 ((1 + endF ls / 52 : Nat) : Int) ((endF (ls ++ [z]) - 1) / 52 + 1 - endF ls / 52) (writeB ep (bodyF (ep % 4294967296) (ls ++ [z])) (endF ls / 52) ((endF (ls ++ [z]) - 1) / 52 + 1 - endF ls / 52)) (writeB_length _ _ _ _) (writeB_bytes ep (isB_bytes (by
    have := bodyF_bytes (ep := ep % 4294967296) (ls ++ [z]) (fun l hl => by
      rcases List.mem_append.1 hl with h | h
      · exact hb l h
      · rw [List.mem_singleton.1 h]; exact hep) (ls ++ [z]).length (Nat.le_refl _)
    rwa [List.take_length] at this)) _ _)
  rwa [dW_write hfit] at h
theorem dW_sync : (dW ep las ls ws o).syncR wal1 = (dW ep (secH (hW 1 ep) ++ segW ep ls) ls fs17 (wrap64 (o + 1)), 0) := lone_sync
theorem dW_good_sync (hg : Good (dW ep las ls ws o)) : Good (dW ep (secH (hW 1 ep) ++ segW ep ls) ls fs17 (wrap64 (o + 1))) := by
  have h := hg.sync wal1
  rwa [dW_sync] at h
end
theorem wl_append (H : DiskSays DK) {W0 : World} {p : Addr} {b : Nat} {ep : Int} (hep : U64 ep) {las : List Int} {ls : List (List Int)} (hlb : ∀ l ∈ ls, isB l) {ws : List Bool} {o : Int} (hg : Good (dW ep las ls ws o)) {dv : Value} {n : Nat} {z : List Int} (hzb : isB z)
    (hfit : fitI (endF ls : Nat) n = true) {F : Nat → Bool} {w : World} (h : WL DK W0 p b ep ls (dW ep las ls ws o) F w) (ht : Tab w) (hri : RI .u8 w dv n z) :
    Calls Tryz.prog 15 #[wP b, dv] w fun e w' => ∃ F', e = .returned (.tuple #[.int .i64 (beginN (endF ls) : Nat), .int .i64 0]) ∧
      WL DK W0 p b ep (ls ++ [z]) (dW ep las (ls ++ [z]) (ws.take (1 + endF ls / 52) ++ List.replicate ((endF (ls ++ [z]) - 1) / 52 + 1 - endF ls / 52) true ++ ws.drop (1 + endF ls / 52 + ((endF (ls ++ [z]) - 1) / 52 + 1 - endF ls / 52))) (wrap64 (o + 1))) F' w' ∧ Ext (orB F b) w w' (orB F' b) := by
  have hn := hri.length
  subst hn
  have hbb : isB (bodyF (ep % 4294967296) ls) := by
    have := bodyF_bytes (ep := ep % 4294967296) ls hlb ls.length (Nat.le_refl _)
    rwa [List.take_length] at this
  exact wappend_yes H W0 p b wal1 wal1_size ep hep (bodyF (ep % 4294967296) ls) (bodyF_len _ _) (isB_bytes hbb) (endF ls) (endF_le ls) _ _ hg dv z.length z hzb hfit (endF (ls ++ [z])) (endF_snoc ls z).symm (bodyF (ep % 4294967296) (ls ++ [z])) (bodyF_snoc _ ls z).symm (dW_write hfit) F w h ht hri
end Go.Proofs.YtgegbpnmfpjdmaaGreatDoor
namespace Go.Proofs.YtgegbpnmfpjdmaaGreatDoor
open Go.RowKit
variable {DK : World → Addr → (Nat → Bool) → AD → Prop}
theorem end_here {x : Int} {n : Nat} (hb : beginN (nr x) ≠ 832) (hn : n ≤ leftN (beginN (nr x)) - 11) : fitI x n = true ∧ endI x n = beginN (nr x) + 11 + n := by
  have h0 : Run (nr x) n 0 := Run.zero (nr_le x)
  have h1 := h0.next (.inl rfl) hb
  have hf : fS (nr x) n (0 + 1) = n := by
    rw [fS_next, fS_zero]
    show 0 + min (n - 0) (leftN (beginN (nr x)) - 11) = n
    omega
  obtain ⟨hfit, hc⟩ := h1.end_ (nr_le x) (by omega) hf
  have hcut := cuts_cnt (nr_le x) hfit
  rw [hc] at hcut
  obtain ⟨q1, _, q3⟩ := told_yes hcut hfit
  refine ⟨q1, q3.trans ?_⟩
  rw [pS_next, fS_zero]
  show beginN (nr x) + 11 + min (n - 0) (leftN (beginN (nr x)) - 11) = _
  omega
def w10 : List Int := List.replicate 10 0
theorem w10_len : w10.length = 10 := List.length_replicate
theorem w10_b : isB w10 := fun x hx => by have := List.eq_of_mem_replicate hx; omega
theorem w10_one : fitI (endF [] : Nat) (10 : Nat) = true ∧ endF [w10] = 21 := by
  have h := end_here (x := ((0 : Nat) : Int)) (n := 10) (by decide) (by decide)
  refine ⟨h.1, ?_⟩
  have e := endF_snoc [] w10
  rw [List.nil_append, endF_nil, w10_len] at e
  rw [e]
  exact h.2
theorem w10_two : fitI (endF [w10] : Nat) (10 : Nat) = true ∧ endF [w10, w10] = 42 := by
  have h := end_here (x := ((21 : Nat) : Int)) (n := 10) (by decide) (by decide)
  rw [w10_one.2]
  refine ⟨h.1, ?_⟩
  have e := endF_snoc [w10] w10
  rw [show [w10] ++ [w10] = [w10, w10] from rfl, w10_one.2, w10_len] at e
  rw [e]
  exact h.2
theorem good_begin {ep : Int} (h : U64 ep) (h0 : ep ≠ 0) : Good (dW ep (secH (hW 1 ep) ++ segW ep []) [] fs17 4) := by
  have := (Good.new 17 (by unfold I63; omega)).begin (hW_typed h)
  rwa [begin_dW h h0] at this
section
variable {w : World}
theorem wl_begin (H : DiskSays DK) (W0 : World) (hvt : VT W0) {ep : Int} (h : U64 ep) (h0 : ep ≠ 0) : Hid (∀ w p F, DK w p F (AD.newD 17) → Ext noF W0 w F → Calls Tryz.prog 9 #[ptr p, .agg (hv (hW 1 ep))] w fun e w' => ∃ F', e = .returned (.int .i64 0) ∧ DK w' p F' (dW ep (secH (hW 1 ep) ++ segW ep []) [] fs17 4) ∧ Ext F w w' F') := Lib.hid fun w p F q1 q2 => by
  have := sbegin_any H W0 w p F _ (hW 1 ep) q1 (Good.new 17 (by unfold I63; omega)) hvt q2 (hW_typed h)
  rwa [begin_dW h h0] at this
theorem wl_new (H : DiskSays DK) (W0 : World) (hvt : VT W0) {ep : Int} (h : U64 ep) (d : AD) : Hid (∀ w p F, DK w p F d → Ext noF W0 w F → Calls Tryz.prog 10 #[ptr p, .agg (hv (hW 1 ep)), .slice none 0 0, .int .i64 0] w fun e w' => ∃ b, e = .returned (wP b) ∧ WL DK W0 p b ep [] d F w' ∧ w.heap.size ≤ b ∧ Below w.heap.size w w') := Lib.hid fun w p F q1 q2 => by
  have := wnew_yes H W0 w p F d (hW 1 ep) (hW_typed h) wal1 wal1_eq wal1_ne (.slice none 0 0) 0 [] (RI.nil _ _) 0 (hvt.ext q2).vars q1 q2
  exact this
end
set_option maxRecDepth 8000 in
set_option maxHeartbeats 2000000 in
theorem wawake_any (H : DiskSays DK) (w : World) (hvt : VT w) :
    Calls Tryz.prog 6 #[] w fun e w' => e = .returned (.bool true) ∧ Below w.heap.size w w' := by
  have hH := Lib.hid H
  have HV := Lib.hid hvt
  have hu : U64 5 := by unfold U64; omega
  have H1 : Hid (∀ w, Calls Tryz.prog 7 #[.int .i64 17] w fun e w' => ∃ p F, e = .returned (ptr p) ∧ DK w' p F (AD.newD 17) ∧ Ext noF w w' F) := Lib.hid fun w => H.new 17 w (by unfold I63; omega)
  have H2 := wl_begin H w hvt (ep := 5) hu (by decide)
  have H3 := wl_new H w hvt (ep := 5) hu (dW 5 (secH (hW 1 5) ++ segW 5 []) [] fs17 4)
  have g0 := good_begin (ep := 5) hu (by decide)
  have f1 : fitI (endF [] : Nat) w10.length = true := by rw [w10_len]; exact w10_one.1
  have g1 := dW_good g0 w10_b (by simp) f1
  have H4 : Hid (∀ p b F w' v, WL DK w p b 5 [] (dW 5 (secH (hW 1 5) ++ segW 5 []) [] fs17 4) F w' → Tab w' → RI .u8 w' v 10 w10 → _) := Lib.hid fun p b F w' v q1 q2 q3 =>
    wl_append H hu (by simp) g0 w10_b w10_one.1 q1 q2 q3
  rw [List.nil_append] at H4 g1
  obtain ⟨d1, hd1⟩ : ∃ ws1, fs17.take (1 + endF [] / 52) ++ List.replicate ((endF [w10] - 1) / 52 + 1 - endF [] / 52) true ++ fs17.drop (1 + endF [] / 52 + ((endF [w10] - 1) / 52 + 1 - endF [] / 52)) = ws1 := ⟨_, rfl⟩
  rw [hd1] at H4 g1
  have H5 : Hid (∀ p b F w' v, WL DK w p b 5 [w10] (dW 5 (secH (hW 1 5) ++ segW 5 []) [w10] d1 (wrap64 (4 + 1))) F w' → Tab w' → RI .u8 w' v 10 w10 → _) := Lib.hid fun p b F w' v q1 q2 q3 =>
    wl_append H hu (by intro l hl; rw [List.mem_singleton.1 hl]; exact w10_b) g1 w10_b w10_two.1 q1 q2 q3
  rw [show [w10] ++ [w10] = [w10, w10] from rfl, w10_one.2, show beginN 21 = 21 from rfl] at H5
  rw [show endF [] = 0 from rfl, show beginN 0 = 0 from rfl] at H4
  have HE := Lib.hid w10_two.2
  clear g0 g1 f1 hu hvt hd1
  go_enter Tryz.func6, Tryz.ntmps6
  go_wp2_with (first
    | (go_at_call 7; (with_reducible refine (H1.out _).mono ?_); rintro e w1 ⟨p, F1, rfl, k1, x1⟩; have K1 := Lib.hid k1; have X1 := Lib.hid x1; clear k1 x1)
    | (go_at_call 8; (with_reducible refine (rheader_any 1 5 _).mono ?_); rintro e w2 ⟨rfl, hb⟩; have K2 := Lib.hid (hH.out.below K1.out hb); have X2 := Lib.hid (X1.out.trans (Ext.below hb)); clear hb)
    | (refine wpl_store_newH rfl _ _ rfl rfl w2.heap.size rfl (hW 1 5) rfl rfl rfl ?_; intro w3 HA3 HB3; have K3 := Lib.hid (hH.out.below K2.out HB3.out); have X3 := Lib.hid (X2.out.trans (Ext.below HB3.out)))
    | (refine wpl_load_hd (by rfl) (.tmp 2) rfl rfl (show HB w3 w2.heap.size (hW 1 5) from HA3.out) ?_)
    | (go_at_call 9; (with_reducible refine (H2.out _ _ _ K3.out X3.out).mono ?_); rintro e w4 ⟨F4, rfl, k4, x4⟩; have K4 := Lib.hid k4; have X4 := Lib.hid (X3.out.trans x4); have HA4 := Lib.hid (show HB w4 w2.heap.size (hW 1 5) from ⟨(x4.block _ HA3.out.lt (foot_off (hH.out.foot K2.out) (Nat.le_refl _))).trans HA3.out.1, HA3.out.2⟩); clear k4 x4)
    | (refine wpl_load_hd (by rfl) (.tmp 2) rfl rfl HA4.out ?_)
    | (go_at_call 10; (with_reducible refine (H3.out _ _ _ K4.out X4.out).mono ?_); rintro e w5 ⟨b, rfl, hw, _, _⟩; have S5 := Lib.hid hw; clear hw)
    | (refine wpl_mk_yb rfl _ _ rfl 10 rfl rfl (by omega) ?_; intro g6 w6 HY6 HG6 HB6; have S6 := Lib.hid (S5.out.next hH.out HB6.out); have HR6 : Hid (RI .u8 w6 (.slice (some ⟨g6, 0, none⟩) 10 10) 10 w10) := Lib.hid (HY6.out.ri w10_len (by omega)))
    | (go_at_call 15; (with_reducible refine (H4.out _ _ _ _ _ S6.out (HV.out.ext S6.out.ex).tab HR6.out).mono ?_); rintro e w7 ⟨F7, rfl, hw, _⟩; have S7 := Lib.hid hw; clear hw)
    | (refine wpl_mk_yb rfl _ _ rfl 10 rfl rfl (by omega) ?_; intro g8 w8 HY8 HG8 HB8; have S8 := Lib.hid (S7.out.next hH.out HB8.out); have HR8 : Hid (RI .u8 w8 (.slice (some ⟨g8, 0, none⟩) 10 10) 10 w10) := Lib.hid (HY8.out.ri w10_len (by omega)))
    | (go_at_call 15; (with_reducible refine (H5.out _ _ _ _ _ S8.out (HV.out.ext S8.out.ex).tab HR8.out).mono ?_); rintro e w9 ⟨F9, rfl, hw, _⟩; have S9 := Lib.hid hw; clear hw)
    | (go_at_call 13; (with_reducible refine (wend_any S9.out).mono ?_); rintro e w' ⟨rfl, rfl⟩; rw [HE.out]))
  go_ret
  exact ⟨rfl, S9.out.ex.bel⟩
end Go.Proofs.YtgegbpnmfpjdmaaGreatDoor
namespace Go.Proofs.YtgegbpnmfpjdmaaGreatDoor
open Go.RowKit
structure VL (W w : World) (base : Nat) (v : Value) (k : Nat) (es : List Value) (ls : List (List Int)) : Prop where
  row : w.ownsRow base 43 1 v k es
  lel : ls.length = k
  esl : es.length = k
  at_ : ∀ (j : Nat) (e : Value) (l : List Int), es[j]? = some e → ls[j]? = some l → RI .u8 W e l.length l
theorem VL.nil (W w : World) (base : Nat) : VL W w base (.slice none 0 0) 0 [] [] := ⟨World.ownsRow_nil _ _ _ _, rfl, rfl, fun j e l he => by simp at he⟩
theorem VL.snoc {W w w' : World} {base : Nat} {v v' : Value} {k : Nat} {es : List Value} {ls : List (List Int)} (h : VL W w base v k es ls) {e : Value} {l : List Int} {n : Nat} (hr : RI .u8 W e n l) (ho : w'.ownsRow base 43 1 v' (k + 1) (es ++ [e])) : VL W w' base v' (k + 1) (es ++ [e]) (ls ++ [l]) := by
  have hn := hr.length
  subst hn
  refine ⟨ho, by simp [h.lel], by simp [h.esl], fun j x y hx hy => ?_⟩
  have h1 := h.lel
  have h2 := h.esl
  by_cases hj : j < k
  · rw [List.getElem?_append_left (by omega)] at hx hy
    exact h.at_ j x y hx hy
  · rw [List.getElem?_append_right (by omega)] at hx hy
    rw [h2] at hx
    rw [h1] at hy
    cases hq : j - k with
    | zero =>
      rw [hq] at hx hy
      simp only [List.getElem?_cons_zero, Option.some.injEq] at hx hy
      subst hx; subst hy
      exact hr
    | succ q => rw [hq] at hx; simp at hx
end Go.Proofs.YtgegbpnmfpjdmaaGreatDoor
namespace Go.Proofs.YtgegbpnmfpjdmaaGreatDoor
open Go.RowKit
variable {DK : World → Addr → (Nat → Bool) → AD → Prop}
theorem WS.foot (H : DiskSays DK) {W0 w : World} {p : Addr} {b : Nat} {s : ByteArray} {ep : Int} {B : List Int} {en : Nat} {d : AD} {F : Nat → Bool} (h : WS DK W0 p b s ep B en d F w) : Foot (orB F b) w.heap.size := fun k hk => by
  have hb := h.bd
  by_cases e : k = b
  · omega
  · exact H.foot h.dk k (by simpa [orB, e] using hk)
theorem wl_sync (H : DiskSays DK) {W0 : World} {p : Addr} {b : Nat} {ep : Int} {ls : List (List Int)} {las : List Int} {ws : List Bool} {o : Int} (hg : Good (dW ep las ls ws o)) {F : Nat → Bool} :
    Hid (∀ w, WL DK W0 p b ep ls (dW ep las ls ws o) F w → Calls Tryz.prog 16 #[wP b] w fun e w' => ∃ F', e = .returned (.int .i64 0) ∧ WL DK W0 p b ep ls (dW ep (secH (hW 1 ep) ++ segW ep ls) ls fs17 (wrap64 (o + 1))) F' w' ∧ Ext (orB F b) w w' (orB F' b)) :=
  Lib.hid fun _ h => wsync_any H wal1_size hg dW_sync h
theorem wl_sectors {ep : Int} (hep : U64 ep) {ls : List (List Int)} (hlb : ∀ l ∈ ls, isB l) (hf : fitsF ls = true) :
    Hid (∀ v k w, k ≤ 1000 → RL .u8 w v k ls → Calls Tryz.prog 19 #[.int .u64 ep, v] w fun e w' => ∃ v', e = .returned (.tuple #[v', .bool true]) ∧ w'.ownsRow w.heap.size 60 64 v' 16 (il .u8 (segW ep ls)) ∧ Below w.heap.size w w') :=
  Lib.hid fun v k w hk h => (rsectors_own ep hep v k ls (by omega) hlb w h).mono fun e w' h => by
    rcases h with ⟨_, v', he, hs, hb⟩ | ⟨h, _⟩
    · exact ⟨v', he, hs, hb⟩
    · rw [hf] at h; cases h
end Go.Proofs.YtgegbpnmfpjdmaaGreatDoor
namespace Go.Proofs.YtgegbpnmfpjdmaaGreatDoor
open Go.RowKit
variable {DK : World → Addr → (Nat → Bool) → AD → Prop}
theorem good_take {ls : List (List Int)} (hg : GoodF ls ls.length) {k : Nat} (hk : k ≤ ls.length) : fitsF (ls.take k) = true := by
  have h := fitF_fits ls k hk
  rwa [fitF_all hg k hk] at h
theorem end_up {ls : List (List Int)} (hg : GoodF ls ls.length) {i : Nat} (hi : i < ls.length) : endF (ls.take i) < endF (ls.take (i + 1)) := by
  have h := end_gt (hg i hi)
  rw [nr_nat _ (endF_le _), ← endF_next ls i hi] at h
  exact h.1
def mI (n i : Nat) : Nat := if i ≤ n then 0 else n
theorem mI_le (n i : Nat) : mI n i ≤ i := by unfold mI; split <;> omega
theorem cr_append (H : DiskSays DK) {W0 : World} (hvt : VT W0) {p : Addr} {b : Nat} {ep : Int} (hep : U64 ep) {ls : List (List Int)} (hlb : ∀ l ∈ ls, isB l) (hg : GoodF ls ls.length) {i : Nat} (hi : i < ls.length) {m : Nat} (hm : m ≤ i) {las : List Int} {o : Int}
    (hgd : Good (dW ep las (ls.take i) (wsC ls m i) o)) {n : Nat} (hn : (ls.getD i []).length = n) :
    Good (dW ep las (ls.take (i + 1)) (wsC ls m (i + 1)) (wrap64 (o + 1))) ∧
      Hid (∀ da dc F w', WL DK W0 p b ep (ls.take i) (dW ep las (ls.take i) (wsC ls m i) o) F w' → RI .u8 w' (.slice da n dc) n (ls.getD i []) → Calls Tryz.prog 15 #[wP b, .slice da n dc] w' fun e w'' => ∃ F' q, e = .returned (.tuple #[.int .i64 q, .int .i64 0]) ∧
        WL DK W0 p b ep (ls.take (i + 1)) (dW ep las (ls.take (i + 1)) (wsC ls m (i + 1)) (wrap64 (o + 1))) F' w'') := by
  have hL : ∀ l ∈ ls.take i, isB l := fun l hl => hlb l (List.mem_of_mem_take hl)
  have hzb : isB (ls.getD i []) := hlb _ (by simp [List.getD, hi])
  have hf : fitI (endF (ls.take i) : Nat) (ls.getD i []).length = true := hg i hi
  have hup := end_up hg hi
  have h8 := endF_le (ls.take (i + 1))
  have hnx := wsC_next hm (end_mono hg hm (by omega)) hup h8 (endF (ls.take i) / 52) ((endF (ls.take (i + 1)) - 1) / 52 + 1 - endF (ls.take i) / 52) rfl (by omega) (fun h => by
    have h1 := end_up hg (i := m) (by omega)
    have h2 := end_mono hg (k := m + 1) (t := i) (by omega) (by omega)
    omega)
  have htk := take_next ls i hi
  have g1 := dW_good hgd hzb hL hf
  rw [← htk, hnx] at g1
  refine ⟨g1, Lib.hid fun da dc F w' hw hr => ?_⟩
  have hf2 : fitI (endF (ls.take i) : Nat) n = true := by rw [← hn]; exact hf
  refine (wl_append H hep hL hgd hzb hf2 hw (hvt.ext hw.ex).tab hr).mono ?_
  rintro e w'' ⟨F', he, hw', _⟩
  rw [← htk, hnx] at hw'
  exact ⟨F', _, he, hw'⟩
theorem cr_shape {ep : Int} (hep : U64 ep) (h0 : ep ≠ 0) {ls : List (List Int)} (hg : GoodF ls ls.length) {n : Nat} (hn : n ≤ ls.length) :
    ∃ a d, wsC ls n ls.length = wsW a d ∧ a + d ≤ 16 ∧ (0 < d → secOf (segW ep (ls.take n)) (a + d - 1) ≠ secOf (segW ep ls) (a + d - 1) ∧ ∀ i, a + d ≤ i → i < 16 → secOf (segW ep (ls.take n)) i = secOf (segW ep ls) i) := by
  by_cases h : n < ls.length
  · have h1 := end_up hg h
    have h2 := end_mono hg (k := n + 1) (t := ls.length) (by omega) (Nat.le_refl _)
    rw [List.take_length] at h2
    have h8 := endF_le ls
    refine ⟨endF (ls.take n) / 52, (endF ls - 1) / 52 + 1 - endF (ls.take n) / 52, ?_, by omega, fun _ => ⟨?_, fun i h3 h4 => sec_same_behind hg hn h4 (by omega)⟩⟩
    · unfold wsC
      rw [if_pos h, List.take_length]
    · rw [show endF (ls.take n) / 52 + ((endF ls - 1) / 52 + 1 - endF (ls.take n) / 52) - 1 = (endF ls - 1) / 52 from by omega]
      exact sec_differs hep h0 hg h
  · obtain rfl : n = ls.length := by omega
    exact ⟨0, 0, by rw [wsC_none, wsW_none], by omega, fun h => absurd h (by omega)⟩
theorem left_none (kb : List Int) (torn cut : Int) (O N : List Int) (a : Nat) : leftW kb torn cut O N a 0 = O := by
  unfold leftW
  rw [Nat.add_zero]
  show O.take (a * 64) ++ [] ++ O.drop (a * 64) = O
  rw [List.append_nil, List.take_append_drop]
def wantK (O L : List Int) (a k : Nat) : List Int := O.take (a * 64) ++ L.take (k * 64) ++ O.drop ((a + k) * 64)
section
variable {O L : List Int} {a d : Nat} (hO : O.length = 16 * 64) (hL : L.length = d * 64) (had : a + d ≤ 16)
include hO hL had
theorem wantK_len (k : Nat) (hk : k ≤ d) : (wantK O L a k).length = 16 * 64 := by
  unfold wantK
  rw [List.length_append, List.length_append, List.length_take, List.length_take, List.length_drop]; omega
theorem wantK_next (k : Nat) (hk : k < d) : splice (wantK O L a k) ((a + k) * 64) (secOf L k) = wantK O L a (k + 1) := by
  have h1 : (O.take (a * 64) ++ L.take (k * 64)).length = (a + k) * 64 := by rw [List.length_append, List.length_take, List.length_take]; omega
  have h2 : (secOf L k).length = 64 := secOf_length L d k hL hk
  unfold splice wantK
  rw [List.take_append_of_le_length (by omega), List.take_of_length_le (by omega), h2, show (a + k) * 64 + 64 = (O.take (a * 64) ++ L.take (k * 64)).length + 64 from by omega, List.drop_append, List.drop_of_length_le (by omega), List.nil_append, Nat.add_sub_cancel_left, List.drop_drop, take_secs L k]
  rw [show (a + k) * 64 + 64 = (a + (k + 1)) * 64 from by omega]
  simp [List.append_assoc]
end
theorem wantK_zero (O L : List Int) (a : Nat) : wantK O L a 0 = O := by
  unfold wantK
  rw [Nat.zero_mul, List.take_zero, List.append_nil, Nat.add_zero, List.take_append_drop]
theorem wantK_all {L : List Int} {d : Nat} (hL : L.length = d * 64) (O : List Int) (a : Nat) : wantK O L a d = O.take (a * 64) ++ L ++ O.drop ((a + d) * 64) := by
  unfold wantK
  rw [List.take_of_length_le (show L.length ≤ d * 64 by omega)]
theorem wl_crash (H : DiskSays DK) {p : Addr} {ep : Int} {O : List Int} (hO : O.length = 16 * 64) {ls : List (List Int)} {a d : Nat} (had : a + d ≤ 16) {o : Int} (hg : Good (dW ep (secH (hW 1 ep) ++ O) ls (wsW a d) o)) {ka : Option Addr} {kl kc : Nat} {kb : List Int} (hkb : Bytes kb) {tq cq : Int} (htq : I63 tq) (hcq : I63 cq) :
    Good (lone wal1 (secH (hW 1 ep) ++ leftW kb tq cq O (segW ep ls) a d) (secH (hW 1 ep) ++ leftW kb tq cq O (segW ep ls) a d) fs17 o) ∧
    Hid (∀ w F, DK w p F (dW ep (secH (hW 1 ep) ++ O) ls (wsW a d) o) → RI .u8 (mask F w) (.slice ka kl kc) kl kb → Calls Tryz.prog 22 #[ptr p, .agg #[.slice ka kl kc, .int .i64 tq, .int .i64 cq]] w fun e w' => ∃ F', e = .returned (.tuple #[]) ∧
      DK w' p F' (lone wal1 (secH (hW 1 ep) ++ leftW kb tq cq O (segW ep ls) a d) (secH (hW 1 ep) ++ leftW kb tq cq O (segW ep ls) a d) fs17 o) ∧ Ext F w w' F') := by
  have hc : (dW ep (secH (hW 1 ep) ++ O) ls (wsW a d) o).crashR kb tq cq = lone wal1 (secH (hW 1 ep) ++ leftW kb tq cq O (segW ep ls) a d) (secH (hW 1 ep) ++ leftW kb tq cq O (segW ep ls) a d) fs17 o := by
    show (lone wal1 _ _ _ _).crashR kb tq cq = _
    rw [lone_crash, crash_left wal1 (secH_length (h := hW 1 ep) rfl) hO (segW_len ep ls) had]
  have g := hg.crash kb tq cq
  rw [hc] at g
  refine ⟨g, Lib.hid fun w F h hr => ?_⟩
  have := H.crash w p F _ _ kl kb tq cq h hg hr hkb htq hcq
  rwa [hc] at this
theorem wl_told (H : DiskSays DK) {p : Addr} {ep : Int} (hep : U64 ep) (h0 : ep ≠ 0) {las T : List Int} {ws : List Bool} {o : Int} (hg : Good (lone wal1 las (secH (hW 1 ep) ++ T) ws o)) :
    Hid (∀ w F, DK w p F (lone wal1 las (secH (hW 1 ep) ++ T) ws o) → VT w → Calls Tryz.prog 18 #[ptr p, .int .i64 1] w fun e w' => ∃ v, e = .returned (.tuple #[v, .int .i64 0]) ∧ FS w' v 16 T ∧ Below w.heap.size w w') :=
  Lib.hid fun w F h hv => by
    have ht := lone_tells (hW_typed hep) (hW_ok h0) las T ws o
    rw [show (hW 1 ep).s = 1 from rfl, wal1_eq] at ht
    obtain ⟨t1, t2⟩ := ht
    refine (ssectors_any H w p F _ 1 h hg hv (by unfold I63; omega)).mono ?_
    rintro e w' ⟨v, rfl, h2, h3⟩
    rw [t1] at h2 ⊢
    rw [t2] at h2
    exact ⟨v, rfl, h2 rfl, h3⟩
theorem wl_waits (H : DiskSays DK) {p : Addr} {ep : Int} {ls : List (List Int)} {las : List Int} {a d : Nat} (had : a + d ≤ 16) {o : Int} (hg : Good (dW ep las ls (wsW a d) o)) :
    Hid (∀ w F, DK w p F (dW ep las ls (wsW a d) o) → Calls Tryz.prog 17 #[ptr p] w fun e w' => e = .returned (.int .i64 (d : Int)) ∧ Below w.heap.size w w') :=
  Lib.hid fun w F h => by
    have := H.waiting w p F _ h hg
    rwa [lone_waits, wsW_waits a d had] at this
theorem own_none64 {w : World} {base b : Nat} (hb : w.heap.size = b) (h : base ≤ b) : (w.alloc (.cells #[] 60)).ownsRow base 60 64 (.slice (some ⟨b, 0, none⟩) 0 0) 0 (il .u8 []) := by
  subst hb
  exact ⟨rfl, .inr ⟨w.heap.size, 0, #[], rfl, h, heap_alloc_last w _, Nat.le_refl _, by unfold maxLen; omega, rfl, rfl⟩⟩
section
variable {o : Oper} {a : Act} {w : World}
set_option maxRecDepth 20000 in
theorem sec_cell64 : (sizeOf (Tryz.prog.elem 48)).run Tryz.prog w = .ok 64 w := by
  have he : Tryz.prog.elem 48 = 60 := rfl
  obtain ⟨i, hi, _, hz1, _⟩ := info_parts sec_parts
  simp [sizeOf, typeInfo, he, hi, hz1]
set_option maxRecDepth 20000 in
theorem und_secs : Tryz.prog.underlying 48 = some (.slice (Tryz.prog.elem 48)) := by rw [Tryz.underlying48]; rfl
theorem exec_cuts_lh (x lo hi : Operand) (ho : o.op = .slice 48 x (some lo) (some hi) none) (p : Option Addr) (len cap l n : Nat) (hx : a.eval x = .slice p len cap) (hlo : a.eval lo = .int .i64 (l : Int)) (hhi : a.eval hi = .int .i64 ((l + n : Nat) : Int)) (hc : l + n ≤ cap) :
    (execOp a.eval o).run Tryz.prog w = .ok (.value (sliced p l (l + n) cap 64)) w := by
  have h1 := run_slice_lh (P := Tryz.prog) w 48 p len cap und_secs .i64 .i64 (l : Int) ((l + n : Nat) : Int) (by omega) (by omega) (by omega)
  rw [sec_cell64] at h1
  simp only [Result.andThen_ok, Int.toNat_natCast] at h1
  simp only [Int.natCast_add] at h1
  simp [execOp, ho, hx, hlo, hhi, run_sliceAt_slice _ _ _ _ _ _ und_secs, h1, Result.andThen]
theorem exec_cuts_e (x lo hi : Operand) (ho : o.op = .slice 48 x (some lo) (some hi) none) (p : Option Addr) (len cap l n e : Nat) (hx : a.eval x = .slice p len cap) (hlo : a.eval lo = .int .i64 (l : Int)) (hhi : a.eval hi = .int .i64 (e : Int)) (he : l + n = e) (hc : l + n ≤ cap) :
    (execOp a.eval o).run Tryz.prog w = .ok (.value (sliced p l (l + n) cap 64)) w := by
  subst he
  exact exec_cuts_lh x lo hi ho p len cap l n hx hlo hhi hc
theorem exec_neq_sec (zs ys : List Int) (hz : zs.length = 64) (hy : ys.length = 64) (x y : Operand) (u : TypeId) (ho : o.op = .binOp .neq 60 x y u) (hx : a.eval x = .agg (sv zs)) (hye : a.eval y = .agg (sv ys)) :
    (execOp a.eval o).run Tryz.prog w = .ok (.value (.bool (!decide (zs = ys)))) w := by
  unfold execOp
  have hg : Tryz.prog.eqGuardType Tryz.prog.depth 60 = false := by kernel_rfl
  have he : (binOp .neq 60 (.agg (sv zs)) (.agg (sv ys))).run Tryz.prog w = .ok (.bool (!decide (zs = ys))) w := by
    rw [run_neq_struct, run_eq_sec zs ys hz hy]; rfl
  simp only [ho, hx, hye, Sem.run_bind, run_eqGuard_agg w .neq 60 x y _ _ hg, Result.andThen_ok, he, Sem.run_pure]
theorem exec_neq_val (zs ys : List Int) (hz : zs.length = 64) (hy : ys.length = 64) (x y : Operand) (u : TypeId) (ho : o.op = .binOp .neq 60 x y u) (hx : a.eval x = .agg (sv zs)) (hye : a.eval y = .agg (sv ys)) (b : Bool) (hb : decide (zs = ys) = !b) :
    (execOp a.eval o).run Tryz.prog w = .ok (.value (.bool b)) w := by
  have h := exec_neq_sec (w := w) zs ys hz hy x y u ho hx hye
  rw [hb, Bool.not_not] at h
  exact h
end
end Go.Proofs.YtgegbpnmfpjdmaaGreatDoor
namespace Go.Proofs.YtgegbpnmfpjdmaaGreatDoor
open Go.RowKit
variable {DK : World → Addr → (Nat → Bool) → AD → Prop}
section
variable {w : World} {o : Oper} {a : Act} {Q : Exit → Act → World → Prop} {ops : Array Oper} {rest : List Oper}
theorem wpl_lit_none64 (hgd : o.guard = none) (ho : o.op = .buildSlice 48 0 #[])
    (h : wpList Tryz.prog ops Q rest (a.put o.dst (.slice (some ⟨w.heap.size, 0, none⟩) 0 0)) (w.alloc (.cells #[] 60))) : wpList Tryz.prog ops Q (o :: rest) a w := by
  refine wpList_plain hgd fun K hK => ?_
  obtain ⟨i, hi, hz0, hz1, hz2⟩ := info_parts sec_parts
  have hr : (Instr.buildSlice 48 0 #[]).run Tryz.prog w = .ok (.slice (some ⟨w.heap.size, 0, none⟩) 0 0) (w.alloc (.cells #[] 60)) := by
    simp [Instr.buildSlice, run_underlying (P := Tryz.prog) Tryz.underlying48, sizeOf, typeInfo, hi, Instr.fill, newRow]
    rw [show Array.range 0 = #[] from by decide, Array.map_empty]
  unfold Oper.wp execOp
  simp only [ho, Sem.run_bind, List.map_toArray, List.map_nil, hr, Result.andThen_ok]
  exact hK _ _ h
end
set_option maxRecDepth 8000 in
set_option maxHeartbeats 16000000 in
theorem crash_walk (H : DiskSays DK) (ep : Int) (hep : U64 ep) (a0 : Option Addr) (N0 c0 : Nat) (ls0 : List (List Int)) (a1 : Option Addr) (N1 c1 : Nat) (ls1 : List (List Int)) (ka : Option Addr) (kl kc : Nat) (kb : List Int) (tq cq : Int) (W : World)
    (hr0 : RL .u8 W (.slice a0 N0 c0) N0 ls0) (hb0 : ∀ l ∈ ls0, isB l) (hr1 : RL .u8 W (.slice a1 N1 c1) N1 ls1) (hb1 : ∀ l ∈ ls1, isB l) (hk : RI .u8 W (.slice ka kl kc) kl kb) (hkb : Bytes kb) (htq : I63 tq) (hcq : I63 cq) (hvt : VT W) :
    Calls Tryz.prog 4 #[.int .u64 ep, .agg #[.slice a0 N0 c0, .slice a1 N1 c1], .agg #[.slice ka kl kc, .int .i64 tq, .int .i64 cq]] W fun e w' => e = .returned (.bool true) ∧ Below W.heap.size W w' := by
  have hH := Lib.hid H
  have HV := Lib.hid hvt
  obtain ⟨w0, hw0⟩ : ∃ q, (W.alloc (.cells #[.slice a0 N0 c0, .slice a1 N1 c1] 56)).alloc (.cells #[.slice ka kl kc, .int .i64 tq, .int .i64 cq] 58) = q := ⟨_, rfl⟩
  have hz1 : (W.alloc (.cells #[.slice a0 N0 c0, .slice a1 N1 c1] 56)).heap.size = W.heap.size + 1 := alloc_size W _
  have HB0 : Hid (Below W.heap.size W w0) := Lib.hid (by rw [← hw0]; exact bch (balloc _ _) (balloc _ _))
  have hy0 : w0.heap[W.heap.size]? = some (.cells #[.slice a0 N0 c0, .slice a1 N1 c1] 56 (0, 0)) := by
    rw [← hw0]
    exact ((balloc (W.alloc (.cells #[.slice a0 N0 c0, .slice a1 N1 c1] 56)) _).block W.heap.size (by rw [hz1]; omega)).trans (heap_alloc_last W _)
  have hy1 : w0.heap[W.heap.size + 1]? = some (.cells #[.slice ka kl kc, .int .i64 tq, .int .i64 cq] 58 (0, 0)) := by
    rw [← hw0, ← hz1]
    exact heap_alloc_last _ _
  have d0 := cell_of_row w0 W.heap.size 0 _ _ _ hy0
  have d1 := cell_of_row w0 W.heap.size 1 _ _ _ hy0
  have k0 := cell_of_row w0 (W.heap.size + 1) 0 _ _ _ hy1
  have k1 := cell_of_row w0 (W.heap.size + 1) 1 _ _ _ hy1
  have k2 := cell_of_row w0 (W.heap.size + 1) 2 _ _ _ hy1
  simp only [List.getElem?_toArray, List.getElem?_cons_zero, List.getElem?_cons_succ] at d0 d1 k0 k1 k2
  have HD := Lib.hid (And.intro d0 d1)
  have HK := Lib.hid (And.intro k0 (And.intro k1 k2))
  clear hy0 hy1 hz1 k0 k1 k2
  have HAW : Hid (∀ w, Below W.heap.size W w → Calls Tryz.prog 6 #[] w fun e w' => e = .returned (.bool true) ∧ Below w.heap.size w w') := Lib.hid fun w hb => wawake_any H w (hvt.on hb)
  by_cases h30 : (30 : Int) < (N0 : Int)
  · clear hr0 hb0 hr1 hb1 hk hkb htq hcq hvt
    go_enter Tryz.func4, Tryz.ntmps4
    go_wp2_with (first
      | (go_at_call 6; (with_reducible refine (HAW.out _ HB0.out).mono ?_); rintro e w1 ⟨rfl, hb⟩; have HB1 := Lib.hid (bch HB0.out hb); clear hb))
    go_ret
    exact ⟨rfl, HB1.out⟩
  by_cases h31 : (30 : Int) < (N1 : Int)
  · clear hr0 hb0 hr1 hb1 hk hkb htq hcq hvt
    go_enter Tryz.func4, Tryz.ntmps4
    go_wp2_with (first
      | (go_at_call 6; (with_reducible refine (HAW.out _ HB0.out).mono ?_); rintro e w1 ⟨rfl, hb⟩; have HB1 := Lib.hid (bch HB0.out hb); clear hb))
    go_ret
    exact ⟨rfl, HB1.out⟩
  by_cases h0 : ep = 0
  · subst h0
    clear hr0 hb0 hr1 hb1 hk hkb htq hcq hvt
    go_enter Tryz.func4, Tryz.ntmps4
    go_wp2_with (first
      | (go_at_call 6; (with_reducible refine (HAW.out _ HB0.out).mono ?_); rintro e w1 ⟨rfl, hb⟩; have HB1 := Lib.hid (bch HB0.out hb); clear hb))
    go_ret
    exact ⟨rfl, HB1.out⟩
  have b0 : (ep == 0) = false := by simpa using h0
  have H0 := Lib.hid h0
  have HEP := Lib.hid hep
  have hl0 := hr0.length
  have hl1 := hr1.length
  obtain ⟨ls, hls⟩ : ∃ ls, ls0 ++ ls1 = ls := ⟨_, rfl⟩
  obtain ⟨N, hN'⟩ : ∃ N, N0 + N1 = N := ⟨_, rfl⟩
  have HLL : Hid (ls.length = N) := Lib.hid (by rw [← hls, ← hN']; simp [hl0, hl1])
  have HN60 : Hid (N ≤ 60 ∧ N0 ≤ N ∧ N = N0 + N1) := Lib.hid (by omega)
  have HT0 : Hid (ls.take N0 = ls0) := Lib.hid (by rw [← hls, ← hl0, List.take_left])
  have HLB : Hid (∀ l ∈ ls, isB l) := Lib.hid fun l hl => by
    rw [← hls] at hl
    rcases List.mem_append.1 hl with h | h
    · exact hb0 l h
    · exact hb1 l h
  have HLB0 := Lib.hid hb0
  have HR0 := Lib.hid hr0
  obtain ⟨es0, hv0, he0, hp0⟩ := id hr0
  obtain ⟨es1, hv1, he1, hp1⟩ := id hr1
  have HV0 := Lib.hid hv0
  have HV1 := Lib.hid hv1
  have HES0 : Hid (∀ u ∈ es0, u.oneCell' = true) := Lib.hid fun u hu => by
    obtain ⟨j, hj, rfl⟩ := List.getElem_of_mem hu
    exact ri_one (hp0 j _ _ (List.getElem?_eq_getElem hj) (List.getElem?_eq_getElem (show j < ls0.length by have := hv0.length; omega)))
  have HES1 : Hid (∀ u ∈ es1, u.oneCell' = true) := Lib.hid fun u hu => by
    obtain ⟨j, hj, rfl⟩ := List.getElem_of_mem hu
    exact ri_one (hp1 j _ _ (List.getElem?_eq_getElem hj) (List.getElem?_eq_getElem (show j < ls1.length by have := hv1.length; omega)))
  have HALL : Hid (∀ (base : Nat) (w' : World) (v' : Value), Below W.heap.size W w' → w'.ownsRow base 43 1 v' N (es0 ++ es1) → RL .u8 w' v' N ls) := Lib.hid fun base w' v' q1 q2 => by
    refine ⟨_, RV.own q2, HLL.out, fun j e l he hl => ?_⟩
    have x0 := hv0.length
    rw [← hls] at hl
    by_cases hj : j < N0
    · rw [List.getElem?_append_left (by omega)] at he hl
      exact (hp0 j e l he hl).keep q1
    · rw [List.getElem?_append_right (by omega)] at he hl
      rw [x0] at he
      rw [hl0] at hl
      exact (hp1 _ e l he hl).keep q1
  have HKR := Lib.hid hk
  have HKB := Lib.hid hkb
  have HTQ := Lib.hid htq
  have HCQ := Lib.hid hcq
  have h60a : N0 ≤ 30 := by omega
  have h60b : N1 ≤ 30 := by omega
  clear hr0 hb0 hr1 hb1 hk hkb htq hcq hvt hep h0 hp0 hp1 hv0 hv1 he0 he1 hl0 hl1 hls
  cases hfa : fitsF ls with
  | false =>
    have HSF : Hid (∀ v w, RL .u8 w v N ls → Calls Tryz.prog 19 #[.int .u64 ep, v] w fun e w' => e = .returned (.tuple #[.slice none 0 0, .bool false]) ∧ Below w.heap.size w w') := Lib.hid fun v w h => (rsectors_any ep HEP.out v N ls (by have := HN60.out; omega) HLB.out w h).mono fun e w' h => by
      rcases h with ⟨h, _⟩ | ⟨_, h⟩
      · rw [hfa] at h; cases h
      · exact h
    clear hfa
    go_enter Tryz.func4, Tryz.ntmps4
    go_wp2_with fail
    refine wp_region_held_drew (S := (fun w' => Below w0.heap.size w0 w' ∧ w'.cell? ⟨W.heap.size, 0, none⟩ = some (.slice a0 N0 c0) ∧ w'.cell? ⟨W.heap.size, 1, none⟩ = some (.slice a1 N1 c1))) (by kernel_rfl) ⟨(Below.refl _ _).drew, cell_keep (Below.refl _ _).drew HD.out.1, cell_keep (Below.refl _ _).drew HD.out.2⟩ (fun hS => ?_)
    refine rgw 1 ⟨some 45, .indexAddr 56 (.tmp 4) (.const (.int .i64 0)), 0, _, _, none⟩ hS ?_
    refine rgw 2 ⟨some 46, .load 23 (.tmp 45), 23, _, _, none⟩ hS ?_
    refine rgw 4 ⟨some 48, .indexAddr 56 (.tmp 4) (.const (.int .i64 1)), 0, _, _, none⟩ hS ?_
    refine rgw 5 ⟨some 49, .load 23 (.tmp 48), 23, _, _, none⟩ hS ?_
    refine rg_one 0 ⟨some 44, .buildSlice 23 0 #[], 23, _, _, none⟩ (by kernel_rfl) rfl (fun K hK => ?_)
    rw [if_pos (by rfl)]; refine wp_lit_none rfl ?_; intro w1 HO1 hb; have hN := (⟨bch hS.1 hb.out, cell_keep hb.out hS.2.1, cell_keep hb.out hS.2.2⟩ : Below w0.heap.size w0 w1 ∧ w1.cell? ⟨W.heap.size, 0, none⟩ = some (.slice a0 N0 c0) ∧ w1.cell? ⟨W.heap.size, 1, none⟩ = some (.slice a1 N1 c1)); have HX1 := Lib.hid hN.1; have HO1 := Lib.hid (own_mono HO1.out hS.1.size)
    refine hK.out _ _ ?_ (fun hS1 => ?_)
    · (exact hN)
    clear hK K hS; have hS := hS1; clear hS1
    (try simp only [rgp])
    refine rg_one 3 ⟨some 47, .call { callee := .builtin Builtin.append, args := #[.tmp 44, .tmp 46], argTypes := #[23, 23] }, 23, _, _, none⟩ (by kernel_rfl) rfl (fun K hK => ?_)
    rw [if_pos (by rfl)]; refine wp_appv (.tmp 44) (.tmp 46) 23 rfl 43 (.slice none 0 0) 24 Tryz.underlying23 Tryz.info_sl rfl w0.heap.size _ 0 [] rfl HO1.out _ N0 es0 rfl (HV0.out.keep (bch HB0.out HX1.out)) HES0.out (by omega) (by omega) HX1.out.size ?_; intro v2 w2 HO2 HG2; rw [Nat.zero_add, List.nil_append] at HO2; obtain ⟨a2, c2, rfl⟩ := own_form HO2.out; have HX2 : Hid (Below w0.heap.size w0 w2) := Lib.hid (HX1.out.grown HG2.out HX1.out.size (fun q hq => (HO1.out.lt q hq).1)); have hN := (⟨HX2.out, cell_keep HX2.out HD.out.1, cell_keep HX2.out HD.out.2⟩ : Below w0.heap.size w0 w2 ∧ w2.cell? ⟨W.heap.size, 0, none⟩ = some (.slice a0 N0 c0) ∧ w2.cell? ⟨W.heap.size, 1, none⟩ = some (.slice a1 N1 c1))
    refine hK.out _ _ ?_ (fun hS1 => ?_)
    · (exact hN)
    clear hK K hS; have hS := hS1; clear hS1
    (try simp only [rgp])
    refine rg_one 6 ⟨some 50, .call { callee := .builtin Builtin.append, args := #[.tmp 47, .tmp 49], argTypes := #[23, 23] }, 23, _, _, none⟩ (by kernel_rfl) rfl (fun K hK => ?_)
    rw [if_pos (by rfl)]; refine wp_appv (.tmp 47) (.tmp 49) 23 rfl 43 (.slice none 0 0) 24 Tryz.underlying23 Tryz.info_sl rfl w0.heap.size _ N0 es0 rfl HO2.out _ N1 es1 rfl (HV1.out.keep (bch HB0.out HX2.out)) HES1.out (by omega) (by omega) HX2.out.size ?_; intro v3 w3 HO3 HG3; rw [hN'] at HO3; obtain ⟨a3, c3, rfl⟩ := own_form HO3.out; have HX3 : Hid (Below w0.heap.size w0 w3) := Lib.hid (HX2.out.grown HG3.out HX2.out.size (fun q hq => (HO2.out.lt q hq).1)); have HB3 := Lib.hid (bch HB0.out HX3.out); have HA3 := Lib.hid (HALL.out _ _ _ HB3.out HO3.out); have hN := (⟨HX3.out, cell_keep HX3.out HD.out.1, cell_keep HX3.out HD.out.2⟩ : Below w0.heap.size w0 w3 ∧ w3.cell? ⟨W.heap.size, 0, none⟩ = some (.slice a0 N0 c0) ∧ w3.cell? ⟨W.heap.size, 1, none⟩ = some (.slice a1 N1 c1))
    refine hK.out _ _ ?_ (fun hS1 => ?_)
    · (exact hN)
    clear hK K hS; have hS := hS1; clear hS1
    (try simp only [rgp])
    refine rgw 7 ⟨some 7, .assign (.tmp 50), 23, _, _, none⟩ hS ?_
    refine wpAnyH_done (by kernel_rfl) ?_ _
    go_wp2_with (first
      | (go_at_call 19; (with_reducible refine (HSF.out _ _ HA3.out).mono ?_); rintro e w4 ⟨rfl, hb⟩; have HB4 := Lib.hid (bch HB3.out hb); clear hb)
      | (go_at_call 6; (with_reducible refine (HAW.out _ HB4.out).mono ?_); rintro e w5 ⟨rfl, hb⟩; have HB5 := Lib.hid (bch HB4.out hb); clear hb))
    go_ret
    exact ⟨rfl, HB5.out⟩
  | true =>
    have HG : Hid (GoodF ls ls.length) := Lib.hid ((fitsF_iff ls).1 hfa)
    have HSA := wl_sectors HEP.out HLB.out hfa
    have HS0 := wl_sectors HEP.out HLB0.out (show fitsF ls0 = true from by rw [← HT0.out]; exact good_take HG.out (by have := HN60.out; have := HLL.out; omega))
    have H1 : Hid (∀ w, Calls Tryz.prog 7 #[.int .i64 17] w fun e w' => ∃ p F, e = .returned (ptr p) ∧ DK w' p F (AD.newD 17) ∧ Ext noF w w' F) := Lib.hid fun w => H.new 17 w (by unfold I63; omega)
    have HG0 := Lib.hid (good_begin HEP.out H0.out)
    clear hfa
    go_enter Tryz.func4, Tryz.ntmps4
    go_wp2_with fail
    refine wp_region_held_drew (S := (fun w' => Below w0.heap.size w0 w' ∧ w'.cell? ⟨W.heap.size, 0, none⟩ = some (.slice a0 N0 c0) ∧ w'.cell? ⟨W.heap.size, 1, none⟩ = some (.slice a1 N1 c1))) (by kernel_rfl) ⟨(Below.refl _ _).drew, cell_keep (Below.refl _ _).drew HD.out.1, cell_keep (Below.refl _ _).drew HD.out.2⟩ (fun hS => ?_)
    refine rgw 1 ⟨some 45, .indexAddr 56 (.tmp 4) (.const (.int .i64 0)), 0, _, _, none⟩ hS ?_
    refine rgw 2 ⟨some 46, .load 23 (.tmp 45), 23, _, _, none⟩ hS ?_
    refine rgw 4 ⟨some 48, .indexAddr 56 (.tmp 4) (.const (.int .i64 1)), 0, _, _, none⟩ hS ?_
    refine rgw 5 ⟨some 49, .load 23 (.tmp 48), 23, _, _, none⟩ hS ?_
    refine rg_one 0 ⟨some 44, .buildSlice 23 0 #[], 23, _, _, none⟩ (by kernel_rfl) rfl (fun K hK => ?_)
    rw [if_pos (by rfl)]; refine wp_lit_none rfl ?_; intro w1 HO1 hb; have hN := (⟨bch hS.1 hb.out, cell_keep hb.out hS.2.1, cell_keep hb.out hS.2.2⟩ : Below w0.heap.size w0 w1 ∧ w1.cell? ⟨W.heap.size, 0, none⟩ = some (.slice a0 N0 c0) ∧ w1.cell? ⟨W.heap.size, 1, none⟩ = some (.slice a1 N1 c1)); have HX1 := Lib.hid hN.1; have HO1 := Lib.hid (own_mono HO1.out hS.1.size)
    refine hK.out _ _ ?_ (fun hS1 => ?_)
    · (exact hN)
    clear hK K hS; have hS := hS1; clear hS1
    (try simp only [rgp])
    refine rg_one 3 ⟨some 47, .call { callee := .builtin Builtin.append, args := #[.tmp 44, .tmp 46], argTypes := #[23, 23] }, 23, _, _, none⟩ (by kernel_rfl) rfl (fun K hK => ?_)
    rw [if_pos (by rfl)]; refine wp_appv (.tmp 44) (.tmp 46) 23 rfl 43 (.slice none 0 0) 24 Tryz.underlying23 Tryz.info_sl rfl w0.heap.size _ 0 [] rfl HO1.out _ N0 es0 rfl (HV0.out.keep (bch HB0.out HX1.out)) HES0.out (by omega) (by omega) HX1.out.size ?_; intro v2 w2 HO2 HG2; rw [Nat.zero_add, List.nil_append] at HO2; obtain ⟨a2, c2, rfl⟩ := own_form HO2.out; have HX2 : Hid (Below w0.heap.size w0 w2) := Lib.hid (HX1.out.grown HG2.out HX1.out.size (fun q hq => (HO1.out.lt q hq).1)); have hN := (⟨HX2.out, cell_keep HX2.out HD.out.1, cell_keep HX2.out HD.out.2⟩ : Below w0.heap.size w0 w2 ∧ w2.cell? ⟨W.heap.size, 0, none⟩ = some (.slice a0 N0 c0) ∧ w2.cell? ⟨W.heap.size, 1, none⟩ = some (.slice a1 N1 c1))
    refine hK.out _ _ ?_ (fun hS1 => ?_)
    · (exact hN)
    clear hK K hS; have hS := hS1; clear hS1
    (try simp only [rgp])
    refine rg_one 6 ⟨some 50, .call { callee := .builtin Builtin.append, args := #[.tmp 47, .tmp 49], argTypes := #[23, 23] }, 23, _, _, none⟩ (by kernel_rfl) rfl (fun K hK => ?_)
    rw [if_pos (by rfl)]; refine wp_appv (.tmp 47) (.tmp 49) 23 rfl 43 (.slice none 0 0) 24 Tryz.underlying23 Tryz.info_sl rfl w0.heap.size _ N0 es0 rfl HO2.out _ N1 es1 rfl (HV1.out.keep (bch HB0.out HX2.out)) HES1.out (by omega) (by omega) HX2.out.size ?_; intro v3 w3 HO3 HG3; rw [hN'] at HO3; obtain ⟨a3, c3, rfl⟩ := own_form HO3.out; have HX3 : Hid (Below w0.heap.size w0 w3) := Lib.hid (HX2.out.grown HG3.out HX2.out.size (fun q hq => (HO2.out.lt q hq).1)); have HB3 := Lib.hid (bch HB0.out HX3.out); have HA3 := Lib.hid (HALL.out _ _ _ HB3.out HO3.out); have hN := (⟨HX3.out, cell_keep HX3.out HD.out.1, cell_keep HX3.out HD.out.2⟩ : Below w0.heap.size w0 w3 ∧ w3.cell? ⟨W.heap.size, 0, none⟩ = some (.slice a0 N0 c0) ∧ w3.cell? ⟨W.heap.size, 1, none⟩ = some (.slice a1 N1 c1))
    refine hK.out _ _ ?_ (fun hS1 => ?_)
    · (exact hN)
    clear hK K hS; have hS := hS1; clear hS1
    (try simp only [rgp])
    refine rgw 7 ⟨some 7, .assign (.tmp 50), 23, _, _, none⟩ hS ?_
    refine wpAnyH_done (by kernel_rfl) ?_ _
    go_wp2_with (first
      | (go_at_call 19; (with_reducible refine (HSA.out _ _ _ (by have := HN60.out; omega) HA3.out).mono ?_); rintro e w4 ⟨v4, rfl, -, hb⟩; have HB4 := Lib.hid (bch HB3.out hb); have HA4 := Lib.hid (HA3.out.keep hb); have HX4 := Lib.hid (bch HX3.out hb); have HV4 := Lib.hid (HV.out.on HB4.out); have H2 := wl_begin hH.out w4 HV4.out HEP.out H0.out; have H3 := wl_new hH.out w4 HV4.out HEP.out (dW ep (secH (hW 1 ep) ++ segW ep []) [] fs17 4); clear hb)
      | (go_at_call 7; (with_reducible refine (H1.out _).mono ?_); rintro e w5 ⟨p, F5, rfl, k5, x5⟩; have K5 := Lib.hid k5; have X5 := Lib.hid x5; clear k5 x5)
      | (go_at_call 8; (with_reducible refine (rheader_any 1 ep _).mono ?_); rintro e w6 ⟨rfl, hb⟩; have K6 := Lib.hid (hH.out.below K5.out hb); have X6 := Lib.hid (X5.out.trans (Ext.below hb)); clear hb)
      | (refine wpl_store_newH rfl _ _ rfl rfl w6.heap.size rfl (hW 1 ep) rfl rfl rfl ?_; intro w7 HA7 HB7; have K7 := Lib.hid (hH.out.below K6.out HB7.out); have X7 := Lib.hid (X6.out.trans (Ext.below HB7.out)))
      | (refine wpl_load_hd (by rfl) (.tmp 11) rfl rfl (show HB w7 w6.heap.size (hW 1 ep) from HA7.out) ?_)
      | (go_at_call 9; (with_reducible refine (H2.out _ _ _ K7.out X7.out).mono ?_); rintro e w8 ⟨F8, rfl, k8, x8⟩; have K8 := Lib.hid k8; have X8 := Lib.hid (X7.out.trans x8); have HA8 := Lib.hid (show HB w8 w6.heap.size (hW 1 ep) from ⟨(x8.block _ HA7.out.lt (foot_off (hH.out.foot K6.out) (Nat.le_refl _))).trans HA7.out.1, HA7.out.2⟩); clear k8 x8)
      | (refine wpl_load_hd (by rfl) (.tmp 11) rfl rfl HA8.out ?_)
      | (go_at_call 10; (with_reducible refine (H3.out _ _ _ K8.out X8.out).mono ?_); rintro e w9 ⟨b, rfl, hw, -, -⟩; have S9 := Lib.hid hw; clear hw))
    go_loopw [14] (fun iv wr => ∃ (i : Nat) (F : Nat → Bool) (o : Int), iv = .int .i64 (i : Int) ∧ i ≤ N ∧ Hid (WL DK w4 p b ep (ls.take i) (dW ep (secH (hW 1 ep) ++ segW ep (ls.take (mI N0 i))) (ls.take i) (wsC ls (mI N0 i) i) o) F wr) ∧ Hid (Good (dW ep (secH (hW 1 ep) ++ segW ep (ls.take (mI N0 i))) (ls.take i) (wsC ls (mI N0 i) i) o))) (fun iv _ => N - (intOf iv).toNat)
    case atStart => exact ⟨0, _, _, rfl, by omega, Lib.hid (by rw [List.take_zero]; exact S9.out), Lib.hid (by rw [List.take_zero]; exact HG0.out)⟩
    case round =>
      obtain ⟨i, F, o, rfl, hi, HS, HGD⟩ := hrel
      have hd0 := cell_keep (bch HX4.out HS.out.ex.bel) HD.out.1
      by_cases hlt : (i : Int) < (N : Int)
      · obtain ⟨lb, lo, rfl, hat⟩ := HA4.out.at_ (by omega)
        obtain ⟨x, c, hc, hr⟩ := hat i (by omega)
        obtain ⟨n, hn⟩ : ∃ n, (ls.getD i []).length = n := ⟨_, rfl⟩
        rw [hn] at hc hr
        have HR := Lib.hid hr
        have HC := Lib.hid hc
        by_cases hs0 : (i : Int) = (N0 : Int)
        · obtain rfl : i = N0 := by omega
          have hb1 : (i == i) = true := by simp
          have HSY := wl_sync hH.out HGD.out (W0 := w4) (p := p) (b := b) (F := F)
          have GS := dW_good_sync HGD.out
          rw [← wsC_none ls i] at GS HSY
          obtain ⟨g2, HAP⟩ := cr_append hH.out HV4.out (p := p) (b := b) HEP.out HLB.out HG.out (i := i) (by rw [HLL.out]; omega) (Nat.le_refl i) GS hn
          have HGN := Lib.hid g2
          have HMI : Hid (mI i (i + 1) = i) := Lib.hid (by unfold mI; rw [if_neg (by omega)])
          clear hc hr hat hn GS g2
          go_wp2_with (first
            | (go_at_call 16; (with_reducible refine (HSY.out _ HS.out).mono ?_); rintro e w2 ⟨F2, rfl, hw, -⟩; have S2 := Lib.hid hw; have hc2 := cell_keep hw.ex.bel HC.out; clear hw)
            | (go_at_call 15; (with_reducible refine (HAP.out _ _ _ _ S2.out (HR.out.keep S2.out.ex.bel)).mono ?_); rintro e w3' ⟨F3, q3, rfl, hw⟩; have S3 := Lib.hid hw; clear hw))
          go_roundw
          case rel => exact ⟨i + 1, F3, _, by go_num, by omega, Lib.hid (by rw [HMI.out]; exact S3.out), Lib.hid (by rw [HMI.out]; exact HGN.out)⟩
          case measure => simp [intOf]; omega
        · obtain ⟨g2, HAP⟩ := cr_append hH.out HV4.out (p := p) (b := b) HEP.out HLB.out HG.out (i := i) (by rw [HLL.out]; omega) (mI_le N0 i) HGD.out hn
          have HGN := Lib.hid g2
          have HMI : Hid (mI N0 (i + 1) = mI N0 i) := Lib.hid (by unfold mI; split <;> split <;> omega)
          have hc2 := cell_keep HS.out.ex.bel HC.out
          clear hc hr hat hn g2
          go_wp2_with (first
            | (go_at_call 15; (with_reducible refine (HAP.out _ _ _ _ HS.out (HR.out.keep HS.out.ex.bel)).mono ?_); rintro e w3' ⟨F3, q3, rfl, hw⟩; have S3 := Lib.hid hw; clear hw))
          go_roundw
          case rel => exact ⟨i + 1, F3, _, by go_num, by omega, Lib.hid (by rw [HMI.out]; exact S3.out), Lib.hid (by rw [HMI.out]; exact HGN.out)⟩
          case measure => simp [intOf]; omega
      · obtain rfl : i = N := by omega
        have HTK : Hid (ls.take i = ls) := Lib.hid (List.take_of_length_le (by rw [HLL.out]; omega))
        rw [HTK.out] at HS HGD
        obtain ⟨a, d, hsh, had, hdf⟩ := cr_shape HEP.out H0.out HG.out (n := N0) (by have := HN60.out; have := HLL.out; omega)
        rw [HLL.out] at hsh
        rw [HT0.out] at hdf
        have HDF := Lib.hid hdf
        have HAD := Lib.hid had
        have hd1 := cell_keep (bch HX4.out HS.out.ex.bel) HD.out.2
        have hn1 : N0 ≤ i := HN60.out.2.1
        by_cases h1 : (N1 : Int) = 0
        have bn1 : ((N1 : Int) == 0) = true := by simpa using h1
        have e0 : ls0 = ls := by rw [← HT0.out]; exact List.take_of_length_le (by rw [HLL.out]; omega)
        have e2 : fs17 = wsW a d := by
          rw [← hsh, show N0 = i from by omega, wsC_none]
        have HSY := wl_sync hH.out HGD.out (W0 := w4) (p := p) (b := b) (F := F)
        have GS := dW_good_sync HGD.out
        rw [e2, show secH (hW 1 ep) ++ segW ep ls = secH (hW 1 ep) ++ segW ep ls0 from by rw [e0]] at GS HSY
        have G19 := Lib.hid GS
        clear GS e0 e2 hdf hsh
        rotate_left
        have bn1 : ((N1 : Int) == 0) = false := by simpa using h1
        have em : mI N0 i = N0 := by unfold mI; rw [if_neg (by omega)]
        rw [em, hsh, HT0.out] at HS HGD
        have S19 := HS
        have G19 := HGD
        have hdz := hd0
        clear em hdf hsh
        all_goals
          have HWT := wl_waits hH.out had G19.out (p := p)
          obtain ⟨g33, HCR⟩ := wl_crash hH.out (p := p) (segW_len ep ls0) had G19.out (ka := ka) (kl := kl) (kc := kc) HKB.out HTQ.out HCQ.out
          have HTL := wl_told hH.out HEP.out H0.out g33 (p := p)
          clear g33
          have hdn1 : ¬ (d : Int) < 0 := by omega
          have hdn2 : ¬ (16 : Int) < (d : Int) := by omega
          obtain ⟨f0, hf0⟩ : ∃ f0 : Int, (16 : Int) - (d : Int) = f0 := ⟨_, rfl⟩
          go_wp2_with (first
            | (go_at_call 16; (with_reducible refine (HSY.out _ HS.out).mono ?_); rintro e w19 ⟨F19, rfl, hw, -⟩; have S19 := Lib.hid hw; have hdz := cell_keep (bch HX4.out hw.ex.bel) HD.out.1; clear hw)
            | (go_at_call 19; (with_reducible refine (HS0.out (.slice a0 N0 c0) N0 _ (by omega) (HR0.out.keep (bch HB4.out S19.out.ex.bel))).mono ?_); rintro e w21 ⟨v21, rfl, ho, hb⟩; obtain ⟨oa, oc, rfl⟩ := own_form ho; have S21 := Lib.hid (S19.out.next hH.out hb); have FO21 := Lib.hid (FS.own (own_mask (hH.out.foot S19.out.dk) ho)); clear ho hb)
            | (go_at_call 19; (with_reducible refine (HSA.out _ _ _ (by omega) (HA4.out.keep S21.out.ex.bel)).mono ?_); rintro e w22 ⟨v22, rfl, ho, hb⟩; obtain ⟨na, nc, rfl⟩ := own_form ho; have S22 := Lib.hid (S21.out.next hH.out hb); have FO22 := Lib.hid (FO21.out.kin (kin_mask hb)); have FN22 := Lib.hid (FS.own (own_mask (hH.out.foot S21.out.dk) ho)); clear ho hb)
            | (go_at_call 17; (with_reducible refine (HWT.out _ _ S22.out.dk).mono ?_); rintro e w23 ⟨rfl, hb⟩; have S23 := Lib.hid (S22.out.next hH.out hb); have FO23 := Lib.hid (FO22.out.kin (kin_mask hb)); have FN23 := Lib.hid (FN22.out.kin (kin_mask hb)); clear hb))
          have HKM : Hid (∀ w F, Ext noF w4 w F → RI .u8 (mask F w) (.slice ka kl kc) kl kb) := Lib.hid fun w F hx => by
            have hk0 : Kin w4 (mask F w) := by have := hx.kin; rwa [mask_none] at this
            exact (HKR.out.keep HB4.out).kin hk0
          go_loopw [22, 23] (fun fv iv wr => ∃ j : Nat, fv = .int .i64 f0 ∧ iv = .int .i64 (j : Int) ∧ j ≤ 15 ∧ (0 < d → a + d ≤ j + 1) ∧ Hid (Below w23.heap.size w23 wr)) (fun _ iv _ => (intOf iv).toNat)
          case atStart => exact ⟨15, rfl, rfl, by omega, by omega, Lib.hid (Below.refl _ _)⟩
          case round =>
            obtain ⟨j, rfl, rfl, hj, hjd, HBJ⟩ := hrel
            have hj0 : (0 : Int) ≤ (j : Int) := by omega
            have hj16 : (j : Int) < 16 := by omega
            obtain ⟨ob, oo, rfl, hAO⟩ := ((FO23.out.kin (unmask _ _)).keep HBJ.out).at_ j (by omega)
            obtain ⟨nb, no, rfl, hAN⟩ := ((FN23.out.kin (unmask _ _)).keep HBJ.out).at_ j (by omega)
            obtain ⟨zO, hzO⟩ : ∃ z, secOf (segW ep ls0) j = z := ⟨_, rfl⟩
            obtain ⟨zN, hzN⟩ : ∃ z, secOf (segW ep ls) j = z := ⟨_, rfl⟩
            rw [show ((segW ep ls0).drop (j * 64)).take 64 = zO from hzO] at hAO
            rw [show ((segW ep ls).drop (j * 64)).take 64 = zN from hzN] at hAN
            have HAO := Lib.hid hAO
            have HAN := Lib.hid hAN
            clear hAO hAN
            have HLO : Hid (zO.length = 64) := Lib.hid (by rw [← hzO]; exact secOf_length _ 16 j (segW_len ep ls0) (by omega))
            have HLN : Hid (zN.length = 64) := Lib.hid (by rw [← hzN]; exact secOf_length _ 16 j (segW_len ep ls) (by omega))
            have HZE := Lib.hid (And.intro hzO hzN)
            clear hzO hzN
            by_cases hB : 0 < d ∧ a + d < j + 1
            · have hdp : (0 : Int) < (d : Int) := by omega
              have HEQ : Hid (decide (zO = zN) = true) := Lib.hid (by
                rw [← HZE.out.1, ← HZE.out.2]
                exact decide_eq_true ((HDF.out hB.1).2 j (by omega) (by omega)))
              have q1 : j - 1 ≤ 15 := by omega
              have q2 : 0 < d → a + d ≤ j - 1 + 1 := fun _ => by omega
              have q3 : (j : Int) - 1 = ((j - 1 : Nat) : Int) := by omega
              have q4 : ((j - 1 : Nat) : Int).toNat < ((j : Nat) : Int).toNat := by omega
              have Q := Lib.hid (And.intro q1 (And.intro q2 (And.intro q3 q4)))
              clear q1 q2 q3 q4
              go_wp2_with fail
              refine wp_region_held_drew (S := (fun w' => Below wr.heap.size wr w')) (by kernel_rfl) (Below.refl _ _).drew (fun hS => ?_)
              refine rgw 0 ⟨some 136, .move (.tmp 17), 48, _, _, none⟩ hS ?_
              refine rgw 1 ⟨some 137, .move (.tmp 23), 3, _, _, none⟩ hS ?_
              refine rgw 2 ⟨some 138, .indexAddr 48 (.tmp 136) (.tmp 137), 0, _, _, none⟩ hS ?_
              refine rgw 3 ⟨some 139, .load 60 (.tmp 138), 60, _, _, none⟩ hS ?_ (hy := by intro w hSw; (try dsimp only at hSw); exact exec_load_at (.tmp 138) (by rfl) (by rfl) (HAO.out.keep hSw))
              refine rgw 4 ⟨some 140, .move (.tmp 19), 48, _, _, none⟩ hS ?_
              refine rgw 5 ⟨some 141, .move (.tmp 23), 3, _, _, none⟩ hS ?_
              refine rgw 6 ⟨some 142, .indexAddr 48 (.tmp 140) (.tmp 141), 0, _, _, none⟩ hS ?_
              refine rgw 7 ⟨some 143, .load 60 (.tmp 142), 60, _, _, none⟩ hS ?_ (hy := by intro w hSw; (try dsimp only at hSw); exact exec_load_at (.tmp 142) (by rfl) (by rfl) (HAN.out.keep hSw))
              refine rgw 8 ⟨some 144, .binOp .neq 60 (.tmp 139) (.tmp 143) 60, 4, _, _, none⟩ hS ?_ (v := .bool false) (hy := by intro w hSw; (try dsimp only at hSw); exact exec_neq_val zO zN HLO.out HLN.out (.tmp 139) (.tmp 143) _ (by rfl) (by rfl) (by rfl) false (by rw [HEQ.out]; rfl))
              refine wpAnyH_done (by kernel_rfl) ?_ _
              go_wp2
              go_roundw
              case rel => exact ⟨j - 1, rfl, by rw [Q.out.2.2.1], Q.out.1, Q.out.2.1, Lib.hid HBJ.out.drew⟩
              case measure => (rw [Q.out.2.2.1]; exact Q.out.2.2.2)
            · have hAC : d = 0 ∨ (0 < d ∧ j + 1 = a + d) := by omega
              rcases hAC with hd0' | ⟨hdp', hjl⟩
              have hdz0 : ¬ (0 : Int) < (d : Int) := by omega
              have hdz1 : ¬ 0 < d := by omega
              obtain ⟨aa, haa⟩ : ∃ aa : Nat, 16 = aa := ⟨_, rfl⟩
              have HF0 : f0 = (aa : Int) := by omega
              have HAA : Hid (aa + d ≤ 16 ∧ leftW kb tq cq (segW ep ls0) (segW ep ls) a d = leftW kb tq cq (segW ep ls0) (segW ep ls) aa d) := Lib.hid ⟨by omega, by rw [hd0', left_none, left_none]⟩
              have HBQ := HBJ
              rw [HF0]
              clear haa HF0 hf0 hd0'
              obtain ⟨wq, hwq⟩ : ∃ q, wr = q := ⟨_, rfl⟩
              rw [hwq] at HBQ
              rw [hwq]
              clear hwq
              rotate_left
              focus
                have hdp : (0 : Int) < (d : Int) := by omega
                obtain ⟨t, ht⟩ : ∃ t : Int, (j : Int) - (d : Int) = t := ⟨_, rfl⟩
                have HEQ : Hid (decide (zO = zN) = false) := Lib.hid (by
                  rw [← HZE.out.1, ← HZE.out.2]
                  have h := (HDF.out hdp').1
                  rw [← hjl, Nat.add_sub_cancel] at h
                  exact decide_eq_false h)
                go_wp2_with fail
                refine wp_region_held_drew (S := (fun w' => Below wr.heap.size wr w')) (by kernel_rfl) (Below.refl _ _).drew (fun hS => ?_)
                refine rgw 0 ⟨some 136, .move (.tmp 17), 48, _, _, none⟩ hS ?_
                refine rgw 1 ⟨some 137, .move (.tmp 23), 3, _, _, none⟩ hS ?_
                refine rgw 2 ⟨some 138, .indexAddr 48 (.tmp 136) (.tmp 137), 0, _, _, none⟩ hS ?_
                refine rgw 3 ⟨some 139, .load 60 (.tmp 138), 60, _, _, none⟩ hS ?_ (hy := by intro w hSw; (try dsimp only at hSw); exact exec_load_at (.tmp 138) (by rfl) (by rfl) (HAO.out.keep hSw))
                refine rgw 4 ⟨some 140, .move (.tmp 19), 48, _, _, none⟩ hS ?_
                refine rgw 5 ⟨some 141, .move (.tmp 23), 3, _, _, none⟩ hS ?_
                refine rgw 6 ⟨some 142, .indexAddr 48 (.tmp 140) (.tmp 141), 0, _, _, none⟩ hS ?_
                refine rgw 7 ⟨some 143, .load 60 (.tmp 142), 60, _, _, none⟩ hS ?_ (hy := by intro w hSw; (try dsimp only at hSw); exact exec_load_at (.tmp 142) (by rfl) (by rfl) (HAN.out.keep hSw))
                refine rgw 8 ⟨some 144, .binOp .neq 60 (.tmp 139) (.tmp 143) 60, 4, _, _, none⟩ hS ?_ (v := .bool true) (hy := by intro w hSw; (try dsimp only at hSw); exact exec_neq_val zO zN HLO.out HLN.out (.tmp 139) (.tmp 143) _ (by rfl) (by rfl) (by rfl) true (by rw [HEQ.out]; rfl))
                refine wpAnyH_done (by kernel_rfl) ?_ _
                obtain ⟨aa, haa⟩ : ∃ aa : Nat, a = aa := ⟨_, rfl⟩
                have HAA : Hid (aa + d ≤ 16 ∧ leftW kb tq cq (segW ep ls0) (segW ep ls) a d = leftW kb tq cq (segW ep ls0) (segW ep ls) aa d) := Lib.hid ⟨by omega, by rw [haa]⟩
                have ht2 : t + 1 = (aa : Int) := by omega
                have HBQ := Lib.hid HBJ.out.drew
                obtain ⟨wq, hwq⟩ : ∃ q, World.drew wr = q := ⟨_, rfl⟩
                rw [hwq] at HBQ
                rw [hwq]
                clear hdp' hjl haa hwq
              all_goals
                have hk0 := cell_keep (bch HX4.out (bch S23.out.ex.bel HBQ.out)) HK.out.1
                have hk1 := cell_keep (bch HX4.out (bch S23.out.ex.bel HBQ.out)) HK.out.2.1
                have hk2 := cell_keep (bch HX4.out (bch S23.out.ex.bel HBQ.out)) HK.out.2.2
                have hna : ¬ (aa : Int) < 0 := by omega
                have KQ := Lib.hid (hH.out.below S23.out.dk HBQ.out)
                have XQ := Lib.hid (S23.out.ex.trans (Ext.below HBQ.out))
                have FOQ := Lib.hid (FO23.out.kin (kin_mask HBQ.out))
                have FNQ := Lib.hid (FN23.out.kin (kin_mask HBQ.out))
                go_wp2_with (first
                  | (go_at_call 22; (with_reducible refine (HCR.out _ _ KQ.out (HKM.out _ _ XQ.out)).mono ?_); rintro e w33 ⟨F33, rfl, hk, hx⟩; have K33 := Lib.hid hk; have X33 := Lib.hid (XQ.out.trans hx); have FO33 := Lib.hid (FOQ.out.kin hx.kin); have FN33 := Lib.hid (FNQ.out.kin hx.kin); clear hk hx)
                  | (go_at_call 18; (with_reducible refine (HTL.out _ _ K33.out (HV4.out.ext X33.out)).mono ?_); rintro e w34 ⟨v34, rfl, hf, hb⟩; obtain ⟨sa, sc, rfl, -⟩ := id hf; have FS34 := Lib.hid hf; have B34 := Lib.hid (bch X33.out.bel hb); have FO34 := Lib.hid ((FO33.out.kin (unmask _ _)).keep hb); have FN34 := Lib.hid ((FN33.out.kin (unmask _ _)).keep hb); clear hf hb)
                  | (refine wpl_lit_none64 rfl rfl ?_)
                  | (at_builtin; refine wpl_app_secs rfl (.tmp 172) (.tmp 173) rfl w34.heap.size (.slice (some ⟨w34.heap.size, 0, none⟩) 0 0) 0 [] rfl (own_none64 rfl (Nat.le_refl _)) _ 16 _ rfl (FO34.out.keep (balloc w34 _)) (by omega) (by omega) (by simp) ?_; intro v36 w36 HO36 HG36; rw [Nat.zero_add, List.nil_append] at HO36; obtain ⟨g36, cap36, rfl, hq36, hlo36, hcap36, hcm36⟩ := RQ.own HO36.out (segW_len ep ls0) (by omega); have RQ36 := Lib.hid hq36; have HG36b := Lib.hid (And.intro hlo36 (And.intro hcap36 hcm36)); have B36 : Hid (Below w34.heap.size w34 w36) := Lib.hid (((Below.refl _ _).alloc (Nat.le_refl _) _).grown HG36.out (by simp) (fun q hq => by simp [Value.ownBlock] at hq; omega)); clear hq36 hlo36 hcap36 hcm36))
                have HOC : Hid (16 ≤ oc ∧ 16 ≤ nc) := Lib.hid (by
                  obtain ⟨_, _, e1, _, h1, _⟩ := id FO34.out
                  obtain ⟨_, _, e2, _, h2, _⟩ := id FN34.out
                  simp only [Value.slice.injEq] at e1 e2
                  omega)
                obtain ⟨ee, hee⟩ : ∃ ee : Nat, aa + d = ee := ⟨_, rfl⟩
                have hse : (aa : Int) + (d : Int) = (ee : Int) := by omega
                have HEE : Hid (aa + d = ee ∧ aa + d ≤ 16) := Lib.hid ⟨hee, HAA.out.1⟩
                have hse2 : (ee : Int) ≤ 16 := by have := HEE.out; omega
                have hse3 : IntKind.i64.wrap (ee : Int) = (ee : Int) := by first | go_num | (simp [IntKind.wrap, IntKind.signed, IntKind.bits]; omega) | (unfold IntKind.wrap; simp [IntKind.signed, IntKind.bits]; omega)
                clear hee
                have B0 := Lib.hid (bch HX4.out (bch B34.out B36.out))
                have hm0 := cell_keep (bch B0.out (Below.refl _ _).drew) HK.out.1
                have hm1 := cell_keep (bch B0.out (Below.refl _ _).drew) HK.out.2.1
                have hm2 := cell_keep (bch B0.out (Below.refl _ _).drew) HK.out.2.2
                obtain ⟨L, hL⟩ : ∃ L, applyN kb tq cq (((segW ep ls0).drop (aa * 64)).take (d * 64)) (((segW ep ls).drop (aa * 64)).take (d * 64)) d = L := ⟨_, rfl⟩
                have HLL2 := Lib.hid hL
                clear hL
                obtain ⟨vo, hvo⟩ : ∃ v, sliced (some ⟨ob, oo, none⟩) aa (aa + d) oc 64 = v := ⟨_, rfl⟩
                obtain ⟨vn, hvn⟩ : ∃ v, sliced (some ⟨nb, no, none⟩) aa (aa + d) nc 64 = v := ⟨_, rfl⟩
                have HVO := Lib.hid hvo
                have HVN := Lib.hid hvn
                clear hvo hvn
                have HAPL : Hid (∀ w, Below w36.heap.size w36 w → Calls Tryz.prog 23 #[vo, vn, .agg #[.slice ka kl kc, .int .i64 tq, .int .i64 cq]] w fun e w' => ∃ v', e = .returned v' ∧ w'.ownsRow w.heap.size 60 64 v' d (il .u8 L) ∧ Below w.heap.size w w') := Lib.hid fun w hb => by
                  have := rapply_own _ _ (.slice ka kl kc) d d kl _ _ kb tq cq w (((FO34.out.keep B36.out).keep hb).mid aa d HEE.out.2) (((FN34.out.keep B36.out).keep hb).mid aa d HEE.out.2) (HKR.out.keep (bch HB4.out (bch B34.out (bch B36.out hb)))) HKB.out HTQ.out HCQ.out (by have := HEE.out.2; omega) (by have := HEE.out.2; omega)
                  rwa [Nat.min_self, HLL2.out, HVO.out, HVN.out] at this
                clear hk0 hk1 hk2
                go_wp2_with fail
                refine wp_region_held_drew (S := (fun w' => Below w36.heap.size w36 w' ∧ w'.cell? ⟨W.heap.size + 1, 0, none⟩ = some (.slice ka kl kc) ∧ w'.cell? ⟨W.heap.size + 1, 1, none⟩ = some (.int .i64 tq) ∧ w'.cell? ⟨W.heap.size + 1, 2, none⟩ = some (.int .i64 cq))) (by kernel_rfl) ⟨(Below.refl _ _).drew, hm0, hm1, hm2⟩ (fun hS => ?_)
                refine rgw 0 ⟨some 175, .move (.tmp 17), 48, _, _, none⟩ hS ?_
                refine rgw 1 ⟨some 176, .move (.tmp 22), 3, _, _, none⟩ hS ?_
                refine rgw 2 ⟨some 177, .move (.tmp 22), 3, _, _, none⟩ hS ?_
                refine rgw 3 ⟨some 178, .move (.tmp 21), 3, _, _, none⟩ hS ?_
                refine rgw 4 ⟨some 179, .binOp .add 3 (.tmp 177) (.tmp 178) 3, 3, _, _, none⟩ hS ?_ (v := .int .i64 (ee : Int)) (hy := by intro w hSw; (try dsimp only at hSw); go_simp; (try rw [hse]); (try exact hse3))
                refine rgw 5 ⟨some 180, .slice 48 (.tmp 175) (some (.tmp 176)) (some (.tmp 179)) none, 48, _, _, none⟩ hS ?_ (v := vo) (hy := by intro w hSw; (try dsimp only at hSw); rw [← HVO.out]; exact exec_cuts_e (.tmp 175) (.tmp 176) (.tmp 179) (by rfl) (some ⟨ob, oo, none⟩) 16 oc aa d ee (by rfl) (by rfl) (by rfl) HEE.out.1 (Nat.le_trans HEE.out.2 HOC.out.1))
                refine rgw 6 ⟨some 181, .move (.tmp 19), 48, _, _, none⟩ hS ?_
                refine rgw 7 ⟨some 182, .move (.tmp 22), 3, _, _, none⟩ hS ?_
                refine rgw 8 ⟨some 183, .move (.tmp 22), 3, _, _, none⟩ hS ?_
                refine rgw 9 ⟨some 184, .move (.tmp 21), 3, _, _, none⟩ hS ?_
                refine rgw 10 ⟨some 185, .binOp .add 3 (.tmp 183) (.tmp 184) 3, 3, _, _, none⟩ hS ?_ (v := .int .i64 (ee : Int)) (hy := by intro w hSw; (try dsimp only at hSw); go_simp; (try rw [hse]); (try exact hse3))
                refine rgw 11 ⟨some 186, .slice 48 (.tmp 181) (some (.tmp 182)) (some (.tmp 185)) none, 48, _, _, none⟩ hS ?_ (v := vn) (hy := by intro w hSw; (try dsimp only at hSw); rw [← HVN.out]; exact exec_cuts_e (.tmp 181) (.tmp 182) (.tmp 185) (by rfl) (some ⟨nb, no, none⟩) 16 nc aa d ee (by rfl) (by rfl) (by rfl) HEE.out.1 (Nat.le_trans HEE.out.2 HOC.out.2))
                refine rgw 12 ⟨some 187, .load 58 (.tmp 5), 58, _, _, none⟩ hS ?_
                refine rg_one 13 ⟨some 188, .call { callee := .value (.func 23), args := #[.tmp 180, .tmp 186, .tmp 187], argTypes := #[48, 48, 58] }, 48, _, _, none⟩ (by kernel_rfl) rfl (fun K hK => ?_)
                go_simp
                (go_at_call 23; (with_reducible refine (HAPL.out _ hS.1).mono ?_); rintro e w37 ⟨v37, rfl, ho, hb⟩; obtain ⟨xa, xc, rfl⟩ := own_form ho; have B37 := Lib.hid (bch hS.1 hb); have L37 := Lib.hid (own_mono ho hS.1.size); have hN := (⟨bch hS.1 hb, cell_keep hb hS.2.1, cell_keep hb hS.2.2.1, cell_keep hb hS.2.2.2⟩ : Below w36.heap.size w36 w37 ∧ w37.cell? ⟨W.heap.size + 1, 0, none⟩ = some (.slice ka kl kc) ∧ w37.cell? ⟨W.heap.size + 1, 1, none⟩ = some (.int .i64 tq) ∧ w37.cell? ⟨W.heap.size + 1, 2, none⟩ = some (.int .i64 cq)); clear ho hb)
                refine hK.out _ _ ?_ (fun hS1 => ?_)
                · (exact hN)
                clear hK K hS; have hS := hS1; clear hS1
                (try simp only [rgp])
                refine rgw 14 ⟨some 27, .assign (.tmp 188), 48, _, _, none⟩ hS ?_
                refine wpAnyH_done (by kernel_rfl) ?_ _
                have HXL : Hid ((L.length = d * 64 ∧ True) ∧ True) := Lib.hid ⟨⟨by have := L37.out.1; rwa [il_length] at this, trivial⟩, trivial⟩
                have RQ37 : Hid (RQ w37 g36 (wantK (segW ep ls0) L aa 0)) := Lib.hid (by rw [wantK_zero]; exact RQ36.out.keep B37.out)
                go_wp2
                go_loopw [28] (fun iv wr4 => ∃ k : Nat, iv = .int .i64 (k : Int) ∧ k ≤ d ∧ Hid (RQ wr4 g36 (wantK (segW ep ls0) L aa k)) ∧ Hid (wr4.ownsRow w36.heap.size 60 64 (.slice xa d xc) d (il .u8 L)) ∧ Hid (Below w34.heap.size w34 wr4)) (fun iv _ => d - (intOf iv).toNat)
                case atStart => exact ⟨0, rfl, by omega, RQ37, L37, Lib.hid (bch B36.out B37.out)⟩
                case round =>
                  rename World => wl
                  obtain ⟨k, rfl, hkd, HW, HL, HBL⟩ := hrel
                  by_cases hkl : (k : Int) < (d : Int)
                  · obtain ⟨q, hq⟩ : ∃ q : Nat, aa + k = q := ⟨_, rfl⟩
                    have hqi : (aa : Int) + (k : Int) = (q : Int) := by omega
                    have hq16 : (q : Int) < 16 := by have := HEE.out.2; omega
                    obtain ⟨xb, xo, rfl, hAX⟩ := (FS.own HL.out).at_ k (by omega)
                    obtain ⟨z, hz⟩ : ∃ z, (L.drop (k * 64)).take 64 = z := ⟨_, rfl⟩
                    rw [hz] at hAX
                    have HAX := Lib.hid hAX
                    have HLZ : Hid (z.length = 64) := Lib.hid hAX.1
                    have HNX : Hid (splice (wantK (segW ep ls0) L aa k) (q * 64) z = wantK (segW ep ls0) L aa (k + 1) ∧ True) := Lib.hid ⟨by rw [← hq, ← hz]; exact wantK_next (segW_len ep ls0) HXL.out.1.1 HEE.out.2 k (by omega), trivial⟩
                    have HKL : Hid ((wantK (segW ep ls0) L aa k).length = 16 * 64 ∧ True) := Lib.hid ⟨wantK_len (segW_len ep ls0) HXL.out.1.1 HEE.out.2 k (by omega), trivial⟩
                    have HQ16 : Hid (q < 16) := Lib.hid (by omega)
                    clear hAX hz hq
                    go_wp2_with (first
                      | (refine wpl_load_at rfl (.tmp 200) rfl xb _ rfl z HAX.out ?_)
                      | (refine wpl_put_rq rfl _ _ rfl g36 16 q _ z HW.out HKL.out.1 HQ16.out HLZ.out (q * 64) rfl rfl rfl ?_; intro w5 HW5 hg5; have HW6 : Hid (RQ w5 g36 (wantK (segW ep ls0) L aa (k + 1))) := Lib.hid (HNX.out.1 ▸ HW5.out); have HL6 := Lib.hid (own_over HL.out hg5.out (fun qq hqq e => by have h1 := (HL.out.lt qq hqq).1; have h2 := RQ36.out.lt; have h3 := Option.some.inj e; omega)); have HBL6 := Lib.hid (below_grown HBL.out hg5.out HG36b.out.1 HBL.out.size); clear hg5 HW5))
                    go_roundw
                    case rel => exact ⟨k + 1, by go_num, by omega, HW6, HL6, HBL6⟩
                    case measure => simp [intOf]; omega
                  · obtain rfl : k = d := by omega
                    have HFW : Hid (FS wl (.slice (some ⟨g36, 0, none⟩) 16 cap36) 16 (leftW kb tq cq (segW ep ls0) (segW ep ls) a k)) := Lib.hid (by
                      have h := HW.out.fs (n := 16) (wantK_len (segW_len ep ls0) HXL.out.1.1 HEE.out.2 k (Nat.le_refl _)) HG36b.out.2.1 HG36b.out.2.2
                      rw [wantK_all HXL.out.1.1, ← HLL2.out] at h
                      rw [HAA.out.2]
                      exact h)
                    go_wp2_with (first
                      | (go_at_call 21; (with_reducible refine (same_true _ _ 16 _ _ (FS34.out.keep HBL.out) HFW.out).mono ?_); rintro e w8 ⟨rfl, hb⟩; have B8 := Lib.hid (bch HBL.out hb); clear hb)
                      | (go_at_call 6; (with_reducible refine (HAW.out _ (bch HB4.out (bch B34.out B8.out))).mono ?_); rintro e w9' ⟨rfl, hb⟩; have B9 := Lib.hid (bch HB4.out (bch B34.out (bch B8.out hb))); clear hb))
                    go_ret
                    exact ⟨rfl, B9.out⟩
end Go.Proofs.YtgegbpnmfpjdmaaGreatDoor
