/-
  TEXTS JOINED: WrLaw, WrAwake. Each one's own words stand at its head.
-/
import Derived.Test.YtgegbpnmfpjdmaaGreatDoorJ21
namespace Go.Proofs.YtgegbpnmfpjdmaaGreatDoor
open Go.RowKit
variable {DK : World → Addr → (Nat → Bool) → AD → Prop}
abbrev wal1 : ByteArray := ⟨#[119, 97, 108, 45, 49]⟩
theorem wal1_eq : walB 1 = wal1 := wal_lits.1
theorem wal1_size : wal1.size ≤ 281474976710656 := by decide
theorem wal1_ne : wal1 ≠ noS := by decide
theorem hW_typed {ep : Int} (h : U64 ep) : HdT (hW 1 ep) := ⟨h, by unfold I63 hW; simp, by unfold I63 hW; simp, rfl, fun x hx => by
  simp only [hW, List.mem_cons, List.not_mem_nil, or_false] at hx
  unfold I63
  omega⟩
theorem hW_ok {ep : Int} (h0 : ep ≠ 0) : hdOk (hW 1 ep) = true := hdOk_of h0 (show lsn 1 = true by decide) (show lsn 1 = true by decide) fun x hx => by
  simp only [hW, List.mem_cons, List.not_mem_nil, or_false] at hx
  show 0 ≤ x ∧ x < 1
  omega
noncomputable abbrev dW (ep : Int) (las : List Int) (ls : List (List Int)) (ws : List Bool) (o : Int) : AD := lone wal1 las (secH (hW 1 ep) ++ segW ep ls) ws o
theorem begin_dW {ep : Int} (h : U64 ep) (h0 : ep ≠ 0) : (AD.newD 17).beginR (hW 1 ep) = (dW ep (secH (hW 1 ep) ++ segW ep []) [] fs17 4, 0) := by
  have h1 := lone_begin (hW_typed h) (hW_ok h0)
  rw [show (hW 1 ep).s = 1 from rfl, wal1_eq] at h1
  rw [h1]
  have h2 : layL (hW 1 ep) 0 [] = secH (hW 1 ep) ++ segW ep [] := by rw [segW_nil]; unfold layL; rw [List.append_nil]
  rw [h2]
abbrev WL (DK : World → Addr → (Nat → Bool) → AD → Prop) (W0 : World) (p : Addr) (b : Nat) (ep : Int) (ls : List (List Int)) (d : AD) (F : Nat → Bool) (w : World) : Prop := WS DK W0 p b wal1 ep (bodyF (ep % 4294967296) ls) (endF ls) d F w
section
variable {ep : Int} {las : List Int} {ls : List (List Int)} {ws : List Bool} {o : Int} {z : List Int}
theorem dW_write (hfit : fitI (endF ls : Nat) z.length = true) :
    (dW ep las ls ws o).writeR wal1 ((1 + endF ls / 52 : Nat) : Int) ((endF (ls ++ [z]) - 1) / 52 + 1 - endF ls / 52) (writeB ep (bodyF (ep % 4294967296) (ls ++ [z])) (endF ls / 52) ((endF (ls ++ [z]) - 1) / 52 + 1 - endF ls / 52)) =
      (dW ep las (ls ++ [z]) (ws.take (1 + endF ls / 52) ++ List.replicate ((endF (ls ++ [z]) - 1) / 52 + 1 - endF ls / 52) true ++ ws.drop (1 + endF ls / 52 + ((endF (ls ++ [z]) - 1) / 52 + 1 - endF ls / 52))) (wrap64 (o + 1)), 0) := by
  have hgt := end_gt hfit
  rw [nr_nat _ (endF_le ls), ← endF_snoc] at hgt
  have hpre : (bodyF (ep % 4294967296) (ls ++ [z])).take (endF ls) = (bodyF (ep % 4294967296) ls).take (endF ls) := by
    have h := layR_take (ep := ep % 4294967296) (zs := z) (x := ((endF ls : Nat) : Int)) (bodyF_len (ep % 4294967296) ls)
    rw [nr_nat _ (endF_le ls)] at h
    rw [bodyF_snoc]; exact h
  have hs := whole_step_h ep (H := secH (hW 1 ep)) (B := bodyF (ep % 4294967296) ls) (B' := bodyF (ep % 4294967296) (ls ++ [z])) (secH_length (h := hW 1 ep) rfl) hgt.1 hgt.2 hpre (endF ls / 52) ((endF (ls ++ [z]) - 1) / 52 + 1 - endF ls / 52) rfl (by omega)
  rw [lone_write _ _ (by omega)]
  show (lone wal1 las _ _ _, (0 : Int)) = (lone wal1 las _ _ _, (0 : Int))
  unfold segW
  rw [hs]
theorem dW_good (hg : Good (dW ep las ls ws o)) (hep : isB z) (hb : ∀ l ∈ ls, isB l) (hfit : fitI (endF ls : Nat) z.length = true) :
    Good (dW ep las (ls ++ [z]) (ws.take (1 + endF ls / 52) ++ List.replicate ((endF (ls ++ [z]) - 1) / 52 + 1 - endF ls / 52) true ++ ws.drop (1 + endF ls / 52 + ((endF (ls ++ [z]) - 1) / 52 + 1 - endF ls / 52))) (wrap64 (o + 1))) := by
  have h := hg.write wal1 ((1 + endF ls / 52 : Nat) : Int) ((endF (ls ++ [z]) - 1) / 52 + 1 - endF ls / 52) (writeB ep (bodyF (ep % 4294967296) (ls ++ [z])) (endF ls / 52) ((endF (ls ++ [z]) - 1) / 52 + 1 - endF ls / 52)) (writeB_length _ _ _ _) (writeB_bytes ep (isB_bytes (by
    have := bodyF_bytes (ep := ep % 4294967296) (ls ++ [z]) (fun l hl => by
      rcases List.mem_append.1 hl with h | h
      · exact hb l h
      · rw [List.mem_singleton.1 h]; exact hep) (ls ++ [z]).length (Nat.le_refl _)
    rwa [List.take_length] at this)) _ _)
  rwa [dW_write hfit] at h
theorem dW_sync : (dW ep las ls ws o).syncR wal1 = (dW ep (secH (hW 1 ep) ++ segW ep ls) ls fs17 (wrap64 (o + 1)), 0) := lone_sync
theorem dW_good_sync (hg : Good (dW ep las ls ws o)) : Good (dW ep (secH (hW 1 ep) ++ segW ep ls) ls fs17 (wrap64 (o + 1))) := by
  have h := hg.sync wal1
  rwa [dW_sync] at h
theorem dW_tells (h : U64 ep) (h0 : ep ≠ 0) : headI (dW ep las ls ws o) 1 = (hW 1 ep, 0) ∧ dataI (dW ep las ls ws o) 1 = segW ep ls := by
  have := lone_tells (hW_typed h) (hW_ok h0) las (segW ep ls) ws o
  rwa [show (hW 1 ep).s = 1 from rfl, wal1_eq] at this
end
theorem wl_append (H : DiskSays DK) {W0 : World} {p : Addr} {b : Nat} {ep : Int} (hep : U64 ep) {las : List Int} {ls : List (List Int)} (hlb : ∀ l ∈ ls, isB l) {ws : List Bool} {o : Int} (hg : Good (dW ep las ls ws o)) {dv : Value} {n : Nat} {z : List Int} (hzb : isB z)
    (hfit : fitI (endF ls : Nat) n = true) {F : Nat → Bool} {w : World} (h : WL DK W0 p b ep ls (dW ep las ls ws o) F w) (ht : Tab w) (hri : RI .u8 w dv n z) :
    Calls Tryz.prog 15 #[wP b, dv] w fun e w' => ∃ F', e = .returned (.tuple #[.int .i64 (beginN (endF ls) : Nat), .int .i64 0]) ∧
      WL DK W0 p b ep (ls ++ [z]) (dW ep las (ls ++ [z]) (ws.take (1 + endF ls / 52) ++ List.replicate ((endF (ls ++ [z]) - 1) / 52 + 1 - endF ls / 52) true ++ ws.drop (1 + endF ls / 52 + ((endF (ls ++ [z]) - 1) / 52 + 1 - endF ls / 52))) (wrap64 (o + 1))) F' w' ∧ Ext (orB F b) w w' (orB F' b) := by
  have hn := hri.length
  subst hn
  have hbb : isB (bodyF (ep % 4294967296) ls) := by
    have := bodyF_bytes (ep := ep % 4294967296) ls hlb ls.length (Nat.le_refl _)
    rwa [List.take_length] at this
  exact wappend_yes H W0 p b wal1 wal1_size ep hep (bodyF (ep % 4294967296) ls) (bodyF_len _ _) (isB_bytes hbb) (endF ls) (endF_le ls) _ _ hg dv z.length z hzb hfit (endF (ls ++ [z])) (endF_snoc ls z).symm (bodyF (ep % 4294967296) (ls ++ [z])) (bodyF_snoc _ ls z).symm (dW_write hfit) F w h ht hri
end Go.Proofs.YtgegbpnmfpjdmaaGreatDoor
namespace Go.Proofs.YtgegbpnmfpjdmaaGreatDoor
open Go.RowKit
variable {DK : World → Addr → (Nat → Bool) → AD → Prop}
theorem end_here {x : Int} {n : Nat} (hb : beginN (nr x) ≠ 832) (hn : n ≤ leftN (beginN (nr x)) - 11) : fitI x n = true ∧ endI x n = beginN (nr x) + 11 + n := by
  have h0 : Run (nr x) n 0 := Run.zero (nr_le x)
  have h1 := h0.next (.inl rfl) hb
  have hf : fS (nr x) n (0 + 1) = n := by
    rw [fS_next, fS_zero]
    show 0 + min (n - 0) (leftN (beginN (nr x)) - 11) = n
    omega
  obtain ⟨hfit, hc⟩ := h1.end_ (nr_le x) (by omega) hf
  have hcut := cuts_cnt (nr_le x) hfit
  rw [hc] at hcut
  obtain ⟨q1, _, q3⟩ := told_yes hcut hfit
  refine ⟨q1, q3.trans ?_⟩
  rw [pS_next, fS_zero]
  show beginN (nr x) + 11 + min (n - 0) (leftN (beginN (nr x)) - 11) = _
  omega
def w10 : List Int := List.replicate 10 0
theorem w10_len : w10.length = 10 := List.length_replicate
theorem w10_b : isB w10 := fun x hx => by have := List.eq_of_mem_replicate hx; omega
theorem w10_one : fitI (endF [] : Nat) (10 : Nat) = true ∧ endF [w10] = 21 := by
  have h := end_here (x := ((0 : Nat) : Int)) (n := 10) (by decide) (by decide)
  refine ⟨h.1, ?_⟩
  have e := endF_snoc [] w10
  rw [List.nil_append, endF_nil, w10_len] at e
  rw [e]
  exact h.2
theorem w10_two : fitI (endF [w10] : Nat) (10 : Nat) = true ∧ endF [w10, w10] = 42 := by
  have h := end_here (x := ((21 : Nat) : Int)) (n := 10) (by decide) (by decide)
  rw [w10_one.2]
  refine ⟨h.1, ?_⟩
  have e := endF_snoc [w10] w10
  rw [show [w10] ++ [w10] = [w10, w10] from rfl, w10_one.2, w10_len] at e
  rw [e]
  exact h.2
theorem good_begin {ep : Int} (h : U64 ep) (h0 : ep ≠ 0) : Good (dW ep (secH (hW 1 ep) ++ segW ep []) [] fs17 4) := by
  have := (Good.new 17 (by unfold I63; omega)).begin (hW_typed h)
  rwa [begin_dW h h0] at this
section
variable {w : World}
theorem wl_begin (H : DiskSays DK) (W0 : World) (hvt : VT W0) {ep : Int} (h : U64 ep) (h0 : ep ≠ 0) : Hid (∀ w p F, DK w p F (AD.newD 17) → Ext noF W0 w F → Calls Tryz.prog 9 #[ptr p, .agg (hv (hW 1 ep))] w fun e w' => ∃ F', e = .returned (.int .i64 0) ∧ DK w' p F' (dW ep (secH (hW 1 ep) ++ segW ep []) [] fs17 4) ∧ Ext F w w' F') := Lib.hid fun w p F q1 q2 => by
  have := sbegin_any H W0 w p F _ (hW 1 ep) q1 (Good.new 17 (by unfold I63; omega)) hvt q2 (hW_typed h)
  rwa [begin_dW h h0] at this
theorem wl_new (H : DiskSays DK) (W0 : World) (hvt : VT W0) {ep : Int} (h : U64 ep) (d : AD) : Hid (∀ w p F, DK w p F d → Ext noF W0 w F → Calls Tryz.prog 10 #[ptr p, .agg (hv (hW 1 ep)), .slice none 0 0, .int .i64 0] w fun e w' => ∃ b, e = .returned (wP b) ∧ WL DK W0 p b ep [] d F w' ∧ w.heap.size ≤ b ∧ Below w.heap.size w w') := Lib.hid fun w p F q1 q2 => by
  have := wnew_yes H W0 w p F d (hW 1 ep) (hW_typed h) wal1 wal1_eq wal1_ne (.slice none 0 0) 0 [] (RI.nil _ _) 0 (hvt.ext q2).vars q1 q2
  exact this
end
set_option maxRecDepth 8000 in
set_option maxHeartbeats 2000000 in
theorem wawake_any (H : DiskSays DK) (w : World) (hvt : VT w) :
    Calls Tryz.prog 6 #[] w fun e w' => e = .returned (.bool true) ∧ Below w.heap.size w w' := by
  have hH := Lib.hid H
  have HV := Lib.hid hvt
  have hu : U64 5 := by unfold U64; omega
  have H1 : Hid (∀ w, Calls Tryz.prog 7 #[.int .i64 17] w fun e w' => ∃ p F, e = .returned (ptr p) ∧ DK w' p F (AD.newD 17) ∧ Ext noF w w' F) := Lib.hid fun w => H.new 17 w (by unfold I63; omega)
  have H2 := wl_begin H w hvt (ep := 5) hu (by decide)
  have H3 := wl_new H w hvt (ep := 5) hu (dW 5 (secH (hW 1 5) ++ segW 5 []) [] fs17 4)
  have g0 := good_begin (ep := 5) hu (by decide)
  have f1 : fitI (endF [] : Nat) w10.length = true := by rw [w10_len]; exact w10_one.1
  have g1 := dW_good g0 w10_b (by simp) f1
  have H4 : Hid (∀ p b F w' v, WL DK w p b 5 [] (dW 5 (secH (hW 1 5) ++ segW 5 []) [] fs17 4) F w' → Tab w' → RI .u8 w' v 10 w10 → _) := Lib.hid fun p b F w' v q1 q2 q3 =>
    wl_append H hu (by simp) g0 w10_b w10_one.1 q1 q2 q3
  rw [List.nil_append] at H4 g1
  obtain ⟨d1, hd1⟩ : ∃ ws1, fs17.take (1 + endF [] / 52) ++ List.replicate ((endF [w10] - 1) / 52 + 1 - endF [] / 52) true ++ fs17.drop (1 + endF [] / 52 + ((endF [w10] - 1) / 52 + 1 - endF [] / 52)) = ws1 := ⟨_, rfl⟩
  rw [hd1] at H4 g1
  have H5 : Hid (∀ p b F w' v, WL DK w p b 5 [w10] (dW 5 (secH (hW 1 5) ++ segW 5 []) [w10] d1 (wrap64 (4 + 1))) F w' → Tab w' → RI .u8 w' v 10 w10 → _) := Lib.hid fun p b F w' v q1 q2 q3 =>
    wl_append H hu (by intro l hl; rw [List.mem_singleton.1 hl]; exact w10_b) g1 w10_b w10_two.1 q1 q2 q3
  rw [show [w10] ++ [w10] = [w10, w10] from rfl, w10_one.2, show beginN 21 = 21 from rfl] at H5
  rw [show endF [] = 0 from rfl, show beginN 0 = 0 from rfl] at H4
  have HE := Lib.hid w10_two.2
  clear g0 g1 f1 hu hvt hd1
  go_enter Tryz.func6, Tryz.ntmps6
  go_wp2_with (first
    | (go_at_call 7; (with_reducible refine (H1.out _).mono ?_); rintro e w1 ⟨p, F1, rfl, k1, x1⟩; have K1 := Lib.hid k1; have X1 := Lib.hid x1; clear k1 x1)
    | (go_at_call 8; (with_reducible refine (rheader_any 1 5 _).mono ?_); rintro e w2 ⟨rfl, hb⟩; have K2 := Lib.hid (hH.out.below K1.out hb); have X2 := Lib.hid (X1.out.trans (Ext.below hb)); clear hb)
    | (refine wpl_store_newH rfl _ _ rfl rfl w2.heap.size rfl (hW 1 5) rfl rfl rfl ?_; intro w3 HA3 HB3; have K3 := Lib.hid (hH.out.below K2.out HB3.out); have X3 := Lib.hid (X2.out.trans (Ext.below HB3.out)))
    | (refine wpl_load_hd (by rfl) (.tmp 2) rfl rfl (show HB w3 w2.heap.size (hW 1 5) from HA3.out) ?_)
    | (go_at_call 9; (with_reducible refine (H2.out _ _ _ K3.out X3.out).mono ?_); rintro e w4 ⟨F4, rfl, k4, x4⟩; have K4 := Lib.hid k4; have X4 := Lib.hid (X3.out.trans x4); have HA4 := Lib.hid (show HB w4 w2.heap.size (hW 1 5) from ⟨(x4.block _ HA3.out.lt (foot_off (hH.out.foot K2.out) (Nat.le_refl _))).trans HA3.out.1, HA3.out.2⟩); clear k4 x4)
    | (refine wpl_load_hd (by rfl) (.tmp 2) rfl rfl HA4.out ?_)
    | (go_at_call 10; (with_reducible refine (H3.out _ _ _ K4.out X4.out).mono ?_); rintro e w5 ⟨b, rfl, hw, _, _⟩; have S5 := Lib.hid hw; clear hw)
    | (refine wpl_mk_yb rfl _ _ rfl 10 rfl rfl (by omega) ?_; intro g6 w6 HY6 HG6 HB6; have S6 := Lib.hid (S5.out.next hH.out HB6.out); have HR6 : Hid (RI .u8 w6 (.slice (some ⟨g6, 0, none⟩) 10 10) 10 w10) := Lib.hid (HY6.out.ri w10_len (by omega)))
    | (go_at_call 15; (with_reducible refine (H4.out _ _ _ _ _ S6.out (HV.out.ext S6.out.ex).tab HR6.out).mono ?_); rintro e w7 ⟨F7, rfl, hw, _⟩; have S7 := Lib.hid hw; clear hw)
    | (refine wpl_mk_yb rfl _ _ rfl 10 rfl rfl (by omega) ?_; intro g8 w8 HY8 HG8 HB8; have S8 := Lib.hid (S7.out.next hH.out HB8.out); have HR8 : Hid (RI .u8 w8 (.slice (some ⟨g8, 0, none⟩) 10 10) 10 w10) := Lib.hid (HY8.out.ri w10_len (by omega)))
    | (go_at_call 15; (with_reducible refine (H5.out _ _ _ _ _ S8.out (HV.out.ext S8.out.ex).tab HR8.out).mono ?_); rintro e w9 ⟨F9, rfl, hw, _⟩; have S9 := Lib.hid hw; clear hw)
    | (go_at_call 13; (with_reducible refine (wend_any S9.out).mono ?_); rintro e w' ⟨rfl, rfl⟩; rw [HE.out]))
  go_ret
  exact ⟨rfl, S9.out.ex.bel⟩
end Go.Proofs.YtgegbpnmfpjdmaaGreatDoor
