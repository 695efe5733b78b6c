import Derived.Test.YtgegbpnmfpjdmaaGreatDoorJ24
namespace Go.Proofs.YtgegbpnmfpjdmaaGreatDoor
open Go.RowKit
variable {DK : World → Addr → (Nat → Bool) → AD → Prop}
theorem make_wal1 : (AD.newD 17).makeR wal1 17 = (lone wal1 (List.replicate (17 * 64) 0) (List.replicate (17 * 64) 0) fs17 1, 0) := by kernel_rfl
theorem fit_nr (x n : Int) : fitI (nr x : Nat) n = fitI x n := by unfold fitI; rw [nr_nat _ (nr_le x)]
theorem pad8_isb {bs : List Int} (h : isB bs) : isB (pad8 bs) := by
  unfold pad8 splice
  have hz : isB z832 := fun x hx => by have := List.eq_of_mem_replicate hx; omega
  exact (hz.take _).append ((h.take _).append (hz.drop _))
set_option maxRecDepth 8000 in
set_option maxHeartbeats 4000000 in
theorem nobody_walk (H : DiskSays DK) (bv : Value) (bn : Nat) (bs : List Int) (en : Int) (dv : Value) (n : Nat) (zs : List Int) (w : World) (hrb : RI .u8 w bv bn bs) (hbb : isB bs) (hen : I63 en) (hrd : RI .u8 w dv n zs) (hzb : isB zs) (hvt : VT w) :
    Calls Tryz.prog 5 #[bv, .int .i64 en, dv] w fun e w' => e = .returned (.bool true) ∧ Below w.heap.size w w' := by
  have hH := Lib.hid H
  have HV := Lib.hid hvt
  have hnl := hrd.le
  obtain ⟨da, dc, rfl, _⟩ := id hrd
  obtain ⟨ba, bc, rfl, _⟩ := id hrb
  have HAW : Hid (∀ W, Below w.heap.size w W → Calls Tryz.prog 6 #[] W fun e w' => e = .returned (.bool true) ∧ Below W.heap.size W w') := Lib.hid fun W hb => wawake_any H W (hvt.on hb)
  by_cases hn : (1000 : Int) < (n : Int)
  · clear hrb hbb hen hrd hzb hvt
    go_enter Tryz.func5, Tryz.ntmps5
    go_wp2_with (first
      | (go_at_call 6; (with_reducible refine (HAW.out _ (Below.refl _ _)).mono ?_); rintro e w1 ⟨rfl, hb⟩; have HB1 := Lib.hid hb; clear hb))
    go_ret
    exact ⟨rfl, HB1.out⟩
  have hu1 : U64 1 := by unfold U64; omega
  have hu7 : U64 7 := by unfold U64; omega
  have HN1 : Hid (∀ W, Below w.heap.size w W → Calls Tryz.prog 10 #[.pointer none, .agg (hv (hW 1 1)), .slice ba bn bc, .int .i64 en] W fun e w' => e = .returned (.pointer none) ∧ Below W.heap.size W w') := Lib.hid fun W hb =>
    wnew_no W _ (hW 1 1) (hW_typed hu1) wal1 wal1_eq _ en (hvt.on hb).vars (.inl rfl)
  have HN2 : Hid (∀ W p, Below w.heap.size w W → Calls Tryz.prog 10 #[ptr p, .agg #[.int .u64 0, .int .i64 0, .int .i64 0, .int .i64 0, .int .i64 0, .int .i64 0, .int .i64 0], .slice ba bn bc, .int .i64 en] W fun e w' => e = .returned (.pointer none) ∧ Below W.heap.size W w') := Lib.hid fun W p hb =>
    wnew_no W (ptr p) noH ⟨by unfold U64 noH; simp, by unfold I63 noH; simp, by unfold I63 noH; simp, rfl, fun x hx => by
      simp only [noH, List.mem_cons, List.not_mem_nil, or_false] at hx
      unfold I63
      omega⟩ noS (wal_out (by show ¬ (1 ≤ (0 : Int) ∧ (0 : Int) ≤ 2147483647); omega)) _ en (hvt.on hb).vars (.inr ⟨rfl, p, rfl⟩)
  have H9 : Hid (∀ w, Calls Tryz.prog 7 #[.int .i64 9] w fun e w' => ∃ p F, e = .returned (ptr p) ∧ DK w' p F (AD.newD 9) ∧ Ext noF w w' F) := Lib.hid fun w => H.new 9 w (by unfold I63; omega)
  have H1 : Hid (∀ w, Calls Tryz.prog 7 #[.int .i64 17] w fun e w' => ∃ p F, e = .returned (ptr p) ∧ DK w' p F (AD.newD 17) ∧ Ext noF w w' F) := Lib.hid fun w => H.new 17 w (by unfold I63; omega)
  have g0 := (Good.new 17 (by unfold I63; omega)).make wal1 17
  rw [make_wal1] at g0
  have H2 : Hid (∀ w p F, DK w p F (AD.newD 17) → Calls Tryz.prog 24 #[ptr p, .string wal1, .int .i64 17] w fun e w' => ∃ F', e = .returned (.int .i64 0) ∧ DK w' p F' (lone wal1 (List.replicate (17 * 64) 0) (List.replicate (17 * 64) 0) fs17 1) ∧ Ext F w w' F') := Lib.hid fun w p F h => by
    have := H.make w p F _ wal1 17 h (Good.new 17 (by unfold I63; omega)) wal1_size (by unfold I63; omega); rwa [make_wal1] at this
  have H3 : Hid (∀ W p F, DK W p F (lone wal1 (List.replicate (17 * 64) 0) (List.replicate (17 * 64) 0) fs17 1) → Ext noF w W F → Calls Tryz.prog 10 #[ptr p, .agg (hv (hW 1 7)), .slice ba bn bc, .int .i64 en] W fun e w' => ∃ b, e = .returned (wP b) ∧ WS DK w p b wal1 7 (pad8 bs) (nr en) (lone wal1 (List.replicate (17 * 64) 0) (List.replicate (17 * 64) 0) fs17 1) F w' ∧ W.heap.size ≤ b ∧ Below W.heap.size W w') := Lib.hid fun W p F q1 q2 =>
    wnew_yes H w W p F _ (hW 1 7) (hW_typed hu7) wal1 wal1_eq wal1_ne _ bn bs (hrb.keep q2.bel) en (hvt.ext q2).vars q1 q2
  have HCT : Hid (∀ W, Calls Tryz.prog 12 #[.int .i64 en, .int .i64 (n : Nat)] W fun e w' => ∃ v, e = .returned (.tuple #[v, .int .i64 (endI en (n : Nat) : Nat), .bool (fitI en (n : Nat))]) ∧ Below W.heap.size W w') := Lib.hid fun W =>
    (rcut_any en (n : Nat) hen (by unfold I63; omega) W).mono fun e w' ⟨v, he, _, hb⟩ => ⟨v, he, hb⟩
  cases hf : fitI en (n : Nat) with
  | true =>
    rw [hf] at HCT
    have hf2 : fitI (nr en : Nat) n = true := (fit_nr en n).trans hf
    have hgt := end_gt hf2
    rw [nr_nat _ (nr_le en)] at hgt
    have hnn := hrd.length
    have H4 : Hid (∀ W p b F, WS DK w p b wal1 7 (pad8 bs) (nr en) (lone wal1 (List.replicate (17 * 64) 0) (List.replicate (17 * 64) 0) fs17 1) F W → Calls Tryz.prog 15 #[wP b, .slice da n dc] W fun e w' => ∃ a, e = .returned (.tuple #[.int .i64 a, .int .i64 0]) ∧ Below w.heap.size w w') := Lib.hid fun W p b F q1 =>
      (wappend_yes H w p b wal1 wal1_size 7 hu7 (pad8 bs) (pad8_len bs) (isB_bytes (pad8_isb hbb)) (nr en) (nr_le en) _ _ g0 (.slice da n dc) n zs hzb hf2 _ rfl _ rfl (lone_write _ _ (by omega) _) F W q1 (hvt.ext q1.ex).tab (hrd.keep q1.ex.bel)).mono fun e w' ⟨F', he, hw, _⟩ => ⟨_, he, hw.ex.bel⟩
    clear hrb hbb hen hrd hzb hvt g0 hu1 hu7 hf hf2 hgt
    go_enter Tryz.func5, Tryz.ntmps5
    go_wp2_with (first
      | (go_at_call 15; (with_reducible refine (wnil_append _ _).mono ?_); rintro e w' ⟨rfl, rfl⟩)
      | (go_at_call 16; (with_reducible refine (wnil_sync _).mono ?_); rintro e w' ⟨rfl, rfl⟩)
      | (go_at_call 14; (with_reducible refine (wnil_fits _ _).mono ?_); rintro e w' ⟨rfl, rfl⟩)
      | (go_at_call 13; (with_reducible refine (wnil_end _).mono ?_); rintro e w' ⟨rfl, rfl⟩)
      | (go_at_call 8; (with_reducible refine (rheader_any 1 1 _).mono ?_); rintro e w1 ⟨rfl, hb⟩; have HB1 := Lib.hid hb; clear hb)
      | (go_at_call 10; (with_reducible refine (HN1.out _ HB1.out).mono ?_); rintro e w2 ⟨rfl, hb⟩; have HB2 := Lib.hid (bch HB1.out hb); clear hb)
      | (go_at_call 7; (with_reducible refine (H9.out _).mono ?_); rintro e w3 ⟨p9, F9, rfl, _, hx⟩; have HB3 := Lib.hid (bch HB2.out hx.bel); clear hx)
      | (go_at_call 10; (with_reducible refine (HN2.out _ _ HB3.out).mono ?_); rintro e w4 ⟨rfl, hb⟩; have HB4 := Lib.hid (bch HB3.out hb); clear hb)
      | (go_at_call 7; (with_reducible refine (H1.out _).mono ?_); rintro e w5 ⟨p, F5, rfl, hk, hx⟩; have K5 := Lib.hid hk; have X5 := Lib.hid ((Ext.below HB4.out).trans hx); clear hk hx)
      | (go_at_call 24; (with_reducible refine (H2.out _ _ _ K5.out).mono ?_); rintro e w6 ⟨F6, rfl, hk, hx⟩; have K6 := Lib.hid hk; have X6 := Lib.hid (X5.out.trans hx); clear hk hx)
      | (go_at_call 8; (with_reducible refine (rheader_any 1 7 _).mono ?_); rintro e w7 ⟨rfl, hb⟩; have K7 := Lib.hid (hH.out.below K6.out hb); have X7 := Lib.hid (X6.out.trans (Ext.below hb)); clear hb)
      | (go_at_call 10; (with_reducible refine (H3.out _ _ _ K7.out X7.out).mono ?_); rintro e w8 ⟨b, rfl, hw, _, _⟩; have S8 := Lib.hid hw; clear hw)
      | (go_at_call 15; (with_reducible refine (H4.out _ _ _ _ S8.out).mono ?_); rintro e w9 ⟨a9, rfl, hb⟩; have HB9 := Lib.hid hb; clear hb)
      | (go_at_call 12; (with_reducible refine (HCT.out _).mono ?_); rintro e wA ⟨vA, rfl, hb⟩; have HBA := Lib.hid (bch HB9.out hb); clear hb)
      | (go_at_call 6; (with_reducible refine (HAW.out _ HBA.out).mono ?_); rintro e wB ⟨rfl, hb⟩; have HBB := Lib.hid (bch HBA.out hb); clear hb))
    go_ret
    exact ⟨rfl, HBB.out⟩
  | false =>
    rw [hf] at HCT
    have hf2 : fitI (nr en : Nat) n = false := (fit_nr en n).trans hf
    have H4 : Hid (∀ W p b F, WS DK w p b wal1 7 (pad8 bs) (nr en) (lone wal1 (List.replicate (17 * 64) 0) (List.replicate (17 * 64) 0) fs17 1) F W → Calls Tryz.prog 15 #[wP b, .slice da n dc] W fun e w' => e = .returned (.tuple #[.int .i64 0, .int .i64 6]) ∧ Below w.heap.size w w') := Lib.hid fun W p b F q1 =>
      (wappend_no H w p b wal1 7 (pad8 bs) (nr en) (nr_le en) _ da n dc hf2 F W q1).mono fun e w' ⟨he, hb⟩ => ⟨he, bch q1.ex.bel hb⟩
    clear hrb hbb hen hrd hzb hvt g0 hu1 hu7 hf hf2
    go_enter Tryz.func5, Tryz.ntmps5
    go_wp2_with (first
      | (go_at_call 15; (with_reducible refine (wnil_append _ _).mono ?_); rintro e w' ⟨rfl, rfl⟩)
      | (go_at_call 16; (with_reducible refine (wnil_sync _).mono ?_); rintro e w' ⟨rfl, rfl⟩)
      | (go_at_call 14; (with_reducible refine (wnil_fits _ _).mono ?_); rintro e w' ⟨rfl, rfl⟩)
      | (go_at_call 13; (with_reducible refine (wnil_end _).mono ?_); rintro e w' ⟨rfl, rfl⟩)
      | (go_at_call 8; (with_reducible refine (rheader_any 1 1 _).mono ?_); rintro e w1 ⟨rfl, hb⟩; have HB1 := Lib.hid hb; clear hb)
      | (go_at_call 10; (with_reducible refine (HN1.out _ HB1.out).mono ?_); rintro e w2 ⟨rfl, hb⟩; have HB2 := Lib.hid (bch HB1.out hb); clear hb)
      | (go_at_call 7; (with_reducible refine (H9.out _).mono ?_); rintro e w3 ⟨p9, F9, rfl, _, hx⟩; have HB3 := Lib.hid (bch HB2.out hx.bel); clear hx)
      | (go_at_call 10; (with_reducible refine (HN2.out _ _ HB3.out).mono ?_); rintro e w4 ⟨rfl, hb⟩; have HB4 := Lib.hid (bch HB3.out hb); clear hb)
      | (go_at_call 7; (with_reducible refine (H1.out _).mono ?_); rintro e w5 ⟨p, F5, rfl, hk, hx⟩; have K5 := Lib.hid hk; have X5 := Lib.hid ((Ext.below HB4.out).trans hx); clear hk hx)
      | (go_at_call 24; (with_reducible refine (H2.out _ _ _ K5.out).mono ?_); rintro e w6 ⟨F6, rfl, hk, hx⟩; have K6 := Lib.hid hk; have X6 := Lib.hid (X5.out.trans hx); clear hk hx)
      | (go_at_call 8; (with_reducible refine (rheader_any 1 7 _).mono ?_); rintro e w7 ⟨rfl, hb⟩; have K7 := Lib.hid (hH.out.below K6.out hb); have X7 := Lib.hid (X6.out.trans (Ext.below hb)); clear hb)
      | (go_at_call 10; (with_reducible refine (H3.out _ _ _ K7.out X7.out).mono ?_); rintro e w8 ⟨b, rfl, hw, _, _⟩; have S8 := Lib.hid hw; clear hw)
      | (go_at_call 15; (with_reducible refine (H4.out _ _ _ _ S8.out).mono ?_); rintro e w9 ⟨rfl, hb⟩; have HB9 := Lib.hid hb; clear hb)
      | (go_at_call 12; (with_reducible refine (HCT.out _).mono ?_); rintro e wA ⟨vA, rfl, hb⟩; have HBA := Lib.hid (bch HB9.out hb); clear hb)
      | (go_at_call 6; (with_reducible refine (HAW.out _ HBA.out).mono ?_); rintro e wB ⟨rfl, hb⟩; have HBB := Lib.hid (bch HBA.out hb); clear hb))
    go_ret
    exact ⟨rfl, HBB.out⟩
end Go.Proofs.YtgegbpnmfpjdmaaGreatDoor
