/-
  WHAT Accepts OF THE REFERENCE OF LAYER 19 ANSWERS. Bytes and bools must lie where the slices say.
-/
import Derived.Test.YthickhfbllddjaaDoorJ4
import Derived.Test.YthickhfbllddjaaDoorJ5
import Derived.Test.YthickhfbllddjaaDoorFragDecR
import Derived.Test.YthickhfbllddjaaDoorCut
namespace Go.Proofs.YthickhfbllddjaaDoor
open Go.RowKit
/-- what Accepts leaves -/
def AccF (F : FR × Nat) (w : World) (r : Ending) (w' : World) : Prop :=
  ∃ p c, r = .returned (.tuple #[.agg (fA F.1.kind F.1.epoch (.slice p F.1.data.length c)), .int .i64 (F.2 : Nat)]) ∧ w'.ownsRow w.heap.size 5 1 (.slice p F.1.data.length c) F.1.data.length (il .u8 F.1.data) ∧ Below w.heap.size w w'
set_option maxRecDepth 8000 in
set_option maxHeartbeats 4000000 in
theorem racc_any (x : Int) (hx : U64 x) (bv kv : Value) (B : List Int) (K : List Bool) (w : World) (hB : B.length = 832) (hBb : isB B) (hbv : RI .u8 w bv 832 B) (hk : BS w kv 16 K) (a : Nat) (ha : a = 832 ∨ a + 11 ≤ 832) :
    Calls Tryd.prog 21 #[.int .u64 x, bv, kv, .int .i64 a] w (AccF (scF (x % 4294967296) B K a) w) := by
  obtain ⟨ep, hep⟩ : ∃ e, x % 4294967296 = e := ⟨_, rfl⟩
  rw [hep]
  have hx2 : 0 ≤ x ∧ x ≤ 18446744073709551615 := hx
  have htm : x.tmod 4294967296 = ep := by rw [Int.tmod_eq_emod_of_nonneg hx2.1]; exact hep
  have hepb : 0 ≤ ep ∧ ep ≤ 4294967295 := by omega
  have hw32 : IntKind.u32.wrap ep = ep := by rw [wrap_u32']; omega
  have hwu : IntKind.u64.wrap ep = ep := IntWalk.u64_in _ (by omega)
  have ha8 : a ≤ 832 := by omega
  obtain ⟨wa, hwa⟩ : ∃ q, w.alloc (.cells (fA 0 0 (.slice none 0 0)) 64) = q := ⟨_, rfl⟩
  have HA : Hid (FO wa w.heap.size 0 0 (.slice none 0 0)) := Lib.hid (by rw [← hwa]; exact FO.alloc w)
  have hba : Below w.heap.size w wa := by rw [← hwa]; exact balloc w _
  have HBA := Lib.hid hba
  have HKA := Lib.hid (hk.kin (Kin.below hba))
  have HBV := Lib.hid (hbv.keep hba)
  have HCV : Hid (∀ (w' : World) (n : Nat), Below wa.heap.size wa w' → n ≤ 100000 → Calls Tryd.prog 38 #[kv, .int .i64 a, .int .i64 n] w' fun e w'' => e = .returned (.bool (covAt K (a : Int) (n : Int))) ∧ w'' = w') := Lib.hid fun w' n h hn => rcovered_any kv 16 K a n (by unfold I63; omega) (by unfold I63; omega) w' (HKA.out.kin (Kin.below h))
  obtain ⟨t, ht⟩ : ∃ t, a + 11 = t := ⟨_, rfl⟩
  have htI : (a : Int) + 11 = (t : Int) := by omega
  have htb : (t : Int) ≤ 1000 := by omega
  have HT := Lib.hid ht
  by_cases h8 : a = 832
  · have HR := Lib.hid (scF_far (ep := ep) (B := B) (K := K) h8)
    have h8i : (832 : Int) < (t : Int) := by omega
    rw [HR.out]
    clear hx hx2 htm hepb hw32 hwu ha8 hba ha h8 ht hB hBb hbv hk hep
    go_enter Tryd.func21, Tryd.ntmps21
    go_wp2_with (first
      | (rw [hwa])
      | (refine wpl_put_fr rfl (.tmp 8) (.tmp 24) rfl w.heap.size HA.out 0 0 none 0 0 rfl rfl ?_; intro wz HZ HGZ))
    refine bodyPost_ret_by (results_row_tmp rfl _ _ w.heap.size _ rfl HZ.out.load) rfl ?_
    exact ⟨none, 0, rfl, World.ownsRow_nil _ _ _ _, below_over HBA.out HGZ.out (Nat.le_refl _) HBA.out.size⟩
  have h8i : ¬ (832 : Int) < (t : Int) := by omega
  cases h11 : covAt K (a : Int) ((a + 11 : Nat) : Int) with
  | false =>
    have HR := Lib.hid (scF_head (ep := ep) (B := B) (K := K) h11)
    have HH : Hid (∀ w', Below wa.heap.size wa w' → Calls Tryd.prog 38 #[kv, .int .i64 a, .int .i64 t] w' fun e w'' => e = .returned (.bool false) ∧ w' = w'') := Lib.hid fun w' h => by
      have := HCV.out w' t h (by omega)
      rw [← ht, h11] at this
      rw [← ht]
      exact this.mono fun e w'' ⟨h1, h2⟩ => ⟨h1, h2.symm⟩
    rw [HR.out]
    clear hx hx2 htm hepb hw32 hwu ha8 hba ha h8 ht hB hBb hbv hk hep h11
    go_enter Tryd.func21, Tryd.ntmps21
    go_wp2_with (first
      | (rw [hwa])
      | (go_at_call 38; (with_reducible refine (HH.out _ (Below.refl _ _)).mono ?_); rintro e w1 ⟨rfl, rfl⟩)
      | (refine wpl_put_fr rfl (.tmp 8) (.tmp 24) rfl w.heap.size HA.out 0 0 none 0 0 rfl rfl ?_; intro wz HZ HGZ))
    refine bodyPost_ret_by (results_row_tmp rfl _ _ w.heap.size _ rfl HZ.out.load) rfl ?_
    exact ⟨none, 0, rfl, World.ownsRow_nil _ _ _ _, below_over HBA.out HGZ.out (Nat.le_refl _) HBA.out.size⟩
  | true =>
    have HH : Hid (∀ w', Below wa.heap.size wa w' → Calls Tryd.prog 38 #[kv, .int .i64 a, .int .i64 t] w' fun e w'' => e = .returned (.bool true) ∧ w' = w'') := Lib.hid fun w' h => by
      have := HCV.out w' t h (by omega)
      rw [← ht, h11] at this
      rw [← ht]
      exact this.mono fun e w'' ⟨h1, h2⟩ => ⟨h1, h2.symm⟩
    obtain ⟨l, hl⟩ : ∃ l, leftN a = l := ⟨_, rfl⟩
    have hla := left_le a ha8
    rw [hl] at hla
    have HLF : Hid (∀ w, Calls Tryd.prog 40 #[.int .i64 a] w fun e w' => e = .returned (.int .i64 (l : Int)) ∧ w = w') := Lib.hid fun w => by
      have := rleft_any (a : Int) (by unfold I63; omega) w
      rw [nr_nat a ha8, hl] at this
      exact this.mono fun e w'' ⟨h1, h2⟩ => ⟨h1, h2.symm⟩
    obtain ⟨v, hv⟩ : ∃ v, a + l = v := ⟨_, rfl⟩
    have hvI : (a : Int) + (l : Int) = (v : Int) := by omega
    have hv8 : (v : Int) ≤ 832 := by omega
    have HV := Lib.hid hv
    have hbs : isB (bSl B a) := (hBb.drop _).take _
    have HDC : Hid (∀ w p c, RI .u8 w (.slice p l c) l ((B.drop a).take l) → Calls Tryd.prog 39 #[.slice p l c, .int .u32 ep] w (DecF (bSl B a) ep w)) := Lib.hid fun w p c h => rfdec_any _ l _ ep w (by unfold bSl; rw [hl]; exact h) hbs
    obtain ⟨f, m, e, hD⟩ : ∃ f m e, scD ep B a = (f, m, e) := ⟨_, _, _, rfl⟩
    have HDF : Hid (∀ w w' r, DecF (bSl B a) ep w r w' → ∃ p n c, r = .returned (.tuple #[.agg (fA f.kind f.epoch (.slice p n c)), .int .i64 (m : Nat), .int .i64 e]) ∧ w'.ownsRow w.heap.size 5 1 (.slice p n c) n (il .u8 f.data) ∧ Below w.heap.size w w') := Lib.hid fun w w' r h => by
      obtain ⟨p, n, c, h1, h2, h3⟩ := h
      rw [show fragD (bSl B a) ep = (f, m, e) from hD] at h1 h2
      exact ⟨p, n, c, h1, h2, h3⟩
    have HHL : Hid (a + l ≤ 832) := Lib.hid hla
    by_cases he : e = 0
    · have h3 : (scD ep B a).2.2 = 0 := by rw [hD]; exact he
      have hp := scD_parts hB ha8 h3
      rw [hD] at hp
      obtain ⟨u, hu⟩ : ∃ u, a + m = u := ⟨_, rfl⟩
      have huI : (a : Int) + (m : Int) = (u : Int) := by omega
      have hub : (u : Int) ≤ 832 := by have := hp.2.2.1; dsimp only at this; omega
      cases h4 : covAt K (a : Int) ((a + m : Nat) : Int) with
      | true =>
        have HR := scF_yes h8 h11 h3 (by rw [hD]; exact h4)
        rw [hD] at HR
        dsimp only at HR
        have HH2 : Hid (∀ w', Below wa.heap.size wa w' → Calls Tryd.prog 38 #[kv, .int .i64 a, .int .i64 u] w' fun e w'' => e = .returned (.bool true) ∧ w' = w'') := Lib.hid fun w' h => by
          have := HCV.out w' u h (by omega)
          rw [← hu, h4] at this
          rw [← hu]
          exact this.mono fun e w'' ⟨h1, h2⟩ => ⟨h1, h2.symm⟩
        rw [HR]
        obtain ⟨fk, fe, fd⟩ := f
        dsimp only at HDF
        clear hx hx2 hepb ha8 hba ha h8 ht hB hBb hbv hk hep h11 HR hl hla hv hbs hD h3 hp h4 hu
        go_enter Tryd.func21, Tryd.ntmps21
        go_wp2_with (first
          | (rw [hwa])
          | (go_at_call 38; (with_reducible refine (HH2.out _ HW5.out).mono ?_); rintro r w1 ⟨rfl, rfl⟩)
          | (go_at_call 38; (with_reducible refine (HH.out _ (Below.refl _ _)).mono ?_); rintro r w1 ⟨rfl, rfl⟩)
          | (go_at_call 40; (with_reducible refine (HLF.out _).mono ?_); rintro r w2 ⟨rfl, rfl⟩)
          | (refine wpl_cut_lh rfl (.tmp 26) (.tmp 27) (.tmp 31) rfl bv 832 a l B rfl rfl (by rw [HV.out]; rfl) HBV.out HHL.out ?_; intro pc cc hcc; have HCC := Lib.hid hcc; clear hcc)
          | (go_at_call 39; (refine (HDC.out _ _ _ HCC.out).mono ?_); rintro r w4 hd; obtain ⟨p4, n4, c4, rfl, ho, hb⟩ := HDF.out _ _ _ hd; have HB4 := Lib.hid hb; have HO4 := Lib.hid (own_mono ho (show w.heap.size ≤ _ from HBA.out.size)); clear ho hb hd)
          | (refine wpl_put_fr rfl (.tmp 10) (.tmp 37) rfl w4.heap.size (FO.alloc w4) fk fe p4 n4 c4 rfl rfl ?_; intro w5 HF5 HG5; have hb5 : Below w4.heap.size w4 w5 := below_over (balloc w4 _) HG5.out (Nat.le_refl _) (balloc w4 _).size; have HO5 := Lib.hid (own_keep HO4.out hb5); have HW5 := Lib.hid (bch HB4.out hb5); have HB5 := Lib.hid (bch HBA.out HW5.out); have HA5 := Lib.hid (HA.out.keep HW5.out); clear hb5)
          | (refine wpl_load_fr (by rfl) (.tmp 10) rfl rfl HF5.out ?_)
          | (refine wpl_put_fr rfl (.tmp 8) (.tmp 52) rfl w.heap.size HA5.out fk fe p4 n4 c4 rfl rfl ?_; intro w6 HF6 HG6; have HO6 := Lib.hid (own_over HO5.out HG6.out (fun q hq e => HA5.out.ne_own HO5.out q hq (Option.some.inj e)))))
        refine bodyPost_ret_by (results_row_tmp rfl _ _ w.heap.size _ rfl HF6.out.load) rfl ?_
        have hn4 : fd.length = n4 := (il_length .u8 fd).symm.trans (HO6.out.1.trans (Nat.mul_one _))
        subst hn4
        exact ⟨p4, c4, rfl, HO6.out, below_over HB5.out HG6.out (Nat.le_refl _) HB5.out.size⟩
      | false =>
        have HR := scF_cov (ep := ep) (B := B) (K := K) (a := a) (by rw [hD]; exact h4)
        have HH2 : Hid (∀ w', Below wa.heap.size wa w' → Calls Tryd.prog 38 #[kv, .int .i64 a, .int .i64 u] w' fun e w'' => e = .returned (.bool false) ∧ w' = w'') := Lib.hid fun w' h => by
          have := HCV.out w' u h (by omega)
          rw [← hu, h4] at this
          rw [← hu]
          exact this.mono fun e w'' ⟨h1, h2⟩ => ⟨h1, h2.symm⟩
        rw [HR]
        obtain ⟨fk, fe, fd⟩ := f
        dsimp only at HDF
        clear hx hx2 hepb ha8 hba ha h8 ht hB hBb hbv hk hep h11 HR hl hla hv hbs hD h3 hp h4 hu
        go_enter Tryd.func21, Tryd.ntmps21
        go_wp2_with (first
          | (rw [hwa])
          | (go_at_call 38; (with_reducible refine (HH2.out _ HW5.out).mono ?_); rintro r w1 ⟨rfl, rfl⟩)
          | (go_at_call 38; (with_reducible refine (HH.out _ (Below.refl _ _)).mono ?_); rintro r w1 ⟨rfl, rfl⟩)
          | (go_at_call 40; (with_reducible refine (HLF.out _).mono ?_); rintro r w2 ⟨rfl, rfl⟩)
          | (refine wpl_cut_lh rfl (.tmp 26) (.tmp 27) (.tmp 31) rfl bv 832 a l B rfl rfl (by rw [HV.out]; rfl) HBV.out HHL.out ?_; intro pc cc hcc; have HCC := Lib.hid hcc; clear hcc)
          | (go_at_call 39; (refine (HDC.out _ _ _ HCC.out).mono ?_); rintro r w4 hd; obtain ⟨p4, n4, c4, rfl, ho, hb⟩ := HDF.out _ _ _ hd; have HB4 := Lib.hid hb; have HO4 := Lib.hid (own_mono ho (show w.heap.size ≤ _ from HBA.out.size)); clear ho hb hd)
          | (refine wpl_put_fr rfl (.tmp 10) (.tmp 37) rfl w4.heap.size (FO.alloc w4) fk fe p4 n4 c4 rfl rfl ?_; intro w5 HF5 HG5; have hb5 : Below w4.heap.size w4 w5 := below_over (balloc w4 _) HG5.out (Nat.le_refl _) (balloc w4 _).size; have HO5 := Lib.hid (own_keep HO4.out hb5); have HW5 := Lib.hid (bch HB4.out hb5); have HB5 := Lib.hid (bch HBA.out HW5.out); have HA5 := Lib.hid (HA.out.keep HW5.out); clear hb5)
          | (refine wpl_put_fr rfl (.tmp 8) (.tmp 51) rfl w.heap.size HA5.out 0 0 none 0 0 rfl rfl ?_; intro w6 HF6 HG6))
        refine bodyPost_ret_by (results_row_tmp rfl _ _ w.heap.size _ rfl HF6.out.load) rfl ?_
        exact ⟨none, 0, rfl, World.ownsRow_nil _ _ _ _, below_over HB5.out HG6.out (Nat.le_refl _) HB5.out.size⟩
    · have HR := scF_err (ep := ep) (B := B) (K := K) (a := a) (by rw [hD]; exact he)
      have he1 : (e != 0) = true := by simpa using he
      rw [HR]
      obtain ⟨fk, fe, fd⟩ := f
      dsimp only at HDF
      clear hx hx2 hepb ha8 hba ha h8 ht hB hBb hbv hk hep h11 HR hl hla hv hbs hD he
      go_enter Tryd.func21, Tryd.ntmps21
      go_wp2_with (first
        | (rw [hwa])
        | (go_at_call 38; (with_reducible refine (HH.out _ (Below.refl _ _)).mono ?_); rintro r w1 ⟨rfl, rfl⟩)
        | (go_at_call 40; (with_reducible refine (HLF.out _).mono ?_); rintro r w2 ⟨rfl, rfl⟩)
        | (refine wpl_cut_lh rfl (.tmp 26) (.tmp 27) (.tmp 31) rfl bv 832 a l B rfl rfl (by rw [HV.out]; rfl) HBV.out HHL.out ?_; intro pc cc hcc; have HCC := Lib.hid hcc; clear hcc)
        | (go_at_call 39; (refine (HDC.out _ _ _ HCC.out).mono ?_); rintro r w4 hd; obtain ⟨p4, n4, c4, rfl, ho, hb⟩ := HDF.out _ _ _ hd; have HB4 := Lib.hid hb; have HO4 := Lib.hid (own_mono ho (show w.heap.size ≤ _ from HBA.out.size)); clear ho hb hd)
        | (refine wpl_put_fr rfl (.tmp 10) (.tmp 37) rfl w4.heap.size (FO.alloc w4) fk fe p4 n4 c4 rfl rfl ?_; intro w5 HF5 HG5; have hb5 : Below w4.heap.size w4 w5 := below_over (balloc w4 _) HG5.out (Nat.le_refl _) (balloc w4 _).size; have HO5 := Lib.hid (own_keep HO4.out hb5); have HW5 := Lib.hid (bch HB4.out hb5); have HB5 := Lib.hid (bch HBA.out HW5.out); have HA5 := Lib.hid (HA.out.keep HW5.out); clear hb5)
        | (refine wpl_put_fr rfl (.tmp 8) (.tmp 51) rfl w.heap.size HA5.out 0 0 none 0 0 rfl rfl ?_; intro w6 HF6 HG6))
      refine bodyPost_ret_by (results_row_tmp rfl _ _ w.heap.size _ rfl HF6.out.load) rfl ?_
      exact ⟨none, 0, rfl, World.ownsRow_nil _ _ _ _, below_over HB5.out HG6.out (Nat.le_refl _) HB5.out.size⟩
end Go.Proofs.YthickhfbllddjaaDoor
