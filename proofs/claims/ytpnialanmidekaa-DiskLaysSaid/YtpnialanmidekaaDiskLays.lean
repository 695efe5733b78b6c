/-
  THE WALK OF THE LAW DiskLays, over DiskSays: whatever capacity, files and crash come in: the call returns true and changes nothing that was there.
-/
import Derived.Test.YtpnialanmidekaaDiskPlaySt
import Derived.Test.YtpnialanmidekaaDiskLaysMath
import Derived.Test.YtpnialanmidekaaDiskLawSame
import Derived.Test.YtpnialanmidekaaDiskAwake
namespace Go.Proofs.Ytpnialanmidekaa
open Go.RowKit
/-- the program's call leaves the disk what it is -/
theorem PS.prog {DK : World → Addr → (Nat → Bool) → AD → Prop} (H : DiskSays DK) {W w w' : World} {p : Addr} {g : Nat} {d : AD} {cb cr : Array Value} {F M F' : Nat → Bool} (h : PS DK W p g d cb cr F M w) (hk : DK w' p F' d) (hx : Ext F w w' F') : PS DK W p g d cb cr F' (orF M F') w' :=
  h.do h.good ⟨hk, h.rd.kin (hx.sub h.sub).kin, hx, hx.sub h.sub, fun _ hf => orF_r hf, orF_foot (h.foot.mono hx.size) (H.foot hk)⟩
set_option maxRecDepth 8000 in
set_option maxHeartbeats 8000000 in
theorem lays_walk {DK : World → Addr → (Nat → Bool) → AD → Prop} (H : DiskSays DK) (c : Int) (v : Value) (l : List LFile) (ak : Option Addr) (klen ck : Nat) (kb : List Int) (torn cut : Int) (hc : I63 c) (W : World) (hl : LA W v l) (hlf : ∀ f ∈ l, f.1.size ≤ 281474976710656 ∧ f.2.2.length = f.2.1 * 64 ∧ Bytes f.2.2)
    (hk : RI .u8 W (.slice ak klen ck) klen kb) (hkb : Bytes kb) (ht63 : I63 torn) (hc63 : I63 cut) :
    Calls Try.prog 4 #[.int .i64 c, v, .agg #[.slice ak klen ck, .int .i64 torn, .int .i64 cut]] W fun e w' => e = .returned (.bool true) ∧ Below W.heap.size W w' := by
  have hH := Lib.hid H
  have HC := Lib.hid hc
  obtain ⟨a, cap, rfl, hc1, hc2, _⟩ := hl.form
  obtain ⟨n, hn⟩ : ∃ n, l.length = n := ⟨_, rfl⟩
  rw [hn] at hl hc1 ⊢
  obtain ⟨w0, hw0⟩ : ∃ w0, W.alloc (.cells #[.slice ak klen ck, .int .i64 torn, .int .i64 cut] 36) = w0 := ⟨_, rfl⟩
  have hb0 : Below W.heap.size W w0 := by rw [← hw0]; exact below_alloc _ _
  have hcx := fun j => cell_of_row w0 W.heap.size j _ _ _ (by rw [← hw0]; exact heap_alloc_last W (.cells #[.slice ak klen ck, .int .i64 torn, .int .i64 cut] 36))
  have HCX := Lib.hid (And.intro (hcx 0) (And.intro (hcx 1) (hcx 2)))
  have HB0 := Lib.hid hb0
  have HA := Lib.hid (hl.below hb0)
  have HK := Lib.hid (hk.kin (Kin.below hb0))
  have HN := Lib.hid hn
  have HLF := Lib.hid hlf
  have HKB := Lib.hid hkb
  have HT := Lib.hid ht63
  have HCT := Lib.hid hc63
  obtain ⟨dl, hdl⟩ : ∃ dl, (layR c l).1 = dl := ⟨_, rfl⟩
  obtain ⟨er, her⟩ : ∃ er, (layR c l).2 = er := ⟨_, rfl⟩
  have HDL := Lib.hid hdl
  have HER := Lib.hid her
  clear hcx hl hk hlf hkb ht63 hc63 hc hn hb0 hdl her
  go_enter Try.func4, Try.ntmps4
  by_cases h20 : (n : Int) > 20
  · go_wp2_with (first
      | rw [hw0]
      | (go_at_call 7; (with_reducible refine (lawake_any hH.out _).mono ?_); rintro e w1 ⟨rfl, hb⟩; have HB1 := Lib.hid (chain HB0.out hb); clear hb))
    go_ret
    exact ⟨rfl, HB1.out⟩
  · go_wp2_with (rw [hw0])
    clear hw0
    go_loop [7] (fun iv => ∃ i : Nat, iv = .int .i64 i ∧ i ≤ n ∧ Hid (∀ (j : Nat) (f : LFile), j < i → l[j]? = some f → f.2.1 ≤ 100)) (fun iv => n - (intOf iv).toNat)
    case atStart => exact ⟨0, rfl, by omega, Lib.hid fun j f hj => absurd hj (by omega)⟩
    case round =>
      obtain ⟨i, rfl, hi, HE⟩ := hrel
      by_cases hlt : (i : Int) < (n : Int)
      · obtain ⟨f, hf⟩ : ∃ f, l[i]? = some f := row_some (by rw [HN.out]; omega)
        obtain ⟨b, off, a1, c1, rfl, m0, m1, m2⟩ := HA.out.at_ i f hf
        have HF := Lib.hid hf
        obtain ⟨m, hm⟩ : ∃ m, f.2.1 = m := ⟨_, rfl⟩
        rw [hm] at m1
        have HM := Lib.hid hm
        clear hf m0 m2 hm
        by_cases h100 : (m : Int) > 100
        · go_wp2_with (first
            | (go_at_call 7; (with_reducible refine (lawake_any hH.out _).mono ?_); rintro e w1 ⟨rfl, hb⟩; have HB1 := Lib.hid (chain HB0.out hb); clear hb))
          go_ret
          exact ⟨rfl, HB1.out⟩
        · go_wp2
          go_round
          case rel =>
            refine ⟨i + 1, by go_num, by omega, Lib.hid fun j g hj hg => ?_⟩
            by_cases hji : j = i
            · subst hji
              rw [HF.out] at hg
              obtain rfl := Option.some.inj hg
              rw [HM.out]; omega
            · exact HE.out j g (by omega) hg
          case measure => simp [intOf]; omega
      · have hq : i = n := by omega
        subst hq
        have hall : ∀ f ∈ l, f.2.1 ≤ 100 := by
          intro f hf
          obtain ⟨j, hj, rfl⟩ := List.getElem_of_mem hf
          exact HE.out j _ (by have := HN.out; omega) (List.getElem?_eq_getElem hj)
        have hll : l.length ≤ 1000 := by have := HN.out; omega
        have HLP := Lib.hid (hH.out.lay noF c (.slice a i cap) l w0 (Foot.none _) (by rw [mask_none]; exact HA.out) HC.out hll (fun f hf => ⟨by have := hall f hf; omega, (HLF.out f hf).1, (HLF.out f hf).2.2⟩))
        have HLR : Hid (∀ w F, Foot F w.heap.size → LA (mask F w) (.slice a i cap) l → Calls Try.prog 13 #[.int .i64 c, .slice a i cap] w fun e w' => ∃ v', e = .returned (.tuple #[v', .int .i64 er]) ∧ RD (mask F w') v' dl ∧ Below w.heap.size w w') := Lib.hid fun w F h1 h2 => by
          have := rlay_any F c (.slice a i cap) l w h1 h2 HC.out hll (fun f hf => ⟨by have := hall f hf; omega, (HLF.out f hf).1⟩); rwa [HDL.out, HER.out] at this
        rw [HDL.out, HER.out] at HLP
        clear hall hll
        by_cases he : er = 0
        · subst he
          obtain ⟨hg0, hs0⟩ := lay_good c HC.out l (fun f hf => (HLF.out f hf).2) HER.out
          rw [HDL.out] at hg0 hs0
          have HG := Lib.hid hg0
          have HST : Hid (dl.crashR kb torn cut = dl) := Lib.hid (hs0.crash hg0 _ _ _)
          have HLP2 : Hid (Calls Try.prog 12 #[.int .i64 c, .slice a i cap] w0 fun e w' => ∃ p F, e = .returned (.tuple #[ptr p, .int .i64 0]) ∧ DK w' p F dl ∧ Ext noF w0 w' F) := Lib.hid (HLP.out.mono fun e w' h => by
            rcases h with ⟨h, _⟩ | ⟨_, h⟩
            · exact absurd rfl h
            · exact h)
          clear HLP hg0 hs0
          go_wp2_with (first
            | (go_at_call 12; (with_reducible refine (HLP2.out).mono ?_); rintro e w1 ⟨p, F1, rfl, hk1, hx1⟩; have HK1 := Lib.hid hk1; have HX1 := Lib.hid hx1; clear hk1 hx1)
            | (go_at_call 13; (with_reducible refine (HLR.out _ F1 (hH.out.foot HK1.out) (by have := HX1.out.kin; rw [mask_none] at this; exact HA.out.kin this)).mono ?_); rintro e w2 ⟨v2, rfl, hr2, hb2⟩; obtain ⟨cs2, rfl, h62, h12⟩ := hr2.cells; have HP2 := Lib.hid (PS.start hH.out (hH.out.below HK1.out hb2) HG.out hr2 (HX1.out.trans (Ext.below hb2))); have H62 := Lib.hid h62; have H12 := Lib.hid h12; clear hr2 hb2 h62 h12)
            | (refine wpList_store_row rfl 29 _ _ rfl w2.heap.size cs2 rfl rfl _ dz HP2.out.db.1 (by rw [H62.out]; exact disk_info) (by rw [H62.out]; rfl) H12.out ?_; have HP3 := Lib.hid (HP2.out.store hH.out H62.out); unfold dz at HP3)
            | (refine wpList_load_row rfl 29 _ rfl w2.heap.size rfl _ cs2 (0, 0) _ HP5.out.db.1 Try.underlying29 rfl HP5.out.db.info ?_)
            | (go_at_call 11; (with_reducible refine (lsame_any hH.out _ _ p _ dl HP5.out.dk HP5.out.good (HP5.out.rd.kin (unmask _ _))).mono ?_); rintro e w6 ⟨rfl, hb⟩; have HP6 := Lib.hid (HP5.out.next hH.out hb); clear hb)
            | (go_at_call 7; (with_reducible refine (lawake_any hH.out _).mono ?_); rintro e w7 ⟨rfl, hb⟩; have HB7 := Lib.hid (chain HB0.out (HP6.out.ex.trans (Ext.below hb)).none); clear hb)
            | (go_at_call 14; (with_reducible refine (hH.out.crash _ p _ dl _ klen kb torn cut HP4.out.dk HP4.out.good (HK.out.kin (HP4.out.kin.trans (mask_mono HP4.out.sub _))) HKB.out HT.out HCT.out).mono ?_); rintro e w5 ⟨F5, rfl, hk5, hx5⟩; rw [HST.out] at hk5; have HP5 := Lib.hid (HP4.out.prog hH.out hk5 hx5); clear hk5 hx5)
            | (refine wpList_load_row rfl 29 _ rfl w2.heap.size rfl _ cs2 (0, 0) _ HP3.out.db.1 Try.underlying29 rfl HP3.out.db.info ?_)
            | (go_at_call 11; (with_reducible refine (lsame_any hH.out _ _ p _ dl HP3.out.dk HP3.out.good (HP3.out.rd.kin (unmask _ _))).mono ?_); rintro e w4 ⟨rfl, hb⟩; have HP4 := Lib.hid (HP3.out.next hH.out hb); have z0 := HP4.out.kinw _ _ HCX.out.1; have z1 := HP4.out.kinw _ _ HCX.out.2.1; have z2 := HP4.out.kinw _ _ HCX.out.2.2; clear hb))
          go_ret
          exact ⟨rfl, HB7.out⟩
        · have HLP2 : Hid (Calls Try.prog 12 #[.int .i64 c, .slice a i cap] w0 fun e w' => e = .returned (.tuple #[.pointer none, .int .i64 er]) ∧ Below w0.heap.size w0 w') := Lib.hid (HLP.out.mono fun e w' h => by
            rcases h with ⟨_, h⟩ | ⟨h, _⟩
            · exact h
            · exact absurd h he)
          clear HLP
          go_wp2_with (first
            | (go_at_call 12; (with_reducible refine (HLP2.out).mono ?_); rintro e w1 ⟨rfl, hb⟩; have HB1 := Lib.hid hb; clear hb)
            | (go_at_call 13; (with_reducible refine (HLR.out _ noF (Foot.none _) (by rw [mask_none]; exact HA.out.below HB1.out)).mono ?_); rintro e w2 ⟨v2, rfl, hr2, hb2⟩; obtain ⟨cs2, rfl, h62, h12⟩ := hr2.cells; have HB2 := Lib.hid (chain HB1.out hb2); have H62 := Lib.hid h62; have H12 := Lib.hid h12; clear hr2 hb2 h62 h12)
            | (refine wpl_store_newD rfl _ _ rfl rfl w2.heap.size rfl cs2 H62.out H12.out rfl rfl ?_; intro w3 HX3 hb3; have HB3 := Lib.hid (chain HB2.out hb3.out); clear hb3)
            | (go_at_call 7; (with_reducible refine (lawake_any hH.out _).mono ?_); rintro e w7 ⟨rfl, hb⟩; have HB7 := Lib.hid (chain HB0.out (chain HB3.out hb)); clear hb))
          go_ret
          exact ⟨rfl, HB7.out⟩
end Go.Proofs.Ytpnialanmidekaa
