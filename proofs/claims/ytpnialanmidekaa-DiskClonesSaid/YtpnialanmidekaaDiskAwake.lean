/-
  LAYER 8 (disk): the law's own awake, over DiskSays. No condition.
-/
import Derived.Test.YtpnialanmidekaaDiskPlaySt
import Derived.Test.YtpnialanmidekaaDiskSecs
namespace Go.Proofs.Ytpnialanmidekaa
open Go.RowKit
def nmA : ByteArray := ⟨#[97]⟩
def z7 : List Int := 7 :: List.replicate 63 0
def aw1 : AD := ((AD.newD 4).makeR nmA 2).1
def aw2 : AD := (aw1.writeR nmA 1 1 z7).1
def aw3 : AD := (aw2.syncR nmA).1
theorem aw_facts : ((AD.newD 4).makeR nmA 2).2 = 0 ∧ (aw1.writeR nmA 1 1 z7).2 = 0 ∧ (aw2.syncR nmA).2 = 0 ∧ waitingN aw2.L = 1 ∧ aw3.ops = 3 ∧ usedN aw3.L = 2 := by
  decide +kernel
theorem FS.fresh1 {F : Nat → Bool} {w : World} (hF : Foot F w.heap.size) (z : List Int) (hz : z.length = 64) : FS (mask F (w.alloc (.cells (sv z) 67))) (.slice (some ⟨w.heap.size, 0, none⟩) 1 1) 1 z :=
  FS.new hF 1 z (by omega) (by omega) _
theorem z7_cells : sv z7 = #[.int .u8 7, .int .u8 0, .int .u8 0, .int .u8 0, .int .u8 0, .int .u8 0, .int .u8 0, .int .u8 0, .int .u8 0, .int .u8 0, .int .u8 0, .int .u8 0, .int .u8 0, .int .u8 0, .int .u8 0, .int .u8 0, .int .u8 0, .int .u8 0, .int .u8 0, .int .u8 0, .int .u8 0, .int .u8 0, .int .u8 0, .int .u8 0, .int .u8 0, .int .u8 0, .int .u8 0, .int .u8 0, .int .u8 0, .int .u8 0, .int .u8 0, .int .u8 0, .int .u8 0, .int .u8 0, .int .u8 0, .int .u8 0, .int .u8 0, .int .u8 0, .int .u8 0, .int .u8 0, .int .u8 0, .int .u8 0, .int .u8 0, .int .u8 0, .int .u8 0, .int .u8 0, .int .u8 0, .int .u8 0, .int .u8 0, .int .u8 0, .int .u8 0, .int .u8 0, .int .u8 0, .int .u8 0, .int .u8 0, .int .u8 0, .int .u8 0, .int .u8 0, .int .u8 0, .int .u8 0, .int .u8 0, .int .u8 0, .int .u8 0, .int .u8 0] := rfl
theorem z7_bytes : Bytes z7 := (bytes_iff _).2 fun x hx => by
  rcases List.mem_cons.1 hx with rfl | hx
  · omega
  · rw [List.mem_replicate] at hx; omega
set_option maxRecDepth 8000 in
set_option maxHeartbeats 1000000 in
theorem lawake_any {DK : World → Addr → (Nat → Bool) → AD → Prop} (H : DiskSays DK) (w : World) :
    Calls Try.prog 7 #[] w fun e w' => e = .returned (.bool true) ∧ Below w.heap.size w w' := by
  obtain ⟨e1, e2, e3, e4, e5, e6⟩ := aw_facts
  have hH := Lib.hid H
  have g0 := Good.new 4 (by unfold I63; omega)
  have g1 : Good aw1 := g0.make nmA 2
  have g2 : Good aw2 := g1.write nmA 1 1 z7 rfl z7_bytes
  have g3 : Good aw3 := g2.sync nmA
  have H1 : Hid (∀ w, Calls Try.prog 8 #[.int .i64 4] w fun e w' => ∃ p F, e = .returned (ptr p) ∧ DK w' p F (AD.newD 4) ∧ Ext noF w w' F) := Lib.hid fun w => H.new 4 w (by unfold I63; omega)
  have H2 : Hid (∀ w p F, DK w p F (AD.newD 4) → Calls Try.prog 17 #[ptr p, .string ⟨#[97]⟩, .int .i64 2] w fun e w' => ∃ F', e = .returned (.int .i64 0) ∧ DK w' p F' aw1 ∧ Ext F w w' F') := Lib.hid fun w p F h => by
    have := H.make w p F _ nmA 2 h g0 (by decide) (by unfold I63; omega); rwa [e1] at this
  have H3 : Hid (∀ w p F v, DK w p F aw1 → FS (mask F w) v 1 z7 → Calls Try.prog 18 #[ptr p, .string ⟨#[97]⟩, .int .i64 1, v] w fun e w' => ∃ F', e = .returned (.int .i64 0) ∧ DK w' p F' aw2 ∧ Ext F w w' F') := Lib.hid fun w p F v h hf => by
    have := H.write w p F _ nmA 1 v 1 z7 h g1 (by decide) (by unfold I63; omega) hf z7_bytes (by omega); rwa [e2] at this
  have H4 : Hid (∀ w p F, DK w p F aw2 → Calls Try.prog 27 #[ptr p] w fun e w' => e = .returned (.int .i64 1) ∧ Below w.heap.size w w') := Lib.hid fun w p F h => by
    have := H.waiting w p F _ h g2; rwa [e4] at this
  have H5 : Hid (∀ w p F, DK w p F aw2 → Calls Try.prog 19 #[ptr p, .string ⟨#[97]⟩] w fun e w' => ∃ F', e = .returned (.int .i64 0) ∧ DK w' p F' aw3 ∧ Ext F w w' F') := Lib.hid fun w p F h => by
    have := H.sync w p F _ nmA h g2 (by decide); rwa [e3] at this
  have H6 : Hid (∀ w p F, DK w p F aw3 → Calls Try.prog 28 #[ptr p] w fun e w' => e = .returned (.int .i64 3) ∧ Below w.heap.size w w') := Lib.hid fun w p F h => by
    have := H.ops w p F _ h g3; rwa [e5] at this
  have H7 : Hid (∀ w p F, DK w p F aw3 → Calls Try.prog 26 #[ptr p] w fun e w' => e = .returned (.int .i64 2) ∧ Below w.heap.size w w') := Lib.hid fun w p F h => by
    have := H.used w p F _ h g3; rwa [e6] at this
  have HZ := Lib.hid z7_cells
  clear g0 g1 g2 g3 e1 e2 e3 e4 e5 e6
  go_enter Try.func7, Try.ntmps7
  go_wp2_with (first
    | (rw [← HZ.out])
    | (go_at_call 8; (with_reducible refine (H1.out _).mono ?_); rintro e w1 ⟨p, F1, rfl, k1, x1⟩; have K1 := Lib.hid k1; have X1 := Lib.hid x1; clear k1 x1)
    | (go_at_call 17; (with_reducible refine (H2.out _ _ _ K1.out).mono ?_); rintro e w2 ⟨F2, rfl, k2, x2⟩; have K2 := Lib.hid k2; have X2 := Lib.hid (X1.out.trans x2); clear k2 x2)
    | (refine wpl_build_secG (by rfl) _ rfl z7 rfl rfl ?_)
    | (go_at_call 18; (with_reducible refine (H3.out _ _ _ _ (hH.out.below K2.out (below_alloc _ _)) (FS.fresh1 (hH.out.foot K2.out) z7 rfl)).mono ?_); rintro e w3 ⟨F3, rfl, k3, x3⟩; have K3 := Lib.hid k3; have X3 := Lib.hid ((X2.out.trans (Ext.below (below_alloc _ _))).trans x3); clear k3 x3)
    | (go_at_call 27; (with_reducible refine (H4.out _ _ _ K3.out).mono ?_); rintro e w4 ⟨rfl, b4⟩; have K4 := Lib.hid (hH.out.below K3.out b4); have X4 := Lib.hid (X3.out.trans (Ext.below b4)); clear b4)
    | (go_at_call 19; (with_reducible refine (H5.out _ _ _ K4.out).mono ?_); rintro e w5 ⟨F5, rfl, k5, x5⟩; have K5 := Lib.hid k5; have X5 := Lib.hid (X4.out.trans x5); clear k5 x5)
    | (go_at_call 28; (with_reducible refine (H6.out _ _ _ K5.out).mono ?_); rintro e w6 ⟨rfl, b6⟩; have K6 := Lib.hid (hH.out.below K5.out b6); have X6 := Lib.hid (X5.out.trans (Ext.below b6)); clear b6)
    | (go_at_call 26; (with_reducible refine (H7.out _ _ _ K6.out).mono ?_); rintro e w7 ⟨rfl, b7⟩; have X7 := Lib.hid (X6.out.trans (Ext.below b7)); clear b7))
  go_ret
  exact ⟨rfl, X7.out.none⟩
end Go.Proofs.Ytpnialanmidekaa
