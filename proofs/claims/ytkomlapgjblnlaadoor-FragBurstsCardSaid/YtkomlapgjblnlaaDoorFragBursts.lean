/-
  THE WALK OF THE 5 FragBursts: whatever fragment, place and four bytes come in: the call returns true and changes nothing that was there (written by wip/gen/g24.py).
-/
import Derived.Test.YtkomlapgjblnlaaDoorFragDecodes
import Derived.Deep.AppendLies
namespace Go.Proofs.YtkomlapgjblnlaaDoor
open Go.RowKit
set_option maxRecDepth 8000 in
set_option maxHeartbeats 2000000 in
theorem bursts_wrong (k e : Int) (a : Option Addr) (n cap : Nat) (at_ x0 x1 x2 x3 : Int) (W : World) (ht : Tab W) (hr : fragOk k n = false) :
    Calls Tryd.prog 5 #[.agg (fA k e (.slice a n cap)), .int .i64 at_, .agg #[.int .u8 x0, .int .u8 x1, .int .u8 x2, .int .u8 x3]] W fun e w' => e = .returned (.bool true) ∧ Below W.heap.size W w' := by
  obtain ⟨w0, hw0⟩ : ∃ q, (W.alloc (.cells (fA k e (.slice a n cap)) 25)).alloc (.cells #[.int .u8 x0, .int .u8 x1, .int .u8 x2, .int .u8 x3] 37) = q := ⟨_, rfl⟩
  have HA : Hid (FO w0 W.heap.size k e (.slice a n cap)) := Lib.hid (by rw [← hw0]; exact (FO.alloc W).keep (balloc _ _))
  have HB : Hid (Below W.heap.size W w0) := Lib.hid (by rw [← hw0]; exact fbelow2 W _ _)
  have HT := Lib.hid (ht.keep HB.out)
  have HO : Hid (∀ w, Calls Tryd.prog 7 #[.agg (fA k e (.slice a n cap))] w fun r w' => r = .returned (.bool false) ∧ Below w.heap.size w w') := Lib.hid fun w => by rw [← hr]; exact rfright_any k e a n cap w
  clear hr ht
  go_enter Tryd.func5, Tryd.ntmps5
  go_wp2_with (first
    | (go_at_call 7; (with_reducible refine (HO.out _).mono ?_); rintro r w1 ⟨rfl, hb1⟩; have HB1 := Lib.hid (bch HB.out hb1); have HT1 := Lib.hid (HT.out.keep hb1); clear hb1)
    | (go_at_call 8; (with_reducible refine (awake_any HT1.out).mono ?_); rintro r w2 ⟨rfl, hb2⟩; have HB2 := Lib.hid (bch HB1.out hb2); clear hb2)
    | (refine wpl_load_fr rfl (.tmp 3) rfl rfl HA.out ?_))
  go_ret
  exact ⟨rfl, HB2.out⟩
set_option maxRecDepth 8000 in
set_option maxHeartbeats 4000000 in
theorem bursts_right (k e : Int) (a : Option Addr) (n cap : Nat) (d : List Int) (at_ x0 x1 x2 x3 : Int) (W : World) (ht : Tab W) (hr : fragOk k n = true) (he : 0 ≤ e ∧ e ≤ 4294967295) (hri : RI .u8 W (.slice a n cap) n d) (hbd : isB d)
    (hw : isB [x0, x1, x2, x3]) :
    Calls Tryd.prog 5 #[.agg (fA k e (.slice a n cap)), .int .i64 at_, .agg #[.int .u8 x0, .int .u8 x1, .int .u8 x2, .int .u8 x3]] W fun e w' => e = .returned (.bool true) ∧ Below W.heap.size W w' := by
  have hp := fok_parts hr
  have hd := hri.length
  have hrd : fragOk k d.length = true := by rw [hd]; exact hr
  obtain ⟨w0, hw0⟩ : ∃ q, (W.alloc (.cells (fA k e (.slice a n cap)) 25)).alloc (.cells #[.int .u8 x0, .int .u8 x1, .int .u8 x2, .int .u8 x3] 37) = q := ⟨_, rfl⟩
  have HA : Hid (FO w0 W.heap.size k e (.slice a n cap)) := Lib.hid (by rw [← hw0]; exact (FO.alloc W).keep (balloc _ _))
  have HB : Hid (Below W.heap.size W w0) := Lib.hid (by rw [← hw0]; exact fbelow2 W _ _)
  have HT := Lib.hid (ht.keep HB.out)
  have HR := Lib.hid (hri.keep HB.out)
  have HX : Hid (∀ j, j < 4 → w0.cell? ⟨W.heap.size + 1, j, none⟩ = some (.int .u8 ([x0, x1, x2, x3].getD j 0))) := Lib.hid (by
    have hl : w0.heap[W.heap.size + 1]? = some (.cells #[.int .u8 x0, .int .u8 x1, .int .u8 x2, .int .u8 x3] 37 (0, 0)) := by
      rw [← hw0]
      have := heap_alloc_last (W.alloc (.cells (fA k e (.slice a n cap)) 25)) (.cells #[.int .u8 x0, .int .u8 x1, .int .u8 x2, .int .u8 x3] 37)
      rwa [show (W.alloc (.cells (fA k e (.slice a n cap)) 25)).heap.size = W.heap.size + 1 from by simp] at this
    intro j hj
    rw [cell_of_row w0 _ j _ _ _ hl]
    match j, hj with
    | 0, _ => simp
    | 1, _ => simp
    | 2, _ => simp
    | 3, _ => simp)
  have HW0 : Hid (W.heap.size + 1 < w0.heap.size) := Lib.hid (by rw [← hw0]; simp)
  obtain ⟨L, hL⟩ : ∃ L, 11 + n = L := ⟨_, rfl⟩
  obtain ⟨B, hB⟩ : ∃ B, fragB k e d = B := ⟨_, rfl⟩
  have hbB : isB B := by rw [← hB]; exact fragB_bytes (by omega) e hbd
  have hlB : B.length = L := by rw [← hB, fragB_length, hd, hL]
  have HE : Hid (∀ w, Tab w → RI .u8 w (.slice a n cap) n d → Calls Tryd.prog 6 #[.agg (fA k e (.slice a n cap))] w fun r w' => ∃ p c, r = .returned (.tuple #[.slice p L c, .int .i64 0]) ∧ RI .u8 w' (.slice p L c) L B ∧ Below w.heap.size w w') := Lib.hid fun w h1 h2 => by rw [← hB, ← hL]; exact fenc_right k e a n cap d w h1 hr he h2 hbd
  have HO : Hid (∀ w, Calls Tryd.prog 7 #[.agg (fA k e (.slice a n cap))] w fun r w' => r = .returned (.bool true) ∧ Below w.heap.size w w') := Lib.hid fun w => by rw [← hr]; exact rfright_any k e a n cap w
  have HSR : Hid (∀ v w, RI .u8 w v n d → RI .u8 w (.slice a n cap) n d → Calls Tryd.prog 12 #[.agg (fA k e v), .agg (fA k e (.slice a n cap))] w fun r w' => r = .returned (.bool true) ∧ Below w.heap.size w w') := Lib.hid fun v w h1 h2 => fsame_self k e d hbd v _ n n w h1 h2
  have hg := frag_got (k := k) (e := e) (d := d) [] hrd (by omega)
  rw [List.append_nil, hB, hd, hL] at hg
  have HD1 : Hid (∀ w v, Tab w → RI .u8 w v L B → Calls Tryd.prog 11 #[v, .int .u32 e] w fun r w' => ∃ p c, r = .returned (.tuple #[.agg (fA k e (.slice p n c)), .int .i64 L, .int .i64 0]) ∧ RI .u8 w' (.slice p n c) n d ∧ Below w.heap.size w w') := Lib.hid fun w v h0 h =>
    (fdec_any v _ _ e w h0 h hbB).mono fun _ _ hq => by
      obtain ⟨p, n', c, g1, g2, g3, g4⟩ := decf_form hg hq
      obtain rfl : n' = n := by rw [g3]; exact hd
      exact ⟨p, c, g1, g2, g4⟩
  have HD2 : Hid (∀ w v cs, Tab w → RI .u8 w v L cs → isB cs → (fragD cs e).2.2 ≠ 0 → ∃ x, x ≠ 0 ∧ Calls Tryd.prog 11 #[v, .int .u32 e] w fun r w' => ∃ p n' c, r = .returned (.tuple #[.agg (fA 0 0 (.slice p n' c)), .int .i64 0, .int .i64 x]) ∧ Below w.heap.size w w') := Lib.hid fun w v cs h0 h hb hx =>
    ⟨_, hx, (fdec_any v _ _ e w h0 h hb).mono fun _ _ hq => by
      obtain ⟨p, n', c, g1, _, g4⟩ := decf_short (fragD_err hx) hq
      exact ⟨p, n', c, g1, g4⟩⟩
  have HPB : Hid (∀ q j, isB (pat B [x0, x1, x2, x3] q j)) := Lib.hid fun q j => pat_bytes B [x0, x1, x2, x3] q j hbB hw
  have HBU : Hid (∀ q j, 6 ≤ q → q + j ≤ L → j ≤ 4 → (fragD (pat B [x0, x1, x2, x3] q j) e).2.2 = 0 → pat B [x0, x1, x2, x3] q j = B) := Lib.hid fun q j h6 hj h4 hq => by
    rw [← hB] at hq ⊢
    exact frag_burst hrd (by omega) hbd [x0, x1, x2, x3] hw q j h6 (by omega) (by simp; omega) h4 hq
  have HLB : Hid (B.length = L ∧ isB B ∧ L ≤ 208) := Lib.hid ⟨hlB, hbB, by omega⟩
  have hL11 : (11 : Int) ≤ (L : Int) := by omega
  have hL208 : (L : Int) ≤ 208 := by omega
  have hL0 : 0 < L := by omega
  obtain ⟨K, hK⟩ : ∃ K : Nat, (L : Int) - 6 = (K : Int) := ⟨L - 6, by omega⟩
  obtain ⟨p, hpt, hpl⟩ : ∃ p : Nat, (IntKind.u64.wrap at_).tmod (K : Int) = (p : Int) ∧ p < K := by
    have h0 : 0 ≤ IntKind.u64.wrap at_ := by rw [Go.IntKind.wrap_u64]; omega
    refine ⟨((IntKind.u64.wrap at_).tmod (K : Int)).toNat, ?_, ?_⟩ <;> rw [Int.tmod_eq_emod_of_nonneg h0] <;> have h1 := Int.emod_nonneg (IntKind.u64.wrap at_) (show (K : Int) ≠ 0 by omega) <;> have h2 := Int.emod_lt_of_pos (IntKind.u64.wrap at_) (show (0 : Int) < K by omega) <;> omega
  have hpb : (p : Int) ≤ 202 := by omega
  have hK5 : (5 : Int) ≤ (K : Int) := by omega
  have hK202 : (K : Int) ≤ 202 := by omega
  obtain ⟨q, hq⟩ : ∃ q : Nat, (6 : Int) + (p : Int) = (q : Int) := ⟨6 + p, by omega⟩
  have hq6 : 6 ≤ q := by omega
  have hqL : q < L := by omega
  have hqb : (q : Int) ≤ 208 := by omega
  clear hr hri hp hd hrd ht he hbd hw hg hB hbB hlB hL hpl
  go_enter Tryd.func5, Tryd.ntmps5
  go_wp2_with (first
    | (go_at_call 7; (with_reducible refine (HO.out _).mono ?_); rintro r w1 ⟨rfl, hb1⟩; have HA1 := Lib.hid (HA.out.keep hb1); have HB1 := Lib.hid hb1; clear hb1)
    | (go_at_call 6; (with_reducible refine (HE.out _ (HT.out.keep HB1.out) (HR.out.keep HB1.out)).mono ?_); rintro r w2 ⟨p2, c2, rfl, hr2, hb2⟩; have HE2 := Lib.hid hr2; have HA2 := Lib.hid (HA1.out.keep hb2); have HB2 := Lib.hid (bch HB1.out hb2); clear hr2 hb2)
    | (at_builtin; refine wpl_appn rfl (.tmp 30) (.tmp 31) 23 rfl 5 .u8 1 Tryd.underlying23 Tryd.info_u8 w2.heap.size _ 0 [] rfl (own_empty rfl (Nat.le_refl _)) _ L B rfl (HE2.out.keep (balloc _ _)) (by have := HLB.out; omega) (by have := HLB.out; omega) w2.heap.size w2 (Lib.hid (balloc _ _)) (Nat.le_refl _) (by simp) ?_; intro v3 w3 HO3 HB3; rw [Nat.zero_add, List.nil_append] at HO3; obtain ⟨g, gc, rfl, hg1, hg2⟩ := HO3.out.form hL0)
    | (refine wpl_load_fr rfl (.tmp 3) rfl rfl HA1.out ?_)
    | (refine wpl_load_fr rfl (.tmp 3) rfl rfl HA.out ?_))
  have HCX := Lib.hid (fun wr (h : Below w2.heap.size w2 wr) (j : Nat) (hj : j < 4) => (show wr.cell? ⟨W.heap.size + 1, j, none⟩ = some (.int .u8 ([x0, x1, x2, x3].getD j 0)) from cell_keep (bch HB2.out h) (HX.out j hj)))
  have hg0 : ¬ g = W.heap.size + 1 := by have := HW0.out; have := HB2.out.size; omega
  go_loopw [10] (fun i wr => ∃ j : Nat, i = .int .i64 j ∧ j ≤ 4 ∧ q + j ≤ L ∧ Hid (wr.ownsRow w2.heap.size 5 1 (.slice (some ⟨g, 0, none⟩) L gc) L (il .u8 (pat B [x0, x1, x2, x3] q j))) ∧ Hid (Below w2.heap.size w2 wr)) (fun i _ => 4 - (intOf i).toNat)
  case atStart => exact ⟨0, rfl, by omega, by omega, HO3, HB3⟩
  case round =>
    obtain ⟨j, rfl, hj4, hjl, HO, HB4⟩ := hrel
    by_cases hlt : j < 4 ∧ q + j < L
    · obtain ⟨hlt1, hlt2⟩ := hlt
      have hcell : wr.cell? ⟨g, q + j, none⟩ = some (.int .u8 ((pat B [x0, x1, x2, x3] q j).getD (q + j) 0)) := by
        rw [HO.out.cellAt (q + j) (by omega), il_get _ _ _ (by rw [pat_length, HLB.out.1]; omega)]
      have hfr : wr.frozen? ⟨g, q + j, none⟩ = false := HO.out.frozenAt (q + j)
      obtain ⟨x, hx⟩ : ∃ x, [x0, x1, x2, x3].getD j 0 = x := ⟨_, rfl⟩
      have hc2 : wr.cell? ⟨W.heap.size + 1, j, none⟩ = some (.int .u8 x) := by rw [← hx]; exact HCX.out wr HB4.out j hlt1
      have HP := Lib.hid (show pat B [x0, x1, x2, x3] q (j + 1) = (pat B [x0, x1, x2, x3] q j).set (q + j) x from by rw [← hx]; rfl)
      have h5 : (q : Int) + (j : Int) < (L : Int) := by omega
      have h6 : (j : Int) < 4 := by omega
      clear hx
      go_wp2
      go_roundw
      case rel => exact ⟨j + 1, by go_num, by omega, by omega, by rw [HP.out, ← il_set]; exact (HO.out.stored (q + j) _).1, HB4.out.setCell (by show w2.heap.size ≤ g; exact hg1) _⟩
      case measure => simp [intOf]; omega
    · obtain ⟨cs, hcs⟩ : ∃ cs, pat B [x0, x1, x2, x3] q j = cs := ⟨_, rfl⟩
      have HCB := Lib.hid (HPB.out q j)
      have HEQ := Lib.hid (HBU.out q j hq6 hjl hj4)
      rw [hcs] at HO HCB HEQ
      have HC4 := Lib.hid (RI.own HO.out)
      have hext : 4 ≤ (j : Int) ∨ ((j : Int) < 4 ∧ (L : Int) ≤ (q : Int) + (j : Int)) := by omega
      obtain ⟨w4, hw4⟩ : ∃ q, q = wr := ⟨_, rfl⟩
      subst hw4
      have HA4 := Lib.hid (HA2.out.keep HB4.out)
      obtain ⟨u0, u1, u2⟩ := HA4.out.cells
      have HT4 := Lib.hid (HT.out.keep (bch HB2.out HB4.out))
      have HR4 := Lib.hid (HR.out.keep (bch HB2.out HB4.out))
      obtain ⟨sb, hsb⟩ : ∃ s, strOfNums B = s := ⟨_, rfl⟩
      have HSB := Lib.hid hsb
      clear hlt hj4 hjl HO
      by_cases hcB : cs = B
      · subst hcB
        have HSC := HSB
        clear hcs hsb
        rcases hext with h7 | ⟨h7, h8⟩
        all_goals
          go_wp2_with (first
            | (go_at_call 11; (with_reducible refine (HD1.out _ _ HT4.out HC4.out).mono ?_); rintro r w5 ⟨p5, c5, rfl, hr5, hb5⟩; have HR5 := Lib.hid hr5; have HB5 := Lib.hid hb5; clear hr5 hb5)
            | (refine wpList_store_row rfl 25 _ _ rfl w5.heap.size (fA k e (.slice p5 n c5)) rfl rfl _ _ (heap_alloc_last w5 _) (fr_info _ rfl) rfl (fr_one _ _ _ _ _) ?_; obtain ⟨w6, hw6⟩ : ∃ q, World.setRow (w5.alloc (.cells (fA 0 0 (.slice none 0 0)) 25)) w5.heap.size (fA k e (.slice p5 n c5)) = q := ⟨_, rfl⟩; rw [hw6]; have HX6 : Hid (Below w5.heap.size w5 w6) := Lib.hid (by rw [← hw6]; exact bnew _ _ _); have HF6 : Hid (FO w6 w5.heap.size k e (.slice p5 n c5)) := Lib.hid (by rw [← hw6]; exact FO.new _); have HB6 := Lib.hid (bch HB5.out HX6.out); have HZ6 := Lib.hid (bch HB4.out HB6.out); have hqc := (conv_ri (HC4.out.keep HB6.out)).trans (by rw [HSC.out]); have hqb := (conv_ri (HE2.out.keep HZ6.out)).trans (by rw [HSB.out]); clear hw6)
            | (go_at_call 12; (with_reducible refine (HSR.out _ _ (HR5.out.keep HX6.out) (HR4.out.keep HB6.out)).mono ?_); rintro r w7 ⟨rfl, hb7⟩; have HB7 := Lib.hid (bch HB6.out hb7); clear hb7)
            | (go_at_call 8; (with_reducible refine (awake_any (HT4.out.keep HB7.out)).mono ?_); rintro r w8 ⟨rfl, hb8⟩; have HB8 := Lib.hid (bch HB7.out hb8); clear hb8)
            | (refine wpl_load_fr rfl (.tmp 11) rfl rfl HF6.out ?_)
            | (refine wpl_load_fr rfl (.tmp 3) rfl rfl (HA4.out.keep HB6.out) ?_))
          go_ret
          exact ⟨rfl, bch (bch HB.out (bch HB2.out HB4.out)) HB8.out⟩
      · obtain ⟨sc, hsc⟩ : ∃ s, strOfNums cs = s := ⟨_, rfl⟩
        have HSC := Lib.hid hsc
        have hne2 := str_ne (show ¬ sc = sb from fun h => hcB (strOfNums_inj HCB.out HLB.out.2.1 (by rw [hsc, hsb, h])))
        obtain ⟨x, hx0, hD⟩ := HD2.out _ _ cs HT4.out HC4.out HCB.out (fun h => hcB (HEQ.out h))
        have HD := Lib.hid hD
        have hx1 : (x != 0) = true := by simpa using hx0
        clear hcs hsb hsc hD hcB hx0
        rcases hext with h7 | ⟨h7, h8⟩
        all_goals
          go_wp2_with (first
            | (go_at_call 11; (with_reducible refine HD.out.mono ?_); rintro r w5 ⟨p5, n5, c5, rfl, hb5⟩; have HB5 := Lib.hid hb5; clear hb5)
            | (refine wpList_store_row rfl 25 _ _ rfl w5.heap.size (fA 0 0 (.slice p5 n5 c5)) rfl rfl _ _ (heap_alloc_last w5 _) (fr_info _ rfl) rfl (fr_one _ _ _ _ _) ?_; obtain ⟨w6, hw6⟩ : ∃ q, World.setRow (w5.alloc (.cells (fA 0 0 (.slice none 0 0)) 25)) w5.heap.size (fA 0 0 (.slice p5 n5 c5)) = q := ⟨_, rfl⟩; rw [hw6]; have HX6 : Hid (Below w5.heap.size w5 w6) := Lib.hid (by rw [← hw6]; exact bnew _ _ _); have HF6 : Hid (FO w6 w5.heap.size 0 0 (.slice p5 n5 c5)) := Lib.hid (by rw [← hw6]; exact FO.new _); have HB6 := Lib.hid (bch HB5.out HX6.out); have HZ6 := Lib.hid (bch HB4.out HB6.out); have hqc := (conv_ri (HC4.out.keep HB6.out)).trans (by rw [HSC.out]); have hqb := (conv_ri (HE2.out.keep HZ6.out)).trans (by rw [HSB.out]); clear hw6)
            | (go_at_call 8; (with_reducible refine (awake_any (HT4.out.keep HB6.out)).mono ?_); rintro r w8 ⟨rfl, hb8⟩; have HB8 := Lib.hid (bch HB6.out hb8); clear hb8))
          go_ret
          exact ⟨rfl, bch (bch HB.out (bch HB2.out HB4.out)) HB8.out⟩
end Go.Proofs.YtkomlapgjblnlaaDoor
