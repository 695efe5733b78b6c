/-
  THE WALK OF HeaderBursts (layer 18): whatever header, place and four bytes come in, the call returns true and changes nothing that was there. (Written by wip/gen/g29.py.)
-/
import Derived.Test.YtncnmmillhnhlaaDoorHeadLaws
import Derived.Test.YtncnmmillhnhlaaDoorHeadRightR
namespace Go.Proofs.YtncnmmillhnhlaaDoor
open Go.RowKit
set_option maxRecDepth 8000 in
set_option maxHeartbeats 4000000 in
theorem bursts_wrong (h : Hdr) (ht : HdT h) (hk : hdOk h = false) (at_ x0 x1 x2 x3 : Int) (w : World) (hT : Tab w) :
    Calls Tryd.prog 5 #[.agg (hv h), .int .i64 at_, .agg #[.int .u8 x0, .int .u8 x1, .int .u8 x2, .int .u8 x3]] w fun r w' => r = .returned (.bool true) ∧ Below w.heap.size w w' := by
  obtain ⟨w0, hw0⟩ : ∃ q, (w.alloc (.cells (hv h) 25)).alloc (.cells #[.int .u8 x0, .int .u8 x1, .int .u8 x2, .int .u8 x3] 38) = q := ⟨_, rfl⟩
  have hs1 : (w.alloc (.cells (hv h) 25)).heap.size = w.heap.size + 1 := alloc_size w _
  have HK := Lib.hid (show HB w0 w.heap.size h from by rw [← hw0]; exact (HB.new w h ht.n).keep (balloc _ _))
  have HW := Lib.hid (show Below w.heap.size w w0 from by rw [← hw0]; exact bch (balloc w _) (balloc _ _))
  have HT := Lib.hid hT
  have HR : Hid (∀ w, Calls Tryd.prog 8 #[.agg (hv h)] w fun r w' => r = .returned (.bool false) ∧ Below w.heap.size w w') := Lib.hid fun w => by rw [← hk]; exact rright_any h ht w
  clear ht hk hT hs1
  go_enter Tryd.func5, Tryd.ntmps5
  go_wp2_with (first
    | (go_at_call 8; (with_reducible refine (HR.out _).mono ?_); rintro r w1 ⟨rfl, hb1⟩; have HB1 := Lib.hid (bch HW.out hb1); have HK1 := Lib.hid (HK.out.keep hb1); have HX1 := Lib.hid hb1; clear hb1)
    | (go_at_call 10; (with_reducible refine (awake_any (HT.out.keep HB1.out)).mono ?_); rintro r w2 ⟨rfl, hb2⟩; have HB2 := Lib.hid (bch HB1.out hb2); clear hb2)
    | (refine wpl_load_hd (by rfl) (.tmp 3) rfl rfl HK.out ?_))
  go_ret
  exact ⟨rfl, HB2.out⟩
set_option maxRecDepth 8000 in
set_option maxHeartbeats 4000000 in
theorem bursts_right (h : Hdr) (ht : HdT h) (hk : hdOk h = true) (at_ x0 x1 x2 x3 : Int) (hw : isB [x0, x1, x2, x3]) (w : World) (hT : Tab w) :
    Calls Tryd.prog 5 #[.agg (hv h), .int .i64 at_, .agg #[.int .u8 x0, .int .u8 x1, .int .u8 x2, .int .u8 x3]] w fun r w' => r = .returned (.bool true) ∧ Below w.heap.size w w' := by
  obtain ⟨w0, hw0⟩ : ∃ q, (w.alloc (.cells (hv h) 25)).alloc (.cells #[.int .u8 x0, .int .u8 x1, .int .u8 x2, .int .u8 x3] 38) = q := ⟨_, rfl⟩
  have hs1 : (w.alloc (.cells (hv h) 25)).heap.size = w.heap.size + 1 := alloc_size w _
  have HK := Lib.hid (show HB w0 w.heap.size h from by rw [← hw0]; exact (HB.new w h ht.n).keep (balloc _ _))
  have HW := Lib.hid (show Below w.heap.size w w0 from by rw [← hw0]; exact bch (balloc w _) (balloc _ _))
  have HT := Lib.hid hT
  have HR : Hid (∀ w, Calls Tryd.prog 8 #[.agg (hv h)] w fun r w' => r = .returned (.bool true) ∧ Below w.heap.size w w') := Lib.hid fun w => by rw [← hk]; exact rright_any h ht w
  have HX : Hid (∀ j, j < 4 → w0.cell? ⟨w.heap.size + 1, j, none⟩ = some (.int .u8 ([x0, x1, x2, x3].getD j 0))) := Lib.hid (by
    have hl : w0.heap[w.heap.size + 1]? = some (.cells #[.int .u8 x0, .int .u8 x1, .int .u8 x2, .int .u8 x3] 38 (0, 0)) := by
      rw [← hw0]
      have := heap_alloc_last (w.alloc (.cells (hv h) 25)) (.cells #[.int .u8 x0, .int .u8 x1, .int .u8 x2, .int .u8 x3] 38)
      rwa [hs1] at this
    intro j hj
    rw [cell_of_row w0 _ j _ _ _ hl]
    match j, hj with
    | 0, _ => simp
    | 1, _ => simp
    | 2, _ => simp
    | 3, _ => simp)
  have HZ := Lib.hid z64_cells
  obtain ⟨S, hS⟩ : ∃ S, secH h = S := ⟨_, rfl⟩
  have hSl : S.length = 64 := by rw [← hS]; exact secH_length ht.n
  have hSb : isB S := by rw [← hS]; exact secH_bytes h
  have HSL := Lib.hid hSl
  have HN := Lib.hid ht.n
  have HE : Hid (∀ w, Tab w → Calls Tryd.prog 6 #[.agg (hv h)] w fun r w' => r = .returned (.tuple #[.agg (sv S), .int .i64 0]) ∧ Below w.heap.size w w') := Lib.hid fun w q => by rw [← hS]; exact henc_ok h ht hk w q
  have HD1 : Hid (∀ w, Tab w → Calls Tryd.prog 11 #[.agg (sv S)] w fun r w' => r = .returned (.tuple #[.agg (hv h), .int .i64 0]) ∧ Below w.heap.size w w') := Lib.hid fun w q => hdec_any S hSl hSb w q (by rw [← hS]; exact hd_got ht hk)
  have HPL : Hid (∀ q j, (pat S [x0, x1, x2, x3] q j).length = 64) := Lib.hid fun q j => by rw [pat_length]; exact hSl
  have HBU : Hid (∀ q j, q + j ≤ 64 → j ≤ 4 → (q < 37 → q + j ≤ 37) → (headD (pat S [x0, x1, x2, x3] q j)).2 = 0 → pat S [x0, x1, x2, x3] q j = S) := Lib.hid fun q j g1 g2 g3 g4 => by
    rw [← hS] at g4 ⊢
    exact hd_burst ht [x0, x1, x2, x3] hw q j g1 (by simp; omega) g2 g3 g4
  have HD2 : Hid (∀ w q j, Tab w → ∃ g, g.l.length = 4 ∧ Calls Tryd.prog 11 #[.agg (sv (pat S [x0, x1, x2, x3] q j))] w fun r w' => r = .returned (.tuple #[.agg (hv g), .int .i64 (headD (pat S [x0, x1, x2, x3] q j)).2]) ∧ Below w.heap.size w w') := Lib.hid fun w q j ht => by
    have hb := pat_bytes S [x0, x1, x2, x3] q j hSb hw
    exact ⟨(headD (pat S [x0, x1, x2, x3] q j)).1, (headD_typed hb).n, hdec_any _ (by rw [pat_length]; exact hSl) hb w ht rfl⟩
  obtain ⟨p, hpt, hp64⟩ : ∃ p : Nat, (IntKind.u64.wrap at_).tmod 64 = (p : Int) ∧ p < 64 := by
    have h0 : 0 ≤ IntKind.u64.wrap at_ := by rw [Go.IntKind.wrap_u64]; omega
    refine ⟨((IntKind.u64.wrap at_).tmod 64).toNat, ?_, ?_⟩ <;> rw [Int.tmod_eq_emod_of_nonneg h0] <;> omega
  have hpb : (p : Int) ≤ 63 := by omega
  clear ht hk hT hs1 hS hSl hSb hw
  go_enter Tryd.func5, Tryd.ntmps5
  go_wp2_with (first
    | (go_at_call 8; (with_reducible refine (HR.out _).mono ?_); rintro r w1 ⟨rfl, hb1⟩; have HB1 := Lib.hid (bch HW.out hb1); have HK1 := Lib.hid (HK.out.keep hb1); have HX1 := Lib.hid hb1; clear hb1)
    | (refine wpl_load_hd (by rfl) (.tmp 3) rfl rfl HK.out ?_)
    | (go_at_call 6; (with_reducible refine (HE.out _ (HT.out.keep HB1.out)).mono ?_); rintro r w2 ⟨rfl, hb2⟩; have HB2 := Lib.hid (bch HB1.out hb2); have HX2 := Lib.hid (bch HX1.out hb2); clear hb2)
    | (refine wpl_load_hd (by rfl) (.tmp 3) rfl rfl HK1.out ?_)
    | (rw [← HZ.out]; refine wpl_put_sec rfl (.tmp 7) (.tmp 20) rfl w2.heap.size z64 S (Blk.new w2 z64 z64_length) HSL.out rfl rfl ?_; intro w3 HC3 HG3; have HB3 := Lib.hid (bch HB2.out (new_below HG3.out)); have HX3 := Lib.hid (bch HX2.out (new_below HG3.out)))
    | (refine wpl_load_sec (by rfl) (.tmp 7) rfl w2.heap.size rfl S HC3.out ?_)
    | (rw [← HZ.out]; refine wpl_put_sec rfl (.tmp 9) (.tmp 22) rfl w3.heap.size z64 S (Blk.new w3 z64 z64_length) HSL.out rfl rfl ?_; intro w4 HC4 HG4; have HB4 := Lib.hid (new_below HG4.out)))
  have HCX := Lib.hid (fun wr (q : Below w3.heap.size w3 wr) (j : Nat) (hj : j < 4) => (show wr.cell? ⟨w.heap.size + 1, j, none⟩ = some (.int .u8 ([x0, x1, x2, x3].getD j 0)) from cell_keep (bch HX3.out q) (HX.out j hj)))
  go_loopw [10] (fun i wr => ∃ j : Nat, i = .int .i64 j ∧ j ≤ 4 ∧ p + j ≤ 64 ∧ (p < 37 → p + j ≤ 37) ∧ Hid (Blk wr w3.heap.size (pat S [x0, x1, x2, x3] p j)) ∧ Hid (Below w3.heap.size w3 wr)) (fun i _ => 4 - (intOf i).toNat)
  case atStart => exact ⟨0, rfl, by omega, by omega, by omega, HC4, HB4⟩
  case round =>
    obtain ⟨j, rfl, hj4, hj64, hj37, HC, HBL⟩ := hrel
    by_cases hlt : j < 4 ∧ p + j < 64 ∧ (p < 37 → p + j < 37)
    · obtain ⟨hlt1, hlt2, hlt3⟩ := hlt
      have hcell := HC.out.cell (p + j) hlt2
      have hfr := HC.out.frozen (p + j)
      obtain ⟨x, hx⟩ : ∃ x, [x0, x1, x2, x3].getD j 0 = x := ⟨_, rfl⟩
      have hc2 := HCX.out wr HBL.out j hlt1
      rw [hx] at hc2
      have HP := Lib.hid (show (pat S [x0, x1, x2, x3] p j).set (p + j) x = pat S [x0, x1, x2, x3] p (j + 1) from by rw [← hx]; rfl)
      have h5 : (p : Int) + (j : Int) < 64 := by omega
      have h6 : (j : Int) < 4 := by omega
      clear hx
      by_cases h37 : p < 37
      · have g1 : (p : Int) < 37 := by omega
        have g2 : (p : Int) + (j : Int) < 37 := by have := hlt3 h37; omega
        go_wp2
        go_roundw
        case rel => exact ⟨j + 1, by go_num, by omega, by omega, by omega, Lib.hid (by rw [← HP.out]; exact HC.out.stored _ _), Lib.hid (HBL.out.setCell (Nat.le_refl _) _)⟩
        case measure => simp [intOf]; omega
      · have g1 : ¬ (p : Int) < 37 := by omega
        have g2 : ¬ (p : Int) + (j : Int) < 37 := by omega
        go_wp2
        go_roundw
        case rel => exact ⟨j + 1, by go_num, by omega, by omega, by omega, Lib.hid (by rw [← HP.out]; exact HC.out.stored _ _), Lib.hid (HBL.out.setCell (Nat.le_refl _) _)⟩
        case measure => simp [intOf]; omega
    · have HEQ := Lib.hid (HBU.out p j hj64 hj4 hj37)
      obtain ⟨gg, hgn, hgd⟩ := HD2.out wr p j (HT.out.keep (bch HB3.out HBL.out))
      have HDD := Lib.hid hgd
      have HGN := Lib.hid hgn
      have HCL := Lib.hid (HPL.out p j)
      obtain ⟨cs, hcs⟩ : ∃ cs, pat S [x0, x1, x2, x3] p j = cs := ⟨_, rfl⟩
      obtain ⟨x, hxx⟩ : ∃ x, (headD (pat S [x0, x1, x2, x3] p j)).2 = x := ⟨_, rfl⟩
      rw [hxx] at HEQ HDD
      rw [hcs] at HC HEQ HDD HCL
      have hext : (4 ≤ (j : Int)) ∨ ((j : Int) < 4 ∧ 64 ≤ (p : Int) + (j : Int)) ∨ ((j : Int) < 4 ∧ (p : Int) + (j : Int) < 64 ∧ (p : Int) < 37 ∧ ¬ (p : Int) + (j : Int) < 37) := by omega
      obtain ⟨wz, hwz⟩ : ∃ q, q = wr := ⟨_, rfl⟩
      subst hwz
      have HCS := Lib.hid (HC3.out.keep HBL.out)
      have HBW := Lib.hid (bch HB3.out HBL.out)
      clear hgn hgd hcs hxx hlt hj64 hj37
      by_cases hc : cs = S
      · subst hc
        clear HDD
        rcases hext with g1 | ⟨g1, g2⟩ | ⟨g1, g2, g3, g4⟩
        all_goals
          go_wp2_with (first
            | (refine wpl_load_sec (by rfl) (.tmp 9) rfl w3.heap.size rfl cs HC6.out ?_)
            | (refine wpl_load_sec (by rfl) (.tmp 9) rfl w3.heap.size rfl cs HC.out ?_)
            | (refine wpl_load_sec (by rfl) (.tmp 7) rfl w2.heap.size rfl cs HS6.out ?_)
            | (go_at_call 11; (with_reducible refine (HD1.out _ (HT.out.keep HBW.out)).mono ?_); rintro r w5 ⟨rfl, hb5⟩; have HB5 := Lib.hid (bch HBW.out hb5); have HC5 := Lib.hid (HC.out.keep hb5); have HS5 := Lib.hid (HCS.out.keep hb5); clear hb5)
            | (refine wpl_put_hd rfl (.tmp 11) (.tmp 56) rfl w5.heap.size noH h (HB.new w5 noH rfl) HN.out rfl rfl ?_; intro w6 HA6 HG6; have HB6 := Lib.hid (bch HB5.out (new_below HG6.out)); have HC6 := Lib.hid (HC5.out.keep (new_below HG6.out)); have HS6 := Lib.hid (HS5.out.keep (new_below HG6.out)))
            | (refine wpl_eq_sec (.tmp 63) (.tmp 64) _ rfl cs cs HCL.out HSL.out rfl rfl (by rfl) ?_; rw [show decide (cs = cs) = true from by simp])
            | (go_at_call 10; (with_reducible refine (awake_any (HT.out.keep HB6.out)).mono ?_); rintro r w7 ⟨rfl, hb7⟩; have HB7 := Lib.hid (bch HB6.out hb7); clear hb7))
          go_ret
          exact ⟨rfl, HB7.out⟩
      · have hx0 : ¬ x = 0 := fun q => hc (HEQ.out q)
        have HDC := Lib.hid (show decide (cs = S) = false from decide_eq_false hc)
        clear hc
        rcases hext with g1 | ⟨g1, g2⟩ | ⟨g1, g2, g3, g4⟩
        all_goals
          go_wp2_with (first
            | (refine wpl_load_sec (by rfl) (.tmp 9) rfl w3.heap.size rfl cs HC6.out ?_)
            | (refine wpl_load_sec (by rfl) (.tmp 9) rfl w3.heap.size rfl cs HC.out ?_)
            | (refine wpl_load_sec (by rfl) (.tmp 7) rfl w2.heap.size rfl S HS6.out ?_)
            | (go_at_call 11; (with_reducible refine (HDD.out).mono ?_); rintro r w5 ⟨rfl, hb5⟩; have HB5 := Lib.hid (bch HBW.out hb5); have HC5 := Lib.hid (HC.out.keep hb5); have HS5 := Lib.hid (HCS.out.keep hb5); clear hb5)
            | (refine wpl_put_hd rfl (.tmp 11) (.tmp 56) rfl w5.heap.size noH gg (HB.new w5 noH rfl) HGN.out rfl rfl ?_; intro w6 HA6 HG6; have HB6 := Lib.hid (bch HB5.out (new_below HG6.out)); have HC6 := Lib.hid (HC5.out.keep (new_below HG6.out)); have HS6 := Lib.hid (HS5.out.keep (new_below HG6.out)))
            | (refine wpl_eq_sec (.tmp 63) (.tmp 64) _ rfl cs S HCL.out HSL.out rfl rfl (by rfl) ?_; rw [HDC.out])
            | (go_at_call 10; (with_reducible refine (awake_any (HT.out.keep HB6.out)).mono ?_); rintro r w7 ⟨rfl, hb7⟩; have HB7 := Lib.hid (bch HB6.out hb7); clear hb7))
          go_ret
          exact ⟨ret_bool (by simp [hx0]), HB7.out⟩
theorem bursts_walk (h : Hdr) (ht : HdT h) (at_ x0 x1 x2 x3 : Int) (hw : isB [x0, x1, x2, x3]) (w : World) (hT : Tab w) :
    Calls Tryd.prog 5 #[.agg (hv h), .int .i64 at_, .agg #[.int .u8 x0, .int .u8 x1, .int .u8 x2, .int .u8 x3]] w fun r w' => r = .returned (.bool true) ∧ Below w.heap.size w w' := by
  cases hk : hdOk h with
  | false => exact bursts_wrong h ht hk at_ x0 x1 x2 x3 w hT
  | true => exact bursts_right h ht hk at_ x0 x1 x2 x3 hw w hT
end Go.Proofs.YtncnmmillhnhlaaDoor
