/-
  WHAT THE PROGRAM'S Decode OF LAYER 13 (frag) ANSWERS (written by wip/gen/g20.py). The table of half a byte's steps must lie in its block as start-up lays it.
-/
import Derived.Test.YtkomlapgjblnlaaDoorFragEnc
import Derived.Test.YtkomlapgjblnlaaDoorFragTold
namespace Go.Proofs.YtkomlapgjblnlaaDoor
open Go.RowKit
set_option maxRecDepth 8000 in
set_option maxHeartbeats 4000000 in
theorem fdec_any (v : Value) (len : Nat) (zs : List Int) (ep : Int) (w : World) (ht : Tab w) (hri : RI .u8 w v len zs) (hbz : isB zs) : Calls Tryd.prog 11 #[v, .int .u32 ep] w (DecF zs ep w) := by
  have hz := hri.length
  obtain ⟨w0, hw0⟩ : ∃ q, w.alloc (.cells (fA 0 0 (.slice none 0 0)) 25) = q := ⟨_, rfl⟩
  have HA : Hid (FO w0 w.heap.size 0 0 (.slice none 0 0)) := Lib.hid (by rw [← hw0]; exact FO.alloc w)
  have HB : Hid (Below w.heap.size w w0) := Lib.hid (by rw [← hw0]; exact balloc w _)
  have HR := Lib.hid (hri.keep HB.out)
  have HT := Lib.hid (ht.keep HB.out)
  obtain ⟨a, cap, rfl, hlc⟩ : ∃ a cap, v = .slice a len cap ∧ len ≤ cap := by obtain ⟨a, c, e, _, h, _⟩ := hri; exact ⟨a, c, e, h⟩
  by_cases h1 : zs.length < 11
  · have hR := Lib.hid (fragD_short (ep := ep) h1)
    have h1' : (len : Int) < 11 := by omega
    clear h1 hz hri hbz ht hlc
    go_enter Tryd.func11, Tryd.ntmps11
    go_wp2_with (first
      | (refine wpList_store_row rfl 25 _ _ rfl w.heap.size (fA 0 0 (.slice none 0 0)) rfl rfl _ _ HA.out (fr_info _ rfl) rfl (fr_one _ _ _ _ _) ?_))
    refine bodyPost_ret_by (results_row_tmp2 rfl _ _ w.heap.size _ rfl (HA.out.row 0 0 (.slice none 0 0)).load) rfl ?_
    exact decf_none hR.out (brow HB.out (Nat.le_refl _) (Nat.le_refl _) _)
  have h1' : ¬ (len : Int) < 11 := by omega
  have hcap : (11 : Int) ≤ (cap : Int) := by omega
  obtain ⟨h11, k, e, n, s, hh, hhl, hhb, hk, he, hn, hs, gk, ge, gn, gs, k0, k1, e0, e1, n1, s1⟩ := head_nums zs hbz (by omega)
  have hnn : (num zs 4 2).toNat = n := by omega
  obtain ⟨x, off, rfl, hcell⟩ := HR.out.at_ (by omega)
  have HAT : Hid (HAt w0 x off h11) := Lib.hid ⟨hhl, fun j hj => by
    rw [hcell j (by omega), ← hh]
    simp only [List.getD, List.getElem?_take, hj, if_true]⟩
  have HL := Lib.hid hhl
  have HG6 : Hid (∀ w, HD w w0.heap.size h11 → Calls Tryd.prog 22 #[.pointer (some ⟨w0.heap.size, 0, none⟩), .int .i64 6, .int .i64 7] w fun e w' => e = .returned (.int .u64 k) ∧ w = w') := Lib.hid fun w h => hget_any w0.heap.size 6 1 7 rfl (by omega) (by omega) (by omega) h hhb gk
  have HG7 : Hid (∀ w, HD w w0.heap.size h11 → Calls Tryd.prog 22 #[.pointer (some ⟨w0.heap.size, 0, none⟩), .int .i64 7, .int .i64 11] w fun e' w' => e' = .returned (.int .u64 e) ∧ w = w') := Lib.hid fun w h => hget_any w0.heap.size 7 4 11 rfl (by omega) (by omega) (by omega) h hhb ge
  have HG4 : Hid (∀ w, HD w w0.heap.size h11 → Calls Tryd.prog 22 #[.pointer (some ⟨w0.heap.size, 0, none⟩), .int .i64 4, .int .i64 6] w fun e w' => e = .returned (.int .u64 n) ∧ w = w') := Lib.hid fun w h => hget_any w0.heap.size 4 2 6 rfl (by omega) (by omega) (by omega) h hhb gn
  have HG0 : Hid (∀ w, HD w w0.heap.size h11 → Calls Tryd.prog 22 #[.pointer (some ⟨w0.heap.size, 0, none⟩), .int .i64 0, .int .i64 4] w fun e w' => e = .returned (.int .u64 s) ∧ w = w') := Lib.hid fun w h => hget_any w0.heap.size 0 4 4 rfl (by omega) (by omega) (by omega) h hhb gs
  have hq : ∀ w, (Op.equalIn 10000 41 (.agg (av h11)) (.agg #[.int .u8 0, .int .u8 0, .int .u8 0, .int .u8 0, .int .u8 0, .int .u8 0, .int .u8 0, .int .u8 0, .int .u8 0, .int .u8 0, .int .u8 0])).run Tryd.prog w = .ok (decide (h11 = z11)) w := fun w => run_eq_head h11 z11 hhl z11_length w
  obtain ⟨sz, hsz⟩ : ∃ sz, 11 + n = sz := ⟨_, rfl⟩
  have hszI : (11 : Int) + (n : Int) = (sz : Int) := by omega
  have hszb : (sz : Int) ≤ 65546 := by omega
  have hnb : (n : Int) ≤ 65535 := by omega
  have hz11 : (h11 = z11) ↔ zs.take 11 = List.replicate 11 0 := by rw [hh]; rfl
  by_cases h2 : zs.take 11 = List.replicate 11 0
  · have hR := Lib.hid (fragD_none (ep := ep) h1 h2)
    rw [show decide (h11 = z11) = true from decide_eq_true (hz11.2 h2)] at hq
    clear h1 h2 hz hri hbz ht hlc hh hhl hhb hk he hn hs gk ge gn gs hcell hnn hsz n1 s1 hz11
    go_enter Tryd.func11, Tryd.ntmps11
    go_wp2_with (first
      | (refine wpl_val rfl (exec_arrptr (.tmp 17) rfl _ 11 11 rfl (by omega)) ?_)
      | (refine wpl_val rfl (exec_load_hat (.tmp 18) rfl rfl HAT.out) ?_)
      | (refine wpList_store_row rfl 41 _ _ rfl w0.heap.size (av h11) rfl rfl _ (av z11) (HD.new w0 z11 z11_length).1 (av_info _ HL.out) (by rw [av_size, av_size, HL.out, z11_length]) (av_one _) ?_; obtain ⟨w1, hw1⟩ : ∃ q, World.setRow (w0.alloc (.cells #[.int .u8 0, .int .u8 0, .int .u8 0, .int .u8 0, .int .u8 0, .int .u8 0, .int .u8 0, .int .u8 0, .int .u8 0, .int .u8 0, .int .u8 0] 41)) w0.heap.size (av h11) = q := ⟨_, rfl⟩; rw [hw1]; have HH1 : Hid (HD w1 w0.heap.size h11) := Lib.hid (by rw [← hw1]; exact (HD.new w0 z11 z11_length).row HL.out); have HB1 : Hid (Below w0.heap.size w0 w1) := Lib.hid (by rw [← hw1]; exact brow (balloc _ _) (Nat.le_refl _) (Nat.le_refl _) _); clear hw1)
      | (go_at_call 22; (with_reducible refine (HG6.out _ HH1.out).mono ?_); rintro r w' ⟨rfl, rfl⟩)
      | (go_at_call 22; (with_reducible refine (HG7.out _ HH1.out).mono ?_); rintro r w' ⟨rfl, rfl⟩)
      | (refine wpList_store_row rfl 25 _ _ rfl w1.heap.size (fA k e (.slice none 0 0)) rfl rfl _ _ (heap_alloc_last w1 _) (fr_info _ rfl) rfl (fr_one _ _ _ _ _) ?_; obtain ⟨w2, hw2⟩ : ∃ q, World.setRow (w1.alloc (.cells (fA 0 0 (.slice none 0 0)) 25)) w1.heap.size (fA k e (.slice none 0 0)) = q := ⟨_, rfl⟩; rw [hw2]; have HF2 : Hid (FO w2 w1.heap.size k e (.slice none 0 0)) := Lib.hid (by rw [← hw2]; exact FO.new _); have HB2 : Hid (Below w1.heap.size w1 w2) := Lib.hid (by rw [← hw2]; exact bnew _ _ _); have HH2 := Lib.hid (HH1.out.keep HB2.out); have HA2 := Lib.hid ((HA.out.keep HB1.out).keep HB2.out); have HBB := Lib.hid (bch HB.out (bch HB1.out HB2.out)); have HR2 := Lib.hid ((HR.out.keep HB1.out).keep HB2.out); have HT2 := Lib.hid ((HT.out.keep HB1.out).keep HB2.out); obtain ⟨c0, c1, c2⟩ := HF2.out.cells; clear hw2)
      | (go_at_call 22; (with_reducible refine (HG4.out _ HH2.out).mono ?_); rintro r w' ⟨rfl, rfl⟩)
      | (refine wpList_load_row rfl 41 _ rfl w0.heap.size rfl _ (av h11) (0, 0) _ HH2.out.1 Tryd.underlying41 rfl (av_info _ HL.out) ?_)
      | (refine wpList_store_row rfl 25 _ _ rfl w.heap.size (fA 0 0 (.slice none 0 0)) rfl rfl _ _ HA2.out (fr_info _ rfl) rfl (fr_one _ _ _ _ _) ?_))
    refine bodyPost_ret_by (results_row_tmp2 rfl _ _ w.heap.size _ rfl (HA2.out.row 0 0 (.slice none 0 0)).load) rfl ?_
    exact decf_none hR.out (brow HBB.out (Nat.le_refl _) (Nat.le_refl _) _)
  rw [show decide (h11 = z11) = false from decide_eq_false (fun q => h2 (hz11.1 q))] at hq
  by_cases hkd : 1 ≤ k ∧ k ≤ 4
  rotate_left
  · have hR := Lib.hid (fragD_form (ep := ep) h1 h2 (Or.inl (by rw [hk, hnn]; exact fragOk_no (fun q => hkd ⟨q.1, q.2.1⟩))))
    have HKD : Hid (∀ w, Calls Tryd.prog 23 #[.int .i64 k] w fun e w' => e = .returned (.bool false) ∧ w = w') := Lib.hid fun w => by rw [← show decide (1 ≤ k ∧ k ≤ 4) = false from decide_eq_false hkd]; exact kind_any k w
    clear h1 h2 hz hri hbz ht hlc hh hhl hhb hk he hn hs gk ge gn gs hcell hnn hsz n1 s1 hz11 hkd
    go_enter Tryd.func11, Tryd.ntmps11
    go_wp2_with (first
      | (refine wpl_val rfl (exec_arrptr (.tmp 17) rfl _ 11 11 rfl (by omega)) ?_)
      | (refine wpl_val rfl (exec_load_hat (.tmp 18) rfl rfl HAT.out) ?_)
      | (refine wpList_store_row rfl 41 _ _ rfl w0.heap.size (av h11) rfl rfl _ (av z11) (HD.new w0 z11 z11_length).1 (av_info _ HL.out) (by rw [av_size, av_size, HL.out, z11_length]) (av_one _) ?_; obtain ⟨w1, hw1⟩ : ∃ q, World.setRow (w0.alloc (.cells #[.int .u8 0, .int .u8 0, .int .u8 0, .int .u8 0, .int .u8 0, .int .u8 0, .int .u8 0, .int .u8 0, .int .u8 0, .int .u8 0, .int .u8 0] 41)) w0.heap.size (av h11) = q := ⟨_, rfl⟩; rw [hw1]; have HH1 : Hid (HD w1 w0.heap.size h11) := Lib.hid (by rw [← hw1]; exact (HD.new w0 z11 z11_length).row HL.out); have HB1 : Hid (Below w0.heap.size w0 w1) := Lib.hid (by rw [← hw1]; exact brow (balloc _ _) (Nat.le_refl _) (Nat.le_refl _) _); clear hw1)
      | (go_at_call 22; (with_reducible refine (HG6.out _ HH1.out).mono ?_); rintro r w' ⟨rfl, rfl⟩)
      | (go_at_call 22; (with_reducible refine (HG7.out _ HH1.out).mono ?_); rintro r w' ⟨rfl, rfl⟩)
      | (refine wpList_store_row rfl 25 _ _ rfl w1.heap.size (fA k e (.slice none 0 0)) rfl rfl _ _ (heap_alloc_last w1 _) (fr_info _ rfl) rfl (fr_one _ _ _ _ _) ?_; obtain ⟨w2, hw2⟩ : ∃ q, World.setRow (w1.alloc (.cells (fA 0 0 (.slice none 0 0)) 25)) w1.heap.size (fA k e (.slice none 0 0)) = q := ⟨_, rfl⟩; rw [hw2]; have HF2 : Hid (FO w2 w1.heap.size k e (.slice none 0 0)) := Lib.hid (by rw [← hw2]; exact FO.new _); have HB2 : Hid (Below w1.heap.size w1 w2) := Lib.hid (by rw [← hw2]; exact bnew _ _ _); have HH2 := Lib.hid (HH1.out.keep HB2.out); have HA2 := Lib.hid ((HA.out.keep HB1.out).keep HB2.out); have HBB := Lib.hid (bch HB.out (bch HB1.out HB2.out)); have HR2 := Lib.hid ((HR.out.keep HB1.out).keep HB2.out); have HT2 := Lib.hid ((HT.out.keep HB1.out).keep HB2.out); obtain ⟨c0, c1, c2⟩ := HF2.out.cells; clear hw2)
      | (go_at_call 22; (with_reducible refine (HG4.out _ HH2.out).mono ?_); rintro r w' ⟨rfl, rfl⟩)
      | (refine wpList_load_row rfl 41 _ rfl w0.heap.size rfl _ (av h11) (0, 0) _ HH2.out.1 Tryd.underlying41 rfl (av_info _ HL.out) ?_)
      | (go_at_call 23; (with_reducible refine (HKD.out _).mono ?_); rintro r w' ⟨rfl, rfl⟩)
      | (refine wpList_store_row rfl 25 _ _ rfl w.heap.size (fA 0 0 (.slice none 0 0)) rfl rfl _ _ HA2.out (fr_info _ rfl) rfl (fr_one _ _ _ _ _) ?_))
    refine bodyPost_ret_by (results_row_tmp2 rfl _ _ w.heap.size _ rfl (HA2.out.row 0 0 (.slice none 0 0)).load) rfl ?_
    exact decf_none hR.out (brow HBB.out (Nat.le_refl _) (Nat.le_refl _) _)
  have HKD : Hid (∀ w, Calls Tryd.prog 23 #[.int .i64 k] w fun e w' => e = .returned (.bool true) ∧ w = w') := Lib.hid fun w => by rw [← show decide (1 ≤ k ∧ k ≤ 4) = true from decide_eq_true hkd]; exact kind_any k w
  by_cases hnm : n ≤ 197
  rotate_left
  · have hR := Lib.hid (fragD_form (ep := ep) h1 h2 (Or.inl (by rw [hk, hnn]; exact fragOk_no (fun q => hnm q.2.2))))
    have hnm' : (197 : Int) < (n : Int) := by omega
    clear h1 h2 hz hri hbz ht hlc hh hhl hhb hk he hn hs gk ge gn gs hcell hnn hsz n1 s1 hz11 hkd hnm
    go_enter Tryd.func11, Tryd.ntmps11
    go_wp2_with (first
      | (refine wpl_val rfl (exec_arrptr (.tmp 17) rfl _ 11 11 rfl (by omega)) ?_)
      | (refine wpl_val rfl (exec_load_hat (.tmp 18) rfl rfl HAT.out) ?_)
      | (refine wpList_store_row rfl 41 _ _ rfl w0.heap.size (av h11) rfl rfl _ (av z11) (HD.new w0 z11 z11_length).1 (av_info _ HL.out) (by rw [av_size, av_size, HL.out, z11_length]) (av_one _) ?_; obtain ⟨w1, hw1⟩ : ∃ q, World.setRow (w0.alloc (.cells #[.int .u8 0, .int .u8 0, .int .u8 0, .int .u8 0, .int .u8 0, .int .u8 0, .int .u8 0, .int .u8 0, .int .u8 0, .int .u8 0, .int .u8 0] 41)) w0.heap.size (av h11) = q := ⟨_, rfl⟩; rw [hw1]; have HH1 : Hid (HD w1 w0.heap.size h11) := Lib.hid (by rw [← hw1]; exact (HD.new w0 z11 z11_length).row HL.out); have HB1 : Hid (Below w0.heap.size w0 w1) := Lib.hid (by rw [← hw1]; exact brow (balloc _ _) (Nat.le_refl _) (Nat.le_refl _) _); clear hw1)
      | (go_at_call 22; (with_reducible refine (HG6.out _ HH1.out).mono ?_); rintro r w' ⟨rfl, rfl⟩)
      | (go_at_call 22; (with_reducible refine (HG7.out _ HH1.out).mono ?_); rintro r w' ⟨rfl, rfl⟩)
      | (refine wpList_store_row rfl 25 _ _ rfl w1.heap.size (fA k e (.slice none 0 0)) rfl rfl _ _ (heap_alloc_last w1 _) (fr_info _ rfl) rfl (fr_one _ _ _ _ _) ?_; obtain ⟨w2, hw2⟩ : ∃ q, World.setRow (w1.alloc (.cells (fA 0 0 (.slice none 0 0)) 25)) w1.heap.size (fA k e (.slice none 0 0)) = q := ⟨_, rfl⟩; rw [hw2]; have HF2 : Hid (FO w2 w1.heap.size k e (.slice none 0 0)) := Lib.hid (by rw [← hw2]; exact FO.new _); have HB2 : Hid (Below w1.heap.size w1 w2) := Lib.hid (by rw [← hw2]; exact bnew _ _ _); have HH2 := Lib.hid (HH1.out.keep HB2.out); have HA2 := Lib.hid ((HA.out.keep HB1.out).keep HB2.out); have HBB := Lib.hid (bch HB.out (bch HB1.out HB2.out)); have HR2 := Lib.hid ((HR.out.keep HB1.out).keep HB2.out); have HT2 := Lib.hid ((HT.out.keep HB1.out).keep HB2.out); obtain ⟨c0, c1, c2⟩ := HF2.out.cells; clear hw2)
      | (go_at_call 22; (with_reducible refine (HG4.out _ HH2.out).mono ?_); rintro r w' ⟨rfl, rfl⟩)
      | (refine wpList_load_row rfl 41 _ rfl w0.heap.size rfl _ (av h11) (0, 0) _ HH2.out.1 Tryd.underlying41 rfl (av_info _ HL.out) ?_)
      | (go_at_call 23; (with_reducible refine (HKD.out _).mono ?_); rintro r w' ⟨rfl, rfl⟩)
      | (refine wpList_store_row rfl 25 _ _ rfl w.heap.size (fA 0 0 (.slice none 0 0)) rfl rfl _ _ HA2.out (fr_info _ rfl) rfl (fr_one _ _ _ _ _) ?_))
    refine bodyPost_ret_by (results_row_tmp2 rfl _ _ w.heap.size _ rfl (HA2.out.row 0 0 (.slice none 0 0)).load) rfl ?_
    exact decf_none hR.out (brow HBB.out (Nat.le_refl _) (Nat.le_refl _) _)
  have hnm' : ¬ (197 : Int) < (n : Int) := by omega
  have hok : fragOk (num zs 6 1) (num zs 4 2).toNat = true := by rw [hk, hnn]; exact decide_eq_true ⟨hkd.1, hkd.2, hnm⟩
  by_cases hep : e = ep
  rotate_left
  · have hR := Lib.hid (fragD_form (ep := ep) h1 h2 (Or.inr (by rw [he]; exact hep)))
    have hep' : (e != ep) = true := by simpa using hep
    clear h1 h2 hz hri hbz ht hlc hh hhl hhb hk he hn hs gk ge gn gs hcell hnn hsz n1 s1 hz11 hkd hnm hok
    go_enter Tryd.func11, Tryd.ntmps11
    go_wp2_with (first
      | (refine wpl_val rfl (exec_arrptr (.tmp 17) rfl _ 11 11 rfl (by omega)) ?_)
      | (refine wpl_val rfl (exec_load_hat (.tmp 18) rfl rfl HAT.out) ?_)
      | (refine wpList_store_row rfl 41 _ _ rfl w0.heap.size (av h11) rfl rfl _ (av z11) (HD.new w0 z11 z11_length).1 (av_info _ HL.out) (by rw [av_size, av_size, HL.out, z11_length]) (av_one _) ?_; obtain ⟨w1, hw1⟩ : ∃ q, World.setRow (w0.alloc (.cells #[.int .u8 0, .int .u8 0, .int .u8 0, .int .u8 0, .int .u8 0, .int .u8 0, .int .u8 0, .int .u8 0, .int .u8 0, .int .u8 0, .int .u8 0] 41)) w0.heap.size (av h11) = q := ⟨_, rfl⟩; rw [hw1]; have HH1 : Hid (HD w1 w0.heap.size h11) := Lib.hid (by rw [← hw1]; exact (HD.new w0 z11 z11_length).row HL.out); have HB1 : Hid (Below w0.heap.size w0 w1) := Lib.hid (by rw [← hw1]; exact brow (balloc _ _) (Nat.le_refl _) (Nat.le_refl _) _); clear hw1)
      | (go_at_call 22; (with_reducible refine (HG6.out _ HH1.out).mono ?_); rintro r w' ⟨rfl, rfl⟩)
      | (go_at_call 22; (with_reducible refine (HG7.out _ HH1.out).mono ?_); rintro r w' ⟨rfl, rfl⟩)
      | (refine wpList_store_row rfl 25 _ _ rfl w1.heap.size (fA k e (.slice none 0 0)) rfl rfl _ _ (heap_alloc_last w1 _) (fr_info _ rfl) rfl (fr_one _ _ _ _ _) ?_; obtain ⟨w2, hw2⟩ : ∃ q, World.setRow (w1.alloc (.cells (fA 0 0 (.slice none 0 0)) 25)) w1.heap.size (fA k e (.slice none 0 0)) = q := ⟨_, rfl⟩; rw [hw2]; have HF2 : Hid (FO w2 w1.heap.size k e (.slice none 0 0)) := Lib.hid (by rw [← hw2]; exact FO.new _); have HB2 : Hid (Below w1.heap.size w1 w2) := Lib.hid (by rw [← hw2]; exact bnew _ _ _); have HH2 := Lib.hid (HH1.out.keep HB2.out); have HA2 := Lib.hid ((HA.out.keep HB1.out).keep HB2.out); have HBB := Lib.hid (bch HB.out (bch HB1.out HB2.out)); have HR2 := Lib.hid ((HR.out.keep HB1.out).keep HB2.out); have HT2 := Lib.hid ((HT.out.keep HB1.out).keep HB2.out); obtain ⟨c0, c1, c2⟩ := HF2.out.cells; clear hw2)
      | (go_at_call 22; (with_reducible refine (HG4.out _ HH2.out).mono ?_); rintro r w' ⟨rfl, rfl⟩)
      | (refine wpList_load_row rfl 41 _ rfl w0.heap.size rfl _ (av h11) (0, 0) _ HH2.out.1 Tryd.underlying41 rfl (av_info _ HL.out) ?_)
      | (go_at_call 23; (with_reducible refine (HKD.out _).mono ?_); rintro r w' ⟨rfl, rfl⟩)
      | (refine wpList_store_row rfl 25 _ _ rfl w.heap.size (fA 0 0 (.slice none 0 0)) rfl rfl _ _ HA2.out (fr_info _ rfl) rfl (fr_one _ _ _ _ _) ?_))
    refine bodyPost_ret_by (results_row_tmp2 rfl _ _ w.heap.size _ rfl (HA2.out.row 0 0 (.slice none 0 0)).load) rfl ?_
    exact decf_none hR.out (brow HBB.out (Nat.le_refl _) (Nat.le_refl _) _)
  subst hep
  by_cases hct : len < sz
  · have hR := Lib.hid (fragD_cut h1 h2 hok he (by omega))
    have hct' : (len : Int) < (sz : Int) := by omega
    clear h1 h2 hz hri hbz ht hlc hh hhl hhb hk he hn hs gk ge gn gs hcell hnn hsz n1 s1 hz11 hkd hnm hok hct
    go_enter Tryd.func11, Tryd.ntmps11
    go_wp2_with (first
      | (refine wpl_val rfl (exec_arrptr (.tmp 17) rfl _ 11 11 rfl (by omega)) ?_)
      | (refine wpl_val rfl (exec_load_hat (.tmp 18) rfl rfl HAT.out) ?_)
      | (refine wpList_store_row rfl 41 _ _ rfl w0.heap.size (av h11) rfl rfl _ (av z11) (HD.new w0 z11 z11_length).1 (av_info _ HL.out) (by rw [av_size, av_size, HL.out, z11_length]) (av_one _) ?_; obtain ⟨w1, hw1⟩ : ∃ q, World.setRow (w0.alloc (.cells #[.int .u8 0, .int .u8 0, .int .u8 0, .int .u8 0, .int .u8 0, .int .u8 0, .int .u8 0, .int .u8 0, .int .u8 0, .int .u8 0, .int .u8 0] 41)) w0.heap.size (av h11) = q := ⟨_, rfl⟩; rw [hw1]; have HH1 : Hid (HD w1 w0.heap.size h11) := Lib.hid (by rw [← hw1]; exact (HD.new w0 z11 z11_length).row HL.out); have HB1 : Hid (Below w0.heap.size w0 w1) := Lib.hid (by rw [← hw1]; exact brow (balloc _ _) (Nat.le_refl _) (Nat.le_refl _) _); clear hw1)
      | (go_at_call 22; (with_reducible refine (HG6.out _ HH1.out).mono ?_); rintro r w' ⟨rfl, rfl⟩)
      | (go_at_call 22; (with_reducible refine (HG7.out _ HH1.out).mono ?_); rintro r w' ⟨rfl, rfl⟩)
      | (refine wpList_store_row rfl 25 _ _ rfl w1.heap.size (fA k e (.slice none 0 0)) rfl rfl _ _ (heap_alloc_last w1 _) (fr_info _ rfl) rfl (fr_one _ _ _ _ _) ?_; obtain ⟨w2, hw2⟩ : ∃ q, World.setRow (w1.alloc (.cells (fA 0 0 (.slice none 0 0)) 25)) w1.heap.size (fA k e (.slice none 0 0)) = q := ⟨_, rfl⟩; rw [hw2]; have HF2 : Hid (FO w2 w1.heap.size k e (.slice none 0 0)) := Lib.hid (by rw [← hw2]; exact FO.new _); have HB2 : Hid (Below w1.heap.size w1 w2) := Lib.hid (by rw [← hw2]; exact bnew _ _ _); have HH2 := Lib.hid (HH1.out.keep HB2.out); have HA2 := Lib.hid ((HA.out.keep HB1.out).keep HB2.out); have HBB := Lib.hid (bch HB.out (bch HB1.out HB2.out)); have HR2 := Lib.hid ((HR.out.keep HB1.out).keep HB2.out); have HT2 := Lib.hid ((HT.out.keep HB1.out).keep HB2.out); obtain ⟨c0, c1, c2⟩ := HF2.out.cells; clear hw2)
      | (go_at_call 22; (with_reducible refine (HG4.out _ HH2.out).mono ?_); rintro r w' ⟨rfl, rfl⟩)
      | (refine wpList_load_row rfl 41 _ rfl w0.heap.size rfl _ (av h11) (0, 0) _ HH2.out.1 Tryd.underlying41 rfl (av_info _ HL.out) ?_)
      | (go_at_call 23; (with_reducible refine (HKD.out _).mono ?_); rintro r w' ⟨rfl, rfl⟩)
      | (refine wpList_store_row rfl 25 _ _ rfl w.heap.size (fA 0 0 (.slice none 0 0)) rfl rfl _ _ HA2.out (fr_info _ rfl) rfl (fr_one _ _ _ _ _) ?_))
    refine bodyPost_ret_by (results_row_tmp2 rfl _ _ w.heap.size _ rfl (HA2.out.row 0 0 (.slice none 0 0)).load) rfl ?_
    exact decf_none hR.out (brow HBB.out (Nat.le_refl _) (Nat.le_refl _) _)
  have hct' : ¬ (len : Int) < (sz : Int) := by omega
  have HSZ : Hid ((sz : Int) = ((11 + n : Nat) : Int) ∧ sz = 11 + n ∧ sz ≤ len ∧ n ≤ 197) := Lib.hid ⟨by omega, hsz.symm, by omega, hnm⟩
  obtain ⟨m, hm⟩ : ∃ m, maskS (ofS (h11.drop 4 ++ (zs.drop 11).take n)) = m := ⟨_, rfl⟩
  have hmt : maskS (ofS ((zs.take (11 + (num zs 4 2).toNat)).drop 4)) = m := by rw [hnn, tail_split zs n (by omega), hh, hm]
  have HS : Hid (∀ w v, Tab w → HD w w0.heap.size h11 → RI .u8 w v n ((zs.drop 11).take n) → Calls Tryd.prog 16 #[.pointer (some ⟨w0.heap.size, 0, none⟩), v] w fun e w' => e = .returned (.int .u64 m) ∧ w = w') := Lib.hid fun w v h1 h2 h3 => hsum_any w0.heap.size h1 h2 hhb h3 ((hbz.drop 11).take n) hm
  by_cases hsm : s = m
  rotate_left
  · have hR := Lib.hid (fragD_sum h1 h2 hok he (by omega) (by rw [hs, hmt]; omega))
    have hsm' : ((s : Int) != (m : Int)) = true := by simp; omega
    clear h1 h2 hz hri hbz ht hlc hh hhl hhb hk he hn hs gk ge gn gs hcell hnn hsz n1 s1 hz11 hkd hnm hok hct hm hmt hsm
    go_enter Tryd.func11, Tryd.ntmps11
    go_wp2_with (first
      | (refine wpl_val rfl (exec_arrptr (.tmp 17) rfl _ 11 11 rfl (by omega)) ?_)
      | (refine wpl_val rfl (exec_load_hat (.tmp 18) rfl rfl HAT.out) ?_)
      | (refine wpList_store_row rfl 41 _ _ rfl w0.heap.size (av h11) rfl rfl _ (av z11) (HD.new w0 z11 z11_length).1 (av_info _ HL.out) (by rw [av_size, av_size, HL.out, z11_length]) (av_one _) ?_; obtain ⟨w1, hw1⟩ : ∃ q, World.setRow (w0.alloc (.cells #[.int .u8 0, .int .u8 0, .int .u8 0, .int .u8 0, .int .u8 0, .int .u8 0, .int .u8 0, .int .u8 0, .int .u8 0, .int .u8 0, .int .u8 0] 41)) w0.heap.size (av h11) = q := ⟨_, rfl⟩; rw [hw1]; have HH1 : Hid (HD w1 w0.heap.size h11) := Lib.hid (by rw [← hw1]; exact (HD.new w0 z11 z11_length).row HL.out); have HB1 : Hid (Below w0.heap.size w0 w1) := Lib.hid (by rw [← hw1]; exact brow (balloc _ _) (Nat.le_refl _) (Nat.le_refl _) _); clear hw1)
      | (go_at_call 22; (with_reducible refine (HG6.out _ HH1.out).mono ?_); rintro r w' ⟨rfl, rfl⟩)
      | (go_at_call 22; (with_reducible refine (HG7.out _ HH1.out).mono ?_); rintro r w' ⟨rfl, rfl⟩)
      | (refine wpList_store_row rfl 25 _ _ rfl w1.heap.size (fA k e (.slice none 0 0)) rfl rfl _ _ (heap_alloc_last w1 _) (fr_info _ rfl) rfl (fr_one _ _ _ _ _) ?_; obtain ⟨w2, hw2⟩ : ∃ q, World.setRow (w1.alloc (.cells (fA 0 0 (.slice none 0 0)) 25)) w1.heap.size (fA k e (.slice none 0 0)) = q := ⟨_, rfl⟩; rw [hw2]; have HF2 : Hid (FO w2 w1.heap.size k e (.slice none 0 0)) := Lib.hid (by rw [← hw2]; exact FO.new _); have HB2 : Hid (Below w1.heap.size w1 w2) := Lib.hid (by rw [← hw2]; exact bnew _ _ _); have HH2 := Lib.hid (HH1.out.keep HB2.out); have HA2 := Lib.hid ((HA.out.keep HB1.out).keep HB2.out); have HBB := Lib.hid (bch HB.out (bch HB1.out HB2.out)); have HR2 := Lib.hid ((HR.out.keep HB1.out).keep HB2.out); have HT2 := Lib.hid ((HT.out.keep HB1.out).keep HB2.out); obtain ⟨c0, c1, c2⟩ := HF2.out.cells; clear hw2)
      | (go_at_call 22; (with_reducible refine (HG4.out _ HH2.out).mono ?_); rintro r w' ⟨rfl, rfl⟩)
      | (refine wpList_load_row rfl 41 _ rfl w0.heap.size rfl _ (av h11) (0, 0) _ HH2.out.1 Tryd.underlying41 rfl (av_info _ HL.out) ?_)
      | (go_at_call 23; (with_reducible refine (HKD.out _).mono ?_); rintro r w' ⟨rfl, rfl⟩)
      | (refine wpl_cut_lhm rfl (.tmp 56) (.const (.int .i64 11)) (.tmp 57) (.tmp 58) rfl _ len 11 n sz _ rfl rfl (congrArg (Value.int .i64) HSZ.out.1) rfl HR2.out (by have := HSZ.out; omega) (by have := HSZ.out; omega) (by have := HSZ.out; omega) ?_; intro p3 c3 hr3; have HR3 := Lib.hid hr3; clear hr3)
      | (go_at_call 22; (with_reducible refine (HG0.out _ HH2.out).mono ?_); rintro r w' ⟨rfl, rfl⟩)
      | (go_at_call 16; (with_reducible refine (HS.out _ _ HT2.out HH2.out HR3.out).mono ?_); rintro r w' ⟨rfl, rfl⟩)
      | (refine wpList_store_row rfl 25 _ _ rfl w.heap.size (fA 0 0 (.slice none 0 0)) rfl rfl _ _ HA2.out (fr_info _ rfl) rfl (fr_one _ _ _ _ _) ?_))
    refine bodyPost_ret_by (results_row_tmp2 rfl _ _ w.heap.size _ rfl (HA2.out.row 0 0 (.slice none 0 0)).load) rfl ?_
    exact decf_none hR.out (brow HBB.out (Nat.le_refl _) (Nat.le_refl _) _)
  subst hsm
  have hR0 := fragD_ok h1 h2 hok he (by omega) (by rw [hs, hmt])
  rw [hk, he, hnn, hsz] at hR0
  have hR := Lib.hid hR0
  clear h1 h2 hz hri hbz ht hlc hh hhl hhb hk he hn hs gk ge gn gs hcell hnn hsz n1 s1 hz11 hkd hnm hok hct hm hmt hR0
  go_enter Tryd.func11, Tryd.ntmps11
  go_wp2_with (first
    | (refine wpl_val rfl (exec_arrptr (.tmp 17) rfl _ 11 11 rfl (by omega)) ?_)
    | (refine wpl_val rfl (exec_load_hat (.tmp 18) rfl rfl HAT.out) ?_)
    | (refine wpList_store_row rfl 41 _ _ rfl w0.heap.size (av h11) rfl rfl _ (av z11) (HD.new w0 z11 z11_length).1 (av_info _ HL.out) (by rw [av_size, av_size, HL.out, z11_length]) (av_one _) ?_; obtain ⟨w1, hw1⟩ : ∃ q, World.setRow (w0.alloc (.cells #[.int .u8 0, .int .u8 0, .int .u8 0, .int .u8 0, .int .u8 0, .int .u8 0, .int .u8 0, .int .u8 0, .int .u8 0, .int .u8 0, .int .u8 0] 41)) w0.heap.size (av h11) = q := ⟨_, rfl⟩; rw [hw1]; have HH1 : Hid (HD w1 w0.heap.size h11) := Lib.hid (by rw [← hw1]; exact (HD.new w0 z11 z11_length).row HL.out); have HB1 : Hid (Below w0.heap.size w0 w1) := Lib.hid (by rw [← hw1]; exact brow (balloc _ _) (Nat.le_refl _) (Nat.le_refl _) _); clear hw1)
    | (go_at_call 22; (with_reducible refine (HG6.out _ HH1.out).mono ?_); rintro r w' ⟨rfl, rfl⟩)
    | (go_at_call 22; (with_reducible refine (HG7.out _ HH1.out).mono ?_); rintro r w' ⟨rfl, rfl⟩)
    | (refine wpList_store_row rfl 25 _ _ rfl w1.heap.size (fA k e (.slice none 0 0)) rfl rfl _ _ (heap_alloc_last w1 _) (fr_info _ rfl) rfl (fr_one _ _ _ _ _) ?_; obtain ⟨w2, hw2⟩ : ∃ q, World.setRow (w1.alloc (.cells (fA 0 0 (.slice none 0 0)) 25)) w1.heap.size (fA k e (.slice none 0 0)) = q := ⟨_, rfl⟩; rw [hw2]; have HF2 : Hid (FO w2 w1.heap.size k e (.slice none 0 0)) := Lib.hid (by rw [← hw2]; exact FO.new _); have HB2 : Hid (Below w1.heap.size w1 w2) := Lib.hid (by rw [← hw2]; exact bnew _ _ _); have HH2 := Lib.hid (HH1.out.keep HB2.out); have HA2 := Lib.hid ((HA.out.keep HB1.out).keep HB2.out); have HBB := Lib.hid (bch HB.out (bch HB1.out HB2.out)); have HR2 := Lib.hid ((HR.out.keep HB1.out).keep HB2.out); have HT2 := Lib.hid ((HT.out.keep HB1.out).keep HB2.out); obtain ⟨c0, c1, c2⟩ := HF2.out.cells; clear hw2)
    | (go_at_call 22; (with_reducible refine (HG4.out _ HH2.out).mono ?_); rintro r w' ⟨rfl, rfl⟩)
    | (refine wpList_load_row rfl 41 _ rfl w0.heap.size rfl _ (av h11) (0, 0) _ HH2.out.1 Tryd.underlying41 rfl (av_info _ HL.out) ?_)
    | (go_at_call 23; (with_reducible refine (HKD.out _).mono ?_); rintro r w' ⟨rfl, rfl⟩)
    | (refine wpl_cut_lhm rfl (.tmp 56) (.const (.int .i64 11)) (.tmp 57) (.tmp 58) rfl _ len 11 n sz _ rfl rfl (congrArg (Value.int .i64) HSZ.out.1) rfl HR2.out (by have := HSZ.out; omega) (by have := HSZ.out; omega) (by have := HSZ.out; omega) ?_; intro p3 c3 hr3; have HR3 := Lib.hid hr3; clear hr3)
    | (go_at_call 22; (with_reducible refine (HG0.out _ HH2.out).mono ?_); rintro r w' ⟨rfl, rfl⟩)
    | (go_at_call 16; (with_reducible refine (HS.out _ _ HT2.out HH2.out HR3.out).mono ?_); rintro r w' ⟨rfl, rfl⟩)
    | (go_at_call 24; (with_reducible refine (clone_any _ n _ _ HR3.out (by have := HSZ.out; omega)).mono ?_); rintro r wc ⟨vc, rfl, hoc, hbc⟩; obtain ⟨pc, cc, rfl⟩ := own_form hoc; have HAC := HA2.out.keep hbc; have HFC := HF2.out.keep hbc; have hfc := HFC.frozen 2; have hzc := HFC.cells.2.2; have HFD := Lib.hid (HFC.set2 (.slice pc n cc)); have HAD := Lib.hid (HAC.set_apart (b' := w1.heap.size) (Nat.ne_of_lt (HA.out.keep HB1.out).lt) 2 (.slice pc n cc)); have HOD := Lib.hid (HFC.set_own 2 (.slice pc n cc) (own_mono hoc HBB.out.size)); have HBD := Lib.hid (bset (bch HBB.out hbc) (b := w1.heap.size) (Nat.le_of_lt (HA.out.keep HB1.out).lt) (Nat.le_refl _) 2 (.slice pc n cc)); clear hoc hbc HAC HFC)
    | (refine wpl_load_fr rfl (.tmp 8) rfl rfl HFD.out ?_)
    | (refine wpList_store_row rfl 25 _ _ rfl w.heap.size (fA k e (.slice pc n cc)) rfl rfl _ _ HAD.out (fr_info _ rfl) rfl (fr_one _ _ _ _ _) ?_))
  refine bodyPost_ret_by (results_row_tmp2 rfl _ _ w.heap.size _ rfl (HAD.out.row k e (.slice pc n cc)).load) rfl ?_
  exact decf_some hR.out (HAD.out.row_own _ HOD.out) (brow HBD.out (Nat.le_refl _) (Nat.le_refl _) _)
end Go.Proofs.YtkomlapgjblnlaaDoor
