/-
  WHAT header.Encode ANSWERS (layer 18). The table of half a byte's steps must lie in its block as start-up lays it.
-/
import Derived.Test.YtncnmmillhnhlaaDoorHeadLay
import Derived.Test.YtncnmmillhnhlaaDoorHeadRight
import Derived.Test.YtncnmmillhnhlaaDoorHeadArm
namespace Go.Proofs.YtncnmmillhnhlaaDoor
open Go.RowKit
set_option maxRecDepth 8000 in
set_option maxHeartbeats 2000000 in
theorem henc_ok (h : Hdr) (ht : HdT h) (hk : hdOk h = true) (w : World) (hT : Tab w) :
    Calls Tryd.prog 6 #[.agg (hv h)] w fun r w' => r = .returned (.tuple #[.agg (sv (secH h)), .int .i64 0]) ∧ Below w.heap.size w w' := by
  obtain ⟨w0, hw0⟩ : ∃ q, (w.alloc (.cells (hv h) 25)).alloc (.cells (sv z64) 27) = q := ⟨_, rfl⟩
  have hs1 : (w.alloc (.cells (hv h) 25)).heap.size = w.heap.size + 1 := alloc_size w _
  have HK := Lib.hid (show HB w0 w.heap.size h from by rw [← hw0]; exact (HB.new w h ht.n).keep (balloc _ _))
  have HO := Lib.hid (show Blk w0 (w.heap.size + 1) z64 from by rw [← hw0, ← hs1]; exact Blk.new _ z64 z64_length)
  have HW := Lib.hid (show Below w.heap.size w w0 from by rw [← hw0]; exact bch (balloc w _) (balloc _ _))
  have HR : Hid (∀ w, Calls Tryd.prog 7 #[.agg (hv h)] w fun r w' => r = .returned (.bool true) ∧ Below w.heap.size w w') := Lib.hid fun w => by rw [← hk]; exact hright_any h ht w
  have HY := Lib.hid (fun w => hlay_any h ht hk w)
  have HN := Lib.hid (secH_length ht.n)
  have HT := Lib.hid hT
  rw [z64_cells] at hw0
  clear ht hk hT hs1
  go_enter Tryd.func6, Tryd.ntmps6
  go_wp2_with (first
    | (refine wpl_load_hd (by rfl) (.tmp 1) rfl rfl (show HB w0 w.heap.size h from HK.out) ?_)
    | (refine wpl_load_hd (by rfl) (.tmp 1) rfl rfl HK1.out ?_)
    | (go_at_call 7; (with_reducible refine (HR.out _).mono ?_); rintro r w1 ⟨rfl, hb1⟩; have HK1 := Lib.hid (HK.out.keep hb1); have HO1 := Lib.hid (HO.out.keep hb1); have HB1 := Lib.hid (bch HW.out hb1); clear hb1)
    | (go_at_call 14; (with_reducible refine (HY.out _ (HT.out.keep HB1.out)).mono ?_); rintro r w2 ⟨rfl, hb2⟩; have HO2 := Lib.hid (HO1.out.keep hb2); have HB2 := Lib.hid (bch HB1.out hb2); clear hb2)
    | (refine wpl_put_sec rfl (.tmp 2) (.tmp 9) rfl (w.heap.size + 1) z64 (secH h) HO2.out HN.out rfl rfl ?_; intro w3 HO3 HG3))
  refine bodyPost_ret_by (results_row_tmp rfl _ _ (w.heap.size + 1) _ rfl (run_loadVar_row w3 (w.heap.size + 1) _ 27 (sv (secH h)) (0, 0) _ HO3.out.1 Tryd.underlying27 rfl (sv_info _ HN.out))) rfl ⟨rfl, hbelow_grown HB2.out HG3.out (by omega) HB2.out.size⟩
set_option maxRecDepth 8000 in
set_option maxHeartbeats 2000000 in
theorem henc_no (h : Hdr) (ht : HdT h) (hk : hdOk h = false) (w : World) :
    Calls Tryd.prog 6 #[.agg (hv h)] w fun r w' => r = .returned (.tuple #[.agg (sv z64), .int .i64 13]) ∧ Below w.heap.size w w' := by
  obtain ⟨w0, hw0⟩ : ∃ q, (w.alloc (.cells (hv h) 25)).alloc (.cells (sv z64) 27) = q := ⟨_, rfl⟩
  have hs1 : (w.alloc (.cells (hv h) 25)).heap.size = w.heap.size + 1 := alloc_size w _
  have HK := Lib.hid (show HB w0 w.heap.size h from by rw [← hw0]; exact (HB.new w h ht.n).keep (balloc _ _))
  have HO := Lib.hid (show Blk w0 (w.heap.size + 1) z64 from by rw [← hw0, ← hs1]; exact Blk.new _ z64 z64_length)
  have HW := Lib.hid (show Below w.heap.size w w0 from by rw [← hw0]; exact bch (balloc w _) (balloc _ _))
  have HR : Hid (∀ w, Calls Tryd.prog 7 #[.agg (hv h)] w fun r w' => r = .returned (.bool false) ∧ Below w.heap.size w w') := Lib.hid fun w => by rw [← hk]; exact hright_any h ht w
  rw [z64_cells] at hw0
  clear ht hk hs1
  go_enter Tryd.func6, Tryd.ntmps6
  go_wp2_with (first
    | (refine wpl_load_hd (by rfl) (.tmp 1) rfl rfl (show HB w0 w.heap.size h from HK.out) ?_)
    | (go_at_call 7; (with_reducible refine (HR.out _).mono ?_); rintro r w1 ⟨rfl, hb1⟩; have HK1 := Lib.hid (HK.out.keep hb1); have HO1 := Lib.hid (HO.out.keep hb1); have HB1 := Lib.hid (bch HW.out hb1); clear hb1)
    | (refine wpl_build_sec rfl (by rfl) ?_)
    | (refine wpl_put_sec rfl (.tmp 2) (.tmp 7) rfl (w.heap.size + 1) z64 z64 HO1.out z64_length rfl rfl ?_; intro w3 HO3 HG3))
  refine bodyPost_ret_by (results_row_tmp rfl _ _ (w.heap.size + 1) _ rfl (run_loadVar_row w3 (w.heap.size + 1) _ 27 (sv z64) (0, 0) _ HO3.out.1 Tryd.underlying27 rfl (sv_info _ z64_length))) rfl ⟨rfl, hbelow_grown HB1.out HG3.out (by omega) HB1.out.size⟩
end Go.Proofs.YtncnmmillhnhlaaDoor
