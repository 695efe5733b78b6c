/-
  WHAT header.Decode ANSWERS (layer 18), case by case. The table of half a byte's steps must lie in its block as start-up lays it. (Written by wip/gen/g27.py.)
-/
import Derived.Test.YtncnmmillhnhlaaDoorHeadRead
import Derived.Test.YtncnmmillhnhlaaDoorHeadRight
import Derived.Test.YtncnmmillhnhlaaDoorHeadArm
import Derived.Test.YtncnmmillhnhlaaDoorBytesEq
namespace Go.Proofs.YtncnmmillhnhlaaDoor
open Go.RowKit
set_option maxRecDepth 8000 in
set_option maxHeartbeats 4000000 in
theorem hdec_none (zs : List Int) (hl : zs.length = 64) (hb : isB zs) (w : World) (hT : Tab w) (h1 : zs = z64) :
    Calls Tryd.prog 11 #[.agg (sv zs)] w fun r w' => r = .returned (.tuple #[.agg (hv noH), .int .i64 7]) ∧ Below w.heap.size w w' := by
  obtain ⟨w0, hw0⟩ : ∃ q, (w.alloc (.cells (sv zs) 27)).alloc (.cells #[.int .u64 0, .int .i64 0, .int .i64 0, .int .i64 0, .int .i64 0, .int .i64 0, .int .i64 0] 25) = q := ⟨_, rfl⟩
  have hs1 : (w.alloc (.cells (sv zs) 27)).heap.size = w.heap.size + 1 := alloc_size w _
  have HK := Lib.hid (show Blk w0 w.heap.size zs from by rw [← hw0]; exact (Blk.new w zs hl).keep (balloc _ _))
  have HRB := Lib.hid (show HB w0 (w.heap.size + 1) noH from by rw [← hw0, ← hs1]; exact HB.new _ noH rfl)
  have HW := Lib.hid (show Below w.heap.size w w0 from by rw [← hw0]; exact bch (balloc w _) (balloc _ _))
  have HSZ := Lib.hid (show w0.heap.size = w.heap.size + 2 from by rw [← hw0, alloc_size, hs1])
  have HT := Lib.hid hT
  have HL := Lib.hid hl
  have HZB := Lib.hid hb
  have HEQ := Lib.hid (show decide (zs = z64) = true from by simpa using h1)
  clear hl hb hT hs1 h1
  go_enter Tryd.func11, Tryd.ntmps11
  go_wp2_with (first
    | (refine wpl_load_sec (by rfl) (.tmp 1) rfl w.heap.size rfl zs HK.out ?_)
    | (refine wpl_build_sec rfl (by rfl) ?_)
    | (refine wpl_eq_sec (.tmp 6) (.tmp 7) _ rfl zs z64 HL.out z64_length rfl rfl (by rfl) ?_; rw [HEQ.out])
    | (refine wpl_put_hd rfl (.tmp 2) (.tmp 9) rfl (w.heap.size + 1) noH noH HRB.out rfl rfl rfl ?_; intro wf HOF HGF))
  refine bodyPost_ret_by (results_row_tmp rfl _ _ (w.heap.size + 1) _ rfl HOF.out.load) rfl ⟨rfl, hbelow_grown HW.out HGF.out (by omega) HW.out.size⟩
set_option maxRecDepth 8000 in
set_option maxHeartbeats 4000000 in
theorem hdec_mark (zs : List Int) (hl : zs.length = 64) (hb : isB zs) (w : World) (hT : Tab w) (h1 : ¬ zs = z64) (h2 : ¬ zs.take 5 = mark) :
    Calls Tryd.prog 11 #[.agg (sv zs)] w fun r w' => r = .returned (.tuple #[.agg (hv noH), .int .i64 2]) ∧ Below w.heap.size w w' := by
  obtain ⟨w0, hw0⟩ : ∃ q, (w.alloc (.cells (sv zs) 27)).alloc (.cells #[.int .u64 0, .int .i64 0, .int .i64 0, .int .i64 0, .int .i64 0, .int .i64 0, .int .i64 0] 25) = q := ⟨_, rfl⟩
  have hs1 : (w.alloc (.cells (sv zs) 27)).heap.size = w.heap.size + 1 := alloc_size w _
  have HK := Lib.hid (show Blk w0 w.heap.size zs from by rw [← hw0]; exact (Blk.new w zs hl).keep (balloc _ _))
  have HRB := Lib.hid (show HB w0 (w.heap.size + 1) noH from by rw [← hw0, ← hs1]; exact HB.new _ noH rfl)
  have HW := Lib.hid (show Below w.heap.size w w0 from by rw [← hw0]; exact bch (balloc w _) (balloc _ _))
  have HSZ := Lib.hid (show w0.heap.size = w.heap.size + 2 from by rw [← hw0, alloc_size, hs1])
  have HT := Lib.hid hT
  have HL := Lib.hid hl
  have HZB := Lib.hid hb
  have HEQ := Lib.hid (show decide (zs = z64) = false from by simpa using h1)
  have hri5 := HK.out.ri 0 5 64 (by omega) (by omega) (by omega)
  rw [List.drop_zero] at hri5
  obtain ⟨s5, hs5⟩ : ∃ s, strOfNums (zs.take 5) = s := ⟨_, rfl⟩
  have hq5 := (conv_ri hri5).trans (by rw [hs5])
  have hne0 := str_ne (show ¬ s5 = ⟨#[115, 116, 114, 100, 1]⟩ from fun e => h2 (strOfNums_inj (hb.take 5) mark_bytes (by rw [hs5, e]; rfl)))
  have hne : (s5.toList == [115, 116, 114, 100, 1]) = false := by rwa [show (⟨#[115, 116, 114, 100, 1]⟩ : ByteArray).toList = [115, 116, 114, 100, 1] from by rw [ByteArray.toList_eq]] at hne0
  clear hne0
  clear hri5 hs5
  clear hl hb hT hs1 h1 h2
  go_enter Tryd.func11, Tryd.ntmps11
  go_wp2_with (first
    | (refine wpl_load_sec (by rfl) (.tmp 1) rfl w.heap.size rfl zs HK.out ?_)
    | (refine wpl_build_sec rfl (by rfl) ?_)
    | (refine wpl_eq_sec (.tmp 6) (.tmp 7) _ rfl zs z64 HL.out z64_length rfl rfl (by rfl) ?_; rw [HEQ.out])
    | (refine wpl_put_hd rfl (.tmp 2) (.tmp 21) rfl (w.heap.size + 1) noH noH HRB.out rfl rfl rfl ?_; intro wf HOF HGF))
  refine bodyPost_ret_by (results_row_tmp rfl _ _ (w.heap.size + 1) _ rfl HOF.out.load) rfl ⟨rfl, hbelow_grown HW.out HGF.out (by omega) HW.out.size⟩
set_option maxRecDepth 8000 in
set_option maxHeartbeats 4000000 in
theorem hdec_rest (zs : List Int) (hl : zs.length = 64) (hb : isB zs) (w : World) (hT : Tab w) (h1 : ¬ zs = z64) (h2 : zs.take 5 = mark) (h3 : ¬ zs.drop 41 = z23) :
    Calls Tryd.prog 11 #[.agg (sv zs)] w fun r w' => r = .returned (.tuple #[.agg (hv noH), .int .i64 2]) ∧ Below w.heap.size w w' := by
  obtain ⟨w0, hw0⟩ : ∃ q, (w.alloc (.cells (sv zs) 27)).alloc (.cells #[.int .u64 0, .int .i64 0, .int .i64 0, .int .i64 0, .int .i64 0, .int .i64 0, .int .i64 0] 25) = q := ⟨_, rfl⟩
  have hs1 : (w.alloc (.cells (sv zs) 27)).heap.size = w.heap.size + 1 := alloc_size w _
  have HK := Lib.hid (show Blk w0 w.heap.size zs from by rw [← hw0]; exact (Blk.new w zs hl).keep (balloc _ _))
  have HRB := Lib.hid (show HB w0 (w.heap.size + 1) noH from by rw [← hw0, ← hs1]; exact HB.new _ noH rfl)
  have HW := Lib.hid (show Below w.heap.size w w0 from by rw [← hw0]; exact bch (balloc w _) (balloc _ _))
  have HSZ := Lib.hid (show w0.heap.size = w.heap.size + 2 from by rw [← hw0, alloc_size, hs1])
  have HT := Lib.hid hT
  have HL := Lib.hid hl
  have HZB := Lib.hid hb
  have HEQ := Lib.hid (show decide (zs = z64) = false from by simpa using h1)
  have hri5 := HK.out.ri 0 5 64 (by omega) (by omega) (by omega)
  rw [List.drop_zero] at hri5
  have hq5 := (conv_ri hri5).trans (show Result.ok (Value.string (strOfNums (zs.take 5))) w0 = .ok (.string ⟨#[115, 116, 114, 100, 1]⟩) w0 from by rw [h2]; rfl)
  have HD23 := Lib.hid (show (zs.drop 41).length = 23 from by simp [hl])
  have HRQ := Lib.hid (show (!decide (zs.drop 41 = z23)) = true from by simpa using h3)
  clear hri5
  clear hl hb hT hs1 h1 h2 h3
  go_enter Tryd.func11, Tryd.ntmps11
  go_wp2_with (first
    | (refine wpl_load_sec (by rfl) (.tmp 1) rfl w.heap.size rfl zs HK.out ?_)
    | (refine wpl_build_sec rfl (by rfl) ?_)
    | (refine wpl_eq_sec (.tmp 6) (.tmp 7) _ rfl zs z64 HL.out z64_length rfl rfl (by rfl) ?_; rw [HEQ.out])
    | (refine wpl_ptr_rest (.tmp 15) rfl _ _ _ rfl (by omega) (by rfl) ?_)
    | (refine wpl_load_rest (.tmp 16) rfl rfl HK.out (by rfl) ?_)
    | (refine wpl_build_rest rfl (by rfl) ?_)
    | (refine wpl_neq_rest (.tmp 17) (.tmp 18) _ rfl (zs.drop 41) z23 HD23.out z23_length rfl rfl (by rfl) ?_; rw [HRQ.out])
    | (refine wpl_put_hd rfl (.tmp 2) (.tmp 21) rfl (w.heap.size + 1) noH noH HRB.out rfl rfl rfl ?_; intro wf HOF HGF))
  refine bodyPost_ret_by (results_row_tmp rfl _ _ (w.heap.size + 1) _ rfl HOF.out.load) rfl ⟨rfl, hbelow_grown HW.out HGF.out (by omega) HW.out.size⟩
set_option maxRecDepth 8000 in
set_option maxHeartbeats 4000000 in
theorem hdec_sum (zs : List Int) (hl : zs.length = 64) (hb : isB zs) (w : World) (hT : Tab w) (h1 : ¬ zs = z64) (h2 : zs.take 5 = mark) (h3 : zs.drop 41 = z23) (h4 : ¬ (zs.drop 37).take 4 = putL (maskS (ofS (zs.take 37))) 4) :
    Calls Tryd.prog 11 #[.agg (sv zs)] w fun r w' => r = .returned (.tuple #[.agg (hv noH), .int .i64 3]) ∧ Below w.heap.size w w' := by
  obtain ⟨w0, hw0⟩ : ∃ q, (w.alloc (.cells (sv zs) 27)).alloc (.cells #[.int .u64 0, .int .i64 0, .int .i64 0, .int .i64 0, .int .i64 0, .int .i64 0, .int .i64 0] 25) = q := ⟨_, rfl⟩
  have hs1 : (w.alloc (.cells (sv zs) 27)).heap.size = w.heap.size + 1 := alloc_size w _
  have HK := Lib.hid (show Blk w0 w.heap.size zs from by rw [← hw0]; exact (Blk.new w zs hl).keep (balloc _ _))
  have HRB := Lib.hid (show HB w0 (w.heap.size + 1) noH from by rw [← hw0, ← hs1]; exact HB.new _ noH rfl)
  have HW := Lib.hid (show Below w.heap.size w w0 from by rw [← hw0]; exact bch (balloc w _) (balloc _ _))
  have HSZ := Lib.hid (show w0.heap.size = w.heap.size + 2 from by rw [← hw0, alloc_size, hs1])
  have HT := Lib.hid hT
  have HL := Lib.hid hl
  have HZB := Lib.hid hb
  have HEQ := Lib.hid (show decide (zs = z64) = false from by simpa using h1)
  have hri5 := HK.out.ri 0 5 64 (by omega) (by omega) (by omega)
  rw [List.drop_zero] at hri5
  have hq5 := (conv_ri hri5).trans (show Result.ok (Value.string (strOfNums (zs.take 5))) w0 = .ok (.string ⟨#[115, 116, 114, 100, 1]⟩) w0 from by rw [h2]; rfl)
  have HD23 := Lib.hid (show (zs.drop 41).length = 23 from by simp [hl])
  have HRQ := Lib.hid (show (!decide (zs.drop 41 = z23)) = false from by simpa using h3)
  clear hri5
  obtain ⟨m, hm⟩ : ∃ m, maskS (ofS (zs.take 37)) = m := ⟨_, rfl⟩
  have HSU := Lib.hid (fun w ht => hsum_any (w := w) ht zs hl hb hm)
  have HBQ := Lib.hid (show decide ((zs.drop 37).take 4 = putL m 4) = false from by rw [← hm]; simpa using h4)
  have HPB := Lib.hid (show isB ((zs.drop 37).take 4) from (hb.drop 37).take 4)
  clear hm
  clear hl hb hT hs1 h1 h2 h3 h4
  go_enter Tryd.func11, Tryd.ntmps11
  go_wp2_with (first
    | (refine wpl_load_sec (by rfl) (.tmp 1) rfl w.heap.size rfl zs HK.out ?_)
    | (refine wpl_build_sec rfl (by rfl) ?_)
    | (refine wpl_eq_sec (.tmp 6) (.tmp 7) _ rfl zs z64 HL.out z64_length rfl rfl (by rfl) ?_; rw [HEQ.out])
    | (refine wpl_ptr_rest (.tmp 15) rfl _ _ _ rfl (by omega) (by rfl) ?_)
    | (refine wpl_load_rest (.tmp 16) rfl rfl HK.out (by rfl) ?_)
    | (refine wpl_build_rest rfl (by rfl) ?_)
    | (refine wpl_neq_rest (.tmp 17) (.tmp 18) _ rfl (zs.drop 41) z23 HD23.out z23_length rfl rfl (by rfl) ?_; rw [HRQ.out]))
  go_wp2_with fail
  refine wp_region_held_drew (S := (fun w' => Blk w' w.heap.size zs ∧ HB w' (w.heap.size + 1) noH ∧ Below w.heap.size w w')) (by kernel_rfl) ⟨HK.out, HRB.out, HW.out.drew⟩ (fun hS => ?_)
  refine wpAnyH_take (i := 0) (oi := ({ dst := some 23, op := Op.slice 27 (Operand.tmp 1) (some (Operand.const (Value.int IntKind.i64 37))) (some (Operand.const (Value.int IntKind.i64 41))) none, type := 42, pos := "header.go:35", after := #[], guard := none } : Oper)) (v := ?_) rfl (by kernel_rfl) (by kernel_rfl) (by kernel_rfl) (fun _ _ _ h => h) (Or.inl ⟨by rfl, ?_⟩) hS ?_
  rotate_left
  · (intro w hSw; (try dsimp only at hSw); go_simp; try with_reducible rfl)
  (try simp only [Act.put, List.setIfInBounds_toArray, List.set_cons_zero, List.set_cons_succ])
  refine wpAnyH_take (i := 1) (oi := ({ dst := some 24, op := Op.load 27 (Operand.tmp 1), type := 27, pos := "header.go:35", after := #[], guard := none } : Oper)) (v := ?_) rfl (by kernel_rfl) (by kernel_rfl) (by kernel_rfl) (fun _ _ _ h => h) (Or.inl ⟨by rfl, ?_⟩) hS ?_
  rotate_left
  · (intro w hSw; (try dsimp only at hSw); refine exec_load_sec (.tmp 1) ?_ ?_ hSw.1 <;> rfl)
  (try simp only [Act.put, List.setIfInBounds_toArray, List.set_cons_zero, List.set_cons_succ])
  refine rg_one 2 ({ dst := some 25, op := Op.call { callee := Callee.value (Operand.func 17), args := #[Operand.tmp 24], argTypes := #[27] }, type := 42, pos := "header.go:35", after := #[{ on := 1, ground := Ground.data }], guard := none } : Oper) (by kernel_rfl) rfl (fun K hK => ?_)
  go_simp
  (go_at_call 17; (refine (HSU.out _ (HT.out.keep hS.2.2)).mono ?_); rintro r w3 ⟨p3, rfl, ho, hb⟩; have HR3 := Lib.hid (RI.own ho); clear ho)
  refine hK.out _ _ ?_ (fun hS1 => ?_)
  · (first | exact hS | exact ⟨hS.1.keep hb, hS.2.1.keep hb, bch hS.2.2 hb⟩)
  clear hK K hS; have hS := hS1; clear hS1
  (try simp only [Act.put, List.setIfInBounds_toArray, List.set_cons_zero, List.set_cons_succ])
  refine rg_one 3 ({ dst := some 26, op := Op.call { callee := Callee.value (Operand.func 16), args := #[Operand.tmp 23, Operand.tmp 25], argTypes := #[42, 42] }, type := 4, pos := "header.go:35", after := #[{ on := 0, ground := Ground.data }, { on := 2, ground := Ground.data }, { on := 2, ground := Ground.chain }], guard := none } : Oper) (by kernel_rfl) rfl (fun K hK => ?_)
  go_simp
  (go_at_call 16; (refine (bequal_any _ _ 4 4 _ _ _ (hS.1.ri 37 4 27 (by omega) (by omega) (by omega)) HR3.out HPB.out (putL_isB _ _)).mono ?_); rintro r w4 ⟨rfl, rfl⟩; rw [HBQ.out])
  refine hK.out _ _ ?_ (fun hS1 => ?_)
  · (first | exact hS | exact ⟨hS.1.keep hb, hS.2.1.keep hb, bch hS.2.2 hb⟩)
  clear hK K hS; have hS := hS1; clear hS1
  (try simp only [Act.put, List.setIfInBounds_toArray, List.set_cons_zero, List.set_cons_succ])
  refine wpAnyH_take (i := 4) (oi := ({ dst := some 27, op := Op.unOp UnOp.not 4 (Operand.tmp 26), type := 4, pos := "header.go:35", after := #[{ on := 3, ground := Ground.data }], guard := none } : Oper)) (v := ?_) rfl (by kernel_rfl) (by kernel_rfl) (by kernel_rfl) (fun _ _ _ h => h) (Or.inl ⟨by rfl, ?_⟩) hS ?_
  rotate_left
  · (intro w hSw; (try dsimp only at hSw); go_simp; try with_reducible rfl)
  (try simp only [Act.put, List.setIfInBounds_toArray, List.set_cons_zero, List.set_cons_succ])
  refine wpAnyH_take (i := 5) (oi := ({ dst := some 22, op := Op.assign (Operand.tmp 27), type := 4, pos := "header.go:35", after := #[{ on := 4, ground := Ground.data }, { on := 3, ground := Ground.chain }], guard := none } : Oper)) (v := ?_) rfl (by kernel_rfl) (by kernel_rfl) (by kernel_rfl) (fun _ _ _ h => h) (Or.inl ⟨by rfl, ?_⟩) hS ?_
  rotate_left
  · (intro w hSw; (try dsimp only at hSw); go_simp; try with_reducible rfl)
  (try simp only [Act.put, List.setIfInBounds_toArray, List.set_cons_zero, List.set_cons_succ])
  refine wpAnyH_done (by kernel_rfl) ?_ _
  have HK3 := Lib.hid hS.1
  have HRB3 := Lib.hid hS.2.1
  have HW3 := Lib.hid hS.2.2
  clear hS
  go_wp2_with (first
    | (refine wpl_put_hd rfl (.tmp 2) (.tmp 28) rfl (w.heap.size + 1) noH noH HRB3.out rfl rfl rfl ?_; intro wf HOF HGF))
  refine bodyPost_ret_by (results_row_tmp rfl _ _ (w.heap.size + 1) _ rfl HOF.out.load) rfl ⟨rfl, hbelow_grown HW3.out HGF.out (by omega) HW3.out.size⟩
set_option maxRecDepth 8000 in
set_option maxHeartbeats 4000000 in
theorem hdec_wrong (zs : List Int) (hl : zs.length = 64) (hb : isB zs) (w : World) (hT : Tab w) (h1 : ¬ zs = z64) (h2 : zs.take 5 = mark) (h3 : zs.drop 41 = z23) (h4 : (zs.drop 37).take 4 = putL (maskS (ofS (zs.take 37))) 4) (h5 : hdOk (readH zs) = false) :
    Calls Tryd.prog 11 #[.agg (sv zs)] w fun r w' => r = .returned (.tuple #[.agg (hv noH), .int .i64 2]) ∧ Below w.heap.size w w' := by
  obtain ⟨w0, hw0⟩ : ∃ q, (w.alloc (.cells (sv zs) 27)).alloc (.cells #[.int .u64 0, .int .i64 0, .int .i64 0, .int .i64 0, .int .i64 0, .int .i64 0, .int .i64 0] 25) = q := ⟨_, rfl⟩
  have hs1 : (w.alloc (.cells (sv zs) 27)).heap.size = w.heap.size + 1 := alloc_size w _
  have HK := Lib.hid (show Blk w0 w.heap.size zs from by rw [← hw0]; exact (Blk.new w zs hl).keep (balloc _ _))
  have HRB := Lib.hid (show HB w0 (w.heap.size + 1) noH from by rw [← hw0, ← hs1]; exact HB.new _ noH rfl)
  have HW := Lib.hid (show Below w.heap.size w w0 from by rw [← hw0]; exact bch (balloc w _) (balloc _ _))
  have HSZ := Lib.hid (show w0.heap.size = w.heap.size + 2 from by rw [← hw0, alloc_size, hs1])
  have HT := Lib.hid hT
  have HL := Lib.hid hl
  have HZB := Lib.hid hb
  have HEQ := Lib.hid (show decide (zs = z64) = false from by simpa using h1)
  have hri5 := HK.out.ri 0 5 64 (by omega) (by omega) (by omega)
  rw [List.drop_zero] at hri5
  have hq5 := (conv_ri hri5).trans (show Result.ok (Value.string (strOfNums (zs.take 5))) w0 = .ok (.string ⟨#[115, 116, 114, 100, 1]⟩) w0 from by rw [h2]; rfl)
  have HD23 := Lib.hid (show (zs.drop 41).length = 23 from by simp [hl])
  have HRQ := Lib.hid (show (!decide (zs.drop 41 = z23)) = false from by simpa using h3)
  clear hri5
  obtain ⟨m, hm⟩ : ∃ m, maskS (ofS (zs.take 37)) = m := ⟨_, rfl⟩
  have HSU := Lib.hid (fun w ht => hsum_any (w := w) ht zs hl hb hm)
  have HBQ := Lib.hid (show decide ((zs.drop 37).take 4 = putL m 4) = true from by rw [← hm]; simpa using h4)
  have HPB := Lib.hid (show isB ((zs.drop 37).take 4) from (hb.drop 37).take 4)
  clear hm
  have HRD := Lib.hid (fun w => hread_any zs hl hb w)
  have HRT := Lib.hid (readH_typed hb)
  have HOK : Hid (∀ w, Calls Tryd.prog 7 #[.agg (hv (readH zs))] w fun r w' => r = .returned (.bool false) ∧ Below w.heap.size w w') := Lib.hid fun w => by rw [← h5]; exact hright_any _ (readH_typed hb) w
  clear hl hb hT hs1 h1 h2 h3 h4 h5
  go_enter Tryd.func11, Tryd.ntmps11
  go_wp2_with (first
    | (refine wpl_load_sec (by rfl) (.tmp 1) rfl w.heap.size rfl zs HK.out ?_)
    | (refine wpl_build_sec rfl (by rfl) ?_)
    | (refine wpl_eq_sec (.tmp 6) (.tmp 7) _ rfl zs z64 HL.out z64_length rfl rfl (by rfl) ?_; rw [HEQ.out])
    | (refine wpl_ptr_rest (.tmp 15) rfl _ _ _ rfl (by omega) (by rfl) ?_)
    | (refine wpl_load_rest (.tmp 16) rfl rfl HK.out (by rfl) ?_)
    | (refine wpl_build_rest rfl (by rfl) ?_)
    | (refine wpl_neq_rest (.tmp 17) (.tmp 18) _ rfl (zs.drop 41) z23 HD23.out z23_length rfl rfl (by rfl) ?_; rw [HRQ.out]))
  go_wp2_with fail
  refine wp_region_held_drew (S := (fun w' => Blk w' w.heap.size zs ∧ HB w' (w.heap.size + 1) noH ∧ Below w.heap.size w w')) (by kernel_rfl) ⟨HK.out, HRB.out, HW.out.drew⟩ (fun hS => ?_)
  refine wpAnyH_take (i := 0) (oi := ({ dst := some 23, op := Op.slice 27 (Operand.tmp 1) (some (Operand.const (Value.int IntKind.i64 37))) (some (Operand.const (Value.int IntKind.i64 41))) none, type := 42, pos := "header.go:35", after := #[], guard := none } : Oper)) (v := ?_) rfl (by kernel_rfl) (by kernel_rfl) (by kernel_rfl) (fun _ _ _ h => h) (Or.inl ⟨by rfl, ?_⟩) hS ?_
  rotate_left
  · (intro w hSw; (try dsimp only at hSw); go_simp; try with_reducible rfl)
  (try simp only [Act.put, List.setIfInBounds_toArray, List.set_cons_zero, List.set_cons_succ])
  refine wpAnyH_take (i := 1) (oi := ({ dst := some 24, op := Op.load 27 (Operand.tmp 1), type := 27, pos := "header.go:35", after := #[], guard := none } : Oper)) (v := ?_) rfl (by kernel_rfl) (by kernel_rfl) (by kernel_rfl) (fun _ _ _ h => h) (Or.inl ⟨by rfl, ?_⟩) hS ?_
  rotate_left
  · (intro w hSw; (try dsimp only at hSw); refine exec_load_sec (.tmp 1) ?_ ?_ hSw.1 <;> rfl)
  (try simp only [Act.put, List.setIfInBounds_toArray, List.set_cons_zero, List.set_cons_succ])
  refine rg_one 2 ({ dst := some 25, op := Op.call { callee := Callee.value (Operand.func 17), args := #[Operand.tmp 24], argTypes := #[27] }, type := 42, pos := "header.go:35", after := #[{ on := 1, ground := Ground.data }], guard := none } : Oper) (by kernel_rfl) rfl (fun K hK => ?_)
  go_simp
  (go_at_call 17; (refine (HSU.out _ (HT.out.keep hS.2.2)).mono ?_); rintro r w3 ⟨p3, rfl, ho, hb⟩; have HR3 := Lib.hid (RI.own ho); clear ho)
  refine hK.out _ _ ?_ (fun hS1 => ?_)
  · (first | exact hS | exact ⟨hS.1.keep hb, hS.2.1.keep hb, bch hS.2.2 hb⟩)
  clear hK K hS; have hS := hS1; clear hS1
  (try simp only [Act.put, List.setIfInBounds_toArray, List.set_cons_zero, List.set_cons_succ])
  refine rg_one 3 ({ dst := some 26, op := Op.call { callee := Callee.value (Operand.func 16), args := #[Operand.tmp 23, Operand.tmp 25], argTypes := #[42, 42] }, type := 4, pos := "header.go:35", after := #[{ on := 0, ground := Ground.data }, { on := 2, ground := Ground.data }, { on := 2, ground := Ground.chain }], guard := none } : Oper) (by kernel_rfl) rfl (fun K hK => ?_)
  go_simp
  (go_at_call 16; (refine (bequal_any _ _ 4 4 _ _ _ (hS.1.ri 37 4 27 (by omega) (by omega) (by omega)) HR3.out HPB.out (putL_isB _ _)).mono ?_); rintro r w4 ⟨rfl, rfl⟩; rw [HBQ.out])
  refine hK.out _ _ ?_ (fun hS1 => ?_)
  · (first | exact hS | exact ⟨hS.1.keep hb, hS.2.1.keep hb, bch hS.2.2 hb⟩)
  clear hK K hS; have hS := hS1; clear hS1
  (try simp only [Act.put, List.setIfInBounds_toArray, List.set_cons_zero, List.set_cons_succ])
  refine wpAnyH_take (i := 4) (oi := ({ dst := some 27, op := Op.unOp UnOp.not 4 (Operand.tmp 26), type := 4, pos := "header.go:35", after := #[{ on := 3, ground := Ground.data }], guard := none } : Oper)) (v := ?_) rfl (by kernel_rfl) (by kernel_rfl) (by kernel_rfl) (fun _ _ _ h => h) (Or.inl ⟨by rfl, ?_⟩) hS ?_
  rotate_left
  · (intro w hSw; (try dsimp only at hSw); go_simp; try with_reducible rfl)
  (try simp only [Act.put, List.setIfInBounds_toArray, List.set_cons_zero, List.set_cons_succ])
  refine wpAnyH_take (i := 5) (oi := ({ dst := some 22, op := Op.assign (Operand.tmp 27), type := 4, pos := "header.go:35", after := #[{ on := 4, ground := Ground.data }, { on := 3, ground := Ground.chain }], guard := none } : Oper)) (v := ?_) rfl (by kernel_rfl) (by kernel_rfl) (by kernel_rfl) (fun _ _ _ h => h) (Or.inl ⟨by rfl, ?_⟩) hS ?_
  rotate_left
  · (intro w hSw; (try dsimp only at hSw); go_simp; try with_reducible rfl)
  (try simp only [Act.put, List.setIfInBounds_toArray, List.set_cons_zero, List.set_cons_succ])
  refine wpAnyH_done (by kernel_rfl) ?_ _
  have HK3 := Lib.hid hS.1
  have HRB3 := Lib.hid hS.2.1
  have HW3 := Lib.hid hS.2.2
  clear hS
  go_wp2_with (first
    | (refine wpl_load_sec (by rfl) (.tmp 1) rfl w.heap.size rfl zs HK3.out ?_)
    | (go_at_call 18; (with_reducible refine (HRD.out _).mono ?_); rintro r w5 ⟨rfl, hb5⟩; have HRB5 := Lib.hid (HRB3.out.keep hb5); have HW5 := Lib.hid (bch HW3.out hb5); clear hb5)
    | (refine wpl_put_hd rfl (.tmp 4) (.tmp 30) rfl w5.heap.size noH (readH zs) (HB.new w5 noH rfl) rfl rfl rfl ?_; intro w7 HA7 HG7; have HL5 := Lib.hid (HRB5.out.lt); have HRB7 := Lib.hid ((HRB5.out.keep (balloc w5 _)).over HG7.out (by have := HL5.out; omega)); have HW7 := Lib.hid (hbelow_grown (bch HW5.out (balloc w5 _)) HG7.out HW5.out.size (Nat.le_trans HW5.out.size (balloc w5 _).size)))
    | (refine wpl_load_hd (by rfl) (.tmp 4) rfl rfl HA8.out ?_)
    | (refine wpl_load_hd (by rfl) (.tmp 4) rfl rfl HA7.out ?_)
    | (go_at_call 7; (with_reducible refine (HOK.out _).mono ?_); rintro r w8 ⟨rfl, hb8⟩; have HA8 := Lib.hid (HA7.out.keep hb8); have HRB8 := Lib.hid (HRB7.out.keep hb8); have HW8 := Lib.hid (bch HW7.out hb8); clear hb8)
    | (refine wpl_put_hd rfl (.tmp 2) (.tmp 34) rfl (w.heap.size + 1) noH noH HRB8.out rfl rfl rfl ?_; intro wf HOF HGF))
  refine bodyPost_ret_by (results_row_tmp rfl _ _ (w.heap.size + 1) _ rfl HOF.out.load) rfl ⟨rfl, hbelow_grown HW8.out HGF.out (by omega) HW8.out.size⟩
set_option maxRecDepth 8000 in
set_option maxHeartbeats 4000000 in
theorem hdec_ok (zs : List Int) (hl : zs.length = 64) (hb : isB zs) (w : World) (hT : Tab w) (h1 : ¬ zs = z64) (h2 : zs.take 5 = mark) (h3 : zs.drop 41 = z23) (h4 : (zs.drop 37).take 4 = putL (maskS (ofS (zs.take 37))) 4) (h5 : hdOk (readH zs) = true) :
    Calls Tryd.prog 11 #[.agg (sv zs)] w fun r w' => r = .returned (.tuple #[.agg (hv (readH zs)), .int .i64 0]) ∧ Below w.heap.size w w' := by
  obtain ⟨w0, hw0⟩ : ∃ q, (w.alloc (.cells (sv zs) 27)).alloc (.cells #[.int .u64 0, .int .i64 0, .int .i64 0, .int .i64 0, .int .i64 0, .int .i64 0, .int .i64 0] 25) = q := ⟨_, rfl⟩
  have hs1 : (w.alloc (.cells (sv zs) 27)).heap.size = w.heap.size + 1 := alloc_size w _
  have HK := Lib.hid (show Blk w0 w.heap.size zs from by rw [← hw0]; exact (Blk.new w zs hl).keep (balloc _ _))
  have HRB := Lib.hid (show HB w0 (w.heap.size + 1) noH from by rw [← hw0, ← hs1]; exact HB.new _ noH rfl)
  have HW := Lib.hid (show Below w.heap.size w w0 from by rw [← hw0]; exact bch (balloc w _) (balloc _ _))
  have HSZ := Lib.hid (show w0.heap.size = w.heap.size + 2 from by rw [← hw0, alloc_size, hs1])
  have HT := Lib.hid hT
  have HL := Lib.hid hl
  have HZB := Lib.hid hb
  have HEQ := Lib.hid (show decide (zs = z64) = false from by simpa using h1)
  have hri5 := HK.out.ri 0 5 64 (by omega) (by omega) (by omega)
  rw [List.drop_zero] at hri5
  have hq5 := (conv_ri hri5).trans (show Result.ok (Value.string (strOfNums (zs.take 5))) w0 = .ok (.string ⟨#[115, 116, 114, 100, 1]⟩) w0 from by rw [h2]; rfl)
  have HD23 := Lib.hid (show (zs.drop 41).length = 23 from by simp [hl])
  have HRQ := Lib.hid (show (!decide (zs.drop 41 = z23)) = false from by simpa using h3)
  clear hri5
  obtain ⟨m, hm⟩ : ∃ m, maskS (ofS (zs.take 37)) = m := ⟨_, rfl⟩
  have HSU := Lib.hid (fun w ht => hsum_any (w := w) ht zs hl hb hm)
  have HBQ := Lib.hid (show decide ((zs.drop 37).take 4 = putL m 4) = true from by rw [← hm]; simpa using h4)
  have HPB := Lib.hid (show isB ((zs.drop 37).take 4) from (hb.drop 37).take 4)
  clear hm
  have HRD := Lib.hid (fun w => hread_any zs hl hb w)
  have HRT := Lib.hid (readH_typed hb)
  have HOK : Hid (∀ w, Calls Tryd.prog 7 #[.agg (hv (readH zs))] w fun r w' => r = .returned (.bool true) ∧ Below w.heap.size w w') := Lib.hid fun w => by rw [← h5]; exact hright_any _ (readH_typed hb) w
  clear hl hb hT hs1 h1 h2 h3 h4 h5
  go_enter Tryd.func11, Tryd.ntmps11
  go_wp2_with (first
    | (refine wpl_load_sec (by rfl) (.tmp 1) rfl w.heap.size rfl zs HK.out ?_)
    | (refine wpl_build_sec rfl (by rfl) ?_)
    | (refine wpl_eq_sec (.tmp 6) (.tmp 7) _ rfl zs z64 HL.out z64_length rfl rfl (by rfl) ?_; rw [HEQ.out])
    | (refine wpl_ptr_rest (.tmp 15) rfl _ _ _ rfl (by omega) (by rfl) ?_)
    | (refine wpl_load_rest (.tmp 16) rfl rfl HK.out (by rfl) ?_)
    | (refine wpl_build_rest rfl (by rfl) ?_)
    | (refine wpl_neq_rest (.tmp 17) (.tmp 18) _ rfl (zs.drop 41) z23 HD23.out z23_length rfl rfl (by rfl) ?_; rw [HRQ.out]))
  go_wp2_with fail
  refine wp_region_held_drew (S := (fun w' => Blk w' w.heap.size zs ∧ HB w' (w.heap.size + 1) noH ∧ Below w.heap.size w w')) (by kernel_rfl) ⟨HK.out, HRB.out, HW.out.drew⟩ (fun hS => ?_)
  refine wpAnyH_take (i := 0) (oi := ({ dst := some 23, op := Op.slice 27 (Operand.tmp 1) (some (Operand.const (Value.int IntKind.i64 37))) (some (Operand.const (Value.int IntKind.i64 41))) none, type := 42, pos := "header.go:35", after := #[], guard := none } : Oper)) (v := ?_) rfl (by kernel_rfl) (by kernel_rfl) (by kernel_rfl) (fun _ _ _ h => h) (Or.inl ⟨by rfl, ?_⟩) hS ?_
  rotate_left
  · (intro w hSw; (try dsimp only at hSw); go_simp; try with_reducible rfl)
  (try simp only [Act.put, List.setIfInBounds_toArray, List.set_cons_zero, List.set_cons_succ])
  refine wpAnyH_take (i := 1) (oi := ({ dst := some 24, op := Op.load 27 (Operand.tmp 1), type := 27, pos := "header.go:35", after := #[], guard := none } : Oper)) (v := ?_) rfl (by kernel_rfl) (by kernel_rfl) (by kernel_rfl) (fun _ _ _ h => h) (Or.inl ⟨by rfl, ?_⟩) hS ?_
  rotate_left
  · (intro w hSw; (try dsimp only at hSw); refine exec_load_sec (.tmp 1) ?_ ?_ hSw.1 <;> rfl)
  (try simp only [Act.put, List.setIfInBounds_toArray, List.set_cons_zero, List.set_cons_succ])
  refine rg_one 2 ({ dst := some 25, op := Op.call { callee := Callee.value (Operand.func 17), args := #[Operand.tmp 24], argTypes := #[27] }, type := 42, pos := "header.go:35", after := #[{ on := 1, ground := Ground.data }], guard := none } : Oper) (by kernel_rfl) rfl (fun K hK => ?_)
  go_simp
  (go_at_call 17; (refine (HSU.out _ (HT.out.keep hS.2.2)).mono ?_); rintro r w3 ⟨p3, rfl, ho, hb⟩; have HR3 := Lib.hid (RI.own ho); clear ho)
  refine hK.out _ _ ?_ (fun hS1 => ?_)
  · (first | exact hS | exact ⟨hS.1.keep hb, hS.2.1.keep hb, bch hS.2.2 hb⟩)
  clear hK K hS; have hS := hS1; clear hS1
  (try simp only [Act.put, List.setIfInBounds_toArray, List.set_cons_zero, List.set_cons_succ])
  refine rg_one 3 ({ dst := some 26, op := Op.call { callee := Callee.value (Operand.func 16), args := #[Operand.tmp 23, Operand.tmp 25], argTypes := #[42, 42] }, type := 4, pos := "header.go:35", after := #[{ on := 0, ground := Ground.data }, { on := 2, ground := Ground.data }, { on := 2, ground := Ground.chain }], guard := none } : Oper) (by kernel_rfl) rfl (fun K hK => ?_)
  go_simp
  (go_at_call 16; (refine (bequal_any _ _ 4 4 _ _ _ (hS.1.ri 37 4 27 (by omega) (by omega) (by omega)) HR3.out HPB.out (putL_isB _ _)).mono ?_); rintro r w4 ⟨rfl, rfl⟩; rw [HBQ.out])
  refine hK.out _ _ ?_ (fun hS1 => ?_)
  · (first | exact hS | exact ⟨hS.1.keep hb, hS.2.1.keep hb, bch hS.2.2 hb⟩)
  clear hK K hS; have hS := hS1; clear hS1
  (try simp only [Act.put, List.setIfInBounds_toArray, List.set_cons_zero, List.set_cons_succ])
  refine wpAnyH_take (i := 4) (oi := ({ dst := some 27, op := Op.unOp UnOp.not 4 (Operand.tmp 26), type := 4, pos := "header.go:35", after := #[{ on := 3, ground := Ground.data }], guard := none } : Oper)) (v := ?_) rfl (by kernel_rfl) (by kernel_rfl) (by kernel_rfl) (fun _ _ _ h => h) (Or.inl ⟨by rfl, ?_⟩) hS ?_
  rotate_left
  · (intro w hSw; (try dsimp only at hSw); go_simp; try with_reducible rfl)
  (try simp only [Act.put, List.setIfInBounds_toArray, List.set_cons_zero, List.set_cons_succ])
  refine wpAnyH_take (i := 5) (oi := ({ dst := some 22, op := Op.assign (Operand.tmp 27), type := 4, pos := "header.go:35", after := #[{ on := 4, ground := Ground.data }, { on := 3, ground := Ground.chain }], guard := none } : Oper)) (v := ?_) rfl (by kernel_rfl) (by kernel_rfl) (by kernel_rfl) (fun _ _ _ h => h) (Or.inl ⟨by rfl, ?_⟩) hS ?_
  rotate_left
  · (intro w hSw; (try dsimp only at hSw); go_simp; try with_reducible rfl)
  (try simp only [Act.put, List.setIfInBounds_toArray, List.set_cons_zero, List.set_cons_succ])
  refine wpAnyH_done (by kernel_rfl) ?_ _
  have HK3 := Lib.hid hS.1
  have HRB3 := Lib.hid hS.2.1
  have HW3 := Lib.hid hS.2.2
  clear hS
  go_wp2_with (first
    | (refine wpl_load_sec (by rfl) (.tmp 1) rfl w.heap.size rfl zs HK3.out ?_)
    | (go_at_call 18; (with_reducible refine (HRD.out _).mono ?_); rintro r w5 ⟨rfl, hb5⟩; have HRB5 := Lib.hid (HRB3.out.keep hb5); have HW5 := Lib.hid (bch HW3.out hb5); clear hb5)
    | (refine wpl_put_hd rfl (.tmp 4) (.tmp 30) rfl w5.heap.size noH (readH zs) (HB.new w5 noH rfl) rfl rfl rfl ?_; intro w7 HA7 HG7; have HL5 := Lib.hid (HRB5.out.lt); have HRB7 := Lib.hid ((HRB5.out.keep (balloc w5 _)).over HG7.out (by have := HL5.out; omega)); have HW7 := Lib.hid (hbelow_grown (bch HW5.out (balloc w5 _)) HG7.out HW5.out.size (Nat.le_trans HW5.out.size (balloc w5 _).size)))
    | (refine wpl_load_hd (by rfl) (.tmp 4) rfl rfl HA8.out ?_)
    | (refine wpl_load_hd (by rfl) (.tmp 4) rfl rfl HA7.out ?_)
    | (go_at_call 7; (with_reducible refine (HOK.out _).mono ?_); rintro r w8 ⟨rfl, hb8⟩; have HA8 := Lib.hid (HA7.out.keep hb8); have HRB8 := Lib.hid (HRB7.out.keep hb8); have HW8 := Lib.hid (bch HW7.out hb8); clear hb8)
    | (refine wpl_put_hd rfl (.tmp 2) (.tmp 35) rfl (w.heap.size + 1) noH (readH zs) HRB8.out rfl rfl rfl ?_; intro wf HOF HGF))
  refine bodyPost_ret_by (results_row_tmp rfl _ _ (w.heap.size + 1) _ rfl HOF.out.load) rfl ⟨rfl, hbelow_grown HW8.out HGF.out (by omega) HW8.out.size⟩
theorem hdec_any (zs : List Int) (hl : zs.length = 64) (hb : isB zs) (w : World) (hT : Tab w) {h : Hdr} {x : Int} (hd : headD zs = (h, x)) :
    Calls Tryd.prog 11 #[.agg (sv zs)] w fun r w' => r = .returned (.tuple #[.agg (hv h), .int .i64 x]) ∧ Below w.heap.size w w' := by
  rcases headD_cases (zs := zs) with ⟨h1, e⟩ | ⟨h1, h2, e⟩ | ⟨h1, h2, h3, h4, e⟩ | ⟨h1, h2, h3, h4, h5, e⟩ | ⟨h1, h2, h3, h4, h5, e⟩ <;> (rw [hd] at e; obtain ⟨rfl, rfl⟩ := Prod.mk.inj e)
  · exact hdec_none zs hl hb w hT h1
  · by_cases hm : zs.take 5 = mark
    · exact hdec_rest zs hl hb w hT h1 hm (fun q => (h2.elim (fun k => k hm) (fun k => k q)))
    · exact hdec_mark zs hl hb w hT h1 hm
  · exact hdec_sum zs hl hb w hT h1 h2 h3 h4
  · exact hdec_wrong zs hl hb w hT h1 h2 h3 h4 h5
  · exact hdec_ok zs hl hb w hT h1 h2 h3 h4 h5
end Go.Proofs.YtncnmmillhnhlaaDoor
