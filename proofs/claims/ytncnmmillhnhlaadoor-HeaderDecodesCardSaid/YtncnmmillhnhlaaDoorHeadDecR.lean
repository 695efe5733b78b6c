/-
  WHAT THE REFERENCE'S Decode ANSWERS (layer 18), case by case. (Written by wip/gen/g28.py.)
-/
import Derived.Test.YtncnmmillhnhlaaDoorHeadArm
import Derived.Test.YtncnmmillhnhlaaDoorHeadRead
import Derived.Test.YtncnmmillhnhlaaDoorHeadRightR
import Derived.Test.YtncnmmillhnhlaaDoorRefGet
namespace Go.Proofs.YtncnmmillhnhlaaDoor
open Go.RowKit
/-- the number of so many bytes of a sector, as the reference tells it -/
theorem sec_rget (g p n : Nat) (zs : List Int) (w : World) (hk : Blk w g zs) (hb : isB zs) (hp : p + n ≤ 64) (h0 : 0 < n) (h8 : n ≤ 8) {m : Int} (hm : num zs p n = m) :
    Calls Tryd.prog 22 #[.slice (some ⟨g, p, none⟩) n (64 - p)] w fun e w' => e = .returned (.int .u64 m) ∧ Below w.heap.size w w' := by
  obtain ⟨b2, off2, c2, e, _, _, hcell⟩ := (hk.ri p n (64 - p) hp (by omega) (by omega)).open_ h0
  simp only [Value.slice.injEq, Option.some.injEq, Addr.mk.injEq, and_true, true_and] at e
  obtain ⟨⟨rfl, rfl⟩, _⟩ := e
  have h := rgetw_some g p n (64 - p) ((zs.drop p).take n) w (bytes_of_mem ((hb.drop p).take n)) h0 (by omega) hcell
  rw [Nat.min_eq_left h8, getI_take _ n n (Nat.le_refl _)] at h
  rw [← hm]; exact h.mono fun _ _ ⟨h1, h2⟩ => ⟨h1, h2.grown⟩
theorem mark_at {zs : List Int} (h : zs.take 5 = mark) (i : Nat) (hi : i < 5) : zs.getD i 0 = mark.getD i 0 := by
  rw [← h]; simp only [List.getD, List.getElem?_take, hi, if_true]
theorem mark_of (zs : List Int) (hl : zs.length = 64) (h0 : zs.getD 0 0 = 115) (h1 : zs.getD 1 0 = 116) (h2 : zs.getD 2 0 = 114) (h3 : zs.getD 3 0 = 100) (h4 : zs.getD 4 0 = 1) : zs.take 5 = mark := by
  refine List.ext_getElem (by simp [hl, mark]) fun j g1 g2 => ?_
  have hj : j < 5 := g2
  have e : (zs.take 5)[j] = zs.getD j 0 := by simp [List.getD, show j < zs.length by omega]
  rw [e]
  match j, hj with
  | 0, _ => rw [h0]; rfl
  | 1, _ => rw [h1]; rfl
  | 2, _ => rw [h2]; rfl
  | 3, _ => rw [h3]; rfl
  | 4, _ => rw [h4]; rfl
/-- are all bytes from the 41st on up to the i-th one 0? -/
def zu (zs : List Int) (i : Nat) : Bool := ((zs.drop 41).take (i - 41)).all fun x => x == 0
theorem zu_zero (zs : List Int) : zu zs 41 = true := by simp [zu]
theorem zu_succ (zs : List Int) (i : Nat) (hi : 41 ≤ i) (hl : i < zs.length) : zu zs (i + 1) = (zu zs i && (zs.getD i 0 == 0)) := by
  unfold zu
  rw [show i + 1 - 41 = (i - 41) + 1 from by omega, List.take_succ_eq_append_getElem (by simp; omega), List.all_append]
  simp only [List.all_cons, List.all_nil, Bool.and_true, List.getElem_drop]
  simp only [show 41 + (i - 41) = i from by omega, List.getD, hl, getElem?_pos, Option.getD_some]
theorem zu_all (zs : List Int) (hl : zs.length = 64) : zu zs 64 = decide (zs.drop 41 = z23) := by
  unfold zu
  rw [List.take_of_length_le (by simp [hl]), Bool.eq_iff_iff, List.all_eq_true, decide_eq_true_eq]
  constructor
  · intro h
    refine List.eq_replicate_iff.2 ⟨by simp [hl], fun b hb => by simpa using h b hb⟩
  · intro h x hx
    rw [h] at hx
    simpa using (List.mem_replicate.1 hx).2
set_option maxRecDepth 8000 in
set_option maxHeartbeats 8000000 in
theorem rdec_none (zs : List Int) (hl : zs.length = 64) (hb : isB zs) (w : World) (h1 : zs = z64) :
    Calls Tryd.prog 13 #[.agg (sv zs)] w fun r w' => r = .returned (.tuple #[.agg (hv noH), .int .i64 7]) ∧ Below w.heap.size w w' := by
  obtain ⟨w0, hw0⟩ : ∃ q, (w.alloc (.cells (sv zs) 27)).alloc (.cells #[.int .u64 0, .int .i64 0, .int .i64 0, .int .i64 0, .int .i64 0, .int .i64 0, .int .i64 0] 25) = q := ⟨_, rfl⟩
  have hs1 : (w.alloc (.cells (sv zs) 27)).heap.size = w.heap.size + 1 := alloc_size w _
  have hk0 : Blk w0 w.heap.size zs := by rw [← hw0]; exact (Blk.new w zs hl).keep (balloc _ _)
  have HK := Lib.hid hk0
  have HRB := Lib.hid (show HB w0 (w.heap.size + 1) noH from by rw [← hw0, ← hs1]; exact HB.new _ noH rfl)
  have HW := Lib.hid (show Below w.heap.size w w0 from by rw [← hw0]; exact bch (balloc w _) (balloc _ _))
  have HSZ := Lib.hid (show w0.heap.size = w.heap.size + 2 from by rw [← hw0, alloc_size, hs1])
  have HL := Lib.hid hl
  have HZB := Lib.hid hb
  have HEQ := Lib.hid (show decide (zs = z64) = true from by simpa using h1)
  clear hl hb hs1 hk0 h1
  go_enter Tryd.func13, Tryd.ntmps13
  go_wp2_with (first
    | (refine wpl_load_sec (by rfl) (.tmp 1) rfl w.heap.size rfl zs HK.out ?_)
    | (refine wpl_build_sec rfl (by rfl) ?_)
    | (refine wpl_eq_sec (.tmp 8) (.tmp 9) _ rfl zs z64 HL.out z64_length rfl rfl (by rfl) ?_; rw [HEQ.out])
    | (refine wpl_put_hd rfl (.tmp 2) (.tmp 11) rfl (w.heap.size + 1) noH noH HRB.out rfl rfl rfl ?_; intro wf HOF HGF))
  refine bodyPost_ret_by (results_row_tmp rfl _ _ (w.heap.size + 1) _ rfl HOF.out.load) rfl ⟨rfl, hbelow_grown HW.out HGF.out (by omega) HW.out.size⟩
set_option maxRecDepth 8000 in
set_option maxHeartbeats 8000000 in
theorem rdec_mark (zs : List Int) (hl : zs.length = 64) (hb : isB zs) (w : World) (h1 : ¬ zs = z64) (h2 : ¬ zs.take 5 = mark) :
    Calls Tryd.prog 13 #[.agg (sv zs)] w fun r w' => r = .returned (.tuple #[.agg (hv noH), .int .i64 2]) ∧ Below w.heap.size w w' := by
  obtain ⟨w0, hw0⟩ : ∃ q, (w.alloc (.cells (sv zs) 27)).alloc (.cells #[.int .u64 0, .int .i64 0, .int .i64 0, .int .i64 0, .int .i64 0, .int .i64 0, .int .i64 0] 25) = q := ⟨_, rfl⟩
  have hs1 : (w.alloc (.cells (sv zs) 27)).heap.size = w.heap.size + 1 := alloc_size w _
  have hk0 : Blk w0 w.heap.size zs := by rw [← hw0]; exact (Blk.new w zs hl).keep (balloc _ _)
  have HK := Lib.hid hk0
  have HRB := Lib.hid (show HB w0 (w.heap.size + 1) noH from by rw [← hw0, ← hs1]; exact HB.new _ noH rfl)
  have HW := Lib.hid (show Below w.heap.size w w0 from by rw [← hw0]; exact bch (balloc w _) (balloc _ _))
  have HSZ := Lib.hid (show w0.heap.size = w.heap.size + 2 from by rw [← hw0, alloc_size, hs1])
  have HL := Lib.hid hl
  have HZB := Lib.hid hb
  have HEQ := Lib.hid (show decide (zs = z64) = false from by simpa using h1)
  have c0 := hk0.cell 0 (by omega)
  have c1 := hk0.cell 1 (by omega)
  have c2 := hk0.cell 2 (by omega)
  have c3 := hk0.cell 3 (by omega)
  have c4 := hk0.cell 4 (by omega)
  obtain ⟨x0, hx0⟩ : ∃ x, zs.getD 0 0 = x := ⟨_, rfl⟩
  obtain ⟨x1, hx1⟩ : ∃ x, zs.getD 1 0 = x := ⟨_, rfl⟩
  obtain ⟨x2, hx2⟩ : ∃ x, zs.getD 2 0 = x := ⟨_, rfl⟩
  obtain ⟨x3, hx3⟩ : ∃ x, zs.getD 3 0 = x := ⟨_, rfl⟩
  obtain ⟨x4, hx4⟩ : ∃ x, zs.getD 4 0 = x := ⟨_, rfl⟩
  rw [hx0] at c0
  rw [hx1] at c1
  rw [hx2] at c2
  rw [hx3] at c3
  rw [hx4] at c4
  have hne : ¬ (x0 = 115 ∧ x1 = 116 ∧ x2 = 114 ∧ x3 = 100 ∧ x4 = 1) := fun ⟨g0, g1, g2, g3, g4⟩ => h2 (mark_of zs hl (hx0.trans g0) (hx1.trans g1) (hx2.trans g2) (hx3.trans g3) (hx4.trans g4))
  have hcase : (¬ x0 = 115) ∨ (x0 = 115 ∧ ¬ x1 = 116) ∨ (x0 = 115 ∧ x1 = 116 ∧ ¬ x2 = 114) ∨ (x0 = 115 ∧ x1 = 116 ∧ x2 = 114 ∧ ¬ x3 = 100) ∨ (x0 = 115 ∧ x1 = 116 ∧ x2 = 114 ∧ x3 = 100 ∧ ¬ x4 = 1) := by omega
  clear hne hx0 hx1 hx2 hx3 hx4
  clear hl hb hs1 hk0 h1 h2
  go_enter Tryd.func13, Tryd.ntmps13
  rcases hcase with h2 | ⟨rfl, h2⟩ | ⟨rfl, rfl, h2⟩ | ⟨rfl, rfl, rfl, h2⟩ | ⟨rfl, rfl, rfl, rfl, h2⟩
  all_goals
    go_wp2_with (first
      | (refine wpl_load_sec (by rfl) (.tmp 1) rfl w.heap.size rfl zs HK.out ?_)
      | (refine wpl_build_sec rfl (by rfl) ?_)
      | (refine wpl_eq_sec (.tmp 8) (.tmp 9) _ rfl zs z64 HL.out z64_length rfl rfl (by rfl) ?_; rw [HEQ.out]))
    go_loopw [4, 5] (fun v iv wr => ∃ i : Nat, iv = .int .i64 i ∧ i ≤ 64 ∧ v = .bool false ∧ wr = w0) (fun _ iv _ => 64 - (intOf iv).toNat)
    case atStart => exact ⟨41, rfl, by omega, congrArg Value.bool (by first | rfl | simp [h2]), rfl⟩
    case round =>
      obtain ⟨i, rfl, hi2, rfl, rfl⟩ := hrel
      by_cases hlt : i < 64
      · have hlt2 : (i : Int) < 64 := by omega
        go_wp2
        go_roundw
        case rel => exact ⟨i + 1, by go_num, by omega, rfl, trivial⟩
        case measure => simp [intOf]; omega
      · obtain rfl : i = 64 := by omega
        go_wp2_with (first
          | (refine wpl_put_hd rfl (.tmp 2) (.tmp 48) rfl (w.heap.size + 1) noH noH HRB.out rfl rfl rfl ?_; intro wf HOF HGF))
        refine bodyPost_ret_by (results_row_tmp rfl _ _ (w.heap.size + 1) _ rfl HOF.out.load) rfl ⟨rfl, hbelow_grown HW.out HGF.out (by omega) HW.out.size⟩
set_option maxRecDepth 8000 in
set_option maxHeartbeats 8000000 in
theorem rdec_rest (zs : List Int) (hl : zs.length = 64) (hb : isB zs) (w : World) (h1 : ¬ zs = z64) (h2 : zs.take 5 = mark) (h3 : ¬ zs.drop 41 = z23) :
    Calls Tryd.prog 13 #[.agg (sv zs)] w fun r w' => r = .returned (.tuple #[.agg (hv noH), .int .i64 2]) ∧ Below w.heap.size w w' := by
  obtain ⟨w0, hw0⟩ : ∃ q, (w.alloc (.cells (sv zs) 27)).alloc (.cells #[.int .u64 0, .int .i64 0, .int .i64 0, .int .i64 0, .int .i64 0, .int .i64 0, .int .i64 0] 25) = q := ⟨_, rfl⟩
  have hs1 : (w.alloc (.cells (sv zs) 27)).heap.size = w.heap.size + 1 := alloc_size w _
  have hk0 : Blk w0 w.heap.size zs := by rw [← hw0]; exact (Blk.new w zs hl).keep (balloc _ _)
  have HK := Lib.hid hk0
  have HRB := Lib.hid (show HB w0 (w.heap.size + 1) noH from by rw [← hw0, ← hs1]; exact HB.new _ noH rfl)
  have HW := Lib.hid (show Below w.heap.size w w0 from by rw [← hw0]; exact bch (balloc w _) (balloc _ _))
  have HSZ := Lib.hid (show w0.heap.size = w.heap.size + 2 from by rw [← hw0, alloc_size, hs1])
  have HL := Lib.hid hl
  have HZB := Lib.hid hb
  have HEQ := Lib.hid (show decide (zs = z64) = false from by simpa using h1)
  have c0 := hk0.cell 0 (by omega)
  have c1 := hk0.cell 1 (by omega)
  have c2 := hk0.cell 2 (by omega)
  have c3 := hk0.cell 3 (by omega)
  have c4 := hk0.cell 4 (by omega)
  obtain ⟨x0, hx0⟩ : ∃ x, zs.getD 0 0 = x := ⟨_, rfl⟩
  obtain ⟨x1, hx1⟩ : ∃ x, zs.getD 1 0 = x := ⟨_, rfl⟩
  obtain ⟨x2, hx2⟩ : ∃ x, zs.getD 2 0 = x := ⟨_, rfl⟩
  obtain ⟨x3, hx3⟩ : ∃ x, zs.getD 3 0 = x := ⟨_, rfl⟩
  obtain ⟨x4, hx4⟩ : ∃ x, zs.getD 4 0 = x := ⟨_, rfl⟩
  rw [hx0] at c0
  rw [hx1] at c1
  rw [hx2] at c2
  rw [hx3] at c3
  rw [hx4] at c4
  obtain rfl : x0 = 115 := by rw [← hx0]; exact mark_at h2 0 (by omega)
  obtain rfl : x1 = 116 := by rw [← hx1]; exact mark_at h2 1 (by omega)
  obtain rfl : x2 = 114 := by rw [← hx2]; exact mark_at h2 2 (by omega)
  obtain rfl : x3 = 100 := by rw [← hx3]; exact mark_at h2 3 (by omega)
  obtain rfl : x4 = 1 := by rw [← hx4]; exact mark_at h2 4 (by omega)
  clear hx0 hx1 hx2 hx3 hx4
  have HZA := Lib.hid (show zu zs 64 = false from by rw [zu_all zs hl]; simpa using h3)
  clear hl hb hs1 hk0 h1 h2 h3
  go_enter Tryd.func13, Tryd.ntmps13
  go_wp2_with (first
    | (refine wpl_load_sec (by rfl) (.tmp 1) rfl w.heap.size rfl zs HK.out ?_)
    | (refine wpl_build_sec rfl (by rfl) ?_)
    | (refine wpl_eq_sec (.tmp 8) (.tmp 9) _ rfl zs z64 HL.out z64_length rfl rfl (by rfl) ?_; rw [HEQ.out]))
  go_loopw [4, 5] (fun v iv wr => ∃ i : Nat, iv = .int .i64 i ∧ 41 ≤ i ∧ i ≤ 64 ∧ v = .bool (zu zs i) ∧ wr = w0) (fun _ iv _ => 64 - (intOf iv).toNat)
  case atStart => exact ⟨41, rfl, by omega, by omega, congrArg Value.bool (zu_zero zs).symm, rfl⟩
  case round =>
    obtain ⟨i, rfl, hi, hi2, rfl, rfl⟩ := hrel
    by_cases hlt : i < 64
    · have hci := HK.out.cell i hlt
      obtain ⟨x, hx⟩ : ∃ x, zs.getD i 0 = x := ⟨_, rfl⟩
      rw [hx] at hci
      have HZU := Lib.hid (zu_succ zs i hi (by rw [HL.out]; exact hlt))
      rw [hx] at HZU
      obtain ⟨b, hb⟩ : ∃ b, zu zs i = b := ⟨_, rfl⟩
      rw [hb] at HZU ⊢
      have hlt2 : (i : Int) < 64 := by omega
      clear hx hb
      cases b with
      | false =>
        go_wp2
        go_roundw
        case rel => exact ⟨i + 1, by go_num, by omega, by omega, congrArg Value.bool (by rw [HZU.out]; rfl), trivial⟩
        case measure => simp [intOf]; omega
      | true =>
        go_wp2
        go_roundw
        case rel => exact ⟨i + 1, by go_num, by omega, by omega, congrArg Value.bool (by rw [HZU.out, Bool.true_and]), trivial⟩
        case measure => simp [intOf]; omega
    · obtain rfl : i = 64 := by omega
      rw [HZA.out]
      go_wp2_with (first
        | (refine wpl_put_hd rfl (.tmp 2) (.tmp 48) rfl (w.heap.size + 1) noH noH HRB.out rfl rfl rfl ?_; intro wf HOF HGF))
      refine bodyPost_ret_by (results_row_tmp rfl _ _ (w.heap.size + 1) _ rfl HOF.out.load) rfl ⟨rfl, hbelow_grown HW.out HGF.out (by omega) HW.out.size⟩
set_option maxRecDepth 8000 in
set_option maxHeartbeats 8000000 in
theorem rdec_sum (zs : List Int) (hl : zs.length = 64) (hb : isB zs) (w : World) (h1 : ¬ zs = z64) (h2 : zs.take 5 = mark) (h3 : zs.drop 41 = z23) (h4 : ¬ (zs.drop 37).take 4 = putL (maskS (ofS (zs.take 37))) 4) :
    Calls Tryd.prog 13 #[.agg (sv zs)] w fun r w' => r = .returned (.tuple #[.agg (hv noH), .int .i64 3]) ∧ Below w.heap.size w w' := by
  obtain ⟨w0, hw0⟩ : ∃ q, (w.alloc (.cells (sv zs) 27)).alloc (.cells #[.int .u64 0, .int .i64 0, .int .i64 0, .int .i64 0, .int .i64 0, .int .i64 0, .int .i64 0] 25) = q := ⟨_, rfl⟩
  have hs1 : (w.alloc (.cells (sv zs) 27)).heap.size = w.heap.size + 1 := alloc_size w _
  have hk0 : Blk w0 w.heap.size zs := by rw [← hw0]; exact (Blk.new w zs hl).keep (balloc _ _)
  have HK := Lib.hid hk0
  have HRB := Lib.hid (show HB w0 (w.heap.size + 1) noH from by rw [← hw0, ← hs1]; exact HB.new _ noH rfl)
  have HW := Lib.hid (show Below w.heap.size w w0 from by rw [← hw0]; exact bch (balloc w _) (balloc _ _))
  have HSZ := Lib.hid (show w0.heap.size = w.heap.size + 2 from by rw [← hw0, alloc_size, hs1])
  have HL := Lib.hid hl
  have HZB := Lib.hid hb
  have HEQ := Lib.hid (show decide (zs = z64) = false from by simpa using h1)
  have c0 := hk0.cell 0 (by omega)
  have c1 := hk0.cell 1 (by omega)
  have c2 := hk0.cell 2 (by omega)
  have c3 := hk0.cell 3 (by omega)
  have c4 := hk0.cell 4 (by omega)
  obtain ⟨x0, hx0⟩ : ∃ x, zs.getD 0 0 = x := ⟨_, rfl⟩
  obtain ⟨x1, hx1⟩ : ∃ x, zs.getD 1 0 = x := ⟨_, rfl⟩
  obtain ⟨x2, hx2⟩ : ∃ x, zs.getD 2 0 = x := ⟨_, rfl⟩
  obtain ⟨x3, hx3⟩ : ∃ x, zs.getD 3 0 = x := ⟨_, rfl⟩
  obtain ⟨x4, hx4⟩ : ∃ x, zs.getD 4 0 = x := ⟨_, rfl⟩
  rw [hx0] at c0
  rw [hx1] at c1
  rw [hx2] at c2
  rw [hx3] at c3
  rw [hx4] at c4
  obtain rfl : x0 = 115 := by rw [← hx0]; exact mark_at h2 0 (by omega)
  obtain rfl : x1 = 116 := by rw [← hx1]; exact mark_at h2 1 (by omega)
  obtain rfl : x2 = 114 := by rw [← hx2]; exact mark_at h2 2 (by omega)
  obtain rfl : x3 = 100 := by rw [← hx3]; exact mark_at h2 3 (by omega)
  obtain rfl : x4 = 1 := by rw [← hx4]; exact mark_at h2 4 (by omega)
  clear hx0 hx1 hx2 hx3 hx4
  have HZA := Lib.hid (show zu zs 64 = true from by rw [zu_all zs hl]; simpa using h3)
  obtain ⟨o, ho⟩ : ∃ o, ofS (zs.take 37) = o := ⟨_, rfl⟩
  obtain ⟨m, hm⟩ : ∃ m, maskS o = m := ⟨_, rfl⟩
  rw [ho, hm] at h4
  have hm9 : m < 4294967296 := by rw [← hm]; exact maskS_lt o
  have HWM := Lib.hid (show IntKind.u64.wrap (m : Int) = (m : Int) from IntWalk.u64_in _ (by omega))
  have HOF := Lib.hid (show ∀ w', Blk w' w.heap.size zs → Calls Tryd.prog 21 #[.slice (some ⟨w.heap.size, 0, none⟩) 37 64] w' fun e w'' => e = .returned (.int .u32 o) ∧ w' = w'' from fun w' hk => rof_any (by have := hk.ri 0 37 64 (by omega) (by omega) (by omega); rwa [List.drop_zero] at this) (hb.take 37) ho)
  have HMK := Lib.hid (show ∀ w', Calls Tryd.prog 20 #[.int .u32 o] w' fun e w'' => e = .returned (.int .u32 m) ∧ w' = w'' from fun w' => rmask_at o m (by rw [← ho]; exact ofS_lt _) hm w')
  obtain ⟨n, hn⟩ : ∃ n, num zs 37 4 = n := ⟨_, rfl⟩
  have hnm : (n != (m : Int)) = true := by rw [← hn]; simpa using fun e => h4 ((num_sum hb (by omega) m hm9).1 e)
  have HG37 := Lib.hid (show ∀ w', Blk w' w.heap.size zs → Calls Tryd.prog 22 #[.slice (some ⟨w.heap.size, 37, none⟩) 4 27] w' fun e w'' => e = .returned (.int .u64 n) ∧ Below w'.heap.size w' w'' from fun w' hk => sec_rget w.heap.size 37 4 zs w' hk hb (by omega) (by omega) (by omega) hn)
  clear ho hm hn hm9
  clear hl hb hs1 hk0 h1 h2 h3 h4
  go_enter Tryd.func13, Tryd.ntmps13
  go_wp2_with (first
    | (refine wpl_load_sec (by rfl) (.tmp 1) rfl w.heap.size rfl zs HK.out ?_)
    | (refine wpl_build_sec rfl (by rfl) ?_)
    | (refine wpl_eq_sec (.tmp 8) (.tmp 9) _ rfl zs z64 HL.out z64_length rfl rfl (by rfl) ?_; rw [HEQ.out]))
  go_loopw [4, 5] (fun v iv wr => ∃ i : Nat, iv = .int .i64 i ∧ 41 ≤ i ∧ i ≤ 64 ∧ v = .bool (zu zs i) ∧ wr = w0) (fun _ iv _ => 64 - (intOf iv).toNat)
  case atStart => exact ⟨41, rfl, by omega, by omega, congrArg Value.bool (zu_zero zs).symm, rfl⟩
  case round =>
    obtain ⟨i, rfl, hi, hi2, rfl, rfl⟩ := hrel
    by_cases hlt : i < 64
    · have hci := HK.out.cell i hlt
      obtain ⟨x, hx⟩ : ∃ x, zs.getD i 0 = x := ⟨_, rfl⟩
      rw [hx] at hci
      have HZU := Lib.hid (zu_succ zs i hi (by rw [HL.out]; exact hlt))
      rw [hx] at HZU
      obtain ⟨b, hb⟩ : ∃ b, zu zs i = b := ⟨_, rfl⟩
      rw [hb] at HZU ⊢
      have hlt2 : (i : Int) < 64 := by omega
      clear hx hb
      cases b with
      | false =>
        go_wp2
        go_roundw
        case rel => exact ⟨i + 1, by go_num, by omega, by omega, congrArg Value.bool (by rw [HZU.out]; rfl), trivial⟩
        case measure => simp [intOf]; omega
      | true =>
        go_wp2
        go_roundw
        case rel => exact ⟨i + 1, by go_num, by omega, by omega, congrArg Value.bool (by rw [HZU.out, Bool.true_and]), trivial⟩
        case measure => simp [intOf]; omega
    · obtain rfl : i = 64 := by omega
      rw [HZA.out]
      go_wp2_with fail
      refine wp_region_held_drew (S := (fun w' => Blk w' w.heap.size zs ∧ HB w' (w.heap.size + 1) noH ∧ Below w.heap.size w w')) (by kernel_rfl) ⟨HK.out, HRB.out, HW.out.drew⟩ (fun hS => ?_)
      refine wpAnyH_take (i := 0) (oi := ({ dst := some 49, op := Op.slice 27 (Operand.tmp 1) (some (Operand.const (Value.int IntKind.i64 37))) (some (Operand.const (Value.int IntKind.i64 41))) none, type := 42, pos := "ref.go:47", after := #[], guard := none } : Oper)) (v := ?_) rfl (by kernel_rfl) (by kernel_rfl) (by kernel_rfl) (fun _ _ _ h => h) (Or.inl ⟨by rfl, ?_⟩) hS ?_
      rotate_left
      · (intro w hSw; (try dsimp only at hSw); go_simp; try with_reducible rfl)
      (try simp only [Act.put, List.setIfInBounds_toArray, List.set_cons_zero, List.set_cons_succ])
      refine wpAnyH_take (i := 2) (oi := ({ dst := some 51, op := Op.slice 27 (Operand.tmp 1) none (some (Operand.const (Value.int IntKind.i64 37))) none, type := 42, pos := "ref.go:47", after := #[], guard := none } : Oper)) (v := ?_) rfl (by kernel_rfl) (by kernel_rfl) (by kernel_rfl) (fun _ _ _ h => h) (Or.inl ⟨by rfl, ?_⟩) hS ?_
      rotate_left
      · (intro w hSw; (try dsimp only at hSw); go_simp; try with_reducible rfl)
      (try simp only [Act.put, List.setIfInBounds_toArray, List.set_cons_zero, List.set_cons_succ])
      refine rg_one 1 ({ dst := some 50, op := Op.call { callee := Callee.value (Operand.func 22), args := #[Operand.tmp 49], argTypes := #[42] }, type := 22, pos := "ref.go:47", after := #[{ on := 0, ground := Ground.data }], guard := none } : Oper) (by kernel_rfl) rfl (fun K hK => ?_)
      go_simp
      (go_at_call 22; (refine (HG37.out _ hS.1).mono ?_); rintro r w3 ⟨rfl, hb⟩)
      refine hK.out _ _ ?_ (fun hS1 => ?_)
      · (first | exact hS | exact ⟨hS.1.keep hb, hS.2.1.keep hb, bch hS.2.2 hb⟩)
      clear hK K hS; have hS := hS1; clear hS1
      (try simp only [Act.put, List.setIfInBounds_toArray, List.set_cons_zero, List.set_cons_succ])
      refine rg_one 3 ({ dst := some 52, op := Op.call { callee := Callee.value (Operand.func 21), args := #[Operand.tmp 51], argTypes := #[42] }, type := 49, pos := "ref.go:47", after := #[{ on := 2, ground := Ground.data }, { on := 1, ground := Ground.chain }], guard := none } : Oper) (by kernel_rfl) rfl (fun K hK => ?_)
      go_simp
      (go_at_call 21; (refine (HOF.out _ hS.1).mono ?_); rintro r w4 ⟨rfl, rfl⟩)
      refine hK.out _ _ ?_ (fun hS1 => ?_)
      · (first | exact hS | exact ⟨hS.1.keep hb, hS.2.1.keep hb, bch hS.2.2 hb⟩)
      clear hK K hS; have hS := hS1; clear hS1
      (try simp only [Act.put, List.setIfInBounds_toArray, List.set_cons_zero, List.set_cons_succ])
      refine rg_one 4 ({ dst := some 53, op := Op.call { callee := Callee.value (Operand.func 20), args := #[Operand.tmp 52], argTypes := #[49] }, type := 49, pos := "ref.go:47", after := #[{ on := 3, ground := Ground.data }, { on := 3, ground := Ground.chain }], guard := none } : Oper) (by kernel_rfl) rfl (fun K hK => ?_)
      go_simp
      (go_at_call 20; (refine (HMK.out _).mono ?_); rintro r w5 ⟨rfl, rfl⟩)
      refine hK.out _ _ ?_ (fun hS1 => ?_)
      · (first | exact hS | exact ⟨hS.1.keep hb, hS.2.1.keep hb, bch hS.2.2 hb⟩)
      clear hK K hS; have hS := hS1; clear hS1
      (try simp only [Act.put, List.setIfInBounds_toArray, List.set_cons_zero, List.set_cons_succ])
      refine wpAnyH_take (i := 5) (oi := ({ dst := some 54, op := Op.convert 49 22 (Operand.tmp 53), type := 22, pos := "ref.go:47", after := #[{ on := 4, ground := Ground.data }], guard := none } : Oper)) (v := .int .u64 m) rfl (by kernel_rfl) (by kernel_rfl) (by kernel_rfl) (fun _ _ _ h => h) (Or.inl ⟨by rfl, ?_⟩) hS ?_
      · (intro w hSw; (try dsimp only at hSw); have z := HWM.out; go_simp; (try exact z))
      (try simp only [Act.put, List.setIfInBounds_toArray, List.set_cons_zero, List.set_cons_succ])
      refine wpAnyH_take (i := 6) (oi := ({ dst := some 55, op := Op.binOp BinOp.neq 22 (Operand.tmp 50) (Operand.tmp 54) 22, type := 4, pos := "ref.go:47", after := #[{ on := 1, ground := Ground.data }, { on := 5, ground := Ground.data }], guard := none } : Oper)) (v := .bool true) rfl (by kernel_rfl) (by kernel_rfl) (by kernel_rfl) (fun _ _ _ h => h) (Or.inl ⟨by rfl, ?_⟩) hS ?_
      · (intro w hSw; (try dsimp only at hSw); go_simp)
      (try simp only [Act.put, List.setIfInBounds_toArray, List.set_cons_zero, List.set_cons_succ])
      refine wpAnyH_done (by kernel_rfl) ?_ _
      have HK3 := Lib.hid hS.1
      have HRB3 := Lib.hid hS.2.1
      have HW3 := Lib.hid hS.2.2
      clear hS
      go_wp2_with (first
        | (refine wpl_put_hd rfl (.tmp 2) (.tmp 56) rfl (w.heap.size + 1) noH noH HRB3.out rfl rfl rfl ?_; intro wf HOF HGF))
      refine bodyPost_ret_by (results_row_tmp rfl _ _ (w.heap.size + 1) _ rfl HOF.out.load) rfl ⟨rfl, hbelow_grown HW3.out HGF.out (by omega) HW3.out.size⟩
set_option maxRecDepth 8000 in
set_option maxHeartbeats 8000000 in
theorem rdec_wrong (zs : List Int) (hl : zs.length = 64) (hb : isB zs) (w : World) (h1 : ¬ zs = z64) (h2 : zs.take 5 = mark) (h3 : zs.drop 41 = z23) (h4 : (zs.drop 37).take 4 = putL (maskS (ofS (zs.take 37))) 4) (h5 : hdOk (readH zs) = false) :
    Calls Tryd.prog 13 #[.agg (sv zs)] w fun r w' => r = .returned (.tuple #[.agg (hv noH), .int .i64 2]) ∧ Below w.heap.size w w' := by
  obtain ⟨w0, hw0⟩ : ∃ q, (w.alloc (.cells (sv zs) 27)).alloc (.cells #[.int .u64 0, .int .i64 0, .int .i64 0, .int .i64 0, .int .i64 0, .int .i64 0, .int .i64 0] 25) = q := ⟨_, rfl⟩
  have hs1 : (w.alloc (.cells (sv zs) 27)).heap.size = w.heap.size + 1 := alloc_size w _
  have hk0 : Blk w0 w.heap.size zs := by rw [← hw0]; exact (Blk.new w zs hl).keep (balloc _ _)
  have HK := Lib.hid hk0
  have HRB := Lib.hid (show HB w0 (w.heap.size + 1) noH from by rw [← hw0, ← hs1]; exact HB.new _ noH rfl)
  have HW := Lib.hid (show Below w.heap.size w w0 from by rw [← hw0]; exact bch (balloc w _) (balloc _ _))
  have HSZ := Lib.hid (show w0.heap.size = w.heap.size + 2 from by rw [← hw0, alloc_size, hs1])
  have HL := Lib.hid hl
  have HZB := Lib.hid hb
  have HEQ := Lib.hid (show decide (zs = z64) = false from by simpa using h1)
  have c0 := hk0.cell 0 (by omega)
  have c1 := hk0.cell 1 (by omega)
  have c2 := hk0.cell 2 (by omega)
  have c3 := hk0.cell 3 (by omega)
  have c4 := hk0.cell 4 (by omega)
  obtain ⟨x0, hx0⟩ : ∃ x, zs.getD 0 0 = x := ⟨_, rfl⟩
  obtain ⟨x1, hx1⟩ : ∃ x, zs.getD 1 0 = x := ⟨_, rfl⟩
  obtain ⟨x2, hx2⟩ : ∃ x, zs.getD 2 0 = x := ⟨_, rfl⟩
  obtain ⟨x3, hx3⟩ : ∃ x, zs.getD 3 0 = x := ⟨_, rfl⟩
  obtain ⟨x4, hx4⟩ : ∃ x, zs.getD 4 0 = x := ⟨_, rfl⟩
  rw [hx0] at c0
  rw [hx1] at c1
  rw [hx2] at c2
  rw [hx3] at c3
  rw [hx4] at c4
  obtain rfl : x0 = 115 := by rw [← hx0]; exact mark_at h2 0 (by omega)
  obtain rfl : x1 = 116 := by rw [← hx1]; exact mark_at h2 1 (by omega)
  obtain rfl : x2 = 114 := by rw [← hx2]; exact mark_at h2 2 (by omega)
  obtain rfl : x3 = 100 := by rw [← hx3]; exact mark_at h2 3 (by omega)
  obtain rfl : x4 = 1 := by rw [← hx4]; exact mark_at h2 4 (by omega)
  clear hx0 hx1 hx2 hx3 hx4
  have HZA := Lib.hid (show zu zs 64 = true from by rw [zu_all zs hl]; simpa using h3)
  obtain ⟨o, ho⟩ : ∃ o, ofS (zs.take 37) = o := ⟨_, rfl⟩
  obtain ⟨m, hm⟩ : ∃ m, maskS o = m := ⟨_, rfl⟩
  rw [ho, hm] at h4
  have hm9 : m < 4294967296 := by rw [← hm]; exact maskS_lt o
  have HWM := Lib.hid (show IntKind.u64.wrap (m : Int) = (m : Int) from IntWalk.u64_in _ (by omega))
  have HOF := Lib.hid (show ∀ w', Blk w' w.heap.size zs → Calls Tryd.prog 21 #[.slice (some ⟨w.heap.size, 0, none⟩) 37 64] w' fun e w'' => e = .returned (.int .u32 o) ∧ w' = w'' from fun w' hk => rof_any (by have := hk.ri 0 37 64 (by omega) (by omega) (by omega); rwa [List.drop_zero] at this) (hb.take 37) ho)
  have HMK := Lib.hid (show ∀ w', Calls Tryd.prog 20 #[.int .u32 o] w' fun e w'' => e = .returned (.int .u32 m) ∧ w' = w'' from fun w' => rmask_at o m (by rw [← ho]; exact ofS_lt _) hm w')
  have HG37 := Lib.hid (show ∀ w', Blk w' w.heap.size zs → Calls Tryd.prog 22 #[.slice (some ⟨w.heap.size, 37, none⟩) 4 27] w' fun e w'' => e = .returned (.int .u64 m) ∧ Below w'.heap.size w' w'' from fun w' hk => sec_rget w.heap.size 37 4 zs w' hk hb (by omega) (by omega) (by omega) ((num_sum hb (by omega) m hm9).2 h4))
  clear ho hm hm9
  obtain ⟨e0, he0⟩ : ∃ x, num zs 5 8 = x := ⟨_, rfl⟩
  obtain ⟨s0, hs0⟩ : ∃ x, num zs 13 4 = x := ⟨_, rfl⟩
  obtain ⟨f0, hf0⟩ : ∃ x, num zs 17 4 = x := ⟨_, rfl⟩
  have hbd : (0 ≤ e0 ∧ e0 < 2 ^ (8 * 8)) ∧ (0 ≤ s0 ∧ s0 < 4294967296) ∧ (0 ≤ f0 ∧ f0 < 4294967296) := by rw [← he0, ← hs0, ← hf0]; exact ⟨num_bd hb 5 8, num_bd hb 13 4, num_bd hb 17 4⟩
  have HWS := Lib.hid (show IntKind.i64.wrap s0 = s0 from IntWalk.i64_in _ (by have := hbd.2.1; omega))
  have HWF := Lib.hid (show IntKind.i64.wrap f0 = f0 from IntWalk.i64_in _ (by have := hbd.2.2; omega))
  have HE := Lib.hid (show (⟨e0, s0, f0, [num zs 21 4, num zs 25 4, num zs 29 4, num zs 33 4]⟩ : Hdr) = readH zs from by rw [← he0, ← hs0, ← hf0]; rfl)
  have HG5 := Lib.hid (show ∀ w', Blk w' w.heap.size zs → Calls Tryd.prog 22 #[.slice (some ⟨w.heap.size, 5, none⟩) 8 59] w' fun e w'' => e = .returned (.int .u64 e0) ∧ Below w'.heap.size w' w'' from fun w' hk => sec_rget w.heap.size 5 8 zs w' hk hb (by omega) (by omega) (by omega) he0)
  have HG13 := Lib.hid (show ∀ w', Blk w' w.heap.size zs → Calls Tryd.prog 22 #[.slice (some ⟨w.heap.size, 13, none⟩) 4 51] w' fun e w'' => e = .returned (.int .u64 s0) ∧ Below w'.heap.size w' w'' from fun w' hk => sec_rget w.heap.size 13 4 zs w' hk hb (by omega) (by omega) (by omega) hs0)
  have HG17 := Lib.hid (show ∀ w', Blk w' w.heap.size zs → Calls Tryd.prog 22 #[.slice (some ⟨w.heap.size, 17, none⟩) 4 47] w' fun e w'' => e = .returned (.int .u64 f0) ∧ Below w'.heap.size w' w'' from fun w' hk => sec_rget w.heap.size 17 4 zs w' hk hb (by omega) (by omega) (by omega) hf0)
  have HOK : Hid (∀ w, Calls Tryd.prog 8 #[.agg (hv (readH zs))] w fun r w' => r = .returned (.bool false) ∧ Below w.heap.size w w') := Lib.hid fun w => by rw [← h5]; exact rright_any _ (readH_typed hb) w
  clear he0 hs0 hf0 hbd
  clear hl hb hs1 hk0 h1 h2 h3 h4 h5
  go_enter Tryd.func13, Tryd.ntmps13
  go_wp2_with (first
    | (refine wpl_load_sec (by rfl) (.tmp 1) rfl w.heap.size rfl zs HK.out ?_)
    | (refine wpl_build_sec rfl (by rfl) ?_)
    | (refine wpl_eq_sec (.tmp 8) (.tmp 9) _ rfl zs z64 HL.out z64_length rfl rfl (by rfl) ?_; rw [HEQ.out]))
  go_loopw [4, 5] (fun v iv wr => ∃ i : Nat, iv = .int .i64 i ∧ 41 ≤ i ∧ i ≤ 64 ∧ v = .bool (zu zs i) ∧ wr = w0) (fun _ iv _ => 64 - (intOf iv).toNat)
  case atStart => exact ⟨41, rfl, by omega, by omega, congrArg Value.bool (zu_zero zs).symm, rfl⟩
  case round =>
    obtain ⟨i, rfl, hi, hi2, rfl, rfl⟩ := hrel
    by_cases hlt : i < 64
    · have hci := HK.out.cell i hlt
      obtain ⟨x, hx⟩ : ∃ x, zs.getD i 0 = x := ⟨_, rfl⟩
      rw [hx] at hci
      have HZU := Lib.hid (zu_succ zs i hi (by rw [HL.out]; exact hlt))
      rw [hx] at HZU
      obtain ⟨b, hb⟩ : ∃ b, zu zs i = b := ⟨_, rfl⟩
      rw [hb] at HZU ⊢
      have hlt2 : (i : Int) < 64 := by omega
      clear hx hb
      cases b with
      | false =>
        go_wp2
        go_roundw
        case rel => exact ⟨i + 1, by go_num, by omega, by omega, congrArg Value.bool (by rw [HZU.out]; rfl), trivial⟩
        case measure => simp [intOf]; omega
      | true =>
        go_wp2
        go_roundw
        case rel => exact ⟨i + 1, by go_num, by omega, by omega, congrArg Value.bool (by rw [HZU.out, Bool.true_and]), trivial⟩
        case measure => simp [intOf]; omega
    · obtain rfl : i = 64 := by omega
      rw [HZA.out]
      go_wp2_with fail
      refine wp_region_held_drew (S := (fun w' => Blk w' w.heap.size zs ∧ HB w' (w.heap.size + 1) noH ∧ Below w.heap.size w w' ∧ w.heap.size + 2 ≤ w'.heap.size)) (by kernel_rfl) ⟨HK.out, HRB.out, HW.out.drew, Nat.le_of_eq HSZ.out.symm⟩ (fun hS => ?_)
      refine wpAnyH_take (i := 0) (oi := ({ dst := some 49, op := Op.slice 27 (Operand.tmp 1) (some (Operand.const (Value.int IntKind.i64 37))) (some (Operand.const (Value.int IntKind.i64 41))) none, type := 42, pos := "ref.go:47", after := #[], guard := none } : Oper)) (v := ?_) rfl (by kernel_rfl) (by kernel_rfl) (by kernel_rfl) (fun _ _ _ h => h) (Or.inl ⟨by rfl, ?_⟩) hS ?_
      rotate_left
      · (intro w hSw; (try dsimp only at hSw); go_simp; try with_reducible rfl)
      (try simp only [Act.put, List.setIfInBounds_toArray, List.set_cons_zero, List.set_cons_succ])
      refine wpAnyH_take (i := 2) (oi := ({ dst := some 51, op := Op.slice 27 (Operand.tmp 1) none (some (Operand.const (Value.int IntKind.i64 37))) none, type := 42, pos := "ref.go:47", after := #[], guard := none } : Oper)) (v := ?_) rfl (by kernel_rfl) (by kernel_rfl) (by kernel_rfl) (fun _ _ _ h => h) (Or.inl ⟨by rfl, ?_⟩) hS ?_
      rotate_left
      · (intro w hSw; (try dsimp only at hSw); go_simp; try with_reducible rfl)
      (try simp only [Act.put, List.setIfInBounds_toArray, List.set_cons_zero, List.set_cons_succ])
      refine rg_one 1 ({ dst := some 50, op := Op.call { callee := Callee.value (Operand.func 22), args := #[Operand.tmp 49], argTypes := #[42] }, type := 22, pos := "ref.go:47", after := #[{ on := 0, ground := Ground.data }], guard := none } : Oper) (by kernel_rfl) rfl (fun K hK => ?_)
      go_simp
      (go_at_call 22; (refine (HG37.out _ hS.1).mono ?_); rintro r w3 ⟨rfl, hb⟩)
      refine hK.out _ _ ?_ (fun hS1 => ?_)
      · (first | exact hS | exact ⟨hS.1.keep hb, hS.2.1.keep hb, bch hS.2.2.1 hb, Nat.le_trans hS.2.2.2 hb.size⟩)
      clear hK K hS; have hS := hS1; clear hS1
      (try simp only [Act.put, List.setIfInBounds_toArray, List.set_cons_zero, List.set_cons_succ])
      refine rg_one 3 ({ dst := some 52, op := Op.call { callee := Callee.value (Operand.func 21), args := #[Operand.tmp 51], argTypes := #[42] }, type := 49, pos := "ref.go:47", after := #[{ on := 2, ground := Ground.data }, { on := 1, ground := Ground.chain }], guard := none } : Oper) (by kernel_rfl) rfl (fun K hK => ?_)
      go_simp
      (go_at_call 21; (refine (HOF.out _ hS.1).mono ?_); rintro r w4 ⟨rfl, rfl⟩)
      refine hK.out _ _ ?_ (fun hS1 => ?_)
      · (first | exact hS | exact ⟨hS.1.keep hb, hS.2.1.keep hb, bch hS.2.2.1 hb, Nat.le_trans hS.2.2.2 hb.size⟩)
      clear hK K hS; have hS := hS1; clear hS1
      (try simp only [Act.put, List.setIfInBounds_toArray, List.set_cons_zero, List.set_cons_succ])
      refine rg_one 4 ({ dst := some 53, op := Op.call { callee := Callee.value (Operand.func 20), args := #[Operand.tmp 52], argTypes := #[49] }, type := 49, pos := "ref.go:47", after := #[{ on := 3, ground := Ground.data }, { on := 3, ground := Ground.chain }], guard := none } : Oper) (by kernel_rfl) rfl (fun K hK => ?_)
      go_simp
      (go_at_call 20; (refine (HMK.out _).mono ?_); rintro r w5 ⟨rfl, rfl⟩)
      refine hK.out _ _ ?_ (fun hS1 => ?_)
      · (first | exact hS | exact ⟨hS.1.keep hb, hS.2.1.keep hb, bch hS.2.2.1 hb, Nat.le_trans hS.2.2.2 hb.size⟩)
      clear hK K hS; have hS := hS1; clear hS1
      (try simp only [Act.put, List.setIfInBounds_toArray, List.set_cons_zero, List.set_cons_succ])
      refine wpAnyH_take (i := 5) (oi := ({ dst := some 54, op := Op.convert 49 22 (Operand.tmp 53), type := 22, pos := "ref.go:47", after := #[{ on := 4, ground := Ground.data }], guard := none } : Oper)) (v := .int .u64 m) rfl (by kernel_rfl) (by kernel_rfl) (by kernel_rfl) (fun _ _ _ h => h) (Or.inl ⟨by rfl, ?_⟩) hS ?_
      · (intro w hSw; (try dsimp only at hSw); have z := HWM.out; go_simp; (try exact z))
      (try simp only [Act.put, List.setIfInBounds_toArray, List.set_cons_zero, List.set_cons_succ])
      refine wpAnyH_take (i := 6) (oi := ({ dst := some 55, op := Op.binOp BinOp.neq 22 (Operand.tmp 50) (Operand.tmp 54) 22, type := 4, pos := "ref.go:47", after := #[{ on := 1, ground := Ground.data }, { on := 5, ground := Ground.data }], guard := none } : Oper)) (v := .bool false) rfl (by kernel_rfl) (by kernel_rfl) (by kernel_rfl) (fun _ _ _ h => h) (Or.inl ⟨by rfl, ?_⟩) hS ?_
      · (intro w hSw; (try dsimp only at hSw); go_simp)
      (try simp only [Act.put, List.setIfInBounds_toArray, List.set_cons_zero, List.set_cons_succ])
      refine wpAnyH_done (by kernel_rfl) ?_ _
      have HK3 := Lib.hid hS.1
      have HRB3 := Lib.hid hS.2.1
      have HW3 := Lib.hid hS.2.2.1
      have HZ3 := Lib.hid hS.2.2.2
      clear hS
      go_wp2_with fail
      refine wp_region_held_drew (S := (fun w' => Blk w' w.heap.size zs ∧ HB w' (w.heap.size + 1) noH ∧ Below w.heap.size w w' ∧ w.heap.size + 2 ≤ w'.heap.size)) (by kernel_rfl) ⟨HK3.out, HRB3.out, HW3.out.drew, HZ3.out⟩ (fun hS => ?_)
      refine wpAnyH_take (i := 0) (oi := ({ dst := some 57, op := Op.slice 27 (Operand.tmp 1) (some (Operand.const (Value.int IntKind.i64 5))) (some (Operand.const (Value.int IntKind.i64 13))) none, type := 42, pos := "ref.go:50", after := #[], guard := none } : Oper)) (v := ?_) rfl (by kernel_rfl) (by kernel_rfl) (by kernel_rfl) (fun _ _ _ h => h) (Or.inl ⟨by rfl, ?_⟩) hS ?_
      rotate_left
      · (intro w hSw; (try dsimp only at hSw); go_simp; try with_reducible rfl)
      (try simp only [Act.put, List.setIfInBounds_toArray, List.set_cons_zero, List.set_cons_succ])
      refine wpAnyH_take (i := 2) (oi := ({ dst := some 59, op := Op.slice 27 (Operand.tmp 1) (some (Operand.const (Value.int IntKind.i64 13))) (some (Operand.const (Value.int IntKind.i64 17))) none, type := 42, pos := "ref.go:50", after := #[], guard := none } : Oper)) (v := ?_) rfl (by kernel_rfl) (by kernel_rfl) (by kernel_rfl) (fun _ _ _ h => h) (Or.inl ⟨by rfl, ?_⟩) hS ?_
      rotate_left
      · (intro w hSw; (try dsimp only at hSw); go_simp; try with_reducible rfl)
      (try simp only [Act.put, List.setIfInBounds_toArray, List.set_cons_zero, List.set_cons_succ])
      refine wpAnyH_take (i := 5) (oi := ({ dst := some 62, op := Op.slice 27 (Operand.tmp 1) (some (Operand.const (Value.int IntKind.i64 17))) (some (Operand.const (Value.int IntKind.i64 21))) none, type := 42, pos := "ref.go:50", after := #[], guard := none } : Oper)) (v := ?_) rfl (by kernel_rfl) (by kernel_rfl) (by kernel_rfl) (fun _ _ _ h => h) (Or.inl ⟨by rfl, ?_⟩) hS ?_
      rotate_left
      · (intro w hSw; (try dsimp only at hSw); go_simp; try with_reducible rfl)
      (try simp only [Act.put, List.setIfInBounds_toArray, List.set_cons_zero, List.set_cons_succ])
      refine rg_both 1 9 ({ dst := some 58, op := Op.call { callee := Callee.value (Operand.func 22), args := #[Operand.tmp 57], argTypes := #[42] }, type := 22, pos := "ref.go:50", after := #[{ on := 0, ground := Ground.data }], guard := none } : Oper) ({ dst := some 6, op := Op.alloc 25, type := 0, pos := "ref.go:50", after := #[], guard := none } : Oper) (by kernel_rfl) rfl rfl (fun K hK => ?_) (fun K hK => ?_)
      · skip
        go_simp
        (go_at_call 22; (refine (HG5.out _ hS.1).mono ?_); rintro r w4 ⟨rfl, hb⟩; (try (have q := Lib.hid (HA.out.keep hb); clear HA; have HA := q; clear q)))
        refine hK.out _ _ ?_ (fun hS1 => ?_)
        · (first | exact hS | exact hN | exact ⟨hS.1.keep hb, hS.2.1.keep hb, bch hS.2.2.1 hb, Nat.le_trans hS.2.2.2 hb.size⟩)
        clear hK K hS; have hS := hS1; clear hS1
        (try simp only [Act.put, List.setIfInBounds_toArray, List.set_cons_zero, List.set_cons_succ])
        refine rg_both 3 9 ({ dst := some 60, op := Op.call { callee := Callee.value (Operand.func 22), args := #[Operand.tmp 59], argTypes := #[42] }, type := 22, pos := "ref.go:50", after := #[{ on := 2, ground := Ground.data }, { on := 1, ground := Ground.chain }], guard := none } : Oper) ({ dst := some 6, op := Op.alloc 25, type := 0, pos := "ref.go:50", after := #[], guard := none } : Oper) (by kernel_rfl) rfl rfl (fun K hK => ?_) (fun K hK => ?_)
        · skip
          go_simp
          (go_at_call 22; (refine (HG13.out _ hS.1).mono ?_); rintro r w5 ⟨rfl, hb⟩; (try (have q := Lib.hid (HA.out.keep hb); clear HA; have HA := q; clear q)))
          refine hK.out _ _ ?_ (fun hS1 => ?_)
          · (first | exact hS | exact hN | exact ⟨hS.1.keep hb, hS.2.1.keep hb, bch hS.2.2.1 hb, Nat.le_trans hS.2.2.2 hb.size⟩)
          clear hK K hS; have hS := hS1; clear hS1
          (try simp only [Act.put, List.setIfInBounds_toArray, List.set_cons_zero, List.set_cons_succ])
          refine wpAnyH_take (i := 4) (oi := ({ dst := some 61, op := Op.convert 22 3 (Operand.tmp 60), type := 3, pos := "ref.go:50", after := #[{ on := 3, ground := Ground.data }], guard := none } : Oper)) (v := .int .i64 s0) rfl (by kernel_rfl) (by kernel_rfl) (by kernel_rfl) (fun _ _ _ h => h) (Or.inl ⟨by rfl, ?_⟩) hS ?_
          · (intro w hSw; (try dsimp only at hSw); have z := HWS.out; go_simp; (try exact z))
          (try simp only [Act.put, List.setIfInBounds_toArray, List.set_cons_zero, List.set_cons_succ])
          refine rg_both 6 9 ({ dst := some 63, op := Op.call { callee := Callee.value (Operand.func 22), args := #[Operand.tmp 62], argTypes := #[42] }, type := 22, pos := "ref.go:50", after := #[{ on := 5, ground := Ground.data }, { on := 3, ground := Ground.chain }], guard := none } : Oper) ({ dst := some 6, op := Op.alloc 25, type := 0, pos := "ref.go:50", after := #[], guard := none } : Oper) (by kernel_rfl) rfl rfl (fun K hK => ?_) (fun K hK => ?_)
          · skip
            go_simp
            (go_at_call 22; (refine (HG17.out _ hS.1).mono ?_); rintro r w6 ⟨rfl, hb⟩; (try (have q := Lib.hid (HA.out.keep hb); clear HA; have HA := q; clear q)))
            refine hK.out _ _ ?_ (fun hS1 => ?_)
            · (first | exact hS | exact hN | exact ⟨hS.1.keep hb, hS.2.1.keep hb, bch hS.2.2.1 hb, Nat.le_trans hS.2.2.2 hb.size⟩)
            clear hK K hS; have hS := hS1; clear hS1
            (try simp only [Act.put, List.setIfInBounds_toArray, List.set_cons_zero, List.set_cons_succ])
            refine wpAnyH_take (i := 7) (oi := ({ dst := some 64, op := Op.convert 22 3 (Operand.tmp 63), type := 3, pos := "ref.go:50", after := #[{ on := 6, ground := Ground.data }], guard := none } : Oper)) (v := .int .i64 f0) rfl (by kernel_rfl) (by kernel_rfl) (by kernel_rfl) (fun _ _ _ h => h) (Or.inl ⟨by rfl, ?_⟩) hS ?_
            · (intro w hSw; (try dsimp only at hSw); have z := HWF.out; go_simp; (try exact z))
            (try simp only [Act.put, List.setIfInBounds_toArray, List.set_cons_zero, List.set_cons_succ])
            refine wpAnyH_take (i := 8) (oi := ({ dst := some 65, op := Op.build 25 #[(0, Operand.tmp 58), (1, Operand.tmp 61), (2, Operand.tmp 64)], type := 25, pos := "ref.go:50", after := #[{ on := 1, ground := Ground.data }, { on := 4, ground := Ground.data }, { on := 7, ground := Ground.data }], guard := none } : Oper)) (v := .agg (hv ⟨e0, s0, f0, [0, 0, 0, 0]⟩)) rfl (by kernel_rfl) (by kernel_rfl) (by kernel_rfl) (fun _ _ _ h => h) (Or.inl ⟨by rfl, ?_⟩) hS ?_
            · (intro w hSw; (try dsimp only at hSw); go_simp; rfl)
            (try simp only [Act.put, List.setIfInBounds_toArray, List.set_cons_zero, List.set_cons_succ])
            refine rg_one 9 ({ dst := some 6, op := Op.alloc 25, type := 0, pos := "ref.go:50", after := #[], guard := none } : Oper) (by kernel_rfl) rfl (fun K hK => ?_)
            rw [if_pos (by rfl)]; refine wp_new_hd rfl ?_; intro g w7 HA hg hb0; have hb := hb0.out; have HGE := Lib.hid (Nat.le_trans hS.2.2.2 hg.out); clear hg hb0
            refine hK.out _ _ ?_ (fun hS1 => ?_)
            · (first | exact hS | exact hN | exact ⟨hS.1.keep hb, hS.2.1.keep hb, bch hS.2.2.1 hb, Nat.le_trans hS.2.2.2 hb.size⟩)
            clear hK K hS; have hS := hS1; clear hS1
            (try simp only [Act.put, List.setIfInBounds_toArray, List.set_cons_zero, List.set_cons_succ])
            refine rg_one 10 ({ dst := none, op := Op.store 25 (Operand.tmp 6) (Operand.tmp 65), type := 0, pos := "ref.go:50", after := #[{ on := 9, ground := Ground.data }, { on := 8, ground := Ground.data }, { on := 6, ground := Ground.chain }, { on := 0, ground := Ground.phase }, { on := 1, ground := Ground.phase }, { on := 2, ground := Ground.phase }, { on := 3, ground := Ground.phase }, { on := 4, ground := Ground.phase }, { on := 5, ground := Ground.phase }, { on := 6, ground := Ground.phase }, { on := 7, ground := Ground.phase }, { on := 8, ground := Ground.phase }, { on := 9, ground := Ground.phase }], guard := none } : Oper) (by kernel_rfl) rfl (fun K hK => ?_)
            rw [if_pos (by rfl)]; refine wp_put_hd (.tmp 6) (.tmp 65) rfl g noH ⟨e0, s0, f0, [0, 0, 0, 0]⟩ HA.out rfl rfl rfl ?_; intro w8 HA8 HG8; have HN1 := Lib.hid (show w.heap.size ≠ g ∧ w.heap.size + 1 ≠ g ∧ w.heap.size ≤ g from by have := HGE.out; omega); have hN := And.intro (hS.1.over HG8.out HN1.out.1) (And.intro (hS.2.1.over HG8.out HN1.out.2.1) (And.intro (hbelow_grown hS.2.2.1 HG8.out HN1.out.2.2 hS.2.2.1.size) (Nat.le_trans hS.2.2.2 HG8.out.size))); clear HA
            refine hK.out _ _ ?_ (fun hS1 => ?_)
            · (first | exact hS | exact hN | exact ⟨hS.1.keep hb, hS.2.1.keep hb, bch hS.2.2.1 hb, Nat.le_trans hS.2.2.2 hb.size⟩)
            clear hK K hS; have hS := hS1; clear hS1
            (try simp only [Act.put])
            refine wpAnyH_done (by kernel_rfl) ?_ _
            have HK8 := Lib.hid hS.1
            have HRB8 := Lib.hid hS.2.1
            have HW8 := Lib.hid hS.2.2.1
            have HA := Lib.hid HA8.out
            clear hS HA8 HG8
            (try clear hN hb)
            go_wp2
            go_loopw [7] (fun v wr => ∃ i : Nat, v = .int .i64 i ∧ i ≤ 4 ∧ Hid (HB wr g ⟨e0, s0, f0, rdl zs i⟩) ∧ Hid (Blk wr w.heap.size zs) ∧ Hid (HB wr (w.heap.size + 1) noH) ∧ Hid (Below w.heap.size w wr)) (fun v _ => 4 - (intOf v).toNat)
            case atStart => exact ⟨0, rfl, by omega, HA, HK8, HRB8, HW8⟩
            case round =>
              obtain ⟨i, rfl, hi, HAR, HKR, HRR, HBR⟩ := hrel
              by_cases hlt : i < 4
              · obtain ⟨x, hx⟩ : ∃ x, num zs (21 + 4 * i) 4 = x := ⟨_, rfl⟩
                have HXS := Lib.hid (rdl_set zs i hlt)
                rw [hx] at HXS
                have hxb : 0 ≤ x ∧ x < 4294967296 := by rw [← hx]; exact num_bd HZB.out _ 4
                have HGX := Lib.hid (fun w' hk => sec_rget w.heap.size (21 + 4 * i) 4 zs w' hk HZB.out (by omega) (by omega) (by omega) hx)
                obtain ⟨p, hp⟩ : ∃ p : Nat, 21 + 4 * i = p := ⟨_, rfl⟩
                rw [hp] at HGX
                obtain ⟨t, ht⟩ : ∃ t : Nat, 25 + 4 * i = t := ⟨_, rfl⟩
                obtain ⟨c, hc⟩ : ∃ c : Nat, 64 - p = c := ⟨_, rfl⟩
                rw [hc] at HGX
                have hp2 : (21 : Int) + 4 * (i : Int) = (p : Int) := by omega
                have ht2 : (25 : Int) + 4 * (i : Int) = (t : Int) := by omega
                have hlt2 : (i : Int) < 4 := by omega
                have hpb : (p : Int) ≤ (t : Int) := by omega
                have htb : (t : Int) ≤ 64 := by omega
                have htp : t - p = 4 := by omega
                have h64 : ¬ 64 = p := by omega
                clear hx hp ht
                go_wp2_with (first
                  | (go_at_call 22; (with_reducible refine (HGX.out _ HKR.out).mono ?_); rintro r w9 ⟨rfl, hb9⟩; have HA9 := Lib.hid (HAR.out.keep hb9); have HK9 := Lib.hid (HKR.out.keep hb9); have HR9 := Lib.hid (HRR.out.keep hb9); have HB9 := Lib.hid (bch HBR.out hb9); have hc9 := HA9.out.head i hlt; have hf9 := HA9.out.frozen (3 + i); dsimp only at hc9; clear hb9))
                go_roundw
                case rel =>
                  refine ⟨i + 1, by go_num, by omega, Lib.hid ?_, Lib.hid (HK9.out.apart HN1.out.1 _ _), Lib.hid (HR9.out.set_apart HN1.out.2.1 _ _), Lib.hid (HB9.out.setCell HN1.out.2.2 _)⟩
                  have q1 := HA9.out.stored i x
                  dsimp only at q1
                  rw [HXS.out] at q1
                  exact q1
                case measure => simp [intOf]; omega
              · obtain rfl : i = 4 := by omega
                have HRD := Lib.hid (rdl_all zs)
                have HAF := Lib.hid (show HB wr g (readH zs) from by have q1 := HAR.out; rw [HRD.out, HE.out] at q1; exact q1)
                go_wp2_with (first
                  | (refine wpl_load_hd (by rfl) (.tmp 6) rfl rfl HAF2.out ?_)
                  | (refine wpl_load_hd (by rfl) (.tmp 6) rfl rfl HAF.out ?_)
                  | (go_at_call 8; (with_reducible refine (HOK.out _).mono ?_); rintro r w9 ⟨rfl, hb9⟩; have HAF2 := Lib.hid (HAF.out.keep hb9); have HR9 := Lib.hid (HRR.out.keep hb9); have HB9 := Lib.hid (bch HBR.out hb9); clear hb9)
                  | (refine wpl_put_hd rfl (.tmp 2) (.tmp 85) rfl (w.heap.size + 1) noH noH HR9.out rfl rfl rfl ?_; intro wf HOF HGF))
                refine bodyPost_ret_by (results_row_tmp rfl _ _ (w.heap.size + 1) _ rfl HOF.out.load) rfl ⟨rfl, hbelow_grown HB9.out HGF.out (by omega) HB9.out.size⟩
          · skip
            rw [if_pos (by rfl)]; refine wp_new_hd rfl ?_; intro g w7 HA hg hb0; have hb := hb0.out; have HGE := Lib.hid (Nat.le_trans hS.2.2.2 hg.out); clear hg hb0
            refine hK.out _ _ ?_ (fun hS1 => ?_)
            · (first | exact hS | exact hN | exact ⟨hS.1.keep hb, hS.2.1.keep hb, bch hS.2.2.1 hb, Nat.le_trans hS.2.2.2 hb.size⟩)
            clear hK K hS; have hS := hS1; clear hS1
            (try simp only [Act.put, List.setIfInBounds_toArray, List.set_cons_zero, List.set_cons_succ])
            refine rg_one 6 ({ dst := some 63, op := Op.call { callee := Callee.value (Operand.func 22), args := #[Operand.tmp 62], argTypes := #[42] }, type := 22, pos := "ref.go:50", after := #[{ on := 5, ground := Ground.data }, { on := 3, ground := Ground.chain }], guard := none } : Oper) (by kernel_rfl) rfl (fun K hK => ?_)
            go_simp
            (go_at_call 22; (refine (HG17.out _ hS.1).mono ?_); rintro r w6 ⟨rfl, hb⟩; (try (have q := Lib.hid (HA.out.keep hb); clear HA; have HA := q; clear q)))
            refine hK.out _ _ ?_ (fun hS1 => ?_)
            · (first | exact hS | exact hN | exact ⟨hS.1.keep hb, hS.2.1.keep hb, bch hS.2.2.1 hb, Nat.le_trans hS.2.2.2 hb.size⟩)
            clear hK K hS; have hS := hS1; clear hS1
            (try simp only [Act.put, List.setIfInBounds_toArray, List.set_cons_zero, List.set_cons_succ])
            refine wpAnyH_take (i := 7) (oi := ({ dst := some 64, op := Op.convert 22 3 (Operand.tmp 63), type := 3, pos := "ref.go:50", after := #[{ on := 6, ground := Ground.data }], guard := none } : Oper)) (v := .int .i64 f0) rfl (by kernel_rfl) (by kernel_rfl) (by kernel_rfl) (fun _ _ _ h => h) (Or.inl ⟨by rfl, ?_⟩) hS ?_
            · (intro w hSw; (try dsimp only at hSw); have z := HWF.out; go_simp; (try exact z))
            (try simp only [Act.put, List.setIfInBounds_toArray, List.set_cons_zero, List.set_cons_succ])
            refine wpAnyH_take (i := 8) (oi := ({ dst := some 65, op := Op.build 25 #[(0, Operand.tmp 58), (1, Operand.tmp 61), (2, Operand.tmp 64)], type := 25, pos := "ref.go:50", after := #[{ on := 1, ground := Ground.data }, { on := 4, ground := Ground.data }, { on := 7, ground := Ground.data }], guard := none } : Oper)) (v := .agg (hv ⟨e0, s0, f0, [0, 0, 0, 0]⟩)) rfl (by kernel_rfl) (by kernel_rfl) (by kernel_rfl) (fun _ _ _ h => h) (Or.inl ⟨by rfl, ?_⟩) hS ?_
            · (intro w hSw; (try dsimp only at hSw); go_simp; rfl)
            (try simp only [Act.put, List.setIfInBounds_toArray, List.set_cons_zero, List.set_cons_succ])
            refine rg_one 10 ({ dst := none, op := Op.store 25 (Operand.tmp 6) (Operand.tmp 65), type := 0, pos := "ref.go:50", after := #[{ on := 9, ground := Ground.data }, { on := 8, ground := Ground.data }, { on := 6, ground := Ground.chain }, { on := 0, ground := Ground.phase }, { on := 1, ground := Ground.phase }, { on := 2, ground := Ground.phase }, { on := 3, ground := Ground.phase }, { on := 4, ground := Ground.phase }, { on := 5, ground := Ground.phase }, { on := 6, ground := Ground.phase }, { on := 7, ground := Ground.phase }, { on := 8, ground := Ground.phase }, { on := 9, ground := Ground.phase }], guard := none } : Oper) (by kernel_rfl) rfl (fun K hK => ?_)
            rw [if_pos (by rfl)]; refine wp_put_hd (.tmp 6) (.tmp 65) rfl g noH ⟨e0, s0, f0, [0, 0, 0, 0]⟩ HA.out rfl rfl rfl ?_; intro w8 HA8 HG8; have HN1 := Lib.hid (show w.heap.size ≠ g ∧ w.heap.size + 1 ≠ g ∧ w.heap.size ≤ g from by have := HGE.out; omega); have hN := And.intro (hS.1.over HG8.out HN1.out.1) (And.intro (hS.2.1.over HG8.out HN1.out.2.1) (And.intro (hbelow_grown hS.2.2.1 HG8.out HN1.out.2.2 hS.2.2.1.size) (Nat.le_trans hS.2.2.2 HG8.out.size))); clear HA
            refine hK.out _ _ ?_ (fun hS1 => ?_)
            · (first | exact hS | exact hN | exact ⟨hS.1.keep hb, hS.2.1.keep hb, bch hS.2.2.1 hb, Nat.le_trans hS.2.2.2 hb.size⟩)
            clear hK K hS; have hS := hS1; clear hS1
            (try simp only [Act.put])
            refine wpAnyH_done (by kernel_rfl) ?_ _
            have HK8 := Lib.hid hS.1
            have HRB8 := Lib.hid hS.2.1
            have HW8 := Lib.hid hS.2.2.1
            have HA := Lib.hid HA8.out
            clear hS HA8 HG8
            (try clear hN hb)
            go_wp2
            go_loopw [7] (fun v wr => ∃ i : Nat, v = .int .i64 i ∧ i ≤ 4 ∧ Hid (HB wr g ⟨e0, s0, f0, rdl zs i⟩) ∧ Hid (Blk wr w.heap.size zs) ∧ Hid (HB wr (w.heap.size + 1) noH) ∧ Hid (Below w.heap.size w wr)) (fun v _ => 4 - (intOf v).toNat)
            case atStart => exact ⟨0, rfl, by omega, HA, HK8, HRB8, HW8⟩
            case round =>
              obtain ⟨i, rfl, hi, HAR, HKR, HRR, HBR⟩ := hrel
              by_cases hlt : i < 4
              · obtain ⟨x, hx⟩ : ∃ x, num zs (21 + 4 * i) 4 = x := ⟨_, rfl⟩
                have HXS := Lib.hid (rdl_set zs i hlt)
                rw [hx] at HXS
                have hxb : 0 ≤ x ∧ x < 4294967296 := by rw [← hx]; exact num_bd HZB.out _ 4
                have HGX := Lib.hid (fun w' hk => sec_rget w.heap.size (21 + 4 * i) 4 zs w' hk HZB.out (by omega) (by omega) (by omega) hx)
                obtain ⟨p, hp⟩ : ∃ p : Nat, 21 + 4 * i = p := ⟨_, rfl⟩
                rw [hp] at HGX
                obtain ⟨t, ht⟩ : ∃ t : Nat, 25 + 4 * i = t := ⟨_, rfl⟩
                obtain ⟨c, hc⟩ : ∃ c : Nat, 64 - p = c := ⟨_, rfl⟩
                rw [hc] at HGX
                have hp2 : (21 : Int) + 4 * (i : Int) = (p : Int) := by omega
                have ht2 : (25 : Int) + 4 * (i : Int) = (t : Int) := by omega
                have hlt2 : (i : Int) < 4 := by omega
                have hpb : (p : Int) ≤ (t : Int) := by omega
                have htb : (t : Int) ≤ 64 := by omega
                have htp : t - p = 4 := by omega
                have h64 : ¬ 64 = p := by omega
                clear hx hp ht
                go_wp2_with (first
                  | (go_at_call 22; (with_reducible refine (HGX.out _ HKR.out).mono ?_); rintro r w9 ⟨rfl, hb9⟩; have HA9 := Lib.hid (HAR.out.keep hb9); have HK9 := Lib.hid (HKR.out.keep hb9); have HR9 := Lib.hid (HRR.out.keep hb9); have HB9 := Lib.hid (bch HBR.out hb9); have hc9 := HA9.out.head i hlt; have hf9 := HA9.out.frozen (3 + i); dsimp only at hc9; clear hb9))
                go_roundw
                case rel =>
                  refine ⟨i + 1, by go_num, by omega, Lib.hid ?_, Lib.hid (HK9.out.apart HN1.out.1 _ _), Lib.hid (HR9.out.set_apart HN1.out.2.1 _ _), Lib.hid (HB9.out.setCell HN1.out.2.2 _)⟩
                  have q1 := HA9.out.stored i x
                  dsimp only at q1
                  rw [HXS.out] at q1
                  exact q1
                case measure => simp [intOf]; omega
              · obtain rfl : i = 4 := by omega
                have HRD := Lib.hid (rdl_all zs)
                have HAF := Lib.hid (show HB wr g (readH zs) from by have q1 := HAR.out; rw [HRD.out, HE.out] at q1; exact q1)
                go_wp2_with (first
                  | (refine wpl_load_hd (by rfl) (.tmp 6) rfl rfl HAF2.out ?_)
                  | (refine wpl_load_hd (by rfl) (.tmp 6) rfl rfl HAF.out ?_)
                  | (go_at_call 8; (with_reducible refine (HOK.out _).mono ?_); rintro r w9 ⟨rfl, hb9⟩; have HAF2 := Lib.hid (HAF.out.keep hb9); have HR9 := Lib.hid (HRR.out.keep hb9); have HB9 := Lib.hid (bch HBR.out hb9); clear hb9)
                  | (refine wpl_put_hd rfl (.tmp 2) (.tmp 85) rfl (w.heap.size + 1) noH noH HR9.out rfl rfl rfl ?_; intro wf HOF HGF))
                refine bodyPost_ret_by (results_row_tmp rfl _ _ (w.heap.size + 1) _ rfl HOF.out.load) rfl ⟨rfl, hbelow_grown HB9.out HGF.out (by omega) HB9.out.size⟩
        · skip
          rw [if_pos (by rfl)]; refine wp_new_hd rfl ?_; intro g w7 HA hg hb0; have hb := hb0.out; have HGE := Lib.hid (Nat.le_trans hS.2.2.2 hg.out); clear hg hb0
          refine hK.out _ _ ?_ (fun hS1 => ?_)
          · (first | exact hS | exact hN | exact ⟨hS.1.keep hb, hS.2.1.keep hb, bch hS.2.2.1 hb, Nat.le_trans hS.2.2.2 hb.size⟩)
          clear hK K hS; have hS := hS1; clear hS1
          (try simp only [Act.put, List.setIfInBounds_toArray, List.set_cons_zero, List.set_cons_succ])
          refine rg_one 3 ({ dst := some 60, op := Op.call { callee := Callee.value (Operand.func 22), args := #[Operand.tmp 59], argTypes := #[42] }, type := 22, pos := "ref.go:50", after := #[{ on := 2, ground := Ground.data }, { on := 1, ground := Ground.chain }], guard := none } : Oper) (by kernel_rfl) rfl (fun K hK => ?_)
          go_simp
          (go_at_call 22; (refine (HG13.out _ hS.1).mono ?_); rintro r w5 ⟨rfl, hb⟩; (try (have q := Lib.hid (HA.out.keep hb); clear HA; have HA := q; clear q)))
          refine hK.out _ _ ?_ (fun hS1 => ?_)
          · (first | exact hS | exact hN | exact ⟨hS.1.keep hb, hS.2.1.keep hb, bch hS.2.2.1 hb, Nat.le_trans hS.2.2.2 hb.size⟩)
          clear hK K hS; have hS := hS1; clear hS1
          (try simp only [Act.put, List.setIfInBounds_toArray, List.set_cons_zero, List.set_cons_succ])
          refine wpAnyH_take (i := 4) (oi := ({ dst := some 61, op := Op.convert 22 3 (Operand.tmp 60), type := 3, pos := "ref.go:50", after := #[{ on := 3, ground := Ground.data }], guard := none } : Oper)) (v := .int .i64 s0) rfl (by kernel_rfl) (by kernel_rfl) (by kernel_rfl) (fun _ _ _ h => h) (Or.inl ⟨by rfl, ?_⟩) hS ?_
          · (intro w hSw; (try dsimp only at hSw); have z := HWS.out; go_simp; (try exact z))
          (try simp only [Act.put, List.setIfInBounds_toArray, List.set_cons_zero, List.set_cons_succ])
          refine rg_one 6 ({ dst := some 63, op := Op.call { callee := Callee.value (Operand.func 22), args := #[Operand.tmp 62], argTypes := #[42] }, type := 22, pos := "ref.go:50", after := #[{ on := 5, ground := Ground.data }, { on := 3, ground := Ground.chain }], guard := none } : Oper) (by kernel_rfl) rfl (fun K hK => ?_)
          go_simp
          (go_at_call 22; (refine (HG17.out _ hS.1).mono ?_); rintro r w6 ⟨rfl, hb⟩; (try (have q := Lib.hid (HA.out.keep hb); clear HA; have HA := q; clear q)))
          refine hK.out _ _ ?_ (fun hS1 => ?_)
          · (first | exact hS | exact hN | exact ⟨hS.1.keep hb, hS.2.1.keep hb, bch hS.2.2.1 hb, Nat.le_trans hS.2.2.2 hb.size⟩)
          clear hK K hS; have hS := hS1; clear hS1
          (try simp only [Act.put, List.setIfInBounds_toArray, List.set_cons_zero, List.set_cons_succ])
          refine wpAnyH_take (i := 7) (oi := ({ dst := some 64, op := Op.convert 22 3 (Operand.tmp 63), type := 3, pos := "ref.go:50", after := #[{ on := 6, ground := Ground.data }], guard := none } : Oper)) (v := .int .i64 f0) rfl (by kernel_rfl) (by kernel_rfl) (by kernel_rfl) (fun _ _ _ h => h) (Or.inl ⟨by rfl, ?_⟩) hS ?_
          · (intro w hSw; (try dsimp only at hSw); have z := HWF.out; go_simp; (try exact z))
          (try simp only [Act.put, List.setIfInBounds_toArray, List.set_cons_zero, List.set_cons_succ])
          refine wpAnyH_take (i := 8) (oi := ({ dst := some 65, op := Op.build 25 #[(0, Operand.tmp 58), (1, Operand.tmp 61), (2, Operand.tmp 64)], type := 25, pos := "ref.go:50", after := #[{ on := 1, ground := Ground.data }, { on := 4, ground := Ground.data }, { on := 7, ground := Ground.data }], guard := none } : Oper)) (v := .agg (hv ⟨e0, s0, f0, [0, 0, 0, 0]⟩)) rfl (by kernel_rfl) (by kernel_rfl) (by kernel_rfl) (fun _ _ _ h => h) (Or.inl ⟨by rfl, ?_⟩) hS ?_
          · (intro w hSw; (try dsimp only at hSw); go_simp; rfl)
          (try simp only [Act.put, List.setIfInBounds_toArray, List.set_cons_zero, List.set_cons_succ])
          refine rg_one 10 ({ dst := none, op := Op.store 25 (Operand.tmp 6) (Operand.tmp 65), type := 0, pos := "ref.go:50", after := #[{ on := 9, ground := Ground.data }, { on := 8, ground := Ground.data }, { on := 6, ground := Ground.chain }, { on := 0, ground := Ground.phase }, { on := 1, ground := Ground.phase }, { on := 2, ground := Ground.phase }, { on := 3, ground := Ground.phase }, { on := 4, ground := Ground.phase }, { on := 5, ground := Ground.phase }, { on := 6, ground := Ground.phase }, { on := 7, ground := Ground.phase }, { on := 8, ground := Ground.phase }, { on := 9, ground := Ground.phase }], guard := none } : Oper) (by kernel_rfl) rfl (fun K hK => ?_)
          rw [if_pos (by rfl)]; refine wp_put_hd (.tmp 6) (.tmp 65) rfl g noH ⟨e0, s0, f0, [0, 0, 0, 0]⟩ HA.out rfl rfl rfl ?_; intro w8 HA8 HG8; have HN1 := Lib.hid (show w.heap.size ≠ g ∧ w.heap.size + 1 ≠ g ∧ w.heap.size ≤ g from by have := HGE.out; omega); have hN := And.intro (hS.1.over HG8.out HN1.out.1) (And.intro (hS.2.1.over HG8.out HN1.out.2.1) (And.intro (hbelow_grown hS.2.2.1 HG8.out HN1.out.2.2 hS.2.2.1.size) (Nat.le_trans hS.2.2.2 HG8.out.size))); clear HA
          refine hK.out _ _ ?_ (fun hS1 => ?_)
          · (first | exact hS | exact hN | exact ⟨hS.1.keep hb, hS.2.1.keep hb, bch hS.2.2.1 hb, Nat.le_trans hS.2.2.2 hb.size⟩)
          clear hK K hS; have hS := hS1; clear hS1
          (try simp only [Act.put])
          refine wpAnyH_done (by kernel_rfl) ?_ _
          have HK8 := Lib.hid hS.1
          have HRB8 := Lib.hid hS.2.1
          have HW8 := Lib.hid hS.2.2.1
          have HA := Lib.hid HA8.out
          clear hS HA8 HG8
          (try clear hN hb)
          go_wp2
          go_loopw [7] (fun v wr => ∃ i : Nat, v = .int .i64 i ∧ i ≤ 4 ∧ Hid (HB wr g ⟨e0, s0, f0, rdl zs i⟩) ∧ Hid (Blk wr w.heap.size zs) ∧ Hid (HB wr (w.heap.size + 1) noH) ∧ Hid (Below w.heap.size w wr)) (fun v _ => 4 - (intOf v).toNat)
          case atStart => exact ⟨0, rfl, by omega, HA, HK8, HRB8, HW8⟩
          case round =>
            obtain ⟨i, rfl, hi, HAR, HKR, HRR, HBR⟩ := hrel
            by_cases hlt : i < 4
            · obtain ⟨x, hx⟩ : ∃ x, num zs (21 + 4 * i) 4 = x := ⟨_, rfl⟩
              have HXS := Lib.hid (rdl_set zs i hlt)
              rw [hx] at HXS
              have hxb : 0 ≤ x ∧ x < 4294967296 := by rw [← hx]; exact num_bd HZB.out _ 4
              have HGX := Lib.hid (fun w' hk => sec_rget w.heap.size (21 + 4 * i) 4 zs w' hk HZB.out (by omega) (by omega) (by omega) hx)
              obtain ⟨p, hp⟩ : ∃ p : Nat, 21 + 4 * i = p := ⟨_, rfl⟩
              rw [hp] at HGX
              obtain ⟨t, ht⟩ : ∃ t : Nat, 25 + 4 * i = t := ⟨_, rfl⟩
              obtain ⟨c, hc⟩ : ∃ c : Nat, 64 - p = c := ⟨_, rfl⟩
              rw [hc] at HGX
              have hp2 : (21 : Int) + 4 * (i : Int) = (p : Int) := by omega
              have ht2 : (25 : Int) + 4 * (i : Int) = (t : Int) := by omega
              have hlt2 : (i : Int) < 4 := by omega
              have hpb : (p : Int) ≤ (t : Int) := by omega
              have htb : (t : Int) ≤ 64 := by omega
              have htp : t - p = 4 := by omega
              have h64 : ¬ 64 = p := by omega
              clear hx hp ht
              go_wp2_with (first
                | (go_at_call 22; (with_reducible refine (HGX.out _ HKR.out).mono ?_); rintro r w9 ⟨rfl, hb9⟩; have HA9 := Lib.hid (HAR.out.keep hb9); have HK9 := Lib.hid (HKR.out.keep hb9); have HR9 := Lib.hid (HRR.out.keep hb9); have HB9 := Lib.hid (bch HBR.out hb9); have hc9 := HA9.out.head i hlt; have hf9 := HA9.out.frozen (3 + i); dsimp only at hc9; clear hb9))
              go_roundw
              case rel =>
                refine ⟨i + 1, by go_num, by omega, Lib.hid ?_, Lib.hid (HK9.out.apart HN1.out.1 _ _), Lib.hid (HR9.out.set_apart HN1.out.2.1 _ _), Lib.hid (HB9.out.setCell HN1.out.2.2 _)⟩
                have q1 := HA9.out.stored i x
                dsimp only at q1
                rw [HXS.out] at q1
                exact q1
              case measure => simp [intOf]; omega
            · obtain rfl : i = 4 := by omega
              have HRD := Lib.hid (rdl_all zs)
              have HAF := Lib.hid (show HB wr g (readH zs) from by have q1 := HAR.out; rw [HRD.out, HE.out] at q1; exact q1)
              go_wp2_with (first
                | (refine wpl_load_hd (by rfl) (.tmp 6) rfl rfl HAF2.out ?_)
                | (refine wpl_load_hd (by rfl) (.tmp 6) rfl rfl HAF.out ?_)
                | (go_at_call 8; (with_reducible refine (HOK.out _).mono ?_); rintro r w9 ⟨rfl, hb9⟩; have HAF2 := Lib.hid (HAF.out.keep hb9); have HR9 := Lib.hid (HRR.out.keep hb9); have HB9 := Lib.hid (bch HBR.out hb9); clear hb9)
                | (refine wpl_put_hd rfl (.tmp 2) (.tmp 85) rfl (w.heap.size + 1) noH noH HR9.out rfl rfl rfl ?_; intro wf HOF HGF))
              refine bodyPost_ret_by (results_row_tmp rfl _ _ (w.heap.size + 1) _ rfl HOF.out.load) rfl ⟨rfl, hbelow_grown HB9.out HGF.out (by omega) HB9.out.size⟩
      · skip
        rw [if_pos (by rfl)]; refine wp_new_hd rfl ?_; intro g w7 HA hg hb0; have hb := hb0.out; have HGE := Lib.hid (Nat.le_trans hS.2.2.2 hg.out); clear hg hb0
        refine hK.out _ _ ?_ (fun hS1 => ?_)
        · (first | exact hS | exact hN | exact ⟨hS.1.keep hb, hS.2.1.keep hb, bch hS.2.2.1 hb, Nat.le_trans hS.2.2.2 hb.size⟩)
        clear hK K hS; have hS := hS1; clear hS1
        (try simp only [Act.put, List.setIfInBounds_toArray, List.set_cons_zero, List.set_cons_succ])
        refine rg_one 1 ({ dst := some 58, op := Op.call { callee := Callee.value (Operand.func 22), args := #[Operand.tmp 57], argTypes := #[42] }, type := 22, pos := "ref.go:50", after := #[{ on := 0, ground := Ground.data }], guard := none } : Oper) (by kernel_rfl) rfl (fun K hK => ?_)
        go_simp
        (go_at_call 22; (refine (HG5.out _ hS.1).mono ?_); rintro r w4 ⟨rfl, hb⟩; (try (have q := Lib.hid (HA.out.keep hb); clear HA; have HA := q; clear q)))
        refine hK.out _ _ ?_ (fun hS1 => ?_)
        · (first | exact hS | exact hN | exact ⟨hS.1.keep hb, hS.2.1.keep hb, bch hS.2.2.1 hb, Nat.le_trans hS.2.2.2 hb.size⟩)
        clear hK K hS; have hS := hS1; clear hS1
        (try simp only [Act.put, List.setIfInBounds_toArray, List.set_cons_zero, List.set_cons_succ])
        refine rg_one 3 ({ dst := some 60, op := Op.call { callee := Callee.value (Operand.func 22), args := #[Operand.tmp 59], argTypes := #[42] }, type := 22, pos := "ref.go:50", after := #[{ on := 2, ground := Ground.data }, { on := 1, ground := Ground.chain }], guard := none } : Oper) (by kernel_rfl) rfl (fun K hK => ?_)
        go_simp
        (go_at_call 22; (refine (HG13.out _ hS.1).mono ?_); rintro r w5 ⟨rfl, hb⟩; (try (have q := Lib.hid (HA.out.keep hb); clear HA; have HA := q; clear q)))
        refine hK.out _ _ ?_ (fun hS1 => ?_)
        · (first | exact hS | exact hN | exact ⟨hS.1.keep hb, hS.2.1.keep hb, bch hS.2.2.1 hb, Nat.le_trans hS.2.2.2 hb.size⟩)
        clear hK K hS; have hS := hS1; clear hS1
        (try simp only [Act.put, List.setIfInBounds_toArray, List.set_cons_zero, List.set_cons_succ])
        refine wpAnyH_take (i := 4) (oi := ({ dst := some 61, op := Op.convert 22 3 (Operand.tmp 60), type := 3, pos := "ref.go:50", after := #[{ on := 3, ground := Ground.data }], guard := none } : Oper)) (v := .int .i64 s0) rfl (by kernel_rfl) (by kernel_rfl) (by kernel_rfl) (fun _ _ _ h => h) (Or.inl ⟨by rfl, ?_⟩) hS ?_
        · (intro w hSw; (try dsimp only at hSw); have z := HWS.out; go_simp; (try exact z))
        (try simp only [Act.put, List.setIfInBounds_toArray, List.set_cons_zero, List.set_cons_succ])
        refine rg_one 6 ({ dst := some 63, op := Op.call { callee := Callee.value (Operand.func 22), args := #[Operand.tmp 62], argTypes := #[42] }, type := 22, pos := "ref.go:50", after := #[{ on := 5, ground := Ground.data }, { on := 3, ground := Ground.chain }], guard := none } : Oper) (by kernel_rfl) rfl (fun K hK => ?_)
        go_simp
        (go_at_call 22; (refine (HG17.out _ hS.1).mono ?_); rintro r w6 ⟨rfl, hb⟩; (try (have q := Lib.hid (HA.out.keep hb); clear HA; have HA := q; clear q)))
        refine hK.out _ _ ?_ (fun hS1 => ?_)
        · (first | exact hS | exact hN | exact ⟨hS.1.keep hb, hS.2.1.keep hb, bch hS.2.2.1 hb, Nat.le_trans hS.2.2.2 hb.size⟩)
        clear hK K hS; have hS := hS1; clear hS1
        (try simp only [Act.put, List.setIfInBounds_toArray, List.set_cons_zero, List.set_cons_succ])
        refine wpAnyH_take (i := 7) (oi := ({ dst := some 64, op := Op.convert 22 3 (Operand.tmp 63), type := 3, pos := "ref.go:50", after := #[{ on := 6, ground := Ground.data }], guard := none } : Oper)) (v := .int .i64 f0) rfl (by kernel_rfl) (by kernel_rfl) (by kernel_rfl) (fun _ _ _ h => h) (Or.inl ⟨by rfl, ?_⟩) hS ?_
        · (intro w hSw; (try dsimp only at hSw); have z := HWF.out; go_simp; (try exact z))
        (try simp only [Act.put, List.setIfInBounds_toArray, List.set_cons_zero, List.set_cons_succ])
        refine wpAnyH_take (i := 8) (oi := ({ dst := some 65, op := Op.build 25 #[(0, Operand.tmp 58), (1, Operand.tmp 61), (2, Operand.tmp 64)], type := 25, pos := "ref.go:50", after := #[{ on := 1, ground := Ground.data }, { on := 4, ground := Ground.data }, { on := 7, ground := Ground.data }], guard := none } : Oper)) (v := .agg (hv ⟨e0, s0, f0, [0, 0, 0, 0]⟩)) rfl (by kernel_rfl) (by kernel_rfl) (by kernel_rfl) (fun _ _ _ h => h) (Or.inl ⟨by rfl, ?_⟩) hS ?_
        · (intro w hSw; (try dsimp only at hSw); go_simp; rfl)
        (try simp only [Act.put, List.setIfInBounds_toArray, List.set_cons_zero, List.set_cons_succ])
        refine rg_one 10 ({ dst := none, op := Op.store 25 (Operand.tmp 6) (Operand.tmp 65), type := 0, pos := "ref.go:50", after := #[{ on := 9, ground := Ground.data }, { on := 8, ground := Ground.data }, { on := 6, ground := Ground.chain }, { on := 0, ground := Ground.phase }, { on := 1, ground := Ground.phase }, { on := 2, ground := Ground.phase }, { on := 3, ground := Ground.phase }, { on := 4, ground := Ground.phase }, { on := 5, ground := Ground.phase }, { on := 6, ground := Ground.phase }, { on := 7, ground := Ground.phase }, { on := 8, ground := Ground.phase }, { on := 9, ground := Ground.phase }], guard := none } : Oper) (by kernel_rfl) rfl (fun K hK => ?_)
        rw [if_pos (by rfl)]; refine wp_put_hd (.tmp 6) (.tmp 65) rfl g noH ⟨e0, s0, f0, [0, 0, 0, 0]⟩ HA.out rfl rfl rfl ?_; intro w8 HA8 HG8; have HN1 := Lib.hid (show w.heap.size ≠ g ∧ w.heap.size + 1 ≠ g ∧ w.heap.size ≤ g from by have := HGE.out; omega); have hN := And.intro (hS.1.over HG8.out HN1.out.1) (And.intro (hS.2.1.over HG8.out HN1.out.2.1) (And.intro (hbelow_grown hS.2.2.1 HG8.out HN1.out.2.2 hS.2.2.1.size) (Nat.le_trans hS.2.2.2 HG8.out.size))); clear HA
        refine hK.out _ _ ?_ (fun hS1 => ?_)
        · (first | exact hS | exact hN | exact ⟨hS.1.keep hb, hS.2.1.keep hb, bch hS.2.2.1 hb, Nat.le_trans hS.2.2.2 hb.size⟩)
        clear hK K hS; have hS := hS1; clear hS1
        (try simp only [Act.put])
        refine wpAnyH_done (by kernel_rfl) ?_ _
        have HK8 := Lib.hid hS.1
        have HRB8 := Lib.hid hS.2.1
        have HW8 := Lib.hid hS.2.2.1
        have HA := Lib.hid HA8.out
        clear hS HA8 HG8
        (try clear hN hb)
        go_wp2
        go_loopw [7] (fun v wr => ∃ i : Nat, v = .int .i64 i ∧ i ≤ 4 ∧ Hid (HB wr g ⟨e0, s0, f0, rdl zs i⟩) ∧ Hid (Blk wr w.heap.size zs) ∧ Hid (HB wr (w.heap.size + 1) noH) ∧ Hid (Below w.heap.size w wr)) (fun v _ => 4 - (intOf v).toNat)
        case atStart => exact ⟨0, rfl, by omega, HA, HK8, HRB8, HW8⟩
        case round =>
          obtain ⟨i, rfl, hi, HAR, HKR, HRR, HBR⟩ := hrel
          by_cases hlt : i < 4
          · obtain ⟨x, hx⟩ : ∃ x, num zs (21 + 4 * i) 4 = x := ⟨_, rfl⟩
            have HXS := Lib.hid (rdl_set zs i hlt)
            rw [hx] at HXS
            have hxb : 0 ≤ x ∧ x < 4294967296 := by rw [← hx]; exact num_bd HZB.out _ 4
            have HGX := Lib.hid (fun w' hk => sec_rget w.heap.size (21 + 4 * i) 4 zs w' hk HZB.out (by omega) (by omega) (by omega) hx)
            obtain ⟨p, hp⟩ : ∃ p : Nat, 21 + 4 * i = p := ⟨_, rfl⟩
            rw [hp] at HGX
            obtain ⟨t, ht⟩ : ∃ t : Nat, 25 + 4 * i = t := ⟨_, rfl⟩
            obtain ⟨c, hc⟩ : ∃ c : Nat, 64 - p = c := ⟨_, rfl⟩
            rw [hc] at HGX
            have hp2 : (21 : Int) + 4 * (i : Int) = (p : Int) := by omega
            have ht2 : (25 : Int) + 4 * (i : Int) = (t : Int) := by omega
            have hlt2 : (i : Int) < 4 := by omega
            have hpb : (p : Int) ≤ (t : Int) := by omega
            have htb : (t : Int) ≤ 64 := by omega
            have htp : t - p = 4 := by omega
            have h64 : ¬ 64 = p := by omega
            clear hx hp ht
            go_wp2_with (first
              | (go_at_call 22; (with_reducible refine (HGX.out _ HKR.out).mono ?_); rintro r w9 ⟨rfl, hb9⟩; have HA9 := Lib.hid (HAR.out.keep hb9); have HK9 := Lib.hid (HKR.out.keep hb9); have HR9 := Lib.hid (HRR.out.keep hb9); have HB9 := Lib.hid (bch HBR.out hb9); have hc9 := HA9.out.head i hlt; have hf9 := HA9.out.frozen (3 + i); dsimp only at hc9; clear hb9))
            go_roundw
            case rel =>
              refine ⟨i + 1, by go_num, by omega, Lib.hid ?_, Lib.hid (HK9.out.apart HN1.out.1 _ _), Lib.hid (HR9.out.set_apart HN1.out.2.1 _ _), Lib.hid (HB9.out.setCell HN1.out.2.2 _)⟩
              have q1 := HA9.out.stored i x
              dsimp only at q1
              rw [HXS.out] at q1
              exact q1
            case measure => simp [intOf]; omega
          · obtain rfl : i = 4 := by omega
            have HRD := Lib.hid (rdl_all zs)
            have HAF := Lib.hid (show HB wr g (readH zs) from by have q1 := HAR.out; rw [HRD.out, HE.out] at q1; exact q1)
            go_wp2_with (first
              | (refine wpl_load_hd (by rfl) (.tmp 6) rfl rfl HAF2.out ?_)
              | (refine wpl_load_hd (by rfl) (.tmp 6) rfl rfl HAF.out ?_)
              | (go_at_call 8; (with_reducible refine (HOK.out _).mono ?_); rintro r w9 ⟨rfl, hb9⟩; have HAF2 := Lib.hid (HAF.out.keep hb9); have HR9 := Lib.hid (HRR.out.keep hb9); have HB9 := Lib.hid (bch HBR.out hb9); clear hb9)
              | (refine wpl_put_hd rfl (.tmp 2) (.tmp 85) rfl (w.heap.size + 1) noH noH HR9.out rfl rfl rfl ?_; intro wf HOF HGF))
            refine bodyPost_ret_by (results_row_tmp rfl _ _ (w.heap.size + 1) _ rfl HOF.out.load) rfl ⟨rfl, hbelow_grown HB9.out HGF.out (by omega) HB9.out.size⟩
set_option maxRecDepth 8000 in
set_option maxHeartbeats 8000000 in
theorem rdec_ok (zs : List Int) (hl : zs.length = 64) (hb : isB zs) (w : World) (h1 : ¬ zs = z64) (h2 : zs.take 5 = mark) (h3 : zs.drop 41 = z23) (h4 : (zs.drop 37).take 4 = putL (maskS (ofS (zs.take 37))) 4) (h5 : hdOk (readH zs) = true) :
    Calls Tryd.prog 13 #[.agg (sv zs)] w fun r w' => r = .returned (.tuple #[.agg (hv (readH zs)), .int .i64 0]) ∧ Below w.heap.size w w' := by
  obtain ⟨w0, hw0⟩ : ∃ q, (w.alloc (.cells (sv zs) 27)).alloc (.cells #[.int .u64 0, .int .i64 0, .int .i64 0, .int .i64 0, .int .i64 0, .int .i64 0, .int .i64 0] 25) = q := ⟨_, rfl⟩
  have hs1 : (w.alloc (.cells (sv zs) 27)).heap.size = w.heap.size + 1 := alloc_size w _
  have hk0 : Blk w0 w.heap.size zs := by rw [← hw0]; exact (Blk.new w zs hl).keep (balloc _ _)
  have HK := Lib.hid hk0
  have HRB := Lib.hid (show HB w0 (w.heap.size + 1) noH from by rw [← hw0, ← hs1]; exact HB.new _ noH rfl)
  have HW := Lib.hid (show Below w.heap.size w w0 from by rw [← hw0]; exact bch (balloc w _) (balloc _ _))
  have HSZ := Lib.hid (show w0.heap.size = w.heap.size + 2 from by rw [← hw0, alloc_size, hs1])
  have HL := Lib.hid hl
  have HZB := Lib.hid hb
  have HEQ := Lib.hid (show decide (zs = z64) = false from by simpa using h1)
  have c0 := hk0.cell 0 (by omega)
  have c1 := hk0.cell 1 (by omega)
  have c2 := hk0.cell 2 (by omega)
  have c3 := hk0.cell 3 (by omega)
  have c4 := hk0.cell 4 (by omega)
  obtain ⟨x0, hx0⟩ : ∃ x, zs.getD 0 0 = x := ⟨_, rfl⟩
  obtain ⟨x1, hx1⟩ : ∃ x, zs.getD 1 0 = x := ⟨_, rfl⟩
  obtain ⟨x2, hx2⟩ : ∃ x, zs.getD 2 0 = x := ⟨_, rfl⟩
  obtain ⟨x3, hx3⟩ : ∃ x, zs.getD 3 0 = x := ⟨_, rfl⟩
  obtain ⟨x4, hx4⟩ : ∃ x, zs.getD 4 0 = x := ⟨_, rfl⟩
  rw [hx0] at c0
  rw [hx1] at c1
  rw [hx2] at c2
  rw [hx3] at c3
  rw [hx4] at c4
  obtain rfl : x0 = 115 := by rw [← hx0]; exact mark_at h2 0 (by omega)
  obtain rfl : x1 = 116 := by rw [← hx1]; exact mark_at h2 1 (by omega)
  obtain rfl : x2 = 114 := by rw [← hx2]; exact mark_at h2 2 (by omega)
  obtain rfl : x3 = 100 := by rw [← hx3]; exact mark_at h2 3 (by omega)
  obtain rfl : x4 = 1 := by rw [← hx4]; exact mark_at h2 4 (by omega)
  clear hx0 hx1 hx2 hx3 hx4
  have HZA := Lib.hid (show zu zs 64 = true from by rw [zu_all zs hl]; simpa using h3)
  obtain ⟨o, ho⟩ : ∃ o, ofS (zs.take 37) = o := ⟨_, rfl⟩
  obtain ⟨m, hm⟩ : ∃ m, maskS o = m := ⟨_, rfl⟩
  rw [ho, hm] at h4
  have hm9 : m < 4294967296 := by rw [← hm]; exact maskS_lt o
  have HWM := Lib.hid (show IntKind.u64.wrap (m : Int) = (m : Int) from IntWalk.u64_in _ (by omega))
  have HOF := Lib.hid (show ∀ w', Blk w' w.heap.size zs → Calls Tryd.prog 21 #[.slice (some ⟨w.heap.size, 0, none⟩) 37 64] w' fun e w'' => e = .returned (.int .u32 o) ∧ w' = w'' from fun w' hk => rof_any (by have := hk.ri 0 37 64 (by omega) (by omega) (by omega); rwa [List.drop_zero] at this) (hb.take 37) ho)
  have HMK := Lib.hid (show ∀ w', Calls Tryd.prog 20 #[.int .u32 o] w' fun e w'' => e = .returned (.int .u32 m) ∧ w' = w'' from fun w' => rmask_at o m (by rw [← ho]; exact ofS_lt _) hm w')
  have HG37 := Lib.hid (show ∀ w', Blk w' w.heap.size zs → Calls Tryd.prog 22 #[.slice (some ⟨w.heap.size, 37, none⟩) 4 27] w' fun e w'' => e = .returned (.int .u64 m) ∧ Below w'.heap.size w' w'' from fun w' hk => sec_rget w.heap.size 37 4 zs w' hk hb (by omega) (by omega) (by omega) ((num_sum hb (by omega) m hm9).2 h4))
  clear ho hm hm9
  obtain ⟨e0, he0⟩ : ∃ x, num zs 5 8 = x := ⟨_, rfl⟩
  obtain ⟨s0, hs0⟩ : ∃ x, num zs 13 4 = x := ⟨_, rfl⟩
  obtain ⟨f0, hf0⟩ : ∃ x, num zs 17 4 = x := ⟨_, rfl⟩
  have hbd : (0 ≤ e0 ∧ e0 < 2 ^ (8 * 8)) ∧ (0 ≤ s0 ∧ s0 < 4294967296) ∧ (0 ≤ f0 ∧ f0 < 4294967296) := by rw [← he0, ← hs0, ← hf0]; exact ⟨num_bd hb 5 8, num_bd hb 13 4, num_bd hb 17 4⟩
  have HWS := Lib.hid (show IntKind.i64.wrap s0 = s0 from IntWalk.i64_in _ (by have := hbd.2.1; omega))
  have HWF := Lib.hid (show IntKind.i64.wrap f0 = f0 from IntWalk.i64_in _ (by have := hbd.2.2; omega))
  have HE := Lib.hid (show (⟨e0, s0, f0, [num zs 21 4, num zs 25 4, num zs 29 4, num zs 33 4]⟩ : Hdr) = readH zs from by rw [← he0, ← hs0, ← hf0]; rfl)
  have HG5 := Lib.hid (show ∀ w', Blk w' w.heap.size zs → Calls Tryd.prog 22 #[.slice (some ⟨w.heap.size, 5, none⟩) 8 59] w' fun e w'' => e = .returned (.int .u64 e0) ∧ Below w'.heap.size w' w'' from fun w' hk => sec_rget w.heap.size 5 8 zs w' hk hb (by omega) (by omega) (by omega) he0)
  have HG13 := Lib.hid (show ∀ w', Blk w' w.heap.size zs → Calls Tryd.prog 22 #[.slice (some ⟨w.heap.size, 13, none⟩) 4 51] w' fun e w'' => e = .returned (.int .u64 s0) ∧ Below w'.heap.size w' w'' from fun w' hk => sec_rget w.heap.size 13 4 zs w' hk hb (by omega) (by omega) (by omega) hs0)
  have HG17 := Lib.hid (show ∀ w', Blk w' w.heap.size zs → Calls Tryd.prog 22 #[.slice (some ⟨w.heap.size, 17, none⟩) 4 47] w' fun e w'' => e = .returned (.int .u64 f0) ∧ Below w'.heap.size w' w'' from fun w' hk => sec_rget w.heap.size 17 4 zs w' hk hb (by omega) (by omega) (by omega) hf0)
  have HOK : Hid (∀ w, Calls Tryd.prog 8 #[.agg (hv (readH zs))] w fun r w' => r = .returned (.bool true) ∧ Below w.heap.size w w') := Lib.hid fun w => by rw [← h5]; exact rright_any _ (readH_typed hb) w
  clear he0 hs0 hf0 hbd
  clear hl hb hs1 hk0 h1 h2 h3 h4 h5
  go_enter Tryd.func13, Tryd.ntmps13
  go_wp2_with (first
    | (refine wpl_load_sec (by rfl) (.tmp 1) rfl w.heap.size rfl zs HK.out ?_)
    | (refine wpl_build_sec rfl (by rfl) ?_)
    | (refine wpl_eq_sec (.tmp 8) (.tmp 9) _ rfl zs z64 HL.out z64_length rfl rfl (by rfl) ?_; rw [HEQ.out]))
  go_loopw [4, 5] (fun v iv wr => ∃ i : Nat, iv = .int .i64 i ∧ 41 ≤ i ∧ i ≤ 64 ∧ v = .bool (zu zs i) ∧ wr = w0) (fun _ iv _ => 64 - (intOf iv).toNat)
  case atStart => exact ⟨41, rfl, by omega, by omega, congrArg Value.bool (zu_zero zs).symm, rfl⟩
  case round =>
    obtain ⟨i, rfl, hi, hi2, rfl, rfl⟩ := hrel
    by_cases hlt : i < 64
    · have hci := HK.out.cell i hlt
      obtain ⟨x, hx⟩ : ∃ x, zs.getD i 0 = x := ⟨_, rfl⟩
      rw [hx] at hci
      have HZU := Lib.hid (zu_succ zs i hi (by rw [HL.out]; exact hlt))
      rw [hx] at HZU
      obtain ⟨b, hb⟩ : ∃ b, zu zs i = b := ⟨_, rfl⟩
      rw [hb] at HZU ⊢
      have hlt2 : (i : Int) < 64 := by omega
      clear hx hb
      cases b with
      | false =>
        go_wp2
        go_roundw
        case rel => exact ⟨i + 1, by go_num, by omega, by omega, congrArg Value.bool (by rw [HZU.out]; rfl), trivial⟩
        case measure => simp [intOf]; omega
      | true =>
        go_wp2
        go_roundw
        case rel => exact ⟨i + 1, by go_num, by omega, by omega, congrArg Value.bool (by rw [HZU.out, Bool.true_and]), trivial⟩
        case measure => simp [intOf]; omega
    · obtain rfl : i = 64 := by omega
      rw [HZA.out]
      go_wp2_with fail
      refine wp_region_held_drew (S := (fun w' => Blk w' w.heap.size zs ∧ HB w' (w.heap.size + 1) noH ∧ Below w.heap.size w w' ∧ w.heap.size + 2 ≤ w'.heap.size)) (by kernel_rfl) ⟨HK.out, HRB.out, HW.out.drew, Nat.le_of_eq HSZ.out.symm⟩ (fun hS => ?_)
      refine wpAnyH_take (i := 0) (oi := ({ dst := some 49, op := Op.slice 27 (Operand.tmp 1) (some (Operand.const (Value.int IntKind.i64 37))) (some (Operand.const (Value.int IntKind.i64 41))) none, type := 42, pos := "ref.go:47", after := #[], guard := none } : Oper)) (v := ?_) rfl (by kernel_rfl) (by kernel_rfl) (by kernel_rfl) (fun _ _ _ h => h) (Or.inl ⟨by rfl, ?_⟩) hS ?_
      rotate_left
      · (intro w hSw; (try dsimp only at hSw); go_simp; try with_reducible rfl)
      (try simp only [Act.put, List.setIfInBounds_toArray, List.set_cons_zero, List.set_cons_succ])
      refine wpAnyH_take (i := 2) (oi := ({ dst := some 51, op := Op.slice 27 (Operand.tmp 1) none (some (Operand.const (Value.int IntKind.i64 37))) none, type := 42, pos := "ref.go:47", after := #[], guard := none } : Oper)) (v := ?_) rfl (by kernel_rfl) (by kernel_rfl) (by kernel_rfl) (fun _ _ _ h => h) (Or.inl ⟨by rfl, ?_⟩) hS ?_
      rotate_left
      · (intro w hSw; (try dsimp only at hSw); go_simp; try with_reducible rfl)
      (try simp only [Act.put, List.setIfInBounds_toArray, List.set_cons_zero, List.set_cons_succ])
      refine rg_one 1 ({ dst := some 50, op := Op.call { callee := Callee.value (Operand.func 22), args := #[Operand.tmp 49], argTypes := #[42] }, type := 22, pos := "ref.go:47", after := #[{ on := 0, ground := Ground.data }], guard := none } : Oper) (by kernel_rfl) rfl (fun K hK => ?_)
      go_simp
      (go_at_call 22; (refine (HG37.out _ hS.1).mono ?_); rintro r w3 ⟨rfl, hb⟩)
      refine hK.out _ _ ?_ (fun hS1 => ?_)
      · (first | exact hS | exact ⟨hS.1.keep hb, hS.2.1.keep hb, bch hS.2.2.1 hb, Nat.le_trans hS.2.2.2 hb.size⟩)
      clear hK K hS; have hS := hS1; clear hS1
      (try simp only [Act.put, List.setIfInBounds_toArray, List.set_cons_zero, List.set_cons_succ])
      refine rg_one 3 ({ dst := some 52, op := Op.call { callee := Callee.value (Operand.func 21), args := #[Operand.tmp 51], argTypes := #[42] }, type := 49, pos := "ref.go:47", after := #[{ on := 2, ground := Ground.data }, { on := 1, ground := Ground.chain }], guard := none } : Oper) (by kernel_rfl) rfl (fun K hK => ?_)
      go_simp
      (go_at_call 21; (refine (HOF.out _ hS.1).mono ?_); rintro r w4 ⟨rfl, rfl⟩)
      refine hK.out _ _ ?_ (fun hS1 => ?_)
      · (first | exact hS | exact ⟨hS.1.keep hb, hS.2.1.keep hb, bch hS.2.2.1 hb, Nat.le_trans hS.2.2.2 hb.size⟩)
      clear hK K hS; have hS := hS1; clear hS1
      (try simp only [Act.put, List.setIfInBounds_toArray, List.set_cons_zero, List.set_cons_succ])
      refine rg_one 4 ({ dst := some 53, op := Op.call { callee := Callee.value (Operand.func 20), args := #[Operand.tmp 52], argTypes := #[49] }, type := 49, pos := "ref.go:47", after := #[{ on := 3, ground := Ground.data }, { on := 3, ground := Ground.chain }], guard := none } : Oper) (by kernel_rfl) rfl (fun K hK => ?_)
      go_simp
      (go_at_call 20; (refine (HMK.out _).mono ?_); rintro r w5 ⟨rfl, rfl⟩)
      refine hK.out _ _ ?_ (fun hS1 => ?_)
      · (first | exact hS | exact ⟨hS.1.keep hb, hS.2.1.keep hb, bch hS.2.2.1 hb, Nat.le_trans hS.2.2.2 hb.size⟩)
      clear hK K hS; have hS := hS1; clear hS1
      (try simp only [Act.put, List.setIfInBounds_toArray, List.set_cons_zero, List.set_cons_succ])
      refine wpAnyH_take (i := 5) (oi := ({ dst := some 54, op := Op.convert 49 22 (Operand.tmp 53), type := 22, pos := "ref.go:47", after := #[{ on := 4, ground := Ground.data }], guard := none } : Oper)) (v := .int .u64 m) rfl (by kernel_rfl) (by kernel_rfl) (by kernel_rfl) (fun _ _ _ h => h) (Or.inl ⟨by rfl, ?_⟩) hS ?_
      · (intro w hSw; (try dsimp only at hSw); have z := HWM.out; go_simp; (try exact z))
      (try simp only [Act.put, List.setIfInBounds_toArray, List.set_cons_zero, List.set_cons_succ])
      refine wpAnyH_take (i := 6) (oi := ({ dst := some 55, op := Op.binOp BinOp.neq 22 (Operand.tmp 50) (Operand.tmp 54) 22, type := 4, pos := "ref.go:47", after := #[{ on := 1, ground := Ground.data }, { on := 5, ground := Ground.data }], guard := none } : Oper)) (v := .bool false) rfl (by kernel_rfl) (by kernel_rfl) (by kernel_rfl) (fun _ _ _ h => h) (Or.inl ⟨by rfl, ?_⟩) hS ?_
      · (intro w hSw; (try dsimp only at hSw); go_simp)
      (try simp only [Act.put, List.setIfInBounds_toArray, List.set_cons_zero, List.set_cons_succ])
      refine wpAnyH_done (by kernel_rfl) ?_ _
      have HK3 := Lib.hid hS.1
      have HRB3 := Lib.hid hS.2.1
      have HW3 := Lib.hid hS.2.2.1
      have HZ3 := Lib.hid hS.2.2.2
      clear hS
      go_wp2_with fail
      refine wp_region_held_drew (S := (fun w' => Blk w' w.heap.size zs ∧ HB w' (w.heap.size + 1) noH ∧ Below w.heap.size w w' ∧ w.heap.size + 2 ≤ w'.heap.size)) (by kernel_rfl) ⟨HK3.out, HRB3.out, HW3.out.drew, HZ3.out⟩ (fun hS => ?_)
      refine wpAnyH_take (i := 0) (oi := ({ dst := some 57, op := Op.slice 27 (Operand.tmp 1) (some (Operand.const (Value.int IntKind.i64 5))) (some (Operand.const (Value.int IntKind.i64 13))) none, type := 42, pos := "ref.go:50", after := #[], guard := none } : Oper)) (v := ?_) rfl (by kernel_rfl) (by kernel_rfl) (by kernel_rfl) (fun _ _ _ h => h) (Or.inl ⟨by rfl, ?_⟩) hS ?_
      rotate_left
      · (intro w hSw; (try dsimp only at hSw); go_simp; try with_reducible rfl)
      (try simp only [Act.put, List.setIfInBounds_toArray, List.set_cons_zero, List.set_cons_succ])
      refine wpAnyH_take (i := 2) (oi := ({ dst := some 59, op := Op.slice 27 (Operand.tmp 1) (some (Operand.const (Value.int IntKind.i64 13))) (some (Operand.const (Value.int IntKind.i64 17))) none, type := 42, pos := "ref.go:50", after := #[], guard := none } : Oper)) (v := ?_) rfl (by kernel_rfl) (by kernel_rfl) (by kernel_rfl) (fun _ _ _ h => h) (Or.inl ⟨by rfl, ?_⟩) hS ?_
      rotate_left
      · (intro w hSw; (try dsimp only at hSw); go_simp; try with_reducible rfl)
      (try simp only [Act.put, List.setIfInBounds_toArray, List.set_cons_zero, List.set_cons_succ])
      refine wpAnyH_take (i := 5) (oi := ({ dst := some 62, op := Op.slice 27 (Operand.tmp 1) (some (Operand.const (Value.int IntKind.i64 17))) (some (Operand.const (Value.int IntKind.i64 21))) none, type := 42, pos := "ref.go:50", after := #[], guard := none } : Oper)) (v := ?_) rfl (by kernel_rfl) (by kernel_rfl) (by kernel_rfl) (fun _ _ _ h => h) (Or.inl ⟨by rfl, ?_⟩) hS ?_
      rotate_left
      · (intro w hSw; (try dsimp only at hSw); go_simp; try with_reducible rfl)
      (try simp only [Act.put, List.setIfInBounds_toArray, List.set_cons_zero, List.set_cons_succ])
      refine rg_both 1 9 ({ dst := some 58, op := Op.call { callee := Callee.value (Operand.func 22), args := #[Operand.tmp 57], argTypes := #[42] }, type := 22, pos := "ref.go:50", after := #[{ on := 0, ground := Ground.data }], guard := none } : Oper) ({ dst := some 6, op := Op.alloc 25, type := 0, pos := "ref.go:50", after := #[], guard := none } : Oper) (by kernel_rfl) rfl rfl (fun K hK => ?_) (fun K hK => ?_)
      · skip
        go_simp
        (go_at_call 22; (refine (HG5.out _ hS.1).mono ?_); rintro r w4 ⟨rfl, hb⟩; (try (have q := Lib.hid (HA.out.keep hb); clear HA; have HA := q; clear q)))
        refine hK.out _ _ ?_ (fun hS1 => ?_)
        · (first | exact hS | exact hN | exact ⟨hS.1.keep hb, hS.2.1.keep hb, bch hS.2.2.1 hb, Nat.le_trans hS.2.2.2 hb.size⟩)
        clear hK K hS; have hS := hS1; clear hS1
        (try simp only [Act.put, List.setIfInBounds_toArray, List.set_cons_zero, List.set_cons_succ])
        refine rg_both 3 9 ({ dst := some 60, op := Op.call { callee := Callee.value (Operand.func 22), args := #[Operand.tmp 59], argTypes := #[42] }, type := 22, pos := "ref.go:50", after := #[{ on := 2, ground := Ground.data }, { on := 1, ground := Ground.chain }], guard := none } : Oper) ({ dst := some 6, op := Op.alloc 25, type := 0, pos := "ref.go:50", after := #[], guard := none } : Oper) (by kernel_rfl) rfl rfl (fun K hK => ?_) (fun K hK => ?_)
        · skip
          go_simp
          (go_at_call 22; (refine (HG13.out _ hS.1).mono ?_); rintro r w5 ⟨rfl, hb⟩; (try (have q := Lib.hid (HA.out.keep hb); clear HA; have HA := q; clear q)))
          refine hK.out _ _ ?_ (fun hS1 => ?_)
          · (first | exact hS | exact hN | exact ⟨hS.1.keep hb, hS.2.1.keep hb, bch hS.2.2.1 hb, Nat.le_trans hS.2.2.2 hb.size⟩)
          clear hK K hS; have hS := hS1; clear hS1
          (try simp only [Act.put, List.setIfInBounds_toArray, List.set_cons_zero, List.set_cons_succ])
          refine wpAnyH_take (i := 4) (oi := ({ dst := some 61, op := Op.convert 22 3 (Operand.tmp 60), type := 3, pos := "ref.go:50", after := #[{ on := 3, ground := Ground.data }], guard := none } : Oper)) (v := .int .i64 s0) rfl (by kernel_rfl) (by kernel_rfl) (by kernel_rfl) (fun _ _ _ h => h) (Or.inl ⟨by rfl, ?_⟩) hS ?_
          · (intro w hSw; (try dsimp only at hSw); have z := HWS.out; go_simp; (try exact z))
          (try simp only [Act.put, List.setIfInBounds_toArray, List.set_cons_zero, List.set_cons_succ])
          refine rg_both 6 9 ({ dst := some 63, op := Op.call { callee := Callee.value (Operand.func 22), args := #[Operand.tmp 62], argTypes := #[42] }, type := 22, pos := "ref.go:50", after := #[{ on := 5, ground := Ground.data }, { on := 3, ground := Ground.chain }], guard := none } : Oper) ({ dst := some 6, op := Op.alloc 25, type := 0, pos := "ref.go:50", after := #[], guard := none } : Oper) (by kernel_rfl) rfl rfl (fun K hK => ?_) (fun K hK => ?_)
          · skip
            go_simp
            (go_at_call 22; (refine (HG17.out _ hS.1).mono ?_); rintro r w6 ⟨rfl, hb⟩; (try (have q := Lib.hid (HA.out.keep hb); clear HA; have HA := q; clear q)))
            refine hK.out _ _ ?_ (fun hS1 => ?_)
            · (first | exact hS | exact hN | exact ⟨hS.1.keep hb, hS.2.1.keep hb, bch hS.2.2.1 hb, Nat.le_trans hS.2.2.2 hb.size⟩)
            clear hK K hS; have hS := hS1; clear hS1
            (try simp only [Act.put, List.setIfInBounds_toArray, List.set_cons_zero, List.set_cons_succ])
            refine wpAnyH_take (i := 7) (oi := ({ dst := some 64, op := Op.convert 22 3 (Operand.tmp 63), type := 3, pos := "ref.go:50", after := #[{ on := 6, ground := Ground.data }], guard := none } : Oper)) (v := .int .i64 f0) rfl (by kernel_rfl) (by kernel_rfl) (by kernel_rfl) (fun _ _ _ h => h) (Or.inl ⟨by rfl, ?_⟩) hS ?_
            · (intro w hSw; (try dsimp only at hSw); have z := HWF.out; go_simp; (try exact z))
            (try simp only [Act.put, List.setIfInBounds_toArray, List.set_cons_zero, List.set_cons_succ])
            refine wpAnyH_take (i := 8) (oi := ({ dst := some 65, op := Op.build 25 #[(0, Operand.tmp 58), (1, Operand.tmp 61), (2, Operand.tmp 64)], type := 25, pos := "ref.go:50", after := #[{ on := 1, ground := Ground.data }, { on := 4, ground := Ground.data }, { on := 7, ground := Ground.data }], guard := none } : Oper)) (v := .agg (hv ⟨e0, s0, f0, [0, 0, 0, 0]⟩)) rfl (by kernel_rfl) (by kernel_rfl) (by kernel_rfl) (fun _ _ _ h => h) (Or.inl ⟨by rfl, ?_⟩) hS ?_
            · (intro w hSw; (try dsimp only at hSw); go_simp; rfl)
            (try simp only [Act.put, List.setIfInBounds_toArray, List.set_cons_zero, List.set_cons_succ])
            refine rg_one 9 ({ dst := some 6, op := Op.alloc 25, type := 0, pos := "ref.go:50", after := #[], guard := none } : Oper) (by kernel_rfl) rfl (fun K hK => ?_)
            rw [if_pos (by rfl)]; refine wp_new_hd rfl ?_; intro g w7 HA hg hb0; have hb := hb0.out; have HGE := Lib.hid (Nat.le_trans hS.2.2.2 hg.out); clear hg hb0
            refine hK.out _ _ ?_ (fun hS1 => ?_)
            · (first | exact hS | exact hN | exact ⟨hS.1.keep hb, hS.2.1.keep hb, bch hS.2.2.1 hb, Nat.le_trans hS.2.2.2 hb.size⟩)
            clear hK K hS; have hS := hS1; clear hS1
            (try simp only [Act.put, List.setIfInBounds_toArray, List.set_cons_zero, List.set_cons_succ])
            refine rg_one 10 ({ dst := none, op := Op.store 25 (Operand.tmp 6) (Operand.tmp 65), type := 0, pos := "ref.go:50", after := #[{ on := 9, ground := Ground.data }, { on := 8, ground := Ground.data }, { on := 6, ground := Ground.chain }, { on := 0, ground := Ground.phase }, { on := 1, ground := Ground.phase }, { on := 2, ground := Ground.phase }, { on := 3, ground := Ground.phase }, { on := 4, ground := Ground.phase }, { on := 5, ground := Ground.phase }, { on := 6, ground := Ground.phase }, { on := 7, ground := Ground.phase }, { on := 8, ground := Ground.phase }, { on := 9, ground := Ground.phase }], guard := none } : Oper) (by kernel_rfl) rfl (fun K hK => ?_)
            rw [if_pos (by rfl)]; refine wp_put_hd (.tmp 6) (.tmp 65) rfl g noH ⟨e0, s0, f0, [0, 0, 0, 0]⟩ HA.out rfl rfl rfl ?_; intro w8 HA8 HG8; have HN1 := Lib.hid (show w.heap.size ≠ g ∧ w.heap.size + 1 ≠ g ∧ w.heap.size ≤ g from by have := HGE.out; omega); have hN := And.intro (hS.1.over HG8.out HN1.out.1) (And.intro (hS.2.1.over HG8.out HN1.out.2.1) (And.intro (hbelow_grown hS.2.2.1 HG8.out HN1.out.2.2 hS.2.2.1.size) (Nat.le_trans hS.2.2.2 HG8.out.size))); clear HA
            refine hK.out _ _ ?_ (fun hS1 => ?_)
            · (first | exact hS | exact hN | exact ⟨hS.1.keep hb, hS.2.1.keep hb, bch hS.2.2.1 hb, Nat.le_trans hS.2.2.2 hb.size⟩)
            clear hK K hS; have hS := hS1; clear hS1
            (try simp only [Act.put])
            refine wpAnyH_done (by kernel_rfl) ?_ _
            have HK8 := Lib.hid hS.1
            have HRB8 := Lib.hid hS.2.1
            have HW8 := Lib.hid hS.2.2.1
            have HA := Lib.hid HA8.out
            clear hS HA8 HG8
            (try clear hN hb)
            go_wp2
            go_loopw [7] (fun v wr => ∃ i : Nat, v = .int .i64 i ∧ i ≤ 4 ∧ Hid (HB wr g ⟨e0, s0, f0, rdl zs i⟩) ∧ Hid (Blk wr w.heap.size zs) ∧ Hid (HB wr (w.heap.size + 1) noH) ∧ Hid (Below w.heap.size w wr)) (fun v _ => 4 - (intOf v).toNat)
            case atStart => exact ⟨0, rfl, by omega, HA, HK8, HRB8, HW8⟩
            case round =>
              obtain ⟨i, rfl, hi, HAR, HKR, HRR, HBR⟩ := hrel
              by_cases hlt : i < 4
              · obtain ⟨x, hx⟩ : ∃ x, num zs (21 + 4 * i) 4 = x := ⟨_, rfl⟩
                have HXS := Lib.hid (rdl_set zs i hlt)
                rw [hx] at HXS
                have hxb : 0 ≤ x ∧ x < 4294967296 := by rw [← hx]; exact num_bd HZB.out _ 4
                have HGX := Lib.hid (fun w' hk => sec_rget w.heap.size (21 + 4 * i) 4 zs w' hk HZB.out (by omega) (by omega) (by omega) hx)
                obtain ⟨p, hp⟩ : ∃ p : Nat, 21 + 4 * i = p := ⟨_, rfl⟩
                rw [hp] at HGX
                obtain ⟨t, ht⟩ : ∃ t : Nat, 25 + 4 * i = t := ⟨_, rfl⟩
                obtain ⟨c, hc⟩ : ∃ c : Nat, 64 - p = c := ⟨_, rfl⟩
                rw [hc] at HGX
                have hp2 : (21 : Int) + 4 * (i : Int) = (p : Int) := by omega
                have ht2 : (25 : Int) + 4 * (i : Int) = (t : Int) := by omega
                have hlt2 : (i : Int) < 4 := by omega
                have hpb : (p : Int) ≤ (t : Int) := by omega
                have htb : (t : Int) ≤ 64 := by omega
                have htp : t - p = 4 := by omega
                have h64 : ¬ 64 = p := by omega
                clear hx hp ht
                go_wp2_with (first
                  | (go_at_call 22; (with_reducible refine (HGX.out _ HKR.out).mono ?_); rintro r w9 ⟨rfl, hb9⟩; have HA9 := Lib.hid (HAR.out.keep hb9); have HK9 := Lib.hid (HKR.out.keep hb9); have HR9 := Lib.hid (HRR.out.keep hb9); have HB9 := Lib.hid (bch HBR.out hb9); have hc9 := HA9.out.head i hlt; have hf9 := HA9.out.frozen (3 + i); dsimp only at hc9; clear hb9))
                go_roundw
                case rel =>
                  refine ⟨i + 1, by go_num, by omega, Lib.hid ?_, Lib.hid (HK9.out.apart HN1.out.1 _ _), Lib.hid (HR9.out.set_apart HN1.out.2.1 _ _), Lib.hid (HB9.out.setCell HN1.out.2.2 _)⟩
                  have q1 := HA9.out.stored i x
                  dsimp only at q1
                  rw [HXS.out] at q1
                  exact q1
                case measure => simp [intOf]; omega
              · obtain rfl : i = 4 := by omega
                have HRD := Lib.hid (rdl_all zs)
                have HAF := Lib.hid (show HB wr g (readH zs) from by have q1 := HAR.out; rw [HRD.out, HE.out] at q1; exact q1)
                go_wp2_with (first
                  | (refine wpl_load_hd (by rfl) (.tmp 6) rfl rfl HAF2.out ?_)
                  | (refine wpl_load_hd (by rfl) (.tmp 6) rfl rfl HAF.out ?_)
                  | (go_at_call 8; (with_reducible refine (HOK.out _).mono ?_); rintro r w9 ⟨rfl, hb9⟩; have HAF2 := Lib.hid (HAF.out.keep hb9); have HR9 := Lib.hid (HRR.out.keep hb9); have HB9 := Lib.hid (bch HBR.out hb9); clear hb9)
                  | (refine wpl_put_hd rfl (.tmp 2) (.tmp 86) rfl (w.heap.size + 1) noH (readH zs) HR9.out rfl rfl rfl ?_; intro wf HOF HGF))
                refine bodyPost_ret_by (results_row_tmp rfl _ _ (w.heap.size + 1) _ rfl HOF.out.load) rfl ⟨rfl, hbelow_grown HB9.out HGF.out (by omega) HB9.out.size⟩
          · skip
            rw [if_pos (by rfl)]; refine wp_new_hd rfl ?_; intro g w7 HA hg hb0; have hb := hb0.out; have HGE := Lib.hid (Nat.le_trans hS.2.2.2 hg.out); clear hg hb0
            refine hK.out _ _ ?_ (fun hS1 => ?_)
            · (first | exact hS | exact hN | exact ⟨hS.1.keep hb, hS.2.1.keep hb, bch hS.2.2.1 hb, Nat.le_trans hS.2.2.2 hb.size⟩)
            clear hK K hS; have hS := hS1; clear hS1
            (try simp only [Act.put, List.setIfInBounds_toArray, List.set_cons_zero, List.set_cons_succ])
            refine rg_one 6 ({ dst := some 63, op := Op.call { callee := Callee.value (Operand.func 22), args := #[Operand.tmp 62], argTypes := #[42] }, type := 22, pos := "ref.go:50", after := #[{ on := 5, ground := Ground.data }, { on := 3, ground := Ground.chain }], guard := none } : Oper) (by kernel_rfl) rfl (fun K hK => ?_)
            go_simp
            (go_at_call 22; (refine (HG17.out _ hS.1).mono ?_); rintro r w6 ⟨rfl, hb⟩; (try (have q := Lib.hid (HA.out.keep hb); clear HA; have HA := q; clear q)))
            refine hK.out _ _ ?_ (fun hS1 => ?_)
            · (first | exact hS | exact hN | exact ⟨hS.1.keep hb, hS.2.1.keep hb, bch hS.2.2.1 hb, Nat.le_trans hS.2.2.2 hb.size⟩)
            clear hK K hS; have hS := hS1; clear hS1
            (try simp only [Act.put, List.setIfInBounds_toArray, List.set_cons_zero, List.set_cons_succ])
            refine wpAnyH_take (i := 7) (oi := ({ dst := some 64, op := Op.convert 22 3 (Operand.tmp 63), type := 3, pos := "ref.go:50", after := #[{ on := 6, ground := Ground.data }], guard := none } : Oper)) (v := .int .i64 f0) rfl (by kernel_rfl) (by kernel_rfl) (by kernel_rfl) (fun _ _ _ h => h) (Or.inl ⟨by rfl, ?_⟩) hS ?_
            · (intro w hSw; (try dsimp only at hSw); have z := HWF.out; go_simp; (try exact z))
            (try simp only [Act.put, List.setIfInBounds_toArray, List.set_cons_zero, List.set_cons_succ])
            refine wpAnyH_take (i := 8) (oi := ({ dst := some 65, op := Op.build 25 #[(0, Operand.tmp 58), (1, Operand.tmp 61), (2, Operand.tmp 64)], type := 25, pos := "ref.go:50", after := #[{ on := 1, ground := Ground.data }, { on := 4, ground := Ground.data }, { on := 7, ground := Ground.data }], guard := none } : Oper)) (v := .agg (hv ⟨e0, s0, f0, [0, 0, 0, 0]⟩)) rfl (by kernel_rfl) (by kernel_rfl) (by kernel_rfl) (fun _ _ _ h => h) (Or.inl ⟨by rfl, ?_⟩) hS ?_
            · (intro w hSw; (try dsimp only at hSw); go_simp; rfl)
            (try simp only [Act.put, List.setIfInBounds_toArray, List.set_cons_zero, List.set_cons_succ])
            refine rg_one 10 ({ dst := none, op := Op.store 25 (Operand.tmp 6) (Operand.tmp 65), type := 0, pos := "ref.go:50", after := #[{ on := 9, ground := Ground.data }, { on := 8, ground := Ground.data }, { on := 6, ground := Ground.chain }, { on := 0, ground := Ground.phase }, { on := 1, ground := Ground.phase }, { on := 2, ground := Ground.phase }, { on := 3, ground := Ground.phase }, { on := 4, ground := Ground.phase }, { on := 5, ground := Ground.phase }, { on := 6, ground := Ground.phase }, { on := 7, ground := Ground.phase }, { on := 8, ground := Ground.phase }, { on := 9, ground := Ground.phase }], guard := none } : Oper) (by kernel_rfl) rfl (fun K hK => ?_)
            rw [if_pos (by rfl)]; refine wp_put_hd (.tmp 6) (.tmp 65) rfl g noH ⟨e0, s0, f0, [0, 0, 0, 0]⟩ HA.out rfl rfl rfl ?_; intro w8 HA8 HG8; have HN1 := Lib.hid (show w.heap.size ≠ g ∧ w.heap.size + 1 ≠ g ∧ w.heap.size ≤ g from by have := HGE.out; omega); have hN := And.intro (hS.1.over HG8.out HN1.out.1) (And.intro (hS.2.1.over HG8.out HN1.out.2.1) (And.intro (hbelow_grown hS.2.2.1 HG8.out HN1.out.2.2 hS.2.2.1.size) (Nat.le_trans hS.2.2.2 HG8.out.size))); clear HA
            refine hK.out _ _ ?_ (fun hS1 => ?_)
            · (first | exact hS | exact hN | exact ⟨hS.1.keep hb, hS.2.1.keep hb, bch hS.2.2.1 hb, Nat.le_trans hS.2.2.2 hb.size⟩)
            clear hK K hS; have hS := hS1; clear hS1
            (try simp only [Act.put])
            refine wpAnyH_done (by kernel_rfl) ?_ _
            have HK8 := Lib.hid hS.1
            have HRB8 := Lib.hid hS.2.1
            have HW8 := Lib.hid hS.2.2.1
            have HA := Lib.hid HA8.out
            clear hS HA8 HG8
            (try clear hN hb)
            go_wp2
            go_loopw [7] (fun v wr => ∃ i : Nat, v = .int .i64 i ∧ i ≤ 4 ∧ Hid (HB wr g ⟨e0, s0, f0, rdl zs i⟩) ∧ Hid (Blk wr w.heap.size zs) ∧ Hid (HB wr (w.heap.size + 1) noH) ∧ Hid (Below w.heap.size w wr)) (fun v _ => 4 - (intOf v).toNat)
            case atStart => exact ⟨0, rfl, by omega, HA, HK8, HRB8, HW8⟩
            case round =>
              obtain ⟨i, rfl, hi, HAR, HKR, HRR, HBR⟩ := hrel
              by_cases hlt : i < 4
              · obtain ⟨x, hx⟩ : ∃ x, num zs (21 + 4 * i) 4 = x := ⟨_, rfl⟩
                have HXS := Lib.hid (rdl_set zs i hlt)
                rw [hx] at HXS
                have hxb : 0 ≤ x ∧ x < 4294967296 := by rw [← hx]; exact num_bd HZB.out _ 4
                have HGX := Lib.hid (fun w' hk => sec_rget w.heap.size (21 + 4 * i) 4 zs w' hk HZB.out (by omega) (by omega) (by omega) hx)
                obtain ⟨p, hp⟩ : ∃ p : Nat, 21 + 4 * i = p := ⟨_, rfl⟩
                rw [hp] at HGX
                obtain ⟨t, ht⟩ : ∃ t : Nat, 25 + 4 * i = t := ⟨_, rfl⟩
                obtain ⟨c, hc⟩ : ∃ c : Nat, 64 - p = c := ⟨_, rfl⟩
                rw [hc] at HGX
                have hp2 : (21 : Int) + 4 * (i : Int) = (p : Int) := by omega
                have ht2 : (25 : Int) + 4 * (i : Int) = (t : Int) := by omega
                have hlt2 : (i : Int) < 4 := by omega
                have hpb : (p : Int) ≤ (t : Int) := by omega
                have htb : (t : Int) ≤ 64 := by omega
                have htp : t - p = 4 := by omega
                have h64 : ¬ 64 = p := by omega
                clear hx hp ht
                go_wp2_with (first
                  | (go_at_call 22; (with_reducible refine (HGX.out _ HKR.out).mono ?_); rintro r w9 ⟨rfl, hb9⟩; have HA9 := Lib.hid (HAR.out.keep hb9); have HK9 := Lib.hid (HKR.out.keep hb9); have HR9 := Lib.hid (HRR.out.keep hb9); have HB9 := Lib.hid (bch HBR.out hb9); have hc9 := HA9.out.head i hlt; have hf9 := HA9.out.frozen (3 + i); dsimp only at hc9; clear hb9))
                go_roundw
                case rel =>
                  refine ⟨i + 1, by go_num, by omega, Lib.hid ?_, Lib.hid (HK9.out.apart HN1.out.1 _ _), Lib.hid (HR9.out.set_apart HN1.out.2.1 _ _), Lib.hid (HB9.out.setCell HN1.out.2.2 _)⟩
                  have q1 := HA9.out.stored i x
                  dsimp only at q1
                  rw [HXS.out] at q1
                  exact q1
                case measure => simp [intOf]; omega
              · obtain rfl : i = 4 := by omega
                have HRD := Lib.hid (rdl_all zs)
                have HAF := Lib.hid (show HB wr g (readH zs) from by have q1 := HAR.out; rw [HRD.out, HE.out] at q1; exact q1)
                go_wp2_with (first
                  | (refine wpl_load_hd (by rfl) (.tmp 6) rfl rfl HAF2.out ?_)
                  | (refine wpl_load_hd (by rfl) (.tmp 6) rfl rfl HAF.out ?_)
                  | (go_at_call 8; (with_reducible refine (HOK.out _).mono ?_); rintro r w9 ⟨rfl, hb9⟩; have HAF2 := Lib.hid (HAF.out.keep hb9); have HR9 := Lib.hid (HRR.out.keep hb9); have HB9 := Lib.hid (bch HBR.out hb9); clear hb9)
                  | (refine wpl_put_hd rfl (.tmp 2) (.tmp 86) rfl (w.heap.size + 1) noH (readH zs) HR9.out rfl rfl rfl ?_; intro wf HOF HGF))
                refine bodyPost_ret_by (results_row_tmp rfl _ _ (w.heap.size + 1) _ rfl HOF.out.load) rfl ⟨rfl, hbelow_grown HB9.out HGF.out (by omega) HB9.out.size⟩
        · skip
          rw [if_pos (by rfl)]; refine wp_new_hd rfl ?_; intro g w7 HA hg hb0; have hb := hb0.out; have HGE := Lib.hid (Nat.le_trans hS.2.2.2 hg.out); clear hg hb0
          refine hK.out _ _ ?_ (fun hS1 => ?_)
          · (first | exact hS | exact hN | exact ⟨hS.1.keep hb, hS.2.1.keep hb, bch hS.2.2.1 hb, Nat.le_trans hS.2.2.2 hb.size⟩)
          clear hK K hS; have hS := hS1; clear hS1
          (try simp only [Act.put, List.setIfInBounds_toArray, List.set_cons_zero, List.set_cons_succ])
          refine rg_one 3 ({ dst := some 60, op := Op.call { callee := Callee.value (Operand.func 22), args := #[Operand.tmp 59], argTypes := #[42] }, type := 22, pos := "ref.go:50", after := #[{ on := 2, ground := Ground.data }, { on := 1, ground := Ground.chain }], guard := none } : Oper) (by kernel_rfl) rfl (fun K hK => ?_)
          go_simp
          (go_at_call 22; (refine (HG13.out _ hS.1).mono ?_); rintro r w5 ⟨rfl, hb⟩; (try (have q := Lib.hid (HA.out.keep hb); clear HA; have HA := q; clear q)))
          refine hK.out _ _ ?_ (fun hS1 => ?_)
          · (first | exact hS | exact hN | exact ⟨hS.1.keep hb, hS.2.1.keep hb, bch hS.2.2.1 hb, Nat.le_trans hS.2.2.2 hb.size⟩)
          clear hK K hS; have hS := hS1; clear hS1
          (try simp only [Act.put, List.setIfInBounds_toArray, List.set_cons_zero, List.set_cons_succ])
          refine wpAnyH_take (i := 4) (oi := ({ dst := some 61, op := Op.convert 22 3 (Operand.tmp 60), type := 3, pos := "ref.go:50", after := #[{ on := 3, ground := Ground.data }], guard := none } : Oper)) (v := .int .i64 s0) rfl (by kernel_rfl) (by kernel_rfl) (by kernel_rfl) (fun _ _ _ h => h) (Or.inl ⟨by rfl, ?_⟩) hS ?_
          · (intro w hSw; (try dsimp only at hSw); have z := HWS.out; go_simp; (try exact z))
          (try simp only [Act.put, List.setIfInBounds_toArray, List.set_cons_zero, List.set_cons_succ])
          refine rg_one 6 ({ dst := some 63, op := Op.call { callee := Callee.value (Operand.func 22), args := #[Operand.tmp 62], argTypes := #[42] }, type := 22, pos := "ref.go:50", after := #[{ on := 5, ground := Ground.data }, { on := 3, ground := Ground.chain }], guard := none } : Oper) (by kernel_rfl) rfl (fun K hK => ?_)
          go_simp
          (go_at_call 22; (refine (HG17.out _ hS.1).mono ?_); rintro r w6 ⟨rfl, hb⟩; (try (have q := Lib.hid (HA.out.keep hb); clear HA; have HA := q; clear q)))
          refine hK.out _ _ ?_ (fun hS1 => ?_)
          · (first | exact hS | exact hN | exact ⟨hS.1.keep hb, hS.2.1.keep hb, bch hS.2.2.1 hb, Nat.le_trans hS.2.2.2 hb.size⟩)
          clear hK K hS; have hS := hS1; clear hS1
          (try simp only [Act.put, List.setIfInBounds_toArray, List.set_cons_zero, List.set_cons_succ])
          refine wpAnyH_take (i := 7) (oi := ({ dst := some 64, op := Op.convert 22 3 (Operand.tmp 63), type := 3, pos := "ref.go:50", after := #[{ on := 6, ground := Ground.data }], guard := none } : Oper)) (v := .int .i64 f0) rfl (by kernel_rfl) (by kernel_rfl) (by kernel_rfl) (fun _ _ _ h => h) (Or.inl ⟨by rfl, ?_⟩) hS ?_
          · (intro w hSw; (try dsimp only at hSw); have z := HWF.out; go_simp; (try exact z))
          (try simp only [Act.put, List.setIfInBounds_toArray, List.set_cons_zero, List.set_cons_succ])
          refine wpAnyH_take (i := 8) (oi := ({ dst := some 65, op := Op.build 25 #[(0, Operand.tmp 58), (1, Operand.tmp 61), (2, Operand.tmp 64)], type := 25, pos := "ref.go:50", after := #[{ on := 1, ground := Ground.data }, { on := 4, ground := Ground.data }, { on := 7, ground := Ground.data }], guard := none } : Oper)) (v := .agg (hv ⟨e0, s0, f0, [0, 0, 0, 0]⟩)) rfl (by kernel_rfl) (by kernel_rfl) (by kernel_rfl) (fun _ _ _ h => h) (Or.inl ⟨by rfl, ?_⟩) hS ?_
          · (intro w hSw; (try dsimp only at hSw); go_simp; rfl)
          (try simp only [Act.put, List.setIfInBounds_toArray, List.set_cons_zero, List.set_cons_succ])
          refine rg_one 10 ({ dst := none, op := Op.store 25 (Operand.tmp 6) (Operand.tmp 65), type := 0, pos := "ref.go:50", after := #[{ on := 9, ground := Ground.data }, { on := 8, ground := Ground.data }, { on := 6, ground := Ground.chain }, { on := 0, ground := Ground.phase }, { on := 1, ground := Ground.phase }, { on := 2, ground := Ground.phase }, { on := 3, ground := Ground.phase }, { on := 4, ground := Ground.phase }, { on := 5, ground := Ground.phase }, { on := 6, ground := Ground.phase }, { on := 7, ground := Ground.phase }, { on := 8, ground := Ground.phase }, { on := 9, ground := Ground.phase }], guard := none } : Oper) (by kernel_rfl) rfl (fun K hK => ?_)
          rw [if_pos (by rfl)]; refine wp_put_hd (.tmp 6) (.tmp 65) rfl g noH ⟨e0, s0, f0, [0, 0, 0, 0]⟩ HA.out rfl rfl rfl ?_; intro w8 HA8 HG8; have HN1 := Lib.hid (show w.heap.size ≠ g ∧ w.heap.size + 1 ≠ g ∧ w.heap.size ≤ g from by have := HGE.out; omega); have hN := And.intro (hS.1.over HG8.out HN1.out.1) (And.intro (hS.2.1.over HG8.out HN1.out.2.1) (And.intro (hbelow_grown hS.2.2.1 HG8.out HN1.out.2.2 hS.2.2.1.size) (Nat.le_trans hS.2.2.2 HG8.out.size))); clear HA
          refine hK.out _ _ ?_ (fun hS1 => ?_)
          · (first | exact hS | exact hN | exact ⟨hS.1.keep hb, hS.2.1.keep hb, bch hS.2.2.1 hb, Nat.le_trans hS.2.2.2 hb.size⟩)
          clear hK K hS; have hS := hS1; clear hS1
          (try simp only [Act.put])
          refine wpAnyH_done (by kernel_rfl) ?_ _
          have HK8 := Lib.hid hS.1
          have HRB8 := Lib.hid hS.2.1
          have HW8 := Lib.hid hS.2.2.1
          have HA := Lib.hid HA8.out
          clear hS HA8 HG8
          (try clear hN hb)
          go_wp2
          go_loopw [7] (fun v wr => ∃ i : Nat, v = .int .i64 i ∧ i ≤ 4 ∧ Hid (HB wr g ⟨e0, s0, f0, rdl zs i⟩) ∧ Hid (Blk wr w.heap.size zs) ∧ Hid (HB wr (w.heap.size + 1) noH) ∧ Hid (Below w.heap.size w wr)) (fun v _ => 4 - (intOf v).toNat)
          case atStart => exact ⟨0, rfl, by omega, HA, HK8, HRB8, HW8⟩
          case round =>
            obtain ⟨i, rfl, hi, HAR, HKR, HRR, HBR⟩ := hrel
            by_cases hlt : i < 4
            · obtain ⟨x, hx⟩ : ∃ x, num zs (21 + 4 * i) 4 = x := ⟨_, rfl⟩
              have HXS := Lib.hid (rdl_set zs i hlt)
              rw [hx] at HXS
              have hxb : 0 ≤ x ∧ x < 4294967296 := by rw [← hx]; exact num_bd HZB.out _ 4
              have HGX := Lib.hid (fun w' hk => sec_rget w.heap.size (21 + 4 * i) 4 zs w' hk HZB.out (by omega) (by omega) (by omega) hx)
              obtain ⟨p, hp⟩ : ∃ p : Nat, 21 + 4 * i = p := ⟨_, rfl⟩
              rw [hp] at HGX
              obtain ⟨t, ht⟩ : ∃ t : Nat, 25 + 4 * i = t := ⟨_, rfl⟩
              obtain ⟨c, hc⟩ : ∃ c : Nat, 64 - p = c := ⟨_, rfl⟩
              rw [hc] at HGX
              have hp2 : (21 : Int) + 4 * (i : Int) = (p : Int) := by omega
              have ht2 : (25 : Int) + 4 * (i : Int) = (t : Int) := by omega
              have hlt2 : (i : Int) < 4 := by omega
              have hpb : (p : Int) ≤ (t : Int) := by omega
              have htb : (t : Int) ≤ 64 := by omega
              have htp : t - p = 4 := by omega
              have h64 : ¬ 64 = p := by omega
              clear hx hp ht
              go_wp2_with (first
                | (go_at_call 22; (with_reducible refine (HGX.out _ HKR.out).mono ?_); rintro r w9 ⟨rfl, hb9⟩; have HA9 := Lib.hid (HAR.out.keep hb9); have HK9 := Lib.hid (HKR.out.keep hb9); have HR9 := Lib.hid (HRR.out.keep hb9); have HB9 := Lib.hid (bch HBR.out hb9); have hc9 := HA9.out.head i hlt; have hf9 := HA9.out.frozen (3 + i); dsimp only at hc9; clear hb9))
              go_roundw
              case rel =>
                refine ⟨i + 1, by go_num, by omega, Lib.hid ?_, Lib.hid (HK9.out.apart HN1.out.1 _ _), Lib.hid (HR9.out.set_apart HN1.out.2.1 _ _), Lib.hid (HB9.out.setCell HN1.out.2.2 _)⟩
                have q1 := HA9.out.stored i x
                dsimp only at q1
                rw [HXS.out] at q1
                exact q1
              case measure => simp [intOf]; omega
            · obtain rfl : i = 4 := by omega
              have HRD := Lib.hid (rdl_all zs)
              have HAF := Lib.hid (show HB wr g (readH zs) from by have q1 := HAR.out; rw [HRD.out, HE.out] at q1; exact q1)
              go_wp2_with (first
                | (refine wpl_load_hd (by rfl) (.tmp 6) rfl rfl HAF2.out ?_)
                | (refine wpl_load_hd (by rfl) (.tmp 6) rfl rfl HAF.out ?_)
                | (go_at_call 8; (with_reducible refine (HOK.out _).mono ?_); rintro r w9 ⟨rfl, hb9⟩; have HAF2 := Lib.hid (HAF.out.keep hb9); have HR9 := Lib.hid (HRR.out.keep hb9); have HB9 := Lib.hid (bch HBR.out hb9); clear hb9)
                | (refine wpl_put_hd rfl (.tmp 2) (.tmp 86) rfl (w.heap.size + 1) noH (readH zs) HR9.out rfl rfl rfl ?_; intro wf HOF HGF))
              refine bodyPost_ret_by (results_row_tmp rfl _ _ (w.heap.size + 1) _ rfl HOF.out.load) rfl ⟨rfl, hbelow_grown HB9.out HGF.out (by omega) HB9.out.size⟩
      · skip
        rw [if_pos (by rfl)]; refine wp_new_hd rfl ?_; intro g w7 HA hg hb0; have hb := hb0.out; have HGE := Lib.hid (Nat.le_trans hS.2.2.2 hg.out); clear hg hb0
        refine hK.out _ _ ?_ (fun hS1 => ?_)
        · (first | exact hS | exact hN | exact ⟨hS.1.keep hb, hS.2.1.keep hb, bch hS.2.2.1 hb, Nat.le_trans hS.2.2.2 hb.size⟩)
        clear hK K hS; have hS := hS1; clear hS1
        (try simp only [Act.put, List.setIfInBounds_toArray, List.set_cons_zero, List.set_cons_succ])
        refine rg_one 1 ({ dst := some 58, op := Op.call { callee := Callee.value (Operand.func 22), args := #[Operand.tmp 57], argTypes := #[42] }, type := 22, pos := "ref.go:50", after := #[{ on := 0, ground := Ground.data }], guard := none } : Oper) (by kernel_rfl) rfl (fun K hK => ?_)
        go_simp
        (go_at_call 22; (refine (HG5.out _ hS.1).mono ?_); rintro r w4 ⟨rfl, hb⟩; (try (have q := Lib.hid (HA.out.keep hb); clear HA; have HA := q; clear q)))
        refine hK.out _ _ ?_ (fun hS1 => ?_)
        · (first | exact hS | exact hN | exact ⟨hS.1.keep hb, hS.2.1.keep hb, bch hS.2.2.1 hb, Nat.le_trans hS.2.2.2 hb.size⟩)
        clear hK K hS; have hS := hS1; clear hS1
        (try simp only [Act.put, List.setIfInBounds_toArray, List.set_cons_zero, List.set_cons_succ])
        refine rg_one 3 ({ dst := some 60, op := Op.call { callee := Callee.value (Operand.func 22), args := #[Operand.tmp 59], argTypes := #[42] }, type := 22, pos := "ref.go:50", after := #[{ on := 2, ground := Ground.data }, { on := 1, ground := Ground.chain }], guard := none } : Oper) (by kernel_rfl) rfl (fun K hK => ?_)
        go_simp
        (go_at_call 22; (refine (HG13.out _ hS.1).mono ?_); rintro r w5 ⟨rfl, hb⟩; (try (have q := Lib.hid (HA.out.keep hb); clear HA; have HA := q; clear q)))
        refine hK.out _ _ ?_ (fun hS1 => ?_)
        · (first | exact hS | exact hN | exact ⟨hS.1.keep hb, hS.2.1.keep hb, bch hS.2.2.1 hb, Nat.le_trans hS.2.2.2 hb.size⟩)
        clear hK K hS; have hS := hS1; clear hS1
        (try simp only [Act.put, List.setIfInBounds_toArray, List.set_cons_zero, List.set_cons_succ])
        refine wpAnyH_take (i := 4) (oi := ({ dst := some 61, op := Op.convert 22 3 (Operand.tmp 60), type := 3, pos := "ref.go:50", after := #[{ on := 3, ground := Ground.data }], guard := none } : Oper)) (v := .int .i64 s0) rfl (by kernel_rfl) (by kernel_rfl) (by kernel_rfl) (fun _ _ _ h => h) (Or.inl ⟨by rfl, ?_⟩) hS ?_
        · (intro w hSw; (try dsimp only at hSw); have z := HWS.out; go_simp; (try exact z))
        (try simp only [Act.put, List.setIfInBounds_toArray, List.set_cons_zero, List.set_cons_succ])
        refine rg_one 6 ({ dst := some 63, op := Op.call { callee := Callee.value (Operand.func 22), args := #[Operand.tmp 62], argTypes := #[42] }, type := 22, pos := "ref.go:50", after := #[{ on := 5, ground := Ground.data }, { on := 3, ground := Ground.chain }], guard := none } : Oper) (by kernel_rfl) rfl (fun K hK => ?_)
        go_simp
        (go_at_call 22; (refine (HG17.out _ hS.1).mono ?_); rintro r w6 ⟨rfl, hb⟩; (try (have q := Lib.hid (HA.out.keep hb); clear HA; have HA := q; clear q)))
        refine hK.out _ _ ?_ (fun hS1 => ?_)
        · (first | exact hS | exact hN | exact ⟨hS.1.keep hb, hS.2.1.keep hb, bch hS.2.2.1 hb, Nat.le_trans hS.2.2.2 hb.size⟩)
        clear hK K hS; have hS := hS1; clear hS1
        (try simp only [Act.put, List.setIfInBounds_toArray, List.set_cons_zero, List.set_cons_succ])
        refine wpAnyH_take (i := 7) (oi := ({ dst := some 64, op := Op.convert 22 3 (Operand.tmp 63), type := 3, pos := "ref.go:50", after := #[{ on := 6, ground := Ground.data }], guard := none } : Oper)) (v := .int .i64 f0) rfl (by kernel_rfl) (by kernel_rfl) (by kernel_rfl) (fun _ _ _ h => h) (Or.inl ⟨by rfl, ?_⟩) hS ?_
        · (intro w hSw; (try dsimp only at hSw); have z := HWF.out; go_simp; (try exact z))
        (try simp only [Act.put, List.setIfInBounds_toArray, List.set_cons_zero, List.set_cons_succ])
        refine wpAnyH_take (i := 8) (oi := ({ dst := some 65, op := Op.build 25 #[(0, Operand.tmp 58), (1, Operand.tmp 61), (2, Operand.tmp 64)], type := 25, pos := "ref.go:50", after := #[{ on := 1, ground := Ground.data }, { on := 4, ground := Ground.data }, { on := 7, ground := Ground.data }], guard := none } : Oper)) (v := .agg (hv ⟨e0, s0, f0, [0, 0, 0, 0]⟩)) rfl (by kernel_rfl) (by kernel_rfl) (by kernel_rfl) (fun _ _ _ h => h) (Or.inl ⟨by rfl, ?_⟩) hS ?_
        · (intro w hSw; (try dsimp only at hSw); go_simp; rfl)
        (try simp only [Act.put, List.setIfInBounds_toArray, List.set_cons_zero, List.set_cons_succ])
        refine rg_one 10 ({ dst := none, op := Op.store 25 (Operand.tmp 6) (Operand.tmp 65), type := 0, pos := "ref.go:50", after := #[{ on := 9, ground := Ground.data }, { on := 8, ground := Ground.data }, { on := 6, ground := Ground.chain }, { on := 0, ground := Ground.phase }, { on := 1, ground := Ground.phase }, { on := 2, ground := Ground.phase }, { on := 3, ground := Ground.phase }, { on := 4, ground := Ground.phase }, { on := 5, ground := Ground.phase }, { on := 6, ground := Ground.phase }, { on := 7, ground := Ground.phase }, { on := 8, ground := Ground.phase }, { on := 9, ground := Ground.phase }], guard := none } : Oper) (by kernel_rfl) rfl (fun K hK => ?_)
        rw [if_pos (by rfl)]; refine wp_put_hd (.tmp 6) (.tmp 65) rfl g noH ⟨e0, s0, f0, [0, 0, 0, 0]⟩ HA.out rfl rfl rfl ?_; intro w8 HA8 HG8; have HN1 := Lib.hid (show w.heap.size ≠ g ∧ w.heap.size + 1 ≠ g ∧ w.heap.size ≤ g from by have := HGE.out; omega); have hN := And.intro (hS.1.over HG8.out HN1.out.1) (And.intro (hS.2.1.over HG8.out HN1.out.2.1) (And.intro (hbelow_grown hS.2.2.1 HG8.out HN1.out.2.2 hS.2.2.1.size) (Nat.le_trans hS.2.2.2 HG8.out.size))); clear HA
        refine hK.out _ _ ?_ (fun hS1 => ?_)
        · (first | exact hS | exact hN | exact ⟨hS.1.keep hb, hS.2.1.keep hb, bch hS.2.2.1 hb, Nat.le_trans hS.2.2.2 hb.size⟩)
        clear hK K hS; have hS := hS1; clear hS1
        (try simp only [Act.put])
        refine wpAnyH_done (by kernel_rfl) ?_ _
        have HK8 := Lib.hid hS.1
        have HRB8 := Lib.hid hS.2.1
        have HW8 := Lib.hid hS.2.2.1
        have HA := Lib.hid HA8.out
        clear hS HA8 HG8
        (try clear hN hb)
        go_wp2
        go_loopw [7] (fun v wr => ∃ i : Nat, v = .int .i64 i ∧ i ≤ 4 ∧ Hid (HB wr g ⟨e0, s0, f0, rdl zs i⟩) ∧ Hid (Blk wr w.heap.size zs) ∧ Hid (HB wr (w.heap.size + 1) noH) ∧ Hid (Below w.heap.size w wr)) (fun v _ => 4 - (intOf v).toNat)
        case atStart => exact ⟨0, rfl, by omega, HA, HK8, HRB8, HW8⟩
        case round =>
          obtain ⟨i, rfl, hi, HAR, HKR, HRR, HBR⟩ := hrel
          by_cases hlt : i < 4
          · obtain ⟨x, hx⟩ : ∃ x, num zs (21 + 4 * i) 4 = x := ⟨_, rfl⟩
            have HXS := Lib.hid (rdl_set zs i hlt)
            rw [hx] at HXS
            have hxb : 0 ≤ x ∧ x < 4294967296 := by rw [← hx]; exact num_bd HZB.out _ 4
            have HGX := Lib.hid (fun w' hk => sec_rget w.heap.size (21 + 4 * i) 4 zs w' hk HZB.out (by omega) (by omega) (by omega) hx)
            obtain ⟨p, hp⟩ : ∃ p : Nat, 21 + 4 * i = p := ⟨_, rfl⟩
            rw [hp] at HGX
            obtain ⟨t, ht⟩ : ∃ t : Nat, 25 + 4 * i = t := ⟨_, rfl⟩
            obtain ⟨c, hc⟩ : ∃ c : Nat, 64 - p = c := ⟨_, rfl⟩
            rw [hc] at HGX
            have hp2 : (21 : Int) + 4 * (i : Int) = (p : Int) := by omega
            have ht2 : (25 : Int) + 4 * (i : Int) = (t : Int) := by omega
            have hlt2 : (i : Int) < 4 := by omega
            have hpb : (p : Int) ≤ (t : Int) := by omega
            have htb : (t : Int) ≤ 64 := by omega
            have htp : t - p = 4 := by omega
            have h64 : ¬ 64 = p := by omega
            clear hx hp ht
            go_wp2_with (first
              | (go_at_call 22; (with_reducible refine (HGX.out _ HKR.out).mono ?_); rintro r w9 ⟨rfl, hb9⟩; have HA9 := Lib.hid (HAR.out.keep hb9); have HK9 := Lib.hid (HKR.out.keep hb9); have HR9 := Lib.hid (HRR.out.keep hb9); have HB9 := Lib.hid (bch HBR.out hb9); have hc9 := HA9.out.head i hlt; have hf9 := HA9.out.frozen (3 + i); dsimp only at hc9; clear hb9))
            go_roundw
            case rel =>
              refine ⟨i + 1, by go_num, by omega, Lib.hid ?_, Lib.hid (HK9.out.apart HN1.out.1 _ _), Lib.hid (HR9.out.set_apart HN1.out.2.1 _ _), Lib.hid (HB9.out.setCell HN1.out.2.2 _)⟩
              have q1 := HA9.out.stored i x
              dsimp only at q1
              rw [HXS.out] at q1
              exact q1
            case measure => simp [intOf]; omega
          · obtain rfl : i = 4 := by omega
            have HRD := Lib.hid (rdl_all zs)
            have HAF := Lib.hid (show HB wr g (readH zs) from by have q1 := HAR.out; rw [HRD.out, HE.out] at q1; exact q1)
            go_wp2_with (first
              | (refine wpl_load_hd (by rfl) (.tmp 6) rfl rfl HAF2.out ?_)
              | (refine wpl_load_hd (by rfl) (.tmp 6) rfl rfl HAF.out ?_)
              | (go_at_call 8; (with_reducible refine (HOK.out _).mono ?_); rintro r w9 ⟨rfl, hb9⟩; have HAF2 := Lib.hid (HAF.out.keep hb9); have HR9 := Lib.hid (HRR.out.keep hb9); have HB9 := Lib.hid (bch HBR.out hb9); clear hb9)
              | (refine wpl_put_hd rfl (.tmp 2) (.tmp 86) rfl (w.heap.size + 1) noH (readH zs) HR9.out rfl rfl rfl ?_; intro wf HOF HGF))
            refine bodyPost_ret_by (results_row_tmp rfl _ _ (w.heap.size + 1) _ rfl HOF.out.load) rfl ⟨rfl, hbelow_grown HB9.out HGF.out (by omega) HB9.out.size⟩
theorem rdec_any (zs : List Int) (hl : zs.length = 64) (hb : isB zs) (w : World) {h : Hdr} {x : Int} (hd : headD zs = (h, x)) :
    Calls Tryd.prog 13 #[.agg (sv zs)] w fun r w' => r = .returned (.tuple #[.agg (hv h), .int .i64 x]) ∧ Below w.heap.size w w' := by
  rcases headD_cases (zs := zs) with ⟨h1, e⟩ | ⟨h1, h2, e⟩ | ⟨h1, h2, h3, h4, e⟩ | ⟨h1, h2, h3, h4, h5, e⟩ | ⟨h1, h2, h3, h4, h5, e⟩ <;> (rw [hd] at e; obtain ⟨rfl, rfl⟩ := Prod.mk.inj e)
  · exact rdec_none zs hl hb w h1
  · by_cases hm : zs.take 5 = mark
    · exact rdec_rest zs hl hb w h1 hm (fun q => (h2.elim (fun k => k hm) (fun k => k q)))
    · exact rdec_mark zs hl hb w h1 hm
  · exact rdec_sum zs hl hb w h1 h2 h3 h4
  · exact rdec_wrong zs hl hb w h1 h2 h3 h4 h5
  · exact rdec_ok zs hl hb w h1 h2 h3 h4 h5
end Go.Proofs.YtncnmmillhnhlaaDoor
