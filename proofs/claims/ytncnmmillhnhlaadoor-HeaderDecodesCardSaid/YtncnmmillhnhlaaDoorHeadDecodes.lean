/-
  THE WALK OF HeaderDecodes (layer 18): of whatever sector the call returns true and changes nothing that was there. (Written by wip/gen/g29.py.)
-/
import Derived.Test.YtncnmmillhnhlaaDoorHeadLaws
import Derived.Test.YtncnmmillhnhlaaDoorHeadDecR
namespace Go.Proofs.YtncnmmillhnhlaaDoor
open Go.RowKit
theorem hd_err {zs : List Int} {h : Hdr} {x : Int} (hd : headD zs = (h, x)) (hx : x ≠ 0) : h = noH := by
  rcases headD_cases (zs := zs) with ⟨_, e⟩ | ⟨_, _, e⟩ | ⟨_, _, _, _, e⟩ | ⟨_, _, _, _, _, e⟩ | ⟨_, _, _, _, _, e⟩ <;> (rw [hd] at e; obtain ⟨h1, h2⟩ := Prod.mk.inj e)
  · exact h1
  · exact h1
  · exact h1
  · exact h1
  · exact absurd h2 hx
set_option maxRecDepth 8000 in
set_option maxHeartbeats 4000000 in
theorem decodes_no (zs : List Int) (hl : zs.length = 64) (hb : isB zs) (w : World) (hT : Tab w) {h : Hdr} {x : Int} (hd : headD zs = (h, x)) (hx : x ≠ 0) :
    Calls Tryd.prog 4 #[.agg (sv zs)] w fun r w' => r = .returned (.bool true) ∧ Below w.heap.size w w' := by
  obtain ⟨w0, hw0⟩ : ∃ q, w.alloc (.cells (sv zs) 27) = q := ⟨_, rfl⟩
  have HK := Lib.hid (show Blk w0 w.heap.size zs from by rw [← hw0]; exact Blk.new w zs hl)
  have HW := Lib.hid (show Below w.heap.size w w0 from by rw [← hw0]; exact balloc w _)
  have HT := Lib.hid hT
  have HL := Lib.hid hl
  have hty : HdT h := by have := headD_typed hb; rwa [hd] at this
  have HN := Lib.hid hty.n
  have HZ := Lib.hid z64_cells
  have HD : Hid (∀ w, Tab w → Calls Tryd.prog 11 #[.agg (sv zs)] w fun r w' => r = .returned (.tuple #[.agg (hv h), .int .i64 x]) ∧ Below w.heap.size w w') := Lib.hid fun w q => hdec_any zs hl hb w q hd
  have HR : Hid (∀ w, Calls Tryd.prog 13 #[.agg (sv zs)] w fun r w' => r = .returned (.tuple #[.agg (hv h), .int .i64 x]) ∧ Below w.heap.size w w') := Lib.hid fun w => rdec_any zs hl hb w hd
  have hh : h = noH := hd_err hd hx
  subst hh
  have HE : Hid (∀ w, Tab w → Calls Tryd.prog 6 #[.agg (hv noH)] w fun r w' => r = .returned (.tuple #[.agg (sv z64), .int .i64 13]) ∧ Below w.heap.size w w') := Lib.hid fun w _ => henc_no noH noH_typed (by decide) w
  have hx1 : (x != 0) = true := by simpa using hx
  clear hl hb hT hd hx hty
  go_enter Tryd.func4, Tryd.ntmps4
  go_wp2_with (first
    | (go_at_call 11; (with_reducible refine (HD.out _ (HT.out.keep HW.out)).mono ?_); rintro r w1 ⟨rfl, hb1⟩; have HB1 := Lib.hid (bch HW.out hb1); have HK1 := Lib.hid (HK.out.keep hb1); clear hb1)
    | (refine wpl_put_hd rfl (.tmp 3) (.tmp 12) rfl w1.heap.size noH noH (HB.new w1 noH rfl) HN.out rfl rfl ?_; intro w2 HA2 HG2; have HB2 := Lib.hid (bch HB1.out (new_below HG2.out)); have HK2 := Lib.hid (HK1.out.keep (new_below HG2.out)))
    | (go_at_call 13; (with_reducible refine (HR.out _).mono ?_); rintro r w3 ⟨rfl, hb3⟩; have HB3 := Lib.hid (bch HB2.out hb3); have HK3 := Lib.hid (HK2.out.keep hb3); have HA3 := Lib.hid (HA2.out.keep hb3); clear hb3)
    | (refine wpl_put_hd rfl (.tmp 5) (.tmp 17) rfl w3.heap.size noH noH (HB.new w3 noH rfl) HN.out rfl rfl ?_; intro w4 HC4 HG4; have HB4 := Lib.hid (bch HB3.out (new_below HG4.out)); have HK4 := Lib.hid (HK3.out.keep (new_below HG4.out)); have HA4 := Lib.hid (HA3.out.keep (new_below HG4.out)))
    | (refine wpl_load_hd (by rfl) (.tmp 3) rfl rfl HA4.out ?_)
    | (refine wpl_load_hd (by rfl) (.tmp 5) rfl rfl HC4.out ?_)
    | (refine wpl_neq_hd (.tmp 19) (.tmp 20) _ rfl HN.out HN.out rfl rfl (by rfl) ?_; rw [show (!decide (noH = noH)) = false from by simp])
    | (go_at_call 6; (with_reducible refine (HE.out _ (HT.out.keep HB4.out)).mono ?_); rintro r w5 ⟨rfl, hb5⟩; have HB5 := Lib.hid (bch HB4.out hb5); have HK5 := Lib.hid (HK4.out.keep hb5); clear hb5)
    | (rw [← HZ.out]; refine wpl_put_sec rfl (.tmp 7) (.tmp 30) rfl w5.heap.size z64 z64 (Blk.new w5 z64 z64_length) z64_length rfl rfl ?_; intro w6 HC6 HG6; have HB6 := Lib.hid (bch HB5.out (new_below HG6.out)); have HK6 := Lib.hid (HK5.out.keep (new_below HG6.out)))
    | (go_at_call 10; (with_reducible refine (awake_any (HT.out.keep HB6.out)).mono ?_); rintro r w7 ⟨rfl, hb7⟩; have HB7 := Lib.hid (bch HB6.out hb7); clear hb7)
    | (refine wpl_load_sec (by rfl) (.tmp 1) rfl w.heap.size rfl zs HK.out ?_)
    | (refine wpl_load_sec (by rfl) (.tmp 1) rfl w.heap.size rfl zs HK2.out ?_)
    | (refine wpl_load_sec (by rfl) (.tmp 1) rfl w.heap.size rfl zs HK6.out ?_)
    | (refine wpl_load_sec (by rfl) (.tmp 7) rfl w5.heap.size rfl z64 HC6.out ?_))
  go_ret
  exact ⟨rfl, HB7.out⟩
set_option maxRecDepth 8000 in
set_option maxHeartbeats 4000000 in
theorem decodes_ok (zs : List Int) (hl : zs.length = 64) (hb : isB zs) (w : World) (hT : Tab w) {h : Hdr} {x : Int} (hd : headD zs = (h, x)) (hx : x = 0) :
    Calls Tryd.prog 4 #[.agg (sv zs)] w fun r w' => r = .returned (.bool true) ∧ Below w.heap.size w w' := by
  obtain ⟨w0, hw0⟩ : ∃ q, w.alloc (.cells (sv zs) 27) = q := ⟨_, rfl⟩
  have HK := Lib.hid (show Blk w0 w.heap.size zs from by rw [← hw0]; exact Blk.new w zs hl)
  have HW := Lib.hid (show Below w.heap.size w w0 from by rw [← hw0]; exact balloc w _)
  have HT := Lib.hid hT
  have HL := Lib.hid hl
  have hty : HdT h := by have := headD_typed hb; rwa [hd] at this
  have HN := Lib.hid hty.n
  have HZ := Lib.hid z64_cells
  have HD : Hid (∀ w, Tab w → Calls Tryd.prog 11 #[.agg (sv zs)] w fun r w' => r = .returned (.tuple #[.agg (hv h), .int .i64 x]) ∧ Below w.heap.size w w') := Lib.hid fun w q => hdec_any zs hl hb w q hd
  have HR : Hid (∀ w, Calls Tryd.prog 13 #[.agg (sv zs)] w fun r w' => r = .returned (.tuple #[.agg (hv h), .int .i64 x]) ∧ Below w.heap.size w w') := Lib.hid fun w => rdec_any zs hl hb w hd
  subst hx
  have hok := hd_back hb hl (by rw [hd])
  rw [hd] at hok
  have hsz : secH h = zs := hok.2
  have HE : Hid (∀ w, Tab w → Calls Tryd.prog 6 #[.agg (hv h)] w fun r w' => r = .returned (.tuple #[.agg (sv zs), .int .i64 0]) ∧ Below w.heap.size w w') := Lib.hid fun w q => by rw [← hsz]; exact henc_ok h hty hok.1 w q
  clear hl hb hT hd hok hsz hty
  go_enter Tryd.func4, Tryd.ntmps4
  go_wp2_with (first
    | (go_at_call 11; (with_reducible refine (HD.out _ (HT.out.keep HW.out)).mono ?_); rintro r w1 ⟨rfl, hb1⟩; have HB1 := Lib.hid (bch HW.out hb1); have HK1 := Lib.hid (HK.out.keep hb1); clear hb1)
    | (refine wpl_put_hd rfl (.tmp 3) (.tmp 12) rfl w1.heap.size noH h (HB.new w1 noH rfl) HN.out rfl rfl ?_; intro w2 HA2 HG2; have HB2 := Lib.hid (bch HB1.out (new_below HG2.out)); have HK2 := Lib.hid (HK1.out.keep (new_below HG2.out)))
    | (go_at_call 13; (with_reducible refine (HR.out _).mono ?_); rintro r w3 ⟨rfl, hb3⟩; have HB3 := Lib.hid (bch HB2.out hb3); have HK3 := Lib.hid (HK2.out.keep hb3); have HA3 := Lib.hid (HA2.out.keep hb3); clear hb3)
    | (refine wpl_put_hd rfl (.tmp 5) (.tmp 17) rfl w3.heap.size noH h (HB.new w3 noH rfl) HN.out rfl rfl ?_; intro w4 HC4 HG4; have HB4 := Lib.hid (bch HB3.out (new_below HG4.out)); have HK4 := Lib.hid (HK3.out.keep (new_below HG4.out)); have HA4 := Lib.hid (HA3.out.keep (new_below HG4.out)))
    | (refine wpl_load_hd (by rfl) (.tmp 3) rfl rfl HA4.out ?_)
    | (refine wpl_load_hd (by rfl) (.tmp 5) rfl rfl HC4.out ?_)
    | (refine wpl_neq_hd (.tmp 19) (.tmp 20) _ rfl HN.out HN.out rfl rfl (by rfl) ?_; rw [show (!decide (h = h)) = false from by simp])
    | (go_at_call 6; (with_reducible refine (HE.out _ (HT.out.keep HB4.out)).mono ?_); rintro r w5 ⟨rfl, hb5⟩; have HB5 := Lib.hid (bch HB4.out hb5); have HK5 := Lib.hid (HK4.out.keep hb5); clear hb5)
    | (rw [← HZ.out]; refine wpl_put_sec rfl (.tmp 7) (.tmp 30) rfl w5.heap.size z64 zs (Blk.new w5 z64 z64_length) HL.out rfl rfl ?_; intro w6 HC6 HG6; have HB6 := Lib.hid (bch HB5.out (new_below HG6.out)); have HK6 := Lib.hid (HK5.out.keep (new_below HG6.out)))
    | (go_at_call 10; (with_reducible refine (awake_any (HT.out.keep HB6.out)).mono ?_); rintro r w7 ⟨rfl, hb7⟩; have HB7 := Lib.hid (bch HB6.out hb7); clear hb7)
    | (refine wpl_load_sec (by rfl) (.tmp 1) rfl w.heap.size rfl zs HK.out ?_)
    | (refine wpl_load_sec (by rfl) (.tmp 1) rfl w.heap.size rfl zs HK2.out ?_)
    | (refine wpl_load_sec (by rfl) (.tmp 1) rfl w.heap.size rfl zs HK6.out ?_)
    | (refine wpl_load_sec (by rfl) (.tmp 7) rfl w5.heap.size rfl zs HC6.out ?_)
    | (refine wpl_eq_sec (.tmp 38) (.tmp 39) _ rfl zs zs HL.out HL.out rfl rfl (by rfl) ?_; rw [show decide (zs = zs) = true from by simp]))
  go_ret
  exact ⟨rfl, HB7.out⟩
theorem decodes_walk (zs : List Int) (hl : zs.length = 64) (hb : isB zs) (w : World) (hT : Tab w) :
    Calls Tryd.prog 4 #[.agg (sv zs)] w fun r w' => r = .returned (.bool true) ∧ Below w.heap.size w w' := by
  by_cases hx : (headD zs).2 = 0
  · exact decodes_ok zs hl hb w hT (h := (headD zs).1) (x := (headD zs).2) rfl hx
  · exact decodes_no zs hl hb w hT (h := (headD zs).1) (x := (headD zs).2) rfl hx
end Go.Proofs.YtncnmmillhnhlaaDoor
