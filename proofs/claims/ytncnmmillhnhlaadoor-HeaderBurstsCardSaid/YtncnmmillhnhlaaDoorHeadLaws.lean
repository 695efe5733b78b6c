/-
  WALKS OF THE LAWS OF LAYER 18 (header): awake; where the laws stand. The table of half a byte's steps must lie in its block as start-up lays it.
-/
import Derived.Test.YtncnmmillhnhlaaDoorHeadEnc
import Derived.Test.YtncnmmillhnhlaaDoorHeadDec
namespace Go.Proofs.YtncnmmillhnhlaaDoor
open Go.RowKit
theorem new_below {w w' : World} {o : Obj} (h : (w.alloc o).grownBy w' (some w.heap.size)) : Below w.heap.size w w' := hbelow_grown (balloc w o) h (Nat.le_refl _) (balloc w o).size
def h1 : Hdr := ⟨1, 1, 1, [0, 0, 0, 0]⟩
theorem h1_typed : HdT h1 := ⟨by unfold U64 h1; dsimp only; omega, by unfold I63 h1; dsimp only; omega, by unfold I63 h1; dsimp only; omega, rfl, fun x hx => by
  simp only [h1, List.mem_cons, List.not_mem_nil, or_false, or_self] at hx; subst hx; unfold I63; omega⟩
theorem secH_get {h : Hdr} (hn : h.l.length = 4) (i : Nat) (hi : i < 5) : (secH h).getD i 0 = mark.getD i 0 := by
  rw [← secH_mark hn]; simp only [List.getD, List.getElem?_take, hi, if_true]
set_option maxRecDepth 8000 in
set_option maxHeartbeats 2000000 in
theorem awake_any {w : World} (ht : Tab w) : Calls Tryd.prog 10 #[] w fun e w' => e = .returned (.bool true) ∧ Below w.heap.size w w' := by
  have HT := Lib.hid ht; clear ht
  have HZ := Lib.hid z64_cells
  have HN := Lib.hid (secH_length h1_typed.n)
  have HE : Hid (∀ w, Tab w → Calls Tryd.prog 6 #[.agg #[.int .u64 1, .int .i64 1, .int .i64 1, .int .i64 0, .int .i64 0, .int .i64 0, .int .i64 0]] w fun r w' => r = .returned (.tuple #[.agg (sv (secH h1)), .int .i64 0]) ∧ Below w.heap.size w w') := Lib.hid fun w h => henc_ok h1 h1_typed (by decide) w h
  have HD : Hid (∀ w, Tab w → Calls Tryd.prog 11 #[.agg (sv (secH h1))] w fun r w' => r = .returned (.tuple #[.agg (hv h1), .int .i64 0]) ∧ Below w.heap.size w w') := Lib.hid fun w h => hdec_any (secH h1) (secH_length h1_typed.n) (secH_bytes h1) w h (hd_got h1_typed (by decide))
  have HG0 := Lib.hid (secH_get h1_typed.n 0 (by omega))
  have HG4 := Lib.hid (secH_get h1_typed.n 4 (by omega))
  go_enter Tryd.func10, Tryd.ntmps10
  go_wp2_with (first
    | (go_at_call 6; (with_reducible refine (HE.out _ HT.out).mono ?_); rintro r w1 ⟨rfl, hb1⟩; have HB1 := Lib.hid hb1; clear hb1)
    | (rw [← HZ.out]; refine wpl_put_sec rfl (.tmp 1) (.tmp 8) rfl w1.heap.size z64 (secH h1) (Blk.new w1 z64 z64_length) HN.out rfl rfl ?_; intro w2 HK2 HG2; have HB2 := Lib.hid (bch HB1.out (new_below HG2.out)))
    | (refine wpl_load_sec (by rfl) (.tmp 1) rfl w1.heap.size rfl (secH h1) HK2.out ?_)
    | (go_at_call 11; (with_reducible refine (HD.out _ (HT.out.keep HB2.out)).mono ?_); rintro r w3 ⟨rfl, hb3⟩; have HB3 := Lib.hid (bch HB2.out hb3); have HK3 := Lib.hid (HK2.out.keep hb3); clear hb3)
    | (refine wpl_put_hd rfl (.tmp 3) (.tmp 13) rfl w3.heap.size noH h1 (HB.new w3 noH rfl) rfl rfl rfl ?_; intro w4 HA4 HG4b; have HB4 := Lib.hid (bch HB3.out (new_below HG4b.out)); have hK4 := HK3.out.keep (new_below HG4b.out); have hc0 := hK4.cell 0 (by omega); have hc4 := hK4.cell 4 (by omega); rw [HG0.out] at hc0; rw [HG4.out] at hc4; replace hc0 : w4.cell? ⟨w1.heap.size, 0, none⟩ = some (.int .u8 115) := hc0; replace hc4 : w4.cell? ⟨w1.heap.size, 4, none⟩ = some (.int .u8 1) := hc4; clear hK4))
  go_ret
  exact ⟨rfl, HB4.out⟩
end Go.Proofs.YtncnmmillhnhlaaDoor
