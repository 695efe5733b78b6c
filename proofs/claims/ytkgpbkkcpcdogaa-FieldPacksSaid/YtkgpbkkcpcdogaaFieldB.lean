/-
  'awake' OF LAYER 4, and texts of slices of bytes.
-/
import Derived.Test.YtkgpbkkcpcdogaaFieldCode
import Derived.Test.YtkgpbkkcpcdogaaRegion
import Derived.Deep.RegionHeld3
namespace Go.Proofs.Ytkgpbkkcpcdogaa
open Go.RowKit
/-- the text of what a slice of bytes holds -/
theorem conv_ri {w : World} {v : Value} {n : Nat} {zs : List Int} (h : RI .u8 w v n zs) : (convert 22 9 v).run Try.prog w = .ok (.string (strOfNums zs)) w :=
  conv_of Try.underlying22 Try.underlying5 Try.underlying9 h
/-- a slice literal's bytes -/
theorem RI.lit (w : World) (e : TypeId) (k : IntKind) (zs : List Int) (n : Nat) (hn : zs.length = n) (h63 : n ≤ 9223372036854775807) :
    RI k (w.alloc (.cells (il k zs).toArray e)) (.slice (some ⟨w.heap.size, 0, none⟩) n n) n zs := by
  refine ⟨_, n, rfl, hn, Nat.le_refl _, h63, fun h => by simp at h, fun _ => ⟨w.heap.size, 0, rfl, fun j hj => ?_⟩⟩
  have hg : (w.alloc (.cells (il k zs).toArray e)).heap[w.heap.size]? = some (.cells (il k zs).toArray e (0, 0)) := by
    show (w.heap.push _)[w.heap.size]? = _
    simp
  rw [Nat.zero_add, cell_of_row _ w.heap.size j _ e _ hg]
  simpa using il_get k zs j (by omega)
theorem unpack_2 (w : World) : Calls Try.prog 11 #[.slice (some ⟨w.heap.size, 0, none⟩) 4 4] (w.alloc (.cells #[.int .u8 2, .int .u8 97, .int .u8 98, .int .u8 0] 5))
    fun e w' => ∃ b off c x1 c1 x2 c2, e = .returned (.tuple #[.slice (some ⟨b, off, none⟩) 2 c, .int .i64 0]) ∧ w'.cell? ⟨b, off, none⟩ = some (.slice x1 2 c1) ∧ w'.cell? ⟨b, off + 1, none⟩ = some (.slice x2 0 c2) ∧
      (convert 22 9 (.slice x1 2 c1)).run Try.prog w' = .ok (.string ⟨#[97, 98]⟩) w' ∧ Below w.heap.size w w' := by
  have hr := RI.lit w 5 .u8 [2, 97, 98, 0] 4 rfl (by omega)
  have hf := fields_2
  have hu : ur [2, 97, 98, 0] = [[97, 98], []] := by rw [ur_zero _ (by rw [hf]), hf]
  refine (funpack_any _ 4 [2, 97, 98, 0] _ hr (by unfold isB; decide) (by omega) 2 [[97, 98], []] 0 hu rfl (by rw [hf])).mono fun e w' ⟨v', he, hl, hb⟩ => ?_
  obtain ⟨a, c, rfl, _⟩ := hl.form
  obtain ⟨b, off, rfl, hat⟩ := hl.at_ (by omega)
  obtain ⟨x1, c1, h1, r1⟩ := hat 0 (by omega)
  obtain ⟨x2, c2, h2, r2⟩ := hat 1 (by omega)
  exact ⟨b, off, c, x1, c1, x2, c2, he, h1, h2, (conv_ri (zs := [97, 98]) r1).trans rfl, ((Below.refl w.heap.size w).alloc (Nat.le_refl _) _).trans (hb.mono (by simp))⟩
set_option maxRecDepth 8000 in
set_option maxHeartbeats 800000 in
theorem awake_any (w : World) : Calls Try.prog 7 #[] w fun e w' => e = .returned (.bool true) ∧ Below w.heap.size w w' := by
  go_enter Try.func7, Try.ntmps7
  go_wp2_with (first
    | (go_at_call 11; (with_reducible refine (unpack_2 _).mono ?_); rintro e w' ⟨b, off, c, x1, c1, x2, c2, rfl, hc1, hc2, hv, hb⟩; have HB := Lib.hid hb; clear hb))
  go_ret
  exact ⟨rfl, HB.out⟩
end Go.Proofs.Ytkgpbkkcpcdogaa
