/-
  WHAT THE FUNCTIONS OF crc ANSWER (but Shift, Join and Unmask): four, eight, More, Of, Mask, math/bits' RotateLeft32 at 15 and at -15. For every input that its types allow; the table of half a byte's steps must lie in its block as start-up lays it.
-/
import Derived.Test.YtncnmmillhnhlaaDoorCrcRef
import Derived.Lib.SlBytesConst
namespace Go.Proofs.YtncnmmillhnhlaaDoor
open Go.RowKit
/-- the table of half a byte's steps lies in block 0 -/
def Tab (w : World) : Prop := ∀ j : Nat, j < 16 → w.cell? ⟨0, j, none⟩ = some (.int .u32 ((stn 4 j : Nat) : Int))
theorem half_list : ∀ j : Nat, j < 16 → ([0, 274646895, 549293790, 820201905, 1098587580, 1361435347, 1640403810, 1905808397, 2197175160, 2460548119, 2722870694, 2987750089, 3280807620, 3553878443, 3811616794, 4084100981] : List Int).getD j 0 = ((stn 4 j : Nat) : Int) := by decide
theorem tab_of {w : World} (h : ∀ j : Nat, j < 16 → w.cell? ⟨0, j, none⟩ = some (.int .u32 (([0, 274646895, 549293790, 820201905, 1098587580, 1361435347, 1640403810, 1905808397, 2197175160, 2460548119, 2722870694, 2987750089, 3280807620, 3553878443, 3811616794, 4084100981] : List Int).getD j 0))) : Tab w :=
  fun j hj => by rw [h j hj, half_list j hj]
theorem Tab.keep {w w' : World} (h : Tab w) (hb : Below w.heap.size w w') : Tab w' := fun j hj => cell_keep hb (h j hj)
theorem flip32 (s : Nat) (h : s < 4294967296) : bits .xor .u32 IntKind.u32.max (s : Int) = ((4294967295 - s : Nat) : Int) := by
  rw [show IntKind.u32.max = ((4294967295 : Nat) : Int) from by decide, u32_xor_nat _ _ (by omega) h, not32 s h, Nat.xor_comm]
/-- half a byte's steps, in the walk's spelling -/
theorem half_bits (r : Nat) (h : r < 4294967296) : bits .xor .u32 ((r : Int) / 16) ((stn 4 (r % 16) : Nat) : Int) = ((stn 4 r : Nat) : Int) := by
  have := u32_xor_nat (r / 16) (stn 4 (r % 16)) (by omega) (stn_lt 4 _ (by omega))
  rw [← half_step] at this
  rw [← this]; congr 1
theorem four_any (r : Nat) (h : r < 4294967296) {w : World} (ht : Tab w) {m : Nat} (hm : stn 4 r = m) : Calls Tryd.prog 37 #[.int .u32 r] w fun e w' => e = .returned (.int .u32 m) ∧ w = w' := by
  have hc := ht (r % 16) (by omega)
  have hy := half_bits r h
  rw [hm] at hy
  have hr : (r : Int) ≤ 4294967295 := by omega
  clear ht hm h
  go_enter Tryd.func37, Tryd.ntmps37
  go_wp2
  go_ret
  exact ⟨rfl, rfl⟩
theorem eight_any (r : Nat) (h : r < 4294967296) {w : World} (ht : Tab w) {m : Nat} (hm : stn 8 r = m) : Calls Tryd.prog 36 #[.int .u32 r] w fun e w' => e = .returned (.int .u32 m) ∧ w = w' := by
  obtain ⟨r1, hr1⟩ : ∃ r1, stn 4 r = r1 := ⟨_, rfl⟩
  have H1 := Lib.hid hr1
  have H2 := Lib.hid (show stn 4 r1 = m from by rw [← hr1, ← hm, show (8 : Nat) = 4 + 4 from rfl, stn_add])
  have HL := Lib.hid (show r1 < 4294967296 from by rw [← hr1]; exact stn_lt 4 r h)
  have HR := Lib.hid h
  have HT := Lib.hid ht
  clear hr1 hm h ht
  go_enter Tryd.func36, Tryd.ntmps36
  go_wp2_with (first | (go_at_call 37; first | ((with_reducible refine (four_any r HR.out HT.out H1.out).mono ?_); rintro e w' ⟨rfl, rfl⟩) | ((with_reducible refine (four_any r1 HL.out HT.out H2.out).mono ?_); rintro e w' ⟨rfl, rfl⟩)))
  go_ret
  exact ⟨rfl, rfl⟩
set_option maxRecDepth 8000 in
set_option maxHeartbeats 800000 in
theorem more_some (s : Nat) (h : s < 4294967296) (b off len cap : Nat) (zs : List Int) (w : World) (ht : Tab w) (hz : zs.length = len) (hb : ∀ x ∈ zs, 0 ≤ x ∧ x ≤ 255) (hl : (len : Int) ≤ 9223372036854775807)
    (hc : ∀ j, j < len → w.cell? ⟨b, off + j, none⟩ = some (.int .u8 (zs.getD j 0))) :
    Calls Tryd.prog 34 #[.int .u32 s, .slice (some ⟨b, off, none⟩) len cap] w fun e w' => e = .returned (.int .u32 (moreS s zs)) ∧ w = w' := by
  have hs : (s : Int) ≤ 4294967295 := by omega
  obtain ⟨m, hm⟩ : ∃ m, moreS s zs = m := ⟨_, rfl⟩
  rw [hm]
  have HM := Lib.hid hm
  have HC := Lib.hid hc
  have HZ := Lib.hid hz
  have HB := Lib.hid hb
  have HS := Lib.hid h
  have HT := Lib.hid ht
  have hf := flip32 s h
  obtain ⟨f, hfe⟩ : ∃ f, 4294967295 - s = f := ⟨_, rfl⟩
  rw [hfe] at hf
  have HF := Lib.hid hfe
  clear hm hc hz hb h ht hfe
  go_enter Tryd.func34, Tryd.ntmps34
  go_wp2
  go_loop [5, 12] (fun x i => ∃ (k r : Nat), i = .int .i64 k ∧ x = .int .u32 r ∧ k ≤ len ∧ Hid (r < 4294967296) ∧ Hid (reg r (zs.drop k) = reg f zs)) (fun _ i => len - (intOf i).toNat)
  case atStart => exact ⟨0, f, rfl, rfl, by omega, Lib.hid (by have := HF.out; omega), rfl⟩
  case round =>
    obtain ⟨k, r, rfl, rfl, hk, HR, HG⟩ := hrel
    by_cases hlt : k < len
    · obtain ⟨x, hx⟩ : ∃ x, zs.getD k 0 = x := ⟨_, rfl⟩
      have hcell : w.cell? ⟨b, off + k, none⟩ = some (.int .u8 x) := by rw [← hx]; exact HC.out k hlt
      have hxb : 0 ≤ x ∧ x ≤ 255 := by
        rw [← hx]; exact (bytes_of_mem HB.out) k
      have HD := Lib.hid (show reg r (x :: zs.drop (k + 1)) = reg f zs from by rw [← hx, ← drop_getD zs k (by rw [HZ.out]; exact hlt)]; exact HG.out)
      obtain ⟨y, rfl⟩ : ∃ y : Nat, x = (y : Int) := ⟨x.toNat, by omega⟩
      have hxx := u32_xor_nat r y HR.out (by omega)
      obtain ⟨r0, hr0⟩ : ∃ r0, r ^^^ y = r0 := ⟨_, rfl⟩
      have h0 : r0 < 4294967296 := by rw [← hr0]; exact xor_lt r y HR.out (by omega)
      rw [hr0] at hxx
      have H0 := Lib.hid h0
      obtain ⟨r2, hr2⟩ : ∃ r2, stn 8 r0 = r2 := ⟨_, rfl⟩
      have H2 := Lib.hid (show r2 < 4294967296 from by rw [← hr2]; exact stn_lt 8 r0 h0)
      have HE := Lib.hid (show stn 8 (r ^^^ y) = r2 from by rw [hr0, hr2])
      have HF8 := Lib.hid hr2
      clear hr0 hr2 hx HG h0
      go_wp2_with (first | (go_at_call 36; (with_reducible refine (eight_any r0 H0.out HT.out HF8.out).mono ?_); rintro e w' ⟨rfl, rfl⟩))
      go_round
      case rel =>
        refine ⟨k + 1, r2, by go_num, rfl, by omega, H2, ?_⟩
        have h3 := HD.out
        rw [reg_cons, Int.toNat_natCast, HE.out] at h3
        exact h3
      case measure => simp [intOf]; omega
    · have hg := HG.out
      rw [show zs.drop k = [] from List.drop_eq_nil_of_le (by rw [HZ.out]; omega), reg_nil] at hg
      have hm := HM.out
      unfold moreS at hm
      rw [HF.out, ← hg] at hm
      have hfr := flip32 r HR.out
      rw [hm] at hfr
      clear hg hm
      go_wp2
      go_ret
      exact ⟨rfl, rfl⟩

set_option maxRecDepth 8000 in
set_option maxHeartbeats 400000 in
theorem more_zero (s : Nat) (h : s < 4294967296) (a : Option Addr) (cap : Nat) (w : World) :
    Calls Tryd.prog 34 #[.int .u32 s, .slice a 0 cap] w fun e w' => e = .returned (.int .u32 (moreS s [])) ∧ w = w' := by
  have hf := flip32 s h
  obtain ⟨f, hfe⟩ : ∃ f, 4294967295 - s = f := ⟨_, rfl⟩
  rw [hfe] at hf
  have hg := flip32 f (by omega)
  obtain ⟨m, hm⟩ : ∃ m, moreS s [] = m := ⟨_, rfl⟩
  rw [hm]
  unfold moreS at hm
  rw [reg_nil, hfe] at hm
  rw [hm] at hg
  have hs : (s : Int) ≤ 4294967295 := by omega
  clear hm hfe h
  go_enter Tryd.func34, Tryd.ntmps34
  go_wp2
  refine wp_loop_rounds 1 ?_
  rw [rounds_succ]
  go_wp2
  go_ret
  exact ⟨rfl, rfl⟩
theorem more_any {s len : Nat} (h : s < 4294967296) {v : Value} {zs : List Int} {w : World} (ht : Tab w) (hri : RI .u8 w v len zs) (hb : ∀ x ∈ zs, 0 ≤ x ∧ x ≤ 255) {m : Nat} (hm : moreS s zs = m) :
    Calls Tryd.prog 34 #[.int .u32 s, v] w fun e w' => e = .returned (.int .u32 m) ∧ w = w' := by
  subst hm
  obtain ⟨a, cap, rfl, hl, h1, h2, _, hc⟩ := hri
  by_cases h0 : 0 < len
  · obtain ⟨b, off, rfl, hcell⟩ := hc h0
    exact more_some s h b off len cap zs w ht hl hb (by omega) hcell
  · obtain rfl : len = 0 := by omega
    obtain rfl : zs = [] := List.length_eq_zero_iff.1 hl
    exact more_zero s h a cap w
theorem more_0 {len : Nat} {v : Value} {zs : List Int} {w : World} (ht : Tab w) (hri : RI .u8 w v len zs) (hb : ∀ x ∈ zs, 0 ≤ x ∧ x ≤ 255) {m : Nat} (hm : moreS 0 zs = m) :
    Calls Tryd.prog 34 #[.int .u32 0, v] w fun e w' => e = .returned (.int .u32 m) ∧ w = w' := more_any (s := 0) (by omega) ht hri hb hm
theorem of_any {len : Nat} {v : Value} {zs : List Int} {w : World} (ht : Tab w) (hri : RI .u8 w v len zs) (hb : ∀ x ∈ zs, 0 ≤ x ∧ x ≤ 255) {m : Nat} (hm : ofS zs = m) :
    Calls Tryd.prog 27 #[v] w fun e w' => e = .returned (.int .u32 m) ∧ w = w' := by
  have HR := Lib.hid hri
  have HB := Lib.hid hb
  have HT := Lib.hid ht
  have HM := Lib.hid (show moreS 0 zs = m from hm)
  clear hri hb hm ht
  go_enter Tryd.func27, Tryd.ntmps27
  go_wp2_with (first | (go_at_call 34; (with_reducible refine (more_0 HT.out HR.out HB.out HM.out).mono ?_); rintro e w' ⟨rfl, rfl⟩))
  go_ret
  exact ⟨rfl, rfl⟩
theorem or17 (n : Nat) (h : n < 4294967296) : bits .or .u32 ((n : Int) * 131072 % 4294967296) ((n : Int) / 32768) = ((n / 32768 + n % 32768 * 131072 : Nat) : Int) := by
  have h1 := u32_or_nat (2 ^ 17 * (n % 32768)) (n / 32768) (by omega) (by omega)
  rw [← Nat.two_pow_add_eq_or_of_lt (show n / 32768 < 2 ^ 17 by omega)] at h1
  rw [show (n : Int) / 32768 = ((n / 32768 : Nat) : Int) from by omega, show (n : Int) * 131072 % 4294967296 = ((2 ^ 17 * (n % 32768) : Nat) : Int) from by omega, h1]
  omega
theorem or15 (t : Nat) (h : t < 4294967296) : bits .or .u32 ((t : Int) * 32768 % 4294967296) ((t : Int) / 131072) = ((t / 131072 + t % 131072 * 32768 : Nat) : Int) := by
  have h1 := u32_or_nat (2 ^ 15 * (t % 131072)) (t / 131072) (by omega) (by omega)
  rw [← Nat.two_pow_add_eq_or_of_lt (show t / 131072 < 2 ^ 15 by omega)] at h1
  rw [show (t : Int) / 131072 = ((t / 131072 : Nat) : Int) from by omega, show (t : Int) * 32768 % 4294967296 = ((2 ^ 15 * (t % 131072) : Nat) : Int) from by omega, h1]
  omega
set_option maxRecDepth 8000 in
theorem rot_right (n : Nat) (h : n < 4294967296) (w : World) : Calls Tryd.prog 33 #[.int .u32 n, .int .i64 (-15)] w fun e w' => e = .returned (.int .u32 ((n / 32768 + n % 32768 * 131072 : Nat) : Int)) ∧ w = w' := by
  have hn : (n : Int) ≤ 4294967295 := by omega
  have hw : bits .and .u64 (IntKind.u64.wrap (-15)) 31 = 17 := by decide
  have HO := Lib.hid (or17 n h)
  go_enter Tryd.func33, Tryd.ntmps33
  go_wp2
  go_ret
  refine ⟨ret_int ?_, rfl⟩
  rw [← HO.out]
set_option maxRecDepth 8000 in
theorem rot_left (n : Nat) (h : n < 4294967296) (w : World) : Calls Tryd.prog 33 #[.int .u32 n, .int .i64 15] w fun e w' => e = .returned (.int .u32 ((n / 131072 + n % 131072 * 32768 : Nat) : Int)) ∧ w = w' := by
  have hn : (n : Int) ≤ 4294967295 := by omega
  have hw : bits .and .u64 (IntKind.u64.wrap 15) 31 = 15 := by decide
  have hw' : bits .and .u64 15 31 = 15 := by decide
  have HO := Lib.hid (or15 n h)
  go_enter Tryd.func33, Tryd.ntmps33
  go_wp2
  go_ret
  refine ⟨ret_int ?_, rfl⟩
  rw [← HO.out]
set_option maxRecDepth 8000 in
theorem mask_any (n m : Nat) (h : n < 4294967296) (hm : maskS n = m) (w : World) : Calls Tryd.prog 26 #[.int .u32 n] w fun e w' => e = .returned (.int .u32 m) ∧ w = w' := by
  have HN := Lib.hid h
  clear h
  go_enter Tryd.func26, Tryd.ntmps26
  go_wp2_with (first | (go_at_call 33; (with_reducible refine (rot_right n HN.out _).mono ?_); rintro e w' ⟨rfl, rfl⟩))
  go_ret
  refine ⟨ret_int ?_, rfl⟩
  rw [← hm]
  unfold maskS
  omega
/-- a constant text's bytes, as the translation lays them -/
theorem RI.const (w : World) (e : TypeId) (k : IntKind) (zs : List Int) (fr : Nat × Nat) (n : Nat) (hn : zs.length = n) (h63 : n ≤ 9223372036854775807) :
    RI k (w.alloc (.cells (il k zs).toArray e fr)) (.slice (some ⟨w.heap.size, 0, none⟩) n n) n zs := by
  refine ⟨_, n, rfl, hn, Nat.le_refl _, h63, fun h => by simp at h, fun _ => ⟨w.heap.size, 0, rfl, fun j hj => ?_⟩⟩
  have hg : (w.alloc (.cells (il k zs).toArray e fr)).heap[w.heap.size]? = some (.cells (il k zs).toArray e fr) := by
    show (w.heap.push _)[w.heap.size]? = _
    simp
  rw [Nat.zero_add, cell_of_row _ w.heap.size j _ e fr hg]
  simpa using il_get k zs j (by omega)
end Go.Proofs.YtncnmmillhnhlaaDoor
