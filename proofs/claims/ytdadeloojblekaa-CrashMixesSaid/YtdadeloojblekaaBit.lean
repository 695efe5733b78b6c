/-
  LAYER 1 (word), what later layers take of it: what word.Bit and the reference's Bit answer. Bytes must lie where the slice says.
-/
import Derived.Test.YtdadeloojblekaaPutMath
import Derived.Lib.Hide
import Derived.Deep.QuietTactic
import Derived.Deep.RegionHeld3
import Derived.BigQuiet
import Derived.Test.YtdadeloojblekaaSecs
namespace Go.Proofs.Ytdadeloojblekaa
open Go.RowKit
def Drawn (w w' : World) : Prop := ∃ n, w' = w.drewN n
set_option maxHeartbeats 400000 in
theorem two_any (n : Int) (h : I63 n) (w : World) : Calls Try.prog 21 #[.int .i64 n] w fun e w' => e = .returned (.int .u64 (two n.toNat)) ∧ w = w' := by
  unfold I63 at h
  go_enter Try.func21, Try.ntmps21
  go_wp2
  go_loop [3, 4] (fun t i => ∃ k : Nat, (k : Int) ≤ max n 0 ∧ i = .int .i64 k ∧ t = .int .u64 (two k)) (fun _ i => n.toNat - (intOf i).toNat)
  case atStart => exact ⟨0, by omega, rfl, rfl⟩
  case round =>
    obtain ⟨k, hk, rfl, rfl⟩ := hrel
    by_cases hlt : (k : Int) < n
    · go_wp2
      go_round
      case rel => exact ⟨k + 1, by omega, by go_num, by rw [two_succ]⟩
      case measure => simp [intOf]; omega
    · go_wp2
      go_ret
      exact ⟨ret_int (by congr 1; omega), rfl⟩
theorem two_at (n : Int) (k : Nat) (hn : n = k) (h : k < 9223372036854775808) (w : World) : Calls Try.prog 21 #[.int .i64 n] w fun e w' => e = .returned (.int .u64 (two k)) ∧ w = w' :=
  (two_any n (by unfold I63; omega) w).mono fun _ _ ⟨he, hw⟩ => ⟨by rw [he, hn, Int.toNat_natCast], hw⟩

theorem quiet_eq {P : Program} {f : FuncId} {args : Array Value} {w : World} {n : Nat} {v : Value}
    (h : Calls P f args (w.drewN n) fun e w' => e = .returned v ∧ w.drewN n = w') : Calls P f args (w.drewN n) fun e w'' => e = .returned v ∧ ∃ m, w'' = w.drewN m :=
  h.mono fun _ _ ⟨he, hm⟩ => ⟨he, n, hm.symm⟩
def bitB (zs : List Int) (k : Nat) : Bool := decide (zs.getD (k / 8) 0 / 2 ^ (k % 8) % 2 = 1)
theorem bit_mask (x : Int) (h : 0 ≤ x ∧ x ≤ 255) (s : Nat) : (bits .and .u8 (x / 2 ^ s) 1 == 1) = decide (x / 2 ^ s % 2 = 1) := by
  have h0 : 0 ≤ x / 2 ^ s := Int.ediv_nonneg h.1 (Int.le_of_lt (pow_pos' _))
  have h1 : x / 2 ^ s ≤ x := Int.ediv_le_self _ h.1
  rw [show bits .and .u8 (x / 2 ^ s) 1 = x / 2 ^ s % 2 from bits_mask .u8 8 (by decide) wraps_u8 1 (by decide) _ h0 (by omega)]
  rw [Bool.eq_iff_iff]; simp

set_option maxHeartbeats 400000 in
theorem bit_some (b off len cap : Nat) (zs : List Int) (k : Nat) (w : World) (hz : Bytes zs) (hi : (k : Int) ≤ 9223372036854775807) (hmax : len ≤ 9223372036854775807) (hk : k / 8 < len)
    (hc : ∀ j, j < len → w.cell? ⟨b, off + j, none⟩ = some (.int .u8 (zs.getD j 0))) :
    Calls Try.prog 23 #[.slice (some ⟨b, off, none⟩) len cap, .int .i64 k] w fun e w' => e = .returned (.bool (bitB zs k)) ∧ w = w' := by
  have h1 : (k : Int) / 8 < len := by omega
  have hcell : w.cell? ⟨b, off + k / 8, none⟩ = some (.int .u8 (zs.getD (k / 8) 0)) := hc _ hk
  have hb : 0 ≤ zs[k / 8]?.getD 0 ∧ zs[k / 8]?.getD 0 ≤ 255 := hz (k / 8)
  have HB := Lib.hid (bit_mask _ hb (k % 8))
  go_enter Try.func23, Try.ntmps23
  go_wp2
  go_ret
  exact ⟨ret_bool HB.out, rfl⟩
theorem bit_no (a : Option Addr) (len cap : Nat) (i : Int) (w : World) (hi : I63 i) (h : i < 0 ∨ (0 ≤ i ∧ (len : Int) ≤ i / 8)) :
    Calls Try.prog 23 #[.slice a len cap, .int .i64 i] w fun e w' => e = .returned (.bool false) ∧ w = w' := by
  unfold I63 at hi
  rcases h with h | ⟨h, h1⟩
  all_goals
    go_enter Try.func23, Try.ntmps23
    go_wp2
    go_ret
    exact ⟨rfl, rfl⟩
theorem rbit_no (a : Option Addr) (len cap : Nat) (i : Int) (w : World) (hi : I63 i) (h : i < 0 ∨ (0 ≤ i ∧ (len : Int) ≤ i / 8)) :
    Calls Try.prog 11 #[.slice a len cap, .int .i64 i] w fun e w' => e = .returned (.bool false) ∧ Drawn w w' := by
  unfold I63 at hi
  rcases h with h | ⟨h, h1⟩
  · have hd : decide (0 ≤ i) = false := by simpa using h
    go_enter Try.func11, Try.ntmps11
    go_wp2_with fail
    go_quiet (fail)
    go_wp2
    go_ret
    exact ⟨rfl, ⟨_, rfl⟩⟩
  · have hd : decide (i / 8 < (len : Int)) = false := by simpa using h1
    go_enter Try.func11, Try.ntmps11
    go_wp2_with fail
    go_quiet (fail)
    go_wp2
    go_ret
    exact ⟨rfl, ⟨_, rfl⟩⟩
set_option maxHeartbeats 400000 in
theorem rbit_some (b off len cap : Nat) (zs : List Int) (k : Nat) (w : World) (hz : Bytes zs) (hi : (k : Int) ≤ 9223372036854775807) (hmax : len ≤ 9223372036854775807) (hk : k / 8 < len)
    (hc : ∀ j, j < len → w.cell? ⟨b, off + j, none⟩ = some (.int .u8 (zs.getD j 0))) :
    Calls Try.prog 11 #[.slice (some ⟨b, off, none⟩) len cap, .int .i64 k] w fun e w' => e = .returned (.bool (bitB zs k)) ∧ Drawn w w' := by
  have h1 : (k : Int) / 8 < len := by omega
  have h3 : 0 ≤ (k : Int) / 8 := by omega
  have hcell : w.cell? ⟨b, off + k / 8, none⟩ = some (.int .u8 (zs.getD (k / 8) 0)) := hc _ hk
  have hb : 0 ≤ zs[k / 8]?.getD 0 ∧ zs[k / 8]?.getD 0 ≤ 255 := hz (k / 8)
  have ht := two_small (k % 8) (by omega)
  have ht1 := two_pos (k % 8) (by omega)
  have HT := Lib.hid ht; clear ht
  have hq0 : 0 ≤ zs[k / 8]?.getD 0 / two (k % 8) := Int.ediv_nonneg hb.1 (by omega)
  go_enter Try.func11, Try.ntmps11
  go_wp2_with fail
  have hu : IntKind.u64.wrap (zs[k / 8]?.getD 0) = zs[k / 8]?.getD 0 := IntWalk.u64_in _ (by omega)
  go_quiet ((go_at_call 21; exact quiet_eq (two_at _ (k % 8) (by omega) (by omega) _)))
  clear hu
  go_wp2
  go_ret
  refine ⟨ret_bool ?_, ⟨_, rfl⟩⟩
  rw [HT.out]
  unfold bitB
  rw [Bool.eq_iff_iff]; simp
/-- the bit of a slice of bytes, whatever the place -/
def bitI (zs : List Int) (i : Int) : Bool := decide (0 ≤ i) && decide (i / 8 < (zs.length : Int)) && bitB zs i.toNat
theorem rbit_ri (v : Value) (len : Nat) (zs : List Int) (i : Int) (w : World) (h : RI .u8 w v len zs) (hz : Bytes zs) (hi : I63 i) :
    Calls Try.prog 11 #[v, .int .i64 i] w fun e w' => e = .returned (.bool (bitI zs i)) ∧ Below w.heap.size w w' := by
  have hl := h.length
  have hle := h.le
  unfold I63 at hi
  by_cases h1 : 0 ≤ i ∧ i / 8 < (len : Int)
  · obtain ⟨k, rfl⟩ : ∃ k : Nat, i = (k : Int) := ⟨i.toNat, by omega⟩
    obtain ⟨b, off, cap, rfl, _, _, hc⟩ := h.open_ (by omega)
    refine (rbit_some b off len cap zs k w hz (by omega) hle (by omega) hc).mono ?_
    rintro e w' ⟨rfl, n, rfl⟩
    refine ⟨?_, ?_⟩
    · unfold bitI; rw [hl, decide_eq_true h1.1, decide_eq_true h1.2]; rfl
    · exact ⟨rfl, rfl, rfl, Nat.le_refl _, fun _ _ => rfl⟩
  · obtain ⟨a, cap, rfl, _⟩ := h
    refine (rbit_no a len cap i w (by unfold I63; omega) (by omega)).mono ?_
    rintro e w' ⟨rfl, n, rfl⟩
    refine ⟨?_, ?_⟩
    · unfold bitI
      rw [hl]
      by_cases h2 : 0 ≤ i
      · rw [decide_eq_false (p := i / 8 < (len : Int)) (by omega)]; simp
      · rw [decide_eq_false h2]; simp
    · exact ⟨rfl, rfl, rfl, Nat.le_refl _, fun _ _ => rfl⟩
end Go.Proofs.Ytdadeloojblekaa
