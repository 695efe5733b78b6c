/-
  WHAT THE FUNCTIONS OF LAYER 1 (word) AND OF ITS REFERENCE ANSWER, each for every input that its types allow. No condition beyond the types' bounds and, for what lies in memory, that the bytes lie there.
-/
import Derived.Test.YtcbgcdnkleinpaaRows
import Derived.Test.YtcbgcdnkleinpaaMath
import Derived.WalkKit
import Derived.ProofKit
import Derived.OpenShut
import Derived.BigQuiet
import Derived.Deep.QuietTactic
import Derived.Lib.Hide
namespace Go.Proofs.Ytcbgcdnkleinpaa
open Go.RowKit
theorem ret_int {k : IntKind} {a b : Int} (h : a = b) : Ending.returned (.int k a) = .returned (.int k b) := by rw [h]
theorem ret_bool {a b : Bool} (h : a = b) : Ending.returned (.bool a) = .returned (.bool b) := by rw [h]
theorem Try.info_u8 : (Try.prog.info? 5).map (fun i => (i.zero, i.size, i.bytes)) = some (some (.int .u8 0), 1, 1) := by kernel_rfl

set_option maxHeartbeats 400000 in
theorem zig_any (n : Int) (h : I63 n) (w : World) : Calls Try.prog 15 #[.int .i64 n] w fun e w' => e = .returned (.int .u64 (zigI n)) ∧ w = w' := by
  unfold I63 at h
  go_enter Try.func15, Try.ntmps15
  go_wp2
  all_goals (go_ret; refine ⟨ret_int ?_, rfl⟩; unfold zigI; split <;> omega)
set_option maxHeartbeats 400000 in
theorem rzig_any (n : Int) (h : I63 n) (w : World) : Calls Try.prog 16 #[.int .i64 n] w fun e w' => e = .returned (.int .u64 (zigI n)) ∧ w = w' := by
  unfold I63 at h
  go_enter Try.func16, Try.ntmps16
  go_wp2
  all_goals (go_ret; refine ⟨ret_int ?_, rfl⟩; unfold zigI; split <;> omega)
set_option maxHeartbeats 400000 in
theorem zag_any (n : Int) (h : U64 n) (w : World) : Calls Try.prog 17 #[.int .u64 n] w fun e w' => e = .returned (.int .i64 (zagI n)) ∧ w = w' := by
  unfold U64 at h
  go_enter Try.func17, Try.ntmps17
  by_cases hm : n % 2 = 1
  all_goals
    go_wp2
    go_ret; refine ⟨ret_int ?_, rfl⟩; unfold zagI; split <;> omega
set_option maxHeartbeats 400000 in
theorem rzag_any (n : Int) (h : U64 n) (w : World) : Calls Try.prog 18 #[.int .u64 n] w fun e w' => e = .returned (.int .i64 (zagI n)) ∧ w = w' := by
  unfold U64 at h
  go_enter Try.func18, Try.ntmps18
  by_cases hm : n % 2 = 1
  all_goals
    go_wp2
    go_ret; refine ⟨ret_int ?_, rfl⟩; unfold zagI; split <;> omega

set_option maxHeartbeats 400000 in
theorem two_any (n : Int) (h : I63 n) (w : World) : Calls Try.prog 22 #[.int .i64 n] w fun e w' => e = .returned (.int .u64 (two n.toNat)) ∧ w = w' := by
  unfold I63 at h
  go_enter Try.func22, Try.ntmps22
  go_wp2
  go_loop [3, 4] (fun t i => ∃ k : Nat, (k : Int) ≤ max n 0 ∧ i = .int .i64 k ∧ t = .int .u64 (two k)) (fun _ i => n.toNat - (intOf i).toNat)
  case atStart => exact ⟨0, by omega, rfl, rfl⟩
  case round =>
    obtain ⟨k, hk, rfl, rfl⟩ := hrel
    by_cases hlt : (k : Int) < n
    · go_wp2
      go_round
      case rel => exact ⟨k + 1, by omega, by go_num, by rw [two_succ]⟩
      case measure => simp [intOf]; omega
    · go_wp2
      go_ret
      exact ⟨ret_int (by congr 1; omega), rfl⟩
theorem two_at (n : Int) (k : Nat) (hn : n = k) (h : k < 9223372036854775808) (w : World) : Calls Try.prog 22 #[.int .i64 n] w fun e w' => e = .returned (.int .u64 (two k)) ∧ w = w' :=
  (two_any n (by unfold I63; omega) w).mono fun _ _ ⟨he, hw⟩ => ⟨by rw [he, hn, Int.toNat_natCast], hw⟩

set_option maxHeartbeats 400000 in
theorem btw_any (n m : Int) (h : I63 n) (h2 : I63 m) (w : World) : Calls Try.prog 21 #[.int .i64 n, .int .i64 m] w fun e w' => e = .returned (.int .i64 (clampI n m)) ∧ w = w' := by
  unfold I63 at h h2
  go_enter Try.func21, Try.ntmps21
  go_wp2
  all_goals (go_ret; refine ⟨ret_int ?_, rfl⟩; unfold clampI; omega)
theorem btw_nat (n m : Int) (k : Nat) (h : I63 n) (h2 : I63 m) (hk : clampI n m = k) (w : World) : Calls Try.prog 21 #[.int .i64 n, .int .i64 m] w fun e w' => e = .returned (.int .i64 k) ∧ w = w' :=
  (btw_any n m h h2 w).mono fun _ _ ⟨he, hw⟩ => ⟨by rw [he, hk], hw⟩

set_option maxHeartbeats 400000 in
theorem turn_any (n m : Int) (h : 0 ≤ n ∧ n < 4294967296) (w : World) : Calls Try.prog 12 #[.int .u32 n, .int .i64 m] w fun e w' => e = .returned (.int .u32 (rotI n (m % 32).toNat)) ∧ w = w' := by
  obtain ⟨s, hs1, hs⟩ : ∃ s : Nat, (m % 32).toNat = s ∧ s < 32 := ⟨_, rfl, by omega⟩
  have hs' : (IntKind.u64.wrap m).tmod 32 = (s : Int) := by rw [Go.IntKind.wrap_u64, Int.tmod_eq_emod_of_nonneg (by omega)]; omega
  rw [hs1]; clear hs1
  have ht := turn_bits n s h hs
  have HT := Lib.hid ht; clear ht
  go_enter Try.func12, Try.ntmps12
  go_wp2
  go_ret
  refine ⟨ret_int ?_, rfl⟩
  rw [← HT.out]
set_option maxHeartbeats 400000 in
theorem low_any (n m : Int) (h : U64 n) (h2 : I63 m) (w : World) : Calls Try.prog 10 #[.int .u64 n, .int .i64 m] w fun e w' => e = .returned (.int .u64 (lowI n m)) ∧ w = w' := by
  rcases (by omega : m < 64 ∨ 64 ≤ m) with hm | hm
  · obtain ⟨c, hc, hc2⟩ : ∃ c : Nat, m.toNat = c ∧ c < 64 := ⟨_, rfl, by omega⟩
    have hl : lowI n m = n % 2 ^ c := by unfold lowI; rw [if_neg (by omega), hc]
    rw [hl]
    have hb := low_bits n h c hc2
    have HB := Lib.hid hb; clear hb hl
    have hcl : clampI m 64 = c := by unfold clampI; omega
    have HC := Lib.hid hcl; clear hcl hc
    go_enter Try.func10, Try.ntmps10
    go_wp2_with (go_at_call 21; refine (btw_nat _ _ c h2 (by unfold I63; omega) HC.out _).mono ?_; rintro e w' ⟨rfl, rfl⟩)
    go_ret
    refine ⟨ret_int ?_, rfl⟩
    rw [← HB.out]
  · have hl : lowI n m = n := by unfold lowI; rw [if_pos hm]
    rw [hl]
    have hb := low_bits64 n h
    have HB := Lib.hid hb; clear hb hl
    have hcl : clampI m 64 = (64 : Nat) := by unfold clampI; omega
    have HC := Lib.hid hcl; clear hcl
    go_enter Try.func10, Try.ntmps10
    go_wp2_with (go_at_call 21; refine (btw_nat _ _ 64 h2 (by unfold I63; omega) HC.out _).mono ?_; rintro e w' ⟨rfl, rfl⟩)
    go_ret
    exact ⟨ret_int (by simpa using HB.out), rfl⟩
set_option maxHeartbeats 400000 in
theorem rlow_any (n m : Int) (h : U64 n) (h2 : I63 m) (w : World) : Calls Try.prog 14 #[.int .u64 n, .int .i64 m] w fun e w' => e = .returned (.int .u64 (lowI n m)) ∧ w = w' := by
  have h3 := h
  unfold U64 at h3
  have h4 := h2
  unfold I63 at h4
  rcases (by omega : m < 0 ∨ (0 ≤ m ∧ m < 64) ∨ 64 ≤ m) with hm | hm | hm
  · have HL := Lib.hid (show lowI n m = 0 by unfold lowI; rw [if_neg (by omega), show m.toNat = 0 from by omega]; simp)
    go_enter Try.func14, Try.ntmps14
    go_wp2_with (go_at_call 22; refine (two_any _ (by unfold I63; omega) _).mono ?_; rintro e w' ⟨rfl, rfl⟩)
    go_ret
    refine ⟨ret_int ?_, rfl⟩
    rw [HL.out, two_zero]; simp
  · have hp := two_pos m.toNat (by omega)
    have HL := Lib.hid (low_two n m hm.1 hm.2)
    go_enter Try.func14, Try.ntmps14
    go_wp2_with (go_at_call 22; refine (two_any _ (by unfold I63; omega) _).mono ?_; rintro e w' ⟨rfl, rfl⟩)
    go_ret
    exact ⟨ret_int HL.out, rfl⟩
  · have HL := Lib.hid (show lowI n m = n by unfold lowI; rw [if_pos hm])
    go_enter Try.func14, Try.ntmps14
    go_wp2
    go_ret
    exact ⟨ret_int HL.out.symm, rfl⟩

/-- the slice value v has len bytes, those of zs, in the world w -/
def RB (w : World) (v : Value) (len : Nat) (zs : List Int) : Prop :=
  ∃ a cap, v = .slice a len cap ∧ (0 < len → ∃ b off, a = some ⟨b, off, none⟩ ∧ ∀ j, j < len → w.cell? ⟨b, off + j, none⟩ = some (.int .u8 (zs.getD j 0)))
theorem u64_of {a : Int} (h : (Lit.int .u64 a).wf = true) : U64 a := by simp [Lit.wf, IntKind.min, IntKind.max, IntKind.signed, IntKind.bits] at h; unfold U64; omega
theorem i63_of {a : Int} (h : (Lit.int .i64 a).wf = true) : I63 a := by simp [Lit.wf, IntKind.min, IntKind.max, IntKind.signed, IntKind.bits] at h; unfold I63; omega
theorem u32_of {a : Int} (h : (Lit.int .u32 a).wf = true) : 0 ≤ a ∧ a < 4294967296 := by simp [Lit.wf, IntKind.min, IntKind.max, IntKind.signed, IntKind.bits] at h; omega
/-- what the frame tells of a slice of bytes that came in -/
def BRow (w : World) (a : Option Addr) (len cap : Nat) (zs : List Int) : Prop :=
  (a = none ∧ len = 0 ∧ cap = 0 ∧ zs = []) ∨
  ∃ x, a = some x ∧ len ≤ cap ∧ cap ≤ maxLen ∧ zs.length = cap ∧ (∀ i, i < zs.length → w.cell? (x.add i) = some (.int .u8 (zs.getD i 0))) ∧ ∀ n ∈ zs, (Lit.int .u8 n).wf = true
theorem BRow.rb {w : World} {a : Option Addr} {len cap : Nat} {zs : List Int} (h : BRow w a len cap zs) : RB w (.slice a len cap) len zs := by
  rcases h with ⟨rfl, rfl, rfl, rfl⟩ | ⟨x, rfl, h1, _, h3, h4, _⟩
  · exact ⟨none, 0, rfl, fun h => absurd h (by omega)⟩
  · refine ⟨some x, cap, rfl, fun h0 => ?_⟩
    obtain ⟨b, off, rfl, hc⟩ := ints_at h4 (by omega)
    exact ⟨b, off, rfl, fun j hj => hc j (by omega)⟩
theorem BRow.bytes {w : World} {a : Option Addr} {len cap : Nat} {zs : List Int} (h : BRow w a len cap zs) : Bytes zs := by
  rcases h with ⟨_, _, _, rfl⟩ | ⟨_, _, _, _, _, _, h5⟩
  · intro j; simp
  · exact range_u8 h5
theorem BRow.len_le {w : World} {a : Option Addr} {len cap : Nat} {zs : List Int} (h : BRow w a len cap zs) : len ≤ 9223372036854775807 := by
  rcases h with ⟨_, rfl, _, _⟩ | ⟨_, _, h1, h2, _⟩
  · omega
  · unfold maxLen at h2; omega
theorem RB.cells {w : World} {a : Option Addr} {len cap : Nat} {zs : List Int} (h : RB w (.slice a len cap) len zs) (h0 : 0 < len) : ∃ b off, a = some ⟨b, off, none⟩ ∧ ∀ j, j < len → w.cell? ⟨b, off + j, none⟩ = some (.int .u8 (zs.getD j 0)) := by
  obtain ⟨a', cap', e, hc⟩ := h
  simp only [Value.slice.injEq, true_and] at e
  obtain ⟨rfl, rfl⟩ := e
  exact hc h0
/-- draws alone -/
def Drawn (w w' : World) : Prop := ∃ n, w' = w.drewN n
theorem Drawn.cell {w w' : World} (h : Drawn w w') (a : Addr) : w'.cell? a = w.cell? a := by obtain ⟨n, rfl⟩ := h; simp
theorem Drawn.refl (w : World) : Drawn w w := ⟨0, rfl⟩
theorem Drawn.then {w w' : World} (h : Drawn w w') (n : Nat) : Drawn w (w'.drewN n) := by obtain ⟨m, rfl⟩ := h; exact ⟨_, World.drewN_drewN _ _ _⟩
theorem quiet_eq {P : Program} {f : FuncId} {args : Array Value} {w : World} {n : Nat} {v : Value}
    (h : Calls P f args (w.drewN n) fun e w' => e = .returned v ∧ w.drewN n = w') : Calls P f args (w.drewN n) fun e w'' => e = .returned v ∧ ∃ m, w'' = w.drewN m :=
  h.mono fun _ _ ⟨he, hm⟩ => ⟨he, n, hm.symm⟩
theorem quiet_drawn {P : Program} {f : FuncId} {args : Array Value} {w : World} {n : Nat} {v : Value}
    (h : Calls P f args (w.drewN n) fun e w' => e = .returned v ∧ Drawn (w.drewN n) w') : Calls P f args (w.drewN n) fun e w'' => e = .returned v ∧ ∃ m, w'' = w.drewN m :=
  Calls.quiet_of h

set_option maxHeartbeats 400000 in
theorem get_some (b off len cap : Nat) (zs : List Int) (w : World) (hz : Bytes zs) (hlen : 0 < len) (hmax : len ≤ 9223372036854775807)
    (hc : ∀ j, j < len → w.cell? ⟨b, off + j, none⟩ = some (.int .u8 (zs.getD j 0))) :
    Calls Try.prog 8 #[.slice (some ⟨b, off, none⟩) len cap] w fun e w' => e = .returned (.int .u64 (getI zs (min len 8))) ∧ w = w' := by
  obtain ⟨m, hm, hm1, hm2, hm3⟩ : ∃ m : Nat, min len 8 = m ∧ m ≤ len ∧ m ≤ 8 ∧ (m = len ∨ m = 8) := ⟨_, rfl, by omega, by omega, by omega⟩
  rw [hm]
  have HM := Lib.hid hm; clear hm
  go_enter Try.func8, Try.ntmps8
  rcases (by have := HM.out; omega : (len : Int) ≤ 8 ∧ len ≤ m ∨ 8 < (len : Int) ∧ 8 ≤ m) with ⟨h8, hl⟩ | ⟨h8, hl⟩
  all_goals
    go_wp2
    go_loop [3, 8] (fun n i => ∃ k : Nat, k ≤ m ∧ i = .int .i64 k ∧ n = .int .u64 (getI zs k)) (fun _ i => m - (intOf i).toNat)
    case atStart => exact ⟨0, by omega, rfl, rfl⟩
    case round =>
      obtain ⟨k, hk, rfl, rfl⟩ := hrel
      have hb : 0 ≤ zs[k]?.getD 0 ∧ zs[k]?.getD 0 ≤ 255 := hz k
      by_cases hlt : k < m
      · have hcell : w.cell? ⟨b, off + k, none⟩ = some (.int .u8 (zs.getD k 0)) := hc k (by omega)
        have HG := Lib.hid (getI_or zs hz k (by omega))
        go_wp2
        go_round
        case rel => exact ⟨k + 1, by omega, by go_num, by rw [← HG.out]; rfl⟩
        case measure => simp [intOf]; omega
      · go_wp2
        go_ret
        exact ⟨ret_int (by congr 1; omega), rfl⟩

set_option maxHeartbeats 400000 in
theorem rget_some (b off len cap : Nat) (zs : List Int) (w : World) (hz : Bytes zs) (hlen : 0 < len) (hmax : len ≤ 9223372036854775807)
    (hc : ∀ j, j < len → w.cell? ⟨b, off + j, none⟩ = some (.int .u8 (zs.getD j 0))) :
    Calls Try.prog 9 #[.slice (some ⟨b, off, none⟩) len cap] w fun e w' => e = .returned (.int .u64 (getI zs (min len 8))) ∧ Drawn w w' := by
  obtain ⟨m, hm, hm1, hm2, hm3⟩ : ∃ m : Nat, min len 8 = m ∧ m ≤ len ∧ m ≤ 8 ∧ (m = len ∨ m = 8) := ⟨_, rfl, by omega, by omega, by omega⟩
  rw [hm]
  have HM := Lib.hid hm; clear hm
  go_enter Try.func9, Try.ntmps9
  go_wp2
  go_loopw [3, 4] (fun n i wr => ∃ k : Nat, k ≤ m ∧ i = .int .i64 k ∧ n = .int .u64 (getI zs k) ∧ Drawn w wr) (fun _ i _ => m - (intOf i).toNat)
  case atStart => exact ⟨0, by omega, rfl, rfl, ⟨0, rfl⟩⟩
  case round =>
    obtain ⟨k, hk, rfl, rfl, hw⟩ := hrel
    by_cases hlt : k < m
    · have hcell : wr.cell? ⟨b, off + k, none⟩ = some (.int .u8 (zs.getD k 0)) := (hw.cell _).trans (hc k (by omega))
      have hb : 0 ≤ zs[k]?.getD 0 ∧ zs[k]?.getD 0 ≤ 255 := hz k
      have HG := Lib.hid (getI_ref zs hz k (by omega))
      have h1 : (k : Int) < (len : Int) := by omega
      have h2 : (k : Int) < 8 := by omega
      go_wp2_with fail
      have he : IntKind.i64.wrap (8 * (k : Int)) = ((8 * k : Nat) : Int) := by rw [IntWalk.i64_in _ (by omega)]; omega
      have hu : IntKind.u64.wrap (zs[k]?.getD 0) = zs[k]?.getD 0 := IntWalk.u64_in _ (by omega)
      go_quiet ((go_at_call 22; exact quiet_eq (two_at _ (8 * k) (by omega) (by omega) _)))
      clear he hu
      go_wp2
      go_roundw
      case rel => exact ⟨k + 1, by omega, by go_num, by rw [← HG.out]; rfl, hw.then _⟩
      case measure => simp [intOf]; omega
    · rcases (by omega : (len : Int) ≤ k ∨ (k : Int) < len ∧ 8 ≤ (k : Int)) with h1 | ⟨h1, h2⟩
      all_goals
        go_wp2
        go_ret
        exact ⟨ret_int (by congr 1; omega), hw⟩

/-- numbers as the cells of bytes -/
def bl (l : List Int) : List Value := l.map (Value.int .u8)
theorem bl_set (l : List Int) (j : Nat) (x : Int) : (bl l).set j (.int .u8 x) = bl (l.set j x) := by simp [bl, List.map_set]
theorem bl_length (l : List Int) : (bl l).length = l.length := by simp [bl]
theorem bl_get (l : List Int) (j : Nat) (h : j < l.length) : (bl l)[j]? = some (.int .u8 (l.getD j 0)) := by simp [bl, List.getD, h]

theorem bl_append (a b : List Int) : bl (a ++ b) = bl a ++ bl b := by simp [bl]
set_option maxHeartbeats 800000 in
theorem put_any (n m : Int) (k : Nat) (h2 : I63 m) (hk : clampI m 8 = k) (w : World) :
    Calls Try.prog 6 #[.int .u64 n, .int .i64 m] w fun e w' => e = .returned (.slice (some ⟨w.heap.size, 0, none⟩) k k) ∧
      w'.ownsRow w.heap.size 5 1 (.slice (some ⟨w.heap.size, 0, none⟩) k k) k (bl (putL n k)) ∧ Below w.heap.size w w' := by
  obtain ⟨i0, hi, hz0, hz1, hz2⟩ := info_parts Try.info_u8
  have hk8 : k ≤ 8 := by unfold clampI at hk; omega
  have HC := Lib.hid hk; clear hk
  have hB2 : i0.bytes * k ≤ 281474976710656 := by rw [hz2]; omega
  have HI := Lib.hid hi; clear hi
  have HZ0 := Lib.hid hz0; clear hz0
  have HZ1 := Lib.hid hz1; clear hz1
  clear hz2
  go_enter Try.func6, Try.ntmps6
  go_wp2_with (first
    | (go_at_call 21; refine (btw_nat _ _ k h2 (by unfold I63; omega) HC.out _).mono ?_; rintro e w' ⟨rfl, rfl⟩)
    | (at_make; refine wpList_make_full _ rfl (.tmp 9) (.tmp 9) 23 rfl w.heap.size 5 i0 (.int .u8 0) 1 Try.underlying23 HI.out HZ0.out HZ1.out .i64 .i64 k k k rfl rfl rfl rfl hB2 (by unfold maxLen; omega) (Nat.le_refl _) ?_; intro w1 hown hgrow))
  have HO := Lib.hid hown; clear hown
  have HB := Lib.hid ((Below.refl w.heap.size w).grown hgrow (Nat.le_refl _) (by simp)); clear hgrow
  go_wp2
  go_loopw [12] (fun i wr => ∃ j : Nat, j ≤ k ∧ i = .int .i64 j ∧ wr.ownsRow w.heap.size 5 1 (.slice (some ⟨w.heap.size, 0, none⟩) k k) k (bl (putP n j k)) ∧ Below w.heap.size w wr) (fun i _ => k - (intOf i).toNat)
  case atStart => exact ⟨0, by omega, rfl, by have := HO.out; rw [Nat.mul_one, show (Value.int IntKind.u8 0).cells = #[.int .u8 0] from rfl, toList_madeCells_one] at this; rw [putP_zero]; simpa [bl] using this, HB.out⟩
  case round =>
    obtain ⟨j, hj, rfl, ho, hb⟩ := hrel
    by_cases hlt : j < k
    · have hcell : wr.cell? ⟨w.heap.size, j, none⟩ = some (.int .u8 ((putP n j k).getD j 0)) := by
        rw [ho.cellAt j (by omega), bl_get _ _ (by simp [putP]; omega)]
      have hfr : wr.frozen? ⟨w.heap.size, j, none⟩ = false := ho.frozenAt j
      have HO := Lib.hid ho; clear ho
      have HB := Lib.hid hb; clear hb
      go_wp2
      go_roundw
      case rel => exact ⟨j + 1, by omega, by go_num, by rw [← putP_succ, ← bl_set]; exact (HO.out.stored j _).1, HB.out.setCell (Nat.le_refl _) _⟩
      case measure => simp [intOf]; omega
    · go_wp2
      go_ret
      have e : j = k := by omega
      subst e
      exact ⟨rfl, by rw [← putP_full]; exact ho, hb⟩

theorem div_step (n : Int) (j : Nat) : n / 2 ^ (8 * j) / 256 = n / 2 ^ (8 * (j + 1)) := by
  rw [Int.ediv_ediv_of_nonneg (Int.le_of_lt (pow_pos' _)), show 8 * (j + 1) = 8 * j + 8 from by omega, Int.pow_add]; rfl
set_option maxHeartbeats 800000 in
theorem rput_any (n m : Int) (k : Nat) (h : U64 n) (h2 : I63 m) (hk : clampI m 8 = k) (w : World) :
    Calls Try.prog 7 #[.int .u64 n, .int .i64 m] w fun e w' => ∃ v, e = .returned v ∧
      w'.ownsRow w.heap.size 5 1 v k (bl (putL n k)) ∧ Below w.heap.size w w' := by
  unfold U64 at h
  unfold I63 at h2
  obtain ⟨i0, hi, hz0, hz1, hz2⟩ := info_parts Try.info_u8
  have hk1 : k ≤ 8 := by unfold clampI at hk; omega
  have hk2 : ∀ j : Nat, j < k → (j : Int) < m ∧ (j : Int) < 8 := by unfold clampI at hk; omega
  have hk3 : ∀ j : Nat, k ≤ j → m ≤ (j : Int) ∨ ((j : Int) < m ∧ 8 ≤ (j : Int)) := by unfold clampI at hk; omega
  clear hk
  have HI := Lib.hid hi; clear hi
  have HZ0 := Lib.hid hz0; clear hz0
  have HZ1 := Lib.hid hz1; clear hz1
  have HZ2 := Lib.hid hz2; clear hz2
  go_enter Try.func7, Try.ntmps7
  go_wp2
  go_loopw [0, 5, 6] (fun nn v i wr => ∃ j : Nat, j ≤ k ∧ i = .int .i64 j ∧ nn = .int .u64 (n / 2 ^ (8 * j)) ∧ wr.ownsRow w.heap.size 5 1 v j (bl (putL n j)) ∧ Below w.heap.size w wr) (fun _ _ i _ => k - (intOf i).toNat)
  case atStart => exact ⟨0, by omega, rfl, by simp, World.ownsRow_nil _ _ _ _, Below.refl _ _⟩
  case round =>
    obtain ⟨j, hj, rfl, rfl, ho, hb⟩ := hrel
    have hx : 0 ≤ n / 2 ^ (8 * j) := Int.ediv_nonneg h.1 (Int.le_of_lt (pow_pos' _))
    have hx2 : n / 2 ^ (8 * j) ≤ n := Int.ediv_le_self _ h.1
    have HO := Lib.hid ho; clear ho
    have HB := Lib.hid hb; clear hb
    by_cases hlt : j < k
    · obtain ⟨g1, g2⟩ := hk2 j hlt
      clear hk2 hk3
      go_wp2_with (first
        | (at_builtin; refine wpList_append_own _ rfl (.tmp 16) (.tmp 20) 23 rfl w.heap.size 5 i0 (.int .u8 0) 1 1 Try.underlying23 HI.out HZ0.out HZ1.out HZ2.out rfl (by decide) _ _ _ rfl (HO.out.alloc _) ⟨wr.heap.size, 0, none⟩ 1 1 (bl [n / 2 ^ (8 * j) % 256]) rfl rfl ?c1 ?c2 ?c3 ?c4 ?c5 ?_))
      case c1 =>
        intro i u hi
        match i, hi with
        | 0, hi => simp [bl] at hi; subst hi; simp [Addr.add]
      case c2 => intro u hu; simp [bl] at hu; subst hu; rfl
      case c3 => unfold maxLen; omega
      case c4 => omega
      case c5 => have := HB.out.size; simp; omega
      intro v' w1 hown' hgrow _
      have HO1 := Lib.hid (show w1.ownsRow w.heap.size 5 1 v' (j + 1) (bl (putL n (j + 1))) by rw [putL_succ, bl_append]; exact hown')
      have HB1 := Lib.hid ((HB.out.alloc HB.out.size _).grown hgrow (by have := HB.out.size; simp; omega) (fun q hq => (HO.out.lt q hq).1))
      clear hown' hgrow
      go_wp2
      go_roundw
      case rel => exact ⟨j + 1, by omega, by go_num, by rw [div_step], HO1.out, HB1.out⟩
      case measure => simp [intOf]; omega
    · rcases hk3 j (by omega) with g1 | ⟨g1, g2⟩
      all_goals
        clear hk2 hk3
        go_wp2
        go_ret
        have e : j = k := by omega
        subst e
        exact ⟨_, rfl, HO.out, HB.out⟩
end Go.Proofs.Ytcbgcdnkleinpaa
