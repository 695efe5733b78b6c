/-
  LAYER 9 (crash): what is asked of the program's functions, one by one; the laws' walks stand over it alone. And the law's own awake.
-/
import Derived.Test.YtdadeloojblekaaCrashTears
import Derived.Test.YtdadeloojblekaaSame
namespace Go.Proofs.Ytdadeloojblekaa
open Go.RowKit
/-- how many of the first k are kept whole -/
def keptN (kb : List Int) (torn : Int) : Nat → Nat
  | 0 => 0
  | k + 1 => keptN kb torn k + (if (k : Int) ≠ torn ∧ bitI kb (k : Int) = true then 1 else 0)
theorem keptN_le (kb : List Int) (torn : Int) : ∀ k, keptN kb torn k ≤ k
  | 0 => Nat.le_refl _
  | k + 1 => by have := keptN_le kb torn k; unfold keptN; split <;> omega
structure CrashSays : Prop where
  mix : ∀ (old nx : List Int) (cut : Int) (w : World), old.length = 64 → nx.length = 64 → Bytes old → Bytes nx → I63 cut →
    Calls Try.prog 13 #[.agg (sv old), .agg (sv nx), .int .i64 cut] w fun e w' => e = .returned (.agg (sv (mixN old nx (cutN cut)))) ∧ Below w.heap.size w w'
  apply : ∀ (v1 v2 vk : Value) (n m klen : Nat) (os ns kb : List Int) (torn cut : Int) (w : World), FS w v1 n os → FS w v2 m ns → RI .u8 w vk klen kb → Bytes os → Bytes ns → Bytes kb → I63 torn → I63 cut → n ≤ 1000000 → m ≤ 1000000 →
    Calls Try.prog 7 #[v1, v2, .agg #[vk, .int .i64 torn, .int .i64 cut]] w fun e w' => ∃ v', e = .returned v' ∧ FS w' v' (min n m) (applyN kb torn cut os ns (min n m)) ∧ Below w.heap.size w w'
  all : ∀ (n : Int) (w : World), I63 n → Calls Try.prog 15 #[.int .i64 n] w fun e w' => ∃ v', e = .returned v' ∧ CRs w' v' (allN (cntA n 8)) ∧ Below w.heap.size w w'
  tears : ∀ (n cut : Int) (w : World), I63 n → I63 cut → Calls Try.prog 18 #[.int .i64 n, .int .i64 cut] w fun e w' => ∃ v', e = .returned v' ∧ CRs w' v' (tearsN (lim n 6) cut (2 ^ lim n 6)) ∧ Below w.heap.size w w'
  kept : ∀ (vk : Value) (klen : Nat) (kb : List Int) (torn cut n : Int) (w : World), RI .u8 w vk klen kb → Bytes kb → I63 torn → I63 cut → I63 n →
    Calls Try.prog 12 #[.agg #[vk, .int .i64 torn, .int .i64 cut], .int .i64 n] w fun e w' => e = .returned (.int .i64 (keptN kb torn (lim n 4096) : Int)) ∧ Below w.heap.size w w'
  torn : ∀ (vk : Value) (klen : Nat) (kb : List Int) (torn cut n : Int) (w : World), RI .u8 w vk klen kb → I63 torn → I63 cut → I63 n →
    Calls Try.prog 10 #[.agg #[vk, .int .i64 torn, .int .i64 cut], .int .i64 n] w fun e w' => e = .returned (.bool (decide (0 ≤ torn) && decide (torn < n))) ∧ Below w.heap.size w w'
def a11 : List Int := 1 :: 1 :: List.replicate 62 0
def a22 : List Int := 2 :: 2 :: List.replicate 62 0
def a21 : List Int := 2 :: 1 :: List.replicate 62 0
theorem mix_21 : mixN a11 a22 (cutN 1) = a21 := by decide
theorem c_a11 : sv a11 = #[.int .u8 1, .int .u8 1, .int .u8 0, .int .u8 0, .int .u8 0, .int .u8 0, .int .u8 0, .int .u8 0, .int .u8 0, .int .u8 0, .int .u8 0, .int .u8 0, .int .u8 0, .int .u8 0, .int .u8 0, .int .u8 0, .int .u8 0, .int .u8 0, .int .u8 0, .int .u8 0, .int .u8 0, .int .u8 0, .int .u8 0, .int .u8 0, .int .u8 0, .int .u8 0, .int .u8 0, .int .u8 0, .int .u8 0, .int .u8 0, .int .u8 0, .int .u8 0, .int .u8 0, .int .u8 0, .int .u8 0, .int .u8 0, .int .u8 0, .int .u8 0, .int .u8 0, .int .u8 0, .int .u8 0, .int .u8 0, .int .u8 0, .int .u8 0, .int .u8 0, .int .u8 0, .int .u8 0, .int .u8 0, .int .u8 0, .int .u8 0, .int .u8 0, .int .u8 0, .int .u8 0, .int .u8 0, .int .u8 0, .int .u8 0, .int .u8 0, .int .u8 0, .int .u8 0, .int .u8 0, .int .u8 0, .int .u8 0, .int .u8 0, .int .u8 0] := rfl
theorem c_a22 : sv a22 = #[.int .u8 2, .int .u8 2, .int .u8 0, .int .u8 0, .int .u8 0, .int .u8 0, .int .u8 0, .int .u8 0, .int .u8 0, .int .u8 0, .int .u8 0, .int .u8 0, .int .u8 0, .int .u8 0, .int .u8 0, .int .u8 0, .int .u8 0, .int .u8 0, .int .u8 0, .int .u8 0, .int .u8 0, .int .u8 0, .int .u8 0, .int .u8 0, .int .u8 0, .int .u8 0, .int .u8 0, .int .u8 0, .int .u8 0, .int .u8 0, .int .u8 0, .int .u8 0, .int .u8 0, .int .u8 0, .int .u8 0, .int .u8 0, .int .u8 0, .int .u8 0, .int .u8 0, .int .u8 0, .int .u8 0, .int .u8 0, .int .u8 0, .int .u8 0, .int .u8 0, .int .u8 0, .int .u8 0, .int .u8 0, .int .u8 0, .int .u8 0, .int .u8 0, .int .u8 0, .int .u8 0, .int .u8 0, .int .u8 0, .int .u8 0, .int .u8 0, .int .u8 0, .int .u8 0, .int .u8 0, .int .u8 0, .int .u8 0, .int .u8 0, .int .u8 0] := rfl
theorem c_a21 : sv a21 = #[.int .u8 2, .int .u8 1, .int .u8 0, .int .u8 0, .int .u8 0, .int .u8 0, .int .u8 0, .int .u8 0, .int .u8 0, .int .u8 0, .int .u8 0, .int .u8 0, .int .u8 0, .int .u8 0, .int .u8 0, .int .u8 0, .int .u8 0, .int .u8 0, .int .u8 0, .int .u8 0, .int .u8 0, .int .u8 0, .int .u8 0, .int .u8 0, .int .u8 0, .int .u8 0, .int .u8 0, .int .u8 0, .int .u8 0, .int .u8 0, .int .u8 0, .int .u8 0, .int .u8 0, .int .u8 0, .int .u8 0, .int .u8 0, .int .u8 0, .int .u8 0, .int .u8 0, .int .u8 0, .int .u8 0, .int .u8 0, .int .u8 0, .int .u8 0, .int .u8 0, .int .u8 0, .int .u8 0, .int .u8 0, .int .u8 0, .int .u8 0, .int .u8 0, .int .u8 0, .int .u8 0, .int .u8 0, .int .u8 0, .int .u8 0, .int .u8 0, .int .u8 0, .int .u8 0, .int .u8 0, .int .u8 0, .int .u8 0, .int .u8 0, .int .u8 0] := rfl
theorem small_bytes (a b : Int) (n : Nat) (ha : 0 ≤ a ∧ a ≤ 255) (hb : 0 ≤ b ∧ b ≤ 255) : Bytes (a :: b :: List.replicate n 0) := bytes_of_mem fun x hx => by
  simp only [List.mem_cons, List.mem_replicate] at hx
  rcases hx with rfl | rfl | ⟨_, rfl⟩ <;> omega
set_option maxRecDepth 8000 in
set_option maxHeartbeats 1000000 in
theorem cawake_any (H : CrashSays) (w : World) : Calls Try.prog 6 #[] w fun e w' => e = .returned (.bool true) ∧ Below w.heap.size w w' := by
  have H1 := Lib.hid fun w => H.all 3 w (by unfold I63; omega)
  have H2 := Lib.hid fun w => H.tears 2 5 w (by unfold I63; omega) (by unfold I63; omega)
  have H3 : Hid (∀ w, Calls Try.prog 13 #[.agg (sv a11), .agg (sv a22), .int .i64 1] w fun e w' => e = .returned (.agg (sv a21)) ∧ Below w.heap.size w w') := Lib.hid fun w => by
    have := H.mix a11 a22 1 w rfl rfl (small_bytes _ _ _ (by omega) (by omega)) (small_bytes _ _ _ (by omega) (by omega)) (by unfold I63; omega); rwa [mix_21] at this
  have L1 : Hid ((allN (cntA 3 8)).length = 8) := Lib.hid (by decide)
  have L2 : Hid ((tearsN (lim 2 6) 5 (2 ^ lim 2 6)).length = 8) := Lib.hid (by decide)
  have E1 := Lib.hid c_a11
  have E2 := Lib.hid c_a22
  have E3 := Lib.hid c_a21
  have HQ := run_eq_sec a21 a21 rfl rfl
  rw [decide_eq_true rfl] at HQ
  have HQH := Lib.hid HQ
  clear HQ
  go_enter Try.func6, Try.ntmps6
  go_wp2_with (first
    | (go_at_call 15; (with_reducible refine (H1.out _).mono ?_); rintro e w1 ⟨v1, rfl, hv, hb⟩; obtain ⟨a1, c1, rfl, _⟩ := hv.form; rw [L1.out]; have HB1 := Lib.hid hb; clear hb hv)
    | (go_at_call 18; (with_reducible refine (H2.out _).mono ?_); rintro e w2 ⟨v2, rfl, hv, hb⟩; obtain ⟨a2, c2, rfl, _⟩ := hv.form; rw [L2.out]; have HB2 := Lib.hid (chain HB1.out hb); clear hb hv)
    | (rw [← E1.out])
    | (rw [← E2.out])
    | (rw [← E3.out])
    | (go_at_call 13; (with_reducible refine (H3.out _).mono ?_); rintro e w3 ⟨rfl, hb⟩; have HB3 := Lib.hid (chain HB2.out hb); clear hb; have hq := HQH.out w3))
  go_ret
  exact ⟨rfl, HB3.out⟩
end Go.Proofs.Ytdadeloojblekaa
