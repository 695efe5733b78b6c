/-
  LAYER 9 (crash), the program's own: Tears; and all that the laws' walks ask of the program.
-/
import Derived.Test.YtdadeloojblekaaCrTear
namespace Go.Proofs.Ytdadeloojblekaa
open Go.RowKit
set_option maxRecDepth 100000 in
set_option maxHeartbeats 1000000 in
theorem tears_any (n cut : Int) (w : World) (h : I63 n) (_ : I63 cut) : Calls Try.prog 18 #[.int .i64 n, .int .i64 cut] w fun e w' => ∃ v', e = .returned v' ∧ CRs w' v' (tearsN (lim n 6) cut (2 ^ lim n 6)) ∧ Below w.heap.size w w' := by
  have HN := Lib.hid fun w => nearer_any n 6 h (by omega) w
  have hm := lim_le n 6 (by omega)
  have hm6 : lim n 6 ≤ 6 := by omega
  generalize lim n 6 = m at *
  obtain ⟨M, hM⟩ : ∃ M, 2 ^ m = M := ⟨_, rfl⟩
  rw [hM]
  have hM2 : M ≤ 64 := by rw [← hM]; exact Nat.pow_le_pow_right (by omega : 0 < 2) hm6
  have hMm : M * m ≤ 1000 := by
    have : M * m ≤ 64 * 6 := Nat.mul_le_mul hM2 hm6
    omega
  have HC := Lib.hid fun w => tmaker_any (m : Int) cut w
  have HL : Hid (CallsIn Fence.wide 10 Try.prog 24 #[.func (.func 31) #[] #[.pointer (some ⟨w.heap.size, 0, none⟩), .pointer (some ⟨w.heap.size + 1, 0, none⟩)]] ((w.alloc (.cells #[.int .i64 (m : Int)] 3)).alloc (.cells #[.int .i64 cut] 3)) fun e w' => ∃ v, ∃ xs : List CrX, e = .returned v ∧ xs.map Prod.snd = tearsN m cut M ∧ CRs w' v (xs.map Prod.snd) ∧ Below (w.heap.size + 2) ((w.alloc (.cells #[.int .i64 (m : Int)] 3)).alloc (.cells #[.int .i64 cut] 3)) w') := Lib.hid (by
    have hb := (Boxed.new w 3 (.int .i64 (m : Int))).alloc (.cells #[.int .i64 cut] 3)
    have hc := Boxed.new (w.alloc (.cells #[.int .i64 (m : Int)] 3)) 3 (.int .i64 cut)
    have hs : ((w.alloc (.cells #[.int .i64 (m : Int)] 3)).alloc (.cells #[.int .i64 cut] 3)).heap.size = w.heap.size + 2 := by rw [alloc_size, alloc_size]
    rw [alloc_size] at hc
    generalize (w.alloc (.cells #[.int .i64 (m : Int)] 3)).alloc (.cells #[.int .i64 cut] 3) = w1 at *
    rw [← hs]
    exact collect_any 10 (by omega) _ _ (enters_of Try.func31 (by kernel_rfl) rfl) (fun xs => xs.map Prod.snd = tearsN m cut M) (M * m) hMm w1 w1 (tears_told _ (by omega) w.heap.size (w.heap.size + 1) m M cut w1 hm6 hM (by omega) (by omega) hb hc) (Below.refl _ _))
  clear h
  go_enter Try.func18, Try.ntmps18
  go_wp2_with (first
    | (go_at_call 22; (with_reducible refine (HN.out _).mono ?_); rintro e w2 ⟨rfl, rfl⟩)
    | (go_at_call 27; (with_reducible refine (callsIn_wide.1 (HC.out _)).mono ?_); rintro e w2 ⟨rfl, rfl⟩)
    | (go_at_call 24; (with_reducible refine (callsIn_wide.1 HL.out).mono ?_); rintro e w3 ⟨v, xs, rfl, hS, hl, hb⟩; rw [hS] at hl; obtain ⟨a', c', rfl, _⟩ := hl.form))
  go_ret
  exact ⟨_, rfl, hl, (chain (below_alloc w _) (below_alloc _ _)).trans (hb.mono (by omega))⟩
theorem crash_says : CrashSays where
  mix := fun old nx cut w ho hn _ _ hc => mix_any old nx cut w ho hn hc
  apply := apply_any
  all := all_any
  tears := tears_any
  kept := kept_any
  torn := torn_any
end Go.Proofs.Ytdadeloojblekaa
