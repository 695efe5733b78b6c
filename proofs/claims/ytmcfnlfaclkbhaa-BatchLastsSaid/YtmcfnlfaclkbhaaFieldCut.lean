/-
  WHAT THE PROGRAM'S OWN cut, Get OF LAYER 4 (field) ANSWER (for the layers behind it, too). Bytes must lie where the slices say; sizes as the theorems say.
-/
import Derived.Test.YtmcfnlfaclkbhaaFieldLay
namespace Go.Proofs.Ytmcfnlfaclkbhaa
open Go.RowKit
set_option maxRecDepth 8000 in
set_option maxHeartbeats 1000000 in
theorem cut_any (v : Value) (len : Nat) (zs : List Int) (w : World) (hri : RI .u8 w v len zs) (hb : isB zs) (g1 : List Int) (g2 : Nat) (g3 : Int) (hg : gf zs = (g1, g2, g3)) :
    Calls Try.prog 54 #[v] w fun e w' => ∃ v', e = .returned (.tuple #[v', .int .i64 g2, .int .i64 g3]) ∧ RI .u8 w v' g1.length g1 ∧ (∀ q, v'.ownBlock = some q → v.ownBlock = some q) ∧ w = w' := by
  obtain ⟨⟨n0, k, e⟩, hv⟩ : ∃ g, gv 0 0 zs = g := ⟨_, rfl⟩
  have HR := Lib.hid hri
  have HB := Lib.hid (show ∀ x ∈ zs, 0 ≤ x ∧ x ≤ 255 from hb)
  have HV := Lib.hid hv
  have hz := hri.length
  obtain ⟨a, cap, rfl, _, hlc, hc63, _, _⟩ := hri
  have hkl := gv_len zs 0 0
  rw [hv, hz] at hkl
  simp only [Nat.zero_add] at hkl
  by_cases h0 : e = 0
  · have hbd := gv_bd zs 0 0 (by omega) (by omega) (by simp) hb
    rw [hv] at hbd
    simp only at hbd
    obtain ⟨hn0, hn1⟩ := hbd
    obtain ⟨n, rfl⟩ : ∃ n : Nat, n0 = (n : Int) := ⟨n0.toNat, by omega⟩
    have hnu : (n : Int) ≤ 18446744073709551615 := by omega
    by_cases h1 : 65536 < (n : Int)
    · have hgg := gf_long zs (by rw [hv]; exact h0) (by rw [hv]; exact h1)
      rw [hg] at hgg
      simp only [Prod.mk.injEq] at hgg
      obtain ⟨rfl, rfl, rfl⟩ := hgg
      subst h0
      clear hg hv hb
      go_enter Try.func54, Try.ntmps54
      go_wp2_with (first
        | (go_at_call 61; (with_reducible refine (get_any HR.out HB.out HV.out).mono ?_); rintro e w' ⟨rfl, rfl⟩))
      go_ret3
      exact ⟨_, rfl, RI.nil _ _, fun q hq => by simp [Value.ownBlock] at hq, rfl⟩
    · by_cases h2 : (len : Int) - k < (n : Int)
      · have hgg := gf_short zs (by rw [hv]; exact h0) (by rw [hv]; exact h1) (by rw [hv, hz]; simp only; omega)
        rw [hg] at hgg
        simp only [Prod.mk.injEq] at hgg
        obtain ⟨rfl, rfl, rfl⟩ := hgg
        subst h0
        clear hg hv hb
        go_enter Try.func54, Try.ntmps54
        go_wp2_with (first
          | (go_at_call 61; (with_reducible refine (get_any HR.out HB.out HV.out).mono ?_); rintro e w' ⟨rfl, rfl⟩))
        go_ret3
        exact ⟨_, rfl, RI.nil _ _, fun q hq => by simp [Value.ownBlock] at hq, rfl⟩
      · have hgg := gf_good zs (by rw [hv]; exact h0) (by rw [hv]; exact h1) (by rw [hv, hz]; simp only; omega)
        rw [hg, hv] at hgg
        simp only [Prod.mk.injEq, Int.toNat_natCast] at hgg
        obtain ⟨rfl, rfl, rfl⟩ := hgg
        subst h0
        have hkn : k + n ≤ len := by omega
        have HE := Lib.hid (show ((zs.drop k).take n).length = n from by simp; omega)
        by_cases hn : n = 0
        · have HN := Lib.hid hn
          have hkk : k + n = k := by omega
          clear hg hv hb hn
          go_enter Try.func54, Try.ntmps54
          go_wp2_with (first
            | (go_at_call 61; (with_reducible refine (get_any HR.out HB.out HV.out).mono ?_); rintro e w' ⟨rfl, rfl⟩))
          go_ret3
          refine ⟨.slice a (k + n - k) (k + n - k), ?_, ?_, fun q hq => ?_, rfl⟩
          · show Ending.returned (.tuple #[.slice a (k + n - k) (k + n - k), .int .i64 ((k : Int) + n), .int .i64 0]) = _
            rw [HN.out]; simp
          · rw [Nat.add_sub_cancel_left, HN.out, List.take_zero]
            exact ⟨a, 0, by simp, rfl, by simp, by simp, fun _ => rfl, fun h => absurd h (by simp)⟩
          · cases a with
            | none => simp [Value.ownBlock] at hq
            | some x => simpa [Value.ownBlock] using hq
        · have hkk : ¬ k + n = k := by omega
          clear hg hv hb
          go_enter Try.func54, Try.ntmps54
          go_wp2_with (first
            | (go_at_call 61; (with_reducible refine (get_any HR.out HB.out HV.out).mono ?_); rintro e w' ⟨rfl, rfl⟩))
          go_ret3
          refine ⟨.slice (Option.map (fun x => x.add k) a) (k + n - k) (k + n - k), ?_, ?_, fun q hq => ?_, rfl⟩
          · show Ending.returned (.tuple #[.slice (Option.map (fun x => x.add k) a) (k + n - k) (k + n - k), .int .i64 ((k : Int) + n), .int .i64 0]) = _
            simp
          · rw [Nat.add_sub_cancel_left, HE.out]
            obtain ⟨b, off, hab, hcell⟩ := HR.out.at_ (by omega)
            obtain rfl := hab
            refine ⟨_, n, rfl, HE.out, Nat.le_refl _, by omega, fun h => by simp at h, fun _ => ⟨b, off + k, by simp [Addr.add], fun j hj => ?_⟩⟩
            rw [Nat.add_assoc, hcell (k + j) (by omega)]
            simp [List.getD, hj]
          · cases a with
            | none => simp [Value.ownBlock] at hq
            | some x => by_cases hk : k = 0 <;> simpa [Value.ownBlock, Addr.add, hk] using hq
  · have hgg := gf_bad zs (by rw [hv]; exact h0)
    rw [hg, hv] at hgg
    simp only [Prod.mk.injEq] at hgg
    obtain ⟨rfl, rfl, rfl⟩ := hgg
    clear hg hv hb
    go_enter Try.func54, Try.ntmps54
    go_wp2_with (first
      | (go_at_call 61; (with_reducible refine (get_any HR.out HB.out HV.out).mono ?_); rintro e w' ⟨rfl, rfl⟩))
    go_ret3
    exact ⟨_, rfl, RI.nil _ _, fun q hq => by simp [Value.ownBlock] at hq, rfl⟩
set_option maxRecDepth 8000 in
theorem fget_own (v : Value) (len : Nat) (zs : List Int) (w : World) (hri : RI .u8 w v len zs) (hb : isB zs) (g1 : List Int) (g2 : Nat) (g3 : Int) (hg : gf zs = (g1, g2, g3)) :
    Calls Try.prog 41 #[v] w fun e w' => ∃ v', e = .returned (.tuple #[v', .int .i64 g2, .int .i64 g3]) ∧ w'.ownsRow w.heap.size 5 1 v' g1.length (il .u8 g1) ∧ Below w.heap.size w w' := by
  have HR := Lib.hid hri
  have HB := Lib.hid hb
  have HG := Lib.hid hg
  have HL := Lib.hid (show (g1.length : Int) ≤ 65536 from by have h := gf_len zs hb; rw [hg] at h; simp only at h; omega)
  clear hri hb hg
  go_enter Try.func41, Try.ntmps41
  go_wp2_with (first
    | (go_at_call 54; (with_reducible refine (cut_any _ len zs _ HR.out HB.out g1 g2 g3 HG.out).mono ?_); rintro e w1 ⟨v1, rfl, hr1, _, rfl⟩; have HR1 := Lib.hid hr1; clear hr1)
    | (go_at_call 39; (with_reducible refine (clone_any _ _ g1 _ HR1.out (by have := HL.out; omega)).mono ?_); rintro e w2 ⟨v2, rfl, ho2, hb2⟩; have HO2 := Lib.hid ho2; have HB2 := Lib.hid hb2; clear ho2 hb2))
  go_ret3
  exact ⟨_, rfl, HO2.out, HB2.out⟩
theorem fget_any (v : Value) (len : Nat) (zs : List Int) (w : World) (hri : RI .u8 w v len zs) (hb : isB zs) (_hlen : (len : Int) ≤ 281474976710656) (g1 : List Int) (g2 : Nat) (g3 : Int) (hg : gf zs = (g1, g2, g3)) :
    Calls Try.prog 41 #[v] w fun e w' => ∃ v', e = .returned (.tuple #[v', .int .i64 g2, .int .i64 g3]) ∧ RI .u8 w' v' g1.length g1 ∧ Below w.heap.size w w' :=
  (fget_own v len zs w hri hb g1 g2 g3 hg).mono fun _ _ ⟨v', he, ho, hb⟩ => ⟨v', he, RI.own ho, hb⟩
end Go.Proofs.Ytmcfnlfaclkbhaa
