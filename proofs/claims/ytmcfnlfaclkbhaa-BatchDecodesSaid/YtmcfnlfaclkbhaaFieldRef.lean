/-
  WHAT THE FUNCTIONS OF THE REFERENCE OF LAYER 4 (field) ANSWER: Get, Pack, Unpack, Same. Bytes must lie where the slices say; sizes as the theorems say.
-/
import Derived.Test.YtmcfnlfaclkbhaaSlices
import Derived.Test.YtmcfnlfaclkbhaaFieldMath
import Derived.Test.YtmcfnlfaclkbhaaVarintGet
namespace Go.Proofs.Ytmcfnlfaclkbhaa
open Go.RowKit
set_option maxRecDepth 8000 in
set_option maxHeartbeats 1000000 in
theorem rgetf_any (v : Value) (len : Nat) (zs : List Int) (w : World) (hri : RI .u8 w v len zs) (hb : isB zs) (hlen : (len : Int) ≤ 281474976710656) (g1 : List Int) (g2 : Nat) (g3 : Int) (hg : gf zs = (g1, g2, g3)) :
    Calls Try.prog 30 #[v] w fun e w' => ∃ v', e = .returned (.tuple #[v', .int .i64 g2, .int .i64 g3]) ∧ w'.ownsRow w.heap.size 5 1 v' g1.length (il .u8 g1) ∧ Below w.heap.size w w' := by
  obtain ⟨⟨n0, k, e⟩, hv⟩ : ∃ g, gv 0 0 zs = g := ⟨_, rfl⟩
  have HR := Lib.hid hri
  have HB := Lib.hid (show ∀ x ∈ zs, 0 ≤ x ∧ x ≤ 255 from hb)
  have HV := Lib.hid hv
  have hz := hri.length
  obtain ⟨a, cap, rfl, _, hlc, hc63, _, _⟩ := hri
  have hkl := gv_len zs 0 0
  rw [hv, hz] at hkl
  simp only [Nat.zero_add] at hkl
  by_cases h0 : e = 0
  · have hbd := gv_bd zs 0 0 (by omega) (by omega) (by simp) hb
    rw [hv] at hbd
    simp only at hbd
    obtain ⟨hn0, hn1⟩ := hbd
    obtain ⟨n, rfl⟩ : ∃ n : Nat, n0 = (n : Int) := ⟨n0.toNat, by omega⟩
    have hnu : (n : Int) ≤ 18446744073709551615 := by omega
    by_cases h1 : 65536 < (n : Int)
    · have hgg := gf_long zs (by rw [hv]; exact h0) (by rw [hv]; exact h1)
      rw [hg] at hgg
      simp only [Prod.mk.injEq] at hgg
      obtain ⟨rfl, rfl, rfl⟩ := hgg
      subst h0
      clear hg hv hb
      go_enter Try.func30, Try.ntmps30
      go_wp2_with (first
        | (go_at_call 36; (with_reducible refine (rget_any HR.out HB.out HV.out).mono ?_); rintro e w' ⟨rfl, rfl⟩))
      go_ret3
      exact ⟨_, rfl, World.ownsRow_nil _ _ _ _, Below.refl _ _⟩
    · by_cases h2 : (len : Int) - k < (n : Int)
      · have hgg := gf_short zs (by rw [hv]; exact h0) (by rw [hv]; exact h1) (by rw [hv, hz]; simp only; omega)
        rw [hg] at hgg
        simp only [Prod.mk.injEq] at hgg
        obtain ⟨rfl, rfl, rfl⟩ := hgg
        subst h0
        clear hg hv hb
        go_enter Try.func30, Try.ntmps30
        go_wp2_with (first
          | (go_at_call 36; (with_reducible refine (rget_any HR.out HB.out HV.out).mono ?_); rintro e w' ⟨rfl, rfl⟩))
        go_ret3
        exact ⟨_, rfl, World.ownsRow_nil _ _ _ _, Below.refl _ _⟩
      · have hgg := gf_good zs (by rw [hv]; exact h0) (by rw [hv]; exact h1) (by rw [hv, hz]; simp only; omega)
        rw [hg, hv] at hgg
        simp only [Prod.mk.injEq, Int.toNat_natCast] at hgg
        obtain ⟨rfl, rfl, rfl⟩ := hgg
        subst h0
        have hkn : k + n ≤ len := by omega
        have HE := Lib.hid (show ((zs.drop k).take n).length = n from by simp; omega)
        by_cases hcap : cap = k
        · obtain rfl : n = 0 := by omega
          subst hcap
          have HZ := Lib.hid (show RI .u8 w (.slice a 0 0) 0 [] from ⟨a, 0, rfl, rfl, by omega, by omega, fun _ => by omega, fun h => absurd h (by omega)⟩)
          clear hg hv hb
          go_enter Try.func30, Try.ntmps30
          go_wp2_with (first
            | (go_at_call 36; (with_reducible refine (rget_any HR.out HB.out HV.out).mono ?_); rintro e w' ⟨rfl, rfl⟩)
            | (at_builtin; go_loud (refine wpl_appn rfl (.tmp 26) (.tmp 33) 24 rfl 5 .u8 1 Try.underlying24 Try.info_u8 w.heap.size _ 0 [] rfl (own_empty rfl (by omega)) _ 0 [] rfl (HZ.out.keep ((Below.refl _ _).alloc (Nat.le_refl _) _)) (by omega) (by omega) w.heap.size w ((Below.refl _ _).alloc (Nat.le_refl _) _) (Nat.le_refl _) (by simp) ?_); intro v1 w4 HO1 HB1))
          go_ret3
          exact ⟨_, rfl, by rw [HE.out, List.take_zero]; exact HO1.out, HB1.out⟩
        · clear hg hv hb
          go_enter Try.func30, Try.ntmps30
          go_wp2_with (first
            | (go_at_call 36; (with_reducible refine (rget_any HR.out HB.out HV.out).mono ?_); rintro e w' ⟨rfl, rfl⟩)
            | (at_builtin; go_loud (refine wpl_appn rfl (.tmp 26) (.tmp 33) 24 rfl 5 .u8 1 Try.underlying24 Try.info_u8 w.heap.size _ 0 [] rfl (own_empty rfl (by omega)) _ n ((zs.drop k).take n) rfl ((HR.out.mid' k n hkn).keep ((Below.refl _ _).alloc (Nat.le_refl _) _)) (by omega) (by omega) w.heap.size w ((Below.refl _ _).alloc (Nat.le_refl _) _) (Nat.le_refl _) (by simp) ?_); intro v1 w4 HO1 HB1))
          go_ret3
          refine ⟨_, rfl, ?_, HB1.out⟩
          have h5 := HO1.out
          rw [Nat.zero_add, List.nil_append] at h5
          rw [HE.out]; exact h5
  · have hgg := gf_bad zs (by rw [hv]; exact h0)
    rw [hg, hv] at hgg
    simp only [Prod.mk.injEq] at hgg
    obtain ⟨rfl, rfl, rfl⟩ := hgg
    clear hg hv hb
    go_enter Try.func30, Try.ntmps30
    go_wp2_with (first
      | (go_at_call 36; (with_reducible refine (rget_any HR.out HB.out HV.out).mono ?_); rintro e w' ⟨rfl, rfl⟩))
    go_ret3
    exact ⟨_, rfl, World.ownsRow_nil _ _ _ _, Below.refl _ _⟩
end Go.Proofs.Ytmcfnlfaclkbhaa
