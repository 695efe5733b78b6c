/-
  LAYER 12 (batch): the walk of the law BatchDecodes. Within the form's own bounds.
-/
import Derived.Test.YtmcfnlfaclkbhaaBatLaws
namespace Go.Proofs.Ytmcfnlfaclkbhaa
open Go.RowKit
theorem bat_no {k : List AO} {rest : List Int} (h : ¬ (rest = [] ∧ batR k = true)) (hs : Stop rest) : batL k rest = [] ∧ batE k rest ≠ 0 := by
  refine ⟨by unfold batL; rw [if_neg h], fun h0 => h (batE_zero hs h0)⟩
set_option maxRecDepth 8000 in
set_option maxHeartbeats 4000000 in
theorem decodes_walk (a : Option Addr) (len cap : Nat) (zs : List Int) (W : World) (hri : RI .u8 W (.slice a len cap) len zs) (hb : isB zs) :
    Calls Try.prog 4 #[.slice a len cap] W fun e w' => e = .returned (.bool true) ∧ Below W.heap.size W w' := by
  by_cases hbig : 5000 < (len : Int)
  · clear hri hb
    go_enter Try.func4, Try.ntmps4
    go_wp2_with (first
      | (go_at_call 6; (with_reducible refine (awake_any _).mono ?_); rintro e w1 ⟨rfl, hb⟩; have HB := Lib.hid hb; clear hb))
    go_ret
    exact ⟨rfl, HB.out⟩
  · obtain ⟨k, rest, hk, hz, hs⟩ := bat_exists _ zs rfl hb
    have hbr : isB rest := fun x hx => hb x (by rw [hz]; exact List.mem_append_right _ hx)
    have HR := Lib.hid hri
    have H5 : Hid (∀ (l : List AO) v1 v2 w, OS w v1 l → OS w v2 l → Calls Try.prog 12 #[v1, v2] w fun e w' => e = .returned (.bool true) ∧ Below w.heap.size w w') := Lib.hid fun l v1 v2 w h1 h2 => (rosame_any v1 v2 l l w h1 h2).mono fun _ _ ⟨e, b⟩ => ⟨by rw [e]; simp, b⟩
    by_cases hok : rest = [] ∧ batR k = true
    · obtain ⟨rfl, hr⟩ := hok
      obtain ⟨d1, d2⟩ := batL_zero hr
      obtain ⟨n, hn⟩ : ∃ n, k.length = n := ⟨_, rfl⟩
      have hzk : zs = batB k := by rw [hz, List.append_nil]
      have hkl : (batB k).length = len := by rw [← hzk]; exact hri.length
      have H1 : Hid (∀ w, RI .u8 w (.slice a len cap) len zs → Calls Try.prog 10 #[.slice a len cap] w fun e w' => ∃ p2 c2, e = .returned (.tuple #[.slice p2 n c2, .int .i64 0]) ∧ OS w' (.slice p2 n c2) k ∧ Below w.heap.size w w') := Lib.hid fun w h => by
        refine (bdecode_any _ len k [] w (by rw [← hz]; exact h) (fun x hx => by simp at hx) hk hs (by omega)).mono ?_
        rintro e w' ⟨v, rfl, ho, hb⟩
        rw [d1] at ho
        rw [d2]
        obtain ⟨p2, c2, rfl, _⟩ := ho.form
        rw [hn] at ho ⊢
        exact ⟨p2, c2, rfl, ho, hb⟩
      have H2 : Hid (∀ w, RI .u8 w (.slice a len cap) len zs → Calls Try.prog 13 #[.slice a len cap] w fun e w' => ∃ p2 c2, e = .returned (.tuple #[.slice p2 n c2, .int .i64 0]) ∧ OS w' (.slice p2 n c2) k ∧ Below w.heap.size w w') := Lib.hid fun w h => by
        refine (rbdecode_any _ len k [] w (by rw [← hz]; exact h) (fun x hx => by simp at hx) hk hs (by omega)).mono ?_
        rintro e w' ⟨v, rfl, ho, hb⟩
        rw [d1] at ho
        rw [d2]
        obtain ⟨p2, c2, rfl, _⟩ := ho.form
        rw [hn] at ho ⊢
        exact ⟨p2, c2, rfl, ho, hb⟩
      have HE : Hid (∀ v w, OS w v k → Calls Try.prog 7 #[v] w fun e w' => ∃ p c', e = .returned (.tuple #[.slice p len c', .int .i64 0]) ∧ RI .u8 w' (.slice p len c') len zs ∧ Below w.heap.size w w') := Lib.hid fun v w h => by
        refine (bencode_right _ k w h hr).mono ?_
        rintro e w' ⟨v, rfl, ho, hb⟩
        rw [hkl] at ho
        obtain ⟨p, c', rfl⟩ := own_form ho
        exact ⟨p, c', rfl, by rw [hzk]; exact RI.own ho, hb⟩
      obtain ⟨x, hx⟩ : ∃ x, strOfNums zs = x := ⟨_, rfl⟩
      have HX := Lib.hid hx
      clear hri hb hk hz hs hbr hr d1 d2 hn hzk hkl hx
      go_enter Try.func4, Try.ntmps4
      go_wp2_with (first
        | (go_at_call 10; (with_reducible refine (H1.out _ HR.out).mono ?_); rintro e w1 ⟨p1, c1, rfl, ho1, hb⟩; have HO1 := Lib.hid ho1; have HB1 := Lib.hid hb; clear hb ho1)
        | (go_at_call 13; (with_reducible refine (H2.out _ (HR.out.keep HB1.out)).mono ?_); rintro e w2 ⟨p2, c2, rfl, ho2, hb⟩; have HO2 := Lib.hid ho2; have HO12 := Lib.hid (HO1.out.keep hb); have HB2 := Lib.hid (bch HB1.out hb); clear hb ho2)
        | (go_at_call 12; (with_reducible refine (H5.out k _ _ _ HO12.out HO2.out).mono ?_); rintro e w3 ⟨rfl, hb⟩; have HO3 := Lib.hid (HO12.out.keep hb); have HB3 := Lib.hid (bch HB2.out hb); clear hb)
        | (go_at_call 7; (with_reducible refine (HE.out _ _ HO3.out).mono ?_); rintro e w4 ⟨p4, c4, rfl, hr4, hb⟩; have HB4 := Lib.hid (bch HB3.out hb); have hq4 := conv_ri hr4; rw [HX.out] at hq4; have hqb := conv_ri (HR.out.keep HB4.out); rw [HX.out] at hqb; clear hb hr4)
        | (go_at_call 6; (with_reducible refine (awake_any _).mono ?_); rintro e w5 ⟨rfl, hb⟩; have HB8 := Lib.hid (bch HB4.out hb); clear hb))
      go_ret
      exact ⟨rfl, HB8.out⟩
    · obtain ⟨d1, d2⟩ := bat_no hok hs
      obtain ⟨y, hy⟩ : ∃ y, batE k rest = y := ⟨_, rfl⟩
      rw [hy] at d2
      have hne : (y != 0) = true := by simpa using d2
      have H1 : Hid (∀ w, RI .u8 w (.slice a len cap) len zs → Calls Try.prog 10 #[.slice a len cap] w fun e w' => ∃ p2 c2, e = .returned (.tuple #[.slice p2 0 c2, .int .i64 y]) ∧ OS w' (.slice p2 0 c2) [] ∧ Below w.heap.size w w') := Lib.hid fun w h => by
        refine (bdecode_any _ len k rest w (by rw [← hz]; exact h) hbr hk hs (by omega)).mono ?_
        rintro e w' ⟨v, rfl, ho, hb⟩
        rw [d1] at ho
        rw [hy]
        obtain ⟨p2, c2, rfl, _⟩ := ho.form
        exact ⟨p2, c2, rfl, ho, hb⟩
      have H2 : Hid (∀ w, RI .u8 w (.slice a len cap) len zs → Calls Try.prog 13 #[.slice a len cap] w fun e w' => ∃ p2 c2, e = .returned (.tuple #[.slice p2 0 c2, .int .i64 y]) ∧ OS w' (.slice p2 0 c2) [] ∧ Below w.heap.size w w') := Lib.hid fun w h => by
        refine (rbdecode_any _ len k rest w (by rw [← hz]; exact h) hbr hk hs (by omega)).mono ?_
        rintro e w' ⟨v, rfl, ho, hb⟩
        rw [d1] at ho
        rw [hy]
        obtain ⟨p2, c2, rfl, _⟩ := ho.form
        exact ⟨p2, c2, rfl, ho, hb⟩
      have HE : Hid (∀ v w, OS w v [] → Calls Try.prog 7 #[v] w fun e w' => e = .returned (.tuple #[.slice none 0 0, .int .i64 13]) ∧ Below w.heap.size w w') := Lib.hid fun v w h => bencode_wrong _ [] w h (by decide)
      clear hri hb hk hz hs hbr hok d1 d2 hy
      go_enter Try.func4, Try.ntmps4
      go_wp2_with (first
        | (go_at_call 10; (with_reducible refine (H1.out _ HR.out).mono ?_); rintro e w1 ⟨p1, c1, rfl, ho1, hb⟩; have HO1 := Lib.hid ho1; have HB1 := Lib.hid hb; clear hb ho1)
        | (go_at_call 13; (with_reducible refine (H2.out _ (HR.out.keep HB1.out)).mono ?_); rintro e w2 ⟨p2, c2, rfl, ho2, hb⟩; have HO2 := Lib.hid ho2; have HO12 := Lib.hid (HO1.out.keep hb); have HB2 := Lib.hid (bch HB1.out hb); clear hb ho2)
        | (go_at_call 12; (with_reducible refine (H5.out [] _ _ _ HO12.out HO2.out).mono ?_); rintro e w3 ⟨rfl, hb⟩; have HO3 := Lib.hid (HO12.out.keep hb); have HB3 := Lib.hid (bch HB2.out hb); clear hb)
        | (go_at_call 7; (with_reducible refine (HE.out _ _ HO3.out).mono ?_); rintro e w4 ⟨rfl, hb⟩; have HB4 := Lib.hid (bch HB3.out hb); clear hb)
        | (go_at_call 6; (with_reducible refine (awake_any _).mono ?_); rintro e w5 ⟨rfl, hb⟩; have HB5 := Lib.hid (bch HB4.out hb); clear hb))
      go_ret
      exact ⟨rfl, HB5.out⟩
end Go.Proofs.Ytmcfnlfaclkbhaa
