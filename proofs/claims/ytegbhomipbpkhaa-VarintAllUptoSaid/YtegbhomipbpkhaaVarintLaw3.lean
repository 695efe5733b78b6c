/-
  THE WALK OF THE LAW VarintAll: whatever bytes (their numbers find room: 8 bytes for each byte, 2^47 together) and numbers come in: the call returns true and changes nothing that was there.
-/
import Derived.Test.YtegbhomipbpkhaaVarintAll
import Derived.Test.YtegbhomipbpkhaaVarintB
namespace Go.Proofs.Ytegbhomipbpkhaa
open Go.RowKit
theorem all_ri {v : Value} {len : Nat} {zs : List Int} {w : World} (hri : RI .u8 w v len zs) (hb : ∀ x ∈ zs, 0 ≤ x ∧ x ≤ 255) (hlen : len * 8 ≤ 140737488355328) {n : Nat} {ns : List Int} {e3 : Int} (hns : ar zs = ns) (hn : ns.length = n) (he : (av zs).2 = e3) :
    Calls Try.prog 12 #[v] w fun e w' => ∃ a cap, e = .returned (.tuple #[.slice a n cap, .int .i64 e3]) ∧ RI .u64 w' (.slice a n cap) n ns ∧ Below w.heap.size w w' :=
  (all_any v len zs w hri hb hlen n ns e3 hns hn he).mono fun _ _ ⟨v', h1, h2, h3⟩ => by
    have h4 := h2
    obtain ⟨a, cap, rfl, _⟩ := h2
    exact ⟨a, cap, h1, h4, h3⟩
theorem rall_ri {v : Value} {len : Nat} {zs : List Int} {w : World} (hri : RI .u8 w v len zs) (hb : ∀ x ∈ zs, 0 ≤ x ∧ x ≤ 255) (hlen : len * 8 ≤ 140737488355328) {n : Nat} {ns : List Int} {e3 : Int} (hns : ar zs = ns) (hn : ns.length = n) (he : (av zs).2 = e3) :
    Calls Try.prog 13 #[v] w fun e w' => ∃ a cap, e = .returned (.tuple #[.slice a n cap, .int .i64 e3]) ∧ RI .u64 w' (.slice a n cap) n ns ∧ Below w.heap.size w w' :=
  (rall_any v len zs w hri hb hlen n ns e3 hns hn he).mono fun _ _ ⟨v', h1, h2, h3⟩ => by
    have h4 := h2
    obtain ⟨a, cap, rfl, _⟩ := h2
    exact ⟨a, cap, h1, h4, h3⟩
theorem cv_take (ls : List Int) (k : Nat) (h : k < ls.length) : cv (ls.take (k + 1)) = cv (ls.take k) ++ vb (ls.getD k 0).toNat := by
  rw [List.take_succ_eq_append_getElem h, cv_append]
  simp [cv, List.getD, h]

set_option maxRecDepth 8000 in
set_option maxHeartbeats 2000000 in
theorem all_walk (a : Option Addr) (len cap : Nat) (zs : List Int) (la : Option Addr) (ln lc : Nat) (ls : List Int) (W : World) (hri : RI .u8 W (.slice a len cap) len zs)
    (hb : ∀ x ∈ zs, 0 ≤ x ∧ x ≤ 255) (hrl : RI .u64 W (.slice la ln lc) ln ls) (hu : ∀ x ∈ ls, U64 x) (hlen : len * 8 ≤ 140737488355328) :
    Calls Try.prog 5 #[.slice a len cap, .slice la ln lc] W fun e w' => e = .returned (.bool true) ∧ Below W.heap.size W w' := by
  obtain ⟨e3, he⟩ : ∃ e3, (av zs).2 = e3 := ⟨_, rfl⟩
  obtain ⟨ns, hns⟩ : ∃ ns, ar zs = ns := ⟨_, rfl⟩
  obtain ⟨n, hn⟩ : ∃ n, ns.length = n := ⟨_, rfl⟩
  have HE := Lib.hid he
  have HNS := Lib.hid hns
  have HN := Lib.hid hn
  have HR := Lib.hid hri
  have HRL := Lib.hid hrl
  have HB := Lib.hid hb
  have HU := Lib.hid hu
  have HL := Lib.hid hlen
  have HLL := Lib.hid hrl.length
  have hln : (ln : Int) ≤ 9223372036854775807 := by have := hrl.le; omega
  clear he hns hn hri hrl hb hu hlen
  by_cases h2 : 2000 < (ln : Int)
  · go_enter Try.func5, Try.ntmps5
    go_wp2_with (first
      | (go_at_call 10; (with_reducible refine (awake_any _).mono ?_); rintro e w2 ⟨rfl, hb⟩; have HB5 := Lib.hid hb; clear hb))
    go_ret
    exact ⟨rfl, HB5.out⟩
  · go_enter Try.func5, Try.ntmps5
    go_wp2_with (first
      | (go_at_call 12; (with_reducible refine (all_ri HR.out HB.out HL.out HNS.out HN.out HE.out).mono ?_); rintro e w1 ⟨xa, xc, rfl, hx, hb1⟩; have HX := Lib.hid hx; have HB1 := Lib.hid hb1; clear hx hb1)
      | (go_at_call 13; (with_reducible refine (rall_ri (HR.out.keep HB1.out) HB.out HL.out HNS.out HN.out HE.out).mono ?_); rintro e w2 ⟨ya, yc, rfl, hy, hb2⟩; have HY := Lib.hid hy; have HB2 := Lib.hid hb2; clear hy hb2))
    have HX2 := Lib.hid (HX.out.keep HB2.out)
    have HBW := Lib.hid (HB1.out.trans (HB2.out.mono HB1.out.size))
    have hn63 : (n : Int) ≤ 9223372036854775807 := by have := HX.out.le; omega
    go_loopw [9] (fun i wr => ∃ k : Nat, i = .int .i64 k ∧ k ≤ n ∧ Hid (∃ m, wr = w2.drewN m)) (fun i _ => n - (intOf i).toNat)
    case atStart => exact ⟨0, rfl, by omega, ⟨0, rfl⟩⟩
    case round =>
      obtain ⟨k, rfl, hk, HD⟩ := hrel
      by_cases hlt : k < n
      · obtain ⟨m, hm⟩ := HD.out
        subst hm
        obtain ⟨xb, xo, hxa, hxc⟩ := HX2.out.at_ (by omega)
        obtain ⟨yb, yo, hya, hyc⟩ := HY.out.at_ (by omega)
        subst hxa hya
        obtain ⟨z, hz⟩ : ∃ z, ns.getD k 0 = z := ⟨_, rfl⟩
        have hc1 : w2.cell? ⟨xb, xo + k, none⟩ = some (.int .u64 z) := by rw [← hz]; exact hxc k hlt
        have hc2 : w2.cell? ⟨yb, yo + k, none⟩ = some (.int .u64 z) := by rw [← hz]; exact hyc k hlt
        have h0 : (0 : Int) ≤ (k : Int) := by omega
        have h1 : (k : Int) < (n : Int) := by omega
        clear hz hxc hyc
        go_wp2_with fail
        go_quiet (fail)
        go_wp2
        go_roundw
        case rel => exact ⟨k + 1, by go_num, by omega, ⟨_, rfl⟩⟩
        case measure => simp [intOf]; omega
      · go_wp2_with fail
        obtain ⟨m, hm⟩ := HD.out
        subst hm
        have HB3 := Lib.hid (show Below W.heap.size W (w2.drewN m) from HBW.out.trans ⟨rfl, rfl, rfl, Nat.le_refl _, fun _ _ => rfl⟩)
        clear HD
        go_loopw [10, 11] (fun v i wr => ∃ (k q : Nat), i = .int .i64 k ∧ k ≤ ln ∧ q ≤ 10 * k ∧ Hid (RI .u8 wr v q (cv (ls.take k))) ∧ Hid (Below W.heap.size W wr)) (fun _ i _ => ln - (intOf i).toNat)
        case atStart => exact ⟨0, 0, rfl, by omega, by omega, RI.nil _ _, HB3⟩
        case round =>
          obtain ⟨k2, q, rfl, hk2, hq, HV, HB4⟩ := hrel
          by_cases hlt2 : k2 < ln
          · obtain ⟨lb, lo, hla, hlc⟩ := HRL.out.at_ (by omega)
            subst hla
            have hget := HU.out (ls.getD k2 0) (getD_mem (by rw [HLL.out]; exact hlt2))
            unfold U64 at hget
            obtain ⟨y, hy⟩ : ∃ y : Nat, ls.getD k2 0 = (y : Int) := ⟨(ls.getD k2 0).toNat, by omega⟩
            have HY2 := Lib.hid (show y < 18446744073709551616 by omega)
            have hc3 : wr.cell? ⟨lb, lo + k2, none⟩ = some (.int .u64 y) := by rw [← hy]; exact cell_keep HB4.out (hlc k2 hlt2)
            have HCV := Lib.hid (show cv (ls.take (k2 + 1)) = cv (ls.take k2) ++ vb y from by rw [cv_take ls k2 (by rw [HLL.out]; exact hlt2), hy, Int.toNat_natCast])
            have h1 : (k2 : Int) < (ln : Int) := by omega
            have hq2 : (q : Int) ≤ 20000 := by omega
            have HQ := Lib.hid (vb_len y HY2.out)
            clear hget hlc hy
            go_wp2_with (first
              | (go_at_call 6; (with_reducible refine (put_any y HY2.out _ q _ _ HV.out (by omega)).mono ?_); rintro e w6 ⟨v', rfl, ho, hb⟩; have HO := Lib.hid ho; have HB6 := Lib.hid hb; clear ho hb))
            go_roundw
            case rel => exact ⟨k2 + 1, q + (vb y).length, by go_num, by omega, by have := HQ.out; omega, by rw [HCV.out]; exact RI.own HO.out, HB4.out.trans (HB6.out.mono HB4.out.size)⟩
            case measure => simp [intOf]; omega
          · have hln2 : ln ≤ 2000 := by omega
            have HV2 := Lib.hid (show RI .u8 wr u10 q (cv ls) from by have := HV.out; rwa [List.take_of_length_le (by rw [HLL.out]; omega)] at this)
            have HAV := Lib.hid (av_cv ls HU.out)
            have HAR := Lib.hid (show ar (cv ls) = ls from by rw [ar_zero _ (by rw [HAV.out]), HAV.out])
            have HQ := Lib.hid (show q * 8 ≤ 140737488355328 by omega)
            go_wp2_with (first
              | (go_at_call 12; (with_reducible refine (all_ri HV2.out (cv_bytes ls) HQ.out HAR.out HLL.out (congrArg Prod.snd HAV.out)).mono ?_); rintro e w7 ⟨ba, bc, rfl, hx, hb1⟩; have HX7 := Lib.hid hx; have HB7 := Lib.hid hb1; clear hx hb1))
            have HL7 := Lib.hid ((HRL.out.keep HB4.out).keep HB7.out)
            have HB8 := Lib.hid (HB4.out.trans (HB7.out.mono HB4.out.size))
            go_loopw [14] (fun i wz => ∃ k : Nat, i = .int .i64 k ∧ k ≤ ln ∧ Hid (∃ m, wz = w7.drewN m)) (fun i _ => ln - (intOf i).toNat)
            case atStart => exact ⟨0, rfl, by omega, ⟨0, rfl⟩⟩
            case round =>
              obtain ⟨k3, rfl, hk3, HD⟩ := hrel
              by_cases hlt3 : k3 < ln
              · obtain ⟨m3, hm⟩ := HD.out
                subst hm
                obtain ⟨xb, xo, hxa, hxc⟩ := HX7.out.at_ (by omega)
                obtain ⟨yb, yo, hya, hyc⟩ := HL7.out.at_ (by omega)
                subst hxa hya
                obtain ⟨z, hz⟩ : ∃ z, ls.getD k3 0 = z := ⟨_, rfl⟩
                have hc1 : w7.cell? ⟨xb, xo + k3, none⟩ = some (.int .u64 z) := by rw [← hz]; exact hxc k3 hlt3
                have hc2 : w7.cell? ⟨yb, yo + k3, none⟩ = some (.int .u64 z) := by rw [← hz]; exact hyc k3 hlt3
                have h0 : (0 : Int) ≤ (k3 : Int) := by omega
                have h1 : (k3 : Int) < (ln : Int) := by omega
                clear hz hxc hyc
                go_wp2_with fail
                go_quiet (fail)
                go_wp2
                go_roundw
                case rel => exact ⟨k3 + 1, by go_num, by omega, ⟨_, rfl⟩⟩
                case measure => simp [intOf]; omega
              · obtain ⟨m3, hm⟩ := HD.out
                subst hm
                have HB9 := Lib.hid (show Below W.heap.size W (w7.drewN m3) from HB8.out.trans ⟨rfl, rfl, rfl, Nat.le_refl _, fun _ _ => rfl⟩)
                clear HD
                go_wp2_with (first
                  | (go_at_call 10; (with_reducible refine (awake_any _).mono ?_); rintro e w9 ⟨rfl, hb⟩; have HB10 := Lib.hid hb; clear hb))
                go_ret
                exact ⟨rfl, HB9.out.trans (HB10.out.mono HB9.out.size)⟩
end Go.Proofs.Ytegbhomipbpkhaa
