/-
  TEXTS JOINED: PoolCode, NameVars, SegCode, SegLay, SegLoad, PoolDo, SegBox. Each one's own words stand at its head.
-/
import Derived.Test.YtgegbpnmfpjdmaaGreatDoorJ10
import Derived.Test.YtgegbpnmfpjdmaaGreatDoorJ6
import Derived.Test.YtgegbpnmfpjdmaaGreatDoorJ14
import Derived.Test.YtgegbpnmfpjdmaaGreatDoorJ11
import Derived.Test.YtgegbpnmfpjdmaaGreatDoorJ0
import Derived.WalkLawsBesides
import Derived.WalkSpells
import Derived.Test.YtgegbpnmfpjdmaaGreatDoorJ20
import Derived.Test.YtgegbpnmfpjdmaaGreatDoorJ18
import Derived.Test.YtgegbpnmfpjdmaaGreatDoorJ17
namespace Go.Proofs.YtgegbpnmfpjdmaaGreatDoor
open Go.RowKit
variable {DK : World → Addr → (Nat → Bool) → AD → Prop}
theorem pool_name (k : Nat) (hk : k ≤ 2) (w : World) (hv : Pow w) :
    Calls Tryz.prog 85 #[.int .i64 (k : Int)] w fun e w' => e = .returned (.string (frN k)) ∧ Below w.heap.size w w' := by
  obtain ⟨i0, i1, i2⟩ := itoa_low
  rcases k with _ | _ | _ | k
  · exact pool_one 0 (by omega) [48] i0 (by decide) w hv
  · exact pool_one 1 (by omega) [49] i1 (by decide) w hv
  · exact pool_one 2 (by omega) [50] i2 (by decide) w hv
  · omega
theorem psize_of (H : DiskSays DK) {d : AD} {s : ByteArray} {x : Int} (hg : Good d) (hs : s.size ≤ 281474976710656) (hx : szI d s = x) :
    Hid (∀ w p F, DK w p F d → Calls Tryz.prog 60 #[ptr p, .string s] w fun e w' => e = .returned (.int .i64 x) ∧ Below w.heap.size w w') :=
  Lib.hid fun w p F h => by rw [← hx]; exact H.size w p F d s h hg hs
theorem pready_any (H : DiskSays DK) (w : World) (p : Addr) (F : Nat → Bool) (d : AD) (h : DK w p F d) (hg : Good d) :
    Calls Tryz.prog 54 #[ptr p] w fun e w' => e = .returned (.int .i64 (if d.down = true then 9 else 0)) ∧ Below w.heap.size w w' := by
  have HD := Lib.hid (H.down w p F d h hg)
  cases hd : d.down with
  | false =>
    rw [hd] at HD
    go_enter Tryz.func54, Tryz.ntmps54
    go_wp2_with (first
      | (go_at_call 84; (with_reducible refine HD.out.mono ?_); rintro e w1 ⟨rfl, hb⟩; have HB := Lib.hid hb; clear hb))
    go_ret
    exact ⟨rfl, HB.out⟩
  | true =>
    rw [hd] at HD
    go_enter Tryz.func54, Tryz.ntmps54
    go_wp2_with (first
      | (go_at_call 84; (with_reducible refine HD.out.mono ?_); rintro e w1 ⟨rfl, hb⟩; have HB := Lib.hid hb; clear hb))
    go_ret
    exact ⟨rfl, HB.out⟩
structure LK (DK : World → Addr → (Nat → Bool) → AD → Prop) (w : World) (p : Addr) (F : Nat → Bool) (d : AD) (W : World) : Prop where
  dk : DK W p F d
  below : Below w.heap.size w W
  pow : Pow W
theorem LK.next (H : DiskSays DK) {w : World} {p : Addr} {F : Nat → Bool} {d : AD} {W W' : World} (h : LK DK w p F d W) (hb : Below W.heap.size W W') : LK DK w p F d W' :=
  ⟨H.below h.dk hb, h.below.trans (hb.mono h.below.size), h.pow.on hb⟩
theorem first_none {d : AD} {n : Int} (h : ∀ j, j < 2 → szI d (frN (j + 1)) ≠ n) : firstI d n = noS := by
  have h1 : szI d fr1 ≠ n := h 0 (by omega)
  have h2 : szI d fr2 ≠ n := h 1 (by omega)
  unfold firstI
  rw [if_neg h1, if_neg h2]
theorem first_some {d : AD} {n : Int} {i : Nat} (hi : i < 2) (h : ∀ j, j < i → szI d (frN (j + 1)) ≠ n) (h2 : szI d (frN (i + 1)) = n) : firstI d n = frN (i + 1) := by
  rcases i with _ | _ | i
  · have h3 : szI d fr1 = n := h2
    unfold firstI; rw [if_pos h3]; rfl
  · have h3 : szI d fr2 = n := h2
    have h4 : szI d fr1 ≠ n := h 0 (by omega)
    unfold firstI; rw [if_neg h4, if_pos h3]; rfl
  · omega
set_option maxRecDepth 8000 in
theorem pfirst_any (H : DiskSays DK) (w : World) (p : Addr) (F : Nat → Bool) (d : AD) (n : Int) (h : DK w p F d) (hg : Good d) (hp : Pow w) :
    Calls Tryz.prog 55 #[ptr p, .int .i64 n] w fun e w' => e = .returned (.string (firstI d n)) ∧ Below w.heap.size w w' := by
  have hH := Lib.hid H
  have HG := Lib.hid hg
  have HS := Lib.hid (⟨h, Below.refl _ _, hp⟩ : LK DK w p F d w)
  clear h hg hp
  go_enter Tryz.func55, Tryz.ntmps55
  go_wp2_with fail
  go_loopw [7] (fun iv wr => ∃ i : Nat, iv = .int .i64 i ∧ i ≤ 2 ∧ Hid (LK DK w p F d wr) ∧ Hid (∀ j, j < i → szI d (frN (j + 1)) ≠ n)) (fun iv _ => 2 - (intOf iv).toNat)
  case atStart => exact ⟨0, rfl, by omega, HS, Lib.hid fun j hj => by omega⟩
  case round =>
    obtain ⟨i, rfl, hi, HL, HI⟩ := hrel
    by_cases hlt : (i : Int) < 2
    · obtain ⟨x, hx⟩ : ∃ x, szI d (frN (i + 1)) = x := ⟨_, rfl⟩
      have HZ := psize_of hH.out HG.out (frN_size _) hx
      have HX := Lib.hid hx
      have HPN : Hid (∀ w, Pow w → Calls Tryz.prog 85 #[.int .i64 (1 + (i : Int))] w fun e w' => e = .returned (.string (frN (i + 1))) ∧ Below w.heap.size w w') := Lib.hid fun w hw => by
        have := pool_name (i + 1) (by omega) w hw
        rwa [show ((i + 1 : Nat) : Int) = 1 + (i : Int) by omega] at this
      have hw1 : IntKind.i64.wrap (1 + (i : Int)) = 1 + (i : Int) := IntWalk.i64_in _ (by omega)
      clear hx
      by_cases hq : x = n
      · have HE := Lib.hid (first_some (by omega) HI.out (HX.out.trans hq))
        go_wp2_with (first
          | (go_at_call 85; (with_reducible refine (HPN.out _ HL.out.pow).mono ?_); rintro e w1 ⟨rfl, hb⟩; have HL1 := Lib.hid (HL.out.next hH.out hb); clear hb)
          | (go_at_call 60; (with_reducible refine (HZ.out _ _ _ HL1.out.dk).mono ?_); rintro e w2 ⟨rfl, hb⟩; have HL2 := Lib.hid (HL1.out.next hH.out hb); clear hb))
        go_ret
        exact ⟨by rw [HE.out]; rfl, HL2.out.below⟩
      · have HN : Hid (∀ j, j < i + 1 → szI d (frN (j + 1)) ≠ n) := Lib.hid fun j hj => by
          by_cases hji : j = i
          · subst hji; rw [HX.out]; exact hq
          · exact HI.out j (by omega)
        go_wp2_with (first
          | (go_at_call 85; (with_reducible refine (HPN.out _ HL.out.pow).mono ?_); rintro e w1 ⟨rfl, hb⟩; have HL1 := Lib.hid (HL.out.next hH.out hb); clear hb)
          | (go_at_call 60; (with_reducible refine (HZ.out _ _ _ HL1.out.dk).mono ?_); rintro e w2 ⟨rfl, hb⟩; have HL2 := Lib.hid (HL1.out.next hH.out hb); clear hb))
        exact ⟨⟨i + 1, by go_num, by omega, HL2, HN⟩, by simp [intOf]; omega⟩
    · have hq : i = 2 := by omega
      subst hq
      go_wp2_with fail
      go_ret
      exact ⟨by rw [first_none HI.out]; rfl, HL.out.below⟩
end Go.Proofs.YtgegbpnmfpjdmaaGreatDoor
namespace Go.Proofs.YtgegbpnmfpjdmaaGreatDoor
open Go.Proofs Go.RowKit
open Go.Lib (toList_data size_eq)
def Sent (w : World) (n : String) : Prop := (Tryz.prog.globalNamed n).isSome = true → ∃ tp p, w.var? Tryz.prog n = some #[.iface tp p]
def Vars (w : World) : Prop := Lib.TabIs Tryz.prog w "internal/strconv.uint64pow10" .u64 Lib.pow10Tab ∧ Sent w "strconv.ErrSyntax" ∧ Sent w "strconv.ErrRange"
theorem pow10_tab {w : World} (h : Lib.TabIs Tryz.prog w "internal/strconv.uint64pow10" .u64 [1, 10, 100, 1000, 10000, 100000, 1000000, 10000000, 100000000, 1000000000, 10000000000, 100000000000, 1000000000000, 10000000000000, 100000000000000, 1000000000000000, 10000000000000000, 100000000000000000, 1000000000000000000, 10000000000000000000]) : Lib.TabIs Tryz.prog w "internal/strconv.uint64pow10" .u64 Lib.pow10Tab := by
  rw [show Lib.pow10Tab = [1, 10, 100, 1000, 10000, 100000, 1000000, 10000000, 100000000, 1000000000, 10000000000, 100000000000, 1000000000000, 10000000000000, 100000000000000, 1000000000000000, 10000000000000000, 100000000000000000, 1000000000000000000, 10000000000000000000] from by decide +kernel]
  exact h
theorem var_below {P : Program} {w w' : World} {n : String} {cs : Array Value} (h : w.var? P n = some cs) (hb : Below w.heap.size w w') : w'.var? P n = some cs := by
  unfold World.var? at *
  cases hg : P.globalNamed n with
  | none => simp [hg] at h
  | some g =>
    simp only [hg, Option.bind_some] at h ⊢
    have hlt : g < w.heap.size := by
      rcases Nat.lt_or_ge g w.heap.size with h' | h'
      · exact h'
      · simp [Array.getElem?_eq_none h'] at h
    rw [hb.block g hlt]; exact h
theorem Vars.on {w w' : World} (h : Vars w) (hb : Below w.heap.size w w') : Vars w' := by
  obtain ⟨h1, h2, h3⟩ := h
  exact ⟨var_below h1 hb, fun q => (h2 q).imp fun t ⟨p, e⟩ => ⟨p, var_below e hb⟩, fun q => (h3 q).imp fun t ⟨p, e⟩ => ⟨p, var_below e hb⟩⟩
theorem Vars.pow {w : World} (h : Vars w) : Pow w := h.1
theorem Vars.ext {W w : World} {F : Nat → Bool} (h : Vars W) (hx : Ext (fun _ => false) W w F) : Vars w := by
  obtain ⟨h1, h2, h3⟩ := h
  exact ⟨var_stays h1 fun k hk => hx.block k hk rfl, fun q => (h2 q).imp fun t ⟨p, e⟩ => ⟨p, var_stays e fun k hk => hx.block k hk rfl⟩, fun q => (h3 q).imp fun t ⟨p, e⟩ => ⟨p, var_stays e fun k hk => hx.block k hk rfl⟩⟩
theorem below_itoa {w w' : World} (h : ∃ (k : Nat) (os : Array Obj), w' = Sort.grow (w.drewN k) os) : Below w.heap.size w w' := by
  obtain ⟨k, os, rfl⟩ := h
  refine ⟨rfl, rfl, rfl, ?_, fun j hj => ?_⟩
  · show w.heap.size ≤ (w.heap ++ os).size
    simp
  · show (w.heap ++ os)[j]? = w.heap[j]?
    rw [Array.getElem?_append_left hj]
theorem digits_any (n : Int) (h0 : -9223372036854775808 ≤ n) (h1 : n ≤ 9223372036854775807) (w : World) (hv : Vars w) :
    Calls Tryz.prog 52 #[.int .i64 n] w fun e w' => e = .returned (.string ⟨(Lib.itoa n).toArray⟩) ∧ Below w.heap.size w w' := by
  have HV := Lib.hid hv
  clear hv
  go_enter Tryz.func52, Tryz.ntmps52
  go_wp2_with (first
    | (go_at_call 83; (refine (Tryz.strconv_Itoa n h0 h1 _ HV.out.1).mono ?_); rintro e w' ⟨rfl, hb⟩; have HB := Lib.hid (below_itoa hb); clear hb))
  go_ret
  exact ⟨rfl, HB.out⟩
theorem app_text (a b : List UInt8) : (⟨a.toArray⟩ ++ ⟨b.toArray⟩ : ByteArray) = ⟨(a ++ b).toArray⟩ := by
  apply ByteArray.ext
  simp
theorem wal_any (n : Int) (h0 : -9223372036854775808 ≤ n) (h1 : n ≤ 9223372036854775807) (w : World) (hv : Vars w) :
    Calls Tryz.prog 27 #[.int .i64 n] w fun e w' => e = .returned (.string ⟨(walN n).toArray⟩) ∧ Below w.heap.size w w' := by
  have HV := Lib.hid hv
  clear hv
  by_cases hn : 1 ≤ n
  · by_cases hm : n ≤ 2147483647
    · have hl : ¬ 9223372036854775807 < 4 + (Lib.itoa n).length := by have := itoa_short h0 h1; omega
      have HW := Lib.hid (walN_in hn hm)
      go_enter Tryz.func27, Tryz.ntmps27
      go_wp2_with (first
        | (go_at_call 52; (refine (digits_any n h0 h1 _ HV.out).mono ?_); rintro e w' ⟨rfl, hb⟩; have HB := Lib.hid hb; clear hb))
      go_ret
      refine ⟨?_, HB.out⟩
      rw [HW.out]
      exact congrArg (fun x => Ending.returned (.string x)) (app_text [119, 97, 108, 45] (Lib.itoa n))
    · have hw := walN_out (n := n) (by omega)
      rw [hw]
      clear hw
      go_enter Tryz.func27, Tryz.ntmps27
      go_wp2
      go_ret
      exact ⟨rfl, Below.refl _ _⟩
  · have hw := walN_out (n := n) (by omega)
    rw [hw]
    clear hw
    go_enter Tryz.func27, Tryz.ntmps27
    go_wp2
    go_ret
    exact ⟨rfl, Below.refl _ _⟩
end Go.Proofs.YtgegbpnmfpjdmaaGreatDoor
namespace Go.Proofs.YtgegbpnmfpjdmaaGreatDoor
open Go.RowKit
structure VT (w : World) : Prop where
  vars : Vars w
  tab : Tab w
theorem VT.on {w w' : World} (h : VT w) (hb : Below w.heap.size w w') : VT w' := ⟨h.vars.on hb, h.tab.keep hb⟩
theorem VT.ext {W w : World} {F : Nat → Bool} (h : VT W) (hx : Ext (fun _ => false) W w F) : VT w :=
  ⟨h.vars.ext hx, fun j hj => by
    have := hx.kin
    rw [mask_none] at this
    exact (this.trans (unmask F w)) _ _ (h.tab j hj)⟩
variable {DK : World → Addr → (Nat → Bool) → AD → Prop}
structure LV (DK : World → Addr → (Nat → Bool) → AD → Prop) (w : World) (p : Addr) (F : Nat → Bool) (d : AD) (W : World) : Prop where
  dk : DK W p F d
  below : Below w.heap.size w W
  vt : VT W
theorem LV.next (H : DiskSays DK) {w : World} {p : Addr} {F : Nat → Bool} {d : AD} {W W' : World} (h : LV DK w p F d W) (hb : Below W.heap.size W W') : LV DK w p F d W' :=
  ⟨H.below h.dk hb, h.below.trans (hb.mono h.below.size), h.vt.on hb⟩
def foundI (d : AD) (s : ByteArray) : Int := if d.down = true then 9 else if ¬ d.has s then 7 else 0
def missI (d : AD) (s : ByteArray) : Int := if d.down = true then 9 else if d.has s then 8 else 0
theorem read_none (d : AD) (s : ByteArray) : (d.readR s 0 0).2.2 = foundI d s := by
  unfold AD.readR foundI
  split
  · rfl
  split
  · rfl
  · rw [if_neg (by omega)]
theorem read_all {d : AD} (s : ByteArray) {x : Int} (hx : foundI d s = x) (h0 : x ≠ 0) : d.readR s 0 (szI d s) = ([], 0, x) := by
  unfold AD.readR
  unfold foundI at hx
  split
  · rename_i h; rw [if_pos h] at hx; rw [hx]
  · rename_i h
    rw [if_neg h] at hx
    split
    · rename_i h2; rw [if_pos h2] at hx; rw [hx]
    · rename_i h2; rw [if_neg h2] at hx; exact absurd hx.symm h0
theorem read_there {d : AD} (hg : Good d) (s : ByteArray) (hx : foundI d s = 0) : d.has s ∧ szI d s = ((d.get s).n : Int) ∧ d.readR s 0 (szI d s) = ((d.get s).seen, (d.get s).n, 0) := by
  unfold foundI at hx
  split at hx
  · simp at hx
  rename_i hd
  split at hx
  · simp at hx
  rename_i hh
  have hh2 := Decidable.not_not.1 hh
  have hf := hg.file _ (get_mem hh2)
  have hs : szI d s = ((d.get s).n : Int) := by unfold szI; rw [if_pos hh2]
  refine ⟨hh2, hs, ?_⟩
  unfold AD.readR
  rw [if_neg hd, if_neg hh, hs, if_neg (by omega)]
  have := hf.seen
  simp [List.take_of_length_le (Nat.le_of_eq this)]
theorem sfind_of (H : DiskSays DK) {d : AD} {s : ByteArray} {x : Int} (hg : Good d) (hs : s.size ≤ 281474976710656) (hx : foundI d s = x) :
    Hid (∀ w p F, DK w p F d → Calls Tryz.prog 74 #[ptr p, .string s, .int .i64 0, .int .i64 0] w fun e w' => ∃ v, e = .returned (.tuple #[v, .int .i64 x]) ∧ Below w.heap.size w w') :=
  Lib.hid fun w p F h => by
    refine (H.read w p F d s 0 0 h hg hs (by unfold I63; omega) (by unfold I63; omega)).mono ?_
    rintro e w' ⟨v, rfl, _, hb⟩
    exact ⟨v, by rw [read_none, hx], hb⟩
theorem sfound_any (H : DiskSays DK) (w : World) (p : Addr) (F : Nat → Bool) (d : AD) (s : ByteArray) (h : DK w p F d) (hg : Good d) (hs : s.size ≤ 281474976710656) :
    Calls Tryz.prog 53 #[ptr p, .string s] w fun e w' => e = .returned (.int .i64 (foundI d s)) ∧ Below w.heap.size w w' := by
  obtain ⟨x, hx⟩ : ∃ x, foundI d s = x := ⟨_, rfl⟩
  have HR := sfind_of H hg hs hx
  have HK := Lib.hid h
  rw [hx]
  clear hx hg h
  go_enter Tryz.func53, Tryz.ntmps53
  go_wp2_with (first
    | (go_at_call 74; (with_reducible refine (HR.out _ _ _ HK.out).mono ?_); rintro e w1 ⟨v, rfl, hb⟩; have HB := Lib.hid hb; clear hb))
  go_ret
  exact ⟨rfl, HB.out⟩
theorem sfound_of (H : DiskSays DK) {d : AD} {s : ByteArray} {x : Int} (hg : Good d) (hs : s.size ≤ 281474976710656) (hx : foundI d s = x) :
    Hid (∀ w p F, DK w p F d → Calls Tryz.prog 53 #[ptr p, .string s] w fun e w' => e = .returned (.int .i64 x) ∧ Below w.heap.size w w') :=
  Lib.hid fun w p F h => by rw [← hx]; exact sfound_any H w p F d s h hg hs
theorem smissing_any (H : DiskSays DK) (w : World) (p : Addr) (F : Nat → Bool) (d : AD) (s : ByteArray) (h : DK w p F d) (hg : Good d) (hs : s.size ≤ 281474976710656) :
    Calls Tryz.prog 28 #[ptr p, .string s] w fun e w' => e = .returned (.int .i64 (missI d s)) ∧ Below w.heap.size w w' := by
  have HK := Lib.hid h
  by_cases hd : d.down = true
  · have HR := sfound_of H hg hs (show foundI d s = 9 from if_pos hd)
    rw [show missI d s = 9 from if_pos hd]
    clear hd hg h
    go_enter Tryz.func28, Tryz.ntmps28
    go_wp2_with (first
      | (go_at_call 53; (with_reducible refine (HR.out _ _ _ HK.out).mono ?_); rintro e w1 ⟨rfl, hb⟩; have HB := Lib.hid hb; clear hb))
    go_ret
    exact ⟨rfl, HB.out⟩
  by_cases hh : d.has s
  · have HR := sfound_of H hg hs (show foundI d s = 0 from by unfold foundI; rw [if_neg hd, if_neg (Decidable.not_not.2 hh)])
    rw [show missI d s = 8 from by unfold missI; rw [if_neg hd, if_pos hh]]
    clear hd hg h
    go_enter Tryz.func28, Tryz.ntmps28
    go_wp2_with (first
      | (go_at_call 53; (with_reducible refine (HR.out _ _ _ HK.out).mono ?_); rintro e w1 ⟨rfl, hb⟩; have HB := Lib.hid hb; clear hb))
    go_ret
    exact ⟨rfl, HB.out⟩
  · have HR := sfound_of H hg hs (show foundI d s = 7 from by unfold foundI; rw [if_neg hd, if_pos hh])
    rw [show missI d s = 0 from by unfold missI; rw [if_neg hd, if_neg hh]]
    clear hd hg h
    go_enter Tryz.func28, Tryz.ntmps28
    go_wp2_with (first
      | (go_at_call 53; (with_reducible refine (HR.out _ _ _ HK.out).mono ?_); rintro e w1 ⟨rfl, hb⟩; have HB := Lib.hid hb; clear hb))
    go_ret
    exact ⟨rfl, HB.out⟩
end Go.Proofs.YtgegbpnmfpjdmaaGreatDoor
namespace Go.Proofs.YtgegbpnmfpjdmaaGreatDoor
open Go.RowKit
theorem splice_length {α : Type} (b : List α) (q : Nat) (x : List α) (h : q + x.length ≤ b.length) : (splice b q x).length = b.length := by
  unfold splice
  simp only [List.length_append, List.length_take, List.length_drop]
  omega
theorem henc_of {h : Hdr} (ht : HdT h) (hk : hdOk h = true) : Hid (∀ w, Tab w → Calls Tryz.prog 86 #[.agg (hv h)] w fun r w' => r = .returned (.tuple #[.agg (sv (secH h)), .int .i64 0]) ∧ Below w.heap.size w w') := Lib.hid fun w hT => henc_ok h ht hk w hT
set_option maxRecDepth 8000 in
set_option maxHeartbeats 2000000 in
theorem slay_no (h : Hdr) (ht : HdT h) (v : Value) (m : Nat) (fs : List Int) (w : World) (hT : Tab w) (hf : FS w v m fs) (hm : m ≤ 1000000) (hk : hdOk h = false ∨ 16 < m) :
    Calls Tryz.prog 59 #[.agg (hv h), v] w fun r w' => r = .returned (.tuple #[.slice none 0 0, .int .i64 13]) ∧ Below w.heap.size w w' := by
  obtain ⟨a, cap, rfl, hl, _, _, _, _⟩ := id hf
  obtain ⟨w0, hw0⟩ : ∃ q, w.alloc (.cells (hv h) 30) = q := ⟨_, rfl⟩
  have HK := Lib.hid (show HB w0 w.heap.size h from by rw [← hw0]; exact HB.new w h ht.n)
  have HW := Lib.hid (show Below w.heap.size w w0 from by rw [← hw0]; exact balloc w _)
  have HZ := Lib.hid z64_cells
  by_cases he : hdOk h = true
  · have hm16 : (16 : Int) < (m : Int) := by
      rcases hk with hk | hk
      · rw [he] at hk; simp at hk
      · omega
    have HE := henc_of ht he
    have HL := Lib.hid (secH_length ht.n)
    have HTT := Lib.hid (hT.keep HW.out)
    clear he hk hf hT
    go_enter Tryz.func59, Tryz.ntmps59
    go_wp2_with (first
      | (refine wpl_load_hd (by rfl) (.tmp 2) rfl rfl (show HB w0 w.heap.size h from HK.out) ?_)
      | (go_at_call 86; (with_reducible refine (HE.out _ HTT.out).mono ?_); rintro r w1 ⟨rfl, hb1⟩; have HB1 := Lib.hid (bch HW.out hb1); clear hb1)
      | (rw [← HZ.out]; refine wpl_store_new rfl _ _ rfl rfl w1.heap.size rfl (secH h) HL.out rfl rfl w HB1 ?_; intro w2 HK2 HB2 HB12))
    go_ret2
    exact ⟨rfl, HB2.out⟩
  · rw [Bool.not_eq_true] at he
    have HE : Hid (∀ w, Calls Tryz.prog 86 #[.agg (hv h)] w fun r w' => r = .returned (.tuple #[.agg (sv z64), .int .i64 13]) ∧ Below w.heap.size w w') := Lib.hid fun w => henc_no h ht he w
    clear he hk hf hT
    go_enter Tryz.func59, Tryz.ntmps59
    go_wp2_with (first
      | (refine wpl_load_hd (by rfl) (.tmp 2) rfl rfl (show HB w0 w.heap.size h from HK.out) ?_)
      | (go_at_call 86; (with_reducible refine (HE.out _).mono ?_); rintro r w1 ⟨rfl, hb1⟩; have HB1 := Lib.hid (bch HW.out hb1); clear hb1)
      | (rw [← HZ.out]; refine wpl_store_new rfl _ _ rfl rfl w1.heap.size rfl z64 z64_length rfl rfl w HB1 ?_; intro w2 HK2 HB2 HB12))
    go_ret2
    exact ⟨rfl, HB2.out⟩
theorem lay_steps {h : Hdr} (hn : h.l.length = 4) {m : Nat} (hm : m ≤ 16) {fs : List Int} (hf : fs.length = m * 64) : splice (splice (List.replicate (17 * 64) (0 : Int)) 0 (secH h)) 64 fs = layL h m fs := by
  have h1 : splice (List.replicate (17 * 64) (0 : Int)) 0 (secH h) = secH h ++ List.replicate (16 * 64) 0 := by
    unfold splice
    rw [secH_length hn, List.take_zero, List.drop_replicate, List.nil_append]
  rw [h1]
  unfold splice layL
  have hl := secH_length hn
  rw [List.take_append_of_le_length (by omega), List.take_of_length_le (by omega), List.drop_append, hl, List.drop_of_length_le (by rw [hl]; omega), hf]
  simp only [List.nil_append, List.drop_replicate]
  rw [show 16 * 64 - (64 + m * 64 - 64) = (16 - m) * 64 by omega, List.append_assoc]
set_option maxRecDepth 8000 in
set_option maxHeartbeats 4000000 in
theorem slay_ok (h : Hdr) (ht : HdT h) (v : Value) (m : Nat) (fs : List Int) (w : World) (hT : Tab w) (hf : FS w v m fs) (hk : hdOk h = true) (hm : m ≤ 16) :
    Calls Tryz.prog 59 #[.agg (hv h), v] w fun r w' => ∃ g, r = .returned (.tuple #[.slice (some ⟨g, 0, none⟩) 17 17, .int .i64 0]) ∧ RW w' g (layL h m fs) ∧ w.heap.size ≤ g ∧ Below w.heap.size w w' := by
  obtain ⟨a, cap, rfl, hl, _, _, _, _⟩ := id hf
  obtain ⟨w0, hw0⟩ : ∃ q, w.alloc (.cells (hv h) 30) = q := ⟨_, rfl⟩
  have HK := Lib.hid (show HB w0 w.heap.size h from by rw [← hw0]; exact HB.new w h ht.n)
  have HW := Lib.hid (show Below w.heap.size w w0 from by rw [← hw0]; exact balloc w _)
  have HZ := Lib.hid z64_cells
  have HE := henc_of ht hk
  have HN := Lib.hid (secH_length ht.n)
  have HTT := Lib.hid (hT.keep HW.out)
  have HF := Lib.hid hf
  have hm16 : ¬ (16 : Int) < (m : Int) := by omega
  have hstp := lay_steps ht.n hm hl
  have hmk : ∀ w, (Instr.makeSlice 48 (.int .i64 17) (.int .i64 17)).run Tryz.prog w = .ok (.slice (some ⟨w.heap.size, 0, none⟩) 17 17) (w.alloc (.cells (il .u8 (List.replicate (17 * 64) 0)).toArray 60)) := make_row_run 17 (by omega)
  obtain ⟨zr, hzr⟩ : ∃ z, List.replicate (17 * 64) (0 : Int) = z := ⟨_, rfl⟩
  rw [hzr] at hmk hstp
  have HZL := Lib.hid (show zr.length = 17 * 64 from by rw [← hzr]; simp)
  have HST := Lib.hid hstp
  clear hzr hstp
  clear hk hf hT ht
  go_enter Tryz.func59, Tryz.ntmps59
  go_wp2_with (first
    | (refine wpl_load_hd (by rfl) (.tmp 2) rfl rfl (show HB w0 w.heap.size h from HK.out) ?_)
    | (go_at_call 86; (with_reducible refine (HE.out _ HTT.out).mono ?_); rintro r w1 ⟨rfl, hb1⟩; have HB1 := Lib.hid (bch HW.out hb1); clear hb1)
    | (rw [← HZ.out]; refine wpl_store_new rfl _ _ rfl rfl w1.heap.size rfl (secH h) HN.out rfl rfl w HB1 ?_; intro w2 HK2 HB2 HB12)
    | (refine wpl_load_sec (by rfl) (.tmp 6) rfl w1.heap.size rfl (secH h) (HK2.out.keep (balloc _ _)) ?_)
    | (refine wpl_put_row rfl _ _ rfl w2.heap.size 17 0 zr (secH h) (heap_alloc_last w2 _) HZL.out (by omega) HN.out 0 rfl rfl rfl ?_; intro w3 HR3 HG3)
    | (refine wpl_copy_rowAt rfl _ _ rfl w2.heap.size 64 16 16 _ HR3.out (by rw [splice_length _ _ _ (by rw [HN.out, HZL.out]; omega), HZL.out]) rfl _ m fs rfl (HF.out.keep (hbelow_grown (bch HB2.out (balloc _ _)) HG3.out HB2.out.size (by rw [alloc_size]; have := HB2.out.size; omega))) hm ?_; intro w4 HR4 HG4))
  go_ret2
  have hs2 := HB2.out.size
  have hs3 : w.heap.size ≤ w3.heap.size := by have := HG3.out.size; rw [alloc_size] at this; omega
  have h3 : Below w.heap.size w w3 := hbelow_grown (bch HB2.out (balloc _ _)) HG3.out hs2 (by rw [alloc_size]; omega)
  exact ⟨w2.heap.size, rfl, by rw [← HST.out]; exact HR4.out, hs2, hbelow_grown h3 HG4.out hs2 hs3⟩
end Go.Proofs.YtgegbpnmfpjdmaaGreatDoor
namespace Go.Proofs.YtgegbpnmfpjdmaaGreatDoor
open Go.RowKit
variable {DK : World → Addr → (Nat → Bool) → AD → Prop}
theorem swal_of {q : Int} (hq : I63 q) {s : ByteArray} (hs : walB q = s) : Hid (∀ w, Vars w → Calls Tryz.prog 27 #[.int .i64 q] w fun e w' => e = .returned (.string s) ∧ Below w.heap.size w w') :=
  Lib.hid fun w hv => by rw [← hs]; exact wal_any q hq.1 hq.2 w hv
theorem sdec_of {l : List Int} (hl : 64 ≤ l.length) (hb : Bytes l) {x : Hdr} {e : Int} (h : fstI l = (x, e)) :
    Hid (∀ w, Tab w → Calls Tryz.prog 75 #[.agg (sv (l.take 64))] w fun r w' => r = .returned (.tuple #[.agg (hv x), .int .i64 e]) ∧ Below w.heap.size w w') :=
  Lib.hid fun w hT => hdec_any (l.take 64) (by simp; omega) ((bytes_isB hb).take 64) w hT h
theorem sread_no (H : DiskSays DK) {d : AD} {s : ByteArray} {x m : Int} (hg : Good d) (hs : s.size ≤ 281474976710656) (hx : foundI d s = x) (h0 : x ≠ 0) (hm : szI d s = m) :
    Hid (∀ w p F, DK w p F d → Calls Tryz.prog 74 #[ptr p, .string s, .int .i64 0, .int .i64 m] w fun e w' => ∃ v, e = .returned (.tuple #[v, .int .i64 x]) ∧ Below w.heap.size w w') :=
  Lib.hid fun w p F h => by
    have hb := sz_le hg s
    refine (H.read w p F d s 0 m h hg hs (by unfold I63; omega) (by unfold I63; omega)).mono ?_
    rintro e w' ⟨v, rfl, _, hb⟩
    exact ⟨v, by rw [← hm, read_all s hx h0], hb⟩
theorem sread_yes (H : DiskSays DK) {d : AD} {s : ByteArray} {m : Int} {f : AF} (hg : Good d) (hs : s.size ≤ 281474976710656) (hx : foundI d s = 0) (hm : szI d s = m) (hf : d.get s = f) :
    Hid (∀ w p F, DK w p F d → Calls Tryz.prog 74 #[ptr p, .string s, .int .i64 0, .int .i64 m] w fun e w' => ∃ v, e = .returned (.tuple #[v, .int .i64 0]) ∧ FS w' v f.n f.seen ∧ Below w.heap.size w w') :=
  Lib.hid fun w p F h => by
    have hb := sz_le hg s
    have hr := (read_there hg s hx).2.2
    refine (H.read w p F d s 0 m h hg hs (by unfold I63; omega) (by unfold I63; omega)).mono ?_
    rintro e w' ⟨v, rfl, hv, hb⟩
    rw [hm, hf] at hr
    rw [hr] at hv
    exact ⟨v, by rw [hr], hv, hb⟩
theorem HB.ne_fs {w : World} {g b o n c : Nat} {h : Hdr} {fs : List Int} (k : HB w g h) (hf : FS w (.slice (some ⟨b, o, none⟩) n c) n fs) (h0 : 0 < n) : b ≠ g := by
  rintro rfl
  obtain ⟨a', c', e, _, _, _, _, hc⟩ := hf
  simp only [Value.slice.injEq, true_and] at e
  obtain ⟨rfl, rfl⟩ := e
  obtain ⟨b', o', e2, hcell⟩ := hc h0
  simp only [Option.some.injEq, Addr.mk.injEq] at e2
  obtain ⟨rfl, rfl, _⟩ := e2
  have h1 := hcell 0 (by omega)
  rw [cell_of_row w b (o + 0) _ _ _ k.1] at h1
  have hm := Array.mem_of_getElem? h1
  simp only [hv, List.mem_toArray, List.mem_cons] at hm
  rcases hm with hm | hm | hm | hm
  · simp at hm
  · simp at hm
  · simp at hm
  · simp [il] at hm
theorem cell_over {w w' : World} {a : Addr} {v : Value} {g : Nat} (h : w.cell? a = some v) (hg : w.grownBy w' (some g)) (hne : a.block ≠ g) : w'.cell? a = some v := by
  unfold World.cell? at h ⊢
  have hlt : a.block < w.heap.size := by
    rcases Nat.lt_or_ge a.block w.heap.size with hl | hl
    · exact hl
    · simp [Array.getElem?_eq_none hl] at h
  rw [hg.block a.block hlt (fun e => hne (Option.some.inj e))]
  exact h
theorem FS.over {w w' : World} {b o n c g : Nat} {fs : List Int} (h : FS w (.slice (some ⟨b, o, none⟩) n c) n fs) (hg : w.grownBy w' (some g)) (hne : b ≠ g) : FS w' (.slice (some ⟨b, o, none⟩) n c) n fs := by
  obtain ⟨a', c', e, h1, h2, h3, h4, hc⟩ := h
  simp only [Value.slice.injEq, true_and] at e
  obtain ⟨rfl, rfl⟩ := e
  refine ⟨_, _, rfl, h1, h2, h3, h4, fun h0 => ?_⟩
  obtain ⟨b', o', e2, hcell⟩ := hc h0
  simp only [Option.some.injEq, Addr.mk.injEq] at e2
  obtain ⟨rfl, rfl, _⟩ := e2
  exact ⟨b, o, rfl, fun j hj => cell_over (hcell j hj) hg hne⟩
structure LH (DK : World → Addr → (Nat → Bool) → AD → Prop) (w : World) (p : Addr) (F : Nat → Bool) (d : AD) (W : World) : Prop where
  lv : LV DK w p F d W
  hr : HB W w.heap.size noH
theorem LH.next (H : DiskSays DK) {w : World} {p : Addr} {F : Nat → Bool} {d : AD} {W W' : World} (h : LH DK w p F d W) (hb : Below W.heap.size W W') : LH DK w p F d W' := ⟨h.lv.next H hb, h.hr.keep hb⟩
theorem head_no {d : AD} {q : Int} {s : ByteArray} (hs : walB q = s) (h0 : s ≠ noS) {x : Int} (hx : foundI d s = x) (hn : x ≠ 0) : headI d q = (noH, x) := by
  unfold headI
  rw [hs, if_neg h0]
  unfold foundI at hx
  split at hx
  · rename_i h; rw [if_pos h, hx]
  · rename_i h
    rw [if_neg h]
    split at hx
    · rename_i h2; rw [if_pos h2, hx]
    · exact absurd hx.symm hn
theorem head_yes {d : AD} {q : Int} {s : ByteArray} (hs : walB q = s) (h0 : s ≠ noS) (hx : foundI d s = 0) {f : AF} (hf : d.get s = f) {x : Hdr} {e : Int} (hd : fstI f.seen = (x, e)) :
    headI d q = if f.n ≠ 17 ∨ e ≠ 0 ∨ x.s ≠ q then (noH, 12) else (x, 0) := by
  unfold headI
  rw [hs, if_neg h0]
  unfold foundI at hx
  split at hx
  · simp at hx
  rename_i h
  rw [if_neg h]
  split at hx
  · simp at hx
  rename_i h2
  rw [if_neg h2, hf, hd]
set_option maxRecDepth 8000 in
set_option maxHeartbeats 4000000 in
theorem sload_any (H : DiskSays DK) (w : World) (p : Addr) (F : Nat → Bool) (d : AD) (q : Int) (h : DK w p F d) (hg : Good d) (hvt : VT w) (hq : I63 q) :
    Calls Tryz.prog 41 #[ptr p, .int .i64 q] w fun e w' => ∃ v, e = .returned (.tuple #[.agg (hv (headI d q).1), v, .int .i64 (headI d q).2]) ∧ ((headI d q).2 = 0 → FS w' v 16 (dataI d q)) ∧ Below w.heap.size w w' := by
  have hH := Lib.hid H
  have HG := Lib.hid hg
  obtain ⟨w0, hw0⟩ : ∃ q, w.alloc (.cells #[.int .u64 0, .int .i64 0, .int .i64 0, .int .i64 0, .int .i64 0, .int .i64 0, .int .i64 0] 30) = q := ⟨_, rfl⟩
  have HS := Lib.hid (show LH DK w p F d w0 from by
    have hb := balloc w (.cells (hv noH) 30)
    rw [← hw0]
    exact ⟨⟨H.below h hb, hb, hvt.on hb⟩, HB.new w noH rfl⟩)
  obtain ⟨s, hs⟩ : ∃ s, walB q = s := ⟨_, rfl⟩
  have HWL := swal_of hq hs
  have hsz : s.size ≤ 281474976710656 := by rw [← hs]; exact wal_size q hq.1 hq.2
  by_cases h0 : s = noS
  · rw [show headI d q = (noH, 13) from by unfold headI; rw [hs, if_pos h0]]
    subst h0
    clear hs h hg hvt hq hsz
    go_enter Tryz.func41, Tryz.ntmps41
    go_wp2_with (first
      | (go_at_call 27; (with_reducible refine (HWL.out _ HS.out.lv.vt.vars).mono ?_); rintro e w1 ⟨rfl, hb⟩; have HS1 := Lib.hid (HS.out.next hH.out hb); clear hb)
      | (refine wpl_put_hd rfl (.tmp 4) (.tmp 15) rfl w.heap.size noH noH HS1.out.hr rfl rfl rfl ?_; intro wf HOF HGF))
    refine bodyPost_ret_by (results_row_tmp2 rfl _ _ w.heap.size _ rfl HOF.out.load) rfl ⟨_, rfl, fun e => by simp at e, hbelow_grown HS1.out.lv.below HGF.out (Nat.le_refl _) HS1.out.lv.below.size⟩
  have b0 : (s.toList == ([] : List UInt8)) = false := str_empty h0
  obtain ⟨m, hm⟩ : ∃ m, szI d s = m := ⟨_, rfl⟩
  have HZ := psize_of H hg hsz hm
  obtain ⟨x, hx⟩ : ∃ x, foundI d s = x := ⟨_, rfl⟩
  by_cases hx0 : x = 0
  · subst hx0
    obtain ⟨f, hf⟩ : ∃ f, d.get s = f := ⟨_, rfl⟩
    obtain ⟨⟨x, e⟩, hd⟩ : ∃ r, fstI f.seen = r := ⟨_, rfl⟩
    have hrt := read_there hg s hx
    have hgf : GF f := by rw [← hf]; exact hg.file _ (get_mem hrt.1)
    have HRD := sread_yes H hg hsz hx hm hf
    have hl := hgf.seen
    have hn1 := hgf.n1
    have hn64 := hgf.n64
    have HDC := sdec_of (by omega) hgf.bseen hd
    have HXT := Lib.hid (show HdT x from by have := fstI_typed hgf.bseen; rw [hd] at this; exact this)
    have hda : dataI d q = f.seen.drop 64 := by unfold dataI; rw [hs, hf]
    rw [head_yes hs h0 hx hf hd, hda]
    obtain ⟨k, hk⟩ : ∃ k, f.n = k := ⟨_, rfl⟩
    obtain ⟨zs, hzs⟩ : ∃ zs, f.seen = zs := ⟨_, rfl⟩
    simp only [hk, hzs] at HRD HDC ⊢
    clear hs h hg hvt hq hsz h0 hm hx hd hrt hda hgf hl hf hzs
    by_cases h17 : k = 17
    · subst h17
      clear hk hn1 hn64
      by_cases he : e = 0
      · subst he
        by_cases hq2 : x.s = q
        · rw [if_neg (by simp [hq2])]
          have bq : (x.s == q) = true := by simpa using hq2
          go_enter Tryz.func41, Tryz.ntmps41
          go_wp2_with (first
            | (go_at_call 27; (with_reducible refine (HWL.out _ HS.out.lv.vt.vars).mono ?_); rintro e w1 ⟨rfl, hb⟩; have HS1 := Lib.hid (HS.out.next hH.out hb); clear hb)
            | (go_at_call 60; (with_reducible refine (HZ.out _ _ _ HS1.out.lv.dk).mono ?_); rintro e w2 ⟨rfl, hb⟩; have HS2 := Lib.hid (HS1.out.next hH.out hb); clear hb)
            | (go_at_call 74; (with_reducible refine (HRD.out _ _ _ HS2.out.lv.dk).mono ?_); rintro e w3 ⟨v3, rfl, hf3, hb⟩; obtain ⟨a3, c3, rfl, _, hc3, hc63, _, _⟩ := id hf3; obtain ⟨b3, o3, rfl, hat3⟩ := hf3.at_ 0 (by omega); rw [Nat.zero_mul, Nat.add_zero, List.drop_zero] at hat3; have HS3 := Lib.hid (HS2.out.next hH.out hb); have HF3 := Lib.hid hf3; have HA3 := Lib.hid hat3; clear hb hf3 hat3)
            | (refine wpl_load_at rfl (.tmp 35) rfl b3 _ rfl _ HA3.out ?_)
            | (go_at_call 75; (with_reducible refine (HDC.out _ HS3.out.lv.vt.tab).mono ?_); rintro e w4 ⟨rfl, hb⟩; have HS4 := Lib.hid (HS3.out.next hH.out hb); have HF4 := Lib.hid (HF3.out.keep hb); clear hb)
            | (refine wpl_store_newH rfl _ _ rfl rfl w4.heap.size rfl x HXT.out.n rfl rfl ?_; intro w5 HK5 HB5)
            | (refine wpl_load_hs (by rfl) (.tmp 43) rfl rfl HK5.out ?_))
          have HR5 := Lib.hid ((HS4.out.hr.keep HB5.out).keep (Below.refl _ _).drew)
          have HK5d := Lib.hid (HK5.out.keep (Below.refl _ _).drew)
          have HW5 := Lib.hid (bch (bch HS4.out.lv.below HB5.out) (Below.refl _ _).drew)
          have HF5 := Lib.hid ((HF4.out.keep HB5.out).keep (Below.refl _ _).drew)
          have HNE := Lib.hid (HR5.out.ne_fs HF5.out (by omega))
          have HN4 := Lib.hid (show w4.heap.size ≠ w.heap.size from fun e => by have := HS4.out.hr.lt; omega)
          refine wp_region_held_drew (S := (fun W' => HB W' w4.heap.size x)) (by kernel_rfl) HK5d.out (fun hS => ?_)
          refine rgw 0 ⟨some 49, .load 30 (.tmp 10), 30, _, _, none⟩ hS ?_ (hy := by intro w hSw; (try dsimp only at hSw); refine exec_load_hd (.tmp 10) ?_ ?_ hSw <;> rfl)
          refine rgw 1 ⟨some 50, .move (.tmp 8), 48, _, _, none⟩ hS ?_
          refine rgw 2 ⟨some 51, .slice 48 (.tmp 50) (some (.const (.int .i64 1))) none none, 48, _, _, none⟩ hS ?_
          refine rg_one 3 ⟨none, .store 30 (.tmp 4) (.tmp 49), 0, _, _, none⟩ (by kernel_rfl) rfl (fun K hK => ?_)
          rw [if_pos (by rfl)]; refine wp_put_hd (.tmp 4) (.tmp 49) rfl w.heap.size noH x HR5.out HXT.out.n rfl rfl ?_; intro wf HOF HGF; have hN := HK5d.out.over HGF.out HN4.out
          refine hK.out _ _ ?_ (fun hS1 => ?_)
          · (first | exact hN | exact hS)
          clear hK K hS; have hS := hS1; clear hS1
          (try simp only [Act.put])
          refine rgw 4 ⟨some 5, .assign (.tmp 51), 48, _, _, none⟩ hS ?_
          refine rgw 5 ⟨some 6, .assign (.const (.int .i64 0)), 32, _, _, none⟩ hS ?_
          refine wpAnyH_done (by kernel_rfl) ?_ _
          go_wp2_with fail
          refine bodyPost_ret_by (results_row_tmp2 rfl _ _ w.heap.size _ rfl HOF.out.load) rfl ⟨_, rfl, ?_, hbelow_grown HW5.out HGF.out (Nat.le_refl _) HW5.out.size⟩
          (try intro _)
          have hm := (HF5.out.over HGF.out HNE.out).mid 1 16 (by omega)
          have hl := HF5.out.length
          rw [List.take_of_length_le (by simp; omega), show sliced (some ⟨b3, o3, none⟩) 1 (1 + 16) c3 64 = .slice (some ⟨b3, o3 + 64, none⟩) 16 (c3 - 1) from by unfold sliced; rw [if_neg (by omega)]; rfl] at hm
          exact hm
        · rw [if_pos (by simp [hq2])]
          have bq : (x.s == q) = false := by simpa using hq2
          go_enter Tryz.func41, Tryz.ntmps41
          go_wp2_with (first
            | (go_at_call 27; (with_reducible refine (HWL.out _ HS.out.lv.vt.vars).mono ?_); rintro e w1 ⟨rfl, hb⟩; have HS1 := Lib.hid (HS.out.next hH.out hb); clear hb)
            | (go_at_call 60; (with_reducible refine (HZ.out _ _ _ HS1.out.lv.dk).mono ?_); rintro e w2 ⟨rfl, hb⟩; have HS2 := Lib.hid (HS1.out.next hH.out hb); clear hb)
            | (go_at_call 74; (with_reducible refine (HRD.out _ _ _ HS2.out.lv.dk).mono ?_); rintro e w3 ⟨v3, rfl, hf3, hb⟩; obtain ⟨a3, c3, rfl, _, hc3, hc63, _, _⟩ := id hf3; obtain ⟨b3, o3, rfl, hat3⟩ := hf3.at_ 0 (by omega); rw [Nat.zero_mul, Nat.add_zero, List.drop_zero] at hat3; have HS3 := Lib.hid (HS2.out.next hH.out hb); have HF3 := Lib.hid hf3; have HA3 := Lib.hid hat3; clear hb hf3 hat3)
            | (refine wpl_load_at rfl (.tmp 35) rfl b3 _ rfl _ HA3.out ?_)
            | (go_at_call 75; (with_reducible refine (HDC.out _ HS3.out.lv.vt.tab).mono ?_); rintro e w4 ⟨rfl, hb⟩; have HS4 := Lib.hid (HS3.out.next hH.out hb); have HF4 := Lib.hid (HF3.out.keep hb); clear hb)
            | (refine wpl_store_newH rfl _ _ rfl rfl w4.heap.size rfl x HXT.out.n rfl rfl ?_; intro w5 HK5 HB5)
            | (refine wpl_load_hs (by rfl) (.tmp 43) rfl rfl HK5.out ?_)
            | (refine wpl_put_hd rfl (.tmp 4) (.tmp 48) rfl w.heap.size noH noH (HS4.out.hr.keep HB5.out) rfl rfl rfl ?_; have HW5 := Lib.hid (bch HS4.out.lv.below HB5.out); intro wf HOF HGF))
          refine bodyPost_ret_by (results_row_tmp2 rfl _ _ w.heap.size _ rfl HOF.out.load) rfl ⟨_, rfl, fun e => by simp at e, hbelow_grown HW5.out HGF.out (Nat.le_refl _) HW5.out.size⟩
      · rw [if_pos (by simp [he])]
        have be : (e == 0) = false := by simpa using he
        focus
          go_enter Tryz.func41, Tryz.ntmps41
          go_wp2_with (first
            | (go_at_call 27; (with_reducible refine (HWL.out _ HS.out.lv.vt.vars).mono ?_); rintro e w1 ⟨rfl, hb⟩; have HS1 := Lib.hid (HS.out.next hH.out hb); clear hb)
            | (go_at_call 60; (with_reducible refine (HZ.out _ _ _ HS1.out.lv.dk).mono ?_); rintro e w2 ⟨rfl, hb⟩; have HS2 := Lib.hid (HS1.out.next hH.out hb); clear hb)
            | (go_at_call 74; (with_reducible refine (HRD.out _ _ _ HS2.out.lv.dk).mono ?_); rintro e w3 ⟨v3, rfl, hf3, hb⟩; obtain ⟨a3, c3, rfl, _, hc3, hc63, _, _⟩ := id hf3; obtain ⟨b3, o3, rfl, hat3⟩ := hf3.at_ 0 (by omega); rw [Nat.zero_mul, Nat.add_zero, List.drop_zero] at hat3; have HS3 := Lib.hid (HS2.out.next hH.out hb); have HF3 := Lib.hid hf3; have HA3 := Lib.hid hat3; clear hb hf3 hat3)
            | (refine wpl_load_at rfl (.tmp 35) rfl b3 _ rfl _ HA3.out ?_)
            | (go_at_call 75; (with_reducible refine (HDC.out _ HS3.out.lv.vt.tab).mono ?_); rintro e w4 ⟨rfl, hb⟩; have HS4 := Lib.hid (HS3.out.next hH.out hb); have HF4 := Lib.hid (HF3.out.keep hb); clear hb)
            | (refine wpl_store_newH rfl _ _ rfl rfl w4.heap.size rfl x HXT.out.n rfl rfl ?_; intro w5 HK5 HB5)
            | (refine wpl_load_hs (by rfl) (.tmp 43) rfl rfl HK5.out ?_)
            | (refine wpl_put_hd rfl (.tmp 4) (.tmp 48) rfl w.heap.size noH noH (HS4.out.hr.keep HB5.out) rfl rfl rfl ?_; have HW5 := Lib.hid (bch HS4.out.lv.below HB5.out); intro wf HOF HGF))
          refine bodyPost_ret_by (results_row_tmp2 rfl _ _ w.heap.size _ rfl HOF.out.load) rfl ⟨_, rfl, fun e => by simp at e, hbelow_grown HW5.out HGF.out (Nat.le_refl _) HW5.out.size⟩
    · rw [if_pos (by simp [h17])]
      have b17 : ((k : Int) == 17) = false := by simp; omega
      focus
          go_enter Tryz.func41, Tryz.ntmps41
          go_wp2_with (first
            | (go_at_call 27; (with_reducible refine (HWL.out _ HS.out.lv.vt.vars).mono ?_); rintro e w1 ⟨rfl, hb⟩; have HS1 := Lib.hid (HS.out.next hH.out hb); clear hb)
            | (go_at_call 60; (with_reducible refine (HZ.out _ _ _ HS1.out.lv.dk).mono ?_); rintro e w2 ⟨rfl, hb⟩; have HS2 := Lib.hid (HS1.out.next hH.out hb); clear hb)
            | (go_at_call 74; (with_reducible refine (HRD.out _ _ _ HS2.out.lv.dk).mono ?_); rintro e w3 ⟨v3, rfl, hf3, hb⟩; obtain ⟨a3, c3, rfl, _, hc3, hc63, _, _⟩ := id hf3; have HS3 := Lib.hid (HS2.out.next hH.out hb); clear hb hf3)
            | (refine wpl_put_hd rfl (.tmp 4) (.tmp 32) rfl w.heap.size noH noH (HS3.out.hr) rfl rfl rfl ?_; have HW5 := Lib.hid (HS3.out.lv.below); intro wf HOF HGF))
          refine bodyPost_ret_by (results_row_tmp2 rfl _ _ w.heap.size _ rfl HOF.out.load) rfl ⟨_, rfl, fun e => by simp at e, hbelow_grown HW5.out HGF.out (Nat.le_refl _) HW5.out.size⟩
  · have HRD := sread_no H hg hsz hx hx0 hm
    rw [head_no hs h0 hx hx0]
    have bx : (x == 0) = false := by simpa using hx0
    clear hs h hg hvt hq hsz h0 hm hx
    go_enter Tryz.func41, Tryz.ntmps41
    go_wp2_with (first
      | (go_at_call 27; (with_reducible refine (HWL.out _ HS.out.lv.vt.vars).mono ?_); rintro e w1 ⟨rfl, hb⟩; have HS1 := Lib.hid (HS.out.next hH.out hb); clear hb)
      | (go_at_call 60; (with_reducible refine (HZ.out _ _ _ HS1.out.lv.dk).mono ?_); rintro e w2 ⟨rfl, hb⟩; have HS2 := Lib.hid (HS1.out.next hH.out hb); clear hb)
      | (go_at_call 74; (with_reducible refine (HRD.out _ _ _ HS2.out.lv.dk).mono ?_); rintro e w3 ⟨v3, rfl, hb⟩; have HS3 := Lib.hid (HS2.out.next hH.out hb); clear hb)
      | (refine wpl_put_hd rfl (.tmp 4) (.tmp 27) rfl w.heap.size noH noH HS3.out.hr rfl rfl rfl ?_; intro wf HOF HGF))
    refine bodyPost_ret_by (results_row_tmp2 rfl _ _ w.heap.size _ rfl HOF.out.load) rfl ⟨_, rfl, fun e => absurd e hx0, hbelow_grown HS3.out.lv.below HGF.out (Nat.le_refl _) HS3.out.lv.below.size⟩
theorem headI_typed {d : AD} (hg : Good d) (q : Int) : HdT (headI d q).1 := by
  unfold headI
  split
  · exact noH_typed
  split
  · exact noH_typed
  split
  · exact noH_typed
  rename_i hh
  split
  · exact noH_typed
  · exact fstI_typed (hg.file _ (get_mem (Decidable.not_not.1 hh))).bseen
theorem sload_of (H : DiskSays DK) {d : AD} (hg : Good d) {q : Int} (hq : I63 q) {x : Hdr} {e : Int} (hx : headI d q = (x, e)) :
    Hid (∀ w p F, DK w p F d → VT w → Calls Tryz.prog 41 #[ptr p, .int .i64 q] w fun r w' => ∃ v, r = .returned (.tuple #[.agg (hv x), v, .int .i64 e]) ∧ (e = 0 → FS w' v 16 (dataI d q)) ∧ Below w.heap.size w w') :=
  Lib.hid fun w p F h hv => by
    have := sload_any H w p F d q h hg hv hq
    rwa [hx] at this
set_option maxRecDepth 8000 in
set_option maxHeartbeats 1000000 in
theorem ssectors_any (H : DiskSays DK) (w : World) (p : Addr) (F : Nat → Bool) (d : AD) (q : Int) (h : DK w p F d) (hg : Good d) (hvt : VT w) (hq : I63 q) :
    Calls Tryz.prog 18 #[ptr p, .int .i64 q] w fun e w' => ∃ v, e = .returned (.tuple #[v, .int .i64 (headI d q).2]) ∧ ((headI d q).2 = 0 → FS w' v 16 (dataI d q)) ∧ Below w.heap.size w w' := by
  have hH := Lib.hid H
  have HK := Lib.hid h
  have HV := Lib.hid hvt
  have HXT := Lib.hid (headI_typed hg q)
  obtain ⟨⟨x, e⟩, hx⟩ : ∃ r, headI d q = r := ⟨_, rfl⟩
  have HLD := sload_of H hg hq hx
  rw [hx] at HXT ⊢
  obtain ⟨da, hda⟩ : ∃ l, dataI d q = l := ⟨_, rfl⟩
  rw [hda] at HLD ⊢
  clear hx hg hq hvt h hda
  go_enter Tryz.func18, Tryz.ntmps18
  go_wp2_with (first
    | (go_at_call 41; (with_reducible refine (HLD.out _ _ _ HK.out HV.out).mono ?_); rintro r w1 ⟨v, rfl, hv, hb⟩; have HF1 := Lib.hid hv; have HB1 := Lib.hid hb; clear hb hv)
    | (refine wpl_store_newH rfl _ _ rfl rfl w1.heap.size rfl x HXT.out.n rfl rfl ?_; intro w2 HK2 HB2))
  go_ret2
  exact ⟨v, rfl, fun e0 => (HF1.out e0).keep HB2.out, bch HB1.out HB2.out⟩
end Go.Proofs.YtgegbpnmfpjdmaaGreatDoor
namespace Go.Proofs.YtgegbpnmfpjdmaaGreatDoor
open Go.RowKit
variable {DK : World → Addr → (Nat → Bool) → AD → Prop}
structure OPn (DK : World → Addr → (Nat → Bool) → AD → Prop) (W0 : World) (F : Nat → Bool) (w : World) (p : Addr) (F1 : Nat → Bool) (d : AD) (W : World) : Prop where
  dk : DK W p F1 d
  ex : Ext F w W F1
  ex0 : Ext (fun _ => false) W0 W F1
  pow0 : Pow W0
theorem OPn.pow {W0 : World} {F : Nat → Bool} {w : World} {p : Addr} {F1 : Nat → Bool} {d : AD} {W : World} (h : OPn DK W0 F w p F1 d W) : Pow W := h.pow0.ext h.ex0
theorem OPn.next (H : DiskSays DK) {W0 : World} {F : Nat → Bool} {w : World} {p : Addr} {F1 : Nat → Bool} {d : AD} {W W' : World} (h : OPn DK W0 F w p F1 d W) (hb : Below W.heap.size W W') : OPn DK W0 F w p F1 d W' :=
  ⟨H.below h.dk hb, h.ex.trans (Ext.below hb), h.ex0.trans (Ext.below hb), h.pow0⟩
theorem OPn.op {W0 : World} {F : Nat → Bool} {w : World} {p : Addr} {F1 F2 : Nat → Bool} {d d' : AD} {W W' : World} (h : OPn DK W0 F w p F1 d W) (hk : DK W' p F2 d') (hx : Ext F1 W W' F2) : OPn DK W0 F w p F2 d' W' :=
  ⟨hk, h.ex.trans hx, h.ex0.trans hx, h.pow0⟩
theorem pready_of (H : DiskSays DK) {d : AD} (hg : Good d) {b : Bool} (hd : d.down = b) : Hid (∀ w p F, DK w p F d → Calls Tryz.prog 54 #[ptr p] w fun e w' => e = .returned (.int .i64 (if b = true then 9 else 0)) ∧ Below w.heap.size w w') :=
  Lib.hid fun w p F h => by rw [← hd]; exact pready_any H w p F d h hg
theorem pmake_of (H : DiskSays DK) {d d2 : AD} {s : ByteArray} {e2 : Int} (hg : Good d) (hs : s.size ≤ 281474976710656) (h : d.makeR s 17 = (d2, e2)) : Hid (∀ w p F, DK w p F d → Calls Tryz.prog 24 #[ptr p, .string s, .int .i64 17] w fun e w' => ∃ F', e = .returned (.int .i64 e2) ∧ DK w' p F' d2 ∧ Ext F w w' F') :=
  Lib.hid fun w p F hk => by
    have := H.make w p F d s 17 hk hg hs (by unfold I63; omega)
    rwa [h] at this
theorem prename_of (H : DiskSays DK) {d d2 : AD} {s t : ByteArray} {e2 : Int} (hg : Good d) (hs : s.size ≤ 281474976710656) (ht : t.size ≤ 281474976710656) (h : d.renameR s t = (d2, e2)) : Hid (∀ w p F, DK w p F d → Calls Tryz.prog 31 #[ptr p, .string s, .string t] w fun e w' => ∃ F', e = .returned (.int .i64 e2) ∧ DK w' p F' d2 ∧ Ext F w w' F') :=
  Lib.hid fun w p F hk => by
    have := H.rename w p F d s t hk hg hs ht
    rwa [h] at this
theorem pfirst_of (H : DiskSays DK) {d : AD} {n : Int} {u : ByteArray} (hg : Good d) (hu : firstI d n = u) : Hid (∀ w p F, DK w p F d → Pow w → Calls Tryz.prog 55 #[ptr p, .int .i64 n] w fun e w' => e = .returned (.string u) ∧ Below w.heap.size w w') :=
  Lib.hid fun w p F h hp => by rw [← hu]; exact pfirst_any H w p F d n h hg hp
set_option maxRecDepth 8000 in
theorem ptake_any (H : DiskSays DK) (W0 w : World) (p : Addr) (F : Nat → Bool) (d : AD) (h : DK w p F d) (hg : Good d) (hp : Pow W0) (hx0 : Ext (fun _ => false) W0 w F) :
    Calls Tryz.prog 29 #[ptr p] w fun e w' => ∃ F', e = .returned (.tuple #[.string d.takeR.2.1, .int .i64 d.takeR.2.2]) ∧ DK w' p F' d.takeR.1 ∧ Ext F w w' F' := by
  have hH := Lib.hid H
  have HG := Lib.hid hg
  have HS := Lib.hid (⟨h, Ext.refl F w, hx0, hp⟩ : OPn DK W0 F w p F d w)
  clear h hp hx0
  unfold AD.takeR
  by_cases hd : d.down = true
  · rw [if_pos hd]
    have HRD := pready_of H hg hd
    clear hd hg
    go_enter Tryz.func29, Tryz.ntmps29
    go_wp2_with (first
      | (go_at_call 54; (with_reducible refine (HRD.out _ _ _ HS.out.dk).mono ?_); rintro e w1 ⟨rfl, hb⟩; have HS1 := Lib.hid (HS.out.next hH.out hb); clear hb))
    go_ret2
    exact ⟨F, rfl, HS1.out.dk, HS1.out.ex⟩
  rw [if_neg hd]
  rw [Bool.not_eq_true] at hd
  have HRD := pready_of H hg hd
  clear hd
  obtain ⟨u, hu⟩ : ∃ u, firstI d 17 = u := ⟨_, rfl⟩
  have HF1 := pfirst_of H hg hu
  have hu3 : u = noS ∨ u = fr1 ∨ u = fr2 := by rw [← hu]; exact first_or d 17
  obtain ⟨v, hv⟩ : ∃ v, firstI d 0 = v := ⟨_, rfl⟩
  have HF2 := pfirst_of H hg hv
  have hv3 : v = noS ∨ v = fr1 ∨ v = fr2 := by rw [← hv]; exact first_or d 0
  rw [hu, hv]
  clear hu hv
  by_cases hu0 : u = noS
  · subst hu0
    rw [if_neg (by simp)]
    by_cases hv0 : v = noS
    · subst hv0
      rw [if_pos rfl]
      clear hu3 hv3
      go_enter Tryz.func29, Tryz.ntmps29
      go_wp2_with (first
        | (go_at_call 54; (with_reducible refine (HRD.out _ _ _ HS.out.dk).mono ?_); rintro e w1 ⟨rfl, hb⟩; have HS1 := Lib.hid (HS.out.next hH.out hb); clear hb)
        | (go_at_call 55; (with_reducible refine (HF1.out _ _ _ HS1.out.dk HS1.out.pow).mono ?_); rintro e w2 ⟨rfl, hb⟩; have HS2 := Lib.hid (HS1.out.next hH.out hb); clear hb)
        | (go_at_call 55; (with_reducible refine (HF2.out _ _ _ HS2.out.dk HS2.out.pow).mono ?_); rintro e w3 ⟨rfl, hb⟩; have HS3 := Lib.hid (HS2.out.next hH.out hb); clear hb))
      go_ret2
      exact ⟨F, rfl, HS3.out.dk, HS3.out.ex⟩
    rw [if_neg hv0]
    obtain ⟨⟨d2, e2⟩, hr⟩ : ∃ r, d.makeR v 17 = r := ⟨_, rfl⟩
    have HM := pmake_of H hg (by rcases hv3 with rfl | rfl | rfl <;> decide) hr
    rw [hr]
    clear hr hu3
    have hvv : v = fr1 ∨ v = fr2 := hv3.resolve_left hv0
    clear hv3 hv0
    by_cases he : e2 = 0
    · subst he
      rw [if_pos rfl]
      rcases hvv with rfl | rfl
      · skip
        go_enter Tryz.func29, Tryz.ntmps29
        go_wp2_with (first
          | (go_at_call 54; (with_reducible refine (HRD.out _ _ _ HS.out.dk).mono ?_); rintro e w1 ⟨rfl, hb⟩; have HS1 := Lib.hid (HS.out.next hH.out hb); clear hb)
          | (go_at_call 55; (with_reducible refine (HF1.out _ _ _ HS1.out.dk HS1.out.pow).mono ?_); rintro e w2 ⟨rfl, hb⟩; have HS2 := Lib.hid (HS1.out.next hH.out hb); clear hb)
          | (go_at_call 55; (with_reducible refine (HF2.out _ _ _ HS2.out.dk HS2.out.pow).mono ?_); rintro e w3 ⟨rfl, hb⟩; have HS3 := Lib.hid (HS2.out.next hH.out hb); clear hb)
          | (go_at_call 24; (with_reducible refine (HM.out _ _ _ HS3.out.dk).mono ?_); rintro e w4 ⟨F4, rfl, hk, hx⟩; have HS4 := Lib.hid (HS3.out.op hk hx); clear hk hx))
        go_ret2
        exact ⟨F4, rfl, HS4.out.dk, HS4.out.ex⟩
      · skip
        go_enter Tryz.func29, Tryz.ntmps29
        go_wp2_with (first
          | (go_at_call 54; (with_reducible refine (HRD.out _ _ _ HS.out.dk).mono ?_); rintro e w1 ⟨rfl, hb⟩; have HS1 := Lib.hid (HS.out.next hH.out hb); clear hb)
          | (go_at_call 55; (with_reducible refine (HF1.out _ _ _ HS1.out.dk HS1.out.pow).mono ?_); rintro e w2 ⟨rfl, hb⟩; have HS2 := Lib.hid (HS1.out.next hH.out hb); clear hb)
          | (go_at_call 55; (with_reducible refine (HF2.out _ _ _ HS2.out.dk HS2.out.pow).mono ?_); rintro e w3 ⟨rfl, hb⟩; have HS3 := Lib.hid (HS2.out.next hH.out hb); clear hb)
          | (go_at_call 24; (with_reducible refine (HM.out _ _ _ HS3.out.dk).mono ?_); rintro e w4 ⟨F4, rfl, hk, hx⟩; have HS4 := Lib.hid (HS3.out.op hk hx); clear hk hx))
        go_ret2
        exact ⟨F4, rfl, HS4.out.dk, HS4.out.ex⟩
    · rw [if_neg (show ¬ (d2, e2).2 = 0 from he)]
      have b0 : (e2 == 0) = false := by simpa using he
      rcases hvv with rfl | rfl
      · skip
        go_enter Tryz.func29, Tryz.ntmps29
        go_wp2_with (first
          | (go_at_call 54; (with_reducible refine (HRD.out _ _ _ HS.out.dk).mono ?_); rintro e w1 ⟨rfl, hb⟩; have HS1 := Lib.hid (HS.out.next hH.out hb); clear hb)
          | (go_at_call 55; (with_reducible refine (HF1.out _ _ _ HS1.out.dk HS1.out.pow).mono ?_); rintro e w2 ⟨rfl, hb⟩; have HS2 := Lib.hid (HS1.out.next hH.out hb); clear hb)
          | (go_at_call 55; (with_reducible refine (HF2.out _ _ _ HS2.out.dk HS2.out.pow).mono ?_); rintro e w3 ⟨rfl, hb⟩; have HS3 := Lib.hid (HS2.out.next hH.out hb); clear hb)
          | (go_at_call 24; (with_reducible refine (HM.out _ _ _ HS3.out.dk).mono ?_); rintro e w4 ⟨F4, rfl, hk, hx⟩; have HS4 := Lib.hid (HS3.out.op hk hx); clear hk hx))
        go_ret2
        exact ⟨F4, rfl, HS4.out.dk, HS4.out.ex⟩
      · skip
        go_enter Tryz.func29, Tryz.ntmps29
        go_wp2_with (first
          | (go_at_call 54; (with_reducible refine (HRD.out _ _ _ HS.out.dk).mono ?_); rintro e w1 ⟨rfl, hb⟩; have HS1 := Lib.hid (HS.out.next hH.out hb); clear hb)
          | (go_at_call 55; (with_reducible refine (HF1.out _ _ _ HS1.out.dk HS1.out.pow).mono ?_); rintro e w2 ⟨rfl, hb⟩; have HS2 := Lib.hid (HS1.out.next hH.out hb); clear hb)
          | (go_at_call 55; (with_reducible refine (HF2.out _ _ _ HS2.out.dk HS2.out.pow).mono ?_); rintro e w3 ⟨rfl, hb⟩; have HS3 := Lib.hid (HS2.out.next hH.out hb); clear hb)
          | (go_at_call 24; (with_reducible refine (HM.out _ _ _ HS3.out.dk).mono ?_); rintro e w4 ⟨F4, rfl, hk, hx⟩; have HS4 := Lib.hid (HS3.out.op hk hx); clear hk hx))
        go_ret2
        exact ⟨F4, rfl, HS4.out.dk, HS4.out.ex⟩
  rw [if_pos hu0]
  have huu : u = fr1 ∨ u = fr2 := hu3.resolve_left hu0
  clear hv3 hu3 hu0 HF2
  rcases huu with rfl | rfl
  · skip
    go_enter Tryz.func29, Tryz.ntmps29
    go_wp2_with (first
      | (go_at_call 54; (with_reducible refine (HRD.out _ _ _ HS.out.dk).mono ?_); rintro e w1 ⟨rfl, hb⟩; have HS1 := Lib.hid (HS.out.next hH.out hb); clear hb)
      | (go_at_call 55; (with_reducible refine (HF1.out _ _ _ HS1.out.dk HS1.out.pow).mono ?_); rintro e w2 ⟨rfl, hb⟩; have HS2 := Lib.hid (HS1.out.next hH.out hb); clear hb))
    go_ret2
    exact ⟨F, rfl, HS2.out.dk, HS2.out.ex⟩
  · skip
    go_enter Tryz.func29, Tryz.ntmps29
    go_wp2_with (first
      | (go_at_call 54; (with_reducible refine (HRD.out _ _ _ HS.out.dk).mono ?_); rintro e w1 ⟨rfl, hb⟩; have HS1 := Lib.hid (HS.out.next hH.out hb); clear hb)
      | (go_at_call 55; (with_reducible refine (HF1.out _ _ _ HS1.out.dk HS1.out.pow).mono ?_); rintro e w2 ⟨rfl, hb⟩; have HS2 := Lib.hid (HS1.out.next hH.out hb); clear hb))
    go_ret2
    exact ⟨F, rfl, HS2.out.dk, HS2.out.ex⟩
end Go.Proofs.YtgegbpnmfpjdmaaGreatDoor
namespace Go.Proofs.YtgegbpnmfpjdmaaGreatDoor
open Go.RowKit
variable {DK : World → Addr → (Nat → Bool) → AD → Prop}
abbrev oC (t : TypeId) (v : Value) : Obj := .cells #[v] t (0, 0)
abbrev oH (x : Hdr) : Obj := .cells (hv x) 30 (0, 0)
def BX (F : Nat → Bool) (W : World) (l : List (Nat × Obj)) : Prop := ∀ q ∈ l, W.heap[q.1]? = some q.2 ∧ F q.1 = false
theorem blk_lt {W : World} {b : Nat} {o : Obj} (h : W.heap[b]? = some o) : b < W.heap.size := (Array.getElem?_eq_some_iff.1 h).1
theorem BX.nil (F : Nat → Bool) (W : World) : BX F W [] := fun q hq => by simp at hq
theorem BX.below {F : Nat → Bool} {W W' : World} {l : List (Nat × Obj)} (h : BX F W l) (hb : Below W.heap.size W W') : BX F W' l :=
  fun q hq => ⟨(hb.block q.1 (blk_lt (h q hq).1)).trans (h q hq).1, (h q hq).2⟩
theorem BX.ext {F F' : Nat → Bool} {W W' : World} {l : List (Nat × Obj)} (h : BX F W l) (hx : Ext F W W' F') : BX F' W' l :=
  fun q hq => ⟨(hx.block q.1 (blk_lt (h q hq).1) (h q hq).2).trans (h q hq).1, (hx.foot q.1 (blk_lt (h q hq).1)).trans (h q hq).2⟩
theorem foot_off {F : Nat → Bool} {n k : Nat} (h : Foot F n) (hk : n ≤ k) : F k = false := by
  cases hq : F k with
  | false => rfl
  | true => have := h k hq; omega
theorem BX.alloc {F : Nat → Bool} {W : World} {l : List (Nat × Obj)} (h : BX F W l) (hF : Foot F W.heap.size) (o : Obj) {g : Nat} (hg : W.heap.size = g) : BX F (W.alloc o) ((g, o) :: l) := by
  subst hg
  intro q hq
  rcases List.mem_cons.1 hq with rfl | hq
  · exact ⟨heap_alloc_last W o, foot_off hF (Nat.le_refl _)⟩
  · exact h.below (below_alloc W o) q hq
theorem BX.sub {F : Nat → Bool} {W : World} {l l' : List (Nat × Obj)} (h : BX F W l) (hs : ∀ q ∈ l', q ∈ l) : BX F W l' := fun q hq => h q (hs q hq)
theorem BX.one {F : Nat → Bool} {W : World} {l : List (Nat × Obj)} (h : BX F W l) {g : Nat} {t : TypeId} {v : Value} (hm : (g, oC t v) ∈ l) : W.cell? ⟨g, 0, none⟩ = some v ∧ W.frozen? ⟨g, 0, none⟩ = false :=
  ⟨cell_of_row W g 0 _ _ _ (h _ hm).1, Joins.unfrozen_of_block (h _ hm).1 0⟩
theorem BX.hb {F : Nat → Bool} {W : World} {l : List (Nat × Obj)} (h : BX F W l) {g : Nat} {x : Hdr} (hn : x.l.length = 4) (hm : (g, oH x) ∈ l) : HB W g x := ⟨(h _ hm).1, hn⟩
theorem BX.set {F : Nat → Bool} {W : World} {l : List (Nat × Obj)} (h : BX F W l) (g : Nat) (v : Value) (hg : ∀ q ∈ l, q.1 ≠ g) : BX F (W.setCell ⟨g, 0, none⟩ v) l :=
  fun q hq => ⟨(heap_setCell_other W ⟨g, 0, none⟩ q.1 v (hg q hq)).trans (h q hq).1, (h q hq).2⟩
theorem BX.put {W : World} {g : Nat} {t : TypeId} {v : Value} (hm : W.heap[g]? = some (oC t v)) (v' : Value) : (W.setCell ⟨g, 0, none⟩ v').heap[g]? = some (oC t v') := by
  have := Joins.block_setCell (i := 0) hm v'
  simpa using this
theorem Ext.newCell {F F1 : Nat → Bool} {w W : World} (h : Ext F w W F1) {g : Nat} (hg : w.heap.size ≤ g) (v : Value) : Ext F w (W.setCell ⟨g, 0, none⟩ v) F1 :=
  ⟨h.os, h.tape, h.output, by simpa using h.size, fun k hk hf => (heap_setCell_other W ⟨g, 0, none⟩ k v (by show k ≠ g; omega)).trans (h.block k hk hf), h.foot⟩
theorem DiskSays.cell (H : DiskSays DK) {W : World} {p : Addr} {F : Nat → Bool} {d : AD} (h : DK W p F d) {g : Nat} (hg : F g = false) (v : Value) : DK (W.setCell ⟨g, 0, none⟩ v) p F d :=
  H.keep h (by simp) fun k hk => heap_setCell_other W ⟨g, 0, none⟩ k v (by show k ≠ g; rintro rfl; rw [hg] at hk; simp at hk)
theorem results_errno {fn : Func} {p : Tmp} (h : fn.results = #[.cell p 32]) (tmps : Array Value) (w : World) (g : Nat) (v : Int) (hp : tmps.getD p undef = .pointer (some ⟨g, 0, none⟩)) (hc : w.cell? ⟨g, 0, none⟩ = some (.int .i64 v)) :
    (results fn tmps).run Tryz.prog w = .ok (.int .i64 v) w := by
  have hp2 : tmps[p]?.getD undef = .pointer (some ⟨g, 0, none⟩) := by simpa using hp
  simp only [results, h]
  simp [hp2, go_sem, hc]
structure OB (DK : World → Addr → (Nat → Bool) → AD → Prop) (W0 : World) (F : Nat → Bool) (w : World) (p : Addr) (F1 : Nat → Bool) (d : AD) (l : List (Nat × Obj)) (W : World) : Prop where
  op : OPn DK W0 F w p F1 d W
  bx : BX F1 W l
  lo : ∀ q ∈ l, w.heap.size ≤ q.1
  h0 : W0.heap.size ≤ w.heap.size
theorem OB.next (H : DiskSays DK) {W0 : World} {F : Nat → Bool} {w : World} {p : Addr} {F1 : Nat → Bool} {d : AD} {l : List (Nat × Obj)} {W W' : World} (h : OB DK W0 F w p F1 d l W) (hb : Below W.heap.size W W') : OB DK W0 F w p F1 d l W' :=
  ⟨h.op.next H hb, h.bx.below hb, h.lo, h.h0⟩
theorem OB.ext {W0 : World} {F : Nat → Bool} {w : World} {p : Addr} {F1 F2 : Nat → Bool} {d d' : AD} {l : List (Nat × Obj)} {W W' : World} (h : OB DK W0 F w p F1 d l W) (hk : DK W' p F2 d') (hx : Ext F1 W W' F2) : OB DK W0 F w p F2 d' l W' :=
  ⟨h.op.op hk hx, h.bx.ext hx, h.lo, h.h0⟩
theorem OB.alloc (H : DiskSays DK) {W0 : World} {F : Nat → Bool} {w : World} {p : Addr} {F1 : Nat → Bool} {d : AD} {l : List (Nat × Obj)} {W : World} (h : OB DK W0 F w p F1 d l W) (o : Obj) {g : Nat} (hg : W.heap.size = g) : OB DK W0 F w p F1 d ((g, o) :: l) (W.alloc o) :=
  ⟨h.op.next H (below_alloc W o), h.bx.alloc (H.foot h.op.dk) o hg, fun q hq => by
    rcases List.mem_cons.1 hq with rfl | hq
    · rw [← hg]; exact h.op.ex.size
    · exact h.lo q hq, h.h0⟩
theorem OB.set (H : DiskSays DK) {W0 : World} {F : Nat → Bool} {w : World} {p : Addr} {F1 : Nat → Bool} {d : AD} {l : List (Nat × Obj)} {W : World} {g : Nat} {t : TypeId} {v : Value} (h : OB DK W0 F w p F1 d ((g, oC t v) :: l) W) (hne : ∀ q ∈ l, q.1 ≠ g) (v' : Value) :
    OB DK W0 F w p F1 d ((g, oC t v') :: l) (W.setCell ⟨g, 0, none⟩ v') := by
  have hm := h.bx (g, oC t v) (by simp)
  have hlo := h.lo (g, oC t v) (by simp)
  refine ⟨⟨H.cell h.op.dk hm.2 v', h.op.ex.newCell hlo v', h.op.ex0.newCell (Nat.le_trans h.h0 hlo) v', h.op.pow0⟩, ?_, ?_, h.h0⟩
  · intro q hq
    rcases List.mem_cons.1 hq with rfl | hq
    · exact ⟨BX.put hm.1 v', hm.2⟩
    · exact (BX.set (l := l) (fun q hq => h.bx q (List.mem_cons_of_mem _ hq)) g v' hne) q hq
  · intro q hq
    rcases List.mem_cons.1 hq with rfl | hq
    · exact hlo
    · exact h.lo q (List.mem_cons_of_mem _ hq)
end Go.Proofs.YtgegbpnmfpjdmaaGreatDoor
