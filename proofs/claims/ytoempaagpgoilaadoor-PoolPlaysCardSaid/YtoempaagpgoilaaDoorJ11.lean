/-
  TEXTS JOINED: PoolMath, Digits, PoolCode, PoolDo, PoolRef, PoolRefS, PoolRefC. Each one's own words stand at its head.
-/
import Derived.Test.YtoempaagpgoilaaDoorJ4
import Derived.Test.YtoempaagpgoilaaDoorJ0
import Derived.Test.YtoempaagpgoilaaDoorJ5
import Derived.WalkLawsBesides
import Derived.WalkSpells
import Derived.Lib.ItoaLen
import Derived.Test.YtoempaagpgoilaaDoorJ2
import Derived.Test.YtoempaagpgoilaaDoorJ3
import Derived.Test.YtoempaagpgoilaaDoorJ1
/-
  LAYER 21 (pool): what its calls come to (plain mathematics, over what a disk is). Nothing here speaks of the program's functions. No condition.
-/
namespace Go.Proofs.YtoempaagpgoilaaDoor
open Go.RowKit
/-- how many sectors a file has; 0: there is none -/
def szI (d : AD) (s : ByteArray) : Int := if d.has s then ((d.get s).n : Int) else 0
abbrev noS : ByteArray := ⟨#[]⟩
abbrev fr0 : ByteArray := ⟨#[102, 114, 101, 101, 45, 48]⟩
abbrev fr1 : ByteArray := ⟨#[102, 114, 101, 101, 45, 49]⟩
abbrev fr2 : ByteArray := ⟨#[102, 114, 101, 101, 45, 50]⟩
def frN (k : Nat) : ByteArray := if k = 0 then fr0 else if k = 1 then fr1 else fr2
def AD.expelR (d : AD) (s : ByteArray) : AD × Int := if szI d s = 0 ∨ szI d s = 17 then (d, 0) else d.removeR s
def AD.spareR (d : AD) : AD × Int :=
  if d.down = true then (d, 9) else if szI d fr0 = 17 then (d, 0) else if (d.expelR fr0).2 = 0 then (d.expelR fr0).1.makeR fr0 17 else d.expelR fr0
def countI (d : AD) : Int := (if szI d fr1 = 17 then 1 else 0) + (if szI d fr2 = 17 then 1 else 0)
/-- the first k free names gone over -/
def AD.cleanK (d : AD) : Nat → AD × Int
  | 0 => (d, 0)
  | k + 1 => if (d.cleanK k).2 = 0 then (d.cleanK k).1.expelR (frN k) else d.cleanK k
def AD.cleanR (d : AD) : AD × Int := if d.down = true then (d, 9) else d.cleanK 3
def firstI (d : AD) (n : Int) : ByteArray := if szI d fr1 = n then fr1 else if szI d fr2 = n then fr2 else noS
def AD.takeR (d : AD) : AD × ByteArray × Int :=
  if d.down = true then (d, noS, 9) else if firstI d 17 ≠ noS then (d, firstI d 17, 0) else if firstI d 0 = noS then (d, noS, 6)
  else if (d.makeR (firstI d 0) 17).2 = 0 then ((d.makeR (firstI d 0) 17).1, firstI d 0, 0) else ((d.makeR (firstI d 0) 17).1, noS, (d.makeR (firstI d 0) 17).2)
def AD.giveR (d : AD) (s : ByteArray) : AD × Int :=
  if d.down = true then (d, 9) else if szI d s = 0 then (d, 7) else if szI d s = 17 ∧ firstI d 0 ≠ noS then d.renameR s (firstI d 0) else d.removeR s
theorem sz_le {d : AD} (h : Good d) (s : ByteArray) : 0 ≤ szI d s ∧ szI d s ≤ 64 := by
  unfold szI
  split
  · rename_i hh
    have := (h.file _ (get_mem hh)).n64
    omega
  · omega
theorem fr1_ne : fr1 ≠ noS := by decide
theorem first_size (d : AD) (n : Int) : (firstI d n).size ≤ 281474976710656 := by
  unfold firstI
  split
  · decide
  split <;> decide
theorem first_or (d : AD) (n : Int) : firstI d n = noS ∨ firstI d n = fr1 ∨ firstI d n = fr2 := by
  unfold firstI
  split
  · exact .inr (.inl rfl)
  split
  · exact .inr (.inr rfl)
  · exact .inl rfl
theorem frN_size (k : Nat) : (frN k).size ≤ 281474976710656 := by
  unfold frN
  split
  · decide
  split <;> decide
theorem expel_not_there {d : AD} {s : ByteArray} (h : szI d s = 0 ∨ szI d s = 17) : d.expelR s = (d, 0) := if_pos h
theorem expel_there {d : AD} {s : ByteArray} (h : ¬ (szI d s = 0 ∨ szI d s = 17)) : d.expelR s = d.removeR s := if_neg h
theorem Good.expel {d : AD} (h : Good d) (s : ByteArray) : Good (d.expelR s).1 := by
  unfold AD.expelR
  split
  · exact h
  · exact h.remove s
theorem Good.spare {d : AD} (h : Good d) : Good d.spareR.1 := by
  unfold AD.spareR
  split
  · exact h
  split
  · exact h
  split
  · exact (h.expel fr0).make fr0 17
  · exact h.expel fr0
theorem Good.cleanK {d : AD} (h : Good d) : ∀ k, Good (d.cleanK k).1
  | 0 => h
  | k + 1 => by
    unfold AD.cleanK
    split
    · exact (Good.cleanK h k).expel (frN k)
    · exact Good.cleanK h k
theorem Good.clean {d : AD} (h : Good d) : Good d.cleanR.1 := by
  unfold AD.cleanR
  split
  · exact h
  · exact h.cleanK 3
theorem Good.take {d : AD} (h : Good d) : Good d.takeR.1 := by
  unfold AD.takeR
  split
  · exact h
  split
  · exact h
  split
  · exact h
  split
  · exact h.make _ _
  · exact h.make _ _
theorem Good.give {d : AD} (h : Good d) (s : ByteArray) : Good (d.giveR s).1 := by
  unfold AD.giveR
  split
  · exact h
  split
  · exact h
  split
  · exact h.rename _ _
  · exact h.remove _
/-- where a round fails, all ends -/
theorem cleanK_fails {d : AD} {k : Nat} (h : (d.cleanK k).2 ≠ 0) : ∀ j, k ≤ j → d.cleanK j = d.cleanK k := by
  intro j hj
  induction j with
  | zero => have : k = 0 := by omega
            subst this; rfl
  | succ j ih =>
    rcases Nat.lt_or_ge j k with hlt | hge
    · have : k = j + 1 := by omega
      subst this; rfl
    · have e := ih hge
      show (if (d.cleanK j).2 = 0 then (d.cleanK j).1.expelR (frN j) else d.cleanK j) = d.cleanK k
      rw [e, if_neg h]
theorem cleanK_step {d : AD} {k : Nat} (h : (d.cleanK k).2 = 0) : d.cleanK (k + 1) = (d.cleanK k).1.expelR (frN k) := by
  show (if (d.cleanK k).2 = 0 then (d.cleanK k).1.expelR (frN k) else d.cleanK k) = _
  rw [if_pos h]
end Go.Proofs.YtoempaagpgoilaaDoor
/-
  WHAT THE PROGRAM'S OWN name.Digits AND name.Pool ANSWER of the numbers that free names have: the library's table of powers lies as the form says.
-/
namespace Go.Proofs.YtoempaagpgoilaaDoor
open Go.Proofs Go.RowKit
open Go.Lib (toList_data size_eq)
/-- the table of powers of the library, as it is laid -/
def Pow (w : World) : Prop := Lib.TabIs Tryd.prog w "internal/strconv.uint64pow10" .u64 Lib.pow10Tab
theorem pow_of {w : World} (h : Lib.TabIs Tryd.prog w "internal/strconv.uint64pow10" .u64 [1, 10, 100, 1000, 10000, 100000, 1000000, 10000000, 100000000, 1000000000, 10000000000, 100000000000, 1000000000000, 10000000000000, 100000000000000, 1000000000000000, 10000000000000000, 100000000000000000, 1000000000000000000, 10000000000000000000]) : Pow w := by
  unfold Pow
  rw [show Lib.pow10Tab = [1, 10, 100, 1000, 10000, 100000, 1000000, 10000000, 100000000, 1000000000, 10000000000, 100000000000, 1000000000000, 10000000000000, 100000000000000, 1000000000000000, 10000000000000000, 100000000000000000, 1000000000000000000, 10000000000000000000] from by decide +kernel]
  exact h
theorem var_stays {P : Program} {w w' : World} {n : String} {cs : Array Value} (h : w.var? P n = some cs) (hb : ∀ k, k < w.heap.size → w'.heap[k]? = w.heap[k]?) : w'.var? P n = some cs := by
  unfold World.var? at *
  cases hg : P.globalNamed n with
  | none => simp [hg] at h
  | some g =>
    simp only [hg, Option.bind_some] at h ⊢
    have hlt : g < w.heap.size := by
      rcases Nat.lt_or_ge g w.heap.size with h' | h'
      · exact h'
      · simp [Array.getElem?_eq_none h'] at h
    rw [hb g hlt]; exact h
theorem Pow.on {w w' : World} (h : Pow w) (hb : Below w.heap.size w w') : Pow w' := var_stays h fun k hk => hb.block k hk
/-- what came in is there: the table, too -/
theorem Pow.ext {W w : World} {F : Nat → Bool} (h : Pow W) (hx : Ext (fun _ => false) W w F) : Pow w := var_stays h fun k hk => hx.block k hk rfl
theorem digits_grow {w w' : World} (h : ∃ (k : Nat) (os : Array Obj), w' = Sort.grow (w.drewN k) os) : Below w.heap.size w w' := by
  obtain ⟨k, os, rfl⟩ := h
  refine ⟨rfl, rfl, rfl, ?_, fun j hj => ?_⟩
  · show w.heap.size ≤ (w.heap ++ os).size
    simp
  · show (w.heap ++ os)[j]? = w.heap[j]?
    rw [Array.getElem?_append_left hj]
theorem digits_pow (n : Int) (h0 : -9223372036854775808 ≤ n) (h1 : n ≤ 9223372036854775807) (w : World) (hv : Pow w) :
    Calls Tryd.prog 54 #[.int .i64 n] w fun e w' => e = .returned (.string ⟨(Lib.itoa n).toArray⟩) ∧ Below w.heap.size w w' := by
  have HV := Lib.hid hv
  clear hv
  go_enter Tryd.func54, Tryd.ntmps54
  go_wp2_with (first
    | (go_at_call 59; (refine (Tryd.strconv_Itoa n h0 h1 _ HV.out).mono ?_); rintro e w' ⟨rfl, hb⟩; have HB := Lib.hid (digits_grow hb); clear hb))
  go_ret
  exact ⟨rfl, HB.out⟩
theorem digits_text (a b : List UInt8) : (⟨a.toArray⟩ ++ ⟨b.toArray⟩ : ByteArray) = ⟨(a ++ b).toArray⟩ := by
  apply ByteArray.ext
  simp
theorem digits_itoa (n : Nat) : Lib.itoa (n : Int) = Lib.decDigits n := by simp [Lib.itoa]
theorem itoa_low : Lib.itoa 0 = [48] ∧ Lib.itoa 1 = [49] ∧ Lib.itoa 2 = [50] := by
  refine ⟨?_, ?_, ?_⟩
  · rw [show (0 : Int) = ((0 : Nat) : Int) from rfl, digits_itoa, Lib.decDigits_one (by omega)]; rfl
  · rw [show (1 : Int) = ((1 : Nat) : Int) from rfl, digits_itoa, Lib.decDigits_one (by omega)]; rfl
  · rw [show (2 : Int) = ((2 : Nat) : Int) from rfl, digits_itoa, Lib.decDigits_one (by omega)]; rfl
/-- a number of a free name, as a text -/
theorem pool_one (k : Nat) (hk : k ≤ 2) (l : List UInt8) (hl : Lib.itoa (k : Int) = l) (h1 : l.length ≤ 100) (w : World) (hv : Pow w) :
    Calls Tryd.prog 32 #[.int .i64 (k : Int)] w fun e w' => e = .returned (.string ⟨(102 :: 114 :: 101 :: 101 :: 45 :: l).toArray⟩) ∧ Below w.heap.size w w' := by
  have hl2 : ¬ 9223372036854775807 < 5 + l.length := by omega
  have HD : Hid (∀ w, Pow w → Calls Tryd.prog 54 #[.int .i64 (k : Int)] w fun e w' => e = .returned (.string ⟨l.toArray⟩) ∧ Below w.heap.size w w') := Lib.hid fun w h => by
    have := digits_pow (k : Int) (by omega) (by omega) w h
    rwa [hl] at this
  have HV := Lib.hid hv
  clear hv hl h1
  go_enter Tryd.func32, Tryd.ntmps32
  go_wp2_with (first
    | (go_at_call 54; (refine (HD.out _ HV.out).mono ?_); rintro e w' ⟨rfl, hb⟩; have HB := Lib.hid hb; clear hb))
  go_ret
  refine ⟨?_, HB.out⟩
  exact congrArg (fun x => Ending.returned (.string x)) (digits_text [102, 114, 101, 101, 45] l)
end Go.Proofs.YtoempaagpgoilaaDoor
/-
  WHAT THE PROGRAM'S OWN FUNCTIONS OF LAYER 21 (pool) ANSWER that look alone, over DiskSays: ready, first, Count; and expel.
-/
namespace Go.Proofs.YtoempaagpgoilaaDoor
open Go.RowKit
variable {DK : World → Addr → (Nat → Bool) → AD → Prop}
theorem pool_name (k : Nat) (hk : k ≤ 2) (w : World) (hv : Pow w) :
    Calls Tryd.prog 32 #[.int .i64 (k : Int)] w fun e w' => e = .returned (.string (frN k)) ∧ Below w.heap.size w w' := by
  obtain ⟨i0, i1, i2⟩ := itoa_low
  rcases k with _ | _ | _ | k
  · exact pool_one 0 (by omega) [48] i0 (by decide) w hv
  · exact pool_one 1 (by omega) [49] i1 (by decide) w hv
  · exact pool_one 2 (by omega) [50] i2 (by decide) w hv
  · omega
theorem psize_of (H : DiskSays DK) {d : AD} {s : ByteArray} {x : Int} (hg : Good d) (hs : s.size ≤ 281474976710656) (hx : szI d s = x) :
    Hid (∀ w p F, DK w p F d → Calls Tryd.prog 22 #[ptr p, .string s] w fun e w' => e = .returned (.int .i64 x) ∧ Below w.heap.size w w') :=
  Lib.hid fun w p F h => by rw [← hx]; exact H.size w p F d s h hg hs
theorem pready_any (H : DiskSays DK) (w : World) (p : Addr) (F : Nat → Bool) (d : AD) (h : DK w p F d) (hg : Good d) :
    Calls Tryd.prog 24 #[ptr p] w fun e w' => e = .returned (.int .i64 (if d.down = true then 9 else 0)) ∧ Below w.heap.size w w' := by
  have HD := Lib.hid (H.down w p F d h hg)
  cases hd : d.down with
  | false =>
    rw [hd] at HD
    go_enter Tryd.func24, Tryd.ntmps24
    go_wp2_with (first
      | (go_at_call 46; (with_reducible refine HD.out.mono ?_); rintro e w1 ⟨rfl, hb⟩; have HB := Lib.hid hb; clear hb))
    go_ret
    exact ⟨rfl, HB.out⟩
  | true =>
    rw [hd] at HD
    go_enter Tryd.func24, Tryd.ntmps24
    go_wp2_with (first
      | (go_at_call 46; (with_reducible refine HD.out.mono ?_); rintro e w1 ⟨rfl, hb⟩; have HB := Lib.hid hb; clear hb))
    go_ret
    exact ⟨rfl, HB.out⟩
/-- where a call stands that looks alone -/
structure LK (DK : World → Addr → (Nat → Bool) → AD → Prop) (w : World) (p : Addr) (F : Nat → Bool) (d : AD) (W : World) : Prop where
  dk : DK W p F d
  below : Below w.heap.size w W
  pow : Pow W
theorem LK.next (H : DiskSays DK) {w : World} {p : Addr} {F : Nat → Bool} {d : AD} {W W' : World} (h : LK DK w p F d W) (hb : Below W.heap.size W W') : LK DK w p F d W' :=
  ⟨H.below h.dk hb, h.below.trans (hb.mono h.below.size), h.pow.on hb⟩
theorem first_none {d : AD} {n : Int} (h : ∀ j, j < 2 → szI d (frN (j + 1)) ≠ n) : firstI d n = noS := by
  have h1 : szI d fr1 ≠ n := h 0 (by omega)
  have h2 : szI d fr2 ≠ n := h 1 (by omega)
  unfold firstI
  rw [if_neg h1, if_neg h2]
theorem first_some {d : AD} {n : Int} {i : Nat} (hi : i < 2) (h : ∀ j, j < i → szI d (frN (j + 1)) ≠ n) (h2 : szI d (frN (i + 1)) = n) : firstI d n = frN (i + 1) := by
  rcases i with _ | _ | i
  · have h3 : szI d fr1 = n := h2
    unfold firstI; rw [if_pos h3]; rfl
  · have h3 : szI d fr2 = n := h2
    have h4 : szI d fr1 ≠ n := h 0 (by omega)
    unfold firstI; rw [if_neg h4, if_pos h3]; rfl
  · omega
set_option maxRecDepth 8000 in
theorem pfirst_any (H : DiskSays DK) (w : World) (p : Addr) (F : Nat → Bool) (d : AD) (n : Int) (h : DK w p F d) (hg : Good d) (hp : Pow w) :
    Calls Tryd.prog 25 #[ptr p, .int .i64 n] w fun e w' => e = .returned (.string (firstI d n)) ∧ Below w.heap.size w w' := by
  have hH := Lib.hid H
  have HG := Lib.hid hg
  have HS := Lib.hid (⟨h, Below.refl _ _, hp⟩ : LK DK w p F d w)
  clear h hg hp
  go_enter Tryd.func25, Tryd.ntmps25
  go_wp2_with fail
  go_loopw [7] (fun iv wr => ∃ i : Nat, iv = .int .i64 i ∧ i ≤ 2 ∧ Hid (LK DK w p F d wr) ∧ Hid (∀ j, j < i → szI d (frN (j + 1)) ≠ n)) (fun iv _ => 2 - (intOf iv).toNat)
  case atStart => exact ⟨0, rfl, by omega, HS, Lib.hid fun j hj => by omega⟩
  case round =>
    obtain ⟨i, rfl, hi, HL, HI⟩ := hrel
    by_cases hlt : (i : Int) < 2
    · obtain ⟨x, hx⟩ : ∃ x, szI d (frN (i + 1)) = x := ⟨_, rfl⟩
      have HZ := psize_of hH.out HG.out (frN_size _) hx
      have HX := Lib.hid hx
      have HPN : Hid (∀ w, Pow w → Calls Tryd.prog 32 #[.int .i64 (1 + (i : Int))] w fun e w' => e = .returned (.string (frN (i + 1))) ∧ Below w.heap.size w w') := Lib.hid fun w hw => by
        have := pool_name (i + 1) (by omega) w hw
        rwa [show ((i + 1 : Nat) : Int) = 1 + (i : Int) by omega] at this
      have hw1 : IntKind.i64.wrap (1 + (i : Int)) = 1 + (i : Int) := IntWalk.i64_in _ (by omega)
      clear hx
      by_cases hq : x = n
      · have HE := Lib.hid (first_some (by omega) HI.out (HX.out.trans hq))
        go_wp2_with (first
          | (go_at_call 32; (with_reducible refine (HPN.out _ HL.out.pow).mono ?_); rintro e w1 ⟨rfl, hb⟩; have HL1 := Lib.hid (HL.out.next hH.out hb); clear hb)
          | (go_at_call 22; (with_reducible refine (HZ.out _ _ _ HL1.out.dk).mono ?_); rintro e w2 ⟨rfl, hb⟩; have HL2 := Lib.hid (HL1.out.next hH.out hb); clear hb))
        go_ret
        exact ⟨by rw [HE.out]; rfl, HL2.out.below⟩
      · have HN : Hid (∀ j, j < i + 1 → szI d (frN (j + 1)) ≠ n) := Lib.hid fun j hj => by
          by_cases hji : j = i
          · subst hji; rw [HX.out]; exact hq
          · exact HI.out j (by omega)
        go_wp2_with (first
          | (go_at_call 32; (with_reducible refine (HPN.out _ HL.out.pow).mono ?_); rintro e w1 ⟨rfl, hb⟩; have HL1 := Lib.hid (HL.out.next hH.out hb); clear hb)
          | (go_at_call 22; (with_reducible refine (HZ.out _ _ _ HL1.out.dk).mono ?_); rintro e w2 ⟨rfl, hb⟩; have HL2 := Lib.hid (HL1.out.next hH.out hb); clear hb))
        exact ⟨⟨i + 1, by go_num, by omega, HL2, HN⟩, by simp [intOf]; omega⟩
    · have hq : i = 2 := by omega
      subst hq
      go_wp2_with fail
      go_ret
      exact ⟨by rw [first_none HI.out]; rfl, HL.out.below⟩
/-- how many of the first names have n sectors -/
def cntK (d : AD) : Nat → Int
  | 0 => 0
  | k + 1 => cntK d k + (if szI d (frN (k + 1)) = 17 then 1 else 0)
theorem cntK_two (d : AD) : cntK d 2 = countI d := by
  show (0 + (if szI d fr1 = 17 then 1 else 0)) + (if szI d fr2 = 17 then 1 else 0) = countI d
  unfold countI; omega
theorem cntK_le (d : AD) : ∀ k, 0 ≤ cntK d k ∧ cntK d k ≤ k
  | 0 => by simp [cntK]
  | k + 1 => by
    have := cntK_le d k
    show 0 ≤ cntK d k + (if szI d (frN (k + 1)) = 17 then 1 else 0) ∧ cntK d k + (if szI d (frN (k + 1)) = 17 then 1 else 0) ≤ ((k + 1 : Nat) : Int)
    split <;> omega
set_option maxRecDepth 8000 in
theorem pcount_any (H : DiskSays DK) (w : World) (p : Addr) (F : Nat → Bool) (d : AD) (h : DK w p F d) (hg : Good d) (hp : Pow w) :
    Calls Tryd.prog 21 #[ptr p] w fun e w' => e = .returned (.int .i64 (countI d)) ∧ Below w.heap.size w w' := by
  have hH := Lib.hid H
  have HG := Lib.hid hg
  have HS := Lib.hid (⟨h, Below.refl _ _, hp⟩ : LK DK w p F d w)
  clear h hg hp
  go_enter Tryd.func21, Tryd.ntmps21
  go_wp2_with fail
  go_loopw [5, 3] (fun iv cv wr => ∃ (i : Nat) (c : Int), iv = .int .i64 i ∧ cv = .int .i64 c ∧ i ≤ 2 ∧ Hid (c = cntK d i) ∧ 0 ≤ c ∧ c ≤ 2 ∧ Hid (LK DK w p F d wr)) (fun iv _ _ => 2 - (intOf iv).toNat)
  case atStart => exact ⟨0, 0, rfl, rfl, by omega, Lib.hid rfl, by omega, by omega, HS⟩
  case round =>
    obtain ⟨i, c, rfl, rfl, hi, HC, hc0, hc2, HL⟩ := hrel
    by_cases hlt : (i : Int) < 2
    · obtain ⟨x, hx⟩ : ∃ x, szI d (frN (i + 1)) = x := ⟨_, rfl⟩
      have HZ := psize_of hH.out HG.out (frN_size _) hx
      have hcl := cntK_le d (i + 1)
      have hst : cntK d (i + 1) = c + (if x = 17 then 1 else 0) := by rw [HC.out, ← hx]; rfl
      have HPN : Hid (∀ w, Pow w → Calls Tryd.prog 32 #[.int .i64 (1 + (i : Int))] w fun e w' => e = .returned (.string (frN (i + 1))) ∧ Below w.heap.size w w') := Lib.hid fun w hw => by
        have := pool_name (i + 1) (by omega) w hw
        rwa [show ((i + 1 : Nat) : Int) = 1 + (i : Int) by omega] at this
      clear hx
      by_cases hq : x = 17
      · subst hq
        rw [if_pos rfl] at hst
        have hc3 : c + 1 ≤ 2 := by omega
        have HST := Lib.hid hst
        clear hst hcl
        go_wp2_with (first
          | (go_at_call 32; (with_reducible refine (HPN.out _ HL.out.pow).mono ?_); rintro e w1 ⟨rfl, hb⟩; have HL1 := Lib.hid (HL.out.next hH.out hb); clear hb)
          | (go_at_call 22; (with_reducible refine (HZ.out _ _ _ HL1.out.dk).mono ?_); rintro e w2 ⟨rfl, hb⟩; have HL2 := Lib.hid (HL1.out.next hH.out hb); clear hb))
        exact ⟨⟨i + 1, c + 1, by go_num, by go_num, by omega, Lib.hid HST.out.symm, by omega, by omega, HL2⟩, by simp [intOf]; omega⟩
      · rw [if_neg hq] at hst
        have HST := Lib.hid hst
        clear hst hcl
        go_wp2_with (first
          | (go_at_call 32; (with_reducible refine (HPN.out _ HL.out.pow).mono ?_); rintro e w1 ⟨rfl, hb⟩; have HL1 := Lib.hid (HL.out.next hH.out hb); clear hb)
          | (go_at_call 22; (with_reducible refine (HZ.out _ _ _ HL1.out.dk).mono ?_); rintro e w2 ⟨rfl, hb⟩; have HL2 := Lib.hid (HL1.out.next hH.out hb); clear hb))
        exact ⟨⟨i + 1, c, by go_num, rfl, by omega, Lib.hid (by rw [HST.out]; omega), by omega, by omega, HL2⟩, by simp [intOf]; omega⟩
    · have hq : i = 2 := by omega
      subst hq
      go_wp2_with fail
      go_ret
      exact ⟨by rw [← cntK_two, ← HC.out]; rfl, HL.out.below⟩
theorem pexpel_any (H : DiskSays DK) (w : World) (p : Addr) (F : Nat → Bool) (d : AD) (s : ByteArray) (h : DK w p F d) (hg : Good d) (hs : s.size ≤ 281474976710656) :
    Calls Tryd.prog 33 #[ptr p, .string s] w fun e w' => ∃ F', e = .returned (.int .i64 (d.expelR s).2) ∧ DK w' p F' (d.expelR s).1 ∧ Ext F w w' F' := by
  have hH := Lib.hid H
  obtain ⟨x, hx⟩ : ∃ x, szI d s = x := ⟨_, rfl⟩
  have HZ := psize_of H hg hs hx
  have HK := Lib.hid h
  by_cases h0 : x = 0 ∨ x = 17
  · rw [expel_not_there (by rw [hx]; exact h0)]
    clear hx hg
    rcases h0 with rfl | rfl
    all_goals
      go_enter Tryd.func33, Tryd.ntmps33
      go_wp2_with (first
        | (go_at_call 22; (with_reducible refine (HZ.out _ _ _ HK.out).mono ?_); rintro e w2 ⟨rfl, hb⟩; have HB := Lib.hid hb; clear hb))
      go_ret
      exact ⟨F, rfl, hH.out.below HK.out HB.out, Ext.below HB.out⟩
  · rw [expel_there (by rw [hx]; exact h0)]
    have h1 : (x == 0) = false := by simpa using fun e => h0 (.inl e)
    have h2 : (x == 17) = false := by simpa using fun e => h0 (.inr e)
    obtain ⟨⟨d2, e2⟩, hr⟩ : ∃ r, d.removeR s = r := ⟨_, rfl⟩
    have HR : Hid (∀ w, DK w p F d → Calls Tryd.prog 29 #[ptr p, .string s] w fun e w' => ∃ F', e = .returned (.int .i64 e2) ∧ DK w' p F' d2 ∧ Ext F w w' F') := Lib.hid fun w h => by
      have := H.remove w p F d s h hg hs
      rwa [hr] at this
    rw [hr]
    clear hx hg h0 h hr
    go_enter Tryd.func33, Tryd.ntmps33
    go_wp2_with (first
      | (go_at_call 22; (with_reducible refine (HZ.out _ _ _ HK.out).mono ?_); rintro e w2 ⟨rfl, hb⟩; have HK2 := Lib.hid (hH.out.below HK.out hb); have HB := Lib.hid hb; clear hb)
      | (go_at_call 29; (with_reducible refine (HR.out _ HK2.out).mono ?_); rintro e w3 ⟨F', rfl, hk, hx⟩; have HK3 := Lib.hid hk; have HX3 := Lib.hid hx; clear hk hx))
    go_ret
    exact ⟨F', rfl, HK3.out, (Ext.below HB.out).trans HX3.out⟩
end Go.Proofs.YtoempaagpgoilaaDoor
/-
  WHAT THE PROGRAM'S OWN FUNCTIONS OF LAYER 21 (pool) ANSWER that change a disk, over DiskSays: Spare, Take, Give, Clean. Written by wip/gen/g38.py.
-/
namespace Go.Proofs.YtoempaagpgoilaaDoor
open Go.RowKit
variable {DK : World → Addr → (Nat → Bool) → AD → Prop}
/-- where a call stands: W0 is a world ahead of the disk, which has the library's table; w is where the call began -/
structure OPn (DK : World → Addr → (Nat → Bool) → AD → Prop) (W0 : World) (F : Nat → Bool) (w : World) (p : Addr) (F1 : Nat → Bool) (d : AD) (W : World) : Prop where
  dk : DK W p F1 d
  ex : Ext F w W F1
  ex0 : Ext (fun _ => false) W0 W F1
  pow0 : Pow W0
theorem OPn.pow {W0 : World} {F : Nat → Bool} {w : World} {p : Addr} {F1 : Nat → Bool} {d : AD} {W : World} (h : OPn DK W0 F w p F1 d W) : Pow W := h.pow0.ext h.ex0
theorem OPn.next (H : DiskSays DK) {W0 : World} {F : Nat → Bool} {w : World} {p : Addr} {F1 : Nat → Bool} {d : AD} {W W' : World} (h : OPn DK W0 F w p F1 d W) (hb : Below W.heap.size W W') : OPn DK W0 F w p F1 d W' :=
  ⟨H.below h.dk hb, h.ex.trans (Ext.below hb), h.ex0.trans (Ext.below hb), h.pow0⟩
theorem OPn.op {W0 : World} {F : Nat → Bool} {w : World} {p : Addr} {F1 F2 : Nat → Bool} {d d' : AD} {W W' : World} (h : OPn DK W0 F w p F1 d W) (hk : DK W' p F2 d') (hx : Ext F1 W W' F2) : OPn DK W0 F w p F2 d' W' :=
  ⟨hk, h.ex.trans hx, h.ex0.trans hx, h.pow0⟩
theorem pready_of (H : DiskSays DK) {d : AD} (hg : Good d) {b : Bool} (hd : d.down = b) : Hid (∀ w p F, DK w p F d → Calls Tryd.prog 24 #[ptr p] w fun e w' => e = .returned (.int .i64 (if b = true then 9 else 0)) ∧ Below w.heap.size w w') :=
  Lib.hid fun w p F h => by rw [← hd]; exact pready_any H w p F d h hg
theorem pmake_of (H : DiskSays DK) {d d2 : AD} {s : ByteArray} {e2 : Int} (hg : Good d) (hs : s.size ≤ 281474976710656) (h : d.makeR s 17 = (d2, e2)) : Hid (∀ w p F, DK w p F d → Calls Tryd.prog 16 #[ptr p, .string s, .int .i64 17] w fun e w' => ∃ F', e = .returned (.int .i64 e2) ∧ DK w' p F' d2 ∧ Ext F w w' F') :=
  Lib.hid fun w p F hk => by
    have := H.make w p F d s 17 hk hg hs (by unfold I63; omega)
    rwa [h] at this
theorem premove_of (H : DiskSays DK) {d d2 : AD} {s : ByteArray} {e2 : Int} (hg : Good d) (hs : s.size ≤ 281474976710656) (h : d.removeR s = (d2, e2)) : Hid (∀ w p F, DK w p F d → Calls Tryd.prog 29 #[ptr p, .string s] w fun e w' => ∃ F', e = .returned (.int .i64 e2) ∧ DK w' p F' d2 ∧ Ext F w w' F') :=
  Lib.hid fun w p F hk => by
    have := H.remove w p F d s hk hg hs
    rwa [h] at this
theorem prename_of (H : DiskSays DK) {d d2 : AD} {s t : ByteArray} {e2 : Int} (hg : Good d) (hs : s.size ≤ 281474976710656) (ht : t.size ≤ 281474976710656) (h : d.renameR s t = (d2, e2)) : Hid (∀ w p F, DK w p F d → Calls Tryd.prog 28 #[ptr p, .string s, .string t] w fun e w' => ∃ F', e = .returned (.int .i64 e2) ∧ DK w' p F' d2 ∧ Ext F w w' F') :=
  Lib.hid fun w p F hk => by
    have := H.rename w p F d s t hk hg hs ht
    rwa [h] at this
theorem pexpel_of (H : DiskSays DK) {d d2 : AD} {s : ByteArray} {e2 : Int} (hg : Good d) (hs : s.size ≤ 281474976710656) (h : d.expelR s = (d2, e2)) : Hid (∀ w p F, DK w p F d → Calls Tryd.prog 33 #[ptr p, .string s] w fun e w' => ∃ F', e = .returned (.int .i64 e2) ∧ DK w' p F' d2 ∧ Ext F w w' F') :=
  Lib.hid fun w p F hk => by
    have := pexpel_any H w p F d s hk hg hs
    rwa [h] at this
theorem pfirst_of (H : DiskSays DK) {d : AD} {n : Int} {u : ByteArray} (hg : Good d) (hu : firstI d n = u) : Hid (∀ w p F, DK w p F d → Pow w → Calls Tryd.prog 25 #[ptr p, .int .i64 n] w fun e w' => e = .returned (.string u) ∧ Below w.heap.size w w') :=
  Lib.hid fun w p F h hp => by rw [← hu]; exact pfirst_any H w p F d n h hg hp
set_option maxRecDepth 8000 in
theorem pspare_any (H : DiskSays DK) (W0 w : World) (p : Addr) (F : Nat → Bool) (d : AD) (h : DK w p F d) (hg : Good d) (hp : Pow W0) (hx0 : Ext (fun _ => false) W0 w F) :
    Calls Tryd.prog 12 #[ptr p] w fun e w' => ∃ F', e = .returned (.int .i64 d.spareR.2) ∧ DK w' p F' d.spareR.1 ∧ Ext F w w' F' := by
  have hH := Lib.hid H
  have HG := Lib.hid hg
  have HS := Lib.hid (⟨h, Ext.refl F w, hx0, hp⟩ : OPn DK W0 F w p F d w)
  clear h hp hx0
  unfold AD.spareR
  by_cases hd : d.down = true
  · rw [if_pos hd]
    have HRD := pready_of H hg hd
    clear hd hg
    go_enter Tryd.func12, Tryd.ntmps12
    go_wp2_with (first
      | (go_at_call 24; (with_reducible refine (HRD.out _ _ _ HS.out.dk).mono ?_); rintro e w1 ⟨rfl, hb⟩; have HS1 := Lib.hid (HS.out.next hH.out hb); clear hb))
    go_ret
    exact ⟨F, rfl, HS1.out.dk, HS1.out.ex⟩
  rw [if_neg hd]
  rw [Bool.not_eq_true] at hd
  have HRD := pready_of H hg hd
  clear hd
  have HPN : Hid (∀ w, Pow w → Calls Tryd.prog 32 #[.int .i64 0] w fun e w' => e = .returned (.string fr0) ∧ Below w.heap.size w w') := Lib.hid fun w hw => pool_name 0 (by omega) w hw
  obtain ⟨x, hx⟩ : ∃ x, szI d fr0 = x := ⟨_, rfl⟩
  have HZ := psize_of H hg (by decide) hx
  rw [hx]
  clear hx
  by_cases h17 : x = 17
  · subst h17
    rw [if_pos rfl]
    go_enter Tryd.func12, Tryd.ntmps12
    go_wp2_with (first
      | (go_at_call 24; (with_reducible refine (HRD.out _ _ _ HS.out.dk).mono ?_); rintro e w1 ⟨rfl, hb⟩; have HS1 := Lib.hid (HS.out.next hH.out hb); clear hb)
      | (go_at_call 32; (with_reducible refine (HPN.out _ HS1.out.pow).mono ?_); rintro e w2 ⟨rfl, hb⟩; have HS2 := Lib.hid (HS1.out.next hH.out hb); clear hb)
      | (go_at_call 22; (with_reducible refine (HZ.out _ _ _ HS2.out.dk).mono ?_); rintro e w3 ⟨rfl, hb⟩; have HS3 := Lib.hid (HS2.out.next hH.out hb); clear hb))
    go_ret
    exact ⟨F, rfl, HS3.out.dk, HS3.out.ex⟩
  rw [if_neg h17]
  obtain ⟨⟨d2, e2⟩, hr⟩ : ∃ r, d.expelR fr0 = r := ⟨_, rfl⟩
  have HE := pexpel_of H hg (by decide) hr
  have hg2 : Good d2 := by have := hg.expel fr0; rwa [hr] at this
  rw [hr]
  clear hr
  have b17 : (x == 17) = false := by simpa using h17
  by_cases he : e2 = 0
  · subst he
    rw [if_pos rfl]
    obtain ⟨⟨d3, e3⟩, hr⟩ : ∃ r, d2.makeR fr0 17 = r := ⟨_, rfl⟩
    have HM := pmake_of H hg2 (by decide) hr
    rw [hr]
    clear hr
    go_enter Tryd.func12, Tryd.ntmps12
    go_wp2_with (first
      | (go_at_call 24; (with_reducible refine (HRD.out _ _ _ HS.out.dk).mono ?_); rintro e w1 ⟨rfl, hb⟩; have HS1 := Lib.hid (HS.out.next hH.out hb); clear hb)
      | (go_at_call 32; (with_reducible refine (HPN.out _ HS1.out.pow).mono ?_); rintro e w2 ⟨rfl, hb⟩; have HS2 := Lib.hid (HS1.out.next hH.out hb); clear hb)
      | (go_at_call 22; (with_reducible refine (HZ.out _ _ _ HS2.out.dk).mono ?_); rintro e w3 ⟨rfl, hb⟩; have HS3 := Lib.hid (HS2.out.next hH.out hb); clear hb)
      | (go_at_call 33; (with_reducible refine (HE.out _ _ _ HS3.out.dk).mono ?_); rintro e w4 ⟨F4, rfl, hk, hx⟩; have HS4 := Lib.hid (HS3.out.op hk hx); clear hk hx)
      | (go_at_call 16; (with_reducible refine (HM.out _ _ _ HS4.out.dk).mono ?_); rintro e w5 ⟨F5, rfl, hk, hx⟩; have HS5 := Lib.hid (HS4.out.op hk hx); clear hk hx))
    go_ret
    exact ⟨F5, rfl, HS5.out.dk, HS5.out.ex⟩
  · rw [if_neg (show ¬ (d2, e2).2 = 0 from he)]
    have b0 : (e2 == 0) = false := by simpa using he
    go_enter Tryd.func12, Tryd.ntmps12
    go_wp2_with (first
      | (go_at_call 24; (with_reducible refine (HRD.out _ _ _ HS.out.dk).mono ?_); rintro e w1 ⟨rfl, hb⟩; have HS1 := Lib.hid (HS.out.next hH.out hb); clear hb)
      | (go_at_call 32; (with_reducible refine (HPN.out _ HS1.out.pow).mono ?_); rintro e w2 ⟨rfl, hb⟩; have HS2 := Lib.hid (HS1.out.next hH.out hb); clear hb)
      | (go_at_call 22; (with_reducible refine (HZ.out _ _ _ HS2.out.dk).mono ?_); rintro e w3 ⟨rfl, hb⟩; have HS3 := Lib.hid (HS2.out.next hH.out hb); clear hb)
      | (go_at_call 33; (with_reducible refine (HE.out _ _ _ HS3.out.dk).mono ?_); rintro e w4 ⟨F4, rfl, hk, hx⟩; have HS4 := Lib.hid (HS3.out.op hk hx); clear hk hx))
    go_ret
    exact ⟨F4, rfl, HS4.out.dk, HS4.out.ex⟩
set_option maxRecDepth 8000 in
theorem ptake_any (H : DiskSays DK) (W0 w : World) (p : Addr) (F : Nat → Bool) (d : AD) (h : DK w p F d) (hg : Good d) (hp : Pow W0) (hx0 : Ext (fun _ => false) W0 w F) :
    Calls Tryd.prog 8 #[ptr p] w fun e w' => ∃ F', e = .returned (.tuple #[.string d.takeR.2.1, .int .i64 d.takeR.2.2]) ∧ DK w' p F' d.takeR.1 ∧ Ext F w w' F' := by
  have hH := Lib.hid H
  have HG := Lib.hid hg
  have HS := Lib.hid (⟨h, Ext.refl F w, hx0, hp⟩ : OPn DK W0 F w p F d w)
  clear h hp hx0
  unfold AD.takeR
  by_cases hd : d.down = true
  · rw [if_pos hd]
    have HRD := pready_of H hg hd
    clear hd hg
    go_enter Tryd.func8, Tryd.ntmps8
    go_wp2_with (first
      | (go_at_call 24; (with_reducible refine (HRD.out _ _ _ HS.out.dk).mono ?_); rintro e w1 ⟨rfl, hb⟩; have HS1 := Lib.hid (HS.out.next hH.out hb); clear hb))
    go_ret2
    exact ⟨F, rfl, HS1.out.dk, HS1.out.ex⟩
  rw [if_neg hd]
  rw [Bool.not_eq_true] at hd
  have HRD := pready_of H hg hd
  clear hd
  obtain ⟨u, hu⟩ : ∃ u, firstI d 17 = u := ⟨_, rfl⟩
  have HF1 := pfirst_of H hg hu
  have hu3 : u = noS ∨ u = fr1 ∨ u = fr2 := by rw [← hu]; exact first_or d 17
  obtain ⟨v, hv⟩ : ∃ v, firstI d 0 = v := ⟨_, rfl⟩
  have HF2 := pfirst_of H hg hv
  have hv3 : v = noS ∨ v = fr1 ∨ v = fr2 := by rw [← hv]; exact first_or d 0
  rw [hu, hv]
  clear hu hv
  by_cases hu0 : u = noS
  · subst hu0
    rw [if_neg (by simp)]
    by_cases hv0 : v = noS
    · subst hv0
      rw [if_pos rfl]
      clear hu3 hv3
      go_enter Tryd.func8, Tryd.ntmps8
      go_wp2_with (first
        | (go_at_call 24; (with_reducible refine (HRD.out _ _ _ HS.out.dk).mono ?_); rintro e w1 ⟨rfl, hb⟩; have HS1 := Lib.hid (HS.out.next hH.out hb); clear hb)
        | (go_at_call 25; (with_reducible refine (HF1.out _ _ _ HS1.out.dk HS1.out.pow).mono ?_); rintro e w2 ⟨rfl, hb⟩; have HS2 := Lib.hid (HS1.out.next hH.out hb); clear hb)
        | (go_at_call 25; (with_reducible refine (HF2.out _ _ _ HS2.out.dk HS2.out.pow).mono ?_); rintro e w3 ⟨rfl, hb⟩; have HS3 := Lib.hid (HS2.out.next hH.out hb); clear hb))
      go_ret2
      exact ⟨F, rfl, HS3.out.dk, HS3.out.ex⟩
    rw [if_neg hv0]
    obtain ⟨⟨d2, e2⟩, hr⟩ : ∃ r, d.makeR v 17 = r := ⟨_, rfl⟩
    have HM := pmake_of H hg (by rcases hv3 with rfl | rfl | rfl <;> decide) hr
    rw [hr]
    clear hr hu3
    have hvv : v = fr1 ∨ v = fr2 := hv3.resolve_left hv0
    clear hv3 hv0
    by_cases he : e2 = 0
    · subst he
      rw [if_pos rfl]
      rcases hvv with rfl | rfl
      · skip
        go_enter Tryd.func8, Tryd.ntmps8
        go_wp2_with (first
          | (go_at_call 24; (with_reducible refine (HRD.out _ _ _ HS.out.dk).mono ?_); rintro e w1 ⟨rfl, hb⟩; have HS1 := Lib.hid (HS.out.next hH.out hb); clear hb)
          | (go_at_call 25; (with_reducible refine (HF1.out _ _ _ HS1.out.dk HS1.out.pow).mono ?_); rintro e w2 ⟨rfl, hb⟩; have HS2 := Lib.hid (HS1.out.next hH.out hb); clear hb)
          | (go_at_call 25; (with_reducible refine (HF2.out _ _ _ HS2.out.dk HS2.out.pow).mono ?_); rintro e w3 ⟨rfl, hb⟩; have HS3 := Lib.hid (HS2.out.next hH.out hb); clear hb)
          | (go_at_call 16; (with_reducible refine (HM.out _ _ _ HS3.out.dk).mono ?_); rintro e w4 ⟨F4, rfl, hk, hx⟩; have HS4 := Lib.hid (HS3.out.op hk hx); clear hk hx))
        go_ret2
        exact ⟨F4, rfl, HS4.out.dk, HS4.out.ex⟩
      · skip
        go_enter Tryd.func8, Tryd.ntmps8
        go_wp2_with (first
          | (go_at_call 24; (with_reducible refine (HRD.out _ _ _ HS.out.dk).mono ?_); rintro e w1 ⟨rfl, hb⟩; have HS1 := Lib.hid (HS.out.next hH.out hb); clear hb)
          | (go_at_call 25; (with_reducible refine (HF1.out _ _ _ HS1.out.dk HS1.out.pow).mono ?_); rintro e w2 ⟨rfl, hb⟩; have HS2 := Lib.hid (HS1.out.next hH.out hb); clear hb)
          | (go_at_call 25; (with_reducible refine (HF2.out _ _ _ HS2.out.dk HS2.out.pow).mono ?_); rintro e w3 ⟨rfl, hb⟩; have HS3 := Lib.hid (HS2.out.next hH.out hb); clear hb)
          | (go_at_call 16; (with_reducible refine (HM.out _ _ _ HS3.out.dk).mono ?_); rintro e w4 ⟨F4, rfl, hk, hx⟩; have HS4 := Lib.hid (HS3.out.op hk hx); clear hk hx))
        go_ret2
        exact ⟨F4, rfl, HS4.out.dk, HS4.out.ex⟩
    · rw [if_neg (show ¬ (d2, e2).2 = 0 from he)]
      have b0 : (e2 == 0) = false := by simpa using he
      rcases hvv with rfl | rfl
      · skip
        go_enter Tryd.func8, Tryd.ntmps8
        go_wp2_with (first
          | (go_at_call 24; (with_reducible refine (HRD.out _ _ _ HS.out.dk).mono ?_); rintro e w1 ⟨rfl, hb⟩; have HS1 := Lib.hid (HS.out.next hH.out hb); clear hb)
          | (go_at_call 25; (with_reducible refine (HF1.out _ _ _ HS1.out.dk HS1.out.pow).mono ?_); rintro e w2 ⟨rfl, hb⟩; have HS2 := Lib.hid (HS1.out.next hH.out hb); clear hb)
          | (go_at_call 25; (with_reducible refine (HF2.out _ _ _ HS2.out.dk HS2.out.pow).mono ?_); rintro e w3 ⟨rfl, hb⟩; have HS3 := Lib.hid (HS2.out.next hH.out hb); clear hb)
          | (go_at_call 16; (with_reducible refine (HM.out _ _ _ HS3.out.dk).mono ?_); rintro e w4 ⟨F4, rfl, hk, hx⟩; have HS4 := Lib.hid (HS3.out.op hk hx); clear hk hx))
        go_ret2
        exact ⟨F4, rfl, HS4.out.dk, HS4.out.ex⟩
      · skip
        go_enter Tryd.func8, Tryd.ntmps8
        go_wp2_with (first
          | (go_at_call 24; (with_reducible refine (HRD.out _ _ _ HS.out.dk).mono ?_); rintro e w1 ⟨rfl, hb⟩; have HS1 := Lib.hid (HS.out.next hH.out hb); clear hb)
          | (go_at_call 25; (with_reducible refine (HF1.out _ _ _ HS1.out.dk HS1.out.pow).mono ?_); rintro e w2 ⟨rfl, hb⟩; have HS2 := Lib.hid (HS1.out.next hH.out hb); clear hb)
          | (go_at_call 25; (with_reducible refine (HF2.out _ _ _ HS2.out.dk HS2.out.pow).mono ?_); rintro e w3 ⟨rfl, hb⟩; have HS3 := Lib.hid (HS2.out.next hH.out hb); clear hb)
          | (go_at_call 16; (with_reducible refine (HM.out _ _ _ HS3.out.dk).mono ?_); rintro e w4 ⟨F4, rfl, hk, hx⟩; have HS4 := Lib.hid (HS3.out.op hk hx); clear hk hx))
        go_ret2
        exact ⟨F4, rfl, HS4.out.dk, HS4.out.ex⟩
  rw [if_pos hu0]
  have huu : u = fr1 ∨ u = fr2 := hu3.resolve_left hu0
  clear hv3 hu3 hu0 HF2
  rcases huu with rfl | rfl
  · skip
    go_enter Tryd.func8, Tryd.ntmps8
    go_wp2_with (first
      | (go_at_call 24; (with_reducible refine (HRD.out _ _ _ HS.out.dk).mono ?_); rintro e w1 ⟨rfl, hb⟩; have HS1 := Lib.hid (HS.out.next hH.out hb); clear hb)
      | (go_at_call 25; (with_reducible refine (HF1.out _ _ _ HS1.out.dk HS1.out.pow).mono ?_); rintro e w2 ⟨rfl, hb⟩; have HS2 := Lib.hid (HS1.out.next hH.out hb); clear hb))
    go_ret2
    exact ⟨F, rfl, HS2.out.dk, HS2.out.ex⟩
  · skip
    go_enter Tryd.func8, Tryd.ntmps8
    go_wp2_with (first
      | (go_at_call 24; (with_reducible refine (HRD.out _ _ _ HS.out.dk).mono ?_); rintro e w1 ⟨rfl, hb⟩; have HS1 := Lib.hid (HS.out.next hH.out hb); clear hb)
      | (go_at_call 25; (with_reducible refine (HF1.out _ _ _ HS1.out.dk HS1.out.pow).mono ?_); rintro e w2 ⟨rfl, hb⟩; have HS2 := Lib.hid (HS1.out.next hH.out hb); clear hb))
    go_ret2
    exact ⟨F, rfl, HS2.out.dk, HS2.out.ex⟩
set_option maxRecDepth 8000 in
theorem pgive_any (H : DiskSays DK) (W0 w : World) (p : Addr) (F : Nat → Bool) (d : AD) (s : ByteArray) (h : DK w p F d) (hg : Good d) (hp : Pow W0) (hx0 : Ext (fun _ => false) W0 w F) (hs : s.size ≤ 281474976710656) :
    Calls Tryd.prog 10 #[ptr p, .string s] w fun e w' => ∃ F', e = .returned (.int .i64 (d.giveR s).2) ∧ DK w' p F' (d.giveR s).1 ∧ Ext F w w' F' := by
  have hH := Lib.hid H
  have HG := Lib.hid hg
  have HS := Lib.hid (⟨h, Ext.refl F w, hx0, hp⟩ : OPn DK W0 F w p F d w)
  clear h hp hx0
  unfold AD.giveR
  by_cases hd : d.down = true
  · rw [if_pos hd]
    have HRD := pready_of H hg hd
    clear hd hg
    go_enter Tryd.func10, Tryd.ntmps10
    go_wp2_with (first
      | (go_at_call 24; (with_reducible refine (HRD.out _ _ _ HS.out.dk).mono ?_); rintro e w1 ⟨rfl, hb⟩; have HS1 := Lib.hid (HS.out.next hH.out hb); clear hb))
    go_ret
    exact ⟨F, rfl, HS1.out.dk, HS1.out.ex⟩
  rw [if_neg hd]
  rw [Bool.not_eq_true] at hd
  have HRD := pready_of H hg hd
  clear hd
  obtain ⟨x, hx⟩ : ∃ x, szI d s = x := ⟨_, rfl⟩
  have HZ := psize_of H hg hs hx
  rw [hx]
  clear hx
  by_cases h0 : x = 0
  · subst h0
    rw [if_pos rfl]
    go_enter Tryd.func10, Tryd.ntmps10
    go_wp2_with (first
      | (go_at_call 24; (with_reducible refine (HRD.out _ _ _ HS.out.dk).mono ?_); rintro e w1 ⟨rfl, hb⟩; have HS1 := Lib.hid (HS.out.next hH.out hb); clear hb)
      | (go_at_call 22; (with_reducible refine (HZ.out _ _ _ HS1.out.dk).mono ?_); rintro e w2 ⟨rfl, hb⟩; have HS2 := Lib.hid (HS1.out.next hH.out hb); clear hb))
    go_ret
    exact ⟨F, rfl, HS2.out.dk, HS2.out.ex⟩
  rw [if_neg h0]
  have b0 : (x == 0) = false := by simpa using h0
  obtain ⟨v, hv⟩ : ∃ v, firstI d 0 = v := ⟨_, rfl⟩
  have HF := pfirst_of H hg hv
  have hv3 : v = noS ∨ v = fr1 ∨ v = fr2 := by rw [← hv]; exact first_or d 0
  rw [hv]
  clear hv
  obtain ⟨⟨d2, e2⟩, hr⟩ : ∃ r, d.removeR s = r := ⟨_, rfl⟩
  have HM := premove_of H hg hs hr
  rw [hr]
  clear hr
  have g2 := first_size d 0
  by_cases h17 : x = 17
  · subst h17
    by_cases hv0 : v = noS
    · subst hv0
      rw [if_neg (by simp)]
      clear hv3
      go_enter Tryd.func10, Tryd.ntmps10
      go_wp2_with (first
        | (go_at_call 24; (with_reducible refine (HRD.out _ _ _ HS.out.dk).mono ?_); rintro e w1 ⟨rfl, hb⟩; have HS1 := Lib.hid (HS.out.next hH.out hb); clear hb)
        | (go_at_call 22; (with_reducible refine (HZ.out _ _ _ HS1.out.dk).mono ?_); rintro e w2 ⟨rfl, hb⟩; have HS2 := Lib.hid (HS1.out.next hH.out hb); clear hb)
        | (go_at_call 25; (with_reducible refine (HF.out _ _ _ HS2.out.dk HS2.out.pow).mono ?_); rintro e w3 ⟨rfl, hb⟩; have HS3 := Lib.hid (HS2.out.next hH.out hb); clear hb)
        | (go_at_call 29; (with_reducible refine (HM.out _ _ _ HS3.out.dk).mono ?_); rintro e w4 ⟨F4, rfl, hk, hx⟩; have HS4 := Lib.hid (HS3.out.op hk hx); clear hk hx))
      go_ret
      exact ⟨F4, rfl, HS4.out.dk, HS4.out.ex⟩
    rw [if_pos ⟨rfl, hv0⟩]
    obtain ⟨⟨d3, e3⟩, hr⟩ : ∃ r, d.renameR s v = r := ⟨_, rfl⟩
    have HN := prename_of H hg hs (by rcases hv3 with rfl | rfl | rfl <;> decide) hr
    rw [hr]
    clear hr HM
    have hvv : v = fr1 ∨ v = fr2 := hv3.resolve_left hv0
    clear hv3 hv0
    rcases hvv with rfl | rfl
    · skip
      go_enter Tryd.func10, Tryd.ntmps10
      go_wp2_with (first
        | (go_at_call 24; (with_reducible refine (HRD.out _ _ _ HS.out.dk).mono ?_); rintro e w1 ⟨rfl, hb⟩; have HS1 := Lib.hid (HS.out.next hH.out hb); clear hb)
        | (go_at_call 22; (with_reducible refine (HZ.out _ _ _ HS1.out.dk).mono ?_); rintro e w2 ⟨rfl, hb⟩; have HS2 := Lib.hid (HS1.out.next hH.out hb); clear hb)
        | (go_at_call 25; (with_reducible refine (HF.out _ _ _ HS2.out.dk HS2.out.pow).mono ?_); rintro e w3 ⟨rfl, hb⟩; have HS3 := Lib.hid (HS2.out.next hH.out hb); clear hb)
        | (go_at_call 28; (with_reducible refine (HN.out _ _ _ HS3.out.dk).mono ?_); rintro e w4 ⟨F4, rfl, hk, hx⟩; have HS4 := Lib.hid (HS3.out.op hk hx); clear hk hx))
      go_ret
      exact ⟨F4, rfl, HS4.out.dk, HS4.out.ex⟩
    · skip
      go_enter Tryd.func10, Tryd.ntmps10
      go_wp2_with (first
        | (go_at_call 24; (with_reducible refine (HRD.out _ _ _ HS.out.dk).mono ?_); rintro e w1 ⟨rfl, hb⟩; have HS1 := Lib.hid (HS.out.next hH.out hb); clear hb)
        | (go_at_call 22; (with_reducible refine (HZ.out _ _ _ HS1.out.dk).mono ?_); rintro e w2 ⟨rfl, hb⟩; have HS2 := Lib.hid (HS1.out.next hH.out hb); clear hb)
        | (go_at_call 25; (with_reducible refine (HF.out _ _ _ HS2.out.dk HS2.out.pow).mono ?_); rintro e w3 ⟨rfl, hb⟩; have HS3 := Lib.hid (HS2.out.next hH.out hb); clear hb)
        | (go_at_call 28; (with_reducible refine (HN.out _ _ _ HS3.out.dk).mono ?_); rintro e w4 ⟨F4, rfl, hk, hx⟩; have HS4 := Lib.hid (HS3.out.op hk hx); clear hk hx))
      go_ret
      exact ⟨F4, rfl, HS4.out.dk, HS4.out.ex⟩
  rw [if_neg (fun e => h17 e.1)]
  have b17 : (x == 17) = false := by simpa using h17
  clear g2
  rcases hv3 with rfl | rfl | rfl
  · skip
    go_enter Tryd.func10, Tryd.ntmps10
    go_wp2_with (first
      | (go_at_call 24; (with_reducible refine (HRD.out _ _ _ HS.out.dk).mono ?_); rintro e w1 ⟨rfl, hb⟩; have HS1 := Lib.hid (HS.out.next hH.out hb); clear hb)
      | (go_at_call 22; (with_reducible refine (HZ.out _ _ _ HS1.out.dk).mono ?_); rintro e w2 ⟨rfl, hb⟩; have HS2 := Lib.hid (HS1.out.next hH.out hb); clear hb)
      | (go_at_call 25; (with_reducible refine (HF.out _ _ _ HS2.out.dk HS2.out.pow).mono ?_); rintro e w3 ⟨rfl, hb⟩; have HS3 := Lib.hid (HS2.out.next hH.out hb); clear hb)
      | (go_at_call 29; (with_reducible refine (HM.out _ _ _ HS3.out.dk).mono ?_); rintro e w4 ⟨F4, rfl, hk, hx⟩; have HS4 := Lib.hid (HS3.out.op hk hx); clear hk hx))
    go_ret
    exact ⟨F4, rfl, HS4.out.dk, HS4.out.ex⟩
  · skip
    go_enter Tryd.func10, Tryd.ntmps10
    go_wp2_with (first
      | (go_at_call 24; (with_reducible refine (HRD.out _ _ _ HS.out.dk).mono ?_); rintro e w1 ⟨rfl, hb⟩; have HS1 := Lib.hid (HS.out.next hH.out hb); clear hb)
      | (go_at_call 22; (with_reducible refine (HZ.out _ _ _ HS1.out.dk).mono ?_); rintro e w2 ⟨rfl, hb⟩; have HS2 := Lib.hid (HS1.out.next hH.out hb); clear hb)
      | (go_at_call 25; (with_reducible refine (HF.out _ _ _ HS2.out.dk HS2.out.pow).mono ?_); rintro e w3 ⟨rfl, hb⟩; have HS3 := Lib.hid (HS2.out.next hH.out hb); clear hb)
      | (go_at_call 29; (with_reducible refine (HM.out _ _ _ HS3.out.dk).mono ?_); rintro e w4 ⟨F4, rfl, hk, hx⟩; have HS4 := Lib.hid (HS3.out.op hk hx); clear hk hx))
    go_ret
    exact ⟨F4, rfl, HS4.out.dk, HS4.out.ex⟩
  · skip
    go_enter Tryd.func10, Tryd.ntmps10
    go_wp2_with (first
      | (go_at_call 24; (with_reducible refine (HRD.out _ _ _ HS.out.dk).mono ?_); rintro e w1 ⟨rfl, hb⟩; have HS1 := Lib.hid (HS.out.next hH.out hb); clear hb)
      | (go_at_call 22; (with_reducible refine (HZ.out _ _ _ HS1.out.dk).mono ?_); rintro e w2 ⟨rfl, hb⟩; have HS2 := Lib.hid (HS1.out.next hH.out hb); clear hb)
      | (go_at_call 25; (with_reducible refine (HF.out _ _ _ HS2.out.dk HS2.out.pow).mono ?_); rintro e w3 ⟨rfl, hb⟩; have HS3 := Lib.hid (HS2.out.next hH.out hb); clear hb)
      | (go_at_call 29; (with_reducible refine (HM.out _ _ _ HS3.out.dk).mono ?_); rintro e w4 ⟨F4, rfl, hk, hx⟩; have HS4 := Lib.hid (HS3.out.op hk hx); clear hk hx))
    go_ret
    exact ⟨F4, rfl, HS4.out.dk, HS4.out.ex⟩
set_option maxRecDepth 8000 in
theorem pclean_any (H : DiskSays DK) (W0 w : World) (p : Addr) (F : Nat → Bool) (d : AD) (h : DK w p F d) (hg : Good d) (hp : Pow W0) (hx0 : Ext (fun _ => false) W0 w F) :
    Calls Tryd.prog 14 #[ptr p] w fun e w' => ∃ F', e = .returned (.int .i64 d.cleanR.2) ∧ DK w' p F' d.cleanR.1 ∧ Ext F w w' F' := by
  have hH := Lib.hid H
  have HG := Lib.hid hg
  have HS := Lib.hid (⟨h, Ext.refl F w, hx0, hp⟩ : OPn DK W0 F w p F d w)
  clear h hp hx0
  unfold AD.cleanR
  by_cases hd : d.down = true
  · rw [if_pos hd]
    have HRD := pready_of H hg hd
    clear hd hg
    go_enter Tryd.func14, Tryd.ntmps14
    go_wp2_with (first
      | (go_at_call 24; (with_reducible refine (HRD.out _ _ _ HS.out.dk).mono ?_); rintro e w1 ⟨rfl, hb⟩; have HS1 := Lib.hid (HS.out.next hH.out hb); clear hb))
    go_ret
    exact ⟨F, rfl, HS1.out.dk, HS1.out.ex⟩
  rw [if_neg hd]
  rw [Bool.not_eq_true] at hd
  have HRD := pready_of H hg hd
  clear hd
  go_enter Tryd.func14, Tryd.ntmps14
  go_wp2_with (first | (go_at_call 24; (with_reducible refine (HRD.out _ _ _ HS.out.dk).mono ?_); rintro e w1 ⟨rfl, hb⟩; have HS1 := Lib.hid (HS.out.next hH.out hb); clear hb))
  go_loopw [11] (fun iv wr => ∃ (i : Nat) (dk : AD) (F1 : Nat → Bool), iv = .int .i64 i ∧ i ≤ 3 ∧ Hid (d.cleanK i = (dk, 0)) ∧ Hid (OPn DK W0 F w p F1 dk wr)) (fun iv _ => 3 - (intOf iv).toNat)
  case atStart => exact ⟨0, d, F, rfl, by omega, Lib.hid rfl, HS1⟩
  case round =>
    obtain ⟨i, dk, F1, rfl, hi, HK, HC⟩ := hrel
    by_cases hlt : (i : Int) < 3
    · have hgk : Good dk := by have := HG.out.cleanK i; rwa [HK.out] at this
      obtain ⟨⟨d2, e2⟩, hr⟩ : ∃ r, dk.expelR (frN i) = r := ⟨_, rfl⟩
      have HE := pexpel_of hH.out hgk (frN_size i) hr
      have HN : Hid (d.cleanK (i + 1) = (d2, e2)) := Lib.hid (by rw [cleanK_step (by rw [HK.out]), HK.out]; exact hr)
      have HPN : Hid (∀ w, Pow w → Calls Tryd.prog 32 #[.int .i64 (i : Int)] w fun e w' => e = .returned (.string (frN i)) ∧ Below w.heap.size w w') := Lib.hid fun w hw => pool_name i (by omega) w hw
      clear hr hgk
      by_cases he : e2 = 0
      · subst he
        go_wp2_with (first
          | (go_at_call 32; (with_reducible refine (HPN.out _ HC.out.pow).mono ?_); rintro e w2 ⟨rfl, hb⟩; have HC2 := Lib.hid (HC.out.next hH.out hb); clear hb)
          | (go_at_call 33; (with_reducible refine (HE.out _ _ _ HC2.out.dk).mono ?_); rintro e w3 ⟨F3, rfl, hk, hx⟩; have HC3 := Lib.hid (HC2.out.op hk hx); clear hk hx))
        exact ⟨⟨i + 1, d2, F3, by go_num, by omega, HN, HC3⟩, by simp [intOf]; omega⟩
      · have b0 : (e2 == 0) = false := by simpa using he
        have HE3 : Hid (d.cleanK 3 = (d2, e2)) := Lib.hid (by rw [cleanK_fails (k := i + 1) (by rw [HN.out]; exact he) 3 (by omega), HN.out])
        go_wp2_with (first
          | (go_at_call 32; (with_reducible refine (HPN.out _ HC.out.pow).mono ?_); rintro e w2 ⟨rfl, hb⟩; have HC2 := Lib.hid (HC.out.next hH.out hb); clear hb)
          | (go_at_call 33; (with_reducible refine (HE.out _ _ _ HC2.out.dk).mono ?_); rintro e w3 ⟨F3, rfl, hk, hx⟩; have HC3 := Lib.hid (HC2.out.op hk hx); clear hk hx))
        go_ret
        rw [HE3.out]
        exact ⟨F3, rfl, HC3.out.dk, HC3.out.ex⟩
    · have hq : i = 3 := by omega
      subst hq
      go_wp2_with fail
      go_ret
      rw [HK.out]
      first | exact ⟨F1, rfl, HC.out.dk, HC.out.ex⟩ | exact ⟨rfl, F1, HC.out.dk, HC.out.ex⟩
end Go.Proofs.YtoempaagpgoilaaDoor
/-
  WHAT THE DOCUMENT'S ANSWERS OF LAYER 21 (pool) ANSWER: the reference's size, Count, Unused, Spare, Clean, Take, Give.
-/
namespace Go.Proofs.YtoempaagpgoilaaDoor
open Go.RowKit
set_option maxRecDepth 8000 in
set_option maxHeartbeats 1000000 in
theorem rsize_any (vd : Value) (d : AD) (s : ByteArray) (w : World) (h : RD w vd d) :
    Calls Tryd.prog 26 #[vd, .string s] w fun e w' => e = .returned (.int .i64 (szI d s)) ∧ Below w.heap.size w w' := by
  obtain ⟨a, n, cap, rfl, hn, hc1, hc2⟩ := h.agg
  have HR := Lib.hid h
  obtain ⟨W0, hW0⟩ : ∃ W0, w.alloc (.cells #[.slice a n cap, .int .i64 d.cap, .int .i64 d.ops, .bool d.down, .bool d.told, .int .i64 d.after] 28) = W0 := ⟨_, rfl⟩
  have hb : Below w.heap.size w W0 := by rw [← hW0]; exact below_alloc w _
  have HD0 : Hid (DB W0 w.heap.size #[.slice a n cap, .int .i64 d.cap, .int .i64 d.ops, .bool d.down, .bool d.told, .int .i64 d.after]) := by rw [← hW0]; exact Lib.hid ⟨heap_alloc_last w _, rfl⟩
  have HB0 := Lib.hid hb
  obtain ⟨i, hi⟩ : ∃ i, findI d.L s = i := ⟨_, rfl⟩
  have HFD := Lib.hid fun W (hw : RD W (.agg #[.slice a n cap, .int .i64 d.cap, .int .i64 d.ops, .bool d.down, .bool d.told, .int .i64 d.after]) d) => rfind_any (.agg #[.slice a n cap, .int .i64 d.cap, .int .i64 d.ops, .bool d.down, .bool d.told, .int .i64 d.after]) d s W hw
  rw [hi] at HFD
  clear hb h
  unfold szI
  by_cases hh : d.has s
  · rw [if_pos hh]
    have hat := d.get_at s hh
    have hii : i = (idxN d.L s : Nat) := by rw [← hi]; unfold findI; exact if_pos hh
    obtain ⟨k, hk⟩ : ∃ k, idxN d.L s = k := ⟨_, rfl⟩
    rw [hk] at hii hat
    obtain ⟨f, hf⟩ : ∃ f, d.get s = f := ⟨_, rfl⟩
    rw [hf] at hat ⊢
    have hkn : k < n := by rw [← hn]; exact (List.getElem?_eq_some_iff.1 hat).1
    have HAT : Hid (∀ W, Below w.heap.size w W → ∃ b off v1 c v3, a = some ⟨b, off, none⟩ ∧ W.cell? ⟨b, off + k * 4, none⟩ = some (.string f.name) ∧ W.cell? ⟨b, off + k * 4 + 1, none⟩ = some v1 ∧ (∃ a2, W.cell? ⟨b, off + k * 4 + 2, none⟩ = some (.slice a2 f.n c)) ∧ W.cell? ⟨b, off + k * 4 + 3, none⟩ = some v3) := Lib.hid fun W hb => by
      obtain ⟨b, off, v1, v2, v3, h1, h2, h3, h4, h5, _, h6, _⟩ := (HR.out.fls.kin (Kin.below hb)).at_ k f hat
      obtain ⟨a2, c2, rfl, _⟩ := h6
      exact ⟨b, off, v1, c2, v3, h1, h2, h3, ⟨a2, h4⟩, h5⟩
    subst hii
    clear hi hat hf hk hh
    go_enter Tryd.func26, Tryd.ntmps26
    go_wp2_with (first
      | (refine wpList_load_row rfl 28 _ rfl w.heap.size rfl _ _ (0, 0) _ HD0.out.1 Tryd.underlying28 rfl HD0.out.info ?_)
      | (go_at_call 38; (with_reducible refine (HFD.out _ (HR.out.kin (Kin.below HB0.out))).mono ?_); rintro e w3 ⟨rfl, hb⟩; have HB3 := Lib.hid (chain HB0.out hb); have HD3 := HD0.out.below hb (Array.getElem?_eq_some_iff.1 HD0.out.1).1; obtain ⟨z0, z1, z2, z3, z4, z5⟩ := HD3.six; obtain ⟨b, off, v1, c, v3, rfl, y0, y1, ⟨a2, y2⟩, y3⟩ := HAT.out _ HB3.out; clear hb HD3))
    go_ret
    exact ⟨rfl, HB3.out⟩
  · rw [if_neg hh]
    have hi0 : i < 0 := by rw [← hi, AD.find_neg]; exact hh
    clear hi hh
    go_enter Tryd.func26, Tryd.ntmps26
    go_wp2_with (first
      | (refine wpList_load_row rfl 28 _ rfl w.heap.size rfl _ _ (0, 0) _ HD0.out.1 Tryd.underlying28 rfl HD0.out.info ?_)
      | (go_at_call 38; (with_reducible refine (HFD.out _ (HR.out.kin (Kin.below HB0.out))).mono ?_); rintro e w3 ⟨rfl, hb⟩; have HB3 := Lib.hid (chain HB0.out hb); clear hb))
    go_ret
    exact ⟨rfl, HB3.out⟩
/-- where a call stands that has the document's disk in a box, and makes no more than memory: w is where it began -/
structure BR (w : World) (cs : Array Value) (d : AD) (W : World) : Prop where
  below : Below w.heap.size w W
  d0 : DB W w.heap.size cs
  rd : RD W (.agg cs) d
theorem BR.next {w W W' : World} {cs : Array Value} {d : AD} (h : BR w cs d W) (hb : Below W.heap.size W W') : BR w cs d W' :=
  ⟨chain h.below hb, h.d0.below hb (Array.getElem?_eq_some_iff.1 h.d0.1).1, h.rd.kin (Kin.below hb)⟩
theorem BR.start {w : World} {cs : Array Value} {d : AD} (h6 : cs.size = 6) (h : RD w (.agg cs) d) : BR w cs d (w.alloc (.cells cs 28)) :=
  ⟨below_alloc w _, ⟨heap_alloc_last w _, h6⟩, h.kin (Kin.below (below_alloc w _))⟩
theorem rsize_of {d : AD} {s : ByteArray} {x : Int} (hx : szI d s = x) : Hid (∀ W v, RD W v d → Calls Tryd.prog 26 #[v, .string s] W fun e w' => e = .returned (.int .i64 x) ∧ Below W.heap.size W w') :=
  Lib.hid fun W v h => by rw [← hx]; exact rsize_any v d s W h
set_option maxRecDepth 8000 in
set_option maxHeartbeats 1000000 in
theorem rcount_any (vd : Value) (d : AD) (w : World) (h : RD w vd d) :
    Calls Tryd.prog 48 #[vd] w fun e w' => e = .returned (.int .i64 (countI d)) ∧ Below w.heap.size w w' := by
  obtain ⟨a, n, cap, rfl, hn, hc1, hc2⟩ := h.agg
  have HS0 := Lib.hid (BR.start rfl h)
  obtain ⟨x1, hx1⟩ : ∃ x, szI d fr1 = x := ⟨_, rfl⟩
  obtain ⟨x2, hx2⟩ : ∃ x, szI d fr2 = x := ⟨_, rfl⟩
  have H1 := rsize_of hx1
  have H2 := rsize_of hx2
  unfold countI
  rw [hx1, hx2]
  clear hx1 hx2 h
  by_cases h1 : x1 = 17 <;> by_cases h2 : x2 = 17
  all_goals
    simp only [h1, h2, if_true, if_false]
    go_enter Tryd.func48, Tryd.ntmps48
    go_wp2_with (first
      | (refine wpList_load_row rfl 28 _ rfl w.heap.size rfl _ _ (0, 0) _ HS1.out.d0.1 Tryd.underlying28 rfl HS1.out.d0.info ?_)
      | (refine wpList_load_row rfl 28 _ rfl w.heap.size rfl _ _ (0, 0) _ HS0.out.d0.1 Tryd.underlying28 rfl HS0.out.d0.info ?_)
      | (go_at_call 26; (with_reducible refine (H1.out _ _ HS0.out.rd).mono ?_); rintro e w1 ⟨rfl, hb⟩; have HS1 := Lib.hid (HS0.out.next hb); clear hb)
      | (go_at_call 26; (with_reducible refine (H2.out _ _ HS1.out.rd).mono ?_); rintro e w2 ⟨rfl, hb⟩; have HS2 := Lib.hid (HS1.out.next hb); clear hb))
    go_ret
    exact ⟨rfl, HS2.out.below⟩
set_option maxRecDepth 8000 in
set_option maxHeartbeats 1000000 in
theorem runused_any (vd : Value) (d : AD) (w : World) (h : RD w vd d) :
    Calls Tryd.prog 27 #[vd] w fun e w' => e = .returned (.string (firstI d 0)) ∧ Below w.heap.size w w' := by
  obtain ⟨a, n, cap, rfl, hn, hc1, hc2⟩ := h.agg
  have HS0 := Lib.hid (BR.start rfl h)
  obtain ⟨x1, hx1⟩ : ∃ x, szI d fr1 = x := ⟨_, rfl⟩
  obtain ⟨x2, hx2⟩ : ∃ x, szI d fr2 = x := ⟨_, rfl⟩
  have H1 := rsize_of hx1
  have H2 := rsize_of hx2
  unfold firstI
  rw [hx1, hx2]
  clear hx1 hx2 h
  by_cases h1 : x1 = 0
  · simp only [h1, if_true]
    go_enter Tryd.func27, Tryd.ntmps27
    go_wp2_with (first
      | (refine wpList_load_row rfl 28 _ rfl w.heap.size rfl _ _ (0, 0) _ HS0.out.d0.1 Tryd.underlying28 rfl HS0.out.d0.info ?_)
      | (go_at_call 26; (with_reducible refine (H1.out _ _ HS0.out.rd).mono ?_); rintro e w1 ⟨rfl, hb⟩; have HS1 := Lib.hid (HS0.out.next hb); clear hb))
    go_ret
    exact ⟨rfl, HS1.out.below⟩
  by_cases h2 : x2 = 0
  all_goals
    simp only [h1, h2, if_true, if_false]
    go_enter Tryd.func27, Tryd.ntmps27
    go_wp2_with (first
      | (refine wpList_load_row rfl 28 _ rfl w.heap.size rfl _ _ (0, 0) _ HS1.out.d0.1 Tryd.underlying28 rfl HS1.out.d0.info ?_)
      | (refine wpList_load_row rfl 28 _ rfl w.heap.size rfl _ _ (0, 0) _ HS0.out.d0.1 Tryd.underlying28 rfl HS0.out.d0.info ?_)
      | (go_at_call 26; (with_reducible refine (H1.out _ _ HS0.out.rd).mono ?_); rintro e w1 ⟨rfl, hb⟩; have HS1 := Lib.hid (HS0.out.next hb); clear hb)
      | (go_at_call 26; (with_reducible refine (H2.out _ _ HS1.out.rd).mono ?_); rintro e w2 ⟨rfl, hb⟩; have HS2 := Lib.hid (HS1.out.next hb); clear hb))
    go_ret
    exact ⟨rfl, HS2.out.below⟩
end Go.Proofs.YtoempaagpgoilaaDoor
/-
  WHAT THE DOCUMENT'S ANSWERS OF LAYER 21 (pool) ANSWER: the reference's Spare, Take, Give. Written by wip/gen/g36.py.
-/
namespace Go.Proofs.YtoempaagpgoilaaDoor
open Go.RowKit
/-- another disk is put into the box -/
theorem St.put {F : Nat → Bool} {w W : World} {cs cs' : Array Value} {d d' : AD} (h : St F w cs d W) (hr : RD (mask (boxF F w) W) (.agg cs') d') (h6 : cs'.size = 6) : St F w cs' d' (W.setRow w.heap.size cs') := by
  have hs : (W.setRow w.heap.size cs').heap.size = W.heap.size := by simp
  exact ⟨below_row h.below (Nat.le_refl _) _, by rw [hs]; exact h.size, h.d0.row h6, h.d1.over _ (by omega) _, by rw [hs]; exact h.foot, hr.kin ((Ext.refl (boxF F w) W).setRow _ (box_in0 F w) _).kin⟩
theorem rmake_of {d d2 : AD} {s : ByteArray} {e2 : Int} (hg : Good d) (hs : s.size ≤ 281474976710656) (h : d.makeR s 17 = (d2, e2)) : Hid (∀ F W v, Foot F W.heap.size → RD (mask F W) v d → Calls Tryd.prog 17 #[v, .string s, .int .i64 17] W fun e w' => ∃ v', e = .returned (.tuple #[v', .int .i64 e2]) ∧ RD (mask F w') v' d2 ∧ Below W.heap.size W w') :=
  Lib.hid fun F W v hF hr => by
    have h1 := hg.few
    have h2 := hg.used
    have h3 := hg.cap1
    have := rmake_any F v d s 17 W hF hr (by omega) (by omega) hs (by unfold I63; omega)
    rwa [h] at this
theorem rremove_of {d d2 : AD} {s : ByteArray} {e2 : Int} (hg : Good d) (h : d.removeR s = (d2, e2)) : Hid (∀ F W v, Foot F W.heap.size → RD (mask F W) v d → Calls Tryd.prog 30 #[v, .string s] W fun e w' => ∃ v', e = .returned (.tuple #[v', .int .i64 e2]) ∧ RD (mask F w') v' d2 ∧ Below W.heap.size W w') :=
  Lib.hid fun F W v hF hr => by
    have h1 := hg.few
    have := rremove_any F v d s W hF hr (by omega)
    rwa [h] at this
theorem rrename_of {d d2 : AD} {s t : ByteArray} {e2 : Int} (hg : Good d) (hs : t.size ≤ 281474976710656) (h : d.renameR s t = (d2, e2)) : Hid (∀ F W v, Foot F W.heap.size → RD (mask F W) v d → Calls Tryd.prog 31 #[v, .string s, .string t] W fun e w' => ∃ v', e = .returned (.tuple #[v', .int .i64 e2]) ∧ RD (mask F w') v' d2 ∧ Below W.heap.size W w') :=
  Lib.hid fun F W v hF hr => by
    have h1 := hg.few
    have := rrename_any F v d s t W hF hr (by omega) hs
    rwa [h] at this
/-- a disk is loaded out of its block, guarded or not -/
theorem wpl_load_dbP {w : World} {ops : Array Oper} {rest : List Oper} {o : Oper} {a : Act} {Q : Exit → Act → World → Prop} (hw : Region.wanted o (yielded ops a.tmps) = true) (x : Operand) (ho : o.op = .load 28 x)
    (g : Nat) (hx : a.eval x = .pointer (some ⟨g, 0, none⟩)) (cs : Array Value) (hk : DB w g cs) (h : wpList Tryd.prog ops Q rest (a.put o.dst (.agg cs)) w) : wpList Tryd.prog ops Q (o :: rest) a w := by
  unfold wpList
  rw [if_pos hw]
  exact Or.inl (wp_load_row 28 x ho g hx _ cs (0, 0) _ hk.1 Tryd.underlying28 rfl hk.info h)
theorem runused_of {d : AD} {u : ByteArray} (hu : firstI d 0 = u) : Hid (∀ W v, RD W v d → Calls Tryd.prog 27 #[v] W fun e w' => e = .returned (.string u) ∧ Below W.heap.size W w') :=
  Lib.hid fun W v h => by rw [← hu]; exact runused_any v d W h
set_option maxRecDepth 8000 in
set_option maxHeartbeats 1000000 in
theorem rspare_any (F : Nat → Bool) (vd : Value) (d : AD) (w : World) (hF : Foot F w.heap.size) (h : RD (mask F w) vd d) (hg : Good d) :
    Calls Tryd.prog 13 #[vd] w fun e w' => ∃ v', e = .returned (.tuple #[v', .int .i64 d.spareR.2]) ∧ RD (mask F w') v' d.spareR.1 ∧ Below w.heap.size w w' := by
  obtain ⟨a, n, cap, rfl, hn, hc1, hc2⟩ := h.agg
  have hst := St.start hF rfl h
  obtain ⟨W2, hW2⟩ : ∃ W2, (w.alloc (.cells #[.slice a n cap, .int .i64 d.cap, .int .i64 d.ops, .bool d.down, .bool d.told, .int .i64 d.after] 28)).alloc (.cells #[.slice none 0 0, .int .i64 0, .int .i64 0, .bool false, .bool false, .int .i64 0] 28) = W2 := ⟨_, rfl⟩
  rw [hW2] at hst
  have HS := Lib.hid hst
  obtain ⟨q0, q1, q2, q3, q4, q5⟩ := hst.d0.six
  clear hst hn h hF
  unfold AD.spareR
  by_cases hd : d.down = true
  · rw [if_pos hd]
    simp only [hd] at q3 hW2 HS ⊢
    clear hd
    go_enter Tryd.func13, Tryd.ntmps13
    go_wp2_with (first
      | (refine wpList_load_row rfl 28 _ rfl w.heap.size rfl _ _ (0, 0) _ HS.out.d0.1 Tryd.underlying28 rfl HS.out.d0.info ?_)
      | (refine wpList_store_row rfl 28 _ _ rfl (w.heap.size + 1) #[.slice a n cap, .int .i64 d.cap, .int .i64 d.ops, .bool true, .bool d.told, .int .i64 d.after] rfl rfl _ dz HS.out.d1.1 disk_info (by rfl) (by simp [Value.oneCell']) ?_))
    obtain ⟨e1, e2, e3⟩ := HS.out.done (cs' := #[.slice a n cap, .int .i64 d.cap, .int .i64 d.ops, .bool true, .bool d.told, .int .i64 d.after]) HS.out.rd rfl
    exact bodyPost_ret_by (results_row_tmp rfl _ _ (w.heap.size + 1) _ rfl (disk_load e1.1 rfl)) rfl ⟨_, rfl, e2, e3⟩
  · rw [if_neg hd]
    rw [Bool.not_eq_true] at hd
    simp only [hd] at q3 hW2 HS ⊢
    obtain ⟨x, hx⟩ : ∃ x, szI d fr0 = x := ⟨_, rfl⟩
    have hxx := sz_le hg fr0
    have HX := Lib.hid hx
    rw [hx] at hxx ⊢
    have HZ := rsize_of hx
    clear hx hd
    by_cases h17 : x = 17
    · rw [if_pos h17]
      subst h17
      go_enter Tryd.func13, Tryd.ntmps13
      go_wp2_with (first
        | (refine wpList_load_row rfl 28 _ rfl w.heap.size rfl _ _ (0, 0) _ HS1.out.d0.1 Tryd.underlying28 rfl HS1.out.d0.info ?_)
        | (refine wpList_load_row rfl 28 _ rfl w.heap.size rfl _ _ (0, 0) _ HS.out.d0.1 Tryd.underlying28 rfl HS.out.d0.info ?_)
        | (go_at_call 26; (with_reducible refine (HZ.out _ _ (HS.out.rd.kin (unmask _ _))).mono ?_); rintro e w1 ⟨rfl, hb⟩; have HS1 := Lib.hid (HS.out.next hb); clear hb)
        | (refine wpList_store_row rfl 28 _ _ rfl (w.heap.size + 1) #[.slice a n cap, .int .i64 d.cap, .int .i64 d.ops, .bool false, .bool d.told, .int .i64 d.after] rfl rfl _ dz HS1.out.d1.1 disk_info (by rfl) (by simp [Value.oneCell']) ?_))
      obtain ⟨e1, e2, e3⟩ := HS1.out.done (cs' := #[.slice a n cap, .int .i64 d.cap, .int .i64 d.ops, .bool false, .bool d.told, .int .i64 d.after]) HS1.out.rd rfl
      exact bodyPost_ret_by (results_row_tmp rfl _ _ (w.heap.size + 1) _ rfl (disk_load e1.1 rfl)) rfl ⟨_, rfl, e2, e3⟩
    rw [if_neg h17]
    by_cases h0 : x = 0
    · rw [expel_not_there (.inl (HX.out.trans h0)), if_pos rfl]
      subst h0
      obtain ⟨⟨d2, e2⟩, hr⟩ : ∃ r, d.makeR fr0 17 = r := ⟨_, rfl⟩
      have HM := rmake_of hg (by decide) hr
      rw [hr]
      clear hr
      go_enter Tryd.func13, Tryd.ntmps13
      go_wp2_with (first
        | (refine wpList_load_row rfl 28 _ rfl w.heap.size rfl _ _ (0, 0) _ HS2.out.d0.1 Tryd.underlying28 rfl HS2.out.d0.info ?_)
        | (refine wpList_load_row rfl 28 _ rfl w.heap.size rfl _ _ (0, 0) _ HS1.out.d0.1 Tryd.underlying28 rfl HS1.out.d0.info ?_)
        | (refine wpList_load_row rfl 28 _ rfl w.heap.size rfl _ _ (0, 0) _ HS.out.d0.1 Tryd.underlying28 rfl HS.out.d0.info ?_)
        | (go_at_call 26; (with_reducible refine (HZ.out _ _ (HS.out.rd.kin (unmask _ _))).mono ?_); rintro e w1 ⟨rfl, hb⟩; have HS1 := Lib.hid (HS.out.next hb); clear hb)
        | (go_at_call 26; (with_reducible refine (HZ.out _ _ (HS1.out.rd.kin (unmask _ _))).mono ?_); rintro e w2 ⟨rfl, hb⟩; have HS2 := Lib.hid (HS1.out.next hb); clear hb)
        | (go_at_call 17; (with_reducible refine (HM.out _ _ _ HS2.out.foot HS2.out.rd).mono ?_); rintro e w3 ⟨v3, rfl, hr, hb⟩; have HS3 := Lib.hid (HS2.out.next hb); clear hb; obtain ⟨a3, n3, c3, rfl, _⟩ := hr.agg; have HR3 := Lib.hid hr; clear hr)
        | (refine wpList_store_row rfl 28 _ _ rfl (w.heap.size + 1) #[.slice a3 n3 c3, .int .i64 d2.cap, .int .i64 d2.ops, .bool d2.down, .bool d2.told, .int .i64 d2.after] rfl rfl _ dz HS3.out.d1.1 disk_info (by rfl) (by simp [Value.oneCell']) ?_))
      obtain ⟨e1, e2, e3⟩ := HS3.out.done (cs' := #[.slice a3 n3 c3, .int .i64 d2.cap, .int .i64 d2.ops, .bool d2.down, .bool d2.told, .int .i64 d2.after]) HR3.out rfl
      exact bodyPost_ret_by (results_row_tmp rfl _ _ (w.heap.size + 1) _ rfl (disk_load e1.1 rfl)) rfl ⟨_, rfl, e2, e3⟩
    rw [expel_there (by rw [HX.out]; omega)]
    have hp : 0 < x := by omega
    obtain ⟨⟨d2, e2⟩, hr⟩ : ∃ r, d.removeR fr0 = r := ⟨_, rfl⟩
    have HM := rremove_of hg hr
    have hg2 : Good d2 := by have := hg.remove fr0; rwa [hr] at this
    rw [hr]
    clear hr
    by_cases he : e2 = 0
    · subst he
      rw [if_pos rfl]
      obtain ⟨⟨d3, e3⟩, hr⟩ : ∃ r, d2.makeR fr0 17 = r := ⟨_, rfl⟩
      have HN := rmake_of hg2 (by decide) hr
      rw [hr]
      clear hr
      go_enter Tryd.func13, Tryd.ntmps13
      go_wp2_with (first
        | (refine wpList_load_row rfl 28 _ rfl w.heap.size rfl _ _ (0, 0) _ HS4.out.d0.1 Tryd.underlying28 rfl HS4.out.d0.info ?_)
        | (refine wpList_load_row rfl 28 _ rfl w.heap.size rfl _ _ (0, 0) _ HS2.out.d0.1 Tryd.underlying28 rfl HS2.out.d0.info ?_)
        | (refine wpList_load_row rfl 28 _ rfl w.heap.size rfl _ _ (0, 0) _ HS1.out.d0.1 Tryd.underlying28 rfl HS1.out.d0.info ?_)
        | (refine wpList_load_row rfl 28 _ rfl w.heap.size rfl _ _ (0, 0) _ HS.out.d0.1 Tryd.underlying28 rfl HS.out.d0.info ?_)
        | (go_at_call 26; (with_reducible refine (HZ.out _ _ (HS.out.rd.kin (unmask _ _))).mono ?_); rintro e w1 ⟨rfl, hb⟩; have HS1 := Lib.hid (HS.out.next hb); clear hb)
        | (go_at_call 26; (with_reducible refine (HZ.out _ _ (HS1.out.rd.kin (unmask _ _))).mono ?_); rintro e w2 ⟨rfl, hb⟩; have HS2 := Lib.hid (HS1.out.next hb); clear hb)
        | (go_at_call 30; (with_reducible refine (HM.out _ _ _ HS2.out.foot HS2.out.rd).mono ?_); rintro e w3 ⟨v3, rfl, hr, hb⟩; have HS3 := Lib.hid (HS2.out.next hb); clear hb; obtain ⟨a3, n3, c3, rfl, _⟩ := hr.agg; have HR3 := Lib.hid hr; clear hr)
        | (refine wpList_store_row rfl 28 _ _ rfl w.heap.size #[.slice a3 n3 c3, .int .i64 d2.cap, .int .i64 d2.ops, .bool d2.down, .bool d2.told, .int .i64 d2.after] rfl rfl _ #[.slice a n cap, .int .i64 d.cap, .int .i64 d.ops, .bool false, .bool d.told, .int .i64 d.after] HS3.out.d0.1 disk_info (by rfl) (by simp [Value.oneCell']) ?_; have HS4 := Lib.hid (HS3.out.put HR3.out rfl))
        | (go_at_call 17; (with_reducible refine (HN.out _ _ _ HS4.out.foot HS4.out.rd).mono ?_); rintro e w5 ⟨v5, rfl, hr, hb⟩; have HS5 := Lib.hid (HS4.out.next hb); clear hb; obtain ⟨a5, n5, c5, rfl, _⟩ := hr.agg; have HR5 := Lib.hid hr; clear hr)
        | (refine wpList_store_row rfl 28 _ _ rfl (w.heap.size + 1) #[.slice a5 n5 c5, .int .i64 d3.cap, .int .i64 d3.ops, .bool d3.down, .bool d3.told, .int .i64 d3.after] rfl rfl _ dz HS5.out.d1.1 disk_info (by rfl) (by simp [Value.oneCell']) ?_))
      obtain ⟨e1, e2, e3⟩ := HS5.out.done (cs' := #[.slice a5 n5 c5, .int .i64 d3.cap, .int .i64 d3.ops, .bool d3.down, .bool d3.told, .int .i64 d3.after]) HR5.out rfl
      exact bodyPost_ret_by (results_row_tmp rfl _ _ (w.heap.size + 1) _ rfl (disk_load e1.1 rfl)) rfl ⟨_, rfl, e2, e3⟩
    · rw [if_neg (show ¬ (d2, e2).2 = 0 from he)]
      go_enter Tryd.func13, Tryd.ntmps13
      go_wp2_with (first
        | (refine wpList_load_row rfl 28 _ rfl w.heap.size rfl _ _ (0, 0) _ HS4.out.d0.1 Tryd.underlying28 rfl HS4.out.d0.info ?_)
        | (refine wpList_load_row rfl 28 _ rfl w.heap.size rfl _ _ (0, 0) _ HS2.out.d0.1 Tryd.underlying28 rfl HS2.out.d0.info ?_)
        | (refine wpList_load_row rfl 28 _ rfl w.heap.size rfl _ _ (0, 0) _ HS1.out.d0.1 Tryd.underlying28 rfl HS1.out.d0.info ?_)
        | (refine wpList_load_row rfl 28 _ rfl w.heap.size rfl _ _ (0, 0) _ HS.out.d0.1 Tryd.underlying28 rfl HS.out.d0.info ?_)
        | (go_at_call 26; (with_reducible refine (HZ.out _ _ (HS.out.rd.kin (unmask _ _))).mono ?_); rintro e w1 ⟨rfl, hb⟩; have HS1 := Lib.hid (HS.out.next hb); clear hb)
        | (go_at_call 26; (with_reducible refine (HZ.out _ _ (HS1.out.rd.kin (unmask _ _))).mono ?_); rintro e w2 ⟨rfl, hb⟩; have HS2 := Lib.hid (HS1.out.next hb); clear hb)
        | (go_at_call 30; (with_reducible refine (HM.out _ _ _ HS2.out.foot HS2.out.rd).mono ?_); rintro e w3 ⟨v3, rfl, hr, hb⟩; have HS3 := Lib.hid (HS2.out.next hb); clear hb; obtain ⟨a3, n3, c3, rfl, _⟩ := hr.agg; have HR3 := Lib.hid hr; clear hr)
        | (refine wpList_store_row rfl 28 _ _ rfl w.heap.size #[.slice a3 n3 c3, .int .i64 d2.cap, .int .i64 d2.ops, .bool d2.down, .bool d2.told, .int .i64 d2.after] rfl rfl _ #[.slice a n cap, .int .i64 d.cap, .int .i64 d.ops, .bool false, .bool d.told, .int .i64 d.after] HS3.out.d0.1 disk_info (by rfl) (by simp [Value.oneCell']) ?_; have HS4 := Lib.hid (HS3.out.put HR3.out rfl))
        | (refine wpList_store_row rfl 28 _ _ rfl (w.heap.size + 1) #[.slice a3 n3 c3, .int .i64 d2.cap, .int .i64 d2.ops, .bool d2.down, .bool d2.told, .int .i64 d2.after] rfl rfl _ dz HS4.out.d1.1 disk_info (by rfl) (by simp [Value.oneCell']) ?_))
      obtain ⟨e1, e2, e3⟩ := HS4.out.done (cs' := #[.slice a3 n3 c3, .int .i64 d2.cap, .int .i64 d2.ops, .bool d2.down, .bool d2.told, .int .i64 d2.after]) HS4.out.rd rfl
      exact bodyPost_ret_by (results_row_tmp rfl _ _ (w.heap.size + 1) _ rfl (disk_load e1.1 rfl)) rfl ⟨_, rfl, e2, e3⟩
set_option maxRecDepth 8000 in
set_option maxHeartbeats 1000000 in
theorem rtake_any (F : Nat → Bool) (vd : Value) (d : AD) (w : World) (hF : Foot F w.heap.size) (h : RD (mask F w) vd d) (hg : Good d) :
    Calls Tryd.prog 9 #[vd] w fun e w' => ∃ v', e = .returned (.tuple #[v', .string d.takeR.2.1, .int .i64 d.takeR.2.2]) ∧ RD (mask F w') v' d.takeR.1 ∧ Below w.heap.size w w' := by
  obtain ⟨a, n, cap, rfl, hn, hc1, hc2⟩ := h.agg
  have hst := St.start hF rfl h
  obtain ⟨W2, hW2⟩ : ∃ W2, (w.alloc (.cells #[.slice a n cap, .int .i64 d.cap, .int .i64 d.ops, .bool d.down, .bool d.told, .int .i64 d.after] 28)).alloc (.cells #[.slice none 0 0, .int .i64 0, .int .i64 0, .bool false, .bool false, .int .i64 0] 28) = W2 := ⟨_, rfl⟩
  rw [hW2] at hst
  have HS := Lib.hid hst
  obtain ⟨q0, q1, q2, q3, q4, q5⟩ := hst.d0.six
  clear hst hn h hF
  unfold AD.takeR
  by_cases hd : d.down = true
  · rw [if_pos hd]
    simp only [hd] at q3 hW2 HS ⊢
    clear hd
    go_enter Tryd.func9, Tryd.ntmps9
    go_wp2_with (first
      | (refine wpList_load_row rfl 28 _ rfl w.heap.size rfl _ _ (0, 0) _ HS.out.d0.1 Tryd.underlying28 rfl HS.out.d0.info ?_)
      | (refine wpList_store_row rfl 28 _ _ rfl (w.heap.size + 1) #[.slice a n cap, .int .i64 d.cap, .int .i64 d.ops, .bool true, .bool d.told, .int .i64 d.after] rfl rfl _ dz HS.out.d1.1 disk_info (by rfl) (by simp [Value.oneCell']) ?_))
    obtain ⟨e1, e2, e3⟩ := HS.out.done (cs' := #[.slice a n cap, .int .i64 d.cap, .int .i64 d.ops, .bool true, .bool d.told, .int .i64 d.after]) HS.out.rd rfl
    exact bodyPost_ret_by (results_row_tmp2 rfl _ _ (w.heap.size + 1) _ rfl (disk_load e1.1 rfl)) rfl ⟨_, rfl, e2, e3⟩
  · rw [if_neg hd]
    rw [Bool.not_eq_true] at hd
    simp only [hd] at q3 hW2 HS ⊢
    clear hd
    obtain ⟨x1, hx1⟩ : ∃ x, szI d fr1 = x := ⟨_, rfl⟩
    obtain ⟨x2, hx2⟩ : ∃ x, szI d fr2 = x := ⟨_, rfl⟩
    have H1 := rsize_of hx1
    have H2 := rsize_of hx2
    have hq : ∀ m, firstI d m = if x1 = m then fr1 else if x2 = m then fr2 else noS := fun m => by unfold firstI; rw [hx1, hx2]
    have HU := runused_of (hq 0)
    simp only [hq]
    clear hx1 hx2 hq
    by_cases h1 : x1 = 17
    · subst h1
      simp only [if_true, if_pos fr1_ne, ne_eq]
      (try rw [if_pos (by decide)])
      go_enter Tryd.func9, Tryd.ntmps9
      go_wp2_with (first
        | (refine wpList_load_row rfl 28 _ rfl w.heap.size rfl _ _ (0, 0) _ HS1.out.d0.1 Tryd.underlying28 rfl HS1.out.d0.info ?_)
        | (refine wpList_load_row rfl 28 _ rfl w.heap.size rfl _ _ (0, 0) _ HS.out.d0.1 Tryd.underlying28 rfl HS.out.d0.info ?_)
        | (go_at_call 26; (with_reducible refine (H1.out _ _ (HS.out.rd.kin (unmask _ _))).mono ?_); rintro e w1 ⟨rfl, hb⟩; have HS1 := Lib.hid (HS.out.next hb); clear hb)
        | (refine wpList_store_row rfl 28 _ _ rfl (w.heap.size + 1) #[.slice a n cap, .int .i64 d.cap, .int .i64 d.ops, .bool false, .bool d.told, .int .i64 d.after] rfl rfl _ dz HS1.out.d1.1 disk_info (by rfl) (by simp [Value.oneCell']) ?_))
      obtain ⟨e1, e2, e3⟩ := HS1.out.done (cs' := #[.slice a n cap, .int .i64 d.cap, .int .i64 d.ops, .bool false, .bool d.told, .int .i64 d.after]) HS1.out.rd rfl
      exact bodyPost_ret_by (results_row_tmp2 rfl _ _ (w.heap.size + 1) _ rfl (disk_load e1.1 rfl)) rfl ⟨_, rfl, e2, e3⟩
    simp only [if_neg h1]
    by_cases h2 : x2 = 17
    · subst h2
      simp only [if_true, ne_eq]
      (try rw [if_pos (by decide)])
      go_enter Tryd.func9, Tryd.ntmps9
      go_wp2_with (first
        | (refine wpList_load_row rfl 28 _ rfl w.heap.size rfl _ _ (0, 0) _ HS2.out.d0.1 Tryd.underlying28 rfl HS2.out.d0.info ?_)
        | (refine wpList_load_row rfl 28 _ rfl w.heap.size rfl _ _ (0, 0) _ HS1.out.d0.1 Tryd.underlying28 rfl HS1.out.d0.info ?_)
        | (refine wpList_load_row rfl 28 _ rfl w.heap.size rfl _ _ (0, 0) _ HS.out.d0.1 Tryd.underlying28 rfl HS.out.d0.info ?_)
        | (go_at_call 26; (with_reducible refine (H1.out _ _ (HS.out.rd.kin (unmask _ _))).mono ?_); rintro e w1 ⟨rfl, hb⟩; have HS1 := Lib.hid (HS.out.next hb); clear hb)
        | (go_at_call 26; (with_reducible refine (H2.out _ _ (HS1.out.rd.kin (unmask _ _))).mono ?_); rintro e w2 ⟨rfl, hb⟩; have HS2 := Lib.hid (HS1.out.next hb); clear hb)
        | (refine wpList_store_row rfl 28 _ _ rfl (w.heap.size + 1) #[.slice a n cap, .int .i64 d.cap, .int .i64 d.ops, .bool false, .bool d.told, .int .i64 d.after] rfl rfl _ dz HS2.out.d1.1 disk_info (by rfl) (by simp [Value.oneCell']) ?_))
      obtain ⟨e1, e2, e3⟩ := HS2.out.done (cs' := #[.slice a n cap, .int .i64 d.cap, .int .i64 d.ops, .bool false, .bool d.told, .int .i64 d.after]) HS2.out.rd rfl
      exact bodyPost_ret_by (results_row_tmp2 rfl _ _ (w.heap.size + 1) _ rfl (disk_load e1.1 rfl)) rfl ⟨_, rfl, e2, e3⟩
    simp only [if_neg h2]
    (try rw [if_neg (by simp)])
    by_cases h3 : x1 = 0
    · subst h3
      simp only [if_true] at HU ⊢
      (try rw [if_neg (by decide)])
      obtain ⟨⟨d2, e2⟩, hr⟩ : ∃ r, d.makeR fr1 17 = r := ⟨_, rfl⟩
      have HM := rmake_of hg (by decide) hr
      simp only [hr]
      clear hr
      by_cases he : e2 = 0
      · subst he
        simp only [if_true]
        go_enter Tryd.func9, Tryd.ntmps9
        go_wp2_with (first
          | (refine wpList_load_row rfl 28 _ rfl w.heap.size rfl _ _ (0, 0) _ HS3.out.d0.1 Tryd.underlying28 rfl HS3.out.d0.info ?_)
          | (refine wpList_load_row rfl 28 _ rfl w.heap.size rfl _ _ (0, 0) _ HS2.out.d0.1 Tryd.underlying28 rfl HS2.out.d0.info ?_)
          | (refine wpList_load_row rfl 28 _ rfl w.heap.size rfl _ _ (0, 0) _ HS1.out.d0.1 Tryd.underlying28 rfl HS1.out.d0.info ?_)
          | (refine wpList_load_row rfl 28 _ rfl w.heap.size rfl _ _ (0, 0) _ HS.out.d0.1 Tryd.underlying28 rfl HS.out.d0.info ?_)
          | (go_at_call 26; (with_reducible refine (H1.out _ _ (HS.out.rd.kin (unmask _ _))).mono ?_); rintro e w1 ⟨rfl, hb⟩; have HS1 := Lib.hid (HS.out.next hb); clear hb)
          | (go_at_call 26; (with_reducible refine (H2.out _ _ (HS1.out.rd.kin (unmask _ _))).mono ?_); rintro e w2 ⟨rfl, hb⟩; have HS2 := Lib.hid (HS1.out.next hb); clear hb)
          | (go_at_call 27; (with_reducible refine (HU.out _ _ (HS2.out.rd.kin (unmask _ _))).mono ?_); rintro e w3 ⟨rfl, hb⟩; have HS3 := Lib.hid (HS2.out.next hb); clear hb)
          | (go_at_call 17; (with_reducible refine (HM.out _ _ _ HS3.out.foot HS3.out.rd).mono ?_); rintro e w4 ⟨v4, rfl, hr, hb⟩; have HS4 := Lib.hid (HS3.out.next hb); clear hb; obtain ⟨a4, n4, c4, rfl, _⟩ := hr.agg; have HR4 := Lib.hid hr; clear hr)
          | (refine wpl_store_newD rfl _ _ rfl rfl w4.heap.size rfl #[.slice a4 n4 c4, .int .i64 d2.cap, .int .i64 d2.ops, .bool d2.down, .bool d2.told, .int .i64 d2.after] rfl (by simp [Value.oneCell']) rfl rfl ?_; intro w5 HX5 hb5; have HS5 := Lib.hid (HS4.out.next hb5.out); have HB5 := hb5)
          | (refine wpList_load_row rfl 28 _ rfl w4.heap.size rfl _ _ (0, 0) _ HX5.out.1 Tryd.underlying28 rfl HX5.out.info ?_)
          | (refine wpList_store_row rfl 28 _ _ rfl (w.heap.size + 1) #[.slice a4 n4 c4, .int .i64 d2.cap, .int .i64 d2.ops, .bool d2.down, .bool d2.told, .int .i64 d2.after] rfl rfl _ dz HS5.out.d1.1 disk_info (by rfl) (by simp [Value.oneCell']) ?_))
        obtain ⟨e1, e2, e3⟩ := HS5.out.done (cs' := #[.slice a4 n4 c4, .int .i64 d2.cap, .int .i64 d2.ops, .bool d2.down, .bool d2.told, .int .i64 d2.after]) (HR4.out.kin (kin_mask HB5.out)) rfl
        exact bodyPost_ret_by (results_row_tmp2 rfl _ _ (w.heap.size + 1) _ rfl (disk_load e1.1 rfl)) rfl ⟨_, rfl, e2, e3⟩
      · simp only [if_neg he]
        go_enter Tryd.func9, Tryd.ntmps9
        go_wp2_with (first
          | (refine wpList_load_row rfl 28 _ rfl w.heap.size rfl _ _ (0, 0) _ HS3.out.d0.1 Tryd.underlying28 rfl HS3.out.d0.info ?_)
          | (refine wpList_load_row rfl 28 _ rfl w.heap.size rfl _ _ (0, 0) _ HS2.out.d0.1 Tryd.underlying28 rfl HS2.out.d0.info ?_)
          | (refine wpList_load_row rfl 28 _ rfl w.heap.size rfl _ _ (0, 0) _ HS1.out.d0.1 Tryd.underlying28 rfl HS1.out.d0.info ?_)
          | (refine wpList_load_row rfl 28 _ rfl w.heap.size rfl _ _ (0, 0) _ HS.out.d0.1 Tryd.underlying28 rfl HS.out.d0.info ?_)
          | (go_at_call 26; (with_reducible refine (H1.out _ _ (HS.out.rd.kin (unmask _ _))).mono ?_); rintro e w1 ⟨rfl, hb⟩; have HS1 := Lib.hid (HS.out.next hb); clear hb)
          | (go_at_call 26; (with_reducible refine (H2.out _ _ (HS1.out.rd.kin (unmask _ _))).mono ?_); rintro e w2 ⟨rfl, hb⟩; have HS2 := Lib.hid (HS1.out.next hb); clear hb)
          | (go_at_call 27; (with_reducible refine (HU.out _ _ (HS2.out.rd.kin (unmask _ _))).mono ?_); rintro e w3 ⟨rfl, hb⟩; have HS3 := Lib.hid (HS2.out.next hb); clear hb)
          | (go_at_call 17; (with_reducible refine (HM.out _ _ _ HS3.out.foot HS3.out.rd).mono ?_); rintro e w4 ⟨v4, rfl, hr, hb⟩; have HS4 := Lib.hid (HS3.out.next hb); clear hb; obtain ⟨a4, n4, c4, rfl, _⟩ := hr.agg; have HR4 := Lib.hid hr; clear hr)
          | (refine wpl_store_newD rfl _ _ rfl rfl w4.heap.size rfl #[.slice a4 n4 c4, .int .i64 d2.cap, .int .i64 d2.ops, .bool d2.down, .bool d2.told, .int .i64 d2.after] rfl (by simp [Value.oneCell']) rfl rfl ?_; intro w5 HX5 hb5; have HS5 := Lib.hid (HS4.out.next hb5.out); have HB5 := hb5)
          | (refine wpList_load_row rfl 28 _ rfl w4.heap.size rfl _ _ (0, 0) _ HX5.out.1 Tryd.underlying28 rfl HX5.out.info ?_)
          | (refine wpList_store_row rfl 28 _ _ rfl (w.heap.size + 1) #[.slice a4 n4 c4, .int .i64 d2.cap, .int .i64 d2.ops, .bool d2.down, .bool d2.told, .int .i64 d2.after] rfl rfl _ dz HS5.out.d1.1 disk_info (by rfl) (by simp [Value.oneCell']) ?_))
        obtain ⟨e1, e2, e3⟩ := HS5.out.done (cs' := #[.slice a4 n4 c4, .int .i64 d2.cap, .int .i64 d2.ops, .bool d2.down, .bool d2.told, .int .i64 d2.after]) (HR4.out.kin (kin_mask HB5.out)) rfl
        exact bodyPost_ret_by (results_row_tmp2 rfl _ _ (w.heap.size + 1) _ rfl (disk_load e1.1 rfl)) rfl ⟨_, rfl, e2, e3⟩
    simp only [if_neg h3] at HU ⊢
    by_cases h4 : x2 = 0
    · subst h4
      simp only [if_true] at HU ⊢
      (try rw [if_neg (by decide)])
      obtain ⟨⟨d2, e2⟩, hr⟩ : ∃ r, d.makeR fr2 17 = r := ⟨_, rfl⟩
      have HM := rmake_of hg (by decide) hr
      simp only [hr]
      clear hr
      by_cases he : e2 = 0
      · subst he
        simp only [if_true]
        go_enter Tryd.func9, Tryd.ntmps9
        go_wp2_with (first
          | (refine wpList_load_row rfl 28 _ rfl w.heap.size rfl _ _ (0, 0) _ HS3.out.d0.1 Tryd.underlying28 rfl HS3.out.d0.info ?_)
          | (refine wpList_load_row rfl 28 _ rfl w.heap.size rfl _ _ (0, 0) _ HS2.out.d0.1 Tryd.underlying28 rfl HS2.out.d0.info ?_)
          | (refine wpList_load_row rfl 28 _ rfl w.heap.size rfl _ _ (0, 0) _ HS1.out.d0.1 Tryd.underlying28 rfl HS1.out.d0.info ?_)
          | (refine wpList_load_row rfl 28 _ rfl w.heap.size rfl _ _ (0, 0) _ HS.out.d0.1 Tryd.underlying28 rfl HS.out.d0.info ?_)
          | (go_at_call 26; (with_reducible refine (H1.out _ _ (HS.out.rd.kin (unmask _ _))).mono ?_); rintro e w1 ⟨rfl, hb⟩; have HS1 := Lib.hid (HS.out.next hb); clear hb)
          | (go_at_call 26; (with_reducible refine (H2.out _ _ (HS1.out.rd.kin (unmask _ _))).mono ?_); rintro e w2 ⟨rfl, hb⟩; have HS2 := Lib.hid (HS1.out.next hb); clear hb)
          | (go_at_call 27; (with_reducible refine (HU.out _ _ (HS2.out.rd.kin (unmask _ _))).mono ?_); rintro e w3 ⟨rfl, hb⟩; have HS3 := Lib.hid (HS2.out.next hb); clear hb)
          | (go_at_call 17; (with_reducible refine (HM.out _ _ _ HS3.out.foot HS3.out.rd).mono ?_); rintro e w4 ⟨v4, rfl, hr, hb⟩; have HS4 := Lib.hid (HS3.out.next hb); clear hb; obtain ⟨a4, n4, c4, rfl, _⟩ := hr.agg; have HR4 := Lib.hid hr; clear hr)
          | (refine wpl_store_newD rfl _ _ rfl rfl w4.heap.size rfl #[.slice a4 n4 c4, .int .i64 d2.cap, .int .i64 d2.ops, .bool d2.down, .bool d2.told, .int .i64 d2.after] rfl (by simp [Value.oneCell']) rfl rfl ?_; intro w5 HX5 hb5; have HS5 := Lib.hid (HS4.out.next hb5.out); have HB5 := hb5)
          | (refine wpList_load_row rfl 28 _ rfl w4.heap.size rfl _ _ (0, 0) _ HX5.out.1 Tryd.underlying28 rfl HX5.out.info ?_)
          | (refine wpList_store_row rfl 28 _ _ rfl (w.heap.size + 1) #[.slice a4 n4 c4, .int .i64 d2.cap, .int .i64 d2.ops, .bool d2.down, .bool d2.told, .int .i64 d2.after] rfl rfl _ dz HS5.out.d1.1 disk_info (by rfl) (by simp [Value.oneCell']) ?_))
        obtain ⟨e1, e2, e3⟩ := HS5.out.done (cs' := #[.slice a4 n4 c4, .int .i64 d2.cap, .int .i64 d2.ops, .bool d2.down, .bool d2.told, .int .i64 d2.after]) (HR4.out.kin (kin_mask HB5.out)) rfl
        exact bodyPost_ret_by (results_row_tmp2 rfl _ _ (w.heap.size + 1) _ rfl (disk_load e1.1 rfl)) rfl ⟨_, rfl, e2, e3⟩
      · simp only [if_neg he]
        go_enter Tryd.func9, Tryd.ntmps9
        go_wp2_with (first
          | (refine wpList_load_row rfl 28 _ rfl w.heap.size rfl _ _ (0, 0) _ HS3.out.d0.1 Tryd.underlying28 rfl HS3.out.d0.info ?_)
          | (refine wpList_load_row rfl 28 _ rfl w.heap.size rfl _ _ (0, 0) _ HS2.out.d0.1 Tryd.underlying28 rfl HS2.out.d0.info ?_)
          | (refine wpList_load_row rfl 28 _ rfl w.heap.size rfl _ _ (0, 0) _ HS1.out.d0.1 Tryd.underlying28 rfl HS1.out.d0.info ?_)
          | (refine wpList_load_row rfl 28 _ rfl w.heap.size rfl _ _ (0, 0) _ HS.out.d0.1 Tryd.underlying28 rfl HS.out.d0.info ?_)
          | (go_at_call 26; (with_reducible refine (H1.out _ _ (HS.out.rd.kin (unmask _ _))).mono ?_); rintro e w1 ⟨rfl, hb⟩; have HS1 := Lib.hid (HS.out.next hb); clear hb)
          | (go_at_call 26; (with_reducible refine (H2.out _ _ (HS1.out.rd.kin (unmask _ _))).mono ?_); rintro e w2 ⟨rfl, hb⟩; have HS2 := Lib.hid (HS1.out.next hb); clear hb)
          | (go_at_call 27; (with_reducible refine (HU.out _ _ (HS2.out.rd.kin (unmask _ _))).mono ?_); rintro e w3 ⟨rfl, hb⟩; have HS3 := Lib.hid (HS2.out.next hb); clear hb)
          | (go_at_call 17; (with_reducible refine (HM.out _ _ _ HS3.out.foot HS3.out.rd).mono ?_); rintro e w4 ⟨v4, rfl, hr, hb⟩; have HS4 := Lib.hid (HS3.out.next hb); clear hb; obtain ⟨a4, n4, c4, rfl, _⟩ := hr.agg; have HR4 := Lib.hid hr; clear hr)
          | (refine wpl_store_newD rfl _ _ rfl rfl w4.heap.size rfl #[.slice a4 n4 c4, .int .i64 d2.cap, .int .i64 d2.ops, .bool d2.down, .bool d2.told, .int .i64 d2.after] rfl (by simp [Value.oneCell']) rfl rfl ?_; intro w5 HX5 hb5; have HS5 := Lib.hid (HS4.out.next hb5.out); have HB5 := hb5)
          | (refine wpList_load_row rfl 28 _ rfl w4.heap.size rfl _ _ (0, 0) _ HX5.out.1 Tryd.underlying28 rfl HX5.out.info ?_)
          | (refine wpList_store_row rfl 28 _ _ rfl (w.heap.size + 1) #[.slice a4 n4 c4, .int .i64 d2.cap, .int .i64 d2.ops, .bool d2.down, .bool d2.told, .int .i64 d2.after] rfl rfl _ dz HS5.out.d1.1 disk_info (by rfl) (by simp [Value.oneCell']) ?_))
        obtain ⟨e1, e2, e3⟩ := HS5.out.done (cs' := #[.slice a4 n4 c4, .int .i64 d2.cap, .int .i64 d2.ops, .bool d2.down, .bool d2.told, .int .i64 d2.after]) (HR4.out.kin (kin_mask HB5.out)) rfl
        exact bodyPost_ret_by (results_row_tmp2 rfl _ _ (w.heap.size + 1) _ rfl (disk_load e1.1 rfl)) rfl ⟨_, rfl, e2, e3⟩
    simp only [if_neg h4] at HU ⊢
    simp only [if_true]
    go_enter Tryd.func9, Tryd.ntmps9
    go_wp2_with (first
      | (refine wpList_load_row rfl 28 _ rfl w.heap.size rfl _ _ (0, 0) _ HS3.out.d0.1 Tryd.underlying28 rfl HS3.out.d0.info ?_)
      | (refine wpList_load_row rfl 28 _ rfl w.heap.size rfl _ _ (0, 0) _ HS2.out.d0.1 Tryd.underlying28 rfl HS2.out.d0.info ?_)
      | (refine wpList_load_row rfl 28 _ rfl w.heap.size rfl _ _ (0, 0) _ HS1.out.d0.1 Tryd.underlying28 rfl HS1.out.d0.info ?_)
      | (refine wpList_load_row rfl 28 _ rfl w.heap.size rfl _ _ (0, 0) _ HS.out.d0.1 Tryd.underlying28 rfl HS.out.d0.info ?_)
      | (go_at_call 26; (with_reducible refine (H1.out _ _ (HS.out.rd.kin (unmask _ _))).mono ?_); rintro e w1 ⟨rfl, hb⟩; have HS1 := Lib.hid (HS.out.next hb); clear hb)
      | (go_at_call 26; (with_reducible refine (H2.out _ _ (HS1.out.rd.kin (unmask _ _))).mono ?_); rintro e w2 ⟨rfl, hb⟩; have HS2 := Lib.hid (HS1.out.next hb); clear hb)
      | (go_at_call 27; (with_reducible refine (HU.out _ _ (HS2.out.rd.kin (unmask _ _))).mono ?_); rintro e w3 ⟨rfl, hb⟩; have HS3 := Lib.hid (HS2.out.next hb); clear hb)
      | (refine wpList_store_row rfl 28 _ _ rfl (w.heap.size + 1) #[.slice a n cap, .int .i64 d.cap, .int .i64 d.ops, .bool false, .bool d.told, .int .i64 d.after] rfl rfl _ dz HS3.out.d1.1 disk_info (by rfl) (by simp [Value.oneCell']) ?_))
    obtain ⟨e1, e2, e3⟩ := HS3.out.done (cs' := #[.slice a n cap, .int .i64 d.cap, .int .i64 d.ops, .bool false, .bool d.told, .int .i64 d.after]) HS3.out.rd rfl
    exact bodyPost_ret_by (results_row_tmp2 rfl _ _ (w.heap.size + 1) _ rfl (disk_load e1.1 rfl)) rfl ⟨_, rfl, e2, e3⟩
set_option maxRecDepth 8000 in
set_option maxHeartbeats 1000000 in
theorem rgive_any (F : Nat → Bool) (vd : Value) (d : AD) (s : ByteArray) (w : World) (hF : Foot F w.heap.size) (h : RD (mask F w) vd d) (hg : Good d) :
    Calls Tryd.prog 11 #[vd, .string s] w fun e w' => ∃ v', e = .returned (.tuple #[v', .int .i64 (d.giveR s).2]) ∧ RD (mask F w') v' (d.giveR s).1 ∧ Below w.heap.size w w' := by
  obtain ⟨a, n, cap, rfl, hn, hc1, hc2⟩ := h.agg
  have hst := St.start hF rfl h
  obtain ⟨W2, hW2⟩ : ∃ W2, (w.alloc (.cells #[.slice a n cap, .int .i64 d.cap, .int .i64 d.ops, .bool d.down, .bool d.told, .int .i64 d.after] 28)).alloc (.cells #[.slice none 0 0, .int .i64 0, .int .i64 0, .bool false, .bool false, .int .i64 0] 28) = W2 := ⟨_, rfl⟩
  rw [hW2] at hst
  have HS := Lib.hid hst
  obtain ⟨q0, q1, q2, q3, q4, q5⟩ := hst.d0.six
  clear hst hn h hF
  unfold AD.giveR
  by_cases hd : d.down = true
  · rw [if_pos hd]
    simp only [hd] at q3 hW2 HS ⊢
    clear hd
    go_enter Tryd.func11, Tryd.ntmps11
    go_wp2_with (first
      | (refine wpList_load_row rfl 28 _ rfl w.heap.size rfl _ _ (0, 0) _ HS.out.d0.1 Tryd.underlying28 rfl HS.out.d0.info ?_)
      | (refine wpList_store_row rfl 28 _ _ rfl (w.heap.size + 1) #[.slice a n cap, .int .i64 d.cap, .int .i64 d.ops, .bool true, .bool d.told, .int .i64 d.after] rfl rfl _ dz HS.out.d1.1 disk_info (by rfl) (by simp [Value.oneCell']) ?_))
    obtain ⟨e1, e2, e3⟩ := HS.out.done (cs' := #[.slice a n cap, .int .i64 d.cap, .int .i64 d.ops, .bool true, .bool d.told, .int .i64 d.after]) HS.out.rd rfl
    exact bodyPost_ret_by (results_row_tmp rfl _ _ (w.heap.size + 1) _ rfl (disk_load e1.1 rfl)) rfl ⟨_, rfl, e2, e3⟩
  · rw [if_neg hd]
    rw [Bool.not_eq_true] at hd
    simp only [hd] at q3 hW2 HS ⊢
    clear hd
    obtain ⟨x, hx⟩ : ∃ x, szI d s = x := ⟨_, rfl⟩
    have HZ := rsize_of hx
    rw [hx]
    clear hx
    by_cases h0 : x = 0
    · rw [if_pos h0]
      subst h0
      go_enter Tryd.func11, Tryd.ntmps11
      go_wp2_with (first
        | (refine wpList_load_row rfl 28 _ rfl w.heap.size rfl _ _ (0, 0) _ HS1.out.d0.1 Tryd.underlying28 rfl HS1.out.d0.info ?_)
        | (refine wpList_load_row rfl 28 _ rfl w.heap.size rfl _ _ (0, 0) _ HS.out.d0.1 Tryd.underlying28 rfl HS.out.d0.info ?_)
        | (go_at_call 26; (with_reducible refine (HZ.out _ _ (HS.out.rd.kin (unmask _ _))).mono ?_); rintro e w1 ⟨rfl, hb⟩; have HS1 := Lib.hid (HS.out.next hb); clear hb)
        | (refine wpList_store_row rfl 28 _ _ rfl (w.heap.size + 1) #[.slice a n cap, .int .i64 d.cap, .int .i64 d.ops, .bool false, .bool d.told, .int .i64 d.after] rfl rfl _ dz HS1.out.d1.1 disk_info (by rfl) (by simp [Value.oneCell']) ?_))
      obtain ⟨e1, e2, e3⟩ := HS1.out.done (cs' := #[.slice a n cap, .int .i64 d.cap, .int .i64 d.ops, .bool false, .bool d.told, .int .i64 d.after]) HS1.out.rd rfl
      exact bodyPost_ret_by (results_row_tmp rfl _ _ (w.heap.size + 1) _ rfl (disk_load e1.1 rfl)) rfl ⟨_, rfl, e2, e3⟩
    rw [if_neg h0]
    by_cases h17 : x = 17
    · subst h17
      obtain ⟨x1, hx1⟩ : ∃ x, szI d fr1 = x := ⟨_, rfl⟩
      obtain ⟨x2, hx2⟩ : ∃ x, szI d fr2 = x := ⟨_, rfl⟩
      have hq : firstI d 0 = if x1 = 0 then fr1 else if x2 = 0 then fr2 else noS := by unfold firstI; rw [hx1, hx2]
      have HU := runused_of hq
      rw [hq]
      clear hx1 hx2 hq
      by_cases h3 : x1 = 0
      · subst h3
        simp only [if_true] at HU ⊢
        rw [if_pos ⟨by trivial, by decide⟩]
        obtain ⟨⟨d2, e2⟩, hr⟩ : ∃ r, d.renameR s fr1 = r := ⟨_, rfl⟩
        have HM := rrename_of hg (by decide) hr
        simp only [hr]
        clear hr
        go_enter Tryd.func11, Tryd.ntmps11
        go_wp2_with (first
          | (refine wpl_load_dbP (by rfl) _ rfl w.heap.size rfl _ HS2.out.d0 ?_)
          | (refine wpl_load_dbP (by rfl) _ rfl w.heap.size rfl _ HS1.out.d0 ?_)
          | (refine wpl_load_dbP (by rfl) _ rfl w.heap.size rfl _ HS.out.d0 ?_)
          | (go_at_call 26; (with_reducible refine (HZ.out _ _ (HS.out.rd.kin (unmask _ _))).mono ?_); rintro e w1 ⟨rfl, hb⟩; have HS1 := Lib.hid (HS.out.next hb); clear hb)
          | (go_at_call 26; (with_reducible refine (HZ.out _ _ (HS1.out.rd.kin (unmask _ _))).mono ?_); rintro e w2 ⟨rfl, hb⟩; have HS2 := Lib.hid (HS1.out.next hb); clear hb)
          | (go_at_call 27; (with_reducible refine (HU.out _ _ (HS2.out.rd.kin (unmask _ _))).mono ?_); rintro e w3 ⟨rfl, hb⟩; have HS3 := Lib.hid (HS2.out.next hb); clear hb))
        have HSD := Lib.hid (HS3.out.next (Below.refl _ _).drew)
        refine wp_region_held_drew (S := (fun W' => DB W' w.heap.size #[.slice a n cap, .int .i64 d.cap, .int .i64 d.ops, .bool false, .bool d.told, .int .i64 d.after])) (by kernel_rfl) HSD.out.d0 (fun hS => ?_)
        refine wpAnyH_take (i := 0) (oi := ({ dst := some 28, op := Op.load 28 (Operand.tmp 2), type := 28, pos := "ref.go:110", after := #[], guard := none } : Oper)) (v := ?_) rfl (by kernel_rfl) (by kernel_rfl) (by kernel_rfl) (fun _ _ _ h => h) (Or.inl ⟨by rfl, ?_⟩) hS ?_
        rotate_left
        · (intro w hSw; (try dsimp only at hSw); refine exec_load_db (.tmp 2) ?_ ?_ hSw <;> rfl)
        (try simp only [Act.put, List.setIfInBounds_toArray, List.set_cons_zero, List.set_cons_succ])
        refine wpAnyH_take (i := 1) (oi := ({ dst := some 29, op := Op.move (Operand.tmp 1), type := 9, pos := "ref.go:110", after := #[], guard := none } : Oper)) (v := ?_) rfl (by kernel_rfl) (by kernel_rfl) (by kernel_rfl) (fun _ _ _ h => h) (Or.inl ⟨by rfl, ?_⟩) hS ?_
        rotate_left
        · (intro w hSw; (try dsimp only at hSw); go_simp; try with_reducible rfl)
        (try simp only [Act.put, List.setIfInBounds_toArray, List.set_cons_zero, List.set_cons_succ])
        refine wpAnyH_take (i := 2) (oi := ({ dst := some 30, op := Op.load 28 (Operand.tmp 2), type := 28, pos := "ref.go:110", after := #[], guard := none } : Oper)) (v := ?_) rfl (by kernel_rfl) (by kernel_rfl) (by kernel_rfl) (fun _ _ _ h => h) (Or.inl ⟨by rfl, ?_⟩) hS ?_
        rotate_left
        · (intro w hSw; (try dsimp only at hSw); refine exec_load_db (.tmp 2) ?_ ?_ hSw <;> rfl)
        (try simp only [Act.put, List.setIfInBounds_toArray, List.set_cons_zero, List.set_cons_succ])
        refine rg_one 3 ({ dst := some 31, op := Op.call { callee := Callee.value (Operand.func 27), args := #[Operand.tmp 30], argTypes := #[28] }, type := 9, pos := "ref.go:110", after := #[{ on := 2, ground := Ground.data }], guard := none } : Oper) (by kernel_rfl) rfl (fun K hK => ?_)
        go_simp
        (go_at_call 27; (with_reducible refine (HU.out _ _ (HSD.out.rd.kin (unmask _ _))).mono ?_); rintro e w4 ⟨rfl, hb⟩; have HS4 := Lib.hid (HSD.out.next hb))
        refine hK.out _ _ ?_ (fun hS1 => ?_)
        · (first | exact hS | exact hS.next hb | exact hS.over _ (by omega) _)
        clear hK K hS; have hS := hS1; clear hS1
        (try simp only [Act.put, List.setIfInBounds_toArray, List.set_cons_zero, List.set_cons_succ])
        refine rg_one 4 ({ dst := some 32, op := Op.call { callee := Callee.value (Operand.func 31), args := #[Operand.tmp 28, Operand.tmp 29, Operand.tmp 31], argTypes := #[28, 9, 9] }, type := 39, pos := "ref.go:110", after := #[{ on := 0, ground := Ground.data }, { on := 1, ground := Ground.data }, { on := 3, ground := Ground.data }, { on := 3, ground := Ground.chain }], guard := none } : Oper) (by kernel_rfl) rfl (fun K hK => ?_)
        go_simp
        (go_at_call 31; (with_reducible refine (HM.out _ _ _ HS4.out.foot HS4.out.rd).mono ?_); rintro e w5 ⟨v5, rfl, hr, hb⟩; have HS5 := Lib.hid (HS4.out.next hb); obtain ⟨a5, n5, c5, rfl, _⟩ := hr.agg; have HR5 := Lib.hid hr; clear hr)
        refine hK.out _ _ ?_ (fun hS1 => ?_)
        · (first | exact hS | exact hS.next hb | exact hS.over _ (by omega) _)
        clear hK K hS; have hS := hS1; clear hS1
        (try simp only [Act.put, List.setIfInBounds_toArray, List.set_cons_zero, List.set_cons_succ])
        refine wpAnyH_take (i := 5) (oi := ({ dst := some 33, op := Op.extract (Operand.tmp 32) 0, type := 28, pos := "ref.go:110", after := #[{ on := 4, ground := Ground.data }], guard := none } : Oper)) (v := ?_) rfl (by kernel_rfl) (by kernel_rfl) (by kernel_rfl) (fun _ _ _ h => h) (Or.inl ⟨by rfl, ?_⟩) hS ?_
        rotate_left
        · (intro w hSw; (try dsimp only at hSw); go_simp; try with_reducible rfl)
        (try simp only [Act.put, List.setIfInBounds_toArray, List.set_cons_zero, List.set_cons_succ])
        refine wpAnyH_take (i := 6) (oi := ({ dst := some 34, op := Op.extract (Operand.tmp 32) 1, type := 30, pos := "ref.go:110", after := #[{ on := 4, ground := Ground.data }], guard := none } : Oper)) (v := ?_) rfl (by kernel_rfl) (by kernel_rfl) (by kernel_rfl) (fun _ _ _ h => h) (Or.inl ⟨by rfl, ?_⟩) hS ?_
        rotate_left
        · (intro w hSw; (try dsimp only at hSw); go_simp; try with_reducible rfl)
        (try simp only [Act.put, List.setIfInBounds_toArray, List.set_cons_zero, List.set_cons_succ])
        refine rg_one 7 ({ dst := none, op := Op.store 28 (Operand.tmp 4) (Operand.tmp 33), type := 0, pos := "ref.go:110", after := #[{ on := 5, ground := Ground.data }, { on := 4, ground := Ground.chain }, { on := 0, ground := Ground.phase }, { on := 1, ground := Ground.phase }, { on := 2, ground := Ground.phase }, { on := 3, ground := Ground.phase }, { on := 4, ground := Ground.phase }, { on := 5, ground := Ground.phase }, { on := 6, ground := Ground.phase }], guard := none } : Oper) (by kernel_rfl) rfl (fun K hK => ?_)
        rw [if_pos (by rfl)]; refine wp_store_row 28 (.tmp 4) (.tmp 33) rfl (w.heap.size + 1) #[.slice a5 n5 c5, .int .i64 d2.cap, .int .i64 d2.ops, .bool d2.down, .bool d2.told, .int .i64 d2.after] rfl rfl _ dz HS5.out.d1.1 disk_info (by rfl) (by simp [Value.oneCell']) ?_
        refine hK.out _ _ ?_ (fun hS1 => ?_)
        · (first | exact hS | exact hS.next hb | exact hS.over _ (by omega) _)
        clear hK K hS; have hS := hS1; clear hS1
        (try simp only [Act.put])
        refine wpAnyH_take (i := 8) (oi := ({ dst := some 5, op := Op.assign (Operand.tmp 34), type := 30, pos := "ref.go:110", after := #[{ on := 6, ground := Ground.data }, { on := 7, ground := Ground.chain }, { on := 0, ground := Ground.phase }, { on := 1, ground := Ground.phase }, { on := 2, ground := Ground.phase }, { on := 3, ground := Ground.phase }, { on := 4, ground := Ground.phase }, { on := 5, ground := Ground.phase }, { on := 6, ground := Ground.phase }, { on := 7, ground := Ground.phase }], guard := none } : Oper)) (v := ?_) rfl (by kernel_rfl) (by kernel_rfl) (by kernel_rfl) (fun _ _ _ h => h) (Or.inl ⟨by rfl, ?_⟩) hS ?_
        rotate_left
        · (intro w hSw; (try dsimp only at hSw); go_simp; try with_reducible rfl)
        (try simp only [Act.put, List.setIfInBounds_toArray, List.set_cons_zero, List.set_cons_succ])
        refine wpAnyH_done (by kernel_rfl) ?_ _
        go_wp2
        obtain ⟨e1, e2, e3⟩ := HS5.out.done (cs' := #[.slice a5 n5 c5, .int .i64 d2.cap, .int .i64 d2.ops, .bool d2.down, .bool d2.told, .int .i64 d2.after]) HR5.out rfl
        exact bodyPost_ret_by (results_row_tmp rfl _ _ (w.heap.size + 1) _ rfl (disk_load e1.1 rfl)) rfl ⟨_, rfl, e2, e3⟩
      simp only [if_neg h3] at HU ⊢
      by_cases h4 : x2 = 0
      · subst h4
        simp only [if_true] at HU ⊢
        rw [if_pos ⟨by trivial, by decide⟩]
        obtain ⟨⟨d2, e2⟩, hr⟩ : ∃ r, d.renameR s fr2 = r := ⟨_, rfl⟩
        have HM := rrename_of hg (by decide) hr
        simp only [hr]
        clear hr
        go_enter Tryd.func11, Tryd.ntmps11
        go_wp2_with (first
          | (refine wpl_load_dbP (by rfl) _ rfl w.heap.size rfl _ HS2.out.d0 ?_)
          | (refine wpl_load_dbP (by rfl) _ rfl w.heap.size rfl _ HS1.out.d0 ?_)
          | (refine wpl_load_dbP (by rfl) _ rfl w.heap.size rfl _ HS.out.d0 ?_)
          | (go_at_call 26; (with_reducible refine (HZ.out _ _ (HS.out.rd.kin (unmask _ _))).mono ?_); rintro e w1 ⟨rfl, hb⟩; have HS1 := Lib.hid (HS.out.next hb); clear hb)
          | (go_at_call 26; (with_reducible refine (HZ.out _ _ (HS1.out.rd.kin (unmask _ _))).mono ?_); rintro e w2 ⟨rfl, hb⟩; have HS2 := Lib.hid (HS1.out.next hb); clear hb)
          | (go_at_call 27; (with_reducible refine (HU.out _ _ (HS2.out.rd.kin (unmask _ _))).mono ?_); rintro e w3 ⟨rfl, hb⟩; have HS3 := Lib.hid (HS2.out.next hb); clear hb))
        have HSD := Lib.hid (HS3.out.next (Below.refl _ _).drew)
        refine wp_region_held_drew (S := (fun W' => DB W' w.heap.size #[.slice a n cap, .int .i64 d.cap, .int .i64 d.ops, .bool false, .bool d.told, .int .i64 d.after])) (by kernel_rfl) HSD.out.d0 (fun hS => ?_)
        refine wpAnyH_take (i := 0) (oi := ({ dst := some 28, op := Op.load 28 (Operand.tmp 2), type := 28, pos := "ref.go:110", after := #[], guard := none } : Oper)) (v := ?_) rfl (by kernel_rfl) (by kernel_rfl) (by kernel_rfl) (fun _ _ _ h => h) (Or.inl ⟨by rfl, ?_⟩) hS ?_
        rotate_left
        · (intro w hSw; (try dsimp only at hSw); refine exec_load_db (.tmp 2) ?_ ?_ hSw <;> rfl)
        (try simp only [Act.put, List.setIfInBounds_toArray, List.set_cons_zero, List.set_cons_succ])
        refine wpAnyH_take (i := 1) (oi := ({ dst := some 29, op := Op.move (Operand.tmp 1), type := 9, pos := "ref.go:110", after := #[], guard := none } : Oper)) (v := ?_) rfl (by kernel_rfl) (by kernel_rfl) (by kernel_rfl) (fun _ _ _ h => h) (Or.inl ⟨by rfl, ?_⟩) hS ?_
        rotate_left
        · (intro w hSw; (try dsimp only at hSw); go_simp; try with_reducible rfl)
        (try simp only [Act.put, List.setIfInBounds_toArray, List.set_cons_zero, List.set_cons_succ])
        refine wpAnyH_take (i := 2) (oi := ({ dst := some 30, op := Op.load 28 (Operand.tmp 2), type := 28, pos := "ref.go:110", after := #[], guard := none } : Oper)) (v := ?_) rfl (by kernel_rfl) (by kernel_rfl) (by kernel_rfl) (fun _ _ _ h => h) (Or.inl ⟨by rfl, ?_⟩) hS ?_
        rotate_left
        · (intro w hSw; (try dsimp only at hSw); refine exec_load_db (.tmp 2) ?_ ?_ hSw <;> rfl)
        (try simp only [Act.put, List.setIfInBounds_toArray, List.set_cons_zero, List.set_cons_succ])
        refine rg_one 3 ({ dst := some 31, op := Op.call { callee := Callee.value (Operand.func 27), args := #[Operand.tmp 30], argTypes := #[28] }, type := 9, pos := "ref.go:110", after := #[{ on := 2, ground := Ground.data }], guard := none } : Oper) (by kernel_rfl) rfl (fun K hK => ?_)
        go_simp
        (go_at_call 27; (with_reducible refine (HU.out _ _ (HSD.out.rd.kin (unmask _ _))).mono ?_); rintro e w4 ⟨rfl, hb⟩; have HS4 := Lib.hid (HSD.out.next hb))
        refine hK.out _ _ ?_ (fun hS1 => ?_)
        · (first | exact hS | exact hS.next hb | exact hS.over _ (by omega) _)
        clear hK K hS; have hS := hS1; clear hS1
        (try simp only [Act.put, List.setIfInBounds_toArray, List.set_cons_zero, List.set_cons_succ])
        refine rg_one 4 ({ dst := some 32, op := Op.call { callee := Callee.value (Operand.func 31), args := #[Operand.tmp 28, Operand.tmp 29, Operand.tmp 31], argTypes := #[28, 9, 9] }, type := 39, pos := "ref.go:110", after := #[{ on := 0, ground := Ground.data }, { on := 1, ground := Ground.data }, { on := 3, ground := Ground.data }, { on := 3, ground := Ground.chain }], guard := none } : Oper) (by kernel_rfl) rfl (fun K hK => ?_)
        go_simp
        (go_at_call 31; (with_reducible refine (HM.out _ _ _ HS4.out.foot HS4.out.rd).mono ?_); rintro e w5 ⟨v5, rfl, hr, hb⟩; have HS5 := Lib.hid (HS4.out.next hb); obtain ⟨a5, n5, c5, rfl, _⟩ := hr.agg; have HR5 := Lib.hid hr; clear hr)
        refine hK.out _ _ ?_ (fun hS1 => ?_)
        · (first | exact hS | exact hS.next hb | exact hS.over _ (by omega) _)
        clear hK K hS; have hS := hS1; clear hS1
        (try simp only [Act.put, List.setIfInBounds_toArray, List.set_cons_zero, List.set_cons_succ])
        refine wpAnyH_take (i := 5) (oi := ({ dst := some 33, op := Op.extract (Operand.tmp 32) 0, type := 28, pos := "ref.go:110", after := #[{ on := 4, ground := Ground.data }], guard := none } : Oper)) (v := ?_) rfl (by kernel_rfl) (by kernel_rfl) (by kernel_rfl) (fun _ _ _ h => h) (Or.inl ⟨by rfl, ?_⟩) hS ?_
        rotate_left
        · (intro w hSw; (try dsimp only at hSw); go_simp; try with_reducible rfl)
        (try simp only [Act.put, List.setIfInBounds_toArray, List.set_cons_zero, List.set_cons_succ])
        refine wpAnyH_take (i := 6) (oi := ({ dst := some 34, op := Op.extract (Operand.tmp 32) 1, type := 30, pos := "ref.go:110", after := #[{ on := 4, ground := Ground.data }], guard := none } : Oper)) (v := ?_) rfl (by kernel_rfl) (by kernel_rfl) (by kernel_rfl) (fun _ _ _ h => h) (Or.inl ⟨by rfl, ?_⟩) hS ?_
        rotate_left
        · (intro w hSw; (try dsimp only at hSw); go_simp; try with_reducible rfl)
        (try simp only [Act.put, List.setIfInBounds_toArray, List.set_cons_zero, List.set_cons_succ])
        refine rg_one 7 ({ dst := none, op := Op.store 28 (Operand.tmp 4) (Operand.tmp 33), type := 0, pos := "ref.go:110", after := #[{ on := 5, ground := Ground.data }, { on := 4, ground := Ground.chain }, { on := 0, ground := Ground.phase }, { on := 1, ground := Ground.phase }, { on := 2, ground := Ground.phase }, { on := 3, ground := Ground.phase }, { on := 4, ground := Ground.phase }, { on := 5, ground := Ground.phase }, { on := 6, ground := Ground.phase }], guard := none } : Oper) (by kernel_rfl) rfl (fun K hK => ?_)
        rw [if_pos (by rfl)]; refine wp_store_row 28 (.tmp 4) (.tmp 33) rfl (w.heap.size + 1) #[.slice a5 n5 c5, .int .i64 d2.cap, .int .i64 d2.ops, .bool d2.down, .bool d2.told, .int .i64 d2.after] rfl rfl _ dz HS5.out.d1.1 disk_info (by rfl) (by simp [Value.oneCell']) ?_
        refine hK.out _ _ ?_ (fun hS1 => ?_)
        · (first | exact hS | exact hS.next hb | exact hS.over _ (by omega) _)
        clear hK K hS; have hS := hS1; clear hS1
        (try simp only [Act.put])
        refine wpAnyH_take (i := 8) (oi := ({ dst := some 5, op := Op.assign (Operand.tmp 34), type := 30, pos := "ref.go:110", after := #[{ on := 6, ground := Ground.data }, { on := 7, ground := Ground.chain }, { on := 0, ground := Ground.phase }, { on := 1, ground := Ground.phase }, { on := 2, ground := Ground.phase }, { on := 3, ground := Ground.phase }, { on := 4, ground := Ground.phase }, { on := 5, ground := Ground.phase }, { on := 6, ground := Ground.phase }, { on := 7, ground := Ground.phase }], guard := none } : Oper)) (v := ?_) rfl (by kernel_rfl) (by kernel_rfl) (by kernel_rfl) (fun _ _ _ h => h) (Or.inl ⟨by rfl, ?_⟩) hS ?_
        rotate_left
        · (intro w hSw; (try dsimp only at hSw); go_simp; try with_reducible rfl)
        (try simp only [Act.put, List.setIfInBounds_toArray, List.set_cons_zero, List.set_cons_succ])
        refine wpAnyH_done (by kernel_rfl) ?_ _
        go_wp2
        obtain ⟨e1, e2, e3⟩ := HS5.out.done (cs' := #[.slice a5 n5 c5, .int .i64 d2.cap, .int .i64 d2.ops, .bool d2.down, .bool d2.told, .int .i64 d2.after]) HR5.out rfl
        exact bodyPost_ret_by (results_row_tmp rfl _ _ (w.heap.size + 1) _ rfl (disk_load e1.1 rfl)) rfl ⟨_, rfl, e2, e3⟩
      simp only [if_neg h4] at HU ⊢
      (try rw [if_neg (by simp)])
      obtain ⟨⟨d2, e2⟩, hr⟩ : ∃ r, d.removeR s = r := ⟨_, rfl⟩
      have HM := rremove_of hg hr
      simp only [hr]
      clear hr
      go_enter Tryd.func11, Tryd.ntmps11
      go_wp2_with (first
        | (refine wpl_load_dbP (by rfl) _ rfl w.heap.size rfl _ HS3.out.d0 ?_)
        | (refine wpl_load_dbP (by rfl) _ rfl w.heap.size rfl _ HS2.out.d0 ?_)
        | (refine wpl_load_dbP (by rfl) _ rfl w.heap.size rfl _ HS1.out.d0 ?_)
        | (refine wpl_load_dbP (by rfl) _ rfl w.heap.size rfl _ HS.out.d0 ?_)
        | (go_at_call 26; (with_reducible refine (HZ.out _ _ (HS.out.rd.kin (unmask _ _))).mono ?_); rintro e w1 ⟨rfl, hb⟩; have HS1 := Lib.hid (HS.out.next hb); clear hb)
        | (go_at_call 26; (with_reducible refine (HZ.out _ _ (HS1.out.rd.kin (unmask _ _))).mono ?_); rintro e w2 ⟨rfl, hb⟩; have HS2 := Lib.hid (HS1.out.next hb); clear hb)
        | (go_at_call 27; (with_reducible refine (HU.out _ _ (HS2.out.rd.kin (unmask _ _))).mono ?_); rintro e w3 ⟨rfl, hb⟩; have HS3 := Lib.hid (HS2.out.next hb); clear hb)
        | (go_at_call 30; (with_reducible refine (HM.out _ _ _ HS3.out.foot HS3.out.rd).mono ?_); rintro e w4 ⟨v4, rfl, hr, hb⟩; have HS4 := Lib.hid (HS3.out.next hb); clear hb; obtain ⟨a4, n4, c4, rfl, _⟩ := hr.agg; have HR4 := Lib.hid hr; clear hr)
        | (refine wpList_store_row rfl 28 _ _ rfl (w.heap.size + 1) #[.slice a4 n4 c4, .int .i64 d2.cap, .int .i64 d2.ops, .bool d2.down, .bool d2.told, .int .i64 d2.after] rfl rfl _ dz HS4.out.d1.1 disk_info (by rfl) (by simp [Value.oneCell']) ?_))
      obtain ⟨e1, e2, e3⟩ := HS4.out.done (cs' := #[.slice a4 n4 c4, .int .i64 d2.cap, .int .i64 d2.ops, .bool d2.down, .bool d2.told, .int .i64 d2.after]) HR4.out rfl
      exact bodyPost_ret_by (results_row_tmp rfl _ _ (w.heap.size + 1) _ rfl (disk_load e1.1 rfl)) rfl ⟨_, rfl, e2, e3⟩
    · rw [if_neg (by simp [h17])]
      obtain ⟨⟨d2, e2⟩, hr⟩ : ∃ r, d.removeR s = r := ⟨_, rfl⟩
      have HM := rremove_of hg hr
      simp only [hr]
      clear hr
      go_enter Tryd.func11, Tryd.ntmps11
      go_wp2_with (first
        | (refine wpl_load_dbP (by rfl) _ rfl w.heap.size rfl _ HS3.out.d0 ?_)
        | (refine wpl_load_dbP (by rfl) _ rfl w.heap.size rfl _ HS2.out.d0 ?_)
        | (refine wpl_load_dbP (by rfl) _ rfl w.heap.size rfl _ HS1.out.d0 ?_)
        | (refine wpl_load_dbP (by rfl) _ rfl w.heap.size rfl _ HS.out.d0 ?_)
        | (go_at_call 26; (with_reducible refine (HZ.out _ _ (HS.out.rd.kin (unmask _ _))).mono ?_); rintro e w1 ⟨rfl, hb⟩; have HS1 := Lib.hid (HS.out.next hb); clear hb)
        | (go_at_call 26; (with_reducible refine (HZ.out _ _ (HS1.out.rd.kin (unmask _ _))).mono ?_); rintro e w2 ⟨rfl, hb⟩; have HS2 := Lib.hid (HS1.out.next hb); clear hb)
        | (go_at_call 30; (with_reducible refine (HM.out _ _ _ HS2.out.foot HS2.out.rd).mono ?_); rintro e w4 ⟨v4, rfl, hr, hb⟩; have HS4 := Lib.hid (HS2.out.next hb); clear hb; obtain ⟨a4, n4, c4, rfl, _⟩ := hr.agg; have HR4 := Lib.hid hr; clear hr)
        | (refine wpList_store_row rfl 28 _ _ rfl (w.heap.size + 1) #[.slice a4 n4 c4, .int .i64 d2.cap, .int .i64 d2.ops, .bool d2.down, .bool d2.told, .int .i64 d2.after] rfl rfl _ dz HS4.out.d1.1 disk_info (by rfl) (by simp [Value.oneCell']) ?_))
      obtain ⟨e1, e2, e3⟩ := HS4.out.done (cs' := #[.slice a4 n4 c4, .int .i64 d2.cap, .int .i64 d2.ops, .bool d2.down, .bool d2.told, .int .i64 d2.after]) HR4.out rfl
      exact bodyPost_ret_by (results_row_tmp rfl _ _ (w.heap.size + 1) _ rfl (disk_load e1.1 rfl)) rfl ⟨_, rfl, e2, e3⟩
end Go.Proofs.YtoempaagpgoilaaDoor
/-
  WHAT THE DOCUMENT'S ANSWERS OF LAYER 21 (pool) ANSWER: the reference's Clean. Written by wip/gen/g37.py.
-/
namespace Go.Proofs.YtoempaagpgoilaaDoor
open Go.RowKit
/-- where Clean stands: the box, the result's cell, and the three names in a block -/
structure ClS (F : Nat → Bool) (w : World) (g : Nat) (cs : Array Value) (d : AD) (W : World) : Prop where
  st : St F w cs d W
  row : W.heap[g]? = some (.cells #[.string fr0, .string fr1, .string fr2] 9 (0, 0))
  far : w.heap.size + 2 ≤ g
theorem keep_blk {W W' : World} {g : Nat} {o : Obj} (hb : Below W.heap.size W W') (h : W.heap[g]? = some o) : W'.heap[g]? = some o := by
  rw [hb.block g (Array.getElem?_eq_some_iff.1 h).1]; exact h
theorem ClS.next {F : Nat → Bool} {w W W' : World} {g : Nat} {cs : Array Value} {d : AD} (h : ClS F w g cs d W) (hb : Below W.heap.size W W') : ClS F w g cs d W' :=
  ⟨h.st.next hb, keep_blk hb h.row, h.far⟩
theorem row_cell {W : World} {g : Nat} (h : W.heap[g]? = some (.cells #[.string fr0, .string fr1, .string fr2] 9 (0, 0))) (i : Nat) (hi : i < 3) : W.cell? ⟨g, i, none⟩ = some (.string (frN i)) := by
  rw [cell_of_row _ g i _ _ _ h]
  rcases i with _ | _ | _ | i
  · rfl
  · rfl
  · rfl
  · omega
theorem row_cell0 {W : World} {g : Nat} (h : W.heap[g]? = some (.cells #[.string fr0, .string fr1, .string fr2] 9 (0, 0))) (i : Nat) (hi : i < 3) : W.cell? ⟨g, 0 + i, none⟩ = some (.string (frN i)) := by
  rw [Nat.zero_add]; exact row_cell h i hi
theorem ClS.cell {F : Nat → Bool} {w W : World} {g : Nat} {cs : Array Value} {d : AD} (h : ClS F w g cs d W) (i : Nat) (hi : i < 3) : W.cell? ⟨g, i, none⟩ = some (.string (frN i)) := row_cell h.row i hi
theorem ClS.cell0 {F : Nat → Bool} {w W : World} {g : Nat} {cs : Array Value} {d : AD} (h : ClS F w g cs d W) (i : Nat) (hi : i < 3) : W.cell? ⟨g, 0 + i, none⟩ = some (.string (frN i)) := row_cell0 h.row i hi
theorem ClS.put {F : Nat → Bool} {w W : World} {g : Nat} {cs cs' : Array Value} {d d' : AD} (h : ClS F w g cs d W) (hr : RD (mask (boxF F w) W) (.agg cs') d') (h6 : cs'.size = 6) : ClS F w g cs' d' (W.setRow w.heap.size cs') :=
  ⟨h.st.put hr h6, by have := h.far; rw [setRow_other W _ g cs' (by omega)]; exact h.row, h.far⟩
/-- a box that is made ahead of a call, and filled behind it -/
theorem boxed_foot {F : Nat → Bool} {w w' : World} (hF : Foot F w.heap.size) (hb : Below w.heap.size w w') : Foot (plusF F w.heap.size w'.heap.size) w'.heap.size := plusF_foot hF hb.size
theorem boxed_rd {F : Nat → Bool} {w w' : World} {v : Value} {d : AD} (h : RD (mask F w) v d) (hb : Below w.heap.size w w') : RD (mask (plusF F w.heap.size w'.heap.size) w') v d := h.kin (plusF_ext hb).kin
theorem boxed_out {F : Nat → Bool} {n m q : Nat} {w : World} {v : Value} {d : AD} (h : RD (mask (plusF F n m) w) v d) (cs : Array Value) (hq : n ≤ q := by first | exact Nat.le_refl _ | simp) (hm : q < m := by simp) : RD (mask F (w.setRow q cs)) v d :=
  (h.kin ((Ext.refl _ w).setRow q (plusF_in F n m q hq hm) cs).kin).kin (mask_mono (plusF_mono F n m) _)
set_option maxRecDepth 8000 in
set_option maxHeartbeats 1000000 in
theorem rclean_any (F : Nat → Bool) (vd : Value) (d : AD) (w : World) (hF : Foot F w.heap.size) (h : RD (mask F w) vd d) (hg : Good d) :
    Calls Tryd.prog 15 #[vd] w fun e w' => ∃ v', e = .returned (.tuple #[v', .int .i64 d.cleanR.2]) ∧ RD (mask F w') v' d.cleanR.1 ∧ Below w.heap.size w w' := by
  obtain ⟨a, n, cap, rfl, hn, hc1, hc2⟩ := h.agg
  have hst := St.start hF rfl h
  obtain ⟨W2, hW2⟩ : ∃ W2, (w.alloc (.cells #[.slice a n cap, .int .i64 d.cap, .int .i64 d.ops, .bool d.down, .bool d.told, .int .i64 d.after] 28)).alloc (.cells #[.slice none 0 0, .int .i64 0, .int .i64 0, .bool false, .bool false, .int .i64 0] 28) = W2 := ⟨_, rfl⟩
  rw [hW2] at hst
  have HS := Lib.hid hst
  obtain ⟨q0, q1, q2, q3, q4, q5⟩ := hst.d0.six
  clear hst hn h hF
  unfold AD.cleanR
  by_cases hd : d.down = true
  · rw [if_pos hd]
    simp only [hd] at q3 hW2 HS ⊢
    clear hd
    go_enter Tryd.func15, Tryd.ntmps15
    go_wp2_with (first
      | (refine wpList_load_row rfl 28 _ rfl w.heap.size rfl _ _ (0, 0) _ HS.out.d0.1 Tryd.underlying28 rfl HS.out.d0.info ?_)
      | (refine wpList_store_row rfl 28 _ _ rfl (w.heap.size + 1) #[.slice a n cap, .int .i64 d.cap, .int .i64 d.ops, .bool true, .bool d.told, .int .i64 d.after] rfl rfl _ dz HS.out.d1.1 disk_info (by rfl) (by simp [Value.oneCell']) ?_))
    obtain ⟨e1, e2, e3⟩ := HS.out.done (cs' := #[.slice a n cap, .int .i64 d.cap, .int .i64 d.ops, .bool true, .bool d.told, .int .i64 d.after]) HS.out.rd rfl
    exact bodyPost_ret_by (results_row_tmp rfl _ _ (w.heap.size + 1) _ rfl (disk_load e1.1 rfl)) rfl ⟨_, rfl, e2, e3⟩
  · rw [if_neg hd]
    rw [Bool.not_eq_true] at hd
    simp only [hd] at q3 hW2 HS ⊢
    have HD := Lib.hid hd
    clear hd
    go_enter Tryd.func15, Tryd.ntmps15
    go_wp2_with fail
    obtain ⟨g, hgg⟩ : ∃ g, W2.heap.size = g := ⟨_, rfl⟩
    have HC0 : Hid (ClS F w g #[.slice a n cap, .int .i64 d.cap, .int .i64 d.ops, .bool false, .bool d.told, .int .i64 d.after] d (W2.alloc (.cells #[.string fr0, .string fr1, .string fr2] 9))) := Lib.hid ⟨HS.out.next (below_alloc _ _), by rw [← hgg]; exact heap_alloc_last _ _, by rw [← hgg]; exact HS.out.size⟩
    rw [hgg]
    have HG := Lib.hid hg
    clear q0 q1 q2 q3 q4 q5 hW2 HS hgg hg
    go_loopw [5] (fun iv wr => ∃ (i : Nat) (dk : AD) (ak : Option Addr) (nk ck : Nat), iv = .int .i64 i ∧ i ≤ 3 ∧ Hid (d.cleanK i = (dk, 0)) ∧ Hid (ClS F w g #[.slice ak nk ck, .int .i64 dk.cap, .int .i64 dk.ops, .bool dk.down, .bool dk.told, .int .i64 dk.after] dk wr)) (fun iv _ => 3 - (intOf iv).toNat)
    case atStart => exact ⟨0, d, a, n, cap, rfl, by omega, Lib.hid rfl, by rw [HD.out]; exact HC0⟩
    case round =>
      obtain ⟨i, dk, ak, nk, ck, rfl, hi, HK, HC⟩ := hrel
      by_cases hlt : (i : Int) < 3
      · have hgk : Good dk := by have := HG.out.cleanK i; rwa [HK.out] at this
        have HGK := Lib.hid hgk
        obtain ⟨x, hx⟩ : ∃ x, szI dk (frN i) = x := ⟨_, rfl⟩
        have hxx := sz_le hgk (frN i)
        have HX := Lib.hid hx
        rw [hx] at hxx
        have HZ := rsize_of hx
        have HCD := Lib.hid (HC.out.next (Below.refl _ _).drew)
        clear hx hgk
        have hi3 : i < 3 := by omega
        by_cases h0 : x = 0
        · subst h0
          go_wp2_with fail
          refine wp_region_held_drew (S := (fun W' => ClS F w g #[.slice ak nk ck, .int .i64 dk.cap, .int .i64 dk.ops, .bool dk.down, .bool dk.told, .int .i64 dk.after] dk W')) (by kernel_rfl) HCD.out (fun hS => ?_)
          refine wpAnyH_take (i := 0) (oi := ({ dst := some 16, op := Op.load 28 (Operand.tmp 1), type := 28, pos := "ref.go:55", after := #[], guard := none } : Oper)) (v := ?_) rfl (by kernel_rfl) (by kernel_rfl) (by kernel_rfl) (fun _ _ _ h => h) (Or.inl ⟨by rfl, ?_⟩) hS ?_
          rotate_left
          · (intro w hSw; (try dsimp only at hSw); refine exec_load_db (.tmp 1) ?_ ?_ hSw.st.d0 <;> rfl)
          (try simp only [Act.put, List.setIfInBounds_toArray, List.set_cons_zero, List.set_cons_succ])
          refine wpAnyH_take (i := 1) (oi := ({ dst := some 17, op := Op.move (Operand.tmp 4), type := 64, pos := "ref.go:55", after := #[], guard := none } : Oper)) (v := ?_) rfl (by kernel_rfl) (by kernel_rfl) (by kernel_rfl) (fun _ _ _ h => h) (Or.inl ⟨by rfl, ?_⟩) hS ?_
          rotate_left
          · (intro w hSw; (try dsimp only at hSw); go_simp; try with_reducible rfl)
          (try simp only [Act.put, List.setIfInBounds_toArray, List.set_cons_zero, List.set_cons_succ])
          refine wpAnyH_take (i := 2) (oi := ({ dst := some 18, op := Op.move (Operand.tmp 5), type := 3, pos := "ref.go:55", after := #[], guard := none } : Oper)) (v := ?_) rfl (by kernel_rfl) (by kernel_rfl) (by kernel_rfl) (fun _ _ _ h => h) (Or.inl ⟨by rfl, ?_⟩) hS ?_
          rotate_left
          · (intro w hSw; (try dsimp only at hSw); go_simp; try with_reducible rfl)
          (try simp only [Act.put, List.setIfInBounds_toArray, List.set_cons_zero, List.set_cons_succ])
          refine wpAnyH_take (i := 3) (oi := ({ dst := some 19, op := Op.indexAddr 64 (Operand.tmp 17) (Operand.tmp 18), type := 0, pos := "ref.go:55", after := #[{ on := 1, ground := Ground.data }, { on := 2, ground := Ground.data }], guard := none } : Oper)) (v := ?_) rfl (by kernel_rfl) (by kernel_rfl) (by kernel_rfl) (fun _ _ _ h => h) (Or.inl ⟨by rfl, ?_⟩) hS ?_
          rotate_left
          · (intro w hSw; (try dsimp only at hSw); go_simp; try with_reducible rfl)
          (try simp only [Act.put, List.setIfInBounds_toArray, List.set_cons_zero, List.set_cons_succ])
          refine wpAnyH_take (i := 4) (oi := ({ dst := some 20, op := Op.load 9 (Operand.tmp 19), type := 9, pos := "ref.go:55", after := #[{ on := 3, ground := Ground.data }], guard := none } : Oper)) (v := ?_) rfl (by kernel_rfl) (by kernel_rfl) (by kernel_rfl) (fun _ _ _ h => h) (Or.inl ⟨by rfl, ?_⟩) hS ?_
          rotate_left
          · (intro w hSw; (try dsimp only at hSw); have z0 := hSw.cell i hi3; have z1 := hSw.cell0 i hi3; go_simp; try with_reducible rfl)
          (try simp only [Act.put, List.setIfInBounds_toArray, List.set_cons_zero, List.set_cons_succ])
          refine rg_one 5 ({ dst := some 21, op := Op.call { callee := Callee.value (Operand.func 26), args := #[Operand.tmp 16, Operand.tmp 20], argTypes := #[28, 9] }, type := 3, pos := "ref.go:55", after := #[{ on := 0, ground := Ground.data }, { on := 4, ground := Ground.data }], guard := none } : Oper) (by kernel_rfl) rfl (fun K hK => ?_)
          go_simp
          (go_at_call 26; (with_reducible refine (HZ.out _ _ (HCD.out.st.rd.kin (unmask _ _))).mono ?_); rintro e w1 ⟨rfl, hb⟩; have HC1 := Lib.hid (HCD.out.next hb))
          refine hK.out _ _ ?_ (fun hS1 => ?_)
          · (first | exact hS | exact hS.next hb)
          clear hK K hS; have hS := hS1; clear hS1
          (try simp only [Act.put, List.setIfInBounds_toArray, List.set_cons_zero, List.set_cons_succ])
          refine wpAnyH_take (i := 6) (oi := ({ dst := some 22, op := Op.binOp BinOp.gtr 3 (Operand.tmp 21) (Operand.const (Value.int IntKind.i64 0)) 3, type := 4, pos := "ref.go:55", after := #[{ on := 5, ground := Ground.data }], guard := none } : Oper)) (v := ?_) rfl (by kernel_rfl) (by kernel_rfl) (by kernel_rfl) (fun _ _ _ h => h) (Or.inl ⟨by rfl, ?_⟩) hS ?_
          rotate_left
          · (intro w hSw; (try dsimp only at hSw); go_simp; try with_reducible rfl)
          (try simp only [Act.put, List.setIfInBounds_toArray, List.set_cons_zero, List.set_cons_succ])
          refine wpAnyH_take (i := 7) (oi := ({ dst := some 23, op := Op.move (Operand.tmp 22), type := 4, pos := "ref.go:55", after := #[{ on := 6, ground := Ground.data }, { on := 5, ground := Ground.chain }], guard := none } : Oper)) (v := ?_) rfl (by kernel_rfl) (by kernel_rfl) (by kernel_rfl) (fun _ _ _ h => h) (Or.inl ⟨by rfl, ?_⟩) hS ?_
          rotate_left
          · (intro w hSw; (try dsimp only at hSw); go_simp; try with_reducible rfl)
          (try simp only [Act.put, List.setIfInBounds_toArray, List.set_cons_zero, List.set_cons_succ])
          refine wpAnyH_take (i := 8) (oi := ({ dst := some 24, op := Op.load 28 (Operand.tmp 1), type := 28, pos := "ref.go:55", after := #[{ on := 7, ground := Ground.guard }], guard := some (7, true) } : Oper)) (v := undef) rfl (by kernel_rfl) (by kernel_rfl) (by kernel_rfl) (fun _ _ _ h => h) (Or.inr ⟨by rfl, rfl⟩) hS ?_
          (try simp only [Act.put, List.setIfInBounds_toArray, List.set_cons_zero, List.set_cons_succ])
          refine wpAnyH_take (i := 9) (oi := ({ dst := some 25, op := Op.move (Operand.tmp 4), type := 64, pos := "ref.go:55", after := #[{ on := 7, ground := Ground.guard }], guard := some (7, true) } : Oper)) (v := undef) rfl (by kernel_rfl) (by kernel_rfl) (by kernel_rfl) (fun _ _ _ h => h) (Or.inr ⟨by rfl, rfl⟩) hS ?_
          (try simp only [Act.put, List.setIfInBounds_toArray, List.set_cons_zero, List.set_cons_succ])
          refine wpAnyH_take (i := 10) (oi := ({ dst := some 26, op := Op.move (Operand.tmp 5), type := 3, pos := "ref.go:55", after := #[{ on := 7, ground := Ground.guard }], guard := some (7, true) } : Oper)) (v := undef) rfl (by kernel_rfl) (by kernel_rfl) (by kernel_rfl) (fun _ _ _ h => h) (Or.inr ⟨by rfl, rfl⟩) hS ?_
          (try simp only [Act.put, List.setIfInBounds_toArray, List.set_cons_zero, List.set_cons_succ])
          refine wpAnyH_take (i := 11) (oi := ({ dst := some 27, op := Op.indexAddr 64 (Operand.tmp 25) (Operand.tmp 26), type := 0, pos := "ref.go:55", after := #[{ on := 9, ground := Ground.data }, { on := 10, ground := Ground.data }, { on := 7, ground := Ground.guard }], guard := some (7, true) } : Oper)) (v := undef) rfl (by kernel_rfl) (by kernel_rfl) (by kernel_rfl) (fun _ _ _ h => h) (Or.inr ⟨by rfl, rfl⟩) hS ?_
          (try simp only [Act.put, List.setIfInBounds_toArray, List.set_cons_zero, List.set_cons_succ])
          refine wpAnyH_take (i := 12) (oi := ({ dst := some 28, op := Op.load 9 (Operand.tmp 27), type := 9, pos := "ref.go:55", after := #[{ on := 11, ground := Ground.data }, { on := 7, ground := Ground.guard }], guard := some (7, true) } : Oper)) (v := undef) rfl (by kernel_rfl) (by kernel_rfl) (by kernel_rfl) (fun _ _ _ h => h) (Or.inr ⟨by rfl, rfl⟩) hS ?_
          (try simp only [Act.put, List.setIfInBounds_toArray, List.set_cons_zero, List.set_cons_succ])
          refine wpAnyH_take (i := 13) (oi := ({ dst := some 29, op := Op.call { callee := Callee.value (Operand.func 26), args := #[Operand.tmp 24, Operand.tmp 28], argTypes := #[28, 9] }, type := 3, pos := "ref.go:55", after := #[{ on := 8, ground := Ground.data }, { on := 12, ground := Ground.data }, { on := 7, ground := Ground.chain }, { on := 7, ground := Ground.guard }], guard := some (7, true) } : Oper)) (v := undef) rfl (by kernel_rfl) (by kernel_rfl) (by kernel_rfl) (fun _ _ _ h => h) (Or.inr ⟨by rfl, rfl⟩) hS ?_
          (try simp only [Act.put, List.setIfInBounds_toArray, List.set_cons_zero, List.set_cons_succ])
          refine wpAnyH_take (i := 14) (oi := ({ dst := some 30, op := Op.binOp BinOp.neq 3 (Operand.tmp 29) (Operand.const (Value.int IntKind.i64 17)) 3, type := 4, pos := "ref.go:55", after := #[{ on := 13, ground := Ground.data }, { on := 7, ground := Ground.guard }], guard := some (7, true) } : Oper)) (v := undef) rfl (by kernel_rfl) (by kernel_rfl) (by kernel_rfl) (fun _ _ _ h => h) (Or.inr ⟨by rfl, rfl⟩) hS ?_
          (try simp only [Act.put, List.setIfInBounds_toArray, List.set_cons_zero, List.set_cons_succ])
          refine wpAnyH_take (i := 15) (oi := ({ dst := some 31, op := Op.pick (Operand.tmp 23) (Operand.tmp 30) (Operand.const (Value.bool false)), type := 4, pos := "ref.go:55", after := #[{ on := 7, ground := Ground.data }, { on := 14, ground := Ground.data }], guard := none } : Oper)) (v := ?_) rfl (by kernel_rfl) (by kernel_rfl) (by kernel_rfl) (fun _ _ _ h => h) (Or.inl ⟨by rfl, ?_⟩) hS ?_
          rotate_left
          · (intro w hSw; (try dsimp only at hSw); go_simp; try with_reducible rfl)
          (try simp only [Act.put, List.setIfInBounds_toArray, List.set_cons_zero, List.set_cons_succ])
          refine wpAnyH_done (by kernel_rfl) ?_ _
          clear hS
          have HN : Hid (d.cleanK (i + 1) = (dk, 0)) := Lib.hid (by rw [cleanK_step (by rw [HK.out]), HK.out]; exact expel_not_there (.inl HX.out))
          go_wp2_with fail
          exact ⟨⟨i + 1, dk, ak, nk, ck, by go_num, by omega, HN, HC1⟩, by simp [intOf]; omega⟩
        by_cases h17 : x = 17
        · subst h17
          go_wp2_with fail
          refine wp_region_held_drew (S := (fun W' => ClS F w g #[.slice ak nk ck, .int .i64 dk.cap, .int .i64 dk.ops, .bool dk.down, .bool dk.told, .int .i64 dk.after] dk W')) (by kernel_rfl) HCD.out (fun hS => ?_)
          refine wpAnyH_take (i := 0) (oi := ({ dst := some 16, op := Op.load 28 (Operand.tmp 1), type := 28, pos := "ref.go:55", after := #[], guard := none } : Oper)) (v := ?_) rfl (by kernel_rfl) (by kernel_rfl) (by kernel_rfl) (fun _ _ _ h => h) (Or.inl ⟨by rfl, ?_⟩) hS ?_
          rotate_left
          · (intro w hSw; (try dsimp only at hSw); refine exec_load_db (.tmp 1) ?_ ?_ hSw.st.d0 <;> rfl)
          (try simp only [Act.put, List.setIfInBounds_toArray, List.set_cons_zero, List.set_cons_succ])
          refine wpAnyH_take (i := 1) (oi := ({ dst := some 17, op := Op.move (Operand.tmp 4), type := 64, pos := "ref.go:55", after := #[], guard := none } : Oper)) (v := ?_) rfl (by kernel_rfl) (by kernel_rfl) (by kernel_rfl) (fun _ _ _ h => h) (Or.inl ⟨by rfl, ?_⟩) hS ?_
          rotate_left
          · (intro w hSw; (try dsimp only at hSw); go_simp; try with_reducible rfl)
          (try simp only [Act.put, List.setIfInBounds_toArray, List.set_cons_zero, List.set_cons_succ])
          refine wpAnyH_take (i := 2) (oi := ({ dst := some 18, op := Op.move (Operand.tmp 5), type := 3, pos := "ref.go:55", after := #[], guard := none } : Oper)) (v := ?_) rfl (by kernel_rfl) (by kernel_rfl) (by kernel_rfl) (fun _ _ _ h => h) (Or.inl ⟨by rfl, ?_⟩) hS ?_
          rotate_left
          · (intro w hSw; (try dsimp only at hSw); go_simp; try with_reducible rfl)
          (try simp only [Act.put, List.setIfInBounds_toArray, List.set_cons_zero, List.set_cons_succ])
          refine wpAnyH_take (i := 3) (oi := ({ dst := some 19, op := Op.indexAddr 64 (Operand.tmp 17) (Operand.tmp 18), type := 0, pos := "ref.go:55", after := #[{ on := 1, ground := Ground.data }, { on := 2, ground := Ground.data }], guard := none } : Oper)) (v := ?_) rfl (by kernel_rfl) (by kernel_rfl) (by kernel_rfl) (fun _ _ _ h => h) (Or.inl ⟨by rfl, ?_⟩) hS ?_
          rotate_left
          · (intro w hSw; (try dsimp only at hSw); go_simp; try with_reducible rfl)
          (try simp only [Act.put, List.setIfInBounds_toArray, List.set_cons_zero, List.set_cons_succ])
          refine wpAnyH_take (i := 4) (oi := ({ dst := some 20, op := Op.load 9 (Operand.tmp 19), type := 9, pos := "ref.go:55", after := #[{ on := 3, ground := Ground.data }], guard := none } : Oper)) (v := ?_) rfl (by kernel_rfl) (by kernel_rfl) (by kernel_rfl) (fun _ _ _ h => h) (Or.inl ⟨by rfl, ?_⟩) hS ?_
          rotate_left
          · (intro w hSw; (try dsimp only at hSw); have z0 := hSw.cell i hi3; have z1 := hSw.cell0 i hi3; go_simp; try with_reducible rfl)
          (try simp only [Act.put, List.setIfInBounds_toArray, List.set_cons_zero, List.set_cons_succ])
          refine rg_one 5 ({ dst := some 21, op := Op.call { callee := Callee.value (Operand.func 26), args := #[Operand.tmp 16, Operand.tmp 20], argTypes := #[28, 9] }, type := 3, pos := "ref.go:55", after := #[{ on := 0, ground := Ground.data }, { on := 4, ground := Ground.data }], guard := none } : Oper) (by kernel_rfl) rfl (fun K hK => ?_)
          go_simp
          (go_at_call 26; (with_reducible refine (HZ.out _ _ (HCD.out.st.rd.kin (unmask _ _))).mono ?_); rintro e w1 ⟨rfl, hb⟩; have HC1 := Lib.hid (HCD.out.next hb))
          refine hK.out _ _ ?_ (fun hS1 => ?_)
          · (first | exact hS | exact hS.next hb)
          clear hK K hS; have hS := hS1; clear hS1
          (try simp only [Act.put, List.setIfInBounds_toArray, List.set_cons_zero, List.set_cons_succ])
          refine wpAnyH_take (i := 6) (oi := ({ dst := some 22, op := Op.binOp BinOp.gtr 3 (Operand.tmp 21) (Operand.const (Value.int IntKind.i64 0)) 3, type := 4, pos := "ref.go:55", after := #[{ on := 5, ground := Ground.data }], guard := none } : Oper)) (v := ?_) rfl (by kernel_rfl) (by kernel_rfl) (by kernel_rfl) (fun _ _ _ h => h) (Or.inl ⟨by rfl, ?_⟩) hS ?_
          rotate_left
          · (intro w hSw; (try dsimp only at hSw); go_simp; try with_reducible rfl)
          (try simp only [Act.put, List.setIfInBounds_toArray, List.set_cons_zero, List.set_cons_succ])
          refine wpAnyH_take (i := 7) (oi := ({ dst := some 23, op := Op.move (Operand.tmp 22), type := 4, pos := "ref.go:55", after := #[{ on := 6, ground := Ground.data }, { on := 5, ground := Ground.chain }], guard := none } : Oper)) (v := ?_) rfl (by kernel_rfl) (by kernel_rfl) (by kernel_rfl) (fun _ _ _ h => h) (Or.inl ⟨by rfl, ?_⟩) hS ?_
          rotate_left
          · (intro w hSw; (try dsimp only at hSw); go_simp; try with_reducible rfl)
          (try simp only [Act.put, List.setIfInBounds_toArray, List.set_cons_zero, List.set_cons_succ])
          refine wpAnyH_take (i := 8) (oi := ({ dst := some 24, op := Op.load 28 (Operand.tmp 1), type := 28, pos := "ref.go:55", after := #[{ on := 7, ground := Ground.guard }], guard := some (7, true) } : Oper)) (v := ?_) rfl (by kernel_rfl) (by kernel_rfl) (by kernel_rfl) (fun _ _ _ h => h) (Or.inl ⟨by rfl, ?_⟩) hS ?_
          rotate_left
          · (intro w hSw; (try dsimp only at hSw); refine exec_load_db (.tmp 1) ?_ ?_ hSw.st.d0 <;> rfl)
          (try simp only [Act.put, List.setIfInBounds_toArray, List.set_cons_zero, List.set_cons_succ])
          refine wpAnyH_take (i := 9) (oi := ({ dst := some 25, op := Op.move (Operand.tmp 4), type := 64, pos := "ref.go:55", after := #[{ on := 7, ground := Ground.guard }], guard := some (7, true) } : Oper)) (v := ?_) rfl (by kernel_rfl) (by kernel_rfl) (by kernel_rfl) (fun _ _ _ h => h) (Or.inl ⟨by rfl, ?_⟩) hS ?_
          rotate_left
          · (intro w hSw; (try dsimp only at hSw); go_simp; try with_reducible rfl)
          (try simp only [Act.put, List.setIfInBounds_toArray, List.set_cons_zero, List.set_cons_succ])
          refine wpAnyH_take (i := 10) (oi := ({ dst := some 26, op := Op.move (Operand.tmp 5), type := 3, pos := "ref.go:55", after := #[{ on := 7, ground := Ground.guard }], guard := some (7, true) } : Oper)) (v := ?_) rfl (by kernel_rfl) (by kernel_rfl) (by kernel_rfl) (fun _ _ _ h => h) (Or.inl ⟨by rfl, ?_⟩) hS ?_
          rotate_left
          · (intro w hSw; (try dsimp only at hSw); go_simp; try with_reducible rfl)
          (try simp only [Act.put, List.setIfInBounds_toArray, List.set_cons_zero, List.set_cons_succ])
          refine wpAnyH_take (i := 11) (oi := ({ dst := some 27, op := Op.indexAddr 64 (Operand.tmp 25) (Operand.tmp 26), type := 0, pos := "ref.go:55", after := #[{ on := 9, ground := Ground.data }, { on := 10, ground := Ground.data }, { on := 7, ground := Ground.guard }], guard := some (7, true) } : Oper)) (v := ?_) rfl (by kernel_rfl) (by kernel_rfl) (by kernel_rfl) (fun _ _ _ h => h) (Or.inl ⟨by rfl, ?_⟩) hS ?_
          rotate_left
          · (intro w hSw; (try dsimp only at hSw); go_simp; try with_reducible rfl)
          (try simp only [Act.put, List.setIfInBounds_toArray, List.set_cons_zero, List.set_cons_succ])
          refine wpAnyH_take (i := 12) (oi := ({ dst := some 28, op := Op.load 9 (Operand.tmp 27), type := 9, pos := "ref.go:55", after := #[{ on := 11, ground := Ground.data }, { on := 7, ground := Ground.guard }], guard := some (7, true) } : Oper)) (v := ?_) rfl (by kernel_rfl) (by kernel_rfl) (by kernel_rfl) (fun _ _ _ h => h) (Or.inl ⟨by rfl, ?_⟩) hS ?_
          rotate_left
          · (intro w hSw; (try dsimp only at hSw); have z0 := hSw.cell i hi3; have z1 := hSw.cell0 i hi3; go_simp; try with_reducible rfl)
          (try simp only [Act.put, List.setIfInBounds_toArray, List.set_cons_zero, List.set_cons_succ])
          refine rg_one 13 ({ dst := some 29, op := Op.call { callee := Callee.value (Operand.func 26), args := #[Operand.tmp 24, Operand.tmp 28], argTypes := #[28, 9] }, type := 3, pos := "ref.go:55", after := #[{ on := 8, ground := Ground.data }, { on := 12, ground := Ground.data }, { on := 7, ground := Ground.chain }, { on := 7, ground := Ground.guard }], guard := some (7, true) } : Oper) (by kernel_rfl) rfl (fun K hK => ?_)
          go_simp
          (go_at_call 26; (with_reducible refine (HZ.out _ _ (HC1.out.st.rd.kin (unmask _ _))).mono ?_); rintro e w2 ⟨rfl, hb⟩; have HC2 := Lib.hid (HC1.out.next hb))
          refine hK.out _ _ ?_ (fun hS1 => ?_)
          · (first | exact hS | exact hS.next hb)
          clear hK K hS; have hS := hS1; clear hS1
          (try simp only [Act.put, List.setIfInBounds_toArray, List.set_cons_zero, List.set_cons_succ])
          refine wpAnyH_take (i := 14) (oi := ({ dst := some 30, op := Op.binOp BinOp.neq 3 (Operand.tmp 29) (Operand.const (Value.int IntKind.i64 17)) 3, type := 4, pos := "ref.go:55", after := #[{ on := 13, ground := Ground.data }, { on := 7, ground := Ground.guard }], guard := some (7, true) } : Oper)) (v := ?_) rfl (by kernel_rfl) (by kernel_rfl) (by kernel_rfl) (fun _ _ _ h => h) (Or.inl ⟨by rfl, ?_⟩) hS ?_
          rotate_left
          · (intro w hSw; (try dsimp only at hSw); go_simp; try with_reducible rfl)
          (try simp only [Act.put, List.setIfInBounds_toArray, List.set_cons_zero, List.set_cons_succ])
          refine wpAnyH_take (i := 15) (oi := ({ dst := some 31, op := Op.pick (Operand.tmp 23) (Operand.tmp 30) (Operand.const (Value.bool false)), type := 4, pos := "ref.go:55", after := #[{ on := 7, ground := Ground.data }, { on := 14, ground := Ground.data }], guard := none } : Oper)) (v := ?_) rfl (by kernel_rfl) (by kernel_rfl) (by kernel_rfl) (fun _ _ _ h => h) (Or.inl ⟨by rfl, ?_⟩) hS ?_
          rotate_left
          · (intro w hSw; (try dsimp only at hSw); go_simp; try with_reducible rfl)
          (try simp only [Act.put, List.setIfInBounds_toArray, List.set_cons_zero, List.set_cons_succ])
          refine wpAnyH_done (by kernel_rfl) ?_ _
          clear hS
          have HN : Hid (d.cleanK (i + 1) = (dk, 0)) := Lib.hid (by rw [cleanK_step (by rw [HK.out]), HK.out]; exact expel_not_there (.inr HX.out))
          go_wp2_with fail
          exact ⟨⟨i + 1, dk, ak, nk, ck, by go_num, by omega, HN, HC2⟩, by simp [intOf]; omega⟩
        have hp : 0 < x := by omega
        obtain ⟨⟨d2, e2⟩, hr⟩ : ∃ r, dk.removeR (frN i) = r := ⟨_, rfl⟩
        have HM := rremove_of HGK.out hr
        have HN : Hid (d.cleanK (i + 1) = (d2, e2)) := Lib.hid (by rw [cleanK_step (by rw [HK.out]), HK.out]; show dk.expelR (frN i) = _; rw [expel_there (by rw [HX.out]; omega), hr])
        clear hr
        go_wp2_with fail
        refine wp_region_held_drew (S := (fun W' => ClS F w g #[.slice ak nk ck, .int .i64 dk.cap, .int .i64 dk.ops, .bool dk.down, .bool dk.told, .int .i64 dk.after] dk W')) (by kernel_rfl) HCD.out (fun hS => ?_)
        refine wpAnyH_take (i := 0) (oi := ({ dst := some 16, op := Op.load 28 (Operand.tmp 1), type := 28, pos := "ref.go:55", after := #[], guard := none } : Oper)) (v := ?_) rfl (by kernel_rfl) (by kernel_rfl) (by kernel_rfl) (fun _ _ _ h => h) (Or.inl ⟨by rfl, ?_⟩) hS ?_
        rotate_left
        · (intro w hSw; (try dsimp only at hSw); refine exec_load_db (.tmp 1) ?_ ?_ hSw.st.d0 <;> rfl)
        (try simp only [Act.put, List.setIfInBounds_toArray, List.set_cons_zero, List.set_cons_succ])
        refine wpAnyH_take (i := 1) (oi := ({ dst := some 17, op := Op.move (Operand.tmp 4), type := 64, pos := "ref.go:55", after := #[], guard := none } : Oper)) (v := ?_) rfl (by kernel_rfl) (by kernel_rfl) (by kernel_rfl) (fun _ _ _ h => h) (Or.inl ⟨by rfl, ?_⟩) hS ?_
        rotate_left
        · (intro w hSw; (try dsimp only at hSw); go_simp; try with_reducible rfl)
        (try simp only [Act.put, List.setIfInBounds_toArray, List.set_cons_zero, List.set_cons_succ])
        refine wpAnyH_take (i := 2) (oi := ({ dst := some 18, op := Op.move (Operand.tmp 5), type := 3, pos := "ref.go:55", after := #[], guard := none } : Oper)) (v := ?_) rfl (by kernel_rfl) (by kernel_rfl) (by kernel_rfl) (fun _ _ _ h => h) (Or.inl ⟨by rfl, ?_⟩) hS ?_
        rotate_left
        · (intro w hSw; (try dsimp only at hSw); go_simp; try with_reducible rfl)
        (try simp only [Act.put, List.setIfInBounds_toArray, List.set_cons_zero, List.set_cons_succ])
        refine wpAnyH_take (i := 3) (oi := ({ dst := some 19, op := Op.indexAddr 64 (Operand.tmp 17) (Operand.tmp 18), type := 0, pos := "ref.go:55", after := #[{ on := 1, ground := Ground.data }, { on := 2, ground := Ground.data }], guard := none } : Oper)) (v := ?_) rfl (by kernel_rfl) (by kernel_rfl) (by kernel_rfl) (fun _ _ _ h => h) (Or.inl ⟨by rfl, ?_⟩) hS ?_
        rotate_left
        · (intro w hSw; (try dsimp only at hSw); go_simp; try with_reducible rfl)
        (try simp only [Act.put, List.setIfInBounds_toArray, List.set_cons_zero, List.set_cons_succ])
        refine wpAnyH_take (i := 4) (oi := ({ dst := some 20, op := Op.load 9 (Operand.tmp 19), type := 9, pos := "ref.go:55", after := #[{ on := 3, ground := Ground.data }], guard := none } : Oper)) (v := ?_) rfl (by kernel_rfl) (by kernel_rfl) (by kernel_rfl) (fun _ _ _ h => h) (Or.inl ⟨by rfl, ?_⟩) hS ?_
        rotate_left
        · (intro w hSw; (try dsimp only at hSw); have z0 := hSw.cell i hi3; have z1 := hSw.cell0 i hi3; go_simp; try with_reducible rfl)
        (try simp only [Act.put, List.setIfInBounds_toArray, List.set_cons_zero, List.set_cons_succ])
        refine rg_one 5 ({ dst := some 21, op := Op.call { callee := Callee.value (Operand.func 26), args := #[Operand.tmp 16, Operand.tmp 20], argTypes := #[28, 9] }, type := 3, pos := "ref.go:55", after := #[{ on := 0, ground := Ground.data }, { on := 4, ground := Ground.data }], guard := none } : Oper) (by kernel_rfl) rfl (fun K hK => ?_)
        go_simp
        (go_at_call 26; (with_reducible refine (HZ.out _ _ (HCD.out.st.rd.kin (unmask _ _))).mono ?_); rintro e w1 ⟨rfl, hb⟩; have HC1 := Lib.hid (HCD.out.next hb))
        refine hK.out _ _ ?_ (fun hS1 => ?_)
        · (first | exact hS | exact hS.next hb)
        clear hK K hS; have hS := hS1; clear hS1
        (try simp only [Act.put, List.setIfInBounds_toArray, List.set_cons_zero, List.set_cons_succ])
        refine wpAnyH_take (i := 6) (oi := ({ dst := some 22, op := Op.binOp BinOp.gtr 3 (Operand.tmp 21) (Operand.const (Value.int IntKind.i64 0)) 3, type := 4, pos := "ref.go:55", after := #[{ on := 5, ground := Ground.data }], guard := none } : Oper)) (v := ?_) rfl (by kernel_rfl) (by kernel_rfl) (by kernel_rfl) (fun _ _ _ h => h) (Or.inl ⟨by rfl, ?_⟩) hS ?_
        rotate_left
        · (intro w hSw; (try dsimp only at hSw); go_simp; try with_reducible rfl)
        (try simp only [Act.put, List.setIfInBounds_toArray, List.set_cons_zero, List.set_cons_succ])
        refine wpAnyH_take (i := 7) (oi := ({ dst := some 23, op := Op.move (Operand.tmp 22), type := 4, pos := "ref.go:55", after := #[{ on := 6, ground := Ground.data }, { on := 5, ground := Ground.chain }], guard := none } : Oper)) (v := ?_) rfl (by kernel_rfl) (by kernel_rfl) (by kernel_rfl) (fun _ _ _ h => h) (Or.inl ⟨by rfl, ?_⟩) hS ?_
        rotate_left
        · (intro w hSw; (try dsimp only at hSw); go_simp; try with_reducible rfl)
        (try simp only [Act.put, List.setIfInBounds_toArray, List.set_cons_zero, List.set_cons_succ])
        refine wpAnyH_take (i := 8) (oi := ({ dst := some 24, op := Op.load 28 (Operand.tmp 1), type := 28, pos := "ref.go:55", after := #[{ on := 7, ground := Ground.guard }], guard := some (7, true) } : Oper)) (v := ?_) rfl (by kernel_rfl) (by kernel_rfl) (by kernel_rfl) (fun _ _ _ h => h) (Or.inl ⟨by rfl, ?_⟩) hS ?_
        rotate_left
        · (intro w hSw; (try dsimp only at hSw); refine exec_load_db (.tmp 1) ?_ ?_ hSw.st.d0 <;> rfl)
        (try simp only [Act.put, List.setIfInBounds_toArray, List.set_cons_zero, List.set_cons_succ])
        refine wpAnyH_take (i := 9) (oi := ({ dst := some 25, op := Op.move (Operand.tmp 4), type := 64, pos := "ref.go:55", after := #[{ on := 7, ground := Ground.guard }], guard := some (7, true) } : Oper)) (v := ?_) rfl (by kernel_rfl) (by kernel_rfl) (by kernel_rfl) (fun _ _ _ h => h) (Or.inl ⟨by rfl, ?_⟩) hS ?_
        rotate_left
        · (intro w hSw; (try dsimp only at hSw); go_simp; try with_reducible rfl)
        (try simp only [Act.put, List.setIfInBounds_toArray, List.set_cons_zero, List.set_cons_succ])
        refine wpAnyH_take (i := 10) (oi := ({ dst := some 26, op := Op.move (Operand.tmp 5), type := 3, pos := "ref.go:55", after := #[{ on := 7, ground := Ground.guard }], guard := some (7, true) } : Oper)) (v := ?_) rfl (by kernel_rfl) (by kernel_rfl) (by kernel_rfl) (fun _ _ _ h => h) (Or.inl ⟨by rfl, ?_⟩) hS ?_
        rotate_left
        · (intro w hSw; (try dsimp only at hSw); go_simp; try with_reducible rfl)
        (try simp only [Act.put, List.setIfInBounds_toArray, List.set_cons_zero, List.set_cons_succ])
        refine wpAnyH_take (i := 11) (oi := ({ dst := some 27, op := Op.indexAddr 64 (Operand.tmp 25) (Operand.tmp 26), type := 0, pos := "ref.go:55", after := #[{ on := 9, ground := Ground.data }, { on := 10, ground := Ground.data }, { on := 7, ground := Ground.guard }], guard := some (7, true) } : Oper)) (v := ?_) rfl (by kernel_rfl) (by kernel_rfl) (by kernel_rfl) (fun _ _ _ h => h) (Or.inl ⟨by rfl, ?_⟩) hS ?_
        rotate_left
        · (intro w hSw; (try dsimp only at hSw); go_simp; try with_reducible rfl)
        (try simp only [Act.put, List.setIfInBounds_toArray, List.set_cons_zero, List.set_cons_succ])
        refine wpAnyH_take (i := 12) (oi := ({ dst := some 28, op := Op.load 9 (Operand.tmp 27), type := 9, pos := "ref.go:55", after := #[{ on := 11, ground := Ground.data }, { on := 7, ground := Ground.guard }], guard := some (7, true) } : Oper)) (v := ?_) rfl (by kernel_rfl) (by kernel_rfl) (by kernel_rfl) (fun _ _ _ h => h) (Or.inl ⟨by rfl, ?_⟩) hS ?_
        rotate_left
        · (intro w hSw; (try dsimp only at hSw); have z0 := hSw.cell i hi3; have z1 := hSw.cell0 i hi3; go_simp; try with_reducible rfl)
        (try simp only [Act.put, List.setIfInBounds_toArray, List.set_cons_zero, List.set_cons_succ])
        refine rg_one 13 ({ dst := some 29, op := Op.call { callee := Callee.value (Operand.func 26), args := #[Operand.tmp 24, Operand.tmp 28], argTypes := #[28, 9] }, type := 3, pos := "ref.go:55", after := #[{ on := 8, ground := Ground.data }, { on := 12, ground := Ground.data }, { on := 7, ground := Ground.chain }, { on := 7, ground := Ground.guard }], guard := some (7, true) } : Oper) (by kernel_rfl) rfl (fun K hK => ?_)
        go_simp
        (go_at_call 26; (with_reducible refine (HZ.out _ _ (HC1.out.st.rd.kin (unmask _ _))).mono ?_); rintro e w2 ⟨rfl, hb⟩; have HC2 := Lib.hid (HC1.out.next hb))
        refine hK.out _ _ ?_ (fun hS1 => ?_)
        · (first | exact hS | exact hS.next hb)
        clear hK K hS; have hS := hS1; clear hS1
        (try simp only [Act.put, List.setIfInBounds_toArray, List.set_cons_zero, List.set_cons_succ])
        refine wpAnyH_take (i := 14) (oi := ({ dst := some 30, op := Op.binOp BinOp.neq 3 (Operand.tmp 29) (Operand.const (Value.int IntKind.i64 17)) 3, type := 4, pos := "ref.go:55", after := #[{ on := 13, ground := Ground.data }, { on := 7, ground := Ground.guard }], guard := some (7, true) } : Oper)) (v := ?_) rfl (by kernel_rfl) (by kernel_rfl) (by kernel_rfl) (fun _ _ _ h => h) (Or.inl ⟨by rfl, ?_⟩) hS ?_
        rotate_left
        · (intro w hSw; (try dsimp only at hSw); go_simp; try with_reducible rfl)
        (try simp only [Act.put, List.setIfInBounds_toArray, List.set_cons_zero, List.set_cons_succ])
        refine wpAnyH_take (i := 15) (oi := ({ dst := some 31, op := Op.pick (Operand.tmp 23) (Operand.tmp 30) (Operand.const (Value.bool false)), type := 4, pos := "ref.go:55", after := #[{ on := 7, ground := Ground.data }, { on := 14, ground := Ground.data }], guard := none } : Oper)) (v := ?_) rfl (by kernel_rfl) (by kernel_rfl) (by kernel_rfl) (fun _ _ _ h => h) (Or.inl ⟨by rfl, ?_⟩) hS ?_
        rotate_left
        · (intro w hSw; (try dsimp only at hSw); go_simp; try with_reducible rfl)
        (try simp only [Act.put, List.setIfInBounds_toArray, List.set_cons_zero, List.set_cons_succ])
        refine wpAnyH_done (by kernel_rfl) ?_ _
        clear hS
        have HC2D := Lib.hid (HC2.out.next (Below.refl _ _).drew)
        go_wp2_with fail
        refine wp_region_held_drew (S := (fun W' => DB W' w.heap.size #[.slice ak nk ck, .int .i64 dk.cap, .int .i64 dk.ops, .bool dk.down, .bool dk.told, .int .i64 dk.after] ∧ W'.heap[g]? = some (.cells #[.string fr0, .string fr1, .string fr2] 9 (0, 0)))) (by kernel_rfl) ⟨HC2D.out.st.d0, HC2D.out.row⟩ (fun hS => ?_)
        refine wpAnyH_take (i := 0) (oi := ({ dst := some 33, op := Op.load 28 (Operand.tmp 1), type := 28, pos := "ref.go:56", after := #[], guard := none } : Oper)) (v := ?_) rfl (by kernel_rfl) (by kernel_rfl) (by kernel_rfl) (fun _ _ _ h => h) (Or.inl ⟨by rfl, ?_⟩) hS ?_
        rotate_left
        · (intro w hSw; (try dsimp only at hSw); refine exec_load_db (.tmp 1) ?_ ?_ hSw.1 <;> rfl)
        (try simp only [Act.put, List.setIfInBounds_toArray, List.set_cons_zero, List.set_cons_succ])
        refine wpAnyH_take (i := 1) (oi := ({ dst := some 34, op := Op.move (Operand.tmp 4), type := 64, pos := "ref.go:56", after := #[], guard := none } : Oper)) (v := ?_) rfl (by kernel_rfl) (by kernel_rfl) (by kernel_rfl) (fun _ _ _ h => h) (Or.inl ⟨by rfl, ?_⟩) hS ?_
        rotate_left
        · (intro w hSw; (try dsimp only at hSw); go_simp; try with_reducible rfl)
        (try simp only [Act.put, List.setIfInBounds_toArray, List.set_cons_zero, List.set_cons_succ])
        refine wpAnyH_take (i := 2) (oi := ({ dst := some 35, op := Op.move (Operand.tmp 5), type := 3, pos := "ref.go:56", after := #[], guard := none } : Oper)) (v := ?_) rfl (by kernel_rfl) (by kernel_rfl) (by kernel_rfl) (fun _ _ _ h => h) (Or.inl ⟨by rfl, ?_⟩) hS ?_
        rotate_left
        · (intro w hSw; (try dsimp only at hSw); go_simp; try with_reducible rfl)
        (try simp only [Act.put, List.setIfInBounds_toArray, List.set_cons_zero, List.set_cons_succ])
        refine wpAnyH_take (i := 3) (oi := ({ dst := some 36, op := Op.indexAddr 64 (Operand.tmp 34) (Operand.tmp 35), type := 0, pos := "ref.go:56", after := #[{ on := 1, ground := Ground.data }, { on := 2, ground := Ground.data }], guard := none } : Oper)) (v := ?_) rfl (by kernel_rfl) (by kernel_rfl) (by kernel_rfl) (fun _ _ _ h => h) (Or.inl ⟨by rfl, ?_⟩) hS ?_
        rotate_left
        · (intro w hSw; (try dsimp only at hSw); go_simp; try with_reducible rfl)
        (try simp only [Act.put, List.setIfInBounds_toArray, List.set_cons_zero, List.set_cons_succ])
        refine wpAnyH_take (i := 4) (oi := ({ dst := some 37, op := Op.load 9 (Operand.tmp 36), type := 9, pos := "ref.go:56", after := #[{ on := 3, ground := Ground.data }], guard := none } : Oper)) (v := ?_) rfl (by kernel_rfl) (by kernel_rfl) (by kernel_rfl) (fun _ _ _ h => h) (Or.inl ⟨by rfl, ?_⟩) hS ?_
        rotate_left
        · (intro w hSw; (try dsimp only at hSw); have z0 := row_cell hSw.2 i hi3; have z1 := row_cell0 hSw.2 i hi3; go_simp; try with_reducible rfl)
        (try simp only [Act.put, List.setIfInBounds_toArray, List.set_cons_zero, List.set_cons_succ])
        refine rg_both 5 9 ({ dst := some 38, op := Op.call { callee := Callee.value (Operand.func 30), args := #[Operand.tmp 33, Operand.tmp 37], argTypes := #[28, 9] }, type := 39, pos := "ref.go:56", after := #[{ on := 0, ground := Ground.data }, { on := 4, ground := Ground.data }], guard := none } : Oper) ({ dst := some 6, op := Op.alloc 28, type := 0, pos := "ref.go:56", after := #[], guard := none } : Oper) (by kernel_rfl) rfl rfl (fun K hK => ?_) (fun K hK => ?_)
        · skip
          go_simp
          (go_at_call 30; (with_reducible refine (HM.out _ _ _ HC2D.out.st.foot HC2D.out.st.rd).mono ?_); rintro e w3 ⟨v3, rfl, hr, hb⟩; obtain ⟨a5, n5, c5, rfl, _⟩ := hr.agg; have HR3 := Lib.hid hr; have HC3 := Lib.hid (HC2D.out.next hb); clear hr)
          refine hK.out _ _ ?_ (fun hS1 => ?_)
          · (first | exact hS | exact ⟨hS.1.next hb, keep_blk hb hS.2⟩ | exact hN)
          clear hK K hS; have hS := hS1; clear hS1
          (try simp only [Act.put, List.setIfInBounds_toArray, List.set_cons_zero, List.set_cons_succ])
          refine wpAnyH_take (i := 6) (oi := ({ dst := some 32, op := Op.move (Operand.tmp 38), type := 39, pos := "ref.go:56", after := #[{ on := 5, ground := Ground.data }], guard := none } : Oper)) (v := ?_) rfl (by kernel_rfl) (by kernel_rfl) (by kernel_rfl) (fun _ _ _ h => h) (Or.inl ⟨by rfl, ?_⟩) hS ?_
          rotate_left
          · (intro w hSw; (try dsimp only at hSw); go_simp; try with_reducible rfl)
          (try simp only [Act.put, List.setIfInBounds_toArray, List.set_cons_zero, List.set_cons_succ])
          refine wpAnyH_take (i := 7) (oi := ({ dst := some 39, op := Op.extract (Operand.tmp 32) 0, type := 28, pos := "ref.go:56", after := #[{ on := 6, ground := Ground.data }], guard := none } : Oper)) (v := ?_) rfl (by kernel_rfl) (by kernel_rfl) (by kernel_rfl) (fun _ _ _ h => h) (Or.inl ⟨by rfl, ?_⟩) hS ?_
          rotate_left
          · (intro w hSw; (try dsimp only at hSw); go_simp; try with_reducible rfl)
          (try simp only [Act.put, List.setIfInBounds_toArray, List.set_cons_zero, List.set_cons_succ])
          refine wpAnyH_take (i := 8) (oi := ({ dst := some 40, op := Op.extract (Operand.tmp 32) 1, type := 30, pos := "ref.go:56", after := #[{ on := 6, ground := Ground.data }, { on := 10, ground := Ground.gcOnly Departure.lateStores }], guard := none } : Oper)) (v := ?_) rfl (by kernel_rfl) (by kernel_rfl) (by kernel_rfl) (fun _ _ _ h => h) (Or.inl ⟨by rfl, ?_⟩) hS ?_
          rotate_left
          · (intro w hSw; (try dsimp only at hSw); go_simp; try with_reducible rfl)
          (try simp only [Act.put, List.setIfInBounds_toArray, List.set_cons_zero, List.set_cons_succ])
          refine rg_one 9 ({ dst := some 6, op := Op.alloc 28, type := 0, pos := "ref.go:56", after := #[], guard := none } : Oper) (by kernel_rfl) rfl (fun K hK => ?_)
          go_simp
          (have hb := below_alloc w3 (.cells #[.slice none 0 0, .int .i64 0, .int .i64 0, .bool false, .bool false, .int .i64 0] 28); have HX3 : Hid (DB (w3.alloc (.cells #[.slice none 0 0, .int .i64 0, .int .i64 0, .bool false, .bool false, .int .i64 0] 28)) w3.heap.size dz) := Lib.hid ⟨heap_alloc_last w3 _, rfl⟩; have HBA := Lib.hid hb)
          refine hK.out _ _ ?_ (fun hS1 => ?_)
          · (first | exact hS | exact ⟨hS.1.next hb, keep_blk hb hS.2⟩ | exact hN)
          clear hK K hS; have hS := hS1; clear hS1
          (try simp only [Act.put, List.setIfInBounds_toArray, List.set_cons_zero, List.set_cons_succ])
          refine rg_one 10 ({ dst := none, op := Op.store 28 (Operand.tmp 6) (Operand.tmp 39), type := 0, pos := "ref.go:56", after := #[{ on := 9, ground := Ground.data }, { on := 7, ground := Ground.data }, { on := 5, ground := Ground.chain }, { on := 0, ground := Ground.phase }, { on := 1, ground := Ground.phase }, { on := 2, ground := Ground.phase }, { on := 3, ground := Ground.phase }, { on := 4, ground := Ground.phase }, { on := 5, ground := Ground.phase }, { on := 6, ground := Ground.phase }, { on := 7, ground := Ground.phase }, { on := 8, ground := Ground.textOnly Departure.lateStores }, { on := 9, ground := Ground.phase }], guard := none } : Oper) (by kernel_rfl) rfl (fun K hK => ?_)
          rw [if_pos (by rfl)]; refine wp_store_row 28 (.tmp 6) (.tmp 39) rfl w3.heap.size #[.slice a5 n5 c5, .int .i64 d2.cap, .int .i64 d2.ops, .bool d2.down, .bool d2.told, .int .i64 d2.after] rfl rfl _ dz HX3.out.1 disk_info (by rfl) (by simp [Value.oneCell']) ?_; have HB5 := Lib.hid (below_row HBA.out (Nat.le_refl _) #[.slice a5 n5 c5, .int .i64 d2.cap, .int .i64 d2.ops, .bool d2.down, .bool d2.told, .int .i64 d2.after]); have HC5 := Lib.hid (HC3.out.next HB5.out); have HX5 := Lib.hid (HX3.out.row (cs' := #[.slice a5 n5 c5, .int .i64 d2.cap, .int .i64 d2.ops, .bool d2.down, .bool d2.told, .int .i64 d2.after]) rfl); have HR5 := Lib.hid (HR3.out.kin (kin_mask HB5.out)); have hN := And.intro HC5.out.st.d0 HC5.out.row
          refine hK.out _ _ ?_ (fun hS1 => ?_)
          · (first | exact hS | exact ⟨hS.1.next hb, keep_blk hb hS.2⟩ | exact hN)
          clear hK K hS; have hS := hS1; clear hS1
          (try simp only [Act.put])
          refine wpAnyH_take (i := 11) (oi := ({ dst := some 7, op := Op.assign (Operand.tmp 40), type := 30, pos := "ref.go:56", after := #[{ on := 8, ground := Ground.data }, { on := 10, ground := Ground.chain }, { on := 0, ground := Ground.phase }, { on := 1, ground := Ground.phase }, { on := 2, ground := Ground.phase }, { on := 3, ground := Ground.phase }, { on := 4, ground := Ground.phase }, { on := 5, ground := Ground.phase }, { on := 6, ground := Ground.phase }, { on := 7, ground := Ground.phase }, { on := 8, ground := Ground.phase }, { on := 9, ground := Ground.phase }, { on := 10, ground := Ground.phase }], guard := none } : Oper)) (v := ?_) rfl (by kernel_rfl) (by kernel_rfl) (by kernel_rfl) (fun _ _ _ h => h) (Or.inl ⟨by rfl, ?_⟩) hS ?_
          rotate_left
          · (intro w hSw; (try dsimp only at hSw); go_simp; try with_reducible rfl)
          (try simp only [Act.put, List.setIfInBounds_toArray, List.set_cons_zero, List.set_cons_succ])
          refine wpAnyH_done (by kernel_rfl) ?_ _
          clear hS hN
          by_cases he : e2 = 0
          · subst he
            go_wp2_with (first | (refine wpList_load_row rfl 28 _ rfl _ rfl _ _ (0, 0) _ HX5.out.1 Tryd.underlying28 rfl HX5.out.info ?_) | (refine wpList_store_row rfl 28 _ _ rfl w.heap.size #[.slice a5 n5 c5, .int .i64 d2.cap, .int .i64 d2.ops, .bool d2.down, .bool d2.told, .int .i64 d2.after] rfl rfl _ #[.slice ak nk ck, .int .i64 dk.cap, .int .i64 dk.ops, .bool dk.down, .bool dk.told, .int .i64 dk.after] HC5.out.st.d0.1 disk_info (by rfl) (by simp [Value.oneCell']) ?_; have HC6 := Lib.hid (HC5.out.put HR5.out rfl)))
            exact ⟨⟨i + 1, d2, a5, n5, c5, by go_num, by omega, HN, HC6⟩, by simp [intOf]; omega⟩
          · have HE : Hid (d.cleanK 3 = (d2, e2)) := Lib.hid (by rw [cleanK_fails (k := i + 1) (by rw [HN.out]; exact he) 3 (by omega), HN.out])
            go_wp2_with (first | (refine wpList_load_row rfl 28 _ rfl _ rfl _ _ (0, 0) _ HX5.out.1 Tryd.underlying28 rfl HX5.out.info ?_) | (refine wpList_store_row rfl 28 _ _ rfl (w.heap.size + 1) #[.slice a5 n5 c5, .int .i64 d2.cap, .int .i64 d2.ops, .bool d2.down, .bool d2.told, .int .i64 d2.after] rfl rfl _ dz HC5.out.st.d1.1 disk_info (by rfl) (by simp [Value.oneCell']) ?_))
            obtain ⟨e1, e3, e4⟩ := HC5.out.st.done (cs' := #[.slice a5 n5 c5, .int .i64 d2.cap, .int .i64 d2.ops, .bool d2.down, .bool d2.told, .int .i64 d2.after]) HR5.out rfl
            rw [HE.out]
            exact bodyPost_ret_by (results_row_tmp rfl _ _ (w.heap.size + 1) _ rfl (disk_load e1.1 rfl)) rfl ⟨_, rfl, e3, e4⟩
        · skip
          go_simp
          (have hb := below_alloc w2.drew (.cells #[.slice none 0 0, .int .i64 0, .int .i64 0, .bool false, .bool false, .int .i64 0] 28); have HX3 : Hid (DB (w2.alloc (.cells #[.slice none 0 0, .int .i64 0, .int .i64 0, .bool false, .bool false, .int .i64 0] 28)).drew w2.heap.size dz) := Lib.hid ⟨heap_alloc_last w2 _, rfl⟩; have HC3 : Hid (ClS F w g #[.slice ak nk ck, .int .i64 dk.cap, .int .i64 dk.ops, .bool dk.down, .bool dk.told, .int .i64 dk.after] dk (w2.alloc (.cells #[.slice none 0 0, .int .i64 0, .int .i64 0, .bool false, .bool false, .int .i64 0] 28)).drew) := Lib.hid (HC2D.out.next hb); have HBA : Hid (Below w2.drew.heap.size w2.drew (w2.alloc (.cells #[.slice none 0 0, .int .i64 0, .int .i64 0, .bool false, .bool false, .int .i64 0] 28)).drew) := Lib.hid hb)
          refine hK.out _ _ ?_ (fun hS1 => ?_)
          · (first | exact hS | exact ⟨hS.1.next hb, keep_blk hb hS.2⟩ | exact hN)
          clear hK K hS; have hS := hS1; clear hS1
          (try simp only [Act.put, List.setIfInBounds_toArray, List.set_cons_zero, List.set_cons_succ])
          refine rg_one 5 ({ dst := some 38, op := Op.call { callee := Callee.value (Operand.func 30), args := #[Operand.tmp 33, Operand.tmp 37], argTypes := #[28, 9] }, type := 39, pos := "ref.go:56", after := #[{ on := 0, ground := Ground.data }, { on := 4, ground := Ground.data }], guard := none } : Oper) (by kernel_rfl) rfl (fun K hK => ?_)
          go_simp
          (go_at_call 30; (with_reducible refine (HM.out _ _ _ (boxed_foot HC2D.out.st.foot HBA.out) (boxed_rd HC2D.out.st.rd HBA.out)).mono ?_); rintro e w3 ⟨v3, rfl, hr, hb⟩; obtain ⟨a5, n5, c5, rfl, _⟩ := hr.agg; have HR3 := Lib.hid hr; have HX4 := Lib.hid (HX3.out.next hb); have HB4 := Lib.hid (chain HBA.out hb); clear hr)
          refine hK.out _ _ ?_ (fun hS1 => ?_)
          · (first | exact hS | exact ⟨hS.1.next hb, keep_blk hb hS.2⟩ | exact hN)
          clear hK K hS; have hS := hS1; clear hS1
          (try simp only [Act.put, List.setIfInBounds_toArray, List.set_cons_zero, List.set_cons_succ])
          refine wpAnyH_take (i := 6) (oi := ({ dst := some 32, op := Op.move (Operand.tmp 38), type := 39, pos := "ref.go:56", after := #[{ on := 5, ground := Ground.data }], guard := none } : Oper)) (v := ?_) rfl (by kernel_rfl) (by kernel_rfl) (by kernel_rfl) (fun _ _ _ h => h) (Or.inl ⟨by rfl, ?_⟩) hS ?_
          rotate_left
          · (intro w hSw; (try dsimp only at hSw); go_simp; try with_reducible rfl)
          (try simp only [Act.put, List.setIfInBounds_toArray, List.set_cons_zero, List.set_cons_succ])
          refine wpAnyH_take (i := 7) (oi := ({ dst := some 39, op := Op.extract (Operand.tmp 32) 0, type := 28, pos := "ref.go:56", after := #[{ on := 6, ground := Ground.data }], guard := none } : Oper)) (v := ?_) rfl (by kernel_rfl) (by kernel_rfl) (by kernel_rfl) (fun _ _ _ h => h) (Or.inl ⟨by rfl, ?_⟩) hS ?_
          rotate_left
          · (intro w hSw; (try dsimp only at hSw); go_simp; try with_reducible rfl)
          (try simp only [Act.put, List.setIfInBounds_toArray, List.set_cons_zero, List.set_cons_succ])
          refine wpAnyH_take (i := 8) (oi := ({ dst := some 40, op := Op.extract (Operand.tmp 32) 1, type := 30, pos := "ref.go:56", after := #[{ on := 6, ground := Ground.data }, { on := 10, ground := Ground.gcOnly Departure.lateStores }], guard := none } : Oper)) (v := ?_) rfl (by kernel_rfl) (by kernel_rfl) (by kernel_rfl) (fun _ _ _ h => h) (Or.inl ⟨by rfl, ?_⟩) hS ?_
          rotate_left
          · (intro w hSw; (try dsimp only at hSw); go_simp; try with_reducible rfl)
          (try simp only [Act.put, List.setIfInBounds_toArray, List.set_cons_zero, List.set_cons_succ])
          refine rg_one 10 ({ dst := none, op := Op.store 28 (Operand.tmp 6) (Operand.tmp 39), type := 0, pos := "ref.go:56", after := #[{ on := 9, ground := Ground.data }, { on := 7, ground := Ground.data }, { on := 5, ground := Ground.chain }, { on := 0, ground := Ground.phase }, { on := 1, ground := Ground.phase }, { on := 2, ground := Ground.phase }, { on := 3, ground := Ground.phase }, { on := 4, ground := Ground.phase }, { on := 5, ground := Ground.phase }, { on := 6, ground := Ground.phase }, { on := 7, ground := Ground.phase }, { on := 8, ground := Ground.textOnly Departure.lateStores }, { on := 9, ground := Ground.phase }], guard := none } : Oper) (by kernel_rfl) rfl (fun K hK => ?_)
          rw [if_pos (by rfl)]; refine wp_store_row 28 (.tmp 6) (.tmp 39) rfl w2.heap.size #[.slice a5 n5 c5, .int .i64 d2.cap, .int .i64 d2.ops, .bool d2.down, .bool d2.told, .int .i64 d2.after] rfl rfl _ dz HX4.out.1 disk_info (by rfl) (by simp [Value.oneCell']) ?_; have HB5 := Lib.hid (below_row HB4.out (Nat.le_refl _) #[.slice a5 n5 c5, .int .i64 d2.cap, .int .i64 d2.ops, .bool d2.down, .bool d2.told, .int .i64 d2.after]); have HC5 := Lib.hid (HC2D.out.next HB5.out); have HX5 := Lib.hid (HX4.out.row (cs' := #[.slice a5 n5 c5, .int .i64 d2.cap, .int .i64 d2.ops, .bool d2.down, .bool d2.told, .int .i64 d2.after]) rfl); have HR5 := Lib.hid (boxed_out (q := w2.heap.size) HR3.out #[.slice a5 n5 c5, .int .i64 d2.cap, .int .i64 d2.ops, .bool d2.down, .bool d2.told, .int .i64 d2.after]); have hN := And.intro HC5.out.st.d0 HC5.out.row
          refine hK.out _ _ ?_ (fun hS1 => ?_)
          · (first | exact hS | exact ⟨hS.1.next hb, keep_blk hb hS.2⟩ | exact hN)
          clear hK K hS; have hS := hS1; clear hS1
          (try simp only [Act.put])
          refine wpAnyH_take (i := 11) (oi := ({ dst := some 7, op := Op.assign (Operand.tmp 40), type := 30, pos := "ref.go:56", after := #[{ on := 8, ground := Ground.data }, { on := 10, ground := Ground.chain }, { on := 0, ground := Ground.phase }, { on := 1, ground := Ground.phase }, { on := 2, ground := Ground.phase }, { on := 3, ground := Ground.phase }, { on := 4, ground := Ground.phase }, { on := 5, ground := Ground.phase }, { on := 6, ground := Ground.phase }, { on := 7, ground := Ground.phase }, { on := 8, ground := Ground.phase }, { on := 9, ground := Ground.phase }, { on := 10, ground := Ground.phase }], guard := none } : Oper)) (v := ?_) rfl (by kernel_rfl) (by kernel_rfl) (by kernel_rfl) (fun _ _ _ h => h) (Or.inl ⟨by rfl, ?_⟩) hS ?_
          rotate_left
          · (intro w hSw; (try dsimp only at hSw); go_simp; try with_reducible rfl)
          (try simp only [Act.put, List.setIfInBounds_toArray, List.set_cons_zero, List.set_cons_succ])
          refine wpAnyH_done (by kernel_rfl) ?_ _
          clear hS hN
          by_cases he : e2 = 0
          · subst he
            go_wp2_with (first | (refine wpList_load_row rfl 28 _ rfl _ rfl _ _ (0, 0) _ HX5.out.1 Tryd.underlying28 rfl HX5.out.info ?_) | (refine wpList_store_row rfl 28 _ _ rfl w.heap.size #[.slice a5 n5 c5, .int .i64 d2.cap, .int .i64 d2.ops, .bool d2.down, .bool d2.told, .int .i64 d2.after] rfl rfl _ #[.slice ak nk ck, .int .i64 dk.cap, .int .i64 dk.ops, .bool dk.down, .bool dk.told, .int .i64 dk.after] HC5.out.st.d0.1 disk_info (by rfl) (by simp [Value.oneCell']) ?_; have HC6 := Lib.hid (HC5.out.put HR5.out rfl)))
            exact ⟨⟨i + 1, d2, a5, n5, c5, by go_num, by omega, HN, HC6⟩, by simp [intOf]; omega⟩
          · have HE : Hid (d.cleanK 3 = (d2, e2)) := Lib.hid (by rw [cleanK_fails (k := i + 1) (by rw [HN.out]; exact he) 3 (by omega), HN.out])
            go_wp2_with (first | (refine wpList_load_row rfl 28 _ rfl _ rfl _ _ (0, 0) _ HX5.out.1 Tryd.underlying28 rfl HX5.out.info ?_) | (refine wpList_store_row rfl 28 _ _ rfl (w.heap.size + 1) #[.slice a5 n5 c5, .int .i64 d2.cap, .int .i64 d2.ops, .bool d2.down, .bool d2.told, .int .i64 d2.after] rfl rfl _ dz HC5.out.st.d1.1 disk_info (by rfl) (by simp [Value.oneCell']) ?_))
            obtain ⟨e1, e3, e4⟩ := HC5.out.st.done (cs' := #[.slice a5 n5 c5, .int .i64 d2.cap, .int .i64 d2.ops, .bool d2.down, .bool d2.told, .int .i64 d2.after]) HR5.out rfl
            rw [HE.out]
            exact bodyPost_ret_by (results_row_tmp rfl _ _ (w.heap.size + 1) _ rfl (disk_load e1.1 rfl)) rfl ⟨_, rfl, e3, e4⟩
      · have hq : i = 3 := by omega
        subst hq
        go_wp2_with (first | (refine wpList_load_row rfl 28 _ rfl _ rfl _ _ (0, 0) _ HC.out.st.d0.1 Tryd.underlying28 rfl HC.out.st.d0.info ?_) | (refine wpList_store_row rfl 28 _ _ rfl (w.heap.size + 1) #[.slice ak nk ck, .int .i64 dk.cap, .int .i64 dk.ops, .bool dk.down, .bool dk.told, .int .i64 dk.after] rfl rfl _ dz HC.out.st.d1.1 disk_info (by rfl) (by simp [Value.oneCell']) ?_))
        obtain ⟨e1, e3, e4⟩ := HC.out.st.done (cs' := #[.slice ak nk ck, .int .i64 dk.cap, .int .i64 dk.ops, .bool dk.down, .bool dk.told, .int .i64 dk.after]) HC.out.st.rd rfl
        rw [HK.out]
        exact bodyPost_ret_by (results_row_tmp rfl _ _ (w.heap.size + 1) _ rfl (disk_load e1.1 rfl)) rfl ⟨_, rfl, e3, e4⟩
end Go.Proofs.YtoempaagpgoilaaDoor
