/-
  TEXTS JOINED: DkMay, DkUsed, Shelf, DkList, DkWaits, DkVal, DkFiles. Each one's own words stand at its head.
-/
import Derived.Test.YtgegbpnmfpjdmaaGreatDoorJ6
import Derived.Shelf.Lays
import Derived.Shelf.LaysM
import Derived.Shelf.Slices.In.SortNone
import Derived.Shelf.Sort.Plain
import Derived.Shelf.Strconv.Itoa3
import Derived.Test.YtgegbpnmfpjdmaaGreatDoorProg
import Derived.Test.YtgegbpnmfpjdmaaGreatDoorJ5
import Derived.Sort.KeysCollected
import Derived.Sort.OwnSorted
namespace Go.Proofs.YtgegbpnmfpjdmaaGreatDoor
open Go.RowKit
set_option maxRecDepth 8000 in
theorem mayRename_any (w : World) (b bm : Nat) (l : List MF) (d : AD) (s t : ByteArray) (x n : Int) (a : Option Addr) (m c : Nat) (h : Dk w b bm l d) (hg : Good d) (hs : s.size ≤ 281474976710656) (ht : t.size ≤ 281474976710656) (y : Int)
    (hy : (if ¬ d.has s then 7 else if rightB t = false then 10 else 0) = y) :
    Calls Tryz.prog 57 #[jobV ⟨b, 0, none⟩ s t x n (.slice a m c)] w fun e w' => e = .returned (.int .i64 y) ∧ Below w.heap.size w w' := by
  have HJ := Lib.hid (Jd.start h s t x n (.slice a m c))
  have HS := Lib.hid hs
  have HT := Lib.hid ht
  have HG := Lib.hid hg
  by_cases hh : d.has s
  · rw [if_neg (by simpa using hh)] at hy
    have HF := Lib.hid (show (if d.has s then (0 : Int) else 7) = 0 by rw [if_pos hh])
    obtain ⟨r, hr⟩ : ∃ r, nameN t.data.toList = r := ⟨_, rfl⟩
    have HR := Lib.hid hr
    have hr2 : rightB t = r := hr
    rw [hr2] at hy
    clear h hs ht hg hh hr hr2
    cases r with
    | true =>
      subst hy
      go_enter Tryz.func57, Tryz.ntmps57
      go_wp2_with (first
        | (refine wpList_load_row rfl 102 _ rfl w.heap.size rfl _ (jobC ⟨b, 0, none⟩ s t x n (.slice a m c)) (0, 0) _ HJ.out.jb Tryz.underlying102 rfl (by kernel_rfl) ?_)
        | (go_at_call 71; (with_reducible refine (mayFind_any _ b bm l d s t x n a m c HJ.out.dk HG.out HS.out).mono ?_); rintro e w1 ⟨rfl, hb⟩; rw [HF.out]; have HJ1 := Lib.hid (HJ.out.next hb); clear hb; obtain ⟨_, _, c2, _⟩ := HJ1.out.jb.cells)
        | (go_at_call 81; (with_reducible refine (right_any t _ HT.out).mono ?_); rintro e w2 ⟨rfl, rfl⟩; rw [HR.out]))
      go_ret
      exact ⟨rfl, HJ1.out.below⟩
    | false =>
      subst hy
      go_enter Tryz.func57, Tryz.ntmps57
      go_wp2_with (first
        | (refine wpList_load_row rfl 102 _ rfl w.heap.size rfl _ (jobC ⟨b, 0, none⟩ s t x n (.slice a m c)) (0, 0) _ HJ.out.jb Tryz.underlying102 rfl (by kernel_rfl) ?_)
        | (go_at_call 71; (with_reducible refine (mayFind_any _ b bm l d s t x n a m c HJ.out.dk HG.out HS.out).mono ?_); rintro e w1 ⟨rfl, hb⟩; rw [HF.out]; have HJ1 := Lib.hid (HJ.out.next hb); clear hb; obtain ⟨_, _, c2, _⟩ := HJ1.out.jb.cells)
        | (go_at_call 81; (with_reducible refine (right_any t _ HT.out).mono ?_); rintro e w2 ⟨rfl, rfl⟩; rw [HR.out]))
      go_ret
      exact ⟨rfl, HJ1.out.below⟩
  · rw [if_pos hh] at hy
    subst hy
    have HF := Lib.hid (show (if d.has s then (0 : Int) else 7) = 7 by rw [if_neg hh])
    clear h hs ht hg hh
    go_enter Tryz.func57, Tryz.ntmps57
    go_wp2_with (first
      | (refine wpList_load_row rfl 102 _ rfl w.heap.size rfl _ (jobC ⟨b, 0, none⟩ s t x n (.slice a m c)) (0, 0) _ HJ.out.jb Tryz.underlying102 rfl (by kernel_rfl) ?_)
      | (go_at_call 71; (with_reducible refine (mayFind_any _ b bm l d s t x n a m c HJ.out.dk HG.out HS.out).mono ?_); rintro e w1 ⟨rfl, hb⟩; rw [HF.out]; have HJ1 := Lib.hid (HJ.out.next hb); clear hb))
    go_ret
    exact ⟨rfl, HJ1.out.below⟩
theorem bit_ri (v : Value) (len : Nat) (zs : List Int) (i : Int) (w : World) (h : RI .u8 w v len zs) (hz : Bytes zs) (hi : I63 i) :
    Calls Tryz.prog 79 #[v, .int .i64 i] w fun e w' => e = .returned (.bool (bitI zs i)) ∧ w = w' := by
  have hl := h.length
  obtain ⟨a, cap, rfl, _, h2, h3, _, hc⟩ := id h
  by_cases h0 : i < 0 ∨ (0 ≤ i ∧ (len : Int) ≤ i / 8)
  · refine (bit_no a len cap i w hi h0).mono ?_
    rintro e w' ⟨rfl, rfl⟩
    refine ⟨ret_bool ?_, rfl⟩
    unfold bitI
    rcases h0 with h0 | ⟨h0, h1⟩
    · simp [show ¬ 0 ≤ i by omega]
    · rw [decide_eq_false (p := i / 8 < (zs.length : Int)) (by omega)]; simp
  · have hi0 : 0 ≤ i := by omega
    have hi1 : i / 8 < (len : Int) := by omega
    obtain ⟨k, rfl⟩ : ∃ k : Nat, i = (k : Int) := ⟨i.toNat, by omega⟩
    obtain ⟨b, off, rfl, hcell⟩ := hc (by omega)
    have hk : k / 8 < len := by omega
    refine (bit_some b off len cap zs k w hz hi.2 (by omega) hk ?_).mono ?_
    · first | exact hcell (k / 8) hk | exact hcell
    rintro e w' ⟨rfl, rfl⟩
    refine ⟨ret_bool ?_, rfl⟩
    unfold bitI
    rw [decide_eq_true hi0, decide_eq_true (p := (k : Int) / 8 < (zs.length : Int)) (by omega)]; simp
def keptN (kb : List Int) (torn cut : Int) (i : Nat) : Nat := if (i : Int) = torn then cutN cut else if bitI kb (i : Int) = true then 64 else 0
theorem keptN_le (kb : List Int) (torn cut : Int) (i : Nat) : keptN kb torn cut i ≤ 64 := by
  unfold keptN cutN; split
  · omega
  · split <;> omega
set_option maxRecDepth 8000 in
theorem kept_any (w : World) (v : Value) (len : Nat) (kb : List Int) (torn cut : Int) (i : Nat) (h : RI .u8 w v len kb) (hb : Bytes kb) (_ht : I63 torn) (hc : I63 cut) (hi : (i : Int) ≤ 9223372036854775807) :
    Calls Tryz.prog 45 #[.agg #[v, .int .i64 torn, .int .i64 cut], .int .i64 i] w fun e w' => e = .returned (.int .i64 (keptN kb torn cut i)) ∧ Below w.heap.size w w' := by
  have HR := Lib.hid (h.keep (below_alloc w (.cells #[v, .int .i64 torn, .int .i64 cut] 58)))
  have HB := Lib.hid (below_alloc w (.cells #[v, .int .i64 torn, .int .i64 cut] 58))
  have HY := Lib.hid hb
  have HI := Lib.hid (show I63 (i : Int) from ⟨by omega, hi⟩)
  have HC := Lib.hid hc
  have H64 := Lib.hid (show I63 64 from ⟨by omega, by omega⟩)
  obtain ⟨a, c, rfl, _⟩ : ∃ a c, v = .slice a len c ∧ True := by obtain ⟨a, c, e, _⟩ := h; exact ⟨a, c, e, trivial⟩
  by_cases h1 : (i : Int) = torn
  · have HK : Hid (((keptN kb torn cut i : Nat) : Int) = min (max cut 0) 64) := Lib.hid (by unfold keptN cutN; rw [if_pos h1]; omega)
    rw [HK.out]
    clear h hb hc
    go_enter Tryz.func45, Tryz.ntmps45
    go_wp2_with (first
      | (go_at_call 25; (with_reducible refine (nearer_dsk cut 64 HC.out H64.out _).mono ?_); rintro e w2 ⟨rfl, rfl⟩))
    go_ret
    exact ⟨rfl, HB.out⟩
  · obtain ⟨r, hr⟩ : ∃ r, bitI kb (i : Int) = r := ⟨_, rfl⟩
    have HRR := Lib.hid hr
    cases r with
    | true =>
      have HK : Hid (((keptN kb torn cut i : Nat) : Int) = 64) := Lib.hid (by unfold keptN; rw [if_neg h1, if_pos hr]; rfl)
      rw [HK.out]
      clear h hb hc hr
      go_enter Tryz.func45, Tryz.ntmps45
      go_wp2_with (first
        | (go_at_call 79; (with_reducible refine (bit_ri _ len kb i _ HR.out HY.out HI.out).mono ?_); rintro e w2 ⟨rfl, rfl⟩; rw [HRR.out]))
      go_ret
      exact ⟨rfl, HB.out⟩
    | false =>
      have HK : Hid (((keptN kb torn cut i : Nat) : Int) = 0) := Lib.hid (by unfold keptN; rw [if_neg h1, if_neg (by rw [hr]; simp)]; rfl)
      rw [HK.out]
      clear h hb hc hr
      go_enter Tryz.func45, Tryz.ntmps45
      go_wp2_with (first
        | (go_at_call 79; (with_reducible refine (bit_ri _ len kb i _ HR.out HY.out HI.out).mono ?_); rintro e w2 ⟨rfl, rfl⟩; rw [HRR.out]))
      go_ret
      exact ⟨rfl, HB.out⟩
end Go.Proofs.YtgegbpnmfpjdmaaGreatDoor
namespace Go.Proofs.YtgegbpnmfpjdmaaGreatDoor
open Go.RowKit
theorem Asc.nodup {L : List AF} (h : Asc L) : (L.map AF.name).Nodup := by
  unfold List.Nodup
  rw [List.pairwise_map]
  exact List.Pairwise.imp (R := fun f g : AF => gtN g.name f.name = true) (fun {f g} h e => gtN_ne h (Eq.symm e)) h
theorem Dk.names {w : World} {b bm : Nat} {l : List MF} {d : AD} (h : Dk w b bm l d) (hg : Good d) : (l.map MF.nm).Nodup := by
  have := hg.asc.nodup
  rw [h.files, List.map_map] at this
  exact this
abbrev RPk (w : World) (bm r : Nat) (l todo : List MF) (cnt : Nat) : Prop := RP MF.nm MF.dat secR Tryz.prog 9 w bm r l todo cnt
def usedM (l : List MF) : Nat := (l.map fun x => x.f.n).sum
theorem usedM_perm {l l' : List MF} (h : l.Perm l') : usedM l = usedM l' := (h.map _).sum_nat
theorem Dk.used_eq {w : World} {b bm : Nat} {l : List MF} {d : AD} (h : Dk w b bm l d) : usedN d.L = usedM l := by rw [h.files]; unfold usedN; rw [List.map_map]; rfl
set_option maxRecDepth 8000 in
set_option maxHeartbeats 1000000 in
theorem pused_any (w : World) (b bm : Nat) (l : List MF) (d : AD) (h : Dk w b bm l d) (hg : Good d) :
    Calls Tryz.prog 82 #[ptr ⟨b, 0, none⟩] w fun e w' => e = .returned (.int .i64 (usedN d.L : Int)) ∧ Below w.heap.size w w' := by
  have HN := Lib.hid (h.names hg)
  have hu := hg.used
  have hc := hg.cap1
  rw [h.used_eq] at hu ⊢
  have hub : (usedM l : Int) ≤ 1048576 := by omega
  have HM := Lib.hid h.map
  obtain ⟨fl, lf, hb, _⟩ := h.blk
  obtain ⟨c0, c1, c2, c3, c4, c5⟩ := hb.cells
  clear hb h hg hu hc
  go_enter Tryz.func82, Tryz.ntmps82
  go_wp2_with (first
    | (refine wpl_range rfl (.tmp 11) 67 rfl 9 126 Tryz.underlying9 Tryz.underlying67 bm l rfl HM.out ?_; intro w0 HR0 hG0 HS0; have HB0 := Lib.hid ((Below.refl w.heap.size w).grown hG0.out (Nat.le_refl _) (by simp)); clear hG0))
  go_frame
  go_loopw [3] (fun v wr => ∃ (todo : List MF) (cnt u : Nat), v = .int .i64 (u : Int) ∧ Hid (RPk wr bm w.heap.size l todo cnt) ∧ u + usedM todo = usedM l ∧ Hid (Below w.heap.size w wr)) (fun _ wr => wr.rangeLeft bm w.heap.size)
  case atStart => exact ⟨l, l.length, 0, rfl, HR0, by omega, HB0⟩
  case round =>
    obtain ⟨todo, cnt, u, rfl, HR, hsum, HB⟩ := hrel
    go_wp2_with (first
      | (refine wpl_next secE rfl (.tmp 12) rfl 9 Tryz.underlying9 bm w.heap.size l todo cnt rfl HR.out ?_ ?_))
    · intro h0
      subst h0
      obtain rfl : u = usedM l := by simpa [usedM] using hsum
      go_wp2
      go_ret
      exact ⟨rfl, HB.out⟩
    · intro x w1 cnt1 hx HR1 hlt hG1 hs1 hen
      have hnd : (todo.map MF.nm).Nodup := HN.out.sublist (HR.out.sub.map _)
      have hp := usedM_perm (out_perm hnd hx.out)
      have hp2 : usedM (x :: outBy MF.nm todo (MF.nm x)) = x.f.n + usedM (outBy MF.nm todo (MF.nm x)) := by simp [usedM]
      have hw : IntKind.i64.wrap ((u : Int) + (x.f.n : Int)) = (u : Int) + (x.f.n : Int) := IntWalk.i64_in _ (by omega)
      have HB1 := Lib.hid (HB.out.grown hG1.out HB.out.size (fun j hj => by cases hj; exact Nat.le_refl _))
      obtain ⟨xn, hxn⟩ : ∃ xn, x.f.n = xn := ⟨_, rfl⟩
      have hv : x.v = .slice (some ⟨x.g, 0, none⟩) xn x.c := by rw [← hxn]; rfl
      rw [hv] at hen ⊢
      rw [hxn] at hw hp2
      have HE := Lib.hid (HR.out.left_eq)
      have HE1 := Lib.hid (HR1.out.left_eq)
      clear hnd hG1 hs1 hx HR HB hv hxn
      go_wp2
      go_roundw
      case rel => exact ⟨_, cnt1, u + xn, by go_num, HR1, by omega, HB1⟩
      case measure => rw [HE.out, HE1.out]; exact hlt.out
theorem Jd.seven {w w1 : World} {b bm : Nat} {l : List MF} {d : AD} {s t : ByteArray} {x n : Int} {v : Value} (h : Jd w b bm l d s t x n v w1) :
    w1.cell? ⟨w.heap.size, 0, none⟩ = some (ptr ⟨b, 0, none⟩) ∧ w1.cell? ⟨w.heap.size, 1, none⟩ = some (.string s) ∧ w1.cell? ⟨w.heap.size, 4, none⟩ = some (.int .i64 n) ∧ w1.cell? ⟨b, 0, none⟩ = some (.int .i64 d.cap) ∧ w1.cell? ⟨b, 1, none⟩ = some (.map (some bm)) ∧ Jd w b bm l d s t x n v w1 := by
  obtain ⟨c0, c1, _, c3, c4, _⟩ := h.jb.cells
  obtain ⟨fl, lf, hb, _⟩ := h.dk.blk
  obtain ⟨e0, e1, _⟩ := hb.cells
  exact ⟨c0, c1, c4, e0, e1, h⟩
set_option maxRecDepth 8000 in
set_option maxHeartbeats 1000000 in
theorem mayMake_any (w : World) (b bm : Nat) (l : List MF) (d : AD) (s t : ByteArray) (x n : Int) (a : Option Addr) (m c : Nat) (h : Dk w b bm l d) (hg : Good d) (hs : s.size ≤ 281474976710656) (_hn : I63 n) (y : Int)
    (hy : (if rightB s = false then 10 else if d.has s then 8 else if n < 1 ∨ 64 < n then 4 else if d.cap < (usedN d.L : Int) + n ∨ 64 ≤ d.L.length then 6 else 0) = y) :
    Calls Tryz.prog 49 #[jobV ⟨b, 0, none⟩ s t x n (.slice a m c)] w fun e w' => e = .returned (.int .i64 y) ∧ Below w.heap.size w w' := by
  have HJ := Lib.hid (Jd.start h s t x n (.slice a m c))
  have HS := Lib.hid hs
  have HG := Lib.hid hg
  obtain ⟨c0, c1, c4, e0, e1, _⟩ := HJ.out.seven
  obtain ⟨r, hr⟩ : ∃ r, nameN s.data.toList = r := ⟨_, rfl⟩
  have HR := Lib.hid hr
  have hr2 : rightB s = r := hr
  rw [hr2] at hy
  cases r with
  | false =>
    rw [if_pos rfl] at hy
    subst hy
    clear h hs hg _hn hr hr2
    go_enter Tryz.func49, Tryz.ntmps49
    go_wp2_with (first
      | (go_at_call 81; (with_reducible refine (right_any s _ HS.out).mono ?_); rintro e w2 ⟨rfl, rfl⟩; rw [HR.out]))
    go_ret
    exact ⟨rfl, HJ.out.below⟩
  | true =>
    rw [if_neg (by simp)] at hy
    by_cases hh : d.has s
    · rw [if_pos hh] at hy
      subst hy
      have h1 := (hg.file _ (get_mem hh)).n1
      obtain ⟨k, hk⟩ : ∃ k, (d.get s).n = k := ⟨_, rfl⟩
      have HZ := Lib.hid (show (if d.has s then ((d.get s).n : Int) else 0) = (k : Int) by rw [if_pos hh, hk])
      rw [hk] at h1
      clear h hs hg _hn hr hr2 hh hk
      go_enter Tryz.func49, Tryz.ntmps49
      go_wp2_with (first
        | (go_at_call 81; (with_reducible refine (right_any s _ HS.out).mono ?_); rintro e w2 ⟨rfl, rfl⟩; rw [HR.out])
        | (go_at_call 60; (with_reducible refine (psize_any _ b bm l d s HJ.out.dk HS.out).mono ?_); rintro e w1 ⟨rfl, rfl⟩; rw [HZ.out]))
      all_goals first | (exfalso; omega) | skip
      all_goals go_ret
      all_goals exact ⟨rfl, HJ.out.below⟩
    · rw [if_neg hh] at hy
      have HZ := Lib.hid (show (if d.has s then ((d.get s).n : Int) else 0) = 0 by rw [if_neg hh])
      by_cases hr1 : n < 1
      · rw [if_pos (.inl hr1)] at hy
        subst hy
        clear h hs hg _hn hr hr2 hh
        go_enter Tryz.func49, Tryz.ntmps49
        go_wp2_with (first
          | (go_at_call 81; (with_reducible refine (right_any s _ HS.out).mono ?_); rintro e w2 ⟨rfl, rfl⟩; rw [HR.out])
          | (go_at_call 60; (with_reducible refine (psize_any _ b bm l d s HJ.out.dk HS.out).mono ?_); rintro e w1 ⟨rfl, rfl⟩; rw [HZ.out]))
        go_ret
        exact ⟨rfl, HJ.out.below⟩
      by_cases hr3 : 64 < n
      · rw [if_pos (.inr hr3)] at hy
        subst hy
        clear h hs hg _hn hr hr2 hh
        go_enter Tryz.func49, Tryz.ntmps49
        go_wp2_with (first
          | (go_at_call 81; (with_reducible refine (right_any s _ HS.out).mono ?_); rintro e w2 ⟨rfl, rfl⟩; rw [HR.out])
          | (go_at_call 60; (with_reducible refine (psize_any _ b bm l d s HJ.out.dk HS.out).mono ?_); rintro e w1 ⟨rfl, rfl⟩; rw [HZ.out]))
        go_ret
        exact ⟨rfl, HJ.out.below⟩
      rw [if_neg (by omega)] at hy
      have hu := hg.used
      have hc := hg.cap1
      obtain ⟨u, hu2⟩ : ∃ u, usedN d.L = u := ⟨_, rfl⟩
      have HU := Lib.hid hu2
      have hl : d.L.length = l.length := by rw [h.files, List.length_map]
      rw [hu2] at hu hy
      rw [hl] at hy
      have hw : IntKind.i64.wrap ((u : Int) + n) = (u : Int) + n := IntWalk.i64_in _ (by omega)
      by_cases hf1 : d.cap < (u : Int) + n
      · rw [if_pos (.inl hf1)] at hy
        subst hy
        have hd : decide (d.cap < (u : Int) + n) = true := decide_eq_true hf1
        clear h hs hg _hn hr hr2 hh hu2 hl
        go_enter Tryz.func49, Tryz.ntmps49
        go_wp2_with (first
          | (go_at_call 81; (with_reducible refine (right_any s _ HS.out).mono ?_); rintro e w2 ⟨rfl, rfl⟩; rw [HR.out])
          | (go_at_call 60; (with_reducible refine (psize_any _ b bm l d s HJ.out.dk HS.out).mono ?_); rintro e w1 ⟨rfl, rfl⟩; rw [HZ.out]))
        refine wp_region_held_drew (S := (fun w' => w'.cell? ⟨w.heap.size, 0, none⟩ = some (ptr ⟨b, 0, none⟩) ∧ w'.cell? ⟨w.heap.size, 1, none⟩ = some (.string s) ∧ w'.cell? ⟨w.heap.size, 4, none⟩ = some (.int .i64 n) ∧ w'.cell? ⟨b, 0, none⟩ = some (.int .i64 d.cap) ∧ w'.cell? ⟨b, 1, none⟩ = some (.map (some bm)) ∧ Jd w b bm l d s t x n (.slice a m c) w')) (by kernel_rfl) (Jd.seven HJ.out.drew) (fun hS => ?_)
        refine rgw 0 ⟨some 25, .fieldAddr 102 (.tmp 1) 0, 0, _, _, none⟩ hS ?_
        refine rgw 1 ⟨some 26, .load 26 (.tmp 25), 26, _, _, none⟩ hS ?_
        refine rgw 3 ⟨some 28, .fieldAddr 102 (.tmp 1) 4, 0, _, _, none⟩ hS ?_
        refine rgw 4 ⟨some 29, .load 3 (.tmp 28), 3, _, _, none⟩ hS ?_
        refine rgw 6 ⟨some 31, .fieldAddr 102 (.tmp 1) 0, 0, _, _, none⟩ hS ?_
        refine rgw 7 ⟨some 32, .load 26 (.tmp 31), 26, _, _, none⟩ hS ?_
        refine rgw 8 ⟨some 33, .nilCheck (.tmp 32), 0, _, _, none⟩ hS ?_
        refine rgw 9 ⟨some 34, .fieldAddr 69 (.tmp 33) 0, 0, _, _, none⟩ hS ?_
        refine rgw 10 ⟨some 35, .load 3 (.tmp 34), 3, _, _, none⟩ hS ?_
        refine rg_one 2 ⟨some 27, .call { callee := .value (.func 82), args := #[.tmp 26], argTypes := #[26] }, 3, _, _, none⟩ (by kernel_rfl) rfl (fun K hK => ?_)
        go_simp
        (go_at_call 82; (with_reducible refine (pused_any _ b bm l d hS.2.2.2.2.2.dk HG.out).mono ?_); rintro e w1 ⟨rfl, hb⟩; rw [HU.out])
        refine hK.out _ _ ?_ (fun hS1 => ?_)
        · (exact Jd.seven (hS.2.2.2.2.2.next hb))
        clear hK K hS; have hS := hS1; clear hS1
        (try simp only [rgp])
        refine rgw 5 ⟨some 30, .binOp .add 3 (.tmp 27) (.tmp 29) 3, 3, _, _, none⟩ hS ?_
        refine rgw 11 ⟨some 36, .binOp .gtr 3 (.tmp 30) (.tmp 35) 3, 4, _, _, none⟩ hS ?_ (v := .bool true) (hy := by intro w hSw; (try dsimp only at hSw); go_simp)
        refine rgw 12 ⟨some 37, .move (.tmp 36), 4, _, _, none⟩ hS ?_
        refine rgt 13 (oi := ⟨some 38, .fieldAddr 102 (.tmp 1) 0, 0, _, _, some (12, false)⟩) (v := undef) rfl (.inr ⟨by rfl, rfl⟩) hS ?_
        (try simp only [rgp])
        refine rgt 14 (oi := ⟨some 39, .load 26 (.tmp 38), 26, _, _, some (12, false)⟩) (v := undef) rfl (.inr ⟨by rfl, rfl⟩) hS ?_
        (try simp only [rgp])
        refine rgt 15 (oi := ⟨some 40, .nilCheck (.tmp 39), 0, _, _, some (12, false)⟩) (v := undef) rfl (.inr ⟨by rfl, rfl⟩) hS ?_
        (try simp only [rgp])
        refine rgt 16 (oi := ⟨some 41, .fieldAddr 69 (.tmp 40) 1, 0, _, _, some (12, false)⟩) (v := undef) rfl (.inr ⟨by rfl, rfl⟩) hS ?_
        (try simp only [rgp])
        refine rgt 17 (oi := ⟨some 42, .load 67 (.tmp 41), 67, _, _, some (12, false)⟩) (v := undef) rfl (.inr ⟨by rfl, rfl⟩) hS ?_
        (try simp only [rgp])
        refine rgt 18 (oi := ⟨some 43, .call { callee := .builtin Builtin.len, args := #[.tmp 42], argTypes := #[67] }, 3, _, _, some (12, false)⟩) (v := undef) rfl (.inr ⟨by rfl, rfl⟩) hS ?_
        (try simp only [rgp])
        refine rgt 19 (oi := ⟨some 44, .binOp .geq 3 (.tmp 43) (.const (.int .i64 64)) 3, 4, _, _, some (12, false)⟩) (v := undef) rfl (.inr ⟨by rfl, rfl⟩) hS ?_
        (try simp only [rgp])
        refine rgw 20 ⟨some 45, .pick (.tmp 37) (.const (.bool true)) (.tmp 44), 4, _, _, none⟩ hS ?_
        refine rgw 21 ⟨some 24, .assign (.tmp 45), 4, _, _, none⟩ hS ?_
        refine wpAnyH_done (by kernel_rfl) ?_ _
        have HB := Lib.hid hS.2.2.2.2.2.below
        clear hS
        go_wp2
        go_ret
        exact ⟨rfl, HB.out⟩
      have hd : decide (d.cap < (u : Int) + n) = false := decide_eq_false hf1
      by_cases hf2 : 64 ≤ l.length
      · rw [if_pos (.inr hf2)] at hy
        subst hy
        have hd2 : decide (64 ≤ (l.length : Int)) = true := decide_eq_true (by omega)
        clear h hs hg _hn hr hr2 hh hu2 hl
        go_enter Tryz.func49, Tryz.ntmps49
        go_wp2_with (first
          | (go_at_call 81; (with_reducible refine (right_any s _ HS.out).mono ?_); rintro e w2 ⟨rfl, rfl⟩; rw [HR.out])
          | (go_at_call 60; (with_reducible refine (psize_any _ b bm l d s HJ.out.dk HS.out).mono ?_); rintro e w1 ⟨rfl, rfl⟩; rw [HZ.out]))
        refine wp_region_held_drew (S := (fun w' => w'.cell? ⟨w.heap.size, 0, none⟩ = some (ptr ⟨b, 0, none⟩) ∧ w'.cell? ⟨w.heap.size, 1, none⟩ = some (.string s) ∧ w'.cell? ⟨w.heap.size, 4, none⟩ = some (.int .i64 n) ∧ w'.cell? ⟨b, 0, none⟩ = some (.int .i64 d.cap) ∧ w'.cell? ⟨b, 1, none⟩ = some (.map (some bm)) ∧ Jd w b bm l d s t x n (.slice a m c) w')) (by kernel_rfl) (Jd.seven HJ.out.drew) (fun hS => ?_)
        refine rgw 0 ⟨some 25, .fieldAddr 102 (.tmp 1) 0, 0, _, _, none⟩ hS ?_
        refine rgw 1 ⟨some 26, .load 26 (.tmp 25), 26, _, _, none⟩ hS ?_
        refine rgw 3 ⟨some 28, .fieldAddr 102 (.tmp 1) 4, 0, _, _, none⟩ hS ?_
        refine rgw 4 ⟨some 29, .load 3 (.tmp 28), 3, _, _, none⟩ hS ?_
        refine rgw 6 ⟨some 31, .fieldAddr 102 (.tmp 1) 0, 0, _, _, none⟩ hS ?_
        refine rgw 7 ⟨some 32, .load 26 (.tmp 31), 26, _, _, none⟩ hS ?_
        refine rgw 8 ⟨some 33, .nilCheck (.tmp 32), 0, _, _, none⟩ hS ?_
        refine rgw 9 ⟨some 34, .fieldAddr 69 (.tmp 33) 0, 0, _, _, none⟩ hS ?_
        refine rgw 10 ⟨some 35, .load 3 (.tmp 34), 3, _, _, none⟩ hS ?_
        refine rg_one 2 ⟨some 27, .call { callee := .value (.func 82), args := #[.tmp 26], argTypes := #[26] }, 3, _, _, none⟩ (by kernel_rfl) rfl (fun K hK => ?_)
        go_simp
        (go_at_call 82; (with_reducible refine (pused_any _ b bm l d hS.2.2.2.2.2.dk HG.out).mono ?_); rintro e w1 ⟨rfl, hb⟩; rw [HU.out])
        refine hK.out _ _ ?_ (fun hS1 => ?_)
        · (exact Jd.seven (hS.2.2.2.2.2.next hb))
        clear hK K hS; have hS := hS1; clear hS1
        (try simp only [rgp])
        refine rgw 5 ⟨some 30, .binOp .add 3 (.tmp 27) (.tmp 29) 3, 3, _, _, none⟩ hS ?_
        refine rgw 11 ⟨some 36, .binOp .gtr 3 (.tmp 30) (.tmp 35) 3, 4, _, _, none⟩ hS ?_ (v := .bool false) (hy := by intro w hSw; (try dsimp only at hSw); go_simp)
        refine rgw 12 ⟨some 37, .move (.tmp 36), 4, _, _, none⟩ hS ?_
        refine rgw 13 ⟨some 38, .fieldAddr 102 (.tmp 1) 0, 0, _, _, some (12, false)⟩ hS ?_
        refine rgw 14 ⟨some 39, .load 26 (.tmp 38), 26, _, _, some (12, false)⟩ hS ?_
        refine rgw 15 ⟨some 40, .nilCheck (.tmp 39), 0, _, _, some (12, false)⟩ hS ?_
        refine rgw 16 ⟨some 41, .fieldAddr 69 (.tmp 40) 1, 0, _, _, some (12, false)⟩ hS ?_
        refine rgw 17 ⟨some 42, .load 67 (.tmp 41), 67, _, _, some (12, false)⟩ hS ?_
        refine rgw 18 ⟨some 43, .call { callee := .builtin Builtin.len, args := #[.tmp 42], argTypes := #[67] }, 3, _, _, some (12, false)⟩ hS ?_ (v := .int .i64 l.length) (hy := by intro w hSw; (try dsimp only at hSw); exact exec_mlen (.tmp 42) 67 rfl 9 126 Tryz.underlying67 bm l rfl hSw.2.2.2.2.2.dk.map)
        refine rgw 19 ⟨some 44, .binOp .geq 3 (.tmp 43) (.const (.int .i64 64)) 3, 4, _, _, some (12, false)⟩ hS ?_ (v := .bool true) (hy := by intro w hSw; (try dsimp only at hSw); go_simp)
        refine rgw 20 ⟨some 45, .pick (.tmp 37) (.const (.bool true)) (.tmp 44), 4, _, _, none⟩ hS ?_
        refine rgw 21 ⟨some 24, .assign (.tmp 45), 4, _, _, none⟩ hS ?_
        refine wpAnyH_done (by kernel_rfl) ?_ _
        have HB := Lib.hid hS.2.2.2.2.2.below
        clear hS
        go_wp2
        go_ret
        exact ⟨rfl, HB.out⟩
      · rw [if_neg (by omega)] at hy
        subst hy
        have hd2 : decide (64 ≤ (l.length : Int)) = false := decide_eq_false (by omega)
        clear h hs hg _hn hr hr2 hh hu2 hl
        go_enter Tryz.func49, Tryz.ntmps49
        go_wp2_with (first
          | (go_at_call 81; (with_reducible refine (right_any s _ HS.out).mono ?_); rintro e w2 ⟨rfl, rfl⟩; rw [HR.out])
          | (go_at_call 60; (with_reducible refine (psize_any _ b bm l d s HJ.out.dk HS.out).mono ?_); rintro e w1 ⟨rfl, rfl⟩; rw [HZ.out]))
        refine wp_region_held_drew (S := (fun w' => w'.cell? ⟨w.heap.size, 0, none⟩ = some (ptr ⟨b, 0, none⟩) ∧ w'.cell? ⟨w.heap.size, 1, none⟩ = some (.string s) ∧ w'.cell? ⟨w.heap.size, 4, none⟩ = some (.int .i64 n) ∧ w'.cell? ⟨b, 0, none⟩ = some (.int .i64 d.cap) ∧ w'.cell? ⟨b, 1, none⟩ = some (.map (some bm)) ∧ Jd w b bm l d s t x n (.slice a m c) w')) (by kernel_rfl) (Jd.seven HJ.out.drew) (fun hS => ?_)
        refine rgw 0 ⟨some 25, .fieldAddr 102 (.tmp 1) 0, 0, _, _, none⟩ hS ?_
        refine rgw 1 ⟨some 26, .load 26 (.tmp 25), 26, _, _, none⟩ hS ?_
        refine rgw 3 ⟨some 28, .fieldAddr 102 (.tmp 1) 4, 0, _, _, none⟩ hS ?_
        refine rgw 4 ⟨some 29, .load 3 (.tmp 28), 3, _, _, none⟩ hS ?_
        refine rgw 6 ⟨some 31, .fieldAddr 102 (.tmp 1) 0, 0, _, _, none⟩ hS ?_
        refine rgw 7 ⟨some 32, .load 26 (.tmp 31), 26, _, _, none⟩ hS ?_
        refine rgw 8 ⟨some 33, .nilCheck (.tmp 32), 0, _, _, none⟩ hS ?_
        refine rgw 9 ⟨some 34, .fieldAddr 69 (.tmp 33) 0, 0, _, _, none⟩ hS ?_
        refine rgw 10 ⟨some 35, .load 3 (.tmp 34), 3, _, _, none⟩ hS ?_
        refine rg_one 2 ⟨some 27, .call { callee := .value (.func 82), args := #[.tmp 26], argTypes := #[26] }, 3, _, _, none⟩ (by kernel_rfl) rfl (fun K hK => ?_)
        go_simp
        (go_at_call 82; (with_reducible refine (pused_any _ b bm l d hS.2.2.2.2.2.dk HG.out).mono ?_); rintro e w1 ⟨rfl, hb⟩; rw [HU.out])
        refine hK.out _ _ ?_ (fun hS1 => ?_)
        · (exact Jd.seven (hS.2.2.2.2.2.next hb))
        clear hK K hS; have hS := hS1; clear hS1
        (try simp only [rgp])
        refine rgw 5 ⟨some 30, .binOp .add 3 (.tmp 27) (.tmp 29) 3, 3, _, _, none⟩ hS ?_
        refine rgw 11 ⟨some 36, .binOp .gtr 3 (.tmp 30) (.tmp 35) 3, 4, _, _, none⟩ hS ?_ (v := .bool false) (hy := by intro w hSw; (try dsimp only at hSw); go_simp)
        refine rgw 12 ⟨some 37, .move (.tmp 36), 4, _, _, none⟩ hS ?_
        refine rgw 13 ⟨some 38, .fieldAddr 102 (.tmp 1) 0, 0, _, _, some (12, false)⟩ hS ?_
        refine rgw 14 ⟨some 39, .load 26 (.tmp 38), 26, _, _, some (12, false)⟩ hS ?_
        refine rgw 15 ⟨some 40, .nilCheck (.tmp 39), 0, _, _, some (12, false)⟩ hS ?_
        refine rgw 16 ⟨some 41, .fieldAddr 69 (.tmp 40) 1, 0, _, _, some (12, false)⟩ hS ?_
        refine rgw 17 ⟨some 42, .load 67 (.tmp 41), 67, _, _, some (12, false)⟩ hS ?_
        refine rgw 18 ⟨some 43, .call { callee := .builtin Builtin.len, args := #[.tmp 42], argTypes := #[67] }, 3, _, _, some (12, false)⟩ hS ?_ (v := .int .i64 l.length) (hy := by intro w hSw; (try dsimp only at hSw); exact exec_mlen (.tmp 42) 67 rfl 9 126 Tryz.underlying67 bm l rfl hSw.2.2.2.2.2.dk.map)
        refine rgw 19 ⟨some 44, .binOp .geq 3 (.tmp 43) (.const (.int .i64 64)) 3, 4, _, _, some (12, false)⟩ hS ?_ (v := .bool false) (hy := by intro w hSw; (try dsimp only at hSw); go_simp)
        refine rgw 20 ⟨some 45, .pick (.tmp 37) (.const (.bool true)) (.tmp 44), 4, _, _, none⟩ hS ?_
        refine rgw 21 ⟨some 24, .assign (.tmp 45), 4, _, _, none⟩ hS ?_
        refine wpAnyH_done (by kernel_rfl) ?_ _
        have HB := Lib.hid hS.2.2.2.2.2.below
        clear hS
        go_wp2
        go_ret
        exact ⟨rfl, HB.out⟩
end Go.Proofs.YtgegbpnmfpjdmaaGreatDoor
/-
  THE LIBRARY's CONTRACTS THAT THE WALKS USE, at this program's own numbers: slices_Sort_string, slices_Sort_string_none, strconv_Itoa. Each is one application of the kit's own theorem. Written by the kit's lay-shelf.mjs and lay-plain.mjs, pruned by tools/shelf.py.
-/
namespace Go.Proofs.YtgegbpnmfpjdmaaGreatDoor
open Go.Proofs Go.Shelf
def Tryz.laysM171_ren : Go.Shelf.Ren := ⟨fun | 171 => 83 | 243 => 106 | 246 => 126 | 283 => 145 | 284 => 146 | 285 => 147 | 286 => 148 | 129 => 142 | 317 => 157 | 318 => 158 | 319 => 159 | 320 => 160 | 337 => 163 | 338 => 164 | n => n, fun | 3 => 3 | 9 => 9 | 2 => 2 | 4 => 4 | 171 => 192 | 0 => 0 | 53 => 22 | 37 => 43 | 5 => 5 | 173 => 194 | 212 => 203 | 51 => 141 | 20 => 20 | 213 => 204 | 46 => 169 | 232 => 208 | 233 => 59 | n => n, fun | 17 => 0 | 18 => 2 | 19 => 3 | n => n⟩
theorem Tryz.laysM171 : Go.Proofs.LaysM.n171 Tryz.prog Tryz.laysM171_ren := {
  mixed := by kernel_rfl
  f129 := Tryz.func142.trans (congrArg some (by kernel_rfl))
  f171 := Tryz.func83.trans (congrArg some (by kernel_rfl))
  f243 := Tryz.func106.trans (congrArg some (by kernel_rfl))
  f246 := Tryz.func126.trans (congrArg some (by kernel_rfl))
  f283 := Tryz.func145.trans (congrArg some (by kernel_rfl))
  f284 := Tryz.func146.trans (congrArg some (by kernel_rfl))
  f285 := Tryz.func147.trans (congrArg some (by kernel_rfl))
  f286 := Tryz.func148.trans (congrArg some (by kernel_rfl))
  f317 := Tryz.func157.trans (congrArg some (by kernel_rfl))
  f318 := Tryz.func158.trans (congrArg some (by kernel_rfl))
  f319 := Tryz.func159.trans (congrArg some (by kernel_rfl))
  f320 := Tryz.func160.trans (congrArg some (by kernel_rfl))
  f337 := Tryz.func163.trans (congrArg some (by kernel_rfl))
  f338 := Tryz.func164.trans (congrArg some (by kernel_rfl))
  t0 := Tryz.underlying0
  a0 := Tryz.isAgg0
  z0 := Tryz.sizeOf0
  v0 := Tryz.zeroValue0
  t2 := Tryz.underlying2
  a2 := Tryz.isAgg2
  z2 := Tryz.sizeOf2
  v2 := Tryz.zeroValue2
  t3 := Tryz.underlying3
  a3 := Tryz.isAgg3
  z3 := Tryz.sizeOf3
  v3 := Tryz.zeroValue3
  t4 := Tryz.underlying4
  a4 := Tryz.isAgg4
  z4 := Tryz.sizeOf4
  v4 := Tryz.zeroValue4
  t5 := Tryz.underlying5
  a5 := Tryz.isAgg5
  z5 := Tryz.sizeOf5
  v5 := Tryz.zeroValue5
  t9 := Tryz.underlying9
  a9 := Tryz.isAgg9
  z9 := Tryz.sizeOf9
  v9 := Tryz.zeroValue9
  t20 := Tryz.underlying20
  a20 := Tryz.isAgg20
  z20 := Tryz.sizeOf20
  v20 := Tryz.zeroValue20
  t37 := Tryz.underlying43
  a37 := Tryz.isAgg43
  z37 := Tryz.sizeOf43
  v37 := Tryz.zeroValue43
  t46 := Tryz.underlying169
  a46 := Tryz.isAgg169
  z46 := Tryz.sizeOf169
  v46 := Tryz.zeroValue169
  t51 := Tryz.underlying141
  a51 := Tryz.isAgg141
  z51 := Tryz.sizeOf141
  v51 := Tryz.zeroValue141
  t53 := Tryz.underlying22
  a53 := Tryz.isAgg22
  z53 := Tryz.sizeOf22
  v53 := Tryz.zeroValue22
  t171 := Tryz.underlying192
  a171 := Tryz.isAgg192
  z171 := Tryz.sizeOf192
  v171 := Tryz.zeroValue192
  t173 := Tryz.underlying194
  a173 := Tryz.isAgg194
  z173 := Tryz.sizeOf194
  v173 := Tryz.zeroValue194
  t212 := Tryz.underlying203
  a212 := Tryz.isAgg203
  z212 := Tryz.sizeOf203
  v212 := Tryz.zeroValue203
  t213 := Tryz.underlying204
  a213 := Tryz.isAgg204
  z213 := Tryz.sizeOf204
  t232 := Tryz.underlying208
  a232 := Tryz.isAgg208
  z232 := Tryz.sizeOf208
  v232 := Tryz.zeroValue208
  t233 := Tryz.underlying59
  a233 := Tryz.isAgg59
  z233 := Tryz.sizeOf59
  v233 := Tryz.zeroValue59
  g17 := by kernel_rfl
  g18 := by kernel_rfl
  g19 := by kernel_rfl
  i0 := by kernel_rfl
  i2 := by kernel_rfl
  i3 := by kernel_rfl
  i4 := by kernel_rfl
  i5 := by kernel_rfl
  i9 := by kernel_rfl
  i20 := by kernel_rfl
  i37 := by kernel_rfl
  i46 := by kernel_rfl
  i51 := by kernel_rfl
  i53 := by kernel_rfl
  i171 := by kernel_rfl
  i173 := by kernel_rfl
  i212 := by kernel_rfl
  i232 := by kernel_rfl
  i233 := by kernel_rfl
  m17 := by kernel_rfl
  m18 := by kernel_rfl
  m19 := by kernel_rfl }
open Go.RowKit Go.Sort Go.Lib in
/-- strconv.Itoa: "Itoa is equivalent to FormatInt(int64(i), 10).": i's DECIMAL NUMERAL ('Lib.itoa': a '-' where i is negative, then the digits), FOR EVERY int. The world behind the call: the world before it, new blocks behind the heap (the library's 'var a [24]byte'), draws. (LAID: no walk: one application.) -/
theorem Tryz.strconv_Itoa (n : Int) (h0 : -9223372036854775808 ≤ n) (h1 : n ≤ 9223372036854775807) (w : World) (htab : Lib.TabIs Tryz.prog w "internal/strconv.uint64pow10" .u64 Lib.pow10Tab) :
    Calls Tryz.prog 83 #[.int .i64 n] w fun e w' => e = .returned (.string ⟨(Lib.itoa n).toArray⟩) ∧ ∃ k os, w' = grow (w.drewN k) os := Any.strconv_Itoa Tryz.laysM171 n h0 h1 w htab
def Tryz.lays190_ren : Go.Shelf.Ren := ⟨fun | 190 => 98 | 125 => 117 | 258 => 116 | 128 => 141 | 129 => 142 | 302 => 132 | 303 => 133 | 304 => 134 | 305 => 135 | 306 => 136 | 307 => 137 | 308 => 138 | 309 => 139 | 310 => 140 | 333 => 150 | 329 => 151 | 330 => 152 | 334 => 153 | 335 => 154 | 336 => 155 | 344 => 162 | n => n, fun | 31 => 124 | 9 => 9 | 3 => 3 | 46 => 169 | 0 => 0 | 51 => 141 | 53 => 22 | 4 => 4 | 183 => 182 | 182 => 181 | 131 => 187 | 5 => 5 | 218 => 196 | 222 => 200 | 228 => 205 | 229 => 111 | n => n, fun | n => n⟩
theorem Tryz.lays190 : Go.Proofs.Lays.n190 Tryz.prog Tryz.lays190_ren := {
  mixed := by kernel_rfl
  f125 := Tryz.func117.trans (congrArg some (by kernel_rfl))
  f128 := Tryz.func141.trans (congrArg some (by kernel_rfl))
  f129 := Tryz.func142.trans (congrArg some (by kernel_rfl))
  f190 := Tryz.func98.trans (congrArg some (by kernel_rfl))
  f258 := Tryz.func116.trans (congrArg some (by kernel_rfl))
  f302 := Tryz.func132.trans (congrArg some (by kernel_rfl))
  f303 := Tryz.func133.trans (congrArg some (by kernel_rfl))
  f304 := Tryz.func134.trans (congrArg some (by kernel_rfl))
  f305 := Tryz.func135.trans (congrArg some (by kernel_rfl))
  f306 := Tryz.func136.trans (congrArg some (by kernel_rfl))
  f307 := Tryz.func137.trans (congrArg some (by kernel_rfl))
  f308 := Tryz.func138.trans (congrArg some (by kernel_rfl))
  f309 := Tryz.func139.trans (congrArg some (by kernel_rfl))
  f310 := Tryz.func140.trans (congrArg some (by kernel_rfl))
  f329 := Tryz.func151.trans (congrArg some (by kernel_rfl))
  f330 := Tryz.func152.trans (congrArg some (by kernel_rfl))
  f333 := Tryz.func150.trans (congrArg some (by kernel_rfl))
  f334 := Tryz.func153.trans (congrArg some (by kernel_rfl))
  f335 := Tryz.func154.trans (congrArg some (by kernel_rfl))
  f336 := Tryz.func155.trans (congrArg some (by kernel_rfl))
  f344 := Tryz.func162.trans (congrArg some (by kernel_rfl))
  t0 := Tryz.underlying0
  a0 := Tryz.isAgg0
  z0 := Tryz.sizeOf0
  v0 := Tryz.zeroValue0
  t3 := Tryz.underlying3
  a3 := Tryz.isAgg3
  z3 := Tryz.sizeOf3
  v3 := Tryz.zeroValue3
  t4 := Tryz.underlying4
  a4 := Tryz.isAgg4
  z4 := Tryz.sizeOf4
  v4 := Tryz.zeroValue4
  t5 := Tryz.underlying5
  a5 := Tryz.isAgg5
  z5 := Tryz.sizeOf5
  v5 := Tryz.zeroValue5
  t9 := Tryz.underlying9
  a9 := Tryz.isAgg9
  z9 := Tryz.sizeOf9
  v9 := Tryz.zeroValue9
  t31 := Tryz.underlying124
  a31 := Tryz.isAgg124
  z31 := Tryz.sizeOf124
  v31 := Tryz.zeroValue124
  t46 := Tryz.underlying169
  a46 := Tryz.isAgg169
  z46 := Tryz.sizeOf169
  v46 := Tryz.zeroValue169
  t51 := Tryz.underlying141
  a51 := Tryz.isAgg141
  z51 := Tryz.sizeOf141
  v51 := Tryz.zeroValue141
  t53 := Tryz.underlying22
  a53 := Tryz.isAgg22
  z53 := Tryz.sizeOf22
  v53 := Tryz.zeroValue22
  t131 := Tryz.underlying187
  a131 := Tryz.isAgg187
  z131 := Tryz.sizeOf187
  v131 := Tryz.zeroValue187
  t182 := Tryz.underlying181
  a182 := Tryz.isAgg181
  z182 := Tryz.sizeOf181
  v182 := Tryz.zeroValue181
  t183 := Tryz.underlying182
  a183 := Tryz.isAgg182
  z183 := Tryz.sizeOf182
  v183 := Tryz.zeroValue182
  t218 := Tryz.underlying196
  a218 := Tryz.isAgg196
  z218 := Tryz.sizeOf196
  v218 := Tryz.zeroValue196
  t222 := Tryz.underlying200
  a222 := Tryz.isAgg200
  z222 := Tryz.sizeOf200
  v222 := Tryz.zeroValue200
  t228 := Tryz.underlying205
  a228 := Tryz.isAgg205
  z228 := Tryz.sizeOf205
  v228 := Tryz.zeroValue205
  t229 := Tryz.underlying111
  a229 := Tryz.isAgg111
  z229 := Tryz.sizeOf111
  v229 := Tryz.zeroValue111 }
open Go.Sort Go.RowKit in
theorem Tryz.slices_Sort_string (blk off cap : Nat) (ss : List (List UInt8)) (w : World) (hH : Holds encStr w blk off ss.toArray) (hblk : blk < w.heap.size) (hsz : ss.length < 4611686018427387904) :
    Calls Tryz.prog 98 #[.slice (some ⟨blk, off, none⟩) ss.length cap] w fun e w' =>
      e = .returned (.tuple #[]) ∧ ∃ n os, w' = grow (putRow encStr (Sort.ahead w n) blk off (ss.mergeSort fun x y => decide (x ≤ y)).toArray) os := Any.slices_Sort_string Tryz.lays190 blk off cap ss w hH hblk hsz
open Go.RowKit Go.Sort in
/-- .. and plain. (LAID: no walk: one application.) -/
theorem Tryz.slices_Sort_string_none (p : Option Addr) (cap : Nat) (w : World) :
    Calls Tryz.prog 98 #[.slice p 0 cap] w fun e w' => e = .returned (.tuple #[]) ∧ w' = w := Any.slices_Sort_string_none Tryz.lays190 p cap w
end Go.Proofs.YtgegbpnmfpjdmaaGreatDoor
namespace Go.Proofs.YtgegbpnmfpjdmaaGreatDoor
open Go.RowKit Go.Sort
def MF.key (x : MF) : List UInt8 := x.f.name.data.toList
theorem key_enc (x : MF) : encStr x.key = .string x.f.name := by
  unfold encStr MF.key
  congr 1
theorem key_le (x y : MF) (h : gtN y.f.name x.f.name = true) : x.key ≤ y.key := by
  have h1 := (gtN_iff _ _).1 h
  rw [Lib.toList_data, Lib.toList_data] at h1
  exact List.le_of_lt h1
theorem keys_sorted {l : List MF} (ha : Asc (l.map MF.f)) {ss : List (List UInt8)} (hp : ss.Perm (l.map MF.key)) : (ss.mergeSort fun x y => decide (x ≤ y)) = l.map MF.key := by
  refine (mergeSort_of_perm hp).trans ?_
  refine List.mergeSort_of_pairwise ?_
  rw [List.pairwise_map]
  unfold Asc at ha
  rw [List.pairwise_map] at ha
  exact ha.imp fun h => by simpa [leB] using key_le _ _ h
theorem own_ne_iter {w : World} {base size : Nat} {e : TypeId} {v : Value} {n : Nat} {xs : List Value} {bm r cnt : Nat} {l todo : List MF} (h : w.ownsRow base e size v n xs) (hr : RPk w bm r l todo cnt) : ∀ g, v.ownBlock = some g → some g ≠ some r := fun g hg e1 => by
  obtain rfl := Option.some.inj e1
  rcases h.2 with ⟨rfl, _⟩ | ⟨q, cap, cur, rfl, _, hb, _⟩
  · simp [Value.ownBlock] at hg
  · simp only [Value.ownBlock, Option.some.injEq] at hg
    subst hg
    exact hr.iter _ _ _ hb
theorem own_ne_iter' {w : World} {base size : Nat} {e : TypeId} {v : Value} {n : Nat} {xs : List Value} {bm r cnt : Nat} {l todo : List MF} (h : w.ownsRow base e size v n xs) (hr : RPk w bm r l todo cnt) : some r ≠ v.ownBlock := fun e1 => own_ne_iter h hr r e1.symm rfl
set_option maxRecDepth 8000 in
set_option maxHeartbeats 1000000 in
theorem plist_any (w : World) (b bm : Nat) (l : List MF) (d : AD) (h : Dk w b bm l d) (hg : Good d) :
    Calls Tryz.prog 73 #[ptr ⟨b, 0, none⟩] w fun e w' => ∃ v, e = .returned v ∧ SS w' v d.names ∧ Below w.heap.size w w' := by
  have HN := Lib.hid (h.names hg)
  have HA := Lib.hid (show Asc (l.map MF.f) by rw [← h.files]; exact hg.asc)
  have hl : l.length ≤ 64 := by have := hg.few; rwa [h.files, List.length_map] at this
  have HNM : Hid (d.names = l.map MF.nm) := Lib.hid (by unfold AD.names; rw [h.files, List.map_map]; rfl)
  have HM := Lib.hid h.map
  have HBM := Lib.hid h.map.lt
  obtain ⟨fl, lf, hb, _⟩ := h.blk
  obtain ⟨c0, c1, c2, c3, c4, c5⟩ := hb.cells
  clear hb h hg
  go_enter Tryz.func73, Tryz.ntmps73
  go_wp2_with (first
    | (refine wpl_range rfl (.tmp 10) 67 rfl 9 126 Tryz.underlying9 Tryz.underlying67 bm l rfl HM.out ?_; intro w0 HR0 hG0 HS0; have HB0 := Lib.hid ((Below.refl w.heap.size w).grown hG0.out (Nat.le_refl _) (by simp)); clear hG0))
  go_frame
  go_loopw [3] (fun v wr => ∃ (todo : List MF) (cnt : Nat) (ss : List (List UInt8)), Hid (RPk wr bm w.heap.size l todo cnt) ∧ Hid (wr.ownsRow w.heap.size 9 1 v ss.length (ss.map encStr)) ∧ Hid ((ss ++ todo.map MF.key).Perm (l.map MF.key)) ∧ Hid (Below w.heap.size w wr)) (fun _ wr => wr.rangeLeft bm w.heap.size)
  case atStart => exact ⟨l, l.length, [], HR0, ⟨rfl, .inl ⟨rfl, rfl⟩⟩, Lib.hid (List.Perm.refl _), HB0⟩
  case round =>
    obtain ⟨todo, cnt, ss, HR, HO, HP, HB⟩ := hrel
    go_wp2_with (first
      | (refine wpl_next secE rfl (.tmp 11) rfl 9 Tryz.underlying9 bm w.heap.size l todo cnt rfl HR.out ?_ ?_))
    · intro h0
      subst h0
      have hp : ss.Perm (l.map MF.key) := by have := HP.out; simpa using this
      have hsl : ss.length = l.length := by rw [hp.length_eq, List.length_map]
      have hks := keys_sorted HA.out hp
      rcases HO.out.2 with ⟨rfl, hnil⟩ | ⟨g, cap, cur, rfl, hbase, hb, h1, h2, h3, h4⟩
      · have hc := Tryz.slices_Sort_string_none none 0 wr
        have h0 : l = [] := List.length_eq_zero_iff.1 (by omega)
        have HSS := Lib.hid (show SS wr (.slice none 0 0) d.names by
          rw [HNM.out, h0]; exact CS.nil 1 wr)
        clear HO hks hsl hp h0
        go_wp2_with (first
          | (go_at_call 98; (refine hc.mono ?_); rintro e w' ⟨rfl, rfl⟩))
        go_ret
        exact ⟨_, rfl, HSS.out, HB.out⟩
      · have hH : Holds encStr wr g 0 ss.toArray := holds_of_block hb (by simpa using h4)
        have hgl : g < wr.heap.size := (Array.getElem?_eq_some_iff.1 hb).1
        have hc := Tryz.slices_Sort_string g 0 cap ss wr hH hgl (by omega)
        have HSS : Hid (∀ nn os, SS (grow (putRow encStr (Sort.ahead wr nn) g 0 (ss.mergeSort fun x y => decide (x ≤ y)).toArray) os) (.slice (some ⟨g, 0, none⟩) ss.length cap) d.names ∧ Below w.heap.size w (grow (putRow encStr (Sort.ahead wr nn) g 0 (ss.mergeSort fun x y => decide (x ≤ y)).toArray) os)) := Lib.hid fun nn os => by
          refine ⟨?_, HB.out.grown (grownBy_sorted _) HB.out.size (fun j hj => by cases hj; exact hbase)⟩
          have ho := ownsRow_sorted (os := os) (n := nn) (ts := ss.mergeSort fun x y => decide (x ≤ y)) (by simp) hbase hb h1 h2 h3
          have hcs := CS.own ho
          unfold SS
          rw [HNM.out, List.length_map, ← hsl, List.map_map]
          rw [hks, List.map_map] at hcs
          have e : encStr ∘ MF.key = Value.string ∘ MF.nm := by funext x; exact key_enc x
          rw [e, ← hks] at hcs
          exact hcs
        clear HO hks hsl hp hH hgl hb h4 h3 h1 h2
        go_wp2_with (first
          | (go_at_call 98; (refine hc.mono ?_); rintro e w' ⟨rfl, nn, os, rfl⟩))
        go_ret
        exact ⟨_, rfl, HSS.out nn os⟩
    · intro x w1 cnt1 hx HR1 hlt hG1 hs1 hen
      have hnd : (todo.map MF.nm).Nodup := HN.out.sublist (HR.out.sub.map _)
      have hp := out_perm hnd hx.out
      have HO1 := Lib.hid (own_over HO.out hG1.out (own_ne_iter HO.out HR.out))
      have HB1 := Lib.hid (HB.out.grown hG1.out HB.out.size (fun j hj => by cases hj; exact Nat.le_refl _))
      have hle : ss.length ≤ 64 := by
        have h1 := HP.out.length_eq
        rw [List.length_append, List.length_map, List.length_map] at h1
        omega
      have HE := Lib.hid (HR.out.left_eq)
      have HSZ := Lib.hid (HB1.out.size)
      have HP1 : Hid (((ss ++ [x.key]) ++ (outBy MF.nm todo (MF.nm x)).map MF.key).Perm (l.map MF.key)) := Lib.hid (by
        refine List.Perm.trans ?_ HP.out
        rw [List.append_assoc]
        exact List.Perm.append_left _ (by simpa using (hp.map MF.key).symm))
      have HNE := Lib.hid (HR.out.ne)
      clear hnd hp HR HB HO hG1 hs1
      go_wp2_with (first
        | (at_builtin; go_loud (refine wpl_app_str rfl (.tmp 16) (.tmp 18) rfl w.heap.size _ ss.length (ss.map encStr) rfl (Lib.hid (HO1.out.alloc _)) ⟨w1.heap.size, 0, none⟩ x.f.name rfl (cell_of_row _ _ 0 _ _ _ (heap_alloc_last w1 _)) (by omega) (by have := HSZ.out; rw [alloc_size]; omega) ?_); intro v' w2 HO2 hG2))
      have HR2 := Lib.hid ((HR1.out.below (below_alloc w1 _)).kept hG2.out (row_ne_low HO1.out HBM.out) (own_ne_iter' HO1.out HR1.out))
      have HE2 := Lib.hid (HR2.out.left_eq)
      have HB2 := Lib.hid (grown_alloc_trans hG2.out HB1.out (fun j hj => (HO1.out.lt j hj).1))
      clear hG2
      go_roundw
      case rel => exact ⟨_, cnt1, ss ++ [x.key], HR2, Lib.hid (by have := HO2.out; rw [List.length_append, List.map_append, List.map_cons, List.map_nil, key_enc]; exact this), HP1, HB2⟩
      case measure => rw [HE.out, HE2.out]; exact hlt.out
end Go.Proofs.YtgegbpnmfpjdmaaGreatDoor
namespace Go.Proofs.YtgegbpnmfpjdmaaGreatDoor
open Go.RowKit
theorem wpl_app_one {w : World} {ops : Array Oper} {rest : List Oper} {o : Oper} {a : Act} {Q : Exit → Act → World → Prop} (hgd : o.guard = none) (s x : Operand) (t e : TypeId)
    (ho : o.op = .call { callee := .builtin .append, args := #[s, x], argTypes := #[t, t] }) (ht : Tryz.prog.underlying t = some (.slice e)) (z : Value) (bytes : Nat) (hinfo : (Tryz.prog.info? e).map (fun i => (i.zero, i.size, i.bytes)) = some (some z, 1, bytes)) (hz : z.cells.size = 1) (hby : bytes ≤ 1000)
    (base : Nat) (v : Value) (n : Nat) (xs : List Value) (hs : a.eval s = v) (hown : Hid (w.ownsRow base e 1 v n xs))
    (ad : Addr) (y : Value) (hy : y.oneCell' = true) (hx : a.eval x = .slice (some ad) 1 1) (hcell : w.cell? ad = some y) (hn : n ≤ 1000000) (hbase : base ≤ w.heap.size)
    (h : ∀ v' w', Hid (w'.ownsRow base e 1 v' (n + 1) (xs ++ [y])) → Hid (w.grownBy w' v.ownBlock) → wpList Tryz.prog ops Q rest (a.put o.dst v') w') : wpList Tryz.prog ops Q (o :: rest) a w := by
  obtain ⟨i, hi, hz0, hz1, hz2⟩ := info_parts hinfo
  have hb2 : ((n + 1) + (n + 1) / 4 + 192) * bytes ≤ 281474976710656 := by
    refine Nat.le_trans (Nat.mul_le_mul_left _ hby) ?_
    omega
  refine wpList_append_own_wide w hgd s x t ho base e i z 1 bytes ht hi hz0 hz1 hz2 hz (by omega) v n xs hs hown.out ad 1 1 [y] hx rfl ?_ (by simpa using hy) (by unfold maxLen; omega) hb2 hbase ?_
  · intro j u hj
    match j, hj with
    | 0, hj => simp at hj; subst hj; simpa [Addr.add] using hcell
  · intro v' w' h1 h2 _
    exact h v' w' h1 h2
theorem ptr_parts : (Tryz.prog.info? 96).map (fun i => (i.zero, i.size, i.bytes)) = some (some (.pointer none), 1, 8) := by kernel_rfl
def wlF (x : MF) (j : Nat) : List (Nat × Nat) := ((List.range j).filter fun i => x.f.ws.getD i false).map fun i => (x.g, i)
def wlL (l : List MF) : List (Nat × Nat) := l.flatMap fun x => wlF x x.f.n
def wpV (p : Nat × Nat) : Value := .pointer (some ⟨p.1, p.2 * 129, none⟩)
theorem wlF_succ (x : MF) (j : Nat) : wlF x (j + 1) = wlF x j ++ (if x.f.ws.getD j false = true then [(x.g, j)] else []) := by
  unfold wlF
  rw [List.range_succ, List.filter_append, List.map_append]
  congr 1
  simp only [List.filter_cons, List.filter_nil]
  split <;> rfl
theorem wlL_succ (l : List MF) (i : Nat) (x : MF) (h : l[i]? = some x) : wlL (l.take (i + 1)) = wlL (l.take i) ++ wlF x x.f.n := by
  obtain ⟨hi, rfl⟩ := List.getElem?_eq_some_iff.1 h
  unfold wlL
  rw [List.take_succ_eq_append_getElem hi, List.flatMap_append]; simp
theorem wlF_len (x : MF) : ∀ j, j ≤ x.f.ws.length → (wlF x j).length = waitsN (x.f.ws.take j)
  | 0, _ => rfl
  | j + 1, h => by
    rw [wlF_succ, List.length_append, wlF_len x j (by omega), waitsN_take _ _ (by omega)]
    split <;> rfl
theorem wlL_len : ∀ (l : List MF), (∀ x ∈ l, x.f.ws.length = x.f.n) → (wlL l).length = waitingN (l.map MF.f)
  | [], _ => rfl
  | x :: l, h => by
    unfold wlL
    rw [List.flatMap_cons, List.length_append]
    have h1 := wlL_len l (fun y hy => h y (List.mem_cons_of_mem _ hy))
    unfold wlL at h1
    rw [h1, wlF_len x x.f.n (by rw [h x (List.mem_cons_self ..)]; exact Nat.le_refl _), List.take_of_length_le (by rw [h x (List.mem_cons_self ..)]; exact Nat.le_refl _)]
    simp [waitingN]
theorem wlF_le (x : MF) (j : Nat) : (wlF x j).length ≤ j := by
  unfold wlF
  rw [List.length_map]
  exact Nat.le_trans (List.length_filter_le ..) (by simp)
theorem wlL_le : ∀ (l : List MF), (∀ x ∈ l, x.f.n ≤ 64) → (wlL l).length ≤ 64 * l.length
  | [], _ => by simp [wlL]
  | x :: l, h => by
    have h1 := wlL_le l (fun y hy => h y (List.mem_cons_of_mem _ hy))
    have h2 := wlF_le x x.f.n
    have h3 := h x (List.mem_cons_self ..)
    unfold wlL at h1 ⊢
    rw [List.flatMap_cons, List.length_append, List.length_cons]; omega
theorem look_mem {α : Type} {nm : α → ByteArray} {vl : α → Value} {zv : Value} {l : List α} (h : (l.map nm).Nodup) {x : α} (hx : x ∈ l) : lookV nm vl zv l (nm x) = vl x := by
  unfold lookV atBy
  have e : l.find? (fun y => decide (nm y = nm x)) = some x := by
    induction l with
    | nil => simp at hx
    | cons y r ih =>
      rw [List.map_cons, List.nodup_cons] at h
      rw [List.find?_cons]
      by_cases e : nm y = nm x
      · rw [decide_eq_true e]
        rcases List.mem_cons.1 hx with rfl | hx
        · rfl
        · exact absurd (by rw [e]; exact List.mem_map_of_mem hx) h.1
      · rw [decide_eq_false e]
        rcases List.mem_cons.1 hx with rfl | hx
        · exact absurd rfl e
        · exact ih h.2 hx
  rw [e]
theorem SS.slice {w : World} {v : Value} {l : List ByteArray} (h : SS w v l) : ∃ a c, v = .slice a l.length c := by
  obtain ⟨a, c, e, _⟩ := CS.form h; exact ⟨a, c, e⟩
theorem size_name {s : ByteArray} (h : rightB s = true) : s.size ≤ maxLen := by
  unfold rightB nameN at h
  simp only [Bool.and_eq_true, decide_eq_true_eq] at h
  have : s.data.toList.length = s.size := Array.length_toList
  unfold maxLen; omega
theorem own_low {w : World} {base base' size : Nat} {e : TypeId} {v : Value} {n : Nat} {xs : List Value} (h : w.ownsRow base e size v n xs) (hb : base' ≤ base) : w.ownsRow base' e size v n xs := by
  refine ⟨h.1, ?_⟩
  rcases h.2 with h2 | ⟨g, cap, cur, hv, hbg, h3⟩
  · exact .inl h2
  · exact .inr ⟨g, cap, cur, hv, Nat.le_trans hb hbg, h3⟩
set_option maxRecDepth 8000 in
set_option maxHeartbeats 1000000 in
theorem pwaiting_any (w : World) (b bm : Nat) (l : List MF) (d : AD) (h : Dk w b bm l d) (hg : Good d) :
    Calls Tryz.prog 40 #[ptr ⟨b, 0, none⟩] w fun e w' => ∃ v, e = .returned v ∧ w'.ownsRow w.heap.size 96 1 v (wlL l).length ((wlL l).map wpV) ∧ Below w.heap.size w w' := by
  have HD := Lib.hid h
  have HG := Lib.hid hg
  have HN := Lib.hid (h.names hg)
  have hl : l.length ≤ 64 := by have := hg.few; rwa [h.files, List.length_map] at this
  have HL := Lib.hid hl
  have HNM : Hid (d.names = l.map MF.nm) := Lib.hid (by unfold AD.names; rw [h.files, List.map_map]; rfl)
  have HGF : Hid (∀ x ∈ l, GF x.f) := Lib.hid fun x hx => hg.file _ (by rw [h.files]; exact List.mem_map_of_mem hx)
  clear h hg
  go_enter Tryz.func40, Tryz.ntmps40
  go_wp2_with (first
    | (go_at_call 73; (with_reducible refine (plist_any _ b bm l d HD.out HG.out).mono ?_); rintro e w1 ⟨v1, rfl, hss, hb⟩; obtain ⟨a1, k1, rfl⟩ := hss.slice; rw [HNM.out, List.length_map] at hss ⊢; have HSS := Lib.hid hss; have HB1 := Lib.hid hb; have HD1 := Lib.hid (HD.out.below hb); clear hss hb))
  go_loopw [3, 11] (fun v iv wr => ∃ i : Nat, iv = .int .i64 i ∧ i ≤ l.length ∧ Hid (wr.ownsRow w1.heap.size 96 1 v (wlL (l.take i)).length ((wlL (l.take i)).map wpV)) ∧ Hid (Below w1.heap.size w1 wr)) (fun _ iv _ => l.length - (intOf iv).toNat)
  case atStart => exact ⟨0, rfl, by omega, ⟨rfl, .inl ⟨rfl, rfl⟩⟩, Below.refl _ _⟩
  case round =>
    obtain ⟨i, rfl, hi, HO, HB⟩ := hrel
    by_cases hlt : (i : Int) < (l.length : Int)
    · obtain ⟨x, hx⟩ := row_some (L := l) (i := i) (by omega)
      have hxm := List.mem_of_getElem? hx
      have HX := Lib.hid hx
      have HXF := Lib.hid (HGF.out x hxm)
      have HSO : Hid (SS wr (.slice a1 l.length k1) (l.map MF.nm)) := Lib.hid (HSS.out.kin (Kin.below HB.out))
      obtain ⟨nb, no, rfl, hcell⟩ := SS.at_ HSO.out i x.f.name (by rw [List.getElem?_map, hx]; rfl)
      have HDO := Lib.hid (HD1.out.below HB.out)
      obtain ⟨fl, lf, hb, _⟩ := HDO.out.blk
      obtain ⟨_, c1, _⟩ := hb.cells
      have HLK := Lib.hid ((look_mem (vl := MF.v) (zv := zS) HN.out hxm).trans (show x.v = .slice (some ⟨x.g, 0, none⟩) x.f.n x.c from rfl))
      have HSZ := Lib.hid (size_name HXF.out.name)
      obtain ⟨n, hn⟩ : ∃ n, x.f.n = n := ⟨_, rfl⟩
      rw [hn] at HLK
      have HXN := Lib.hid hn
      have hn64 : (n : Int) ≤ 64 := by have := HXF.out.n64; omega
      obtain ⟨wo, hwo⟩ : ∃ wo, wo = wr := ⟨_, rfl⟩
      subst hwo
      clear hb hx hxm hn
      go_wp2_with (first
        | (refine wpl_look secE rfl (.tmp 18) (.tmp 19) 67 rfl 9 126 Tryz.underlying9 Tryz.underlying67 (zeroS _) bm l rfl HDO.out.map x.f.name rfl HSZ.out ?_; rw [show lookV MF.nm MF.v zS l x.f.name = _ from HLK.out]))
      go_loopw [3, 23] (fun v jv wr => ∃ j : Nat, jv = .int .i64 j ∧ j ≤ n ∧ Hid (wr.ownsRow w1.heap.size 96 1 v (wlL (l.take i) ++ wlF x j).length ((wlL (l.take i) ++ wlF x j).map wpV)) ∧ Hid (Below w1.heap.size w1 wr)) (fun _ jv _ => n - (intOf jv).toNat)
      case atStart => exact ⟨0, rfl, by omega, by rw [show wlF x 0 = [] from rfl, List.append_nil]; exact HO, HB⟩
      case round =>
        obtain ⟨j, rfl, hj, HO2, HB2⟩ := hrel
        by_cases hjn : (j : Int) < (n : Int)
        · have HD2 := Lib.hid (HD1.out.below HB2.out)
          have hwt := (HD2.out.row x (List.mem_of_getElem? HX.out)).wt (secsOf_get x.f j (by rw [HXN.out]; omega))
          dsimp only at hwt
          obtain ⟨q, hq⟩ : ∃ q, x.f.ws.getD j false = q := ⟨_, rfl⟩
          rw [hq] at hwt
          have HS1 := Lib.hid (wlF_succ x j)
          rw [hq] at HS1
          have HLE : Hid ((wlL (l.take i) ++ wlF x j).length ≤ 1000000) := Lib.hid (by
            have h1 := wlL_le (l.take i) (fun y hy => (HGF.out y (List.mem_of_mem_take hy)).n64)
            have h2 := wlF_le x j
            have h3 : (l.take i).length ≤ l.length := List.length_take_le' ..
            have h4 := HL.out
            rw [List.length_append]; omega)
          have hjb : j < n := by omega
          have hidx : (129 : Nat) * n ≤ 9223372036854775807 := by omega
          cases q with
          | true =>
            rw [if_pos rfl] at HS1
            have HSB := Lib.hid HB2.out.size
            go_wp2_with (first
              | (at_builtin; refine wpl_app_one rfl (.tmp 31) (.tmp 35) 89 96 rfl Tryz.underlying89 (.pointer none) 8 ptr_parts rfl (by omega) w1.heap.size _ _ _ rfl (Lib.hid (HO2.out.alloc _)) ⟨wr.heap.size, 0, none⟩ (wpV (x.g, j)) rfl rfl (cell_of_row _ _ 0 _ _ _ (heap_alloc_last wr _)) HLE.out (by have := HSB.out; rw [alloc_size]; omega) ?_; intro v2 w2 HO4 hG; have HB4 := Lib.hid (grown_alloc_trans hG.out HB2.out (fun j hj => (HO2.out.lt j hj).1)); clear hG))
            have HO5 : Hid (w2.ownsRow w1.heap.size 96 1 v2 (wlL (l.take i) ++ wlF x (j + 1)).length ((wlL (l.take i) ++ wlF x (j + 1)).map wpV)) := by
              have h1 := HO4.out
              rw [HS1.out, ← List.append_assoc, List.length_append, List.map_append]; exact h1
            go_roundw
            case rel => exact ⟨j + 1, by go_num, by omega, HO5, HB4⟩
            case measure => simp [intOf]; omega
          | false =>
            rw [if_neg (by simp), List.append_nil] at HS1
            have HO5 : Hid (wr.ownsRow w1.heap.size 96 1 u3 (wlL (l.take i) ++ wlF x (j + 1)).length ((wlL (l.take i) ++ wlF x (j + 1)).map wpV)) := by
              rw [HS1.out]; exact HO2
            go_wp2
            go_roundw
            case rel => exact ⟨j + 1, by go_num, by omega, HO5, HB2⟩
            case measure => simp [intOf]; omega
        · obtain rfl : j = n := by omega
          have HO3 : Hid (wr.ownsRow w1.heap.size 96 1 u3 (wlL (l.take (i + 1))).length ((wlL (l.take (i + 1))).map wpV)) := by
            rw [wlL_succ l i x HX.out, HXN.out]; exact HO2
          go_wp2
          go_roundw
          case rel => exact ⟨i + 1, by go_num, by omega, HO3, HB2⟩
          case measure => simp [intOf]; omega
    · obtain rfl : i = l.length := by omega
      rw [List.take_length] at HO
      go_wp2
      go_ret
      exact ⟨_, rfl, own_low HO.out HB1.out.size, HB1.out.trans (HB.out.mono HB1.out.size)⟩
end Go.Proofs.YtgegbpnmfpjdmaaGreatDoor
namespace Go.Proofs.YtgegbpnmfpjdmaaGreatDoor
open Go.RowKit
theorem sz_size : Tryz.zeroCells128.size = 129 := by kernel_rfl
theorem sct_info (c : Array Value) (h : c.size = 129) : (Tryz.prog.info? 128).map (·.size) = some c.size := by rw [h]; kernel_rfl
def scv (s : Sc) : Array Value := s.cells.toArray
theorem scv_size {s : Sc} (h : s.ok) : (scv s).size = 129 := by simp [scv, h.len]
theorem Sc.one (s : Sc) : ∀ v ∈ s.cells, v.oneCell' = true := by
  intro v hv
  unfold Sc.cells at hv
  simp only [List.mem_append, List.mem_singleton] at hv
  rcases hv with h | h | rfl
  · exact il_one _ _ v h
  · exact il_one _ _ v h
  · rfl
def XB (w : World) (g : Nat) (s : Sc) : Prop := w.heap[g]? = some (.cells (scv s) 128 (0, 0)) ∧ s.ok
theorem XB.keep {w w' : World} {g : Nat} {s : Sc} (h : XB w g s) (hb : Below w.heap.size w w') : XB w' g s := ⟨by rw [hb.block g (Array.getElem?_eq_some_iff.1 h.1).1]; exact h.1, h.2⟩
theorem XB.sr {w : World} {g : Nat} {s : Sc} (h : XB w g s) : SR w g 1 [s] := by
  refine ⟨s.cells, h.1, by rw [h.2.len], by simp, by unfold maxLen; omega, fun i t ht => ?_⟩
  have hi : i = 0 := by have := (List.getElem?_eq_some_iff.1 ht).1; simpa using this
  subst hi
  simp at ht
  subst ht
  exact ⟨h.2, fun j v hv => by simpa using hv⟩
theorem XB.la {w : World} {g : Nat} {s : Sc} (h : XB w g s) : At w g 0 s.la := by simpa using h.sr.la (i := 0) rfl
theorem XB.se {w : World} {g : Nat} {s : Sc} (h : XB w g s) : At w g 64 s.se := by simpa using h.sr.se (i := 0) rfl
section
variable {w : World} {ops : Array Oper} {rest : List Oper} {o : Oper} {a : Act} {Q : Exit → Act → World → Prop}
theorem wpl_load_sc (hgd : o.guard = none) (x : Operand) (ho : o.op = .load 128 x) (g c : Nat) (S : List Sc) (h : SR w g c S) (i : Nat) (s : Sc) (hs : S[i]? = some s) (off : Nat) (hoff : i * 129 = off) (hx : a.eval x = .pointer (some ⟨g, off, none⟩))
    (hk : wpList Tryz.prog ops Q rest (a.put o.dst (.agg (scv s))) w) : wpList Tryz.prog ops Q (o :: rest) a w := by
  subst hoff
  refine wpList_load_mid hgd 128 x ho g (i * 129) hx s.cells _ ?_ Tryz.underlying128 rfl ?_ hk
  · intro j v hv
    exact h.cell hs hv
  · have := sct_info (scv s) (scv_size (h.ok hs))
    simpa [scv] using this
theorem wpl_store_sc {w1 : World} (hgd : o.guard = none) (x y : Operand) (ho : o.op = .store 128 x y) (hw : w = w1.alloc (.cells Tryz.zeroCells128 128)) (g : Nat) (hg : w1.heap.size = g) (s : Sc) (hs : s.ok)
    (hx : a.eval x = .pointer (some ⟨g, 0, none⟩)) (hy : a.eval y = .agg (scv s)) (h : ∀ w', Hid (XB w' g s) → Hid (Below w1.heap.size w1 w') → wpList Tryz.prog ops Q rest (a.put o.dst undef) w') : wpList Tryz.prog ops Q (o :: rest) a w := by
  subst hw; subst hg
  have hk : (w1.alloc (.cells Tryz.zeroCells128 128)).heap[w1.heap.size]? = some (.cells Tryz.zeroCells128 128 (0, 0)) := heap_alloc_last w1 _
  refine wpList_store_row hgd 128 x y ho w1.heap.size (scv s) hx hy _ _ hk (sct_info _ (scv_size hs)) (by rw [scv_size hs, sz_size]) (all_oneCell_toArray s.one) ?_
  exact h _ ⟨setRow_heap _ _ _ _ _ _ hk, hs⟩ (below_row (below_alloc w1 _) (Nat.le_refl _) _)
end
theorem pWaiting_any (w : World) (b bm : Nat) (l : List MF) (d : AD) (h : Dk w b bm l d) (hg : Good d) :
    Calls Tryz.prog 17 #[ptr ⟨b, 0, none⟩] w fun e w' => e = .returned (.int .i64 (waitingN d.L : Int)) ∧ Below w.heap.size w w' := by
  have HD := Lib.hid h
  have HG := Lib.hid hg
  have HE : Hid ((wlL l).length = waitingN d.L) := Lib.hid (by
    rw [h.files]
    exact wlL_len l fun x hx => (hg.file _ (by rw [h.files]; exact List.mem_map_of_mem hx)).ws)
  obtain ⟨n, hn⟩ : ∃ n, waitingN d.L = n := ⟨_, rfl⟩
  rw [hn] at HE ⊢
  clear h hg hn
  go_enter Tryz.func17, Tryz.ntmps17
  go_wp2_with (first
    | (go_at_call 40; (with_reducible refine (pwaiting_any _ b bm l d HD.out HG.out).mono ?_); rintro e w1 ⟨v1, rfl, hcs, hb⟩; rw [HE.out] at hcs; have HB := Lib.hid hb; obtain ⟨a1, k1, rfl, _⟩ := (CS.own hcs).form; clear hcs hb))
  go_ret
  exact ⟨rfl, HB.out⟩
theorem own_stay {w w' : World} {base size : Nat} {e : TypeId} {v : Value} {n : Nat} {xs : List Value} (h : w.ownsRow base e size v n xs) (hb : Below w.heap.size w w') : w'.ownsRow base e size v n xs := by
  refine ⟨h.1, ?_⟩
  rcases h.2 with h2 | ⟨g, cap, cur, hv, hbg, hcur, h3⟩
  · exact .inl h2
  · exact .inr ⟨g, cap, cur, hv, hbg, by rw [hb.block g (Array.getElem?_eq_some_iff.1 hcur).1]; exact hcur, h3⟩
end Go.Proofs.YtgegbpnmfpjdmaaGreatDoor
namespace Go.Proofs.YtgegbpnmfpjdmaaGreatDoor
open Go.RowKit
def MF.lf (x : MF) : LFile := (x.f.name, x.f.n, x.f.las)
end Go.Proofs.YtgegbpnmfpjdmaaGreatDoor
