/-
  TEXTS JOINED: DkMay, DkUsed, Shelf, DkList, DkWaits, DkVal, DkFiles. Each one's own words stand at its head.
-/
import Derived.Test.YtnmplnemnfonfaaGreatDoorJ6
import Derived.Shelf.LaysM
import Derived.Shelf.Strconv.Itoa3
import Derived.Test.YtnmplnemnfonfaaGreatDoorProg
import Derived.Test.YtnmplnemnfonfaaGreatDoorJ5
import Derived.Sort.KeysCollected
import Derived.Sort.OwnSorted
namespace Go.Proofs.YtnmplnemnfonfaaGreatDoor
open Go.RowKit
def keptN (kb : List Int) (torn cut : Int) (i : Nat) : Nat := if (i : Int) = torn then cutN cut else if bitI kb (i : Int) = true then 64 else 0
end Go.Proofs.YtnmplnemnfonfaaGreatDoor
namespace Go.Proofs.YtnmplnemnfonfaaGreatDoor
open Go.RowKit
theorem Asc.nodup {L : List AF} (h : Asc L) : (L.map AF.name).Nodup := by
  unfold List.Nodup
  rw [List.pairwise_map]
  exact List.Pairwise.imp (R := fun f g : AF => gtN g.name f.name = true) (fun {f g} h e => gtN_ne h (Eq.symm e)) h
theorem Dk.names {w : World} {b bm : Nat} {l : List MF} {d : AD} (h : Dk w b bm l d) (hg : Good d) : (l.map MF.nm).Nodup := by
  have := hg.asc.nodup
  rw [h.files, List.map_map] at this
  exact this
abbrev RPk (w : World) (bm r : Nat) (l todo : List MF) (cnt : Nat) : Prop := RP MF.nm MF.dat secR Tryz.prog 9 w bm r l todo cnt
def usedM (l : List MF) : Nat := (l.map fun x => x.f.n).sum
theorem usedM_perm {l l' : List MF} (h : l.Perm l') : usedM l = usedM l' := (h.map _).sum_nat
theorem Dk.used_eq {w : World} {b bm : Nat} {l : List MF} {d : AD} (h : Dk w b bm l d) : usedN d.L = usedM l := by rw [h.files]; unfold usedN; rw [List.map_map]; rfl
set_option maxRecDepth 8000 in
set_option maxHeartbeats 1000000 in
theorem pused_any (w : World) (b bm : Nat) (l : List MF) (d : AD) (h : Dk w b bm l d) (hg : Good d) :
    Calls Tryz.prog 42 #[ptr ⟨b, 0, none⟩] w fun e w' => e = .returned (.int .i64 (usedN d.L : Int)) ∧ Below w.heap.size w w' := by
  have HN := Lib.hid (h.names hg)
  have hu := hg.used
  have hc := hg.cap1
  rw [h.used_eq] at hu ⊢
  have hub : (usedM l : Int) ≤ 1048576 := by omega
  have HM := Lib.hid h.map
  obtain ⟨fl, lf, hb, _⟩ := h.blk
  obtain ⟨c0, c1, c2, c3, c4, c5⟩ := hb.cells
  clear hb h hg hu hc
  go_enter Tryz.func42, Tryz.ntmps42
  go_wp2_with (first
    | (refine wpl_range rfl (.tmp 11) 59 rfl 9 104 Tryz.underlying9 Tryz.underlying59 bm l rfl HM.out ?_; intro w0 HR0 hG0 HS0; have HB0 := Lib.hid ((Below.refl w.heap.size w).grown hG0.out (Nat.le_refl _) (by simp)); clear hG0))
  go_frame
  go_loopw [3] (fun v wr => ∃ (todo : List MF) (cnt u : Nat), v = .int .i64 (u : Int) ∧ Hid (RPk wr bm w.heap.size l todo cnt) ∧ u + usedM todo = usedM l ∧ Hid (Below w.heap.size w wr)) (fun _ wr => wr.rangeLeft bm w.heap.size)
  case atStart => exact ⟨l, l.length, 0, rfl, HR0, by omega, HB0⟩
  case round =>
    obtain ⟨todo, cnt, u, rfl, HR, hsum, HB⟩ := hrel
    go_wp2_with (first
      | (refine wpl_next secE rfl (.tmp 12) rfl 9 Tryz.underlying9 bm w.heap.size l todo cnt rfl HR.out ?_ ?_))
    · intro h0
      subst h0
      obtain rfl : u = usedM l := by simpa [usedM] using hsum
      go_wp2
      go_ret
      exact ⟨rfl, HB.out⟩
    · intro x w1 cnt1 hx HR1 hlt hG1 hs1 hen
      have hnd : (todo.map MF.nm).Nodup := HN.out.sublist (HR.out.sub.map _)
      have hp := usedM_perm (out_perm hnd hx.out)
      have hp2 : usedM (x :: outBy MF.nm todo (MF.nm x)) = x.f.n + usedM (outBy MF.nm todo (MF.nm x)) := by simp [usedM]
      have hw : IntKind.i64.wrap ((u : Int) + (x.f.n : Int)) = (u : Int) + (x.f.n : Int) := IntWalk.i64_in _ (by omega)
      have HB1 := Lib.hid (HB.out.grown hG1.out HB.out.size (fun j hj => by cases hj; exact Nat.le_refl _))
      obtain ⟨xn, hxn⟩ : ∃ xn, x.f.n = xn := ⟨_, rfl⟩
      have hv : x.v = .slice (some ⟨x.g, 0, none⟩) xn x.c := by rw [← hxn]; rfl
      rw [hv] at hen ⊢
      rw [hxn] at hw hp2
      have HE := Lib.hid (HR.out.left_eq)
      have HE1 := Lib.hid (HR1.out.left_eq)
      clear hnd hG1 hs1 hx HR HB hv hxn
      go_wp2
      go_roundw
      case rel => exact ⟨_, cnt1, u + xn, by go_num, HR1, by omega, HB1⟩
      case measure => rw [HE.out, HE1.out]; exact hlt.out
theorem Jd.seven {w w1 : World} {b bm : Nat} {l : List MF} {d : AD} {s t : ByteArray} {x n : Int} {v : Value} (h : Jd w b bm l d s t x n v w1) :
    w1.cell? ⟨w.heap.size, 0, none⟩ = some (ptr ⟨b, 0, none⟩) ∧ w1.cell? ⟨w.heap.size, 1, none⟩ = some (.string s) ∧ w1.cell? ⟨w.heap.size, 4, none⟩ = some (.int .i64 n) ∧ w1.cell? ⟨b, 0, none⟩ = some (.int .i64 d.cap) ∧ w1.cell? ⟨b, 1, none⟩ = some (.map (some bm)) ∧ Jd w b bm l d s t x n v w1 := by
  obtain ⟨c0, c1, _, c3, c4, _⟩ := h.jb.cells
  obtain ⟨fl, lf, hb, _⟩ := h.dk.blk
  obtain ⟨e0, e1, _⟩ := hb.cells
  exact ⟨c0, c1, c4, e0, e1, h⟩
set_option maxRecDepth 8000 in
set_option maxHeartbeats 1000000 in
theorem mayMake_any (w : World) (b bm : Nat) (l : List MF) (d : AD) (s t : ByteArray) (x n : Int) (a : Option Addr) (m c : Nat) (h : Dk w b bm l d) (hg : Good d) (hs : s.size ≤ 281474976710656) (_hn : I63 n) (y : Int)
    (hy : (if rightB s = false then 10 else if d.has s then 8 else if n < 1 ∨ 64 < n then 4 else if d.cap < (usedN d.L : Int) + n ∨ 64 ≤ d.L.length then 6 else 0) = y) :
    Calls Tryz.prog 20 #[jobV ⟨b, 0, none⟩ s t x n (.slice a m c)] w fun e w' => e = .returned (.int .i64 y) ∧ Below w.heap.size w w' := by
  have HJ := Lib.hid (Jd.start h s t x n (.slice a m c))
  have HS := Lib.hid hs
  have HG := Lib.hid hg
  obtain ⟨c0, c1, c4, e0, e1, _⟩ := HJ.out.seven
  obtain ⟨r, hr⟩ : ∃ r, nameN s.data.toList = r := ⟨_, rfl⟩
  have HR := Lib.hid hr
  have hr2 : rightB s = r := hr
  rw [hr2] at hy
  cases r with
  | false =>
    rw [if_pos rfl] at hy
    subst hy
    clear h hs hg _hn hr hr2
    go_enter Tryz.func20, Tryz.ntmps20
    go_wp2_with (first
      | (go_at_call 41; (with_reducible refine (right_any s _ HS.out).mono ?_); rintro e w2 ⟨rfl, rfl⟩; rw [HR.out]))
    go_ret
    exact ⟨rfl, HJ.out.below⟩
  | true =>
    rw [if_neg (by simp)] at hy
    by_cases hh : d.has s
    · rw [if_pos hh] at hy
      subst hy
      have h1 := (hg.file _ (get_mem hh)).n1
      obtain ⟨k, hk⟩ : ∃ k, (d.get s).n = k := ⟨_, rfl⟩
      have HZ := Lib.hid (show (if d.has s then ((d.get s).n : Int) else 0) = (k : Int) by rw [if_pos hh, hk])
      rw [hk] at h1
      clear h hs hg _hn hr hr2 hh hk
      go_enter Tryz.func20, Tryz.ntmps20
      go_wp2_with (first
        | (go_at_call 41; (with_reducible refine (right_any s _ HS.out).mono ?_); rintro e w2 ⟨rfl, rfl⟩; rw [HR.out])
        | (go_at_call 24; (with_reducible refine (psize_any _ b bm l d s HJ.out.dk HS.out).mono ?_); rintro e w1 ⟨rfl, rfl⟩; rw [HZ.out]))
      all_goals first | (exfalso; omega) | skip
      all_goals go_ret
      all_goals exact ⟨rfl, HJ.out.below⟩
    · rw [if_neg hh] at hy
      have HZ := Lib.hid (show (if d.has s then ((d.get s).n : Int) else 0) = 0 by rw [if_neg hh])
      by_cases hr1 : n < 1
      · rw [if_pos (.inl hr1)] at hy
        subst hy
        clear h hs hg _hn hr hr2 hh
        go_enter Tryz.func20, Tryz.ntmps20
        go_wp2_with (first
          | (go_at_call 41; (with_reducible refine (right_any s _ HS.out).mono ?_); rintro e w2 ⟨rfl, rfl⟩; rw [HR.out])
          | (go_at_call 24; (with_reducible refine (psize_any _ b bm l d s HJ.out.dk HS.out).mono ?_); rintro e w1 ⟨rfl, rfl⟩; rw [HZ.out]))
        go_ret
        exact ⟨rfl, HJ.out.below⟩
      by_cases hr3 : 64 < n
      · rw [if_pos (.inr hr3)] at hy
        subst hy
        clear h hs hg _hn hr hr2 hh
        go_enter Tryz.func20, Tryz.ntmps20
        go_wp2_with (first
          | (go_at_call 41; (with_reducible refine (right_any s _ HS.out).mono ?_); rintro e w2 ⟨rfl, rfl⟩; rw [HR.out])
          | (go_at_call 24; (with_reducible refine (psize_any _ b bm l d s HJ.out.dk HS.out).mono ?_); rintro e w1 ⟨rfl, rfl⟩; rw [HZ.out]))
        go_ret
        exact ⟨rfl, HJ.out.below⟩
      rw [if_neg (by omega)] at hy
      have hu := hg.used
      have hc := hg.cap1
      obtain ⟨u, hu2⟩ : ∃ u, usedN d.L = u := ⟨_, rfl⟩
      have HU := Lib.hid hu2
      have hl : d.L.length = l.length := by rw [h.files, List.length_map]
      rw [hu2] at hu hy
      rw [hl] at hy
      have hw : IntKind.i64.wrap ((u : Int) + n) = (u : Int) + n := IntWalk.i64_in _ (by omega)
      by_cases hf1 : d.cap < (u : Int) + n
      · rw [if_pos (.inl hf1)] at hy
        subst hy
        have hd : decide (d.cap < (u : Int) + n) = true := decide_eq_true hf1
        clear h hs hg _hn hr hr2 hh hu2 hl
        go_enter Tryz.func20, Tryz.ntmps20
        go_wp2_with (first
          | (go_at_call 41; (with_reducible refine (right_any s _ HS.out).mono ?_); rintro e w2 ⟨rfl, rfl⟩; rw [HR.out])
          | (go_at_call 24; (with_reducible refine (psize_any _ b bm l d s HJ.out.dk HS.out).mono ?_); rintro e w1 ⟨rfl, rfl⟩; rw [HZ.out]))
        refine wp_region_held_drew (S := (fun w' => w'.cell? ⟨w.heap.size, 0, none⟩ = some (ptr ⟨b, 0, none⟩) ∧ w'.cell? ⟨w.heap.size, 1, none⟩ = some (.string s) ∧ w'.cell? ⟨w.heap.size, 4, none⟩ = some (.int .i64 n) ∧ w'.cell? ⟨b, 0, none⟩ = some (.int .i64 d.cap) ∧ w'.cell? ⟨b, 1, none⟩ = some (.map (some bm)) ∧ Jd w b bm l d s t x n (.slice a m c) w')) (by kernel_rfl) (Jd.seven HJ.out.drew) (fun hS => ?_)
        refine rgw 0 ⟨some 25, .fieldAddr 63 (.tmp 1) 0, 0, _, _, none⟩ hS ?_
        refine rgw 1 ⟨some 26, .load 34 (.tmp 25), 34, _, _, none⟩ hS ?_
        refine rgw 3 ⟨some 28, .fieldAddr 63 (.tmp 1) 4, 0, _, _, none⟩ hS ?_
        refine rgw 4 ⟨some 29, .load 3 (.tmp 28), 3, _, _, none⟩ hS ?_
        refine rgw 6 ⟨some 31, .fieldAddr 63 (.tmp 1) 0, 0, _, _, none⟩ hS ?_
        refine rgw 7 ⟨some 32, .load 34 (.tmp 31), 34, _, _, none⟩ hS ?_
        refine rgw 8 ⟨some 33, .nilCheck (.tmp 32), 0, _, _, none⟩ hS ?_
        refine rgw 9 ⟨some 34, .fieldAddr 61 (.tmp 33) 0, 0, _, _, none⟩ hS ?_
        refine rgw 10 ⟨some 35, .load 3 (.tmp 34), 3, _, _, none⟩ hS ?_
        refine rg_one 2 ⟨some 27, .call { callee := .value (.func 42), args := #[.tmp 26], argTypes := #[34] }, 3, _, _, none⟩ (by kernel_rfl) rfl (fun K hK => ?_)
        go_simp
        (go_at_call 42; (with_reducible refine (pused_any _ b bm l d hS.2.2.2.2.2.dk HG.out).mono ?_); rintro e w1 ⟨rfl, hb⟩; rw [HU.out])
        refine hK.out _ _ ?_ (fun hS1 => ?_)
        · (exact Jd.seven (hS.2.2.2.2.2.next hb))
        clear hK K hS; have hS := hS1; clear hS1
        (try simp only [rgp])
        refine rgw 5 ⟨some 30, .binOp .add 3 (.tmp 27) (.tmp 29) 3, 3, _, _, none⟩ hS ?_
        refine rgw 11 ⟨some 36, .binOp .gtr 3 (.tmp 30) (.tmp 35) 3, 4, _, _, none⟩ hS ?_ (v := .bool true) (hy := by intro w hSw; (try dsimp only at hSw); go_simp)
        refine rgw 12 ⟨some 37, .move (.tmp 36), 4, _, _, none⟩ hS ?_
        refine rgt 13 (oi := ⟨some 38, .fieldAddr 63 (.tmp 1) 0, 0, _, _, some (12, false)⟩) (v := undef) rfl (.inr ⟨by rfl, rfl⟩) hS ?_
        (try simp only [rgp])
        refine rgt 14 (oi := ⟨some 39, .load 34 (.tmp 38), 34, _, _, some (12, false)⟩) (v := undef) rfl (.inr ⟨by rfl, rfl⟩) hS ?_
        (try simp only [rgp])
        refine rgt 15 (oi := ⟨some 40, .nilCheck (.tmp 39), 0, _, _, some (12, false)⟩) (v := undef) rfl (.inr ⟨by rfl, rfl⟩) hS ?_
        (try simp only [rgp])
        refine rgt 16 (oi := ⟨some 41, .fieldAddr 61 (.tmp 40) 1, 0, _, _, some (12, false)⟩) (v := undef) rfl (.inr ⟨by rfl, rfl⟩) hS ?_
        (try simp only [rgp])
        refine rgt 17 (oi := ⟨some 42, .load 59 (.tmp 41), 59, _, _, some (12, false)⟩) (v := undef) rfl (.inr ⟨by rfl, rfl⟩) hS ?_
        (try simp only [rgp])
        refine rgt 18 (oi := ⟨some 43, .call { callee := .builtin Builtin.len, args := #[.tmp 42], argTypes := #[59] }, 3, _, _, some (12, false)⟩) (v := undef) rfl (.inr ⟨by rfl, rfl⟩) hS ?_
        (try simp only [rgp])
        refine rgt 19 (oi := ⟨some 44, .binOp .geq 3 (.tmp 43) (.const (.int .i64 64)) 3, 4, _, _, some (12, false)⟩) (v := undef) rfl (.inr ⟨by rfl, rfl⟩) hS ?_
        (try simp only [rgp])
        refine rgw 20 ⟨some 45, .pick (.tmp 37) (.const (.bool true)) (.tmp 44), 4, _, _, none⟩ hS ?_
        refine rgw 21 ⟨some 24, .assign (.tmp 45), 4, _, _, none⟩ hS ?_
        refine wpAnyH_done (by kernel_rfl) ?_ _
        have HB := Lib.hid hS.2.2.2.2.2.below
        clear hS
        go_wp2
        go_ret
        exact ⟨rfl, HB.out⟩
      have hd : decide (d.cap < (u : Int) + n) = false := decide_eq_false hf1
      by_cases hf2 : 64 ≤ l.length
      · rw [if_pos (.inr hf2)] at hy
        subst hy
        have hd2 : decide (64 ≤ (l.length : Int)) = true := decide_eq_true (by omega)
        clear h hs hg _hn hr hr2 hh hu2 hl
        go_enter Tryz.func20, Tryz.ntmps20
        go_wp2_with (first
          | (go_at_call 41; (with_reducible refine (right_any s _ HS.out).mono ?_); rintro e w2 ⟨rfl, rfl⟩; rw [HR.out])
          | (go_at_call 24; (with_reducible refine (psize_any _ b bm l d s HJ.out.dk HS.out).mono ?_); rintro e w1 ⟨rfl, rfl⟩; rw [HZ.out]))
        refine wp_region_held_drew (S := (fun w' => w'.cell? ⟨w.heap.size, 0, none⟩ = some (ptr ⟨b, 0, none⟩) ∧ w'.cell? ⟨w.heap.size, 1, none⟩ = some (.string s) ∧ w'.cell? ⟨w.heap.size, 4, none⟩ = some (.int .i64 n) ∧ w'.cell? ⟨b, 0, none⟩ = some (.int .i64 d.cap) ∧ w'.cell? ⟨b, 1, none⟩ = some (.map (some bm)) ∧ Jd w b bm l d s t x n (.slice a m c) w')) (by kernel_rfl) (Jd.seven HJ.out.drew) (fun hS => ?_)
        refine rgw 0 ⟨some 25, .fieldAddr 63 (.tmp 1) 0, 0, _, _, none⟩ hS ?_
        refine rgw 1 ⟨some 26, .load 34 (.tmp 25), 34, _, _, none⟩ hS ?_
        refine rgw 3 ⟨some 28, .fieldAddr 63 (.tmp 1) 4, 0, _, _, none⟩ hS ?_
        refine rgw 4 ⟨some 29, .load 3 (.tmp 28), 3, _, _, none⟩ hS ?_
        refine rgw 6 ⟨some 31, .fieldAddr 63 (.tmp 1) 0, 0, _, _, none⟩ hS ?_
        refine rgw 7 ⟨some 32, .load 34 (.tmp 31), 34, _, _, none⟩ hS ?_
        refine rgw 8 ⟨some 33, .nilCheck (.tmp 32), 0, _, _, none⟩ hS ?_
        refine rgw 9 ⟨some 34, .fieldAddr 61 (.tmp 33) 0, 0, _, _, none⟩ hS ?_
        refine rgw 10 ⟨some 35, .load 3 (.tmp 34), 3, _, _, none⟩ hS ?_
        refine rg_one 2 ⟨some 27, .call { callee := .value (.func 42), args := #[.tmp 26], argTypes := #[34] }, 3, _, _, none⟩ (by kernel_rfl) rfl (fun K hK => ?_)
        go_simp
        (go_at_call 42; (with_reducible refine (pused_any _ b bm l d hS.2.2.2.2.2.dk HG.out).mono ?_); rintro e w1 ⟨rfl, hb⟩; rw [HU.out])
        refine hK.out _ _ ?_ (fun hS1 => ?_)
        · (exact Jd.seven (hS.2.2.2.2.2.next hb))
        clear hK K hS; have hS := hS1; clear hS1
        (try simp only [rgp])
        refine rgw 5 ⟨some 30, .binOp .add 3 (.tmp 27) (.tmp 29) 3, 3, _, _, none⟩ hS ?_
        refine rgw 11 ⟨some 36, .binOp .gtr 3 (.tmp 30) (.tmp 35) 3, 4, _, _, none⟩ hS ?_ (v := .bool false) (hy := by intro w hSw; (try dsimp only at hSw); go_simp)
        refine rgw 12 ⟨some 37, .move (.tmp 36), 4, _, _, none⟩ hS ?_
        refine rgw 13 ⟨some 38, .fieldAddr 63 (.tmp 1) 0, 0, _, _, some (12, false)⟩ hS ?_
        refine rgw 14 ⟨some 39, .load 34 (.tmp 38), 34, _, _, some (12, false)⟩ hS ?_
        refine rgw 15 ⟨some 40, .nilCheck (.tmp 39), 0, _, _, some (12, false)⟩ hS ?_
        refine rgw 16 ⟨some 41, .fieldAddr 61 (.tmp 40) 1, 0, _, _, some (12, false)⟩ hS ?_
        refine rgw 17 ⟨some 42, .load 59 (.tmp 41), 59, _, _, some (12, false)⟩ hS ?_
        refine rgw 18 ⟨some 43, .call { callee := .builtin Builtin.len, args := #[.tmp 42], argTypes := #[59] }, 3, _, _, some (12, false)⟩ hS ?_ (v := .int .i64 l.length) (hy := by intro w hSw; (try dsimp only at hSw); exact exec_mlen (.tmp 42) 59 rfl 9 104 Tryz.underlying59 bm l rfl hSw.2.2.2.2.2.dk.map)
        refine rgw 19 ⟨some 44, .binOp .geq 3 (.tmp 43) (.const (.int .i64 64)) 3, 4, _, _, some (12, false)⟩ hS ?_ (v := .bool true) (hy := by intro w hSw; (try dsimp only at hSw); go_simp)
        refine rgw 20 ⟨some 45, .pick (.tmp 37) (.const (.bool true)) (.tmp 44), 4, _, _, none⟩ hS ?_
        refine rgw 21 ⟨some 24, .assign (.tmp 45), 4, _, _, none⟩ hS ?_
        refine wpAnyH_done (by kernel_rfl) ?_ _
        have HB := Lib.hid hS.2.2.2.2.2.below
        clear hS
        go_wp2
        go_ret
        exact ⟨rfl, HB.out⟩
      · rw [if_neg (by omega)] at hy
        subst hy
        have hd2 : decide (64 ≤ (l.length : Int)) = false := decide_eq_false (by omega)
        clear h hs hg _hn hr hr2 hh hu2 hl
        go_enter Tryz.func20, Tryz.ntmps20
        go_wp2_with (first
          | (go_at_call 41; (with_reducible refine (right_any s _ HS.out).mono ?_); rintro e w2 ⟨rfl, rfl⟩; rw [HR.out])
          | (go_at_call 24; (with_reducible refine (psize_any _ b bm l d s HJ.out.dk HS.out).mono ?_); rintro e w1 ⟨rfl, rfl⟩; rw [HZ.out]))
        refine wp_region_held_drew (S := (fun w' => w'.cell? ⟨w.heap.size, 0, none⟩ = some (ptr ⟨b, 0, none⟩) ∧ w'.cell? ⟨w.heap.size, 1, none⟩ = some (.string s) ∧ w'.cell? ⟨w.heap.size, 4, none⟩ = some (.int .i64 n) ∧ w'.cell? ⟨b, 0, none⟩ = some (.int .i64 d.cap) ∧ w'.cell? ⟨b, 1, none⟩ = some (.map (some bm)) ∧ Jd w b bm l d s t x n (.slice a m c) w')) (by kernel_rfl) (Jd.seven HJ.out.drew) (fun hS => ?_)
        refine rgw 0 ⟨some 25, .fieldAddr 63 (.tmp 1) 0, 0, _, _, none⟩ hS ?_
        refine rgw 1 ⟨some 26, .load 34 (.tmp 25), 34, _, _, none⟩ hS ?_
        refine rgw 3 ⟨some 28, .fieldAddr 63 (.tmp 1) 4, 0, _, _, none⟩ hS ?_
        refine rgw 4 ⟨some 29, .load 3 (.tmp 28), 3, _, _, none⟩ hS ?_
        refine rgw 6 ⟨some 31, .fieldAddr 63 (.tmp 1) 0, 0, _, _, none⟩ hS ?_
        refine rgw 7 ⟨some 32, .load 34 (.tmp 31), 34, _, _, none⟩ hS ?_
        refine rgw 8 ⟨some 33, .nilCheck (.tmp 32), 0, _, _, none⟩ hS ?_
        refine rgw 9 ⟨some 34, .fieldAddr 61 (.tmp 33) 0, 0, _, _, none⟩ hS ?_
        refine rgw 10 ⟨some 35, .load 3 (.tmp 34), 3, _, _, none⟩ hS ?_
        refine rg_one 2 ⟨some 27, .call { callee := .value (.func 42), args := #[.tmp 26], argTypes := #[34] }, 3, _, _, none⟩ (by kernel_rfl) rfl (fun K hK => ?_)
        go_simp
        (go_at_call 42; (with_reducible refine (pused_any _ b bm l d hS.2.2.2.2.2.dk HG.out).mono ?_); rintro e w1 ⟨rfl, hb⟩; rw [HU.out])
        refine hK.out _ _ ?_ (fun hS1 => ?_)
        · (exact Jd.seven (hS.2.2.2.2.2.next hb))
        clear hK K hS; have hS := hS1; clear hS1
        (try simp only [rgp])
        refine rgw 5 ⟨some 30, .binOp .add 3 (.tmp 27) (.tmp 29) 3, 3, _, _, none⟩ hS ?_
        refine rgw 11 ⟨some 36, .binOp .gtr 3 (.tmp 30) (.tmp 35) 3, 4, _, _, none⟩ hS ?_ (v := .bool false) (hy := by intro w hSw; (try dsimp only at hSw); go_simp)
        refine rgw 12 ⟨some 37, .move (.tmp 36), 4, _, _, none⟩ hS ?_
        refine rgw 13 ⟨some 38, .fieldAddr 63 (.tmp 1) 0, 0, _, _, some (12, false)⟩ hS ?_
        refine rgw 14 ⟨some 39, .load 34 (.tmp 38), 34, _, _, some (12, false)⟩ hS ?_
        refine rgw 15 ⟨some 40, .nilCheck (.tmp 39), 0, _, _, some (12, false)⟩ hS ?_
        refine rgw 16 ⟨some 41, .fieldAddr 61 (.tmp 40) 1, 0, _, _, some (12, false)⟩ hS ?_
        refine rgw 17 ⟨some 42, .load 59 (.tmp 41), 59, _, _, some (12, false)⟩ hS ?_
        refine rgw 18 ⟨some 43, .call { callee := .builtin Builtin.len, args := #[.tmp 42], argTypes := #[59] }, 3, _, _, some (12, false)⟩ hS ?_ (v := .int .i64 l.length) (hy := by intro w hSw; (try dsimp only at hSw); exact exec_mlen (.tmp 42) 59 rfl 9 104 Tryz.underlying59 bm l rfl hSw.2.2.2.2.2.dk.map)
        refine rgw 19 ⟨some 44, .binOp .geq 3 (.tmp 43) (.const (.int .i64 64)) 3, 4, _, _, some (12, false)⟩ hS ?_ (v := .bool false) (hy := by intro w hSw; (try dsimp only at hSw); go_simp)
        refine rgw 20 ⟨some 45, .pick (.tmp 37) (.const (.bool true)) (.tmp 44), 4, _, _, none⟩ hS ?_
        refine rgw 21 ⟨some 24, .assign (.tmp 45), 4, _, _, none⟩ hS ?_
        refine wpAnyH_done (by kernel_rfl) ?_ _
        have HB := Lib.hid hS.2.2.2.2.2.below
        clear hS
        go_wp2
        go_ret
        exact ⟨rfl, HB.out⟩
end Go.Proofs.YtnmplnemnfonfaaGreatDoor
/-
  THE LIBRARY's CONTRACTS THAT THE WALKS USE, at this program's own numbers: strconv_Itoa. Each is one application of the kit's own theorem. Written by the kit's lay-shelf.mjs and lay-plain.mjs, pruned by tools/shelf.py.
-/
namespace Go.Proofs.YtnmplnemnfonfaaGreatDoor
open Go.Proofs Go.Shelf
def Tryz.laysM171_ren : Go.Shelf.Ren := ⟨fun | 171 => 123 | 243 => 126 | 246 => 128 | 283 => 129 | 284 => 130 | 285 => 131 | 286 => 132 | 129 => 134 | 317 => 133 | 318 => 135 | 319 => 136 | 320 => 137 | 337 => 138 | 338 => 139 | n => n, fun | 3 => 3 | 9 => 9 | 2 => 2 | 4 => 4 | 171 => 188 | 0 => 0 | 53 => 22 | 37 => 49 | 5 => 5 | 173 => 191 | 212 => 194 | 51 => 80 | 20 => 20 | 213 => 195 | 46 => 24 | 232 => 198 | 233 => 91 | n => n, fun | 17 => 1 | 18 => 2 | 19 => 3 | n => n⟩
theorem Tryz.laysM171 : Go.Proofs.LaysM.n171 Tryz.prog Tryz.laysM171_ren := {
  mixed := by kernel_rfl
  f129 := Tryz.func134.trans (congrArg some (by kernel_rfl))
  f171 := Tryz.func123.trans (congrArg some (by kernel_rfl))
  f243 := Tryz.func126.trans (congrArg some (by kernel_rfl))
  f246 := Tryz.func128.trans (congrArg some (by kernel_rfl))
  f283 := Tryz.func129.trans (congrArg some (by kernel_rfl))
  f284 := Tryz.func130.trans (congrArg some (by kernel_rfl))
  f285 := Tryz.func131.trans (congrArg some (by kernel_rfl))
  f286 := Tryz.func132.trans (congrArg some (by kernel_rfl))
  f317 := Tryz.func133.trans (congrArg some (by kernel_rfl))
  f318 := Tryz.func135.trans (congrArg some (by kernel_rfl))
  f319 := Tryz.func136.trans (congrArg some (by kernel_rfl))
  f320 := Tryz.func137.trans (congrArg some (by kernel_rfl))
  f337 := Tryz.func138.trans (congrArg some (by kernel_rfl))
  f338 := Tryz.func139.trans (congrArg some (by kernel_rfl))
  t0 := Tryz.underlying0
  a0 := Tryz.isAgg0
  z0 := Tryz.sizeOf0
  v0 := Tryz.zeroValue0
  t2 := Tryz.underlying2
  a2 := Tryz.isAgg2
  z2 := Tryz.sizeOf2
  v2 := Tryz.zeroValue2
  t3 := Tryz.underlying3
  a3 := Tryz.isAgg3
  z3 := Tryz.sizeOf3
  v3 := Tryz.zeroValue3
  t4 := Tryz.underlying4
  a4 := Tryz.isAgg4
  z4 := Tryz.sizeOf4
  v4 := Tryz.zeroValue4
  t5 := Tryz.underlying5
  a5 := Tryz.isAgg5
  z5 := Tryz.sizeOf5
  v5 := Tryz.zeroValue5
  t9 := Tryz.underlying9
  a9 := Tryz.isAgg9
  z9 := Tryz.sizeOf9
  v9 := Tryz.zeroValue9
  t20 := Tryz.underlying20
  a20 := Tryz.isAgg20
  z20 := Tryz.sizeOf20
  v20 := Tryz.zeroValue20
  t37 := Tryz.underlying49
  a37 := Tryz.isAgg49
  z37 := Tryz.sizeOf49
  v37 := Tryz.zeroValue49
  t46 := Tryz.underlying24
  a46 := Tryz.isAgg24
  z46 := Tryz.sizeOf24
  v46 := Tryz.zeroValue24
  t51 := Tryz.underlying80
  a51 := Tryz.isAgg80
  z51 := Tryz.sizeOf80
  v51 := Tryz.zeroValue80
  t53 := Tryz.underlying22
  a53 := Tryz.isAgg22
  z53 := Tryz.sizeOf22
  v53 := Tryz.zeroValue22
  t171 := Tryz.underlying188
  a171 := Tryz.isAgg188
  z171 := Tryz.sizeOf188
  v171 := Tryz.zeroValue188
  t173 := Tryz.underlying191
  a173 := Tryz.isAgg191
  z173 := Tryz.sizeOf191
  v173 := Tryz.zeroValue191
  t212 := Tryz.underlying194
  a212 := Tryz.isAgg194
  z212 := Tryz.sizeOf194
  v212 := Tryz.zeroValue194
  t213 := Tryz.underlying195
  a213 := Tryz.isAgg195
  z213 := Tryz.sizeOf195
  t232 := Tryz.underlying198
  a232 := Tryz.isAgg198
  z232 := Tryz.sizeOf198
  v232 := Tryz.zeroValue198
  t233 := Tryz.underlying91
  a233 := Tryz.isAgg91
  z233 := Tryz.sizeOf91
  v233 := Tryz.zeroValue91
  g17 := by kernel_rfl
  g18 := by kernel_rfl
  g19 := by kernel_rfl
  i0 := by kernel_rfl
  i2 := by kernel_rfl
  i3 := by kernel_rfl
  i4 := by kernel_rfl
  i5 := by kernel_rfl
  i9 := by kernel_rfl
  i20 := by kernel_rfl
  i37 := by kernel_rfl
  i46 := by kernel_rfl
  i51 := by kernel_rfl
  i53 := by kernel_rfl
  i171 := by kernel_rfl
  i173 := by kernel_rfl
  i212 := by kernel_rfl
  i232 := by kernel_rfl
  i233 := by kernel_rfl
  m17 := by kernel_rfl
  m18 := by kernel_rfl
  m19 := by kernel_rfl }
open Go.RowKit Go.Sort Go.Lib in
/-- strconv.Itoa: "Itoa is equivalent to FormatInt(int64(i), 10).": i's DECIMAL NUMERAL ('Lib.itoa': a '-' where i is negative, then the digits), FOR EVERY int. The world behind the call: the world before it, new blocks behind the heap (the library's 'var a [24]byte'), draws. (LAID: no walk: one application.) -/
theorem Tryz.strconv_Itoa (n : Int) (h0 : -9223372036854775808 ≤ n) (h1 : n ≤ 9223372036854775807) (w : World) (htab : Lib.TabIs Tryz.prog w "internal/strconv.uint64pow10" .u64 Lib.pow10Tab) :
    Calls Tryz.prog 123 #[.int .i64 n] w fun e w' => e = .returned (.string ⟨(Lib.itoa n).toArray⟩) ∧ ∃ k os, w' = grow (w.drewN k) os := Any.strconv_Itoa Tryz.laysM171 n h0 h1 w htab
end Go.Proofs.YtnmplnemnfonfaaGreatDoor
namespace Go.Proofs.YtnmplnemnfonfaaGreatDoor
open Go.RowKit Go.Sort
def MF.key (x : MF) : List UInt8 := x.f.name.data.toList
end Go.Proofs.YtnmplnemnfonfaaGreatDoor
namespace Go.Proofs.YtnmplnemnfonfaaGreatDoor
open Go.RowKit
def wlF (x : MF) (j : Nat) : List (Nat × Nat) := ((List.range j).filter fun i => x.f.ws.getD i false).map fun i => (x.g, i)
def wlL (l : List MF) : List (Nat × Nat) := l.flatMap fun x => wlF x x.f.n
def wpV (p : Nat × Nat) : Value := .pointer (some ⟨p.1, p.2 * 129, none⟩)
theorem wlF_succ (x : MF) (j : Nat) : wlF x (j + 1) = wlF x j ++ (if x.f.ws.getD j false = true then [(x.g, j)] else []) := by
  unfold wlF
  rw [List.range_succ, List.filter_append, List.map_append]
  congr 1
  simp only [List.filter_cons, List.filter_nil]
  split <;> rfl
theorem wlL_succ (l : List MF) (i : Nat) (x : MF) (h : l[i]? = some x) : wlL (l.take (i + 1)) = wlL (l.take i) ++ wlF x x.f.n := by
  obtain ⟨hi, rfl⟩ := List.getElem?_eq_some_iff.1 h
  unfold wlL
  rw [List.take_succ_eq_append_getElem hi, List.flatMap_append]; simp
theorem SsT.slice {w : World} {v : Value} {l : List ByteArray} (h : SsT w v l) : ∃ a c, v = .slice a l.length c := by
  obtain ⟨a, c, e, _⟩ := CS.form h; exact ⟨a, c, e⟩
end Go.Proofs.YtnmplnemnfonfaaGreatDoor
namespace Go.Proofs.YtnmplnemnfonfaaGreatDoor
open Go.RowKit
theorem sz_size : Tryz.zeroCells142.size = 129 := by kernel_rfl
theorem sct_info (c : Array Value) (h : c.size = 129) : (Tryz.prog.info? 142).map (·.size) = some c.size := by rw [h]; kernel_rfl
def scv (s : Sc) : Array Value := s.cells.toArray
theorem scv_size {s : Sc} (h : s.ok) : (scv s).size = 129 := by simp [scv, h.len]
theorem Sc.one (s : Sc) : ∀ v ∈ s.cells, v.oneCell' = true := by
  intro v hv
  unfold Sc.cells at hv
  simp only [List.mem_append, List.mem_singleton] at hv
  rcases hv with h | h | rfl
  · exact il_one _ _ v h
  · exact il_one _ _ v h
  · rfl
def XB (w : World) (g : Nat) (s : Sc) : Prop := w.heap[g]? = some (.cells (scv s) 142 (0, 0)) ∧ s.ok
theorem XB.keep {w w' : World} {g : Nat} {s : Sc} (h : XB w g s) (hb : Below w.heap.size w w') : XB w' g s := ⟨by rw [hb.block g (Array.getElem?_eq_some_iff.1 h.1).1]; exact h.1, h.2⟩
theorem XB.sr {w : World} {g : Nat} {s : Sc} (h : XB w g s) : SrK w g 1 [s] := by
  refine ⟨s.cells, h.1, by rw [h.2.len], by simp, by unfold maxLen; omega, fun i t ht => ?_⟩
  have hi : i = 0 := by have := (List.getElem?_eq_some_iff.1 ht).1; simpa using this
  subst hi
  simp at ht
  subst ht
  exact ⟨h.2, fun j v hv => by simpa using hv⟩
theorem XB.la {w : World} {g : Nat} {s : Sc} (h : XB w g s) : At w g 0 s.la := by simpa using h.sr.la (i := 0) rfl
theorem XB.se {w : World} {g : Nat} {s : Sc} (h : XB w g s) : At w g 64 s.se := by simpa using h.sr.se (i := 0) rfl
section
variable {w : World} {ops : Array Oper} {rest : List Oper} {o : Oper} {a : Act} {Q : Exit → Act → World → Prop}
theorem wpl_load_sc (hgd : o.guard = none) (x : Operand) (ho : o.op = .load 142 x) (g c : Nat) (S : List Sc) (h : SrK w g c S) (i : Nat) (s : Sc) (hs : S[i]? = some s) (off : Nat) (hoff : i * 129 = off) (hx : a.eval x = .pointer (some ⟨g, off, none⟩))
    (hk : wpList Tryz.prog ops Q rest (a.put o.dst (.agg (scv s))) w) : wpList Tryz.prog ops Q (o :: rest) a w := by
  subst hoff
  refine wpList_load_mid hgd 142 x ho g (i * 129) hx s.cells _ ?_ Tryz.underlying142 rfl ?_ hk
  · intro j v hv
    exact h.cell hs hv
  · have := sct_info (scv s) (scv_size (h.ok hs))
    simpa [scv] using this
theorem wpl_store_sc {w1 : World} (hgd : o.guard = none) (x y : Operand) (ho : o.op = .store 142 x y) (hw : w = w1.alloc (.cells Tryz.zeroCells142 142)) (g : Nat) (hg : w1.heap.size = g) (s : Sc) (hs : s.ok)
    (hx : a.eval x = .pointer (some ⟨g, 0, none⟩)) (hy : a.eval y = .agg (scv s)) (h : ∀ w', Hid (XB w' g s) → Hid (Below w1.heap.size w1 w') → wpList Tryz.prog ops Q rest (a.put o.dst undef) w') : wpList Tryz.prog ops Q (o :: rest) a w := by
  subst hw; subst hg
  have hk : (w1.alloc (.cells Tryz.zeroCells142 142)).heap[w1.heap.size]? = some (.cells Tryz.zeroCells142 142 (0, 0)) := heap_alloc_last w1 _
  refine wpList_store_row hgd 142 x y ho w1.heap.size (scv s) hx hy _ _ hk (sct_info _ (scv_size hs)) (by rw [scv_size hs, sz_size]) (all_oneCell_toArray s.one) ?_
  exact h _ ⟨setRow_heap _ _ _ _ _ _ hk, hs⟩ (below_row (below_alloc w1 _) (Nat.le_refl _) _)
end
theorem own_stay {w w' : World} {base size : Nat} {e : TypeId} {v : Value} {n : Nat} {xs : List Value} (h : w.ownsRow base e size v n xs) (hb : Below w.heap.size w w') : w'.ownsRow base e size v n xs := by
  refine ⟨h.1, ?_⟩
  rcases h.2 with h2 | ⟨g, cap, cur, hv, hbg, hcur, h3⟩
  · exact .inl h2
  · exact .inr ⟨g, cap, cur, hv, hbg, by rw [hb.block g (Array.getElem?_eq_some_iff.1 hcur).1]; exact hcur, h3⟩
end Go.Proofs.YtnmplnemnfonfaaGreatDoor
namespace Go.Proofs.YtnmplnemnfonfaaGreatDoor
open Go.RowKit
def MF.lf (x : MF) : LFile := (x.f.name, x.f.n, x.f.las)
end Go.Proofs.YtnmplnemnfonfaaGreatDoor
