/-
  TEXTS JOINED: CrcRef, CrcPat, FragMath, Info, SecsA, SecsB, Fill. Each one's own words stand at its head.
-/
import Derived.Test.YtepaghohojomeaaDoorJ3
import Derived.Laws.BitsAllLaws
import Derived.Test.YtepaghohojomeaaDoorJ0
import Derived.Test.YtepaghohojomeaaDoorJ1
import Derived.Great.BuildSlice
import Derived.Deep.MidRow
/-
  WHAT THE FUNCTIONS OF THE REFERENCE OF LAYER 3 (crc) ANSWER: Step, More, Of, Mask. For every input that its types allow; bytes must lie where the slice says.
-/
namespace Go.Proofs.YtepaghohojomeaaDoor
open Go.RowKit
theorem drop_getD (zs : List Int) (k : Nat) (h : k < zs.length) : zs.drop k = zs.getD k 0 :: zs.drop (k + 1) := by
  rw [List.drop_eq_getElem_cons h]; simp [List.getD, h]
set_option maxRecDepth 8000 in
set_option maxHeartbeats 400000 in
theorem rstep_any (n : Nat) (h : n < 4294967296) (w : World) : Calls Tryd.prog 103 #[.int .u32 n] w fun e w' => e = .returned (.int .u32 (st n)) ∧ w = w' := by
  have hx := u32_xor_nat (n / 2) 2197175160 (by omega) (by omega)
  rw [show (((n / 2 : Nat)) : Int) = (n : Int) / 2 from by omega] at hx
  have HX := Lib.hid hx; clear hx
  have hn : (n : Int) ≤ 4294967295 := by omega
  have HN := Lib.hid h; clear h
  by_cases hm : (n : Int) % 2 = 1
  all_goals
    go_enter Tryd.func103, Tryd.ntmps103
    go_wp2
    go_ret
    refine ⟨ret_int ?_, rfl⟩
    unfold st
  · rw [if_pos (by omega), ← HX.out]; rfl
  · rw [if_neg (by omega)]; simp
set_option maxRecDepth 8000 in
set_option maxHeartbeats 800000 in
theorem rmore_some (s : Nat) (h : s < 4294967296) (b off len cap : Nat) (zs : List Int) (w : World) (hz : zs.length = len) (hb : ∀ x ∈ zs, 0 ≤ x ∧ x ≤ 255) (hl : (len : Int) ≤ 9223372036854775807)
    (hc : ∀ j, j < len → w.cell? ⟨b, off + j, none⟩ = some (.int .u8 (zs.getD j 0))) :
    Calls Tryd.prog 92 #[.int .u32 s, .slice (some ⟨b, off, none⟩) len cap] w fun e w' => e = .returned (.int .u32 (moreS s zs)) ∧ w = w' := by
  have hs : (s : Int) ≤ 4294967295 := by omega
  obtain ⟨m, hm⟩ : ∃ m, moreS s zs = m := ⟨_, rfl⟩
  rw [hm]
  have HM := Lib.hid hm
  have HC := Lib.hid hc
  have HZ := Lib.hid hz
  have HB := Lib.hid hb
  have HS := Lib.hid h
  clear hm hc hz hb h
  go_enter Tryd.func92, Tryd.ntmps92
  go_wp2
  go_loop [5, 6] (fun x i => ∃ (k r : Nat), i = .int .i64 k ∧ x = .int .u32 r ∧ k ≤ len ∧ Hid (r < 4294967296) ∧ Hid (reg r (zs.drop k) = reg (4294967295 - s) zs)) (fun _ i => len - (intOf i).toNat)
  case atStart => exact ⟨0, 4294967295 - s, rfl, by have := HS.out; congr 1; omega, by omega, Lib.hid (by omega), rfl⟩
  case round =>
    obtain ⟨k, r, rfl, rfl, hk, HR, HG⟩ := hrel
    by_cases hlt : k < len
    · obtain ⟨x, hx⟩ : ∃ x, zs.getD k 0 = x := ⟨_, rfl⟩
      have hcell : w.cell? ⟨b, off + k, none⟩ = some (.int .u8 x) := by rw [← hx]; exact HC.out k hlt
      have hxb : 0 ≤ x ∧ x ≤ 255 := by
        rw [← hx]; exact (bytes_of_mem HB.out) k
      have HD := Lib.hid (show reg r (x :: zs.drop (k + 1)) = reg (4294967295 - s) zs from by rw [← hx, ← drop_getD zs k (by rw [HZ.out]; exact hlt)]; exact HG.out)
      obtain ⟨y, rfl⟩ : ∃ y : Nat, x = (y : Int) := ⟨x.toNat, by omega⟩
      have HX := Lib.hid (u32_xor_nat r y HR.out (by omega))
      have HXL := Lib.hid (xor_lt r y HR.out (by omega))
      clear hx HG
      obtain ⟨r0, hr0⟩ : ∃ r0, r ^^^ y = r0 := ⟨_, rfl⟩
      rw [hr0] at HX HXL
      have H0 := Lib.hid hr0; clear hr0
      have hxx : bits .xor .u32 (r : Int) (y : Int) = (r0 : Int) := HX.out
      clear HX
      go_wp2
      go_loop [5, 7] (fun x j => ∃ (c q : Nat), j = .int .i64 c ∧ x = .int .u32 q ∧ c ≤ 8 ∧ Hid (q < 4294967296) ∧ Hid (stn c r0 = q)) (fun _ j => 8 - (intOf j).toNat)
      case atStart => exact ⟨0, r0, rfl, rfl, by omega, HXL, rfl⟩
      case round =>
        obtain ⟨c, q, rfl, rfl, hc8, HQ, HT⟩ := hrel
        by_cases hlt2 : c < 8
        · go_wp2_with (first | (go_at_call 103; (with_reducible refine (rstep_any q HQ.out _).mono ?_); rintro e w' ⟨rfl, rfl⟩))
          go_round
          case rel => exact ⟨c + 1, st q, by go_num, rfl, by omega, st_lt q HQ.out, by rw [← HT.out]; exact stn_succ c r0⟩
          case measure => simp [intOf]; omega
        · go_wp2
          go_round
          case rel =>
            refine ⟨k + 1, q, by go_num, rfl, by omega, HQ, ?_⟩
            have h1 := HD.out
            rw [reg_cons, Int.toNat_natCast, H0.out, show 8 = c from by omega, HT.out] at h1
            exact h1
          case measure => simp [intOf]; omega
    · go_wp2
      go_ret
      refine ⟨ret_int ?_, rfl⟩
      have h1 := HG.out
      rw [show zs.drop k = [] from List.drop_eq_nil_of_le (by rw [HZ.out]; omega), reg_nil] at h1
      have h2 := HM.out; have h3 := HR.out
      unfold moreS at h2; omega

set_option maxRecDepth 8000 in
set_option maxHeartbeats 400000 in
theorem rmore_zero (s : Nat) (h : s < 4294967296) (a : Option Addr) (cap : Nat) (w : World) :
    Calls Tryd.prog 92 #[.int .u32 s, .slice a 0 cap] w fun e w' => e = .returned (.int .u32 (moreS s [])) ∧ w = w' := by
  have hs : (s : Int) ≤ 4294967295 := by omega
  have HS := Lib.hid h; clear h
  go_enter Tryd.func92, Tryd.ntmps92
  go_wp2
  refine wp_loop_rounds 1 ?_
  rw [rounds_succ]
  go_wp2
  go_ret
  refine ⟨ret_int ?_, rfl⟩
  have := HS.out
  unfold moreS
  rw [reg_nil]; omega
theorem rmore_any {s len : Nat} (h : s < 4294967296) {v : Value} {zs : List Int} {w : World} (hri : RI .u8 w v len zs) (hb : ∀ x ∈ zs, 0 ≤ x ∧ x ≤ 255) {m : Nat} (hm : moreS s zs = m) :
    Calls Tryd.prog 92 #[.int .u32 s, v] w fun e w' => e = .returned (.int .u32 m) ∧ w = w' := by
  subst hm
  obtain ⟨a, cap, rfl, hl, h1, h2, _, hc⟩ := hri
  by_cases h0 : 0 < len
  · obtain ⟨b, off, rfl, hcell⟩ := hc h0
    exact rmore_some s h b off len cap zs w hl hb (by omega) hcell
  · obtain rfl : len = 0 := by omega
    obtain rfl : zs = [] := List.length_eq_zero_iff.1 hl
    exact rmore_zero s h a cap w
theorem rmore_0 {len : Nat} {v : Value} {zs : List Int} {w : World} (hri : RI .u8 w v len zs) (hb : ∀ x ∈ zs, 0 ≤ x ∧ x ≤ 255) {m : Nat} (hm : moreS 0 zs = m) :
    Calls Tryd.prog 92 #[.int .u32 0, v] w fun e w' => e = .returned (.int .u32 m) ∧ w = w' := rmore_any (s := 0) (by omega) hri hb hm
theorem rof_any {len : Nat} {v : Value} {zs : List Int} {w : World} (hri : RI .u8 w v len zs) (hb : ∀ x ∈ zs, 0 ≤ x ∧ x ≤ 255) {m : Nat} (hm : ofS zs = m) :
    Calls Tryd.prog 77 #[v] w fun e w' => e = .returned (.int .u32 m) ∧ w = w' := by
  have HR := Lib.hid hri
  have HB := Lib.hid hb
  have HM := Lib.hid (show moreS 0 zs = m from hm)
  clear hri hb hm
  go_enter Tryd.func77, Tryd.ntmps77
  go_wp2_with (first | (go_at_call 92; (with_reducible refine (rmore_0 HR.out HB.out HM.out).mono ?_); rintro e w' ⟨rfl, rfl⟩))
  go_ret
  exact ⟨rfl, rfl⟩
set_option maxRecDepth 8000 in
theorem rmask_any (n : Nat) (h : n < 4294967296) (w : World) : Calls Tryd.prog 76 #[.int .u32 n] w fun e w' => e = .returned (.int .u32 (maskS n)) ∧ w = w' := by
  have hn : (n : Int) ≤ 4294967295 := by omega
  clear h
  go_enter Tryd.func76, Tryd.ntmps76
  go_wp2
  go_ret
  refine ⟨ret_int ?_, rfl⟩
  unfold maskS
  omega
theorem rmask_at (n m : Nat) (h : n < 4294967296) (hm : maskS n = m) (w : World) : Calls Tryd.prog 76 #[.int .u32 n] w fun e w' => e = .returned (.int .u32 m) ∧ w = w' :=
  (rmask_any n h w).mono fun _ _ ⟨he, hw⟩ => ⟨by rw [he, hm], hw⟩
end Go.Proofs.YtepaghohojomeaaDoor
/-
  BYTES OF WHICH SOME, NEXT TO ONE ANOTHER, WERE CHANGED, and their sum: plain mathematics. No condition.
-/
namespace Go.Proofs.YtepaghohojomeaaDoor
open Go.RowKit
/-- zs, its bytes from at on replaced by the first k of ws -/
def pat (zs ws : List Int) (at_ : Nat) : Nat → List Int
  | 0 => zs
  | k + 1 => (pat zs ws at_ k).set (at_ + k) (ws.getD k 0)
theorem pat_length (zs ws : List Int) (at_ k : Nat) : (pat zs ws at_ k).length = zs.length := by
  induction k with
  | zero => rfl
  | succ k ih => simp [pat, ih]
theorem pat_bytes (zs ws : List Int) (at_ k : Nat) (hz : ∀ x ∈ zs, 0 ≤ x ∧ x ≤ 255) (hw : ∀ x ∈ ws, 0 ≤ x ∧ x ≤ 255) : ∀ x ∈ pat zs ws at_ k, 0 ≤ x ∧ x ≤ 255 := by
  induction k with
  | zero => exact hz
  | succ k ih =>
    intro x hx
    rcases List.mem_or_eq_of_mem_set hx with h | h
    · exact ih x h
    · subst h; exact (bytes_of_mem hw) k
theorem pat_split (zs ws : List Int) (at_ k : Nat) (h : at_ + k ≤ zs.length) (hk : k ≤ ws.length) : pat zs ws at_ k = zs.take at_ ++ (ws.take k ++ zs.drop (at_ + k)) := by
  induction k with
  | zero => simp [pat]
  | succ k ih =>
    rw [pat, ih (by omega) (by omega), List.set_append_right _ _ (by simp; omega)]
    congr 1
    rw [List.set_append_right _ _ (by simp; omega)]
    have e : at_ + k - (zs.take at_).length - (ws.take k).length = 0 := by simp; omega
    rw [e, drop_getD zs (at_ + k) (by omega), List.set_cons_zero, List.take_succ_eq_append_getElem (by omega : k < ws.length), List.append_assoc, Nat.add_assoc]
    simp [List.getD, show k < ws.length by omega]
/-- a burst is seen -/
theorem pat_of (zs ws : List Int) (at_ k : Nat) (h : at_ + k ≤ zs.length) (hk : k ≤ ws.length) (h4 : k ≤ 4) (hz : ∀ x ∈ zs, 0 ≤ x ∧ x ≤ 255) (hw : ∀ x ∈ ws, 0 ≤ x ∧ x ≤ 255) (e : ofS (pat zs ws at_ k) = ofS zs) : pat zs ws at_ k = zs := by
  have hs := pat_split zs ws at_ k h hk
  have e1 : zs = zs.take at_ ++ ((zs.drop at_).take k ++ zs.drop (at_ + k)) := by
    rw [← List.drop_drop, List.take_append_drop, List.take_append_drop]
  have hb : ∀ l : List Int, (∀ x ∈ l, x ∈ zs) → ∀ x ∈ l, 0 ≤ x ∧ x ≤ 255 := fun l hl x hx => hz x (hl x hx)
  have e2 : ws.take k = (zs.drop at_).take k := by
    refine burst (zs.take at_) _ _ (zs.drop (at_ + k)) (hb _ fun x hx => List.mem_of_mem_take hx) (fun x hx => hw x (List.mem_of_mem_take hx)) (hb _ fun x hx => List.mem_of_mem_drop (List.mem_of_mem_take hx)) (hb _ fun x hx => List.mem_of_mem_drop hx) (by simp; omega) (by simp; omega) ?_
    rw [← hs, ← e1]; exact e
  rw [hs, e2, ← e1]
end Go.Proofs.YtepaghohojomeaaDoor
/-
  FRAGMENTS AND THEIR BYTES (layer 13), plain mathematics: which are right (fragOk), a fragment's bytes (fragB), the fragment that bytes begin with (fragD); what is put is got, and the other way about; a burst is seen. No condition.
-/
namespace Go.Proofs.YtepaghohojomeaaDoor
def noF : FR := ⟨0, 0, []⟩
def fragOk (k : Int) (n : Nat) : Bool := decide (1 ≤ k ∧ k ≤ 4 ∧ n ≤ 197)
theorem fok_parts {k : Int} {n : Nat} (h : fragOk k n = true) : 1 ≤ k ∧ k ≤ 4 ∧ n ≤ 197 := of_decide_eq_true h
/-- the number of n bytes from a on -/
def num (zs : List Int) (a n : Nat) : Int := getI (zs.drop a) n
/-- what stands behind the sum, but for the data -/
def fragK (k e : Int) (n : Nat) : List Int := putL n 2 ++ [k] ++ putL e 4
/-- what stands behind the sum -/
def fragT (k e : Int) (d : List Int) : List Int := fragK k e d.length ++ d
/-- a fragment's sum, masked -/
def fragS (k e : Int) (d : List Int) : Nat := maskS (ofS (fragT k e d))
/-- a fragment's bytes -/
def fragB (k e : Int) (d : List Int) : List Int := putL (fragS k e d) 4 ++ fragT k e d
theorem fragK_length (k e : Int) (n : Nat) : (fragK k e n).length = 7 := by simp [fragK, putL_length]
theorem fragT_length (k e : Int) (d : List Int) : (fragT k e d).length = 7 + d.length := by simp [fragT, fragK_length]
theorem fragB_length (k e : Int) (d : List Int) : (fragB k e d).length = 11 + d.length := by simp [fragB, fragT_length, putL_length]; omega
theorem putL_isB (n : Int) (k : Nat) : isB (putL n k) := (putL_bytes n k).mem
theorem fragK_bytes {k : Int} (hk : 0 ≤ k ∧ k ≤ 255) (e : Int) (n : Nat) : isB (fragK k e n) :=
  isB.append (isB.append (putL_isB _ _) (fun x hx => by simp only [List.mem_cons, List.not_mem_nil, or_false] at hx; subst hx; exact hk)) (putL_isB _ _)
theorem fragT_bytes {k : Int} (hk : 0 ≤ k ∧ k ≤ 255) (e : Int) {d : List Int} (hd : isB d) : isB (fragT k e d) := (fragK_bytes hk e _).append hd
theorem fragB_bytes {k : Int} (hk : 0 ≤ k ∧ k ≤ 255) (e : Int) {d : List Int} (hd : isB d) : isB (fragB k e d) := isB.append (putL_isB _ _) (fragT_bytes hk e hd)
theorem fragS_lt (k e : Int) (d : List Int) : fragS k e d < 4294967296 := maskS_lt _
theorem maskS_inj {a b : Nat} (ha : a < 4294967296) (hb : b < 4294967296) (h : maskS a = maskS b) : a = b := by
  rw [← unmask_mask a ha, h, unmask_mask b hb]
/-- numbers that are read out of bytes -/
theorem getI_take (l : List Int) (m k : Nat) (h : k ≤ m) : getI (l.take m) k = getI l k := by
  induction k with
  | zero => rfl
  | succ k ih =>
    have e : (l.take m).getD k 0 = l.getD k 0 := by simp only [List.getD, List.getElem?_take, show k < m by omega, if_true]
    simp only [getI]; rw [ih (by omega), e]
theorem getI_append (a b : List Int) (k : Nat) (h : k ≤ a.length) : getI (a ++ b) k = getI a k := by
  have := getI_take (a ++ b) a.length k h
  rw [List.take_left] at this
  exact this.symm
theorem num_take (zs : List Int) (m a n : Nat) (h : a + n ≤ m) : num (zs.take m) a n = num zs a n := by
  unfold num; rw [List.drop_take, getI_take _ _ _ (by omega)]
theorem num_bd {zs : List Int} (h : isB zs) (a n : Nat) : 0 ≤ num zs a n ∧ num zs a n < 2 ^ (8 * n) := getI_bd _ (bytes_of_mem (h.drop a)) n
theorem num_put {zs : List Int} (h : isB zs) (a n : Nat) (hl : a + n ≤ zs.length) : putL (num zs a n) n = (zs.drop a).take n := by
  unfold num
  rw [← getI_take (zs.drop a) n n (Nat.le_refl _)]
  exact putL_getI _ (bytes_of_mem ((h.drop a).take n)) n (by simp; omega)
theorem num_one (zs : List Int) (a : Nat) : num zs a 1 = zs.getD a 0 := by simp [num, getI, List.getD]
theorem num_two (zs : List Int) (a : Nat) : num zs a 2 = zs.getD a 0 + 256 * zs.getD (a + 1) 0 := by
  simp [num, getI, List.getD]; omega
/-- the fragment that bytes begin with, how many they are; or why there is none -/
def fragD (zs : List Int) (ep : Int) : FR × Nat × Int :=
  if zs.length < 11 then (noF, 0, 1) else
  if zs.take 11 = List.replicate 11 0 then (noF, 0, 7) else
  if fragOk (num zs 6 1) (num zs 4 2).toNat = false ∨ num zs 7 4 ≠ ep then (noF, 0, 2) else
  if zs.length < 11 + (num zs 4 2).toNat then (noF, 0, 1) else
  if num zs 0 4 ≠ maskS (ofS ((zs.take (11 + (num zs 4 2).toNat)).drop 4)) then (noF, 0, 3) else
  (⟨num zs 6 1, num zs 7 4, (zs.drop 11).take (num zs 4 2).toNat⟩, 11 + (num zs 4 2).toNat, 0)
section
variable {zs : List Int} {ep : Int}
theorem fragD_short (h : zs.length < 11) : fragD zs ep = (noF, 0, 1) := by unfold fragD; rw [if_pos h]
theorem fragD_none (h : ¬ zs.length < 11) (h2 : zs.take 11 = List.replicate 11 0) : fragD zs ep = (noF, 0, 7) := by unfold fragD; rw [if_neg h, if_pos h2]
section
variable (h : ¬ zs.length < 11) (h2 : ¬ zs.take 11 = List.replicate 11 0)
include h h2
theorem fragD_form (h3 : fragOk (num zs 6 1) (num zs 4 2).toNat = false ∨ num zs 7 4 ≠ ep) : fragD zs ep = (noF, 0, 2) := by unfold fragD; rw [if_neg h, if_neg h2, if_pos h3]
variable (h3 : fragOk (num zs 6 1) (num zs 4 2).toNat = true) (h4 : num zs 7 4 = ep)
include h3 h4
theorem fragD_cut (h5 : zs.length < 11 + (num zs 4 2).toNat) : fragD zs ep = (noF, 0, 1) := by
  unfold fragD; rw [if_neg h, if_neg h2, if_neg (by rw [h3]; simp [h4]), if_pos h5]
theorem fragD_sum (h5 : ¬ zs.length < 11 + (num zs 4 2).toNat) (h6 : num zs 0 4 ≠ maskS (ofS ((zs.take (11 + (num zs 4 2).toNat)).drop 4))) : fragD zs ep = (noF, 0, 3) := by
  unfold fragD; rw [if_neg h, if_neg h2, if_neg (by rw [h3]; simp [h4]), if_neg h5, if_pos h6]
theorem fragD_ok (h5 : ¬ zs.length < 11 + (num zs 4 2).toNat) (h6 : num zs 0 4 = maskS (ofS ((zs.take (11 + (num zs 4 2).toNat)).drop 4))) :
    fragD zs ep = (⟨num zs 6 1, num zs 7 4, (zs.drop 11).take (num zs 4 2).toNat⟩, 11 + (num zs 4 2).toNat, 0) := by
  unfold fragD; rw [if_neg h, if_neg h2, if_neg (by rw [h3]; simp [h4]), if_neg h5, if_neg (by simp [h6])]
end
/-- what a fragment that is told is like -/
theorem fragD_parts (h : (fragD zs ep).2.2 = 0) : 11 ≤ zs.length ∧ fragOk (num zs 6 1) (num zs 4 2).toNat = true ∧ num zs 7 4 = ep ∧ 11 + (num zs 4 2).toNat ≤ zs.length ∧ num zs 0 4 = maskS (ofS ((zs.take (11 + (num zs 4 2).toNat)).drop 4)) := by
  by_cases h1 : zs.length < 11
  · rw [fragD_short h1] at h; exact absurd h (by decide)
  by_cases h2 : zs.take 11 = List.replicate 11 0
  · rw [fragD_none h1 h2] at h; exact absurd h (by decide)
  by_cases h3 : fragOk (num zs 6 1) (num zs 4 2).toNat = false ∨ num zs 7 4 ≠ ep
  · rw [fragD_form h1 h2 h3] at h; exact absurd h (by decide)
  have h3a : fragOk (num zs 6 1) (num zs 4 2).toNat = true := by cases hq : fragOk (num zs 6 1) (num zs 4 2).toNat <;> simp_all
  have h3b : num zs 7 4 = ep := by by_cases hq : num zs 7 4 = ep; exact hq; exact absurd (Or.inr hq) h3
  by_cases h5 : zs.length < 11 + (num zs 4 2).toNat
  · rw [fragD_cut h1 h2 h3a h3b h5] at h; exact absurd h (by decide)
  by_cases h6 : num zs 0 4 = maskS (ofS ((zs.take (11 + (num zs 4 2).toNat)).drop 4))
  · exact ⟨by omega, h3a, h3b, by omega, h6⟩
  · rw [fragD_sum h1 h2 h3a h3b h5 h6] at h; exact absurd h (by decide)
/-- .. and what an error leaves -/
theorem fragD_err (h : (fragD zs ep).2.2 ≠ 0) : fragD zs ep = (noF, 0, (fragD zs ep).2.2) := by
  by_cases h1 : zs.length < 11
  · rw [fragD_short h1]
  by_cases h2 : zs.take 11 = List.replicate 11 0
  · rw [fragD_none h1 h2]
  by_cases h3 : fragOk (num zs 6 1) (num zs 4 2).toNat = false ∨ num zs 7 4 ≠ ep
  · rw [fragD_form h1 h2 h3]
  have h3a : fragOk (num zs 6 1) (num zs 4 2).toNat = true := by cases hq : fragOk (num zs 6 1) (num zs 4 2).toNat <;> simp_all
  have h3b : num zs 7 4 = ep := by by_cases hq : num zs 7 4 = ep; exact hq; exact absurd (Or.inr hq) h3
  by_cases h5 : zs.length < 11 + (num zs 4 2).toNat
  · rw [fragD_cut h1 h2 h3a h3b h5]
  by_cases h6 : num zs 0 4 = maskS (ofS ((zs.take (11 + (num zs 4 2).toNat)).drop 4))
  · rw [fragD_ok h1 h2 h3a h3b h5 h6] at h; exact absurd rfl h
  · rw [fragD_sum h1 h2 h3a h3b h5 h6]
theorem fragD_data (hb : isB zs) : isB (fragD zs ep).1.data := by
  by_cases h : (fragD zs ep).2.2 = 0
  · obtain ⟨h1, h2, h3, h4, h5⟩ := fragD_parts h
    unfold fragD
    split
    · exact isB.nil
    · split
      · exact isB.nil
      · split
        · exact isB.nil
        · split
          · exact isB.nil
          · split
            · exact isB.nil
            · exact (hb.drop _).take _
  · rw [fragD_err h]; exact isB.nil
end
/-- all bytes but the data, out of the numbers that they tell -/
theorem head_back (zs : List Int) (hb : isB zs) (hl : 11 ≤ zs.length) : fragK (num zs 6 1) (num zs 7 4) (num zs 4 2).toNat = (zs.take 11).drop 4 := by
  have h2 := num_bd hb 4 2
  have e : (((num zs 4 2).toNat : Nat) : Int) = num zs 4 2 := by omega
  unfold fragK
  rw [e, num_put hb 4 2 (by omega), num_put hb 7 4 (by omega), num_one]
  match zs, hl with
  | a0 :: a1 :: a2 :: a3 :: a4 :: a5 :: a6 :: a7 :: a8 :: a9 :: a10 :: r, _ => simp
/-- what is got is put by the same bytes -/
theorem tail_back (zs : List Int) (hb : isB zs) (h4 : 11 + (num zs 4 2).toNat ≤ zs.length) :
    fragT (num zs 6 1) (num zs 7 4) ((zs.drop 11).take (num zs 4 2).toNat) = (zs.take (11 + (num zs 4 2).toNat)).drop 4 := by
  unfold fragT
  rw [show ((zs.drop 11).take (num zs 4 2).toNat).length = (num zs 4 2).toNat from by simp; omega, head_back zs hb (by omega), List.take_add, List.drop_append_of_le_length (by simp; omega)]
theorem frag_back {zs : List Int} {ep : Int} (hb : isB zs) (h : (fragD zs ep).2.2 = 0) :
    fragOk (fragD zs ep).1.kind (fragD zs ep).1.data.length = true ∧ (fragD zs ep).1.epoch = ep ∧ (fragD zs ep).2.1 ≤ zs.length ∧ (fragD zs ep).2.1 = 11 + (fragD zs ep).1.data.length ∧ fragB (fragD zs ep).1.kind (fragD zs ep).1.epoch (fragD zs ep).1.data = zs.take (fragD zs ep).2.1 := by
  obtain ⟨h1, h2, h3, h4, h5⟩ := fragD_parts h
  have hn : ¬ zs.take 11 = List.replicate 11 0 := by
    intro hz
    have := fok_parts h2
    rw [num_one] at this
    have e : (zs.take 11).getD 6 0 = zs.getD 6 0 := by simp only [List.getD, List.getElem?_take]; rfl
    rw [hz] at e
    have : zs.getD 6 0 = 0 := by rw [← e]; rfl
    omega
  rw [fragD_ok (by omega) hn h2 h3 (by omega) h5]
  simp only
  have hlen : ((zs.drop 11).take (num zs 4 2).toNat).length = (num zs 4 2).toNat := by simp; omega
  refine ⟨by rw [hlen]; exact h2, h3, h4, by rw [hlen], ?_⟩
  have ht := tail_back zs hb h4
  unfold fragB fragS
  rw [ht, ← h5, num_put hb 0 4 (by omega)]
  have e : (zs.drop 0).take 4 = (zs.take (11 + (num zs 4 2).toNat)).take 4 := by rw [List.drop_zero, List.take_take, Nat.min_eq_left (by omega)]
  rw [e, List.take_append_drop]
/-- the numbers of a fragment's bytes -/
theorem frag_nums (k e : Int) (d r : List Int) (hn : d.length ≤ 65535) (he : 0 ≤ e ∧ e < 4294967296) :
    num (fragB k e d ++ r) 0 4 = fragS k e d ∧ num (fragB k e d ++ r) 4 2 = d.length ∧ num (fragB k e d ++ r) 6 1 = k ∧ num (fragB k e d ++ r) 7 4 = e := by
  have hs := fragS_lt k e d
  have p4 : (fragB k e d ++ r).drop 4 = putL d.length 2 ++ ([k] ++ (putL e 4 ++ (d ++ r))) := by
    unfold fragB
    rw [List.append_assoc, List.drop_left' (by rw [putL_length])]
    unfold fragT fragK
    simp
  have p6 : (fragB k e d ++ r).drop 6 = [k] ++ (putL e 4 ++ (d ++ r)) := by
    rw [show 6 = 4 + 2 from rfl, ← List.drop_drop, p4, List.drop_left' (by rw [putL_length])]
  have p7 : (fragB k e d ++ r).drop 7 = putL e 4 ++ (d ++ r) := by
    rw [show 7 = 6 + 1 from rfl, ← List.drop_drop, p6]; rfl
  unfold num
  refine ⟨?_, ?_, ?_, ?_⟩
  · rw [List.drop_zero]
    unfold fragB
    rw [List.append_assoc, getI_append _ _ _ (by rw [putL_length]; omega), getI_put _ _ _ (Nat.le_refl _)]
    omega
  · rw [p4, getI_append _ _ _ (by rw [putL_length]; omega), getI_put _ _ _ (Nat.le_refl _)]; omega
  · rw [p6]; simp [getI]
  · rw [p7, getI_append _ _ _ (by rw [putL_length]; omega), getI_put _ _ _ (Nat.le_refl _)]; omega
theorem frag_head (k e : Int) (d r : List Int) (hk : 1 ≤ k) (hn : d.length ≤ 65535) (he : 0 ≤ e ∧ e < 4294967296) : ¬ (fragB k e d ++ r).take 11 = List.replicate 11 0 := by
  intro hz
  obtain ⟨_, _, h, _⟩ := frag_nums k e d r hn he
  rw [num_one] at h
  have e : ((fragB k e d ++ r).take 11).getD 6 0 = (fragB k e d ++ r).getD 6 0 := by simp only [List.getD, List.getElem?_take]; rfl
  rw [hz, h] at e
  have : (0 : Int) = k := e
  omega
/-- what is put is got by its own epoch .. -/
theorem frag_got {k e : Int} {d : List Int} (r : List Int) (h : fragOk k d.length = true) (he : 0 ≤ e ∧ e < 4294967296) : fragD (fragB k e d ++ r) e = (⟨k, e, d⟩, 11 + d.length, 0) := by
  have hp := fok_parts h
  obtain ⟨n0, n4, n6, n7⟩ := frag_nums k e d r (by omega) he
  have hl := fragB_length k e d
  have hn : (num (fragB k e d ++ r) 4 2).toNat = d.length := by omega
  have htk : (fragB k e d ++ r).take (11 + d.length) = fragB k e d := List.take_left' hl
  have h5 : num (fragB k e d ++ r) 0 4 = maskS (ofS (((fragB k e d ++ r).take (11 + (num (fragB k e d ++ r) 4 2).toNat)).drop 4)) := by
    rw [hn, htk, n0]
    unfold fragB fragS
    rw [List.drop_left' (by rw [putL_length])]
  rw [fragD_ok (by simp; omega) (frag_head k e d r hp.1 (by omega) he) (by rw [n6, hn]; exact h) n7 (by rw [hn]; simp; omega) h5, n6, n7, hn]
  have hd : ((fragB k e d ++ r).drop 11).take d.length = d := by
    have : (fragB k e d).drop 11 = d := by
      unfold fragB fragT
      rw [← List.append_assoc, List.drop_left' (by simp [putL_length, fragK_length])]
    rw [List.drop_append_of_le_length (by omega), this, List.take_left]
  rw [hd]
/-- .. and by no other one -/
theorem frag_other {k e : Int} {d : List Int} (r : List Int) (h : fragOk k d.length = true) (he : 0 ≤ e ∧ e < 4294967296) {ep : Int} (hne : ep ≠ e) : fragD (fragB k e d ++ r) ep = (noF, 0, 2) := by
  have hp := fok_parts h
  obtain ⟨n0, n4, n6, n7⟩ := frag_nums k e d r (by omega) he
  have hl := fragB_length k e d
  exact fragD_form (by simp; omega) (frag_head k e d r hp.1 (by omega) he) (Or.inr (by rw [n7]; exact fun q => hne q.symm))
/-- what lies ahead of a change stays -/
theorem pat_take (zs ws : List Int) (at_ k m : Nat) (h : m ≤ at_) : (pat zs ws at_ k).take m = zs.take m := by
  induction k with
  | zero => rfl
  | succ k ih => rw [pat, List.take_set_of_le (by omega)]; exact ih
theorem pat_drop (zs ws : List Int) (at_ k m : Nat) (h : m ≤ at_) : (pat zs ws at_ k).drop m = pat (zs.drop m) ws (at_ - m) k := by
  induction k with
  | zero => rfl
  | succ k ih => rw [pat, List.drop_set, if_neg (by omega), ih, pat, show at_ - m + k = at_ + k - m from by omega]
/-- a burst is seen -/
theorem frag_burst {k e : Int} {d : List Int} (h : fragOk k d.length = true) (he : 0 ≤ e ∧ e < 4294967296) (hd : isB d) (ws : List Int) (hw : isB ws) (at_ j : Nat) (ha : 6 ≤ at_) (hj : at_ + j ≤ 11 + d.length) (hjw : j ≤ ws.length) (h4 : j ≤ 4)
    {ep : Int} (hg : (fragD (pat (fragB k e d) ws at_ j) ep).2.2 = 0) : pat (fragB k e d) ws at_ j = fragB k e d := by
  have hp := fok_parts h
  have hl := fragB_length k e d
  have hbb := fragB_bytes (k := k) (by omega) e hd
  obtain ⟨z, hz⟩ : ∃ z, fragB k e d = z := ⟨_, rfl⟩
  obtain ⟨n0, n4, _, _⟩ := frag_nums k e d [] (by omega) he
  have hS : fragS k e d = maskS (ofS (z.drop 4)) := by
    rw [← hz]; unfold fragB fragS; rw [List.drop_left' (by rw [putL_length])]
  rw [List.append_nil, hz] at n0 n4
  rw [hz] at hl hg hbb ⊢
  obtain ⟨h1, h2, h3, h5, h6⟩ := fragD_parts hg
  have ht6 : (pat z ws at_ j).take 6 = z.take 6 := pat_take z ws at_ j 6 ha
  have m0 : num (pat z ws at_ j) 0 4 = num z 0 4 := by rw [← num_take _ 6 0 4 (by omega), ht6, num_take _ 6 0 4 (by omega)]
  have m4 : num (pat z ws at_ j) 4 2 = num z 4 2 := by rw [← num_take _ 6 4 2 (by omega), ht6, num_take _ 6 4 2 (by omega)]
  rw [m0, m4, n0, n4, Int.toNat_natCast] at h6
  rw [List.take_of_length_le (by rw [pat_length]; omega), hS] at h6
  have h7 := maskS_inj (ofS_lt _) (ofS_lt _) (Int.ofNat.inj h6)
  rw [pat_drop z ws at_ j 4 (by omega)] at h7
  have h8 := pat_of (z.drop 4) ws (at_ - 4) j (by simp; omega) hjw h4 (hbb.drop 4) hw h7.symm
  rw [← pat_drop z ws at_ j 4 (by omega)] at h8
  have ht4 := pat_take z ws at_ j 4 (by omega)
  rw [← List.take_append_drop 4 (pat z ws at_ j), ht4, h8, List.take_append_drop]
theorem awake_frag : (fragB 1 7 [120]).length = 12 := by rw [fragB_length]; rfl
end Go.Proofs.YtepaghohojomeaaDoor
/-
  WHAT A BYTE TAKES: one cell, 0 at first. Nothing here speaks of the program's functions. No condition.
-/
namespace Go.Proofs.YtepaghohojomeaaDoor
theorem Tryd.info_u8 : (Tryd.prog.info? 5).map (fun i => (i.zero, i.size, i.bytes)) = some (some (.int .u8 0), 1, 1) := by kernel_rfl
end Go.Proofs.YtepaghohojomeaaDoor
/-
  APPEND OF ONE SECTOR to a row of sectors that a call makes. Nothing here speaks of the program's functions. No condition.
-/
namespace Go.Proofs.YtepaghohojomeaaDoor
open Go.RowKit
/-- append of one sector to a row of sectors that the call made; the sector lies in a block of its own -/
theorem wpl_app_sec {w : World} {ops : Array Oper} {rest : List Oper} {o : Oper} {a : Act} {Q : Exit → Act → World → Prop} (hgd : o.guard = none) (s x : Operand)
    (ho : o.op = .call { callee := .builtin .append, args := #[s, x], argTypes := #[24, 24] })
    (base : Nat) (v : Value) (n : Nat) (fs : List Int) (hs : a.eval s = v) (hown : Hid (w.ownsRow base 28 64 v n (il .u8 fs)))
    (g : Nat) (ss : List Int) (hx : a.eval x = .slice (some ⟨g, 0, none⟩) 1 1) (hblk : Blk w g ss) (hn : n ≤ 1000000000000)
    (B : Nat) (W : World) (hb : Hid (Below B W w)) (hB : B ≤ base) (hbase : base ≤ w.heap.size)
    (h : ∀ v' w', Hid (w'.ownsRow base 28 64 v' (n + 1) (il .u8 (fs ++ ss))) → Hid (Below B W w') → wpList Tryd.prog ops Q rest (a.put o.dst v') w') : wpList Tryd.prog ops Q (o :: rest) a w := by
  obtain ⟨i, hi, hz0, hz1, hz2⟩ := info_parts sec_parts
  refine wpList_append_own_wide w hgd s x 24 ho base 28 i (.agg (sv z64)) 64 64 Tryd.underlying24 hi hz0 hz1 hz2 rfl (by omega) v n (il .u8 fs) hs hown.out ⟨g, 0, none⟩ 1 1 (il .u8 ss) hx (by rw [il_length, hblk.2]) ?_ (il_one _ _) (by unfold maxLen; omega) (by omega) hbase ?_
  · intro j u hj
    have hjl : j < ss.length := by have := (List.getElem?_eq_some_iff.1 hj).1; rwa [il_length] at this
    rw [il_get _ _ _ hjl] at hj
    have := hblk.cell j (by rw [← hblk.2]; exact hjl)
    by_cases h0 : j = 0
    · subst h0; rw [← hj]; simpa [Addr.add] using this
    · rw [← hj]; simpa [Addr.add, h0] using this
  · intro v' w' h1 h2 _
    exact h v' w' (by rw [il_append]; exact h1) (hb.out.grown h2 (by omega) (fun q hq => by have := (hown.out.lt q hq).1; omega))
end Go.Proofs.YtepaghohojomeaaDoor
/-
  ROWS OF SECTORS that a call makes, side by side with others; cuts of slices of sectors; literals of one sector. Nothing here speaks of the program's functions. No condition.
-/
namespace Go.Proofs.YtepaghohojomeaaDoor
open Go.RowKit
section
variable {w : World} {ops : Array Oper} {rest : List Oper} {o : Oper} {a : Act} {Q : Exit → Act → World → Prop}
/-- append of a slice of sectors to a row of sectors that the call made -/
theorem wpl_app_fs (hgd : o.guard = none) (s x : Operand)
    (ho : o.op = .call { callee := .builtin .append, args := #[s, x], argTypes := #[24, 24] })
    (base : Nat) (v : Value) (n : Nat) (fs : List Int) (hs : a.eval s = v) (hown : Hid (w.ownsRow base 28 64 v n (il .u8 fs)))
    (v2 : Value) (m : Nat) (gs : List Int) (hx : a.eval x = v2) (hfs : Hid (FS w v2 m gs)) (hn : n + m ≤ 1000000000000)
    (B : Nat) (W : World) (hb : Hid (Below B W w)) (hB : B ≤ base) (hbase : base ≤ w.heap.size)
    (h : ∀ v' w', Hid (w'.ownsRow base 28 64 v' (n + m) (il .u8 (fs ++ gs))) → Hid (Below B W w') → Hid (w.grownBy w' v.ownBlock) → wpList Tryd.prog ops Q rest (a.put o.dst v') w') : wpList Tryd.prog ops Q (o :: rest) a w := by
  obtain ⟨i, hi, hz0, hz1, hz2⟩ := info_parts sec_parts
  obtain ⟨ad, cap, rfl, hl, hlc, hc63, hnil, hc⟩ := hfs.out
  cases ad with
  | none =>
    obtain rfl : cap = 0 := hnil rfl
    obtain rfl : m = 0 := by omega
    obtain rfl : gs = [] := List.length_eq_zero_iff.1 (by omega)
    refine wpList_append_own_none hgd s x 24 ho base 28 i 64 Tryd.underlying24 hi v n (il .u8 fs) hs hown.out hx ?_
    exact h v w (by rw [List.append_nil]; exact hown) hb (Lib.hid ⟨rfl, rfl, rfl, Nat.le_refl _, fun _ _ _ => rfl⟩)
  | some ad =>
    refine wpList_append_own_wide w hgd s x 24 ho base 28 i (.agg (sv z64)) 64 64 Tryd.underlying24 hi hz0 hz1 hz2 rfl (by omega) v n (il .u8 fs) hs hown.out ad m cap (il .u8 gs) hx (by rw [il_length]; omega) ?_ (il_one _ _) (by unfold maxLen; omega) (by omega) hbase ?_
    · intro j u hj
      have hjl : j < gs.length := by have := (List.getElem?_eq_some_iff.1 hj).1; rwa [il_length] at this
      obtain ⟨b, off, e1, hcell⟩ := hc (by omega)
      obtain rfl := Option.some.inj e1
      rw [il_get _ _ _ hjl] at hj
      obtain rfl := Option.some.inj hj
      have := hcell j (by omega)
      by_cases h0 : j = 0
      · subst h0; simpa [Addr.add] using this
      · simpa [Addr.add, h0] using this
    · intro v' w' h1 h2 _
      exact h v' w' (by rw [il_append]; exact h1) (hb.out.grown h2 (by omega) (fun q hq => by have := (hown.out.lt q hq).1; omega)) h2
/-- append of one sector to a row of sectors that the call made, in a statement whose order is open -/
theorem wp_app_sec {K : Act → World → Prop} (s x : Operand)
    (ho : o.op = .call { callee := .builtin .append, args := #[s, x], argTypes := #[24, 24] })
    (base : Nat) (v : Value) (n : Nat) (fs : List Int) (hs : a.eval s = v) (hown : Hid (w.ownsRow base 28 64 v n (il .u8 fs)))
    (g : Nat) (ss : List Int) (hx : a.eval x = .slice (some ⟨g, 0, none⟩) 1 1) (hblk : Blk w g ss) (hn : n ≤ 1000000000000)
    (B : Nat) (W : World) (hb : Hid (Below B W w)) (hB : B ≤ base) (hbase : base ≤ w.heap.size)
    (h : ∀ v' w', Hid (w'.ownsRow base 28 64 v' (n + 1) (il .u8 (fs ++ ss))) → Hid (Below B W w') → K (a.put o.dst v') w') : Oper.wp Tryd.prog o a w K Q := by
  obtain ⟨i, hi, hz0, hz1, hz2⟩ := info_parts sec_parts
  refine wp_append_own_wide w s x 24 ho base 28 i (.agg (sv z64)) 64 64 Tryd.underlying24 hi hz0 hz1 hz2 rfl (by omega) v n (il .u8 fs) hs hown.out ⟨g, 0, none⟩ 1 1 (il .u8 ss) hx (by rw [il_length, hblk.2]) ?_ (il_one _ _) (by unfold maxLen; omega) (by omega) hbase ?_
  · intro j u hj
    have hjl : j < ss.length := by have := (List.getElem?_eq_some_iff.1 hj).1; rwa [il_length] at this
    rw [il_get _ _ _ hjl] at hj
    have := hblk.cell j (by rw [← hblk.2]; exact hjl)
    by_cases h0 : j = 0
    · subst h0; rw [← hj]; simpa [Addr.add] using this
    · rw [← hj]; simpa [Addr.add, h0] using this
  · intro v' w' h1 h2 _
    exact h v' w' (by rw [il_append]; exact h1) (hb.out.grown h2 (by omega) (fun q hq => by have := (hown.out.lt q hq).1; omega))
end
/-- an empty row of sectors, just made -/
theorem own_empty64 {w : World} {e : TypeId} {base b : Nat} (hb : w.heap.size = b) (h : base ≤ b) : Hid ((w.alloc (.cells #[] e)).ownsRow base e 64 (.slice (some ⟨b, 0, none⟩) 0 0) 0 (il .u8 [])) := by
  subst hb
  exact ⟨rfl, .inr ⟨w.heap.size, 0, #[], rfl, h, heap_alloc_last w _, Nat.le_refl _, by unfold maxLen; omega, rfl, rfl⟩⟩
/-- a literal of one sector -/
theorem fold_set (l : List Value) : ∀ (k : Nat) (cs : Array Value) (i : Nat), ((l.zipIdx k).foldl (fun cs (p : Value × Nat) => cs.setIfInBounds (0 + p.2) p.1) cs)[i]? = if k ≤ i ∧ i < k + l.length ∧ i < cs.size then l[i - k]? else cs[i]? := by
  induction l with
  | nil => intro k cs i; simp; intro h1 h2; omega
  | cons x l ih =>
    intro k cs i
    rw [List.zipIdx_cons, List.foldl_cons, ih (k + 1)]
    simp only [Array.size_setIfInBounds, List.length_cons, Nat.zero_add]
    by_cases h1 : k + 1 ≤ i ∧ i < k + 1 + l.length ∧ i < cs.size
    · rw [if_pos h1, if_pos (by omega), show i - k = (i - (k + 1)) + 1 from by omega, List.getElem?_cons_succ]
    · rw [if_neg h1]
      by_cases h2 : i = k
      · subst h2
        by_cases h3 : i < cs.size
        · rw [if_pos (by omega)]; simp [h3]
        · rw [if_neg (by omega)]; simp [h3]
      · rw [if_neg (by omega), Array.getElem?_setIfInBounds_ne (Ne.symm h2)]
theorem fill_sec (z : List Int) (hz : z.length = 64) (cs : Array Value) (hc : cs.size = 64) : Instr.fill (fun i => some (i * 64, 64)) cs [(0, .agg (sv z))] = some (sv z) := by
  have h0 : (Value.agg (sv z)).cells = sv z := rfl
  have hs : (sv z).size = 64 := by rw [sv_size, hz]
  simp only [Instr.fill, h0, hs, Nat.zero_mul, Nat.zero_add, hc]
  rw [if_neg (by simp)]
  refine congrArg some ?_
  refine Array.ext_getElem? fun i => ?_
  rw [← Array.foldl_toList, Array.toList_zipIdx]
  have := fold_set (sv z).toList 0 cs i
  simp only [Nat.zero_add] at this
  rw [this]
  by_cases hi : i < 64
  · rw [if_pos (by simp [hs, hc]; omega)]; simp
  · rw [if_neg (by omega), Array.getElem?_eq_none (by omega), Array.getElem?_eq_none (by omega)]
theorem wpl_build_sec {w : World} {ops : Array Oper} {rest : List Oper} {o : Oper} {a : Act} {Q : Exit → Act → World → Prop} (hgd : o.guard = none) (x : Operand) (ho : o.op = .buildSlice 24 1 #[(0, x)]) (z : List Int) (hz : z.length = 64) (hx : a.eval x = .agg (sv z))
    (h : wpList Tryd.prog ops Q rest (a.put o.dst (.slice (some ⟨w.heap.size, 0, none⟩) 1 1)) (w.alloc (.cells (sv z) 28))) : wpList Tryd.prog ops Q (o :: rest) a w := by
  obtain ⟨i, hi, hz0, hz1, hz2⟩ := info_parts sec_parts
  refine wpList_buildSlice hgd 24 28 1 _ ho (sv z) i (.agg (sv z64)) Tryd.underlying24 hi hz0 (by rw [hz1]; omega) (by rw [hz1]; omega) ?_ h
  rw [hz1]
  simpa [hx] using fill_sec z hz _ (by simp)
theorem FS.blk {w : World} {g : Nat} {z : List Int} (h : Blk w g z) : FS w (.slice (some ⟨g, 0, none⟩) 1 1) 1 z :=
  ⟨_, 1, rfl, by rw [h.2], Nat.le_refl _, by omega, fun h => by simp at h, fun _ => ⟨g, 0, rfl, fun j hj => by rw [Nat.zero_add]; exact h.cell j (by omega)⟩⟩
/-- cut: from m on, the first d of them -/
theorem FS.mid {w : World} {a : Option Addr} {n cap : Nat} {fs : List Int} (h : FS w (.slice a n cap) n fs) (m d : Nat) (hm : m + d ≤ n) : FS w (sliced a m (m + d) cap 64) d ((fs.drop (m * 64)).take (d * 64)) := by
  obtain ⟨a', cap', e, h1, h2, h3, h4, hcell⟩ := h
  simp only [Value.slice.injEq, true_and] at e
  obtain ⟨rfl, rfl⟩ := e
  have hl : ((fs.drop (m * 64)).take (d * 64)).length = d * 64 := by simp; omega
  unfold sliced
  rw [show m + d - m = d from by omega]
  by_cases h0 : cap = m
  · rw [if_pos h0]
    exact ⟨a, cap - m, rfl, hl, by omega, by omega, fun _ => by omega, fun h => absurd h (by omega)⟩
  · rw [if_neg h0]
    cases a with
    | none => have := h4 rfl; omega
    | some x =>
      refine ⟨some (x.add (m * 64)), cap - m, rfl, hl, by omega, by omega, fun h => by simp at h, fun hp => ?_⟩
      obtain ⟨b, off, hx, hcl⟩ := hcell (by omega)
      obtain rfl := Option.some.inj hx
      refine ⟨b, off + m * 64, by simp [Addr.add], fun j hj => ?_⟩
      have := hcl (m * 64 + j) (by omega)
      rw [Nat.add_assoc, this]
      simp only [List.getD, List.getElem?_take, hj, if_true, List.getElem?_drop]
theorem wpl_build_secG {w : World} {ops : Array Oper} {rest : List Oper} {o : Oper} {a : Act} {Q : Exit → Act → World → Prop} (hw : Region.wanted o (yielded ops a.tmps) = true) (x : Operand) (ho : o.op = .buildSlice 24 1 #[(0, x)]) (z : List Int) (hz : z.length = 64) (hx : a.eval x = .agg (sv z))
    (h : wpList Tryd.prog ops Q rest (a.put o.dst (.slice (some ⟨w.heap.size, 0, none⟩) 1 1)) (w.alloc (.cells (sv z) 28))) : wpList Tryd.prog ops Q (o :: rest) a w := by
  obtain ⟨i, hi, hz0, hz1, hz2⟩ := info_parts sec_parts
  unfold wpList
  rw [if_pos hw]
  refine Or.inl (wp_buildSlice 24 28 1 _ ho (sv z) i (.agg (sv z64)) Tryd.underlying24 hi hz0 (by rw [hz1]; omega) (by rw [hz1]; omega) ?_ h)
  rw [hz1]
  simpa [hx] using fill_sec z hz _ (by simp)
theorem wp_build_sec {w : World} {o : Oper} {a : Act} {K : Act → World → Prop} {Q : Exit → Act → World → Prop} (x : Operand) (ho : o.op = .buildSlice 24 1 #[(0, x)]) (z : List Int) (hz : z.length = 64) (hx : a.eval x = .agg (sv z))
    (h : K (a.put o.dst (.slice (some ⟨w.heap.size, 0, none⟩) 1 1)) (w.alloc (.cells (sv z) 28))) : Oper.wp Tryd.prog o a w K Q := by
  obtain ⟨i, hi, hz0, hz1, hz2⟩ := info_parts sec_parts
  refine wp_buildSlice 24 28 1 _ ho (sv z) i (.agg (sv z64)) Tryd.underlying24 hi hz0 (by rw [hz1]; omega) (by rw [hz1]; omega) ?_ h
  rw [hz1]
  simpa [hx] using fill_sec z hz _ (by simp)
end Go.Proofs.YtepaghohojomeaaDoor
/-
  ROWS OF SECTORS THAT ARE FILLED one by one (RW). Nothing here speaks of the program's functions. No condition.
-/
namespace Go.Proofs.YtepaghohojomeaaDoor
open Go.RowKit
theorem splice_get {α : Type} (L : List α) (off : Nat) (cs : List α) (hf : off + cs.length ≤ L.length) (q : Nat) :
    (splice L off cs)[q]? = if q < off then L[q]? else if q < off + cs.length then cs[q - off]? else L[q]? := by
  unfold splice
  by_cases h1 : q < off
  · rw [if_pos h1, List.getElem?_append_left (by simp; omega), List.getElem?_take_of_lt h1]
  · rw [if_neg h1, List.getElem?_append_right (by simp; omega), List.length_take, Nat.min_eq_left (by omega)]
    by_cases h2 : q < off + cs.length
    · rw [if_pos h2, List.getElem?_append_left (by omega)]
    · rw [if_neg h2, List.getElem?_append_right (by omega), List.getElem?_drop]
      congr 1; omega
/-- cells that are set, as a row -/
theorem heap_setCells (g : Nat) (t : TypeId) (fr : Nat × Nat) : ∀ (vs : List Value) (o : Nat) (w : World) (cur : List Value), o + vs.length ≤ cur.length → w.heap[g]? = some (.cells cur.toArray t fr) → (w.setCells g o vs).heap[g]? = some (.cells (splice cur o vs).toArray t fr)
  | [], o, w, cur, _, h => by
    have e : splice cur o ([] : List Value) = cur := by simp [splice]
    rw [e]; exact h
  | v :: vs, o, w, cur, hl, h => by
    have h1 : (w.setCell ⟨g, o, none⟩ v).heap[g]? = some (.cells (cur.set o v).toArray t fr) := by
      have := Joins.block_setCell (i := o) h v
      simpa using this
    have h2 := heap_setCells g t fr vs (o + 1) (w.setCell ⟨g, o, none⟩ v) (cur.set o v) (by simp at hl ⊢; omega) h1
    have e : splice (cur.set o v) (o + 1) vs = splice cur o (v :: vs) := by
      refine List.ext_getElem? fun q => ?_
      simp only [List.length_cons] at hl
      rw [splice_get _ _ _ (by simp; omega), splice_get _ _ _ (by simp; omega)]
      by_cases h3 : q < o
      · rw [if_pos (by omega), if_pos h3, List.getElem?_set_ne (by omega)]
      · rw [if_neg h3]
        by_cases h4 : q = o
        · subst h4
          rw [if_pos (by omega), if_pos (by simp), List.getElem?_set_self (by omega), Nat.sub_self]; rfl
        · rw [if_neg (by omega)]
          by_cases h5 : q < o + 1 + vs.length
          · rw [if_pos h5, if_pos (by simp; omega), show q - o = (q - (o + 1)) + 1 from by omega, List.getElem?_cons_succ]
          · rw [if_neg h5, if_neg (by simp; omega), List.getElem?_set_ne (by omega)]
    rw [e] at h2
    exact h2
theorem grown_setCells (g : Nat) : ∀ (vs : List Value) (o : Nat) (w : World), w.grownBy (w.setCells g o vs) (some g)
  | [], _, w => ⟨rfl, rfl, rfl, Nat.le_refl _, fun _ _ _ => rfl⟩
  | v :: vs, o, w => by
    have h := grown_setCells g vs (o + 1) (w.setCell ⟨g, o, none⟩ v)
    have hs : (w.setCell ⟨g, o, none⟩ v).heap.size = w.heap.size := by simp
    exact ⟨h.os, h.tape, h.output, by have := h.size; rw [hs] at this; exact this, fun i hi hne => (h.block i (by rw [hs]; exact hi) hne).trans (Below.heap_setCell w ⟨g, o, none⟩ v i (fun e => hne (by rw [e])))⟩
theorem grown_setCell (g o : Nat) (v : Value) (w : World) : w.grownBy (w.setCell ⟨g, o, none⟩ v) (some g) := grown_setCells g [v] o w
theorem grown_trans {a b c : World} {row : Option Nat} (h : a.grownBy b row) (k : b.grownBy c row) : a.grownBy c row :=
  ⟨k.os.trans h.os, k.tape.trans h.tape, k.output.trans h.output, Nat.le_trans h.size k.size, fun i hi hne => (k.block i (Nat.lt_of_lt_of_le hi h.size) hne).trans (h.block i hi hne)⟩
theorem grown_refl (w : World) (row : Option Nat) : w.grownBy w row := ⟨rfl, rfl, rfl, Nat.le_refl _, fun _ _ _ => rfl⟩
theorem grown_drew {a b : World} {row : Option Nat} (h : a.grownBy b row) : a.grownBy b.drew row := ⟨h.os, h.tape, h.output, h.size, h.block⟩
/-- a row of sectors that is being filled -/
def RW (w : World) (g : Nat) (zs : List Int) : Prop := w.heap[g]? = some (.cells (il .u8 zs).toArray 28 (0, 0))
theorem RW.keep {w w' : World} {g : Nat} {zs : List Int} (h : RW w g zs) (hb : Below w.heap.size w w') : RW w' g zs := by
  unfold RW at *; rw [hb.block g (Array.getElem?_eq_some_iff.1 h).1]; exact h
theorem RW.fs {w : World} {g n : Nat} {zs : List Int} (h : RW w g zs) (hz : zs.length = n * 64) (hn : n ≤ 1000000) : FS w (.slice (some ⟨g, 0, none⟩) n n) n zs := by
  refine ⟨_, n, rfl, hz, Nat.le_refl _, by omega, fun h => by simp at h, fun _ => ⟨g, 0, rfl, fun j hj => ?_⟩⟩
  rw [Nat.zero_add, cell_of_row w g j _ _ _ h]
  simpa using il_get .u8 zs j (by omega)
/-- a sector is stored into it -/
theorem wpl_put_row {w : World} {ops : Array Oper} {rest : List Oper} {o : Oper} {a : Act} {Q : Exit → Act → World → Prop} (hgd : o.guard = none) (x y : Operand) (ho : o.op = .store 28 x y)
    (g n i : Nat) (zs ss : List Int) (h : RW w g zs) (hz : zs.length = n * 64) (hi : i < n) (hs : ss.length = 64) (off : Nat) (hoff : i * 64 = off) (hx : a.eval x = .pointer (some ⟨g, off, none⟩)) (hy : a.eval y = .agg (sv ss))
    (hK : ∀ w', Hid (RW w' g (splice zs off ss)) → Hid (w.grownBy w' (some g)) → wpList Tryd.prog ops Q rest (a.put o.dst undef) w') : wpList Tryd.prog ops Q (o :: rest) a w := by
  subst hoff
  have hle : (i + 1) * 64 ≤ n * 64 := Nat.mul_le_mul_right _ hi
  refine wpList_store_mid hgd 28 x y ho g (i * 64) (sv ss) hx hy ?_ (sv_info _ hs) (sv_one _) ?_
  · intro j hj
    rw [sv_size, hs] at hj
    refine ⟨?_, Joins.unfrozen_of_block h _⟩
    rw [cell_of_row w g _ _ _ _ h]
    have := il_get .u8 zs (i * 64 + j) (by omega)
    simp [this]
  · have e : (sv ss).toList = il .u8 ss := by simp [sv]
    rw [e]
    refine hK _ ?_ (grown_setCells _ _ _ _)
    unfold RW
    rw [← il_splice]
    exact heap_setCells g _ _ _ _ _ _ (by rw [il_length, il_length, hs, hz]; omega) h
/-- a row that was just made, as it lies -/
theorem row_of64 {w : World} {B g : Nat} {e : TypeId} {n : Nat} {xs : List Value} (h : w.ownsRow B e 64 (.slice (some ⟨g, 0, none⟩) n n) n xs) : w.heap[g]? = some (.cells xs.toArray e (0, 0)) := by
  rcases h.2 with ⟨h', _⟩ | ⟨g', cap', cur, h', _, hg, _, _, hcs, htake⟩
  · simp at h'
  · simp only [Value.slice.injEq, Option.some.injEq, Addr.mk.injEq, and_true, true_and] at h'
    obtain ⟨rfl, rfl⟩ := h'
    rw [hg, ← htake, List.take_of_length_le (by simp [hcs])]
/-- .. in a statement whose order is open -/
theorem wp_put_row {w : World} {o : Oper} {a : Act} {K : Act → World → Prop} {Q : Exit → Act → World → Prop} (x y : Operand) (ho : o.op = .store 28 x y)
    (g n i : Nat) (zs ss : List Int) (h : RW w g zs) (hz : zs.length = n * 64) (hi : i < n) (hs : ss.length = 64) (off : Nat) (hoff : i * 64 = off) (hx : a.eval x = .pointer (some ⟨g, off, none⟩)) (hy : a.eval y = .agg (sv ss))
    (hK : ∀ w', Hid (RW w' g (splice zs off ss)) → Hid (w.grownBy w' (some g)) → K (a.put o.dst undef) w') : o.wp Tryd.prog a w K Q := by
  subst hoff
  have hle : (i + 1) * 64 ≤ n * 64 := Nat.mul_le_mul_right _ hi
  refine wp_store_mid 28 x y ho g (i * 64) (sv ss) hx hy ?_ (sv_info _ hs) (sv_one _) ?_
  · intro j hj
    rw [sv_size, hs] at hj
    refine ⟨?_, Joins.unfrozen_of_block h _⟩
    rw [cell_of_row w g _ _ _ _ h]
    have := il_get .u8 zs (i * 64 + j) (by omega)
    simp [this]
  · have e : (sv ss).toList = il .u8 ss := by simp [sv]
    rw [e]
    refine hK _ ?_ (grown_setCells _ _ _ _)
    unfold RW
    rw [← il_splice]
    exact heap_setCells g _ _ _ _ _ _ (by rw [il_length, il_length, hs, hz]; omega) h
end Go.Proofs.YtepaghohojomeaaDoor
