/-
  TEXTS JOINED: FragMath, FragRef, FragHead, FragRight, FragEnc. Each one's own words stand at its head.
-/
import Derived.Test.YtjlnceldnbpapaaDoorPutMath
import Derived.Test.YtjlnceldnbpapaaDoorIsB
import Derived.Test.YtjlnceldnbpapaaDoorJCrc
import Derived.Test.YtjlnceldnbpapaaDoorJCut
import Derived.Test.YtjlnceldnbpapaaDoorFragBlk
import Derived.Test.YtjlnceldnbpapaaDoorPut
import Derived.Test.YtjlnceldnbpapaaDoorCut
import Derived.Test.YtjlnceldnbpapaaDoorBelow
import Derived.Test.YtjlnceldnbpapaaDoorRegion
import Derived.Deep.MidRow
import Derived.Deep.WholeRow
import Derived.Lib.SmallJoins
import Derived.ChangeKeysEq
import Derived.DeepKeys
import Derived.Laws.StructEq
/-
  FRAGMENTS AND THEIR BYTES (layer 13), plain mathematics: which are right (fragOk), a fragment's bytes (fragB), the fragment that bytes begin with (fragD); what is put is got, and the other way about; a burst is seen. No condition.
-/
namespace Go.Proofs.YtjlnceldnbpapaaDoor
def noF : FR := ⟨0, 0, []⟩
def fragOk (k : Int) (n : Nat) : Bool := decide (1 ≤ k ∧ k ≤ 4 ∧ n ≤ 197)
theorem fok_parts {k : Int} {n : Nat} (h : fragOk k n = true) : 1 ≤ k ∧ k ≤ 4 ∧ n ≤ 197 := of_decide_eq_true h
/-- the number of n bytes from a on -/
def num (zs : List Int) (a n : Nat) : Int := getI (zs.drop a) n
/-- what stands behind the sum, but for the data -/
def fragK (k e : Int) (n : Nat) : List Int := putL n 2 ++ [k] ++ putL e 4
/-- what stands behind the sum -/
def fragT (k e : Int) (d : List Int) : List Int := fragK k e d.length ++ d
/-- a fragment's sum, masked -/
def fragS (k e : Int) (d : List Int) : Nat := maskS (ofS (fragT k e d))
/-- a fragment's bytes -/
def fragB (k e : Int) (d : List Int) : List Int := putL (fragS k e d) 4 ++ fragT k e d
theorem fragK_length (k e : Int) (n : Nat) : (fragK k e n).length = 7 := by simp [fragK, putL_length]
theorem fragT_length (k e : Int) (d : List Int) : (fragT k e d).length = 7 + d.length := by simp [fragT, fragK_length]
theorem fragB_length (k e : Int) (d : List Int) : (fragB k e d).length = 11 + d.length := by simp [fragB, fragT_length, putL_length]; omega
theorem putL_isB (n : Int) (k : Nat) : isB (putL n k) := (putL_bytes n k).mem
theorem fragK_bytes {k : Int} (hk : 0 ≤ k ∧ k ≤ 255) (e : Int) (n : Nat) : isB (fragK k e n) :=
  isB.append (isB.append (putL_isB _ _) (fun x hx => by simp only [List.mem_cons, List.not_mem_nil, or_false] at hx; subst hx; exact hk)) (putL_isB _ _)
theorem fragT_bytes {k : Int} (hk : 0 ≤ k ∧ k ≤ 255) (e : Int) {d : List Int} (hd : isB d) : isB (fragT k e d) := (fragK_bytes hk e _).append hd
theorem fragB_bytes {k : Int} (hk : 0 ≤ k ∧ k ≤ 255) (e : Int) {d : List Int} (hd : isB d) : isB (fragB k e d) := isB.append (putL_isB _ _) (fragT_bytes hk e hd)
theorem fragS_lt (k e : Int) (d : List Int) : fragS k e d < 4294967296 := maskS_lt _
theorem maskS_inj {a b : Nat} (ha : a < 4294967296) (hb : b < 4294967296) (h : maskS a = maskS b) : a = b := by
  rw [← unmask_mask a ha, h, unmask_mask b hb]
/-- numbers that are read out of bytes -/
theorem getI_take (l : List Int) (m k : Nat) (h : k ≤ m) : getI (l.take m) k = getI l k := by
  induction k with
  | zero => rfl
  | succ k ih =>
    have e : (l.take m).getD k 0 = l.getD k 0 := by simp only [List.getD, List.getElem?_take, show k < m by omega, if_true]
    simp only [getI]; rw [ih (by omega), e]
theorem getI_append (a b : List Int) (k : Nat) (h : k ≤ a.length) : getI (a ++ b) k = getI a k := by
  have := getI_take (a ++ b) a.length k h
  rw [List.take_left] at this
  exact this.symm
theorem num_take (zs : List Int) (m a n : Nat) (h : a + n ≤ m) : num (zs.take m) a n = num zs a n := by
  unfold num; rw [List.drop_take, getI_take _ _ _ (by omega)]
theorem num_bd {zs : List Int} (h : isB zs) (a n : Nat) : 0 ≤ num zs a n ∧ num zs a n < 2 ^ (8 * n) := getI_bd _ (bytes_of_mem (h.drop a)) n
theorem num_put {zs : List Int} (h : isB zs) (a n : Nat) (hl : a + n ≤ zs.length) : putL (num zs a n) n = (zs.drop a).take n := by
  unfold num
  rw [← getI_take (zs.drop a) n n (Nat.le_refl _)]
  exact putL_getI _ (bytes_of_mem ((h.drop a).take n)) n (by simp; omega)
theorem num_one (zs : List Int) (a : Nat) : num zs a 1 = zs.getD a 0 := by simp [num, getI, List.getD]
theorem num_two (zs : List Int) (a : Nat) : num zs a 2 = zs.getD a 0 + 256 * zs.getD (a + 1) 0 := by
  simp [num, getI, List.getD]; omega
/-- the fragment that bytes begin with, how many they are; or why there is none -/
def fragD (zs : List Int) (ep : Int) : FR × Nat × Int :=
  if zs.length < 11 then (noF, 0, 1) else
  if zs.take 11 = List.replicate 11 0 then (noF, 0, 7) else
  if fragOk (num zs 6 1) (num zs 4 2).toNat = false ∨ num zs 7 4 ≠ ep then (noF, 0, 2) else
  if zs.length < 11 + (num zs 4 2).toNat then (noF, 0, 1) else
  if num zs 0 4 ≠ maskS (ofS ((zs.take (11 + (num zs 4 2).toNat)).drop 4)) then (noF, 0, 3) else
  (⟨num zs 6 1, num zs 7 4, (zs.drop 11).take (num zs 4 2).toNat⟩, 11 + (num zs 4 2).toNat, 0)
section
variable {zs : List Int} {ep : Int}
theorem fragD_short (h : zs.length < 11) : fragD zs ep = (noF, 0, 1) := by unfold fragD; rw [if_pos h]
theorem fragD_none (h : ¬ zs.length < 11) (h2 : zs.take 11 = List.replicate 11 0) : fragD zs ep = (noF, 0, 7) := by unfold fragD; rw [if_neg h, if_pos h2]
section
variable (h : ¬ zs.length < 11) (h2 : ¬ zs.take 11 = List.replicate 11 0)
include h h2
theorem fragD_form (h3 : fragOk (num zs 6 1) (num zs 4 2).toNat = false ∨ num zs 7 4 ≠ ep) : fragD zs ep = (noF, 0, 2) := by unfold fragD; rw [if_neg h, if_neg h2, if_pos h3]
variable (h3 : fragOk (num zs 6 1) (num zs 4 2).toNat = true) (h4 : num zs 7 4 = ep)
include h3 h4
theorem fragD_cut (h5 : zs.length < 11 + (num zs 4 2).toNat) : fragD zs ep = (noF, 0, 1) := by
  unfold fragD; rw [if_neg h, if_neg h2, if_neg (by rw [h3]; simp [h4]), if_pos h5]
theorem fragD_sum (h5 : ¬ zs.length < 11 + (num zs 4 2).toNat) (h6 : num zs 0 4 ≠ maskS (ofS ((zs.take (11 + (num zs 4 2).toNat)).drop 4))) : fragD zs ep = (noF, 0, 3) := by
  unfold fragD; rw [if_neg h, if_neg h2, if_neg (by rw [h3]; simp [h4]), if_neg h5, if_pos h6]
theorem fragD_ok (h5 : ¬ zs.length < 11 + (num zs 4 2).toNat) (h6 : num zs 0 4 = maskS (ofS ((zs.take (11 + (num zs 4 2).toNat)).drop 4))) :
    fragD zs ep = (⟨num zs 6 1, num zs 7 4, (zs.drop 11).take (num zs 4 2).toNat⟩, 11 + (num zs 4 2).toNat, 0) := by
  unfold fragD; rw [if_neg h, if_neg h2, if_neg (by rw [h3]; simp [h4]), if_neg h5, if_neg (by simp [h6])]
end
/-- what a fragment that is told is like -/
theorem fragD_parts (h : (fragD zs ep).2.2 = 0) : 11 ≤ zs.length ∧ fragOk (num zs 6 1) (num zs 4 2).toNat = true ∧ num zs 7 4 = ep ∧ 11 + (num zs 4 2).toNat ≤ zs.length ∧ num zs 0 4 = maskS (ofS ((zs.take (11 + (num zs 4 2).toNat)).drop 4)) := by
  by_cases h1 : zs.length < 11
  · rw [fragD_short h1] at h; exact absurd h (by decide)
  by_cases h2 : zs.take 11 = List.replicate 11 0
  · rw [fragD_none h1 h2] at h; exact absurd h (by decide)
  by_cases h3 : fragOk (num zs 6 1) (num zs 4 2).toNat = false ∨ num zs 7 4 ≠ ep
  · rw [fragD_form h1 h2 h3] at h; exact absurd h (by decide)
  have h3a : fragOk (num zs 6 1) (num zs 4 2).toNat = true := by cases hq : fragOk (num zs 6 1) (num zs 4 2).toNat <;> simp_all
  have h3b : num zs 7 4 = ep := by by_cases hq : num zs 7 4 = ep; exact hq; exact absurd (Or.inr hq) h3
  by_cases h5 : zs.length < 11 + (num zs 4 2).toNat
  · rw [fragD_cut h1 h2 h3a h3b h5] at h; exact absurd h (by decide)
  by_cases h6 : num zs 0 4 = maskS (ofS ((zs.take (11 + (num zs 4 2).toNat)).drop 4))
  · exact ⟨by omega, h3a, h3b, by omega, h6⟩
  · rw [fragD_sum h1 h2 h3a h3b h5 h6] at h; exact absurd h (by decide)
/-- .. and what an error leaves -/
theorem fragD_err (h : (fragD zs ep).2.2 ≠ 0) : fragD zs ep = (noF, 0, (fragD zs ep).2.2) := by
  by_cases h1 : zs.length < 11
  · rw [fragD_short h1]
  by_cases h2 : zs.take 11 = List.replicate 11 0
  · rw [fragD_none h1 h2]
  by_cases h3 : fragOk (num zs 6 1) (num zs 4 2).toNat = false ∨ num zs 7 4 ≠ ep
  · rw [fragD_form h1 h2 h3]
  have h3a : fragOk (num zs 6 1) (num zs 4 2).toNat = true := by cases hq : fragOk (num zs 6 1) (num zs 4 2).toNat <;> simp_all
  have h3b : num zs 7 4 = ep := by by_cases hq : num zs 7 4 = ep; exact hq; exact absurd (Or.inr hq) h3
  by_cases h5 : zs.length < 11 + (num zs 4 2).toNat
  · rw [fragD_cut h1 h2 h3a h3b h5]
  by_cases h6 : num zs 0 4 = maskS (ofS ((zs.take (11 + (num zs 4 2).toNat)).drop 4))
  · rw [fragD_ok h1 h2 h3a h3b h5 h6] at h; exact absurd rfl h
  · rw [fragD_sum h1 h2 h3a h3b h5 h6]
theorem fragD_data (hb : isB zs) : isB (fragD zs ep).1.data := by
  by_cases h : (fragD zs ep).2.2 = 0
  · obtain ⟨h1, h2, h3, h4, h5⟩ := fragD_parts h
    unfold fragD
    split
    · exact isB.nil
    · split
      · exact isB.nil
      · split
        · exact isB.nil
        · split
          · exact isB.nil
          · split
            · exact isB.nil
            · exact (hb.drop _).take _
  · rw [fragD_err h]; exact isB.nil
end
/-- all bytes but the data, out of the numbers that they tell -/
theorem head_back (zs : List Int) (hb : isB zs) (hl : 11 ≤ zs.length) : fragK (num zs 6 1) (num zs 7 4) (num zs 4 2).toNat = (zs.take 11).drop 4 := by
  have h2 := num_bd hb 4 2
  have e : (((num zs 4 2).toNat : Nat) : Int) = num zs 4 2 := by omega
  unfold fragK
  rw [e, num_put hb 4 2 (by omega), num_put hb 7 4 (by omega), num_one]
  match zs, hl with
  | a0 :: a1 :: a2 :: a3 :: a4 :: a5 :: a6 :: a7 :: a8 :: a9 :: a10 :: r, _ => simp
/-- what is got is put by the same bytes -/
theorem tail_back (zs : List Int) (hb : isB zs) (h4 : 11 + (num zs 4 2).toNat ≤ zs.length) :
    fragT (num zs 6 1) (num zs 7 4) ((zs.drop 11).take (num zs 4 2).toNat) = (zs.take (11 + (num zs 4 2).toNat)).drop 4 := by
  unfold fragT
  rw [show ((zs.drop 11).take (num zs 4 2).toNat).length = (num zs 4 2).toNat from by simp; omega, head_back zs hb (by omega), List.take_add, List.drop_append_of_le_length (by simp; omega)]
theorem frag_back {zs : List Int} {ep : Int} (hb : isB zs) (h : (fragD zs ep).2.2 = 0) :
    fragOk (fragD zs ep).1.kind (fragD zs ep).1.data.length = true ∧ (fragD zs ep).1.epoch = ep ∧ (fragD zs ep).2.1 ≤ zs.length ∧ (fragD zs ep).2.1 = 11 + (fragD zs ep).1.data.length ∧ fragB (fragD zs ep).1.kind (fragD zs ep).1.epoch (fragD zs ep).1.data = zs.take (fragD zs ep).2.1 := by
  obtain ⟨h1, h2, h3, h4, h5⟩ := fragD_parts h
  have hn : ¬ zs.take 11 = List.replicate 11 0 := by
    intro hz
    have := fok_parts h2
    rw [num_one] at this
    have e : (zs.take 11).getD 6 0 = zs.getD 6 0 := by simp only [List.getD, List.getElem?_take]; rfl
    rw [hz] at e
    have : zs.getD 6 0 = 0 := by rw [← e]; rfl
    omega
  rw [fragD_ok (by omega) hn h2 h3 (by omega) h5]
  simp only
  have hlen : ((zs.drop 11).take (num zs 4 2).toNat).length = (num zs 4 2).toNat := by simp; omega
  refine ⟨by rw [hlen]; exact h2, h3, h4, by rw [hlen], ?_⟩
  have ht := tail_back zs hb h4
  unfold fragB fragS
  rw [ht, ← h5, num_put hb 0 4 (by omega)]
  have e : (zs.drop 0).take 4 = (zs.take (11 + (num zs 4 2).toNat)).take 4 := by rw [List.drop_zero, List.take_take, Nat.min_eq_left (by omega)]
  rw [e, List.take_append_drop]
/-- the numbers of a fragment's bytes -/
theorem frag_nums (k e : Int) (d r : List Int) (hn : d.length ≤ 65535) (he : 0 ≤ e ∧ e < 4294967296) :
    num (fragB k e d ++ r) 0 4 = fragS k e d ∧ num (fragB k e d ++ r) 4 2 = d.length ∧ num (fragB k e d ++ r) 6 1 = k ∧ num (fragB k e d ++ r) 7 4 = e := by
  have hs := fragS_lt k e d
  have p4 : (fragB k e d ++ r).drop 4 = putL d.length 2 ++ ([k] ++ (putL e 4 ++ (d ++ r))) := by
    unfold fragB
    rw [List.append_assoc, List.drop_left' (by rw [putL_length])]
    unfold fragT fragK
    simp
  have p6 : (fragB k e d ++ r).drop 6 = [k] ++ (putL e 4 ++ (d ++ r)) := by
    rw [show 6 = 4 + 2 from rfl, ← List.drop_drop, p4, List.drop_left' (by rw [putL_length])]
  have p7 : (fragB k e d ++ r).drop 7 = putL e 4 ++ (d ++ r) := by
    rw [show 7 = 6 + 1 from rfl, ← List.drop_drop, p6]; rfl
  unfold num
  refine ⟨?_, ?_, ?_, ?_⟩
  · rw [List.drop_zero]
    unfold fragB
    rw [List.append_assoc, getI_append _ _ _ (by rw [putL_length]; omega), getI_put _ _ _ (Nat.le_refl _)]
    omega
  · rw [p4, getI_append _ _ _ (by rw [putL_length]; omega), getI_put _ _ _ (Nat.le_refl _)]; omega
  · rw [p6]; simp [getI]
  · rw [p7, getI_append _ _ _ (by rw [putL_length]; omega), getI_put _ _ _ (Nat.le_refl _)]; omega
theorem frag_head (k e : Int) (d r : List Int) (hk : 1 ≤ k) (hn : d.length ≤ 65535) (he : 0 ≤ e ∧ e < 4294967296) : ¬ (fragB k e d ++ r).take 11 = List.replicate 11 0 := by
  intro hz
  obtain ⟨_, _, h, _⟩ := frag_nums k e d r hn he
  rw [num_one] at h
  have e : ((fragB k e d ++ r).take 11).getD 6 0 = (fragB k e d ++ r).getD 6 0 := by simp only [List.getD, List.getElem?_take]; rfl
  rw [hz, h] at e
  have : (0 : Int) = k := e
  omega
/-- what is put is got by its own epoch .. -/
theorem frag_got {k e : Int} {d : List Int} (r : List Int) (h : fragOk k d.length = true) (he : 0 ≤ e ∧ e < 4294967296) : fragD (fragB k e d ++ r) e = (⟨k, e, d⟩, 11 + d.length, 0) := by
  have hp := fok_parts h
  obtain ⟨n0, n4, n6, n7⟩ := frag_nums k e d r (by omega) he
  have hl := fragB_length k e d
  have hn : (num (fragB k e d ++ r) 4 2).toNat = d.length := by omega
  have htk : (fragB k e d ++ r).take (11 + d.length) = fragB k e d := List.take_left' hl
  have h5 : num (fragB k e d ++ r) 0 4 = maskS (ofS (((fragB k e d ++ r).take (11 + (num (fragB k e d ++ r) 4 2).toNat)).drop 4)) := by
    rw [hn, htk, n0]
    unfold fragB fragS
    rw [List.drop_left' (by rw [putL_length])]
  rw [fragD_ok (by simp; omega) (frag_head k e d r hp.1 (by omega) he) (by rw [n6, hn]; exact h) n7 (by rw [hn]; simp; omega) h5, n6, n7, hn]
  have hd : ((fragB k e d ++ r).drop 11).take d.length = d := by
    have : (fragB k e d).drop 11 = d := by
      unfold fragB fragT
      rw [← List.append_assoc, List.drop_left' (by simp [putL_length, fragK_length])]
    rw [List.drop_append_of_le_length (by omega), this, List.take_left]
  rw [hd]
/-- .. and by no other one -/
theorem frag_other {k e : Int} {d : List Int} (r : List Int) (h : fragOk k d.length = true) (he : 0 ≤ e ∧ e < 4294967296) {ep : Int} (hne : ep ≠ e) : fragD (fragB k e d ++ r) ep = (noF, 0, 2) := by
  have hp := fok_parts h
  obtain ⟨n0, n4, n6, n7⟩ := frag_nums k e d r (by omega) he
  have hl := fragB_length k e d
  exact fragD_form (by simp; omega) (frag_head k e d r hp.1 (by omega) he) (Or.inr (by rw [n7]; exact fun q => hne q.symm))
/-- what lies ahead of a change stays -/
theorem pat_take (zs ws : List Int) (at_ k m : Nat) (h : m ≤ at_) : (pat zs ws at_ k).take m = zs.take m := by
  induction k with
  | zero => rfl
  | succ k ih => rw [pat, List.take_set_of_le (by omega)]; exact ih
theorem pat_drop (zs ws : List Int) (at_ k m : Nat) (h : m ≤ at_) : (pat zs ws at_ k).drop m = pat (zs.drop m) ws (at_ - m) k := by
  induction k with
  | zero => rfl
  | succ k ih => rw [pat, List.drop_set, if_neg (by omega), ih, pat, show at_ - m + k = at_ + k - m from by omega]
/-- a burst is seen -/
theorem frag_burst {k e : Int} {d : List Int} (h : fragOk k d.length = true) (he : 0 ≤ e ∧ e < 4294967296) (hd : isB d) (ws : List Int) (hw : isB ws) (at_ j : Nat) (ha : 6 ≤ at_) (hj : at_ + j ≤ 11 + d.length) (hjw : j ≤ ws.length) (h4 : j ≤ 4)
    {ep : Int} (hg : (fragD (pat (fragB k e d) ws at_ j) ep).2.2 = 0) : pat (fragB k e d) ws at_ j = fragB k e d := by
  have hp := fok_parts h
  have hl := fragB_length k e d
  have hbb := fragB_bytes (k := k) (by omega) e hd
  obtain ⟨z, hz⟩ : ∃ z, fragB k e d = z := ⟨_, rfl⟩
  obtain ⟨n0, n4, _, _⟩ := frag_nums k e d [] (by omega) he
  have hS : fragS k e d = maskS (ofS (z.drop 4)) := by
    rw [← hz]; unfold fragB fragS; rw [List.drop_left' (by rw [putL_length])]
  rw [List.append_nil, hz] at n0 n4
  rw [hz] at hl hg hbb ⊢
  obtain ⟨h1, h2, h3, h5, h6⟩ := fragD_parts hg
  have ht6 : (pat z ws at_ j).take 6 = z.take 6 := pat_take z ws at_ j 6 ha
  have m0 : num (pat z ws at_ j) 0 4 = num z 0 4 := by rw [← num_take _ 6 0 4 (by omega), ht6, num_take _ 6 0 4 (by omega)]
  have m4 : num (pat z ws at_ j) 4 2 = num z 4 2 := by rw [← num_take _ 6 4 2 (by omega), ht6, num_take _ 6 4 2 (by omega)]
  rw [m0, m4, n0, n4, Int.toNat_natCast] at h6
  rw [List.take_of_length_le (by rw [pat_length]; omega), hS] at h6
  have h7 := maskS_inj (ofS_lt _) (ofS_lt _) (Int.ofNat.inj h6)
  rw [pat_drop z ws at_ j 4 (by omega)] at h7
  have h8 := pat_of (z.drop 4) ws (at_ - 4) j (by simp; omega) hjw h4 (hbb.drop 4) hw h7.symm
  rw [← pat_drop z ws at_ j 4 (by omega)] at h8
  have ht4 := pat_take z ws at_ j 4 (by omega)
  rw [← List.take_append_drop 4 (pat z ws at_ j), ht4, h8, List.take_append_drop]
theorem awake_frag : (fragB 1 7 [120]).length = 12 := by rw [fragB_length]; rfl
end Go.Proofs.YtjlnceldnbpapaaDoor
/-
  WHAT THE DOCUMENT'S ANSWERS OF LAYER 13 (frag) ANSWER: the reference's Bytes. No condition of ours but bounds that the statements themselves have.
-/
namespace Go.Proofs.YtjlnceldnbpapaaDoor
open Go.RowKit
/-- the reference's Put, as a row of the call's own -/
theorem rput_own (x : Int) (n : Nat) (hx : U64 x) (hn : n ≤ 8) (w : World) :
    Calls Tryd.prog 35 #[.int .u64 x, .int .i64 n] w fun e w' => ∃ a c, e = .returned (.slice a n c) ∧ w'.ownsRow w.heap.size 5 1 (.slice a n c) n (il .u8 (putL x n)) ∧ Below w.heap.size w w' :=
  (rput_any x n n hx (by unfold I63; omega) (by unfold clampI; omega) w).mono fun _ _ ⟨v, he, ho, hb⟩ => by
    obtain ⟨a, c, rfl⟩ := own_form ho
    exact ⟨a, c, he, ho, hb⟩
theorem u8_fit {k : Int} (h0 : 0 ≤ k) (h1 : k ≤ 255) : IntKind.u8.wrap k = k := by simp [IntKind.wrap, IntKind.signed, IntKind.bits]; omega
set_option maxRecDepth 8000 in
set_option maxHeartbeats 2000000 in
theorem rfbytes_any (k e : Int) (v : Value) (n : Nat) (d : List Int) (w : World) (hr : fragOk k n = true) (he : 0 ≤ e ∧ e ≤ 4294967295) (hri : RI .u8 w v n d) (hbd : isB d) :
    Calls Tryd.prog 23 #[.agg (fA k e v)] w fun r w' => ∃ a c, r = .returned (.slice a (11 + n) c) ∧ w'.ownsRow w.heap.size 5 1 (.slice a (11 + n) c) (11 + n) (il .u8 (fragB k e d)) ∧ Below w.heap.size w w' := by
  have hp := fok_parts hr
  have hd := hri.length
  obtain ⟨he0, he1⟩ := he
  have hwk := u8_fit (k := k) (by omega) (by omega)
  obtain ⟨o, ho⟩ : ∃ o, ofS (fragT k e d) = o := ⟨_, rfl⟩
  obtain ⟨m, hm⟩ : ∃ m, maskS o = m := ⟨_, rfl⟩
  have hm9 : m < 4294967296 := by rw [← hm]; exact maskS_lt o
  have HO := Lib.hid ho
  have HOL : Hid (o < 4294967296) := Lib.hid (by rw [← ho]; exact ofS_lt _)
  have HM := Lib.hid hm
  have HFB : Hid (putL m 4 ++ fragT k e d = fragB k e d ∧ (fragB k e d).length = 11 + n) := Lib.hid ⟨by unfold fragB fragS; rw [ho, hm], by rw [fragB_length, hd]⟩
  have HT : Hid (putL n 2 ++ [k] ++ putL e 4 ++ d = fragT k e d ∧ (fragT k e d).length = 7 + n) := Lib.hid ⟨by unfold fragT fragK; rw [hd], by rw [fragT_length, hd]⟩
  have HTB : Hid (∀ x ∈ fragT k e d, 0 ≤ x ∧ x ≤ 255) := Lib.hid (fragT_bytes (by omega) e hbd)
  have HP1 : Hid (∀ w, Calls Tryd.prog 35 #[.int .u64 n, .int .i64 2] w fun e w' => ∃ a c, e = .returned (.slice a 2 c) ∧ w'.ownsRow w.heap.size 5 1 (.slice a 2 c) 2 (il .u8 (putL n 2)) ∧ Below w.heap.size w w') := Lib.hid (rput_own n 2 (by unfold U64; omega) (by omega))
  have HP2 : Hid (∀ w, Calls Tryd.prog 35 #[.int .u64 e, .int .i64 4] w fun e' w' => ∃ a c, e' = .returned (.slice a 4 c) ∧ w'.ownsRow w.heap.size 5 1 (.slice a 4 c) 4 (il .u8 (putL e 4)) ∧ Below w.heap.size w w') := Lib.hid (rput_own e 4 (by unfold U64; omega) (by omega))
  have HP3 : Hid (∀ w, Calls Tryd.prog 35 #[.int .u64 m, .int .i64 4] w fun e' w' => ∃ a c, e' = .returned (.slice a 4 c) ∧ w'.ownsRow w.heap.size 5 1 (.slice a 4 c) 4 (il .u8 (putL m 4)) ∧ Below w.heap.size w w') := Lib.hid (rput_own m 4 (by unfold U64; omega) (by omega))
  obtain ⟨w0, hw0⟩ : ∃ q, w.alloc (.cells (fA k e v) 63) = q := ⟨_, rfl⟩
  have HA : Hid (FO w0 w.heap.size k e v) := Lib.hid (by rw [← hw0]; exact FO.alloc w)
  have HB : Hid (Below w.heap.size w w0) := Lib.hid (by rw [← hw0]; exact balloc w _)
  have HR := Lib.hid (hri.keep HB.out)
  have HN : Hid (n ≤ 197) := Lib.hid hp.2.2
  obtain ⟨a, cap, rfl⟩ : ∃ a cap, v = .slice a n cap := by obtain ⟨a, c, e, _⟩ := hri; exact ⟨a, c, e⟩
  obtain ⟨z0, z1, z2⟩ := HA.out.cells
  have hn9 : (n : Int) ≤ 197 := by omega
  have hm8 : (m : Int) ≤ 4294967295 := by omega
  clear hr hri hp hd ho hm hm9 hbd
  go_enter Tryd.func23, Tryd.ntmps23
  go_wp2_with (first
    | (go_at_call 35; (with_reducible refine (HP1.out _).mono ?_); rintro r w1 ⟨a1, c1, rfl, ho1, hb1⟩; have HO1 := Lib.hid ho1; have HB1 := Lib.hid hb1; obtain ⟨x0, x1, x2⟩ := (HA.out.keep hb1).cells; clear ho1 hb1)
    | (at_builtin; refine wpl_appn rfl (.tmp 29) (.tmp 30) 26 rfl 5 .u8 1 Tryd.underlying26 Tryd.info_u8 w5.heap.size _ 4 (putL m 4) rfl HO6 _ (7 + n) (fragT k e d) rfl ((RI.own HO5F.out).keep HB6.out) (by have := HN.out; omega) (by have := HN.out; omega) w5.heap.size w5 HB6 (Nat.le_refl _) HB6.out.size ?_; intro v7 w7 HO7 HB7)
    | (at_builtin; refine wpl_appn rfl (.tmp 21) (.tmp 23) 26 rfl 5 .u8 1 Tryd.underlying26 Tryd.info_u8 w0.heap.size _ (2 + 1 + 4) (putL n 2 ++ [k] ++ putL e 4) rfl HO4 _ n d rfl (HR.out.keep HB4.out) (by have := HN.out; omega) (by have := HN.out; omega) w0.heap.size w0 HB4 (Nat.le_refl _) HB4.out.size ?_; intro v5 w5 HO5 HB5; have HO5F := Lib.hid (own_fin HO5.out HT.out.1 HT.out.2))
    | (at_builtin; refine wpl_appn rfl (.tmp 15) (.tmp 19) 26 rfl 5 .u8 1 Tryd.underlying26 Tryd.info_u8 w0.heap.size _ (2 + 1) (putL n 2 ++ [k]) rfl HO2K _ 4 (putL e 4) rfl (RI.own HO3.out) (by omega) (by omega) w0.heap.size w0 HB3 (Nat.le_refl _) HB3.out.size ?_; intro v4 w4 HO4 HB4; obtain ⟨q0, q1, q2⟩ := (HA.out.keep HB4.out).cells)
    | (at_builtin; refine wpl_app1 rfl (.tmp 9) (.tmp 13) 26 rfl 5 .u8 1 Tryd.underlying26 Tryd.info_u8 w0.heap.size _ 2 (putL n 2) rfl (Lib.hid (HO1.out.alloc _)) ⟨w1.heap.size, 0, none⟩ k rfl (alloc_cell w1 _ _) (by omega) (by omega) w0.heap.size w0 (Lib.hid (bch HB1.out (balloc _ _))) (Nat.le_refl _) (by have := HB1.out.size; simp; omega) ?_; intro v2 w2 HO2 HB2; obtain ⟨y0, y1, y2⟩ := (HA.out.keep HB2.out).cells)
    | (go_at_call 35; (with_reducible refine (HP2.out _).mono ?_); rintro r w3 ⟨a3, c3, rfl, ho3, hb3⟩; have HO2K := Lib.hid (own_keep HO2.out hb3); have HO3 := Lib.hid ho3; have HB3 := Lib.hid (bch HB2.out hb3); clear ho3 hb3)
    | (go_at_call 37; (with_reducible refine (rof_any (RI.own HO5F.out) HTB.out HO.out).mono ?_); rintro e w' ⟨rfl, rfl⟩)
    | (go_at_call 36; (with_reducible refine (rmask_at o m HOL.out HM.out _).mono ?_); rintro e w' ⟨rfl, rfl⟩)
    | (go_at_call 35; (with_reducible refine (HP3.out _).mono ?_); rintro r w6 ⟨a6, c6, rfl, ho6, hb6⟩; have HO6 := Lib.hid ho6; have HB6 := Lib.hid hb6; clear ho6 hb6))
  go_ret
  have h7 := own_fin HO7.out HFB.out.1 HFB.out.2
  obtain ⟨a7, c7, rfl⟩ := own_form h7
  have hb5 := bch HB.out HB5.out
  exact ⟨a7, c7, rfl, own_mono h7 hb5.size, bch hb5 HB7.out⟩
end Go.Proofs.YtjlnceldnbpapaaDoor
/-
  A FRAGMENT'S HEAD, an array of eleven bytes in a block of its own, and WHAT THE PROGRAM'S METHODS ON IT ANSWER (cut, get, put, sumWith). The table of half a byte's steps must lie in its block as start-up lays it.
-/
namespace Go.Proofs.YtjlnceldnbpapaaDoor
open Go.RowKit
/-- bytes as an array's value -/
def av (zs : List Int) : Array Value := (il .u8 zs).toArray
theorem av_size (zs : List Int) : (av zs).size = zs.length := by simp [av, il_length]
theorem av_one (zs : List Int) : (av zs).all (·.oneCell') = true := all_oneCell_toArray (il_one _ _)
theorem av_get (zs : List Int) (j : Nat) (h : j < zs.length) : (av zs)[j]? = some (.int .u8 (zs.getD j 0)) := by
  have := il_get .u8 zs j h
  simpa [av] using this
def z11 : List Int := List.replicate 11 0
theorem z11_length : z11.length = 11 := by simp [z11]
theorem z11_cells : av z11 = #[.int .u8 0, .int .u8 0, .int .u8 0, .int .u8 0, .int .u8 0, .int .u8 0, .int .u8 0, .int .u8 0, .int .u8 0, .int .u8 0, .int .u8 0] := rfl
theorem hd_info (c : Array Value) (h : c.size = 11) : (Tryd.prog.info? 83).map (·.size) = some c.size := by rw [h]; kernel_rfl
theorem av_info (zs : List Int) (h : zs.length = 11) : (Tryd.prog.info? 83).map (·.size) = some (av zs).size := hd_info _ (by rw [av_size, h])
/-- a block that holds a head -/
def HD (w : World) (b : Nat) (zs : List Int) : Prop := w.heap[b]? = some (.cells (av zs) 83 (0, 0)) ∧ zs.length = 11
theorem HD.lt {w : World} {b : Nat} {c : List Int} (h : HD w b c) : b < w.heap.size := (Array.getElem?_eq_some_iff.1 h.1).1
theorem HD.keep {w w' : World} {b : Nat} {c : List Int} (h : HD w b c) (hb : Below w.heap.size w w') : HD w' b c := ⟨by rw [hb.block b h.lt]; exact h.1, h.2⟩
theorem HD.cell {w : World} {b : Nat} {c : List Int} (h : HD w b c) (j : Nat) (hj : j < 11) : w.cell? ⟨b, j, none⟩ = some (.int .u8 (c.getD j 0)) := by
  rw [Joins.cell_of_block h.1 j, av_get _ _ (by rw [h.2]; exact hj)]
theorem HD.row {w : World} {b : Nat} {c c' : List Int} (h : HD w b c) (hc : c'.length = 11) : HD (w.setRow b (av c')) b c' := ⟨setRow_heap w b (av c) (av c') _ _ h.1, hc⟩
theorem HD.new (w : World) (zs : List Int) (h : zs.length = 11) : HD (w.alloc (.cells (av zs) 83)) w.heap.size zs := ⟨heap_alloc_last w _, h⟩
/-- a part of a head, as a slice of bytes -/
theorem HD.ri {w : World} {g : Nat} {l : List Int} (h : HD w g l) (m d : Nat) (hm : m + d ≤ 11) : RI .u8 w (.slice (some ⟨g, m, none⟩) d d) d ((l.drop m).take d) := by
  refine ⟨_, d, rfl, by simp [h.2]; omega, Nat.le_refl _, by omega, fun h => by simp at h, fun _ => ⟨g, m, rfl, fun j hj => ?_⟩⟩
  rw [h.cell (m + j) (by omega)]
  simp only [List.getD, List.getElem?_take, hj, if_true, List.getElem?_drop]
theorem run_items11 {w : World} (a b : List Int) (ha : a.length = 11) (hb : b.length = 11) : ∀ is : List Nat, (∀ i ∈ is, i < 11) →
    (Op.eqItems 9999 5 1 (av a) (av b) is).run Tryd.prog w = .ok (is.all fun i => a.getD i 0 == b.getD i 0) w
  | [], _ => by simp [Op.eqItems]
  | i :: is, h => by
    have hi : i < 11 := h i (by simp)
    have p1 := run_part_plain (P := Tryd.prog) (w := w) (e := 5) (by kernel_rfl) (xs := av a) (off := i * 1) (v := .int .u8 (a.getD i 0)) (by rw [Nat.mul_one]; exact av_get a i (by omega))
    have p2 := run_part_plain (P := Tryd.prog) (w := w) (e := 5) (by kernel_rfl) (xs := av b) (off := i * 1) (v := .int .u8 (b.getD i 0)) (by rw [Nat.mul_one]; exact av_get b i (by omega))
    have p3 := run_equalIn_int (P := Tryd.prog) w 9998 5 .u8 .u8 (a.getD i 0) (b.getD i 0) Tryd.underlying5
    have p4 := run_items11 (w := w) a b ha hb is (fun j hj => h j (List.mem_cons_of_mem _ hj))
    simp only [Op.eqItems, Sem.run_bind, p1, p2, Result.andThen_ok, List.all_cons]
    rw [p3]
    simp only [Result.andThen_ok]
    cases hc : (a.getD i 0 == b.getD i 0)
    · simp
    · simpa using p4
theorem run_eq_head (a b : List Int) (ha : a.length = 11) (hb : b.length = 11) (w : World) : (Op.equalIn 10000 83 (.agg (av a)) (.agg (av b))).run Tryd.prog w = .ok (decide (a = b)) w := by
  obtain ⟨i, hi⟩ : ∃ i, Tryd.prog.info? 5 = some i := info_of_underlying Tryd.underlying5
  have hc : Tryd.prog.cellsOf 5 = 1 := by kernel_rfl
  have h1 := run_equalIn_array w (P := Tryd.prog) 9999 (av a) (av b) Tryd.underlying83 hi
  rw [hc, run_items11 a b ha hb _ (fun i hi => List.mem_range.1 hi)] at h1
  rw [h1]
  refine congrArg (fun x => Result.ok x w) ?_
  rw [Bool.eq_iff_iff, List.all_eq_true, decide_eq_true_eq]
  constructor
  · intro h
    refine List.ext_getElem (by omega) fun j h1 h2 => ?_
    have := h j (List.mem_range.2 (by omega))
    simpa [List.getD, h1, h2] using this
  · rintro rfl j _
    simp
set_option maxRecDepth 20000 in
theorem und_head : Tryd.prog.underlying 83 = some (.array (Tryd.prog.arrayLen 83) (Tryd.prog.elem 83)) := by rw [Tryd.underlying83]; rfl
set_option maxRecDepth 20000 in
theorem hd_cell1 {w : World} : (sizeOf (Tryd.prog.elem 83)).run Tryd.prog w = .ok 1 w := by
  have he : Tryd.prog.elem 83 = 5 := rfl
  obtain ⟨i, hi, _, hz1, _⟩ := info_parts Tryd.info_u8
  simp [sizeOf, typeInfo, he, hi, hz1]
set_option maxRecDepth 8000 in
set_option maxHeartbeats 1000000 in
theorem hcut_any (b f n t : Nat) (ht : f + n = t) (h1 : t ≤ 11) (h0 : 0 < n) (w : World) :
    Calls Tryd.prog 42 #[.pointer (some ⟨b, 0, none⟩), .int .i64 f, .int .i64 t] w fun e w' => e = .returned (.slice (some ⟨b, f, none⟩) n n) ∧ w = w' := by
  have hf : (f : Int) ≤ (t : Int) := by omega
  have ht1 : (t : Int) ≤ 11 := by omega
  have hne : ¬ t = f := by omega
  have hs : t - f = n := by omega
  clear ht h1 h0
  go_enter Tryd.func42, Tryd.ntmps42
  go_wp2
  go_ret
  exact ⟨by rfl, rfl⟩
theorem hd_size1 : (Tryd.prog.info? 5).map (·.size) = some 1 := by kernel_rfl
theorem hd_splice (k : IntKind) (l cs : List Int) (off : Nat) : splice (il k l) off (il k cs) = il k (splice l off cs) := by simp [splice, il]
/-- copy into a head -/
theorem wpl_copy_head {ops : Array Oper} {rest : List Oper} {o : Oper} {a : Act} {w : World} {Q : Exit → Act → World → Prop} (hgd : o.guard = none) (d s : Operand)
    (ho : o.op = .call { callee := .builtin .copy, args := #[d, s], argTypes := #[26, 26] }) (g off m : Nat) (l : List Int) (hblk : HD w g l)
    (hd : a.eval d = .slice (some ⟨g, off, none⟩) m m) (v : Value) (zs : List Int) (hs : a.eval s = v) (hri : RI .u8 w v m zs) (hfit : off + m ≤ 11)
    (h : ∀ w', Hid (HD w' g (splice l off zs)) → Hid (Below g w w') → wpList Tryd.prog ops Q rest (a.put o.dst (goInt (m : Int))) w') : wpList Tryd.prog ops Q (o :: rest) a w := by
  refine wpList_plain hgd fun K hK => ?_
  obtain ⟨sp, sCap, rfl, hl, _, _, _, hc⟩ := hri
  have hcl : (il .u8 zs).length = min m m := by rw [il_length, Nat.min_self]; exact hl
  have h1 := step_copy_splice (ops := ops) (K := K) (Q := Q) (E := True) hgd d s 26 26 ho 5 Tryd.underlying26 hd_size1 (some ⟨g, off, none⟩) sp m m m sCap hd hs g off (il .u8 l) 83 hblk.1 (il .u8 zs) hcl ?_ (by rw [hcl, il_length, hblk.2]; omega) (il_one _ _) g w (Below.refl _ _) (Nat.le_refl _) ?_
  · rwa [if_pos (by simp [Region.wanted, hgd])] at h1
  · intro hp
    rw [hcl] at hp
    obtain ⟨b, of2, rfl, hcell⟩ := hc (by omega)
    refine ⟨rfl, _, rfl, fun j u hj => ?_⟩
    have hjl : j < zs.length := by have := (List.getElem?_eq_some_iff.1 hj).1; rwa [il_length] at this
    rw [il_get _ _ _ hjl] at hj
    have h2 := hcell j (by omega)
    rw [← hj]
    by_cases h0 : j = 0
    · subst h0; simpa [Addr.add] using h2
    · simpa [Addr.add, h0] using h2
  · intro w' hg hb
    have e : goInt (il .u8 zs).length = goInt (m : Int) := by rw [hcl, Nat.min_self]
    rw [e]
    refine hK _ _ (h w' ⟨?_, by rw [length_splice _ _ _ (by rw [hblk.2]; omega)]; exact hblk.2⟩ hb)
    have := hg.out
    rwa [hd_splice] at this
theorem more_of (a b : List Int) (ha : isB a) : moreS (ofS a) b = ofS (a ++ b) := by
  have h := reg_lt a ha 4294967295 (by omega)
  unfold ofS moreS
  rw [reg_append, show 4294967295 - (4294967295 - reg (4294967295 - 0) a) = reg (4294967295 - 0) a from by simp only [Nat.sub_zero]; omega]
theorem hsum_any (b : Nat) {w : World} {zs : List Int} (hT : Tab w) (hh : HD w b zs) (hb : isB zs) {v : Value} {n : Nat} {d : List Int} (hr : RI .u8 w v n d) (hd : isB d) {m : Nat} (hm : maskS (ofS (zs.drop 4 ++ d)) = m) :
    Calls Tryd.prog 41 #[.pointer (some ⟨b, 0, none⟩), v] w fun e w' => e = .returned (.int .u64 m) ∧ w = w' := by
  have hh4 := hh.ri 4 7 (by omega)
  rw [List.take_of_length_le (by simp [hh.2])] at hh4
  obtain ⟨o, ho⟩ : ∃ o, ofS (zs.drop 4) = o := ⟨_, rfl⟩
  obtain ⟨q, hq⟩ : ∃ q, moreS o d = q := ⟨_, rfl⟩
  have hq2 : ofS (zs.drop 4 ++ d) = q := by rw [← more_of _ _ (hb.drop 4), ho, hq]
  rw [hq2] at hm
  have HC : Hid (∀ w, Calls Tryd.prog 42 #[.pointer (some ⟨b, 0, none⟩), .int .i64 4, .int .i64 11] w fun e w' => e = .returned (.slice (some ⟨b, 4, none⟩) 7 7) ∧ w = w') := Lib.hid (hcut_any b 4 7 11 rfl (by omega) (by omega))
  have HO : Hid (Calls Tryd.prog 57 #[.slice (some ⟨b, 4, none⟩) 7 7] w fun e w' => e = .returned (.int .u32 o) ∧ w = w') := Lib.hid (of_any hT hh4 (hb.drop 4) ho)
  have HM : Hid (Calls Tryd.prog 56 #[.int .u32 o, v] w fun e w' => e = .returned (.int .u32 q) ∧ w = w') := Lib.hid (more_any (by rw [← ho]; exact ofS_lt _) hT hr hd hq)
  have HK : Hid (∀ w, Calls Tryd.prog 58 #[.int .u32 q] w fun e w' => e = .returned (.int .u32 m) ∧ w = w') := Lib.hid fun w => mask_any q m (by rw [← hq]; exact moreS_lt _ _) hm w
  have hm9 : (m : Int) ≤ 4294967295 := by have := maskS_lt q; omega
  clear hT hh hb hr hd hm hh4 ho hq hq2
  go_enter Tryd.func41, Tryd.ntmps41
  go_wp2_with (first
    | (go_at_call 42; (with_reducible refine (HC.out _).mono ?_); rintro e w' ⟨rfl, rfl⟩)
    | (go_at_call 57; (with_reducible refine (HO.out).mono ?_); rintro e w' ⟨rfl, rfl⟩)
    | (go_at_call 56; (with_reducible refine (HM.out).mono ?_); rintro e w' ⟨rfl, rfl⟩)
    | (go_at_call 58; (with_reducible refine (HK.out _).mono ?_); rintro e w' ⟨rfl, rfl⟩))
  go_ret
  exact ⟨rfl, rfl⟩
theorem hput_any (b f n t : Nat) (ht : f + n = t) (h1 : t ≤ 11) (h0 : 0 < n) (h8 : n ≤ 8) (x : Int) {w : World} {zs : List Int} (hh : HD w b zs) :
    Calls Tryd.prog 40 #[.pointer (some ⟨b, 0, none⟩), .int .i64 f, .int .i64 t, .int .u64 x] w fun e w' => e = .returned (.tuple #[]) ∧ HD w' b (splice zs f (putL x n)) ∧ Below b w w' := by
  have HC := Lib.hid (hcut_any b f n t ht h1 h0)
  have HP : Hid (∀ w, Calls Tryd.prog 55 #[.int .u64 x, .int .i64 n] w fun e w' => ∃ c, e = .returned (.slice (some ⟨w.heap.size, 0, none⟩) n c) ∧ RI .u8 w' (.slice (some ⟨w.heap.size, 0, none⟩) n c) n (putL x n) ∧ Below w.heap.size w w') := Lib.hid fun w =>
    (put_any x n n (by unfold I63; omega) (by unfold clampI; omega) w).mono fun _ _ ⟨he, ho, hb⟩ => ⟨n, he, RI.own ho, hb⟩
  have HH := Lib.hid hh
  have HN : Hid (f + n ≤ 11) := Lib.hid (by omega)
  have hn : (n : Int) ≤ 8 := by omega
  have hn2 : (t : Int) - (f : Int) = (n : Int) := by omega
  have hlt := hh.lt
  clear ht h1 h0 h8 hh
  go_enter Tryd.func40, Tryd.ntmps40
  go_wp2_with (first
    | (go_at_call 42; (with_reducible refine (HC.out _).mono ?_); rintro e w' ⟨rfl, rfl⟩)
    | (go_at_call 55; (with_reducible refine (HP.out _).mono ?_); rintro e w1 ⟨c1, rfl, hr1, hb1⟩; have HR1 := Lib.hid hr1; have HB1 := Lib.hid hb1; have HH1 := Lib.hid (HH.out.keep hb1); clear hr1 hb1)
    | (refine wpl_copy_head rfl (.tmp 11) (.tmp 16) rfl b f n zs HH1.out rfl _ (putL x n) rfl HR1.out HN.out ?_; intro w2 HH2 HB2))
  go_end0
  exact ⟨rfl, HH2.out, (HB1.out.mono (Nat.le_of_lt hlt)).trans HB2.out⟩
/-- a head's bytes lie there -/
def HAt (w : World) (b off : Nat) (zs : List Int) : Prop := zs.length = 11 ∧ ∀ k, k < 11 → w.cell? ⟨b, off + k, none⟩ = some (.int .u8 (zs.getD k 0))
theorem run_load_hat {w : World} {b off : Nat} {zs : List Int} (h : HAt w b off zs) : (loadVar 83 ⟨b, off, none⟩).run Tryd.prog w = .ok (.agg (av zs)) w := by
  have hl : (loadCells ⟨b, off, none⟩ (il .u8 zs).length).run Tryd.prog w = .ok (il .u8 zs).toArray w :=
    run_loadCells_list (P := Tryd.prog) w ⟨b, off, none⟩ (il .u8 zs) (fun j v hv => by
      have hadd : (⟨b, off, none⟩ : Addr).add j = ⟨b, off + j, none⟩ := by unfold Addr.add; split <;> simp_all
      have hj : j < zs.length := by have := (List.getElem?_eq_some_iff.1 hv).1; rwa [il_length] at this
      rw [il_get _ _ _ hj] at hv
      rw [hadd, h.2 j (by rw [← h.1]; exact hj)]
      exact hv)
  have hi := av_info zs h.1
  cases hq : Tryd.prog.info? 83 with
  | none => simp [hq] at hi
  | some i =>
    have hs : i.size = 11 := by simpa [hq, av_size, h.1] using hi
    have hagg : (isAgg 83).run Tryd.prog w = .ok true w := by
      unfold isAgg
      rw [Sem.run_bind, run_underlying Tryd.underlying83 w]
      rfl
    rw [il_length, h.1] at hl
    simp [loadVar, Sem.run_bind, hagg, sizeOf, typeInfo, hq, hs, hl, av]
/-- a head is loaded out of bytes -/
theorem exec_load_hat {a : Act} {o : Oper} {w : World} {b off : Nat} {zs : List Int} (x : Operand) (ho : o.op = .load 83 x) (hx : a.eval x = .pointer (some ⟨b, off, none⟩)) (h : HAt w b off zs) :
    (execOp a.eval o).run Tryd.prog w = .ok (.value (.agg (av zs))) w := by
  unfold execOp
  simp only [ho, hx, Instr.loadAt, Instr.sureAddr, Sem.run_bind, Sem.run_pure, Result.andThen_ok, run_load_hat h]
/-- bytes as an array: where they lie -/
theorem exec_arrptr {a : Act} {o : Oper} {w : World} (x : Operand) (ho : o.op = .sliceToArrayPointer 83 x) (p : Option Addr) (n c : Nat) (hx : a.eval x = .slice p n c) (h : 11 ≤ n) :
    (execOp a.eval o).run Tryd.prog w = .ok (.value (.pointer p)) w := by
  have hn : ¬ n < 11 := by omega
  unfold execOp
  simp only [ho, hx, Instr.arrayAt, Sem.run_bind, run_underlying Tryd.underlying83, Result.andThen_ok]
  simp [hn, Result.andThen]
end Go.Proofs.YtjlnceldnbpapaaDoor
/-
  WHAT THE PROGRAM'S OWN FUNCTIONS OF LAYER 13 (frag) ANSWER: isKind, right. No condition of ours.
-/
namespace Go.Proofs.YtjlnceldnbpapaaDoor
open Go.RowKit
theorem fkind_any (k : Int) (w : World) : Calls Tryd.prog 54 #[.int .i64 k] w fun e w' => e = .returned (.bool (decide (1 ≤ k ∧ k ≤ 4))) ∧ w = w' := by
  rcases (by omega : (1 ≤ k ∧ k ≤ 4) ∨ k < 1 ∨ (1 ≤ k ∧ 4 < k)) with ⟨h1, h2⟩ | h1 | ⟨h1, h2⟩
  · rw [show decide (1 ≤ k ∧ k ≤ 4) = true from decide_eq_true ⟨h1, h2⟩]
    go_enter Tryd.func54, Tryd.ntmps54
    go_wp2
    go_ret
    exact ⟨rfl, rfl⟩
  · rw [show decide (1 ≤ k ∧ k ≤ 4) = false from decide_eq_false (by omega)]
    go_enter Tryd.func54, Tryd.ntmps54
    go_wp2
    go_ret
    exact ⟨rfl, rfl⟩
  · rw [show decide (1 ≤ k ∧ k ≤ 4) = false from decide_eq_false (by omega)]
    go_enter Tryd.func54, Tryd.ntmps54
    go_wp2
    go_ret
    first
      | exact ⟨rfl, rfl⟩
      | exact ⟨ret_bool (decide_eq_false (by omega)), rfl⟩
set_option maxRecDepth 8000 in
set_option maxHeartbeats 1000000 in
theorem fright_any (k e : Int) (a : Option Addr) (n cap : Nat) (w : World) :
    Calls Tryd.prog 39 #[.agg (fA k e (.slice a n cap))] w fun r w' => r = .returned (.bool (fragOk k n)) ∧ Below w.heap.size w w' := by
  obtain ⟨y, hy⟩ : ∃ y, decide (1 ≤ k ∧ k ≤ 4) = y := ⟨_, rfl⟩
  have HK : Hid (∀ w, Calls Tryd.prog 54 #[.int .i64 k] w fun e w' => e = .returned (.bool y) ∧ w = w') := Lib.hid fun w => by rw [← hy]; exact fkind_any k w
  have hall : fragOk k n = (y && decide ((n : Int) ≤ 197)) := by
    rw [← hy, Bool.eq_iff_iff]; unfold fragOk; simp; omega
  rw [hall]
  cases y with
  | false =>
    clear hy hall
    go_enter Tryd.func39, Tryd.ntmps39
    go_wp2_with (first
      | (go_at_call 54; (with_reducible refine (HK.out _).mono ?_); rintro e w' ⟨rfl, rfl⟩))
    go_ret
    exact ⟨rfl, balloc _ _⟩
  | true =>
    clear hy hall
    go_enter Tryd.func39, Tryd.ntmps39
    go_wp2_with (first
      | (go_at_call 54; (with_reducible refine (HK.out _).mono ?_); rintro e w' ⟨rfl, rfl⟩))
    go_ret
    exact ⟨rfl, balloc _ _⟩
end Go.Proofs.YtjlnceldnbpapaaDoor
/-
  WHAT THE PROGRAM'S Encode OF LAYER 13 (frag) ANSWERS (written by wip/gen/g19.py). The table of half a byte's steps must lie in its block as start-up lays it.
-/
namespace Go.Proofs.YtjlnceldnbpapaaDoor
open Go.RowKit
theorem enc_head (k e : Int) (n : Nat) (hk : 0 ≤ k ∧ k ≤ 255) : splice (splice (splice z11 4 (putL n 2)) 6 (putL k 1)) 7 (putL e 4) = [0, 0, 0, 0] ++ fragK k e n := by
  have h1 : putL k 1 = [k] := by simp [putL, List.range_succ]; omega
  unfold fragK
  rw [h1]
  have h2 := putL_length n 2
  have h4 := putL_length e 4
  generalize putL n 2 = a at *
  generalize putL e 4 = b at *
  match a, b, h2, h4 with
  | [a0, a1], [b0, b1, b2, b3], _, _ => simp [splice, z11, List.replicate]
theorem enc_sum (k e : Int) (n m : Nat) : splice ([0, 0, 0, 0] ++ fragK k e n) 0 (putL m 4) = putL m 4 ++ fragK k e n := by
  have h4 := putL_length m 4
  generalize putL m 4 = b at *
  match b, h4 with
  | [b0, b1, b2, b3], _ => simp [splice]
set_option maxRecDepth 8000 in
set_option maxHeartbeats 1000000 in
theorem fenc_wrong (k e : Int) (a : Option Addr) (n cap : Nat) (w : World) (hr : fragOk k n = false) :
    Calls Tryd.prog 26 #[.agg (fA k e (.slice a n cap))] w fun r w' => r = .returned (.tuple #[.slice none 0 0, .int .i64 13]) ∧ Below w.heap.size w w' := by
  have HO : Hid (∀ w, Calls Tryd.prog 39 #[.agg (fA k e (.slice a n cap))] w fun e w' => e = .returned (.bool false) ∧ Below w.heap.size w w') := Lib.hid fun w => by rw [← hr]; exact fright_any k e a n cap w
  have HA := Lib.hid (FO.alloc (k := k) (e := e) (v := .slice a n cap) w)
  have HB := Lib.hid (balloc w (.cells (fA k e (.slice a n cap)) 63))
  clear hr
  go_enter Tryd.func26, Tryd.ntmps26
  go_wp2_with (first
    | (go_at_call 39; (with_reducible refine (HO.out _).mono ?_); rintro r w1 ⟨rfl, hb1⟩; have HB1 := Lib.hid (bch HB.out hb1); clear hb1)
    | (refine wpl_load_fr rfl (.tmp 1) rfl rfl HA.out ?_))
  go_ret2
  exact ⟨rfl, HB1.out⟩
set_option maxRecDepth 8000 in
set_option maxHeartbeats 4000000 in
theorem fenc_right (k e : Int) (a : Option Addr) (n cap : Nat) (d : List Int) (w : World) (ht : Tab w) (hr : fragOk k n = true) (he : 0 ≤ e ∧ e ≤ 4294967295) (hri : RI .u8 w (.slice a n cap) n d) (hbd : isB d) :
    Calls Tryd.prog 26 #[.agg (fA k e (.slice a n cap))] w fun r w' => ∃ p c, r = .returned (.tuple #[.slice p (11 + n) c, .int .i64 0]) ∧ RI .u8 w' (.slice p (11 + n) c) (11 + n) (fragB k e d) ∧ Below w.heap.size w w' := by
  have hp := fok_parts hr
  have hd := hri.length
  obtain ⟨he0, he1⟩ := he
  obtain ⟨m, hm⟩ : ∃ m, fragS k e d = m := ⟨_, rfl⟩
  have hm8 : (m : Int) ≤ 4294967295 := by have := fragS_lt k e d; omega
  obtain ⟨z1, hz1⟩ : ∃ z, splice z11 4 (putL n 2) = z := ⟨_, rfl⟩
  obtain ⟨z2, hz2⟩ : ∃ z, splice z1 6 (putL k 1) = z := ⟨_, rfl⟩
  obtain ⟨z3, hz3⟩ : ∃ z, splice z2 7 (putL e 4) = z := ⟨_, rfl⟩
  obtain ⟨z4, hz4⟩ : ∃ z, splice z3 0 (putL m 4) = z := ⟨_, rfl⟩
  have h3 : z3 = [0, 0, 0, 0] ++ fragK k e n := by rw [← hz3, ← hz2, ← hz1]; exact enc_head k e n (by omega)
  have h4 : z4 = putL m 4 ++ fragK k e n := by rw [← hz4, h3]; exact enc_sum k e n m
  have h3b : isB z3 := by rw [h3]; exact isB.append (fun x hx => by simp at hx; omega) (fragK_bytes (by omega) e n)
  have hsm : maskS (ofS (z3.drop 4 ++ d)) = m := by rw [← hm, h3]; unfold fragS fragT; rw [hd]; rfl
  have HZ4 : Hid ((z4.drop 0).take 11 = z4 ∧ z4 ++ d = fragB k e d) := Lib.hid ⟨by rw [List.drop_zero, List.take_of_length_le (by rw [h4]; simp [putL_length, fragK_length])], by rw [h4, ← hm]; unfold fragB fragT; rw [hd, List.append_assoc]⟩
  have HO : Hid (∀ w, Calls Tryd.prog 39 #[.agg (fA k e (.slice a n cap))] w fun e w' => e = .returned (.bool true) ∧ Below w.heap.size w w') := Lib.hid fun w => by rw [← hr]; exact fright_any k e a n cap w
  have HPA : Hid (∀ w b, HD w b z11 → Calls Tryd.prog 40 #[.pointer (some ⟨b, 0, none⟩), .int .i64 4, .int .i64 6, .int .u64 n] w fun e w' => e = .returned (.tuple #[]) ∧ HD w' b z1 ∧ Below b w w') := Lib.hid fun w b h => by rw [← hz1]; exact hput_any b 4 2 6 rfl (by omega) (by omega) (by omega) n h
  have HPB : Hid (∀ w b, HD w b z1 → Calls Tryd.prog 40 #[.pointer (some ⟨b, 0, none⟩), .int .i64 6, .int .i64 7, .int .u64 k] w fun e w' => e = .returned (.tuple #[]) ∧ HD w' b z2 ∧ Below b w w') := Lib.hid fun w b h => by rw [← hz2]; exact hput_any b 6 1 7 rfl (by omega) (by omega) (by omega) k h
  have HPC : Hid (∀ w b, HD w b z2 → Calls Tryd.prog 40 #[.pointer (some ⟨b, 0, none⟩), .int .i64 7, .int .i64 11, .int .u64 e] w fun e w' => e = .returned (.tuple #[]) ∧ HD w' b z3 ∧ Below b w w') := Lib.hid fun w b h => by rw [← hz3]; exact hput_any b 7 4 11 rfl (by omega) (by omega) (by omega) e h
  have HPD : Hid (∀ w b, HD w b z3 → Calls Tryd.prog 40 #[.pointer (some ⟨b, 0, none⟩), .int .i64 0, .int .i64 4, .int .u64 m] w fun e w' => e = .returned (.tuple #[]) ∧ HD w' b z4 ∧ Below b w w') := Lib.hid fun w b h => by rw [← hz4]; exact hput_any b 0 4 4 rfl (by omega) (by omega) (by omega) m h
  have HS : Hid (∀ w b, Tab w → HD w b z3 → RI .u8 w (.slice a n cap) n d → Calls Tryd.prog 41 #[.pointer (some ⟨b, 0, none⟩), .slice a n cap] w fun e w' => e = .returned (.int .u64 m) ∧ w = w') := Lib.hid fun w b h1 h2 h3 => hsum_any b h1 h2 h3b h3 hbd hsm
  have HC : Hid (∀ w b, Calls Tryd.prog 42 #[.pointer (some ⟨b, 0, none⟩), .int .i64 0, .int .i64 11] w fun e w' => e = .returned (.slice (some ⟨b, 0, none⟩) 11 11) ∧ w = w') := Lib.hid fun w b => hcut_any b 0 11 11 rfl (by omega) (by omega) w
  obtain ⟨w0, hw0⟩ : ∃ q, w.alloc (.cells (fA k e (.slice a n cap)) 63) = q := ⟨_, rfl⟩
  have HA : Hid (FO w0 w.heap.size k e (.slice a n cap)) := Lib.hid (by rw [← hw0]; exact FO.alloc w)
  have HB : Hid (Below w.heap.size w w0) := Lib.hid (by rw [← hw0]; exact balloc w _)
  have HR := Lib.hid (hri.keep HB.out)
  have HT := Lib.hid (ht.keep HB.out)
  have HN : Hid (n ≤ 197) := Lib.hid hp.2.2
  have hn9 : (n : Int) ≤ 197 := by omega
  have hk1 : 1 ≤ k := hp.1
  have hk4 : k ≤ 4 := hp.2.1
  clear hr hri hp hd hbd hm hz1 hz2 hz3 hz4 h3 h4 h3b hsm ht
  go_enter Tryd.func26, Tryd.ntmps26
  go_wp2_with (first
    | (go_at_call 39; (with_reducible refine (HO.out _).mono ?_); rintro r w1 ⟨rfl, hb1⟩; have HH2 : Hid (HD (w1.alloc (.cells #[.int .u8 0, .int .u8 0, .int .u8 0, .int .u8 0, .int .u8 0, .int .u8 0, .int .u8 0, .int .u8 0, .int .u8 0, .int .u8 0, .int .u8 0] 83)) w1.heap.size z11) := Lib.hid (HD.new w1 z11 z11_length); have HB2 : Hid (Below w1.heap.size w1 (w1.alloc (.cells #[.int .u8 0, .int .u8 0, .int .u8 0, .int .u8 0, .int .u8 0, .int .u8 0, .int .u8 0, .int .u8 0, .int .u8 0, .int .u8 0, .int .u8 0] 83))) := Lib.hid (balloc _ _); have HA1 := Lib.hid (HA.out.keep hb1); have HR1 := Lib.hid (HR.out.keep hb1); have HT1 := Lib.hid (HT.out.keep hb1); have HB1 := Lib.hid (bch HB.out hb1); obtain ⟨x0, x1, x2⟩ := (HA1.out.keep HB2.out).cells; clear hb1)
    | (go_at_call 40; (with_reducible refine (HPA.out _ _ HH2.out).mono ?_); rintro r w3 ⟨rfl, hh3, hb3⟩; have HH3 := Lib.hid hh3; have HB3 := Lib.hid (HB2.out.trans hb3); obtain ⟨y0, y1, y2⟩ := (HA1.out.keep HB3.out).cells; clear hh3 hb3)
    | (go_at_call 40; (with_reducible refine (HPB.out _ _ HH3.out).mono ?_); rintro r w4 ⟨rfl, hh4, hb4⟩; have HH4 := Lib.hid hh4; have HB4 := Lib.hid (HB3.out.trans hb4); obtain ⟨u0, u1, u2⟩ := (HA1.out.keep HB4.out).cells; clear hh4 hb4)
    | (go_at_call 40; (with_reducible refine (HPC.out _ _ HH4.out).mono ?_); rintro r w5 ⟨rfl, hh5, hb5⟩; have HH5 := Lib.hid hh5; have HB5 := Lib.hid (HB4.out.trans hb5); have HT5 := Lib.hid (HT1.out.keep HB5.out); have HR5 := Lib.hid (HR1.out.keep HB5.out); obtain ⟨v0, v1, v2⟩ := (HA1.out.keep HB5.out).cells; clear hh5 hb5)
    | (go_at_call 41; (with_reducible refine (HS.out _ _ HT5.out HH5.out HR5.out).mono ?_); rintro r w' ⟨rfl, rfl⟩)
    | (go_at_call 40; (with_reducible refine (HPD.out _ _ HH5.out).mono ?_); rintro r w6 ⟨rfl, hh6, hb6⟩; have HH6 := Lib.hid hh6; have HB6 := Lib.hid (HB5.out.trans hb6); have HR6 := Lib.hid (HR1.out.keep HB6.out); have HX6 := Lib.hid (HA1.out.keep HB6.out).cells.2.2; clear hh6 hb6)
    | (refine wpl_load_fr rfl (.tmp 1) rfl rfl HA.out ?_))
  refine wp_region_held_drew (S := (fun W' => Below w6.heap.size w6 W')) (by kernel_rfl) ((Below.refl _ _).drew) (fun hS => ?_)
  refine wpAnyH_take (i := 1) (oi := ({ dst := some 26, op := Op.fieldAddr 63 (Operand.tmp 1) 2, type := 0, pos := "frag.go:24", after := #[], guard := none } : Oper)) (v := ?_) rfl (by kernel_rfl) (by kernel_rfl) (by kernel_rfl) (fun _ _ _ h => h) (Or.inl ⟨by rfl, ?_⟩) hS ?_
  rotate_left
  · (intro w hSw; (try dsimp only at hSw); go_simp; try with_reducible rfl)
  (try simp only [Act.put, List.setIfInBounds_toArray, List.set_cons_zero, List.set_cons_succ])
  refine wpAnyH_take (i := 2) (oi := ({ dst := some 27, op := Op.load 26 (Operand.tmp 26), type := 26, pos := "frag.go:24", after := #[{ on := 1, ground := Ground.data }], guard := none } : Oper)) (v := ?_) rfl (by kernel_rfl) (by kernel_rfl) (by kernel_rfl) (fun _ _ _ h => h) (Or.inl ⟨by rfl, ?_⟩) hS ?_
  rotate_left
  · (intro w hSw; (try dsimp only at hSw); have z := cell_keep hSw HX6.out; go_simp; try with_reducible rfl)
  (try simp only [Act.put, List.setIfInBounds_toArray, List.set_cons_zero, List.set_cons_succ])
  refine rg_one 0 ({ dst := some 25, op := Op.call { callee := Callee.value (Operand.func 42), args := #[Operand.tmp 4, Operand.const (Value.int IntKind.i64 0), Operand.const (Value.int IntKind.i64 11)], argTypes := #[83, 3, 3] }, type := 26, pos := "frag.go:24", after := #[], guard := none } : Oper) (by kernel_rfl) rfl (fun K hK => ?_)
  go_simp
  (go_at_call 42; (with_reducible refine (HC.out _ _).mono ?_); rintro e w' ⟨rfl, rfl⟩)
  refine hK.out _ _ ?_ (fun hS1 => ?_)
  · (first | exact hN | exact hS)
  clear hK K hS; have hS := hS1; clear hS1
  (try simp only [Act.put, List.setIfInBounds_toArray, List.set_cons_zero, List.set_cons_succ])
  refine rg_one 3 ({ dst := some 28, op := Op.call { callee := Callee.builtin Builtin.append, args := #[Operand.tmp 25, Operand.tmp 27], argTypes := #[26, 26] }, type := 26, pos := "frag.go:24", after := #[{ on := 0, ground := Ground.data }, { on := 2, ground := Ground.data }, { on := 0, ground := Ground.chain }], guard := none } : Oper) (by kernel_rfl) rfl (fun K hK => ?_)
  rw [if_pos (by rfl)]; refine wp_app_full (.tmp 25) (.tmp 27) 26 rfl 5 .u8 1 Tryd.underlying26 Tryd.info_u8 w1.heap.size 0 11 z4 rfl (by have := (HH6.out.keep hS).ri 0 11 (by omega); rwa [HZ4.out.1] at this) _ n d rfl (HR6.out.keep hS) (by omega) (by have := HN.out; omega) (by have := HN.out; omega) ?_; intro p9 c9 w9 hr9 hb9; have HR9 := Lib.hid hr9; have hN := hS.trans (hb9.mono hS.size); clear hr9 hb9
  refine hK.out _ _ ?_ (fun hS1 => ?_)
  · (first | exact hN | exact hS)
  clear hK K hS; have hS := hS1; clear hS1
  (try simp only [Act.put, List.setIfInBounds_toArray, List.set_cons_zero, List.set_cons_succ])
  refine wpAnyH_take (i := 4) (oi := ({ dst := some 2, op := Op.assign (Operand.tmp 28), type := 26, pos := "frag.go:24", after := #[{ on := 3, ground := Ground.data }, { on := 3, ground := Ground.chain }, { on := 0, ground := Ground.phase }, { on := 1, ground := Ground.phase }, { on := 2, ground := Ground.phase }, { on := 3, ground := Ground.phase }], guard := none } : Oper)) (v := ?_) rfl (by kernel_rfl) (by kernel_rfl) (by kernel_rfl) (fun _ _ _ h => h) (Or.inl ⟨by rfl, ?_⟩) hS ?_
  rotate_left
  · (intro w hSw; (try dsimp only at hSw); go_simp; try with_reducible rfl)
  (try simp only [Act.put, List.setIfInBounds_toArray, List.set_cons_zero, List.set_cons_succ])
  refine wpAnyH_take (i := 5) (oi := ({ dst := some 3, op := Op.assign (Operand.const (Value.int IntKind.i64 0)), type := 68, pos := "frag.go:24", after := #[{ on := 4, ground := Ground.chain }, { on := 0, ground := Ground.phase }, { on := 1, ground := Ground.phase }, { on := 2, ground := Ground.phase }, { on := 3, ground := Ground.phase }, { on := 4, ground := Ground.phase }], guard := none } : Oper)) (v := ?_) rfl (by kernel_rfl) (by kernel_rfl) (by kernel_rfl) (fun _ _ _ h => h) (Or.inl ⟨by rfl, ?_⟩) hS ?_
  rotate_left
  · (intro w hSw; (try dsimp only at hSw); go_simp; try with_reducible rfl)
  (try simp only [Act.put, List.setIfInBounds_toArray, List.set_cons_zero, List.set_cons_succ])
  refine wpAnyH_done (by kernel_rfl) ?_ _
  go_wp2
  go_ret2
  have h9 := HR9.out
  rw [HZ4.out.2] at h9
  exact ⟨p9, c9, rfl, h9, bch HB1.out (bch HB6.out hS)⟩
end Go.Proofs.YtjlnceldnbpapaaDoor
