/-
  FRAGMENTS AND THEIR BYTES (layer 13), plain mathematics: which are right (fragOk), a fragment's bytes (fragB), the fragment that bytes begin with (fragD); what is put is got, and the other way about; a burst is seen. No condition.
-/
import Derived.Test.YtncnmmillhnhlaaDoorPutMath
import Derived.Test.YtncnmmillhnhlaaDoorIsB
import Derived.Test.YtncnmmillhnhlaaDoorCrcPat
import Derived.Test.YtncnmmillhnhlaaDoorFR
namespace Go.Proofs.YtncnmmillhnhlaaDoor
def noF : FR := ⟨0, 0, []⟩
def fragOk (k : Int) (n : Nat) : Bool := decide (1 ≤ k ∧ k ≤ 4 ∧ n ≤ 197)
theorem fok_parts {k : Int} {n : Nat} (h : fragOk k n = true) : 1 ≤ k ∧ k ≤ 4 ∧ n ≤ 197 := of_decide_eq_true h
/-- the number of n bytes from a on -/
def num (zs : List Int) (a n : Nat) : Int := getI (zs.drop a) n
/-- what stands behind the sum, but for the data -/
def fragK (k e : Int) (n : Nat) : List Int := putL n 2 ++ [k] ++ putL e 4
/-- what stands behind the sum -/
def fragT (k e : Int) (d : List Int) : List Int := fragK k e d.length ++ d
/-- a fragment's sum, masked -/
def fragS (k e : Int) (d : List Int) : Nat := maskS (ofS (fragT k e d))
/-- a fragment's bytes -/
def fragB (k e : Int) (d : List Int) : List Int := putL (fragS k e d) 4 ++ fragT k e d
theorem fragK_length (k e : Int) (n : Nat) : (fragK k e n).length = 7 := by simp [fragK, putL_length]
theorem fragT_length (k e : Int) (d : List Int) : (fragT k e d).length = 7 + d.length := by simp [fragT, fragK_length]
theorem fragB_length (k e : Int) (d : List Int) : (fragB k e d).length = 11 + d.length := by simp [fragB, fragT_length, putL_length]; omega
theorem putL_isB (n : Int) (k : Nat) : isB (putL n k) := (putL_bytes n k).mem
theorem fragK_bytes {k : Int} (hk : 0 ≤ k ∧ k ≤ 255) (e : Int) (n : Nat) : isB (fragK k e n) :=
  isB.append (isB.append (putL_isB _ _) (fun x hx => by simp only [List.mem_cons, List.not_mem_nil, or_false] at hx; subst hx; exact hk)) (putL_isB _ _)
theorem fragT_bytes {k : Int} (hk : 0 ≤ k ∧ k ≤ 255) (e : Int) {d : List Int} (hd : isB d) : isB (fragT k e d) := (fragK_bytes hk e _).append hd
theorem fragB_bytes {k : Int} (hk : 0 ≤ k ∧ k ≤ 255) (e : Int) {d : List Int} (hd : isB d) : isB (fragB k e d) := isB.append (putL_isB _ _) (fragT_bytes hk e hd)
theorem fragS_lt (k e : Int) (d : List Int) : fragS k e d < 4294967296 := maskS_lt _
theorem maskS_inj {a b : Nat} (ha : a < 4294967296) (hb : b < 4294967296) (h : maskS a = maskS b) : a = b := by
  rw [← unmask_mask a ha, h, unmask_mask b hb]
/-- numbers that are read out of bytes -/
theorem getI_take (l : List Int) (m k : Nat) (h : k ≤ m) : getI (l.take m) k = getI l k := by
  induction k with
  | zero => rfl
  | succ k ih =>
    have e : (l.take m).getD k 0 = l.getD k 0 := by simp only [List.getD, List.getElem?_take, show k < m by omega, if_true]
    simp only [getI]; rw [ih (by omega), e]
theorem getI_append (a b : List Int) (k : Nat) (h : k ≤ a.length) : getI (a ++ b) k = getI a k := by
  have := getI_take (a ++ b) a.length k h
  rw [List.take_left] at this
  exact this.symm
theorem num_take (zs : List Int) (m a n : Nat) (h : a + n ≤ m) : num (zs.take m) a n = num zs a n := by
  unfold num; rw [List.drop_take, getI_take _ _ _ (by omega)]
theorem num_bd {zs : List Int} (h : isB zs) (a n : Nat) : 0 ≤ num zs a n ∧ num zs a n < 2 ^ (8 * n) := getI_bd _ (bytes_of_mem (h.drop a)) n
theorem num_put {zs : List Int} (h : isB zs) (a n : Nat) (hl : a + n ≤ zs.length) : putL (num zs a n) n = (zs.drop a).take n := by
  unfold num
  rw [← getI_take (zs.drop a) n n (Nat.le_refl _)]
  exact putL_getI _ (bytes_of_mem ((h.drop a).take n)) n (by simp; omega)
theorem num_one (zs : List Int) (a : Nat) : num zs a 1 = zs.getD a 0 := by simp [num, getI, List.getD]
theorem num_two (zs : List Int) (a : Nat) : num zs a 2 = zs.getD a 0 + 256 * zs.getD (a + 1) 0 := by
  simp [num, getI, List.getD]; omega
/-- the fragment that bytes begin with, how many they are; or why there is none -/
def fragD (zs : List Int) (ep : Int) : FR × Nat × Int :=
  if zs.length < 11 then (noF, 0, 1) else
  if zs.take 11 = List.replicate 11 0 then (noF, 0, 7) else
  if fragOk (num zs 6 1) (num zs 4 2).toNat = false ∨ num zs 7 4 ≠ ep then (noF, 0, 2) else
  if zs.length < 11 + (num zs 4 2).toNat then (noF, 0, 1) else
  if num zs 0 4 ≠ maskS (ofS ((zs.take (11 + (num zs 4 2).toNat)).drop 4)) then (noF, 0, 3) else
  (⟨num zs 6 1, num zs 7 4, (zs.drop 11).take (num zs 4 2).toNat⟩, 11 + (num zs 4 2).toNat, 0)
section
variable {zs : List Int} {ep : Int}
theorem fragD_short (h : zs.length < 11) : fragD zs ep = (noF, 0, 1) := by unfold fragD; rw [if_pos h]
theorem fragD_none (h : ¬ zs.length < 11) (h2 : zs.take 11 = List.replicate 11 0) : fragD zs ep = (noF, 0, 7) := by unfold fragD; rw [if_neg h, if_pos h2]
section
variable (h : ¬ zs.length < 11) (h2 : ¬ zs.take 11 = List.replicate 11 0)
include h h2
theorem fragD_form (h3 : fragOk (num zs 6 1) (num zs 4 2).toNat = false ∨ num zs 7 4 ≠ ep) : fragD zs ep = (noF, 0, 2) := by unfold fragD; rw [if_neg h, if_neg h2, if_pos h3]
variable (h3 : fragOk (num zs 6 1) (num zs 4 2).toNat = true) (h4 : num zs 7 4 = ep)
include h3 h4
theorem fragD_cut (h5 : zs.length < 11 + (num zs 4 2).toNat) : fragD zs ep = (noF, 0, 1) := by
  unfold fragD; rw [if_neg h, if_neg h2, if_neg (by rw [h3]; simp [h4]), if_pos h5]
theorem fragD_sum (h5 : ¬ zs.length < 11 + (num zs 4 2).toNat) (h6 : num zs 0 4 ≠ maskS (ofS ((zs.take (11 + (num zs 4 2).toNat)).drop 4))) : fragD zs ep = (noF, 0, 3) := by
  unfold fragD; rw [if_neg h, if_neg h2, if_neg (by rw [h3]; simp [h4]), if_neg h5, if_pos h6]
theorem fragD_ok (h5 : ¬ zs.length < 11 + (num zs 4 2).toNat) (h6 : num zs 0 4 = maskS (ofS ((zs.take (11 + (num zs 4 2).toNat)).drop 4))) :
    fragD zs ep = (⟨num zs 6 1, num zs 7 4, (zs.drop 11).take (num zs 4 2).toNat⟩, 11 + (num zs 4 2).toNat, 0) := by
  unfold fragD; rw [if_neg h, if_neg h2, if_neg (by rw [h3]; simp [h4]), if_neg h5, if_neg (by simp [h6])]
end
/-- what a fragment that is told is like -/
theorem fragD_parts (h : (fragD zs ep).2.2 = 0) : 11 ≤ zs.length ∧ fragOk (num zs 6 1) (num zs 4 2).toNat = true ∧ num zs 7 4 = ep ∧ 11 + (num zs 4 2).toNat ≤ zs.length ∧ num zs 0 4 = maskS (ofS ((zs.take (11 + (num zs 4 2).toNat)).drop 4)) := by
  by_cases h1 : zs.length < 11
  · rw [fragD_short h1] at h; exact absurd h (by decide)
  by_cases h2 : zs.take 11 = List.replicate 11 0
  · rw [fragD_none h1 h2] at h; exact absurd h (by decide)
  by_cases h3 : fragOk (num zs 6 1) (num zs 4 2).toNat = false ∨ num zs 7 4 ≠ ep
  · rw [fragD_form h1 h2 h3] at h; exact absurd h (by decide)
  have h3a : fragOk (num zs 6 1) (num zs 4 2).toNat = true := by cases hq : fragOk (num zs 6 1) (num zs 4 2).toNat <;> simp_all
  have h3b : num zs 7 4 = ep := by by_cases hq : num zs 7 4 = ep; exact hq; exact absurd (Or.inr hq) h3
  by_cases h5 : zs.length < 11 + (num zs 4 2).toNat
  · rw [fragD_cut h1 h2 h3a h3b h5] at h; exact absurd h (by decide)
  by_cases h6 : num zs 0 4 = maskS (ofS ((zs.take (11 + (num zs 4 2).toNat)).drop 4))
  · exact ⟨by omega, h3a, h3b, by omega, h6⟩
  · rw [fragD_sum h1 h2 h3a h3b h5 h6] at h; exact absurd h (by decide)
/-- .. and what an error leaves -/
theorem fragD_err (h : (fragD zs ep).2.2 ≠ 0) : fragD zs ep = (noF, 0, (fragD zs ep).2.2) := by
  by_cases h1 : zs.length < 11
  · rw [fragD_short h1]
  by_cases h2 : zs.take 11 = List.replicate 11 0
  · rw [fragD_none h1 h2]
  by_cases h3 : fragOk (num zs 6 1) (num zs 4 2).toNat = false ∨ num zs 7 4 ≠ ep
  · rw [fragD_form h1 h2 h3]
  have h3a : fragOk (num zs 6 1) (num zs 4 2).toNat = true := by cases hq : fragOk (num zs 6 1) (num zs 4 2).toNat <;> simp_all
  have h3b : num zs 7 4 = ep := by by_cases hq : num zs 7 4 = ep; exact hq; exact absurd (Or.inr hq) h3
  by_cases h5 : zs.length < 11 + (num zs 4 2).toNat
  · rw [fragD_cut h1 h2 h3a h3b h5]
  by_cases h6 : num zs 0 4 = maskS (ofS ((zs.take (11 + (num zs 4 2).toNat)).drop 4))
  · rw [fragD_ok h1 h2 h3a h3b h5 h6] at h; exact absurd rfl h
  · rw [fragD_sum h1 h2 h3a h3b h5 h6]
theorem fragD_data (hb : isB zs) : isB (fragD zs ep).1.data := by
  by_cases h : (fragD zs ep).2.2 = 0
  · obtain ⟨h1, h2, h3, h4, h5⟩ := fragD_parts h
    unfold fragD
    split
    · exact isB.nil
    · split
      · exact isB.nil
      · split
        · exact isB.nil
        · split
          · exact isB.nil
          · split
            · exact isB.nil
            · exact (hb.drop _).take _
  · rw [fragD_err h]; exact isB.nil
end
/-- all bytes but the data, out of the numbers that they tell -/
theorem head_back (zs : List Int) (hb : isB zs) (hl : 11 ≤ zs.length) : fragK (num zs 6 1) (num zs 7 4) (num zs 4 2).toNat = (zs.take 11).drop 4 := by
  have h2 := num_bd hb 4 2
  have e : (((num zs 4 2).toNat : Nat) : Int) = num zs 4 2 := by omega
  unfold fragK
  rw [e, num_put hb 4 2 (by omega), num_put hb 7 4 (by omega), num_one]
  match zs, hl with
  | a0 :: a1 :: a2 :: a3 :: a4 :: a5 :: a6 :: a7 :: a8 :: a9 :: a10 :: r, _ => simp
/-- what is got is put by the same bytes -/
theorem tail_back (zs : List Int) (hb : isB zs) (h4 : 11 + (num zs 4 2).toNat ≤ zs.length) :
    fragT (num zs 6 1) (num zs 7 4) ((zs.drop 11).take (num zs 4 2).toNat) = (zs.take (11 + (num zs 4 2).toNat)).drop 4 := by
  unfold fragT
  rw [show ((zs.drop 11).take (num zs 4 2).toNat).length = (num zs 4 2).toNat from by simp; omega, head_back zs hb (by omega), List.take_add, List.drop_append_of_le_length (by simp; omega)]
theorem frag_back {zs : List Int} {ep : Int} (hb : isB zs) (h : (fragD zs ep).2.2 = 0) :
    fragOk (fragD zs ep).1.kind (fragD zs ep).1.data.length = true ∧ (fragD zs ep).1.epoch = ep ∧ (fragD zs ep).2.1 ≤ zs.length ∧ (fragD zs ep).2.1 = 11 + (fragD zs ep).1.data.length ∧ fragB (fragD zs ep).1.kind (fragD zs ep).1.epoch (fragD zs ep).1.data = zs.take (fragD zs ep).2.1 := by
  obtain ⟨h1, h2, h3, h4, h5⟩ := fragD_parts h
  have hn : ¬ zs.take 11 = List.replicate 11 0 := by
    intro hz
    have := fok_parts h2
    rw [num_one] at this
    have e : (zs.take 11).getD 6 0 = zs.getD 6 0 := by simp only [List.getD, List.getElem?_take]; rfl
    rw [hz] at e
    have : zs.getD 6 0 = 0 := by rw [← e]; rfl
    omega
  rw [fragD_ok (by omega) hn h2 h3 (by omega) h5]
  simp only
  have hlen : ((zs.drop 11).take (num zs 4 2).toNat).length = (num zs 4 2).toNat := by simp; omega
  refine ⟨by rw [hlen]; exact h2, h3, h4, by rw [hlen], ?_⟩
  have ht := tail_back zs hb h4
  unfold fragB fragS
  rw [ht, ← h5, num_put hb 0 4 (by omega)]
  have e : (zs.drop 0).take 4 = (zs.take (11 + (num zs 4 2).toNat)).take 4 := by rw [List.drop_zero, List.take_take, Nat.min_eq_left (by omega)]
  rw [e, List.take_append_drop]
/-- the numbers of a fragment's bytes -/
theorem frag_nums (k e : Int) (d r : List Int) (hn : d.length ≤ 65535) (he : 0 ≤ e ∧ e < 4294967296) :
    num (fragB k e d ++ r) 0 4 = fragS k e d ∧ num (fragB k e d ++ r) 4 2 = d.length ∧ num (fragB k e d ++ r) 6 1 = k ∧ num (fragB k e d ++ r) 7 4 = e := by
  have hs := fragS_lt k e d
  have p4 : (fragB k e d ++ r).drop 4 = putL d.length 2 ++ ([k] ++ (putL e 4 ++ (d ++ r))) := by
    unfold fragB
    rw [List.append_assoc, List.drop_left' (by rw [putL_length])]
    unfold fragT fragK
    simp
  have p6 : (fragB k e d ++ r).drop 6 = [k] ++ (putL e 4 ++ (d ++ r)) := by
    rw [show 6 = 4 + 2 from rfl, ← List.drop_drop, p4, List.drop_left' (by rw [putL_length])]
  have p7 : (fragB k e d ++ r).drop 7 = putL e 4 ++ (d ++ r) := by
    rw [show 7 = 6 + 1 from rfl, ← List.drop_drop, p6]; rfl
  unfold num
  refine ⟨?_, ?_, ?_, ?_⟩
  · rw [List.drop_zero]
    unfold fragB
    rw [List.append_assoc, getI_append _ _ _ (by rw [putL_length]; omega), getI_put _ _ _ (Nat.le_refl _)]
    omega
  · rw [p4, getI_append _ _ _ (by rw [putL_length]; omega), getI_put _ _ _ (Nat.le_refl _)]; omega
  · rw [p6]; simp [getI]
  · rw [p7, getI_append _ _ _ (by rw [putL_length]; omega), getI_put _ _ _ (Nat.le_refl _)]; omega
theorem frag_head (k e : Int) (d r : List Int) (hk : 1 ≤ k) (hn : d.length ≤ 65535) (he : 0 ≤ e ∧ e < 4294967296) : ¬ (fragB k e d ++ r).take 11 = List.replicate 11 0 := by
  intro hz
  obtain ⟨_, _, h, _⟩ := frag_nums k e d r hn he
  rw [num_one] at h
  have e : ((fragB k e d ++ r).take 11).getD 6 0 = (fragB k e d ++ r).getD 6 0 := by simp only [List.getD, List.getElem?_take]; rfl
  rw [hz, h] at e
  have : (0 : Int) = k := e
  omega
/-- what is put is got by its own epoch .. -/
theorem frag_got {k e : Int} {d : List Int} (r : List Int) (h : fragOk k d.length = true) (he : 0 ≤ e ∧ e < 4294967296) : fragD (fragB k e d ++ r) e = (⟨k, e, d⟩, 11 + d.length, 0) := by
  have hp := fok_parts h
  obtain ⟨n0, n4, n6, n7⟩ := frag_nums k e d r (by omega) he
  have hl := fragB_length k e d
  have hn : (num (fragB k e d ++ r) 4 2).toNat = d.length := by omega
  have htk : (fragB k e d ++ r).take (11 + d.length) = fragB k e d := List.take_left' hl
  have h5 : num (fragB k e d ++ r) 0 4 = maskS (ofS (((fragB k e d ++ r).take (11 + (num (fragB k e d ++ r) 4 2).toNat)).drop 4)) := by
    rw [hn, htk, n0]
    unfold fragB fragS
    rw [List.drop_left' (by rw [putL_length])]
  rw [fragD_ok (by simp; omega) (frag_head k e d r hp.1 (by omega) he) (by rw [n6, hn]; exact h) n7 (by rw [hn]; simp; omega) h5, n6, n7, hn]
  have hd : ((fragB k e d ++ r).drop 11).take d.length = d := by
    have : (fragB k e d).drop 11 = d := by
      unfold fragB fragT
      rw [← List.append_assoc, List.drop_left' (by simp [putL_length, fragK_length])]
    rw [List.drop_append_of_le_length (by omega), this, List.take_left]
  rw [hd]
/-- .. and by no other one -/
theorem frag_other {k e : Int} {d : List Int} (r : List Int) (h : fragOk k d.length = true) (he : 0 ≤ e ∧ e < 4294967296) {ep : Int} (hne : ep ≠ e) : fragD (fragB k e d ++ r) ep = (noF, 0, 2) := by
  have hp := fok_parts h
  obtain ⟨n0, n4, n6, n7⟩ := frag_nums k e d r (by omega) he
  have hl := fragB_length k e d
  exact fragD_form (by simp; omega) (frag_head k e d r hp.1 (by omega) he) (Or.inr (by rw [n7]; exact fun q => hne q.symm))
/-- what lies ahead of a change stays -/
theorem pat_take (zs ws : List Int) (at_ k m : Nat) (h : m ≤ at_) : (pat zs ws at_ k).take m = zs.take m := by
  induction k with
  | zero => rfl
  | succ k ih => rw [pat, List.take_set_of_le (by omega)]; exact ih
theorem pat_drop (zs ws : List Int) (at_ k m : Nat) (h : m ≤ at_) : (pat zs ws at_ k).drop m = pat (zs.drop m) ws (at_ - m) k := by
  induction k with
  | zero => rfl
  | succ k ih => rw [pat, List.drop_set, if_neg (by omega), ih, pat, show at_ - m + k = at_ + k - m from by omega]
/-- a burst is seen -/
theorem frag_burst {k e : Int} {d : List Int} (h : fragOk k d.length = true) (he : 0 ≤ e ∧ e < 4294967296) (hd : isB d) (ws : List Int) (hw : isB ws) (at_ j : Nat) (ha : 6 ≤ at_) (hj : at_ + j ≤ 11 + d.length) (hjw : j ≤ ws.length) (h4 : j ≤ 4)
    {ep : Int} (hg : (fragD (pat (fragB k e d) ws at_ j) ep).2.2 = 0) : pat (fragB k e d) ws at_ j = fragB k e d := by
  have hp := fok_parts h
  have hl := fragB_length k e d
  have hbb := fragB_bytes (k := k) (by omega) e hd
  obtain ⟨z, hz⟩ : ∃ z, fragB k e d = z := ⟨_, rfl⟩
  obtain ⟨n0, n4, _, _⟩ := frag_nums k e d [] (by omega) he
  have hS : fragS k e d = maskS (ofS (z.drop 4)) := by
    rw [← hz]; unfold fragB fragS; rw [List.drop_left' (by rw [putL_length])]
  rw [List.append_nil, hz] at n0 n4
  rw [hz] at hl hg hbb ⊢
  obtain ⟨h1, h2, h3, h5, h6⟩ := fragD_parts hg
  have ht6 : (pat z ws at_ j).take 6 = z.take 6 := pat_take z ws at_ j 6 ha
  have m0 : num (pat z ws at_ j) 0 4 = num z 0 4 := by rw [← num_take _ 6 0 4 (by omega), ht6, num_take _ 6 0 4 (by omega)]
  have m4 : num (pat z ws at_ j) 4 2 = num z 4 2 := by rw [← num_take _ 6 4 2 (by omega), ht6, num_take _ 6 4 2 (by omega)]
  rw [m0, m4, n0, n4, Int.toNat_natCast] at h6
  rw [List.take_of_length_le (by rw [pat_length]; omega), hS] at h6
  have h7 := maskS_inj (ofS_lt _) (ofS_lt _) (Int.ofNat.inj h6)
  rw [pat_drop z ws at_ j 4 (by omega)] at h7
  have h8 := pat_of (z.drop 4) ws (at_ - 4) j (by simp; omega) hjw h4 (hbb.drop 4) hw h7.symm
  rw [← pat_drop z ws at_ j 4 (by omega)] at h8
  have ht4 := pat_take z ws at_ j 4 (by omega)
  rw [← List.take_append_drop 4 (pat z ws at_ j), ht4, h8, List.take_append_drop]
theorem awake_frag : (fragB 1 7 [120]).length = 12 := by rw [fragB_length]; rfl
end Go.Proofs.YtncnmmillhnhlaaDoor
