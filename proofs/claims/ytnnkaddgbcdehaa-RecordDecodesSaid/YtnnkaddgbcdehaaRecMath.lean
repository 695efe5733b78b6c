/-
  RECORDS AND THEIR BYTES (layer 11), plain mathematics: which are right (recOk), a record's bytes (recH, and its data behind), the record that bytes are (recD); what is put is got, and the other way about. No condition.
-/
import Derived.Test.YtnnkaddgbcdehaaText
namespace Go.Proofs.Ytnnkaddgbcdehaa
/-- a record -/
structure RC where
  kind : Int
  chain : Int
  lsn : Int
  prev : Int
  data : List Int
deriving instance DecidableEq for RC
def noR : RC := ⟨0, 0, 0, 0, []⟩
def recOk (k c l p : Int) : Bool := decide (1 ≤ k ∧ k ≤ 9 ∧ 0 ≤ c ∧ c ≤ 3 ∧ 1 ≤ l ∧ l ≤ 2147483647 ∧ 0 ≤ p ∧ p < l)
theorem ok_parts {k c l p : Int} (h : recOk k c l p = true) : 1 ≤ k ∧ k ≤ 9 ∧ 0 ≤ c ∧ c ≤ 3 ∧ 1 ≤ l ∧ l ≤ 2147483647 ∧ 0 ≤ p ∧ p < l := of_decide_eq_true h
/-- what stands ahead of a record's data -/
def recH (k c l p : Int) : List Int := [k, c] ++ (vb l.toNat ++ vb (l - p).toNat)
theorem recH_len {k c l p : Int} (h : recOk k c l p = true) : 4 ≤ (recH k c l p).length ∧ (recH k c l p).length ≤ 12 := by
  have h1 := ok_parts h
  have h2 := vb_pos l.toNat
  have h3 := vb_pos (l - p).toNat
  have h4 := vb_len_le 4 l.toNat (by rw [show (128 : Nat) ^ (4 + 1) = 34359738368 from by decide]; omega)
  have h5 := vb_len_le 4 (l - p).toNat (by rw [show (128 : Nat) ^ (4 + 1) = 34359738368 from by decide]; omega)
  simp only [recH, List.length_append, List.length_cons, List.length_nil]
  omega
theorem recH_bytes {k c l p : Int} (h : recOk k c l p = true) : isB (recH k c l p) := by
  have h1 := ok_parts h
  refine isB.append (fun x hx => ?_) (isB.append (vb_bytes _) (vb_bytes _))
  simp only [List.mem_cons, List.not_mem_nil, or_false] at hx
  rcases hx with rfl | rfl <;> omega
/-- the record that bytes are, or why they are none -/
def recD (zs : List Int) : RC × Int :=
  if 512 < zs.length then (noR, 5) else
  if zs.length < 2 then (noR, 1) else
  if (gv 0 0 (zs.drop 2)).2.2 ≠ 0 then (noR, (gv 0 0 (zs.drop 2)).2.2) else
  if (gv 0 0 ((zs.drop 2).drop (gv 0 0 (zs.drop 2)).2.1)).2.2 ≠ 0 then (noR, (gv 0 0 ((zs.drop 2).drop (gv 0 0 (zs.drop 2)).2.1)).2.2) else
  if recOk (zs.getD 0 0) (zs.getD 1 0) (gv 0 0 (zs.drop 2)).1 ((gv 0 0 (zs.drop 2)).1 - (gv 0 0 ((zs.drop 2).drop (gv 0 0 (zs.drop 2)).2.1)).1) = true then
    (⟨zs.getD 0 0, zs.getD 1 0, (gv 0 0 (zs.drop 2)).1, (gv 0 0 (zs.drop 2)).1 - (gv 0 0 ((zs.drop 2).drop (gv 0 0 (zs.drop 2)).2.1)).1,
      ((zs.drop 2).drop (gv 0 0 (zs.drop 2)).2.1).drop (gv 0 0 ((zs.drop 2).drop (gv 0 0 (zs.drop 2)).2.1)).2.1⟩, 0)
  else (noR, 2)
theorem recD_long {zs : List Int} (h : 512 < zs.length) : recD zs = (noR, 5) := by unfold recD; rw [if_pos h]
theorem recD_short {zs : List Int} (h : zs.length < 2) : recD zs = (noR, 1) := by unfold recD; rw [if_neg (by omega), if_pos h]
section
variable {zs : List Int} {l : Int} {n : Nat} {e : Int} {b : Int} {m : Nat} {f : Int}
theorem recD_one (h1 : ¬ 512 < zs.length) (h2 : ¬ zs.length < 2) (hg : gv 0 0 (zs.drop 2) = (l, n, e)) (he : e ≠ 0) : recD zs = (noR, e) := by
  unfold recD; rw [if_neg h1, if_neg h2]; simp only [hg]; rw [if_pos he]
theorem recD_two (h1 : ¬ 512 < zs.length) (h2 : ¬ zs.length < 2) (hg : gv 0 0 (zs.drop 2) = (l, n, 0)) (hh : gv 0 0 ((zs.drop 2).drop n) = (b, m, f)) (hf : f ≠ 0) : recD zs = (noR, f) := by
  unfold recD; rw [if_neg h1, if_neg h2]; simp only [hg, hh]; rw [if_neg (by simp), if_pos hf]
theorem recD_form (h1 : ¬ 512 < zs.length) (h2 : ¬ zs.length < 2) (hg : gv 0 0 (zs.drop 2) = (l, n, 0)) (hh : gv 0 0 ((zs.drop 2).drop n) = (b, m, 0)) (ho : recOk (zs.getD 0 0) (zs.getD 1 0) l (l - b) = false) : recD zs = (noR, 2) := by
  unfold recD; rw [if_neg h1, if_neg h2]; simp only [hg, hh]; rw [if_neg (by simp), if_neg (by simp), if_neg (by rw [ho]; decide)]
theorem recD_ok (h1 : ¬ 512 < zs.length) (h2 : ¬ zs.length < 2) (hg : gv 0 0 (zs.drop 2) = (l, n, 0)) (hh : gv 0 0 ((zs.drop 2).drop n) = (b, m, 0)) (ho : recOk (zs.getD 0 0) (zs.getD 1 0) l (l - b) = true) :
    recD zs = (⟨zs.getD 0 0, zs.getD 1 0, l, l - b, ((zs.drop 2).drop n).drop m⟩, 0) := by
  unfold recD; rw [if_neg h1, if_neg h2]; simp only [hg, hh]; rw [if_neg (by simp), if_neg (by simp), if_pos ho]
end
/-- what is put is got -/
theorem rec_got {k c l p : Int} (h : recOk k c l p = true) (d : List Int) (hl : (recH k c l p ++ d).length ≤ 512) : recD (recH k c l p ++ d) = (⟨k, c, l, p, d⟩, 0) := by
  have h1 := ok_parts h
  have h4 := (recH_len h).1
  have hd : (recH k c l p ++ d).drop 2 = vb l.toNat ++ (vb (l - p).toNat ++ d) := by unfold recH; simp
  have hg := gv_put l ⟨by omega, by omega⟩ (vb (l - p).toNat ++ d)
  have hh := gv_put (l - p) ⟨by omega, by omega⟩ d
  rw [← hd] at hg
  have h2 : ((recH k c l p ++ d).drop 2).drop (vb l.toNat).length = vb (l - p).toNat ++ d := by rw [hd, List.drop_left]
  rw [← h2] at hh
  have h3 : recOk ((recH k c l p ++ d).getD 0 0) ((recH k c l p ++ d).getD 1 0) l (l - (l - p)) = true := by
    rw [show l - (l - p) = p from by omega]; unfold recH; simpa using h
  rw [recD_ok (by omega) (by simp; omega) hg hh h3, h2, List.drop_left, show l - (l - p) = p from by omega]
  unfold recH
  simp
/-- what is got is put by the same bytes -/
theorem rec_back (zs : List Int) (hb : isB zs) (h : (recD zs).2 = 0) :
    zs.length ≤ 512 ∧ recOk (recD zs).1.kind (recD zs).1.chain (recD zs).1.lsn (recD zs).1.prev = true ∧ recH (recD zs).1.kind (recD zs).1.chain (recD zs).1.lsn (recD zs).1.prev ++ (recD zs).1.data = zs := by
  by_cases h1 : 512 < zs.length
  · rw [recD_long h1] at h; exact absurd h (by decide)
  by_cases h2 : zs.length < 2
  · rw [recD_short h2] at h; exact absurd h (by decide)
  obtain ⟨⟨l, n, e⟩, hg⟩ : ∃ g, gv 0 0 (zs.drop 2) = g := ⟨_, rfl⟩
  by_cases he : e = 0
  · subst he
    obtain ⟨⟨b, m, f⟩, hh⟩ : ∃ g, gv 0 0 ((zs.drop 2).drop n) = g := ⟨_, rfl⟩
    by_cases hf : f = 0
    · subst hf
      cases ho : recOk (zs.getD 0 0) (zs.getD 1 0) l (l - b) with
      | false => rw [recD_form h1 h2 hg hh ho] at h; exact absurd h (by decide)
      | true =>
        rw [recD_ok h1 h2 hg hh ho]
        refine ⟨by omega, ho, ?_⟩
        have hp := ok_parts ho
        obtain ⟨x, _, hx1, hx2, hx3, hx4⟩ := gv_ok (zs.drop 2) 0 0 (hb.drop 2) (by rw [hg])
        obtain ⟨y, _, hy1, hy2, hy3, hy4⟩ := gv_ok ((zs.drop 2).drop n) 0 0 ((hb.drop 2).drop n) (by rw [hh])
        rw [hg] at hx1 hx2
        rw [hh] at hy1 hy2
        simp only [Nat.mul_zero, Int.pow_zero, Int.mul_one, Int.zero_add, Nat.zero_add] at hx1 hx2 hy1 hy2
        have hlx : l.toNat = x := by omega
        have hby : (l - (l - b)).toNat = y := by omega
        unfold recH
        rw [hlx, hby, List.append_assoc, List.append_assoc, ← hy4, ← hy2, List.take_append_drop, ← hx4, ← hx2, List.take_append_drop]
        match zs, h2 with
        | a :: b :: r, _ => simp
        | [a], h2 => exact absurd (by simp : [a].length < 2) h2
        | [], h2 => exact absurd (by simp : ([] : List Int).length < 2) h2
    · rw [recD_two h1 h2 hg hh hf] at h; exact absurd h hf
  · rw [recD_one h1 h2 hg he] at h; exact absurd h he
theorem awake_rec : recH 1 0 1 0 = [1, 0, 1, 1] := by
  unfold recH
  rw [show (1 : Int).toNat = 1 from rfl, show ((1 : Int) - 0).toNat = 1 from rfl, vb_small 1 (by decide)]
  rfl
end Go.Proofs.Ytnnkaddgbcdehaa
