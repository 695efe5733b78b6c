/-
  WHAT IS PUT IS GOT, AND THE OTHER WAY ABOUT: an operation's bytes (opB) and what bytes begin with (opG). Plain mathematics. No condition.
-/
import Derived.Test.YtmcfnlfaclkbhaaOpGet
namespace Go.Proofs.Ytmcfnlfaclkbhaa
open Go.RowKit
theorem right_parts {k : Int} {s t : ByteArray} (h : opRight k s t = true) : 1 ≤ s.size ∧ s.size ≤ 24 ∧ t.size ≤ 128 ∧ (k = 1 ∨ (k = 2 ∧ t.size = 0)) := of_decide_eq_true h
theorem opB_one (s t : ByteArray) (hs : s.size ≤ 65536) (ht : t.size ≤ 65536) : opB 1 s t = 1 :: (fb (sl s) ++ fb (sl t)) := by
  unfold opB
  rw [if_pos rfl, pk_one, pk_one, fo_small _ (by rw [sl_length]; exact hs), fo_small _ (by rw [sl_length]; exact ht)]
  simp
theorem opB_two (s t : ByteArray) (hs : s.size ≤ 65536) : opB 2 s t = 2 :: fb (sl s) := by
  unfold opB
  rw [if_neg (by decide), pk_one, fo_small _ (by rw [sl_length]; exact hs)]
  simp
theorem opB_bytes {k : Int} {s t : ByteArray} (h : opRight k s t = true) : isB (opB k s t) := by
  obtain ⟨h1, h2, h3, h4⟩ := right_parts h
  rcases h4 with rfl | ⟨rfl, h4⟩
  · rw [opB_one s t (by omega) (by omega)]
    intro x hx
    rcases List.mem_cons.1 hx with rfl | hx
    · omega
    · exact isB.append (fb_bytes (sl_bytes s)) (fb_bytes (sl_bytes t)) x hx
  · rw [opB_two s t (by omega)]
    intro x hx
    rcases List.mem_cons.1 hx with rfl | hx
    · omega
    · exact fb_bytes (sl_bytes s) x hx
theorem opB_len {k : Int} {s t : ByteArray} (h : opRight k s t = true) : (opB k s t).length ≤ 200 ∧ 0 < (opB k s t).length := by
  obtain ⟨h1, h2, h3, h4⟩ := right_parts h
  have hs := fb_len (sl s) (by rw [sl_length]; omega)
  have ht := fb_len (sl t) (by rw [sl_length]; omega)
  rw [sl_length] at hs ht
  rcases h4 with rfl | ⟨rfl, h4⟩
  · rw [opB_one s t (by omega) (by omega)]
    simp; omega
  · rw [opB_two s t (by omega)]
    simp; omega
/-- what is put is got, whatever stands behind -/
theorem op_got {k : Int} {s t : ByteArray} (h : opRight k s t = true) (rest : List Int) : opG (opB k s t ++ rest) = ((k, s, t), (opB k s t).length, 0) := by
  have hr := h
  obtain ⟨h1, h2, h3, h4⟩ := right_parts h
  have hs : (sl s).length ≤ 65536 := by rw [sl_length]; omega
  have ht : (sl t).length ≤ 65536 := by rw [sl_length]; omega
  rcases h4 with rfl | ⟨rfl, h4⟩
  · rw [opB_one s t (by omega) (by omega), List.cons_append, List.append_assoc]
    simp only [opG]
    rw [if_neg (by omega), gf_fb (sl s) _ hs, if_neg (by simp), if_pos trivial, List.drop_left, gf_fb (sl t) _ ht, if_neg (by simp), ls_sl, ls_sl, if_pos hr]
    simp
    omega
  · obtain rfl := size_zero h4
    rw [opB_two s _ (by omega), List.cons_append]
    simp only [opG]
    rw [if_neg (by omega), gf_fb (sl s) _ hs, if_neg (by simp), if_neg (by decide), ls_sl, if_pos hr]
    simp
    omega
/-- what is got is put by the same bytes -/
theorem op_back (zs : List Int) (hb : isB zs) (h : (opG zs).2.2 = 0) : opRight (opG zs).1.1 (opG zs).1.2.1 (opG zs).1.2.2 = true ∧ opB (opG zs).1.1 (opG zs).1.2.1 (opG zs).1.2.2 = zs.take (opG zs).2.1 ∧ (opG zs).2.1 ≤ zs.length ∧ 0 < (opG zs).2.1 := by
  cases zs with
  | nil => simp [opG] at h
  | cons z r =>
    have hbr : isB r := fun x hx => hb x (List.mem_cons_of_mem _ hx)
    simp only [opG] at h ⊢
    split at h
    · simp at h
    · rename_i hk
      rw [if_neg hk]
      split at h
      · rename_i he; exact absurd h he
      · rename_i he
        rw [if_neg he]
        have he0 : (gf r).2.2 = 0 := by simpa using he
        obtain ⟨f, r2, e1, e2, e3⟩ := gf_ok r hbr he0
        have hf : isB f := fun x hx => hbr x (by rw [e1]; exact List.mem_append_left _ (by unfold fb; exact List.mem_append_right _ hx))
        rw [e3] at h ⊢
        simp only at h ⊢
        split at h
        · rename_i hz
          rw [if_pos hz]
          rw [e1, List.drop_left] at h ⊢
          have hbr2 : isB r2 := fun x hx => hbr x (by rw [e1]; exact List.mem_append_right _ hx)
          split at h
          · rename_i he2; exact absurd h he2
          · rename_i he2
            rw [if_neg he2]
            obtain ⟨g, r3, g1, g2, g3⟩ := gf_ok r2 hbr2 (by simpa using he2)
            have hg : isB g := fun x hx => hbr2 x (by rw [g1]; exact List.mem_append_left _ (by unfold fb; exact List.mem_append_right _ hx))
            rw [g3] at h ⊢
            simp only at h ⊢
            split at h
            · rename_i hr
              rw [if_pos hr]
              refine ⟨hr, ?_, ?_, ?_⟩
              · obtain ⟨p1, p2, p3, _⟩ := right_parts hr
                rw [opB_one _ _ (by rw [ls_size]; exact e2) (by rw [ls_size]; exact g2), sl_ls f hf, sl_ls g hg, g1, hz]
                rw [show 1 + (fb f).length + (fb g).length = ((fb f ++ fb g).length) + 1 from by simp; omega, List.take_succ_cons, ← List.append_assoc, List.take_left]
              · rw [g1]; simp; omega
              · simp; omega
            · simp at h
        · rename_i hz
          rw [if_neg hz]
          have hz2 : z = 2 := by omega
          split at h
          · rename_i hr
            rw [if_pos hr]
            refine ⟨hr, ?_, ?_, ?_⟩
            · rw [opB_two _ _ (by rw [ls_size]; exact e2), sl_ls f hf, e1, hz2]
              rw [show 1 + (fb f).length = ((fb f).length) + 1 from by omega, List.take_succ_cons, List.take_left]
            · rw [e1]; simp; omega
            · show 0 < 1 + (fb f).length
              omega
          · simp at h
/-- beside an error there is nothing -/
theorem op_none (zs : List Int) (h : (opG zs).2.2 ≠ 0) : (opG zs).1 = noO ∧ (opG zs).2.1 = 0 := by
  cases zs with
  | nil => exact ⟨rfl, rfl⟩
  | cons z r =>
    simp only [opG] at h ⊢
    repeat' split
    all_goals first
      | exact ⟨rfl, rfl⟩
      | (exfalso; simp_all)
end Go.Proofs.Ytmcfnlfaclkbhaa
