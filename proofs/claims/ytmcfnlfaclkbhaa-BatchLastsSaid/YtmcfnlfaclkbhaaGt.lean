/-
  TEXTS IN THEIR ORDER (byte by byte): gtN, what it comes to; what a run of '>', '>=', '!=' of texts answers. Plain. No condition.
-/
import Derived.Test.YtmcfnlfaclkbhaaBase
import Derived.Sort.Walk0
namespace Go.Proofs.Ytmcfnlfaclkbhaa
open Go.RowKit
/-- n more than m, of names -/
def gtN (n m : ByteArray) : Bool := !(Op.bytesLess n.toList m.toList || n.toList == m.toList)
theorem gtr_run {P : Program} (t : TypeId) (a b : ByteArray) (w : World) : (binOp .gtr t (.string a) (.string b)).run P w = .ok (.bool (gtN a b)) w := by
  simp [binOp, Op.stringOp, gtN]
theorem gtN_iff (n m : ByteArray) : gtN n m = true ↔ m.toList < n.toList := by
  unfold gtN
  rw [Proofs.bytesLess_eq]
  simp only [Bool.not_eq_true', Bool.or_eq_false_iff, decide_eq_false_iff_not, beq_eq_false_iff_ne]
  constructor
  · rintro ⟨h1, h2⟩
    rcases List.le_iff_lt_or_eq.1 (List.not_lt.1 h1) with h | h
    · exact h
    · exact absurd h.symm h2
  · intro h
    exact ⟨fun h2 => List.lt_irrefl _ (List.lt_trans h h2), fun h2 => List.lt_irrefl _ (h2 ▸ h)⟩
theorem gtN_trans {a b c : ByteArray} (h : gtN a b = true) (k : gtN b c = true) : gtN a c = true :=
  (gtN_iff _ _).2 (List.lt_trans ((gtN_iff _ _).1 k) ((gtN_iff _ _).1 h))
theorem toList_inj {a b : ByteArray} (h : a.toList = b.toList) : a = b := by
  by_cases hq : a = b
  · exact hq
  · have := str_ne hq; rw [h] at this; simp at this
theorem gtN_total {a b : ByteArray} (h : gtN a b = false) (hne : a ≠ b) : gtN b a = true := by
  rw [gtN_iff]
  have h1 : ¬ b.toList < a.toList := fun h2 => by rw [(gtN_iff a b).2 h2] at h; exact absurd h (by simp)
  rcases List.le_iff_lt_or_eq.1 (List.not_lt.1 h1) with h2 | h2
  · exact h2
  · exact absurd (toList_inj h2) hne
theorem gtN_ne {a b : ByteArray} (h : gtN a b = true) : a ≠ b := by
  rintro rfl; exact List.lt_irrefl _ ((gtN_iff _ _).1 h)
theorem geq_run {P : Program} (t : TypeId) (a b : ByteArray) (w : World) : (binOp .geq t (.string a) (.string b)).run P w = .ok (.bool (!gtN b a)) w := by
  have h : (!gtN b a) = !Op.bytesLess a.toList b.toList := by
    rw [Bool.eq_iff_iff]
    simp only [Bool.not_eq_true']
    rw [Proofs.bytesLess_eq]
    have h1 := gtN_iff b a
    cases hg : gtN b a <;> simp [hg] at h1 ⊢ <;> first | exact h1 | exact List.not_lt.1 h1 | exact fun q => h1 q
  rw [h]
  simp [binOp, Op.stringOp]
end Go.Proofs.Ytmcfnlfaclkbhaa
