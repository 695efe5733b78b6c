/-
  TEXTS JOINED: CutPc, ImgMath, ScanWhere, ScanRun, ScanKeep, CrashRef, ScanCrash. Each one's own words stand at its head.
-/
import Derived.Test.YtnmplnemnfonfaaGreatDoorJ21
import Derived.Test.YtnmplnemnfonfaaGreatDoorJ11
import Derived.Test.YtnmplnemnfonfaaGreatDoorJ12
import Derived.Test.YtnmplnemnfonfaaGreatDoorJ5
import Derived.Test.YtnmplnemnfonfaaGreatDoorJ15
import Derived.Test.YtnmplnemnfonfaaGreatDoorJ3
import Derived.Test.YtnmplnemnfonfaaGreatDoorJ1
import Derived.Test.YtnmplnemnfonfaaGreatDoorJ14
namespace Go.Proofs.YtnmplnemnfonfaaGreatDoor
theorem Cuts.at_ {a n m j : Nat} (hc : Cuts a n m) (hf : Fit a n) (hj : j < m) : Run a n j ∧ Step a n j := by
  have hr := hc.2.2.2 j (by omega)
  have hi : j = 0 ∨ fS a n j < n := by
    by_cases h0 : j = 0
    · exact .inl h0
    · exact .inr (hc.2.2.1 j (by omega) hj)
  exact ⟨hr, hr.step (hr.go hi hf)⟩
theorem pcs_len (x n : Int) : (pcsI x n).length ≤ 75 := by
  cases hq : fitI x n with
  | false => rw [(told_no hq).1]; simp
  | true =>
    obtain ⟨k, m, rfl, hk, hm, hc, hf⟩ := told_of hq
    rw [(told_yes hc hf).2.1, firstP_len]; exact hm
def frOf (ep : Int) (zs : List Int) (c : PC) : FR := ⟨c.kind, ep, (zs.drop c.from_.toNat).take (c.to.toNat - c.from_.toNat)⟩
theorem frOf_data {ep : Int} {zs : List Int} {c : PC} {l k : Nat} (h1 : c.from_ = (l : Int)) (h2 : c.to = ((l + k : Nat) : Int)) : frOf ep zs c = ⟨c.kind, ep, (zs.drop l).take k⟩ := by
  unfold frOf
  rw [h1, h2, Int.toNat_natCast, Int.toNat_natCast, Nat.add_sub_cancel_left]
end Go.Proofs.YtnmplnemnfonfaaGreatDoor
namespace Go.Proofs.YtnmplnemnfonfaaGreatDoor
open Go.RowKit
structure PcFit (a n : Nat) (c : PC) (q l k : Nat) : Prop where
  at_ : c.at_ = (q : Int)
  from_ : c.from_ = (l : Int)
  to : c.to = ((l + k : Nat) : Int)
  room : q + 11 + k ≤ 832
  upto : l + k ≤ n
  most : k ≤ 197
  k1 : 1 ≤ c.kind
  k4 : c.kind ≤ 4
  ge : a ≤ q
theorem begin_ge (a : Nat) : a ≤ beginN a := by unfold beginN; split <;> omega
theorem pS_up (a n : Nat) : ∀ i, a ≤ pS a n i
  | 0 => Nat.le_refl _
  | i + 1 => by
    have h := pS_up a n i
    have h2 := begin_ge (pS a n i)
    rw [pS_next]
    unfold bS
    omega
theorem kind_bd (b c : Bool) : 1 ≤ kindN b c ∧ kindN b c ≤ 4 := by cases b <;> cases c <;> decide
theorem left_le208 (a : Nat) : leftN a ≤ 208 := by unfold leftN; split <;> omega
theorem pc_fit {x n : Int} {i : Nat} {c : PC} (h : (pcsI x n)[i]? = some c) : ∃ (m q l k : Nat), n = (m : Int) ∧ PcFit (nr x) m c q l k := by
  cases hq : fitI x n with
  | false => rw [(told_no hq).1] at h; simp at h
  | true =>
    obtain ⟨m, j, rfl, hk, hm, hc, hf⟩ := told_of hq
    rw [(told_yes hc hf).2.1] at h
    have hi : i < j := by have := (List.getElem?_eq_some_iff.1 h).1; rwa [firstP_len] at this
    rw [firstP_get _ _ _ _ hi] at h
    obtain rfl := Option.some.inj h
    obtain ⟨_, hs⟩ := hc.at_ hf hi
    have h1 := hs.f_ge
    have h2 := hs.f_le
    have h3 := hs.lle
    have h4 := hs.fits
    have h5 := left_le208 (bS (nr x) m i)
    have h6 := pS_up (nr x) m i
    have h7 := begin_ge (pS (nr x) m i)
    have hkd := kind_bd (decide (i = 0)) (decide (fS (nr x) m (i + 1) = m))
    exact ⟨m, bS (nr x) m i, fS (nr x) m i, fS (nr x) m (i + 1) - fS (nr x) m i, rfl, rfl, rfl, by show ((fS (nr x) m (i + 1) : Nat) : Int) = _; omega, by omega, by omega, by omega, hkd.1, hkd.2, by unfold bS; omega⟩
theorem end_gt {x n : Int} (h : fitI x n = true) : nr x < endI x n ∧ endI x n ≤ 832 := by
  obtain ⟨m, j, rfl, hk, hm, hc, hf⟩ := told_of h
  rw [(told_yes hc hf).2.2]
  have h0 := hc.1
  obtain ⟨i, rfl⟩ : ∃ i, j = i + 1 := ⟨j - 1, by omega⟩
  have h1 := pS_up (nr x) m i
  have h2 := begin_ge (pS (nr x) m i)
  have h3 := (hc.2.2.2 (i + 1) (Nat.le_refl _)).p_le
  rw [pS_next] at h3 ⊢
  unfold bS at h3 ⊢
  omega
theorem end_le (x n : Int) : endI x n ≤ 832 := by
  cases h : fitI x n with
  | true => exact (end_gt h).2
  | false => rw [(told_no h).2]; omega
def pcB (ep : Int) (zs : List Int) (c : PC) : List Int := fragB c.kind ep (frOf ep zs c).data
def layP (ep : Int) (zs : List Int) (b : List Int) (ps : List PC) : List Int := ps.foldl (fun b c => splice b c.at_.toNat (pcB ep zs c)) b
theorem layP_nil (ep : Int) (zs b : List Int) : layP ep zs b [] = b := rfl
theorem layP_snoc (ep : Int) (zs b : List Int) (ps : List PC) (c : PC) : layP ep zs b (ps ++ [c]) = splice (layP ep zs b ps) c.at_.toNat (pcB ep zs c) := by simp [layP]
theorem layP_next (ep : Int) (zs b : List Int) (ps : List PC) (i : Nat) (c : PC) (h : ps[i]? = some c) : layP ep zs b (ps.take (i + 1)) = splice (layP ep zs b (ps.take i)) c.at_.toNat (pcB ep zs c) := by
  rw [List.take_add_one, h]
  exact layP_snoc ep zs b _ c
theorem PcFit.data {a n : Nat} {c : PC} {q l k : Nat} (h : PcFit a n c q l k) (ep : Int) (zs : List Int) : (frOf ep zs c).data = (zs.drop l).take k := by rw [frOf_data h.from_ h.to]
theorem PcFit.len {a n : Nat} {c : PC} {q l k : Nat} (h : PcFit a n c q l k) (ep : Int) (zs : List Int) (hz : zs.length = n) : (pcB ep zs c).length = 11 + k := by
  have := h.upto
  unfold pcB
  rw [fragB_length, h.data, List.length_take, List.length_drop]
  omega
theorem splice_len (b : List Int) (q : Nat) (x : List Int) (h : q + x.length ≤ b.length) : (splice b q x).length = b.length := by
  unfold splice; simp; omega
theorem splice_take (b : List Int) (q : Nat) (x : List Int) (m : Nat) (h : m ≤ q) (hq : q ≤ b.length) : (splice b q x).take m = b.take m := by
  unfold splice
  rw [List.take_append_of_le_length (by simp; omega), List.take_take, Nat.min_eq_left h]
theorem layP_len {ep : Int} {zs b : List Int} (hb : b.length = 832) {x : Int} : ∀ i, (layP ep zs b ((pcsI x zs.length).take i)).length = 832
  | 0 => by simpa [layP] using hb
  | i + 1 => by
    have ih := layP_len (ep := ep) (zs := zs) hb (x := x) i
    cases h : (pcsI x zs.length)[i]? with
    | none => rw [List.take_add_one, h]; simpa using ih
    | some c =>
      obtain ⟨m, q, l, k, hm, hf⟩ := pc_fit h
      have hr := hf.room
      rw [layP_next _ _ _ _ _ _ h, splice_len, ih]
      rw [hf.len ep zs (by omega), hf.at_, ih, Int.toNat_natCast]; omega
theorem layP_take {ep : Int} {zs b : List Int} (hb : b.length = 832) {x : Int} : ∀ i, (layP ep zs b ((pcsI x zs.length).take i)).take (nr x) = b.take (nr x)
  | 0 => by simp [layP]
  | i + 1 => by
    have ih := layP_take (ep := ep) (zs := zs) hb (x := x) i
    cases h : (pcsI x zs.length)[i]? with
    | none => rw [List.take_add_one, h]; simpa using ih
    | some c =>
      obtain ⟨m, q, l, k, hm, hf⟩ := pc_fit h
      have hr := hf.room
      have hg := hf.ge
      rw [layP_next _ _ _ _ _ _ h, splice_take _ _ _ _ (by rw [hf.at_, Int.toNat_natCast]; exact hg) (by rw [layP_len hb, hf.at_, Int.toNat_natCast]; omega), ih]
noncomputable def layR (ep : Int) (b : List Int) (x : Int) (zs : List Int) : List Int := layP ep zs b (pcsI x zs.length)
theorem layR_all (ep : Int) (b : List Int) (x : Int) (zs : List Int) (i : Nat) (h : (pcsI x zs.length).length ≤ i) : layP ep zs b ((pcsI x zs.length).take i) = layR ep b x zs := by rw [List.take_of_length_le h]; rfl
theorem layR_len {ep : Int} {b zs : List Int} {x : Int} (hb : b.length = 832) : (layR ep b x zs).length = 832 := by
  rw [← layR_all _ _ _ _ _ (Nat.le_refl _)]; exact layP_len hb _
theorem layR_take {ep : Int} {b zs : List Int} {x : Int} (hb : b.length = 832) : (layR ep b x zs).take (nr x) = b.take (nr x) := by
  rw [← layR_all _ _ _ _ _ (Nat.le_refl _)]; exact layP_take hb _
theorem layP_bytes {ep : Int} {zs b : List Int} (hb : isB b) (hz : isB zs) {x : Int} : ∀ i, isB (layP ep zs b ((pcsI x zs.length).take i))
  | 0 => by simpa [layP] using hb
  | i + 1 => by
    have ih := layP_bytes (ep := ep) hb hz (x := x) i
    cases h : (pcsI x zs.length)[i]? with
    | none => rw [List.take_add_one, h]; simpa using ih
    | some c =>
      obtain ⟨m, q, l, k, hm, hf⟩ := pc_fit h
      rw [layP_next _ _ _ _ _ _ h]
      have h2 : isB (pcB ep zs c) := fragB_bytes (by have := hf.k1; have := hf.k4; omega) ep (by rw [hf.data]; exact (hz.drop _).take _)
      unfold splice
      exact (ih.take _).append (h2.append (ih.drop _))
theorem layR_bytes {ep : Int} {b zs : List Int} {x : Int} (hb : isB b) (hz : isB zs) : isB (layR ep b x zs) := by
  rw [← layR_all _ _ _ _ _ (Nat.le_refl _)]; exact layP_bytes hb hz _
def z832 : List Int := List.replicate 832 0
noncomputable def endF (ls : List (List Int)) : Nat := ls.foldl (fun a z => endI (a : Nat) z.length) 0
noncomputable def bodyF (ep : Int) (ls : List (List Int)) : List Int := (ls.foldl (fun s z => (layR ep s.1 (s.2 : Nat) z, endI (s.2 : Nat) z.length)) (z832, 0)).1
noncomputable def placesF (ls : List (List Int)) : List Int := (List.range ls.length).map fun k => ((beginN (endF (ls.take k)) : Nat) : Int)
noncomputable def fitsF (ls : List (List Int)) : Bool := (List.range ls.length).all fun k => fitI (endF (ls.take k) : Nat) (ls.getD k []).length
theorem endF_nil : endF [] = 0 := rfl
theorem endF_snoc (ls : List (List Int)) (z : List Int) : endF (ls ++ [z]) = endI (endF ls : Nat) z.length := by simp [endF]
theorem endF_le : ∀ ls : List (List Int), endF ls ≤ 832 := fun ls => by
  rcases List.eq_nil_or_concat ls with rfl | ⟨l, z, rfl⟩
  · rw [endF_nil]; omega
  · rw [List.concat_eq_append, endF_snoc]; exact end_le _ _
theorem bodyF_state (ep : Int) (ls : List (List Int)) : (ls.foldl (fun s z => (layR ep s.1 (s.2 : Nat) z, endI (s.2 : Nat) z.length)) ((z832, 0) : List Int × Nat)).2 = endF ls := by
  unfold endF
  generalize (0 : Nat) = a
  generalize z832 = b
  induction ls generalizing a b with
  | nil => rfl
  | cons z l ih => exact ih _ _
theorem bodyF_nil (ep : Int) : bodyF ep [] = z832 := rfl
theorem bodyF_snoc (ep : Int) (ls : List (List Int)) (z : List Int) : bodyF ep (ls ++ [z]) = layR ep (bodyF ep ls) (endF ls : Nat) z := by
  have h := bodyF_state ep ls
  unfold bodyF at *
  rw [List.foldl_append]
  simp only [List.foldl_cons, List.foldl_nil]
  rw [h]
theorem placesF_nil : placesF [] = [] := rfl
theorem placesF_len (ls : List (List Int)) : (placesF ls).length = ls.length := by simp [placesF]
theorem placesF_snoc (ls : List (List Int)) (z : List Int) : placesF (ls ++ [z]) = placesF ls ++ [((beginN (endF ls) : Nat) : Int)] := by
  unfold placesF
  rw [List.length_append, List.length_singleton, List.range_succ, List.map_append]
  congr 1
  · refine List.map_congr_left fun k hk => ?_
    have : k < ls.length := List.mem_range.1 hk
    rw [List.take_append_of_le_length (by omega)]
  · simp
def BadF (ls : List (List Int)) : Prop := ∃ k, k < ls.length ∧ fitI (endF (ls.take k) : Nat) (ls.getD k []).length = false
def GoodF (ls : List (List Int)) (k : Nat) : Prop := ∀ j, j < k → fitI (endF (ls.take j) : Nat) (ls.getD j []).length = true
theorem fitsF_bad {ls : List (List Int)} (h : BadF ls) : fitsF ls = false := by
  obtain ⟨k, hk, hf⟩ := h
  unfold fitsF
  rw [Bool.eq_false_iff]
  intro h
  have := List.all_eq_true.1 h k (List.mem_range.2 hk)
  rw [hf] at this; cases this
theorem fitsF_good {ls : List (List Int)} (h : GoodF ls ls.length) : fitsF ls = true := by
  unfold fitsF
  exact List.all_eq_true.2 fun k hk => h k (List.mem_range.1 hk)
theorem fitsF_iff (ls : List (List Int)) : fitsF ls = true ↔ GoodF ls ls.length := by
  refine ⟨fun h k hk => ?_, fitsF_good⟩
  unfold fitsF at h
  exact List.all_eq_true.1 h k (List.mem_range.2 hk)
theorem GoodF.zero (ls : List (List Int)) : GoodF ls 0 := fun j hj => absurd hj (by omega)
theorem GoodF.next {ls : List (List Int)} {k : Nat} (h : GoodF ls k) (hf : fitI (endF (ls.take k) : Nat) (ls.getD k []).length = true) : GoodF ls (k + 1) := fun j hj => by
  by_cases e : j = k
  · subst e; exact hf
  · exact h j (by omega)
theorem take_next (ls : List (List Int)) (k : Nat) (hk : k < ls.length) : ls.take (k + 1) = ls.take k ++ [ls.getD k []] := by
  rw [List.take_add_one]; simp [List.getD, hk]
theorem endF_next (ls : List (List Int)) (k : Nat) (hk : k < ls.length) : endF (ls.take (k + 1)) = endI (endF (ls.take k) : Nat) (ls.getD k []).length := by rw [take_next ls k hk, endF_snoc]
theorem bodyF_next (ep : Int) (ls : List (List Int)) (k : Nat) (hk : k < ls.length) : bodyF ep (ls.take (k + 1)) = layR ep (bodyF ep (ls.take k)) (endF (ls.take k) : Nat) (ls.getD k []) := by rw [take_next ls k hk, bodyF_snoc]
theorem placesF_next (ls : List (List Int)) (k : Nat) (hk : k < ls.length) : placesF (ls.take (k + 1)) = placesF (ls.take k) ++ [((beginN (endF (ls.take k)) : Nat) : Int)] := by rw [take_next ls k hk, placesF_snoc]
theorem bodyF_at (ep : Int) (ls : List (List Int)) : ∀ k, k ≤ ls.length → (bodyF ep (ls.take k)).length = 832
  | 0, _ => by rw [List.take_zero, bodyF_nil]; exact List.length_replicate
  | k + 1, h => by rw [bodyF_next ep ls k (by omega)]; exact layR_len (bodyF_at ep ls k (by omega))
theorem bodyF_len (ep : Int) (ls : List (List Int)) : (bodyF ep ls).length = 832 := by
  have := bodyF_at ep ls ls.length (Nat.le_refl _)
  rwa [List.take_length] at this
theorem bodyF_bytes {ep : Int} (ls : List (List Int)) (hl : ∀ z ∈ ls, isB z) : ∀ k, k ≤ ls.length → isB (bodyF ep (ls.take k))
  | 0, _ => by rw [List.take_zero, bodyF_nil]; intro x hx; have := List.eq_of_mem_replicate hx; omega
  | k + 1, h => by
    rw [bodyF_next ep ls k (by omega)]
    exact layR_bytes (bodyF_bytes ls hl k (by omega)) (hl _ (by simp [List.getD, show k < ls.length by omega]))
theorem fitsF_snoc (ls : List (List Int)) (z : List Int) : fitsF (ls ++ [z]) = (fitsF ls && fitI (endF ls : Nat) z.length) := by
  rw [Bool.eq_iff_iff, Bool.and_eq_true, fitsF_iff, fitsF_iff]
  have hlow : ∀ k, k < ls.length → (ls ++ [z]).take k = ls.take k ∧ (ls ++ [z]).getD k [] = ls.getD k [] := fun k hk =>
    ⟨List.take_append_of_le_length (by omega), by simp [List.getD, List.getElem?_append_left hk]⟩
  have htop : (ls ++ [z]).take ls.length = ls ∧ (ls ++ [z]).getD ls.length [] = z := ⟨by simp, by simp [List.getD]⟩
  have hlen : (ls ++ [z]).length = ls.length + 1 := by simp
  rw [hlen]
  constructor
  · intro h
    refine ⟨fun k hk => ?_, ?_⟩
    · have := h k (by omega)
      rwa [(hlow k hk).1, (hlow k hk).2] at this
    · have := h ls.length (by omega)
      rwa [htop.1, htop.2] at this
  · rintro ⟨h1, h2⟩ k hk
    by_cases e : k < ls.length
    · rw [(hlow k e).1, (hlow k e).2]; exact h1 k e
    · obtain rfl : k = ls.length := by omega
      rw [htop.1, htop.2]; exact h2
end Go.Proofs.YtnmplnemnfonfaaGreatDoor
namespace Go.Proofs.YtnmplnemnfonfaaGreatDoor
open Go.RowKit
theorem splice_hi (b : List Int) (q : Nat) (x : List Int) (hf : q + x.length ≤ b.length) (j : Nat) (hj : j < x.length) : (splice b q x).getD (q + j) 0 = x.getD j 0 := by
  simp only [List.getD]
  rw [splice_get b q x hf, if_neg (by omega), if_pos (by omega), Nat.add_sub_cancel_left]
theorem splice_out (b : List Int) (q : Nat) (x : List Int) (hf : q + x.length ≤ b.length) (j : Nat) (hj : j < q ∨ q + x.length ≤ j) : (splice b q x).getD j 0 = b.getD j 0 := by
  simp only [List.getD]
  rw [splice_get b q x hf]
  rcases hj with h | h
  · rw [if_pos h]
  · rw [if_neg (by omega), if_neg (by omega)]
def frI (ep : Int) (a : Nat) (zs : List Int) (i : Nat) : FR := ⟨kindN (decide (i = 0)) (decide (fS a zs.length (i + 1) = zs.length)), ep, (zs.drop (fS a zs.length i)).take (fS a zs.length (i + 1) - fS a zs.length i)⟩
def szF (a : Nat) (zs : List Int) (i : Nat) : Nat := 11 + (fS a zs.length (i + 1) - fS a zs.length i)
def frB (ep : Int) (a : Nat) (zs : List Int) (i : Nat) : List Int := fragB (frI ep a zs i).kind ep (frI ep a zs i).data
theorem pcB_frB (ep : Int) (a : Nat) (zs : List Int) (i : Nat) : pcB ep zs (pcS a zs.length i) = frB ep a zs i := by
  unfold pcB frB frI frOf pcS
  simp only [Int.toNat_natCast]
structure Laid (a : Nat) (zs : List Int) (m : Nat) : Prop where
  cuts : Cuts a zs.length m
  fit : Fit a zs.length
  pcs : pcsI (a : Int) zs.length = firstP a zs.length m
  end_ : endI (a : Int) zs.length = pS a zs.length m
  ha : a ≤ 832
theorem laid_of {a : Nat} {zs : List Int} (ha : a ≤ 832) (h : fitI (a : Int) zs.length = true) : ∃ m, Laid a zs m := by
  obtain ⟨k, m, hk, _, _, hc, hf⟩ := told_of h
  obtain rfl : zs.length = k := by omega
  have hn := nr_nat a ha
  obtain ⟨_, h2, h3⟩ := told_yes hc hf
  rw [hn] at hc hf h2 h3
  exact ⟨m, hc, hf, h2, h3, ha⟩
section
variable {a m : Nat} {zs : List Int}
theorem Laid.step (h : Laid a zs m) {i : Nat} (hi : i < m) : Run a zs.length i ∧ Step a zs.length i := h.cuts.at_ h.fit hi
theorem Laid.data (h : Laid a zs m) {i : Nat} (hi : i < m) (ep : Int) : (frI ep a zs i).data.length = fS a zs.length (i + 1) - fS a zs.length i := by
  obtain ⟨_, hs⟩ := h.step hi
  have h1 := hs.f_ge
  have h2 := hs.f_le
  show ((zs.drop _).take _).length = _
  rw [List.length_take, List.length_drop]; omega
theorem Laid.len (h : Laid a zs m) {i : Nat} (hi : i < m) (ep : Int) : (frB ep a zs i).length = szF a zs i := by
  unfold frB szF
  rw [fragB_length, h.data hi]
theorem Laid.room (h : Laid a zs m) {i : Nat} (hi : i < m) : bS a zs.length i + szF a zs i = pS a zs.length (i + 1) ∧ pS a zs.length (i + 1) ≤ 832 ∧ szF a zs i ≤ leftN (bS a zs.length i) ∧ pS a zs.length i ≤ bS a zs.length i ∧ bS a zs.length i % 52 ≤ 41 ∧ bS a zs.length i ≠ 832 := by
  obtain ⟨hr, hs⟩ := h.step hi
  have h1 := hs.p_eq
  have h2 := (h.cuts.2.2.2 (i + 1) (by omega)).p_le
  have h3 := hs.fits
  have h4 := begin_ge (pS a zs.length i)
  have h5 := begin_room (pS a zs.length i) hr.p_le
  unfold szF
  refine ⟨by omega, h2, h3, h4, ?_, ?_⟩
  · rcases h5 with h5 | ⟨_, h5⟩
    · have : bS a zs.length i = 832 := h5
      have h6 := hs.l11
      rw [this] at h6
      exact absurd h6 (by decide)
    · exact h5
  · intro e
    have h6 := hs.l11
    rw [e] at h6
    exact absurd h6 (by decide)
theorem Laid.mono (h : Laid a zs m) {i : Nat} : ∀ {t : Nat}, i ≤ t → t ≤ m → pS a zs.length i ≤ pS a zs.length t
  | 0, hi, _ => by obtain rfl : i = 0 := by omega
                   exact Nat.le_refl _
  | t + 1, hi, ht => by
    by_cases e : i = t + 1
    · subst e; exact Nat.le_refl _
    · have ih := Laid.mono h (i := i) (t := t) (by omega) (by omega)
      obtain ⟨h1, _, _, h4, _⟩ := h.room (i := t) (by omega)
      omega
theorem Laid.lay_len (h : Laid a zs m) {ep : Int} {b : List Int} (hb : b.length = 832) (t : Nat) : (layP ep zs b ((firstP a zs.length m).take t)).length = 832 := by
  rw [← h.pcs]; exact layP_len hb t
theorem Laid.lay_next (_h : Laid a zs m) {ep : Int} {b : List Int} {t : Nat} (ht : t < m) : layP ep zs b ((firstP a zs.length m).take (t + 1)) = splice (layP ep zs b ((firstP a zs.length m).take t)) (bS a zs.length t) (frB ep a zs t) := by
  rw [layP_next ep zs b _ t _ (firstP_get a zs.length m t ht), pcB_frB]
  rfl
theorem Laid.lay_fit (h : Laid a zs m) {ep : Int} {b : List Int} (hb : b.length = 832) {t : Nat} (ht : t < m) : bS a zs.length t + (frB ep a zs t).length ≤ (layP ep zs b ((firstP a zs.length m).take t)).length := by
  obtain ⟨h1, h2, _⟩ := h.room ht
  rw [h.lay_len hb, h.len ht]; omega
theorem Laid.lay_at (h : Laid a zs m) {ep : Int} {b : List Int} (hb : b.length = 832) {i : Nat} : ∀ t, i < t → t ≤ m → ∀ j, j < szF a zs i → (layP ep zs b ((firstP a zs.length m).take t)).getD (bS a zs.length i + j) 0 = (frB ep a zs i).getD j 0
  | 0, hi, _, _, _ => absurd hi (by omega)
  | t + 1, hi, ht, j, hj => by
    have hf := h.lay_fit (ep := ep) hb (show t < m from ht)
    have hl := h.len (show t < m from ht) ep
    rw [h.lay_next ht]
    by_cases e : i = t
    · subst e
      exact splice_hi _ _ _ hf j (by omega)
    · obtain ⟨h1, _⟩ := h.room (i := i) (by omega)
      obtain ⟨_, _, _, h4, _⟩ := h.room (show t < m from ht)
      have h5 := h.mono (i := i + 1) (t := t) (by omega) (by omega)
      rw [splice_out _ _ _ hf _ (.inl (by omega))]
      exact Laid.lay_at h hb t (by omega) (by omega) j hj
theorem Laid.lay_out (h : Laid a zs m) {ep : Int} {b : List Int} (hb : b.length = 832) : ∀ t, t ≤ m → ∀ j, pS a zs.length t ≤ j → (layP ep zs b ((firstP a zs.length m).take t)).getD j 0 = b.getD j 0
  | 0, _, j, _ => by rw [List.take_zero, layP_nil]
  | t + 1, ht, j, hj => by
    have hf := h.lay_fit (ep := ep) hb (show t < m from ht)
    have hl := h.len (show t < m from ht) ep
    obtain ⟨h1, _, _, h4, _⟩ := h.room (show t < m from ht)
    rw [h.lay_next ht, splice_out _ _ _ hf _ (.inr (by omega))]
    exact Laid.lay_out h hb t (by omega) j (by omega)
theorem Laid.rec_ (h : Laid a zs m) (ep : Int) (b : List Int) : layR ep b (a : Int) zs = layP ep zs b ((firstP a zs.length m).take m) := by
  unfold layR
  rw [h.pcs, List.take_of_length_le (by rw [firstP_len]; exact Nat.le_refl _)]
theorem Laid.low (h : Laid a zs m) {ep : Int} {b : List Int} (hb : b.length = 832) {j : Nat} (hj : j < a) : (layR ep b (a : Int) zs).getD j 0 = b.getD j 0 := by
  have h1 := layR_take (ep := ep) (zs := zs) (x := (a : Int)) hb
  rw [nr_nat a h.ha] at h1
  have h2 := congrArg (fun l => l.getD j 0) h1
  simpa [List.getD, List.getElem?_take, hj] using h2
theorem Laid.up (h : Laid a zs m) : a ≤ pS a zs.length m := by
  have := h.mono (i := 0) (t := m) (Nat.zero_le _) (Nat.le_refl _)
  rwa [pS_zero] at this
end
section
variable {ls : List (List Int)} (hg : GoodF ls ls.length)
include hg
theorem laid_k {k : Nat} (hk : k < ls.length) : ∃ m, Laid (endF (ls.take k)) (ls.getD k []) m := laid_of (endF_le _) (hg k hk)
theorem end_step {k : Nat} (hk : k < ls.length) : endF (ls.take k) ≤ endF (ls.take (k + 1)) := by
  obtain ⟨m, h⟩ := laid_k hg hk
  rw [endF_next ls k hk, h.end_]
  exact h.up
theorem end_mono {k : Nat} : ∀ {t : Nat}, k ≤ t → t ≤ ls.length → endF (ls.take k) ≤ endF (ls.take t)
  | 0, hk, _ => by obtain rfl : k = 0 := by omega
                   exact Nat.le_refl _
  | t + 1, hk, ht => by
    by_cases e : k = t + 1
    · subst e; exact Nat.le_refl _
    · exact Nat.le_trans (end_mono (t := t) (by omega) (by omega)) (end_step hg (by omega))
theorem body_out (ep : Int) : ∀ k, k ≤ ls.length → ∀ j, endF (ls.take k) ≤ j → (bodyF ep (ls.take k)).getD j 0 = 0
  | 0, _, j, _ => by rw [List.take_zero, bodyF_nil]; unfold z832; simp only [List.getD, List.getElem?_replicate]; split <;> rfl
  | k + 1, hk, j, hj => by
    obtain ⟨m, h⟩ := laid_k hg (k := k) (by omega)
    have hb := bodyF_at ep ls k (by omega)
    have hs := end_step hg (k := k) (by omega)
    rw [endF_next ls k (by omega), h.end_] at hj
    rw [bodyF_next ep ls k (by omega), h.rec_, h.lay_out hb m (Nat.le_refl _) j hj]
    exact body_out ep k (by omega) j (by have := h.up; omega)
theorem body_pre (ep : Int) {k : Nat} : ∀ {t : Nat}, k ≤ t → t ≤ ls.length → ∀ j, j < endF (ls.take k) → (bodyF ep (ls.take t)).getD j 0 = (bodyF ep (ls.take k)).getD j 0
  | 0, hk, _, j, _ => by obtain rfl : k = 0 := by omega
                         rfl
  | t + 1, hk, ht, j, hj => by
    by_cases e : k = t + 1
    · subst e; rfl
    · obtain ⟨m, h⟩ := laid_k hg (k := t) (by omega)
      have hm := end_mono hg (k := k) (t := t) (by omega) (by omega)
      rw [bodyF_next ep ls t (by omega), h.low (bodyF_at ep ls t (by omega)) (by omega)]
      exact body_pre ep (t := t) (by omega) (by omega) j hj
theorem body_at (ep : Int) {k m i : Nat} (hk : k < ls.length) (h : Laid (endF (ls.take k)) (ls.getD k []) m) (hi : i < m) (j : Nat) (hj : j < szF (endF (ls.take k)) (ls.getD k []) i) :
    (bodyF ep ls).getD (bS (endF (ls.take k)) (ls.getD k []).length i + j) 0 = (frB ep (endF (ls.take k)) (ls.getD k []) i).getD j 0 := by
  have hb := bodyF_at ep ls k (by omega)
  obtain ⟨h1, _⟩ := h.room hi
  have h2 := h.mono (i := i + 1) (t := m) (by omega) (Nat.le_refl _)
  have h3 : endF (ls.take (k + 1)) = pS (endF (ls.take k)) (ls.getD k []).length m := by rw [endF_next ls k hk, h.end_]
  have h4 := body_pre hg ep (k := k + 1) (t := ls.length) (by omega) (Nat.le_refl _) (bS (endF (ls.take k)) (ls.getD k []).length i + j) (by omega)
  rw [List.take_length] at h4
  rw [h4, bodyF_next ep ls k hk, h.rec_]
  exact h.lay_at hb m hi (Nat.le_refl _) j hj
end
end Go.Proofs.YtnmplnemnfonfaaGreatDoor
namespace Go.Proofs.YtnmplnemnfonfaaGreatDoor
open Go.RowKit
def stI (a : Nat) (zs : List Int) (F : Nat) (recs : List (List Int)) (places : List Int) (fin i : Nat) : SS :=
  ⟨pS a zs.length i, if 0 < i then beginN a else F, decide (0 < i), zs.take (fS a zs.length i), recs, places, fin⟩
def stE (a m : Nat) (zs : List Int) (recs : List (List Int)) (places : List Int) : SS :=
  ⟨pS a zs.length m, beginN a, false, [], recs ++ [zs], places ++ [((beginN a : Nat) : Int)], pS a zs.length m⟩
theorem stI_zero (a : Nat) (zs : List Int) (F : Nat) (recs : List (List Int)) (places : List Int) (fin : Nat) : stI a zs F recs places fin 0 = ⟨a, F, false, [], recs, places, fin⟩ := by
  unfold stI
  rw [pS_zero, fS_zero]
  rfl
section
variable {ep : Int} {B : List Int} {K : List Bool} {a m : Nat} {zs : List Int}
theorem st_first (F : Nat) (recs : List (List Int)) (places : List Int) (fin i : Nat) : scFirst (stI a zs F recs places fin i) = beginN a := by
  unfold scFirst stI
  by_cases h0 : 0 < i
  · simp only [decide_eq_true h0, if_true, if_pos h0]
  · obtain rfl : i = 0 := by omega
    simp only [Nat.lt_irrefl, decide_false, Bool.false_eq_true, if_false, pS_zero]
theorem stp_ends (s : SS) (f : FR) (n : Nat) (he : jEnds s.o s.h f.kind f.data = true) :
    scStep s f n = ⟨beginN s.at_ + n, scFirst s, jGoes s.o s.h f.kind f.data, jHad s.o s.h f.kind f.data, s.recs ++ [jTell s.o s.h f.kind f.data], s.places ++ [((scFirst s : Nat) : Int)], beginN s.at_ + n⟩ := by unfold scStep; rw [he]; rfl
theorem stp_goes (s : SS) (f : FR) (n : Nat) (he : jEnds s.o s.h f.kind f.data = false) :
    scStep s f n = ⟨beginN s.at_ + n, scFirst s, jGoes s.o s.h f.kind f.data, jHad s.o s.h f.kind f.data, s.recs, s.places, s.fin⟩ := by unfold scStep; rw [he]; rfl
theorem run_step (h : Laid a zs m) (h5 : zs.length ≤ 512) (F : Nat) (recs : List (List Int)) (places : List Int) (fin : Nat) {i : Nat} (hi : i < m) (hacc : scF ep B K (bS a zs.length i) = (frI ep a zs i, szF a zs i)) :
    scNext ep B K (stI a zs F recs places fin i) = some (if i + 1 = m then stE a m zs recs places else stI a zs F recs places fin (i + 1)) := by
  obtain ⟨hr, hs⟩ := h.step hi
  have hge := hs.f_ge
  have hle := hs.f_le
  have hl := last_iff h.cuts hi
  have hb : beginN (stI a zs F recs places fin i).at_ = bS a zs.length i := rfl
  have hfst := st_first (a := a) (zs := zs) F recs places fin i
  have hsz : szF a zs i ≠ 0 := by unfold szF; omega
  have hroom := (h.room hi).1
  have ht : zs.take (fS a zs.length i) ++ (zs.drop (fS a zs.length i)).take (fS a zs.length (i + 1) - fS a zs.length i) = zs.take (fS a zs.length (i + 1)) := by
    rw [← List.take_add, show fS a zs.length i + (fS a zs.length (i + 1) - fS a zs.length i) = fS a zs.length (i + 1) from by omega]
  have hl1 : (zs.take (fS a zs.length i)).length = fS a zs.length i := by rw [List.length_take]; omega
  have hl2 : ((zs.drop (fS a zs.length i)).take (fS a zs.length (i + 1) - fS a zs.length i)).length = fS a zs.length (i + 1) - fS a zs.length i := by rw [List.length_take, List.length_drop]; omega
  have hlen : ¬ (zs.take (fS a zs.length i)).length + ((zs.drop (fS a zs.length i)).take (fS a zs.length (i + 1) - fS a zs.length i)).length > 512 := by rw [hl1, hl2]; omega
  have ho : (stI a zs F recs places fin i).o = decide (0 < i) := rfl
  have hh : (stI a zs F recs places fin i).h = zs.take (fS a zs.length i) := rfl
  by_cases hlast : i + 1 = m
  · have h3 : fS a zs.length (i + 1) = zs.length := hl.2 hlast
    have hk : jFit (decide (0 < i)) (frI ep a zs i).kind = true ∧ jLast (frI ep a zs i).kind = true := by
      show jFit _ (kindN _ _) = true ∧ jLast (kindN _ _) = true
      rw [decide_eq_true h3]
      by_cases h0 : i = 0
      · subst h0; decide
      · rw [decide_eq_true (by omega : 0 < i), decide_eq_false h0]; decide
    obtain ⟨e1, e2, e3, e4, e5⟩ := j_ends hk.1 hlen hk.2
    have hn := scNext_some (ep := ep) (B := B) (K := K) (s := stI a zs F recs places fin i) (by rw [hb, hacc]; exact hsz) (by rw [hb, hacc, ho, hh]; exact e1)
    rw [hn, hb, hacc, if_pos hlast]
    refine congrArg some ?_
    have e2' : jEnds (stI a zs F recs places fin i).o (stI a zs F recs places fin i).h (frI ep a zs i).kind (frI ep a zs i).data = true := by rw [ho, hh]; exact e2
    have e3' : jGoes (stI a zs F recs places fin i).o (stI a zs F recs places fin i).h (frI ep a zs i).kind (frI ep a zs i).data = false := by rw [ho, hh]; exact e3
    have e4' : jHad (stI a zs F recs places fin i).o (stI a zs F recs places fin i).h (frI ep a zs i).kind (frI ep a zs i).data = [] := by rw [ho, hh]; exact e4
    have e5' : jTell (stI a zs F recs places fin i).o (stI a zs F recs places fin i).h (frI ep a zs i).kind (frI ep a zs i).data = zs := by
      rw [ho, hh]
      refine e5.trans ?_
      show zs.take _ ++ (zs.drop _).take _ = zs
      rw [ht, h3, List.take_of_length_le (Nat.le_refl _)]
    rw [stp_ends _ _ _ e2', e3', e4', e5', hb, hroom, hfst, hlast]
    rfl
  · have h3 : ¬ fS a zs.length (i + 1) = zs.length := fun e => hlast (hl.1 e)
    have hk : jFit (decide (0 < i)) (frI ep a zs i).kind = true ∧ jLast (frI ep a zs i).kind = false := by
      show jFit _ (kindN _ _) = true ∧ jLast (kindN _ _) = false
      rw [decide_eq_false h3]
      by_cases h0 : i = 0
      · subst h0; decide
      · rw [decide_eq_true (by omega : 0 < i), decide_eq_false h0]; decide
    obtain ⟨e1, e2, e3, e4, e5⟩ := j_goes hk.1 hlen hk.2
    have hn := scNext_some (ep := ep) (B := B) (K := K) (s := stI a zs F recs places fin i) (by rw [hb, hacc]; exact hsz) (by rw [hb, hacc, ho, hh]; exact e1)
    rw [hn, hb, hacc, if_neg hlast]
    refine congrArg some ?_
    have e2' : jEnds (stI a zs F recs places fin i).o (stI a zs F recs places fin i).h (frI ep a zs i).kind (frI ep a zs i).data = false := by rw [ho, hh]; exact e2
    have e3' : jGoes (stI a zs F recs places fin i).o (stI a zs F recs places fin i).h (frI ep a zs i).kind (frI ep a zs i).data = true := by rw [ho, hh]; exact e3
    have e4' : jHad (stI a zs F recs places fin i).o (stI a zs F recs places fin i).h (frI ep a zs i).kind (frI ep a zs i).data = zs.take (fS a zs.length (i + 1)) := by
      rw [ho, hh]
      exact e4.trans ht
    rw [stp_goes _ _ _ e2', e3', e4', hb, hroom, hfst]
    unfold stI
    rw [if_pos (by omega : 0 < i + 1), decide_eq_true (by omega : 0 < i + 1)]
theorem rec_run (hB : B.length = 832) (h : Laid a zs m) (h5 : zs.length ≤ 512) (F : Nat) (recs : List (List Int)) (places : List Int) (fin : Nat)
    (acc : ∀ i, i < m → scF ep B K (bS a zs.length i) = (frI ep a zs i, szF a zs i) ∨ (scF ep B K (bS a zs.length i)).2 = 0) :
    ∀ (q i : Nat), i + q = m → 0 < q → OnWay ep B K (stI a zs F recs places fin i) →
      OnWay ep B K (stE a m zs recs places) ∨ ((scEnd ep B K).recs = recs ∧ (scEnd ep B K).places = places ∧ (scEnd ep B K).fin = fin ∧ ∃ i, i < m ∧ (scF ep B K (bS a zs.length i)).2 = 0)
  | 0, i, _, h0, _ => absurd h0 (by omega)
  | q + 1, i, hj, _, hw => by
    have hi : i < m := by omega
    rcases acc i hi with hy | hn
    · have hs := run_step h h5 F recs places fin hi hy
      have hw2 := hw.next hB hs
      by_cases hl : i + 1 = m
      · rw [if_pos hl] at hw2
        exact .inl hw2
      · rw [if_neg hl] at hw2
        exact rec_run hB h h5 F recs places fin acc q (i + 1) (by omega) (by omega) hw2
    · have he := hw.stop (scNext_none (.inl hn))
      rw [← he]
      exact .inr ⟨rfl, rfl, rfl, i, hi, hn⟩
end
def AllIn (ep : Int) (B : List Int) (K : List Bool) (ls : List (List Int)) (k : Nat) : Prop :=
  ∀ m, Laid (endF (ls.take k)) (ls.getD k []) m → ∀ i, i < m → scF ep B K (bS (endF (ls.take k)) (ls.getD k []).length i) = (frI ep (endF (ls.take k)) (ls.getD k []) i, szF (endF (ls.take k)) (ls.getD k []) i)
def InOut (ep : Int) (B : List Int) (K : List Bool) (ls : List (List Int)) (k : Nat) : Prop :=
  ∀ m, Laid (endF (ls.take k)) (ls.getD k []) m → ∀ i, i < m → scF ep B K (bS (endF (ls.take k)) (ls.getD k []).length i) = (frI ep (endF (ls.take k)) (ls.getD k []) i, szF (endF (ls.take k)) (ls.getD k []) i) ∨ (scF ep B K (bS (endF (ls.take k)) (ls.getD k []).length i)).2 = 0
theorem recs_run {ep : Int} {B : List Int} {K : List Bool} (hB : B.length = 832) {ls : List (List Int)} (hg : GoodF ls ls.length) (h5 : ∀ z ∈ ls, z.length ≤ 512) (hio : ∀ k, k < ls.length → InOut ep B K ls k) :
    ∀ k, k ≤ ls.length → (∃ F, OnWay ep B K ⟨endF (ls.take k), F, false, [], ls.take k, placesF (ls.take k), endF (ls.take k)⟩) ∨
      ∃ q, q < k ∧ (scEnd ep B K).recs = ls.take q ∧ (scEnd ep B K).places = placesF (ls.take q) ∧ (scEnd ep B K).fin = endF (ls.take q) ∧ ¬ AllIn ep B K ls q
  | 0, _ => .inl ⟨0, by rw [List.take_zero, endF_nil, placesF_nil]; exact onway_0⟩
  | k + 1, hk => by
    rcases recs_run hB hg h5 hio k (by omega) with ⟨F, hw⟩ | ⟨q, h1, h2⟩
    · obtain ⟨m, hl⟩ := laid_k hg (k := k) (by omega)
      have hm0 : 0 < m := hl.cuts.1
      have h52 : (ls.getD k []).length ≤ 512 := h5 _ (by simp [List.getD, show k < ls.length by omega])
      rw [← stI_zero (endF (ls.take k)) (ls.getD k [])] at hw
      rcases rec_run hB hl h52 F _ _ _ (hio k (by omega) m hl) m 0 (by omega) hm0 hw with hy | ⟨e1, e2, e3, i, hi, hn⟩
      · refine .inl ⟨beginN (endF (ls.take k)), ?_⟩
        unfold stE at hy
        rw [endF_next ls k (by omega), placesF_next ls k (by omega), hl.end_, take_next ls k (by omega)]
        exact hy
      · refine .inr ⟨k, by omega, e1, e2, e3, fun hall => ?_⟩
        rw [hall m hl i hi] at hn
        have : szF (endF (ls.take k)) (ls.getD k []) i = 0 := hn
        unfold szF at this
        omega
    · exact .inr ⟨q, by omega, h2⟩
theorem recs_all {ep : Int} {B : List Int} {K : List Bool} (hB : B.length = 832) {ls : List (List Int)} (hg : GoodF ls ls.length) (h5 : ∀ z ∈ ls, z.length ≤ 512) (hio : ∀ k, k < ls.length → InOut ep B K ls k) (hend : (scF ep B K (beginN (endF ls))).2 = 0) :
    ∃ q, q ≤ ls.length ∧ (scEnd ep B K).recs = ls.take q ∧ (scEnd ep B K).places = placesF (ls.take q) ∧ (scEnd ep B K).fin = endF (ls.take q) ∧ (q < ls.length → ¬ AllIn ep B K ls q) := by
  rcases recs_run hB hg h5 hio ls.length (Nat.le_refl _) with ⟨F, hw⟩ | ⟨q, h1, h2, h3, h4, h6⟩
  · have hs := hw.stop (scNext_none (.inl (by dsimp only; rw [List.take_length]; exact hend)))
    refine ⟨ls.length, Nat.le_refl _, ?_⟩
    rw [← hs]
    exact ⟨rfl, rfl, rfl, fun h => absurd h (by omega)⟩
  · exact ⟨q, by omega, h2, h3, h4, fun _ => h6⟩
end Go.Proofs.YtnmplnemnfonfaaGreatDoor
namespace Go.Proofs.YtnmplnemnfonfaaGreatDoor
open Go.RowKit
theorem covat_iff (K : List Bool) (a b : Nat) (hab : a < b) (hb : b ≤ 832) : covAt K (a : Int) (b : Int) = true ↔ ∀ i, a / 52 ≤ i → i ≤ (b - 1) / 52 → K.getD i false = true := by
  unfold covAt
  rw [nr_nat a (by omega), nr_nat b hb]
  have ht : touchN a b = (a / 52, (b - 1) / 52 + 1) := if_pos hab
  rw [ht]
  constructor
  · intro h i h1 h2
    have := List.all_eq_true.1 h (i - a / 52) (List.mem_range.2 (by show i - a / 52 < (b - 1) / 52 + 1 - a / 52; omega))
    rwa [show (a / 52 : Nat) + (i - a / 52) = i from by omega] at this
  · intro h
    exact cov_all _ _ _ fun i hi => h _ (by show a / 52 ≤ a / 52 + i; omega) (by have : i < (b - 1) / 52 + 1 - a / 52 := hi; show a / 52 + i ≤ _; omega)
section
variable {B body : List Int} {p : Nat}
theorem bSl_get (j : Nat) (hj : j < leftN p) : (bSl B p).getD j 0 = B.getD (p + j) 0 := by
  unfold bSl
  simp only [List.getD, List.getElem?_take, hj, if_true, List.getElem?_drop]
theorem take_ext (l m : List Int) (n : Nat) (hl : n ≤ l.length) (hm : n ≤ m.length) (h : ∀ j, j < n → l.getD j 0 = m.getD j 0) : l.take n = m.take n := by
  refine List.ext_getElem (by simp; omega) fun j h1 h2 => ?_
  have hj : j < n := by simp at h1; omega
  have := h j hj
  simp only [List.getElem_take]
  simpa [List.getD, show j < l.length by omega, show j < m.length by omega] using this
theorem scD_same (hB : B.length = 832) {k ep : Int} {d : List Int} (hk : fragOk k d.length = true) (he : 0 ≤ ep ∧ ep < 4294967296) (hs : p + (11 + d.length) ≤ 832) (hl : 11 + d.length ≤ leftN p) (hat : ∀ j, j < 11 + d.length → B.getD (p + j) 0 = (fragB k ep d).getD j 0) :
    scD ep B p = (⟨k, ep, d⟩, 11 + d.length, 0) := by
  have hlen := fragB_length k ep d
  have hbl := bSl_length hB (show p ≤ 832 by omega)
  have ht : (bSl B p).take (11 + d.length) = fragB k ep d := by
    rw [take_ext (bSl B p) (fragB k ep d) (11 + d.length) (by omega) (by omega) fun j hj => by rw [bSl_get j (by omega)]; exact hat j hj]
    exact List.take_of_length_le (by omega)
  unfold scD
  rw [← List.take_append_drop (11 + d.length) (bSl B p), ht]
  exact frag_got _ hk he
theorem scD_head (hB : B.length = 832) {k ep : Int} {d : List Int} (hk : fragOk k d.length = true) (he : 0 ≤ ep ∧ ep < 4294967296) (hs : p + (11 + d.length) ≤ 832) (hl : 11 + d.length ≤ leftN p) (hat : ∀ j, j < 11 → B.getD (p + j) 0 = (fragB k ep d).getD j 0) (h0 : (scD ep B p).2.2 = 0) :
    (scD ep B p).2.1 = 11 + d.length := by
  have hlen := fragB_length k ep d
  have hbl := bSl_length hB (show p ≤ 832 by omega)
  have ht : (bSl B p).take 11 = (fragB k ep d).take 11 :=
    take_ext (bSl B p) (fragB k ep d) 11 (by omega) (by omega) fun j hj => by rw [bSl_get j (by omega)]; exact hat j hj
  have hn := (frag_nums k ep d [] (by have := (fok_parts hk).2.2; omega) he).2.1
  rw [List.append_nil] at hn
  have h42 : num (bSl B p) 4 2 = d.length := by rw [← num_take (bSl B p) 11 4 2 (by omega), ht, num_take _ 11 4 2 (by omega), hn]
  unfold scD at h0 ⊢
  obtain ⟨h1, h2, h3, h4, h5⟩ := fragD_parts h0
  have h6 : ¬ (bSl B p).take 11 = List.replicate 11 0 := fun e => by
    rw [fragD_none (by omega) e] at h0; exact absurd h0 (by decide)
  rw [fragD_ok (by omega) h6 h2 h3 (by omega) h5, h42]
  show 11 + ((d.length : Nat) : Int).toNat = _
  rw [Int.toNat_natCast]
theorem scD_zero (hB : B.length = 832) {ep : Int} (hs : p + 11 ≤ 832) (hl : 11 ≤ leftN p) (hat : ∀ j, j < 11 → B.getD (p + j) 0 = 0) : (scD ep B p).2.2 ≠ 0 := by
  have hbl := bSl_length hB (show p ≤ 832 by omega)
  have ht : (bSl B p).take 11 = List.replicate 11 0 := by
    rw [take_ext (bSl B p) (List.replicate 11 0) 11 (by omega) (by simp) fun j hj => by rw [bSl_get j (by omega), hat j hj, getD_replicate]]
    simp
  unfold scD
  rw [fragD_none (by omega) ht]
  decide
end
structure Mixed (B : List Int) (K : List Bool) (body : List Int) (e : Nat) : Prop where
  len : B.length = 832
  synced : ∀ i, i < 16 → 52 * i < e → K.getD i false = true
  bytes : ∀ i, i < 16 → K.getD i false = true → (∀ r, r < 52 → B.getD (52 * i + r) 0 = body.getD (52 * i + r) 0) ∨ (52 * i < e ∧ ∀ r, r < 52 → B.getD (52 * i + r) 0 = if 52 * i + r < e then body.getD (52 * i + r) 0 else 0)
section
variable {B body : List Int} {K : List Bool} {e : Nat}
theorem Mixed.old (M : Mixed B K body e) {j : Nat} (hj : j < 832) (h : j < e) : B.getD j 0 = body.getD j 0 := by
  have hd : 52 * (j / 52) + j % 52 = j := by omega
  rcases M.bytes (j / 52) (by omega) (M.synced _ (by omega) (by omega)) with h1 | ⟨_, h1⟩
  · have := h1 (j % 52) (by omega)
    rwa [hd] at this
  · have := h1 (j % 52) (by omega)
    rw [hd, if_pos h] at this
    exact this
theorem Mixed.frag (M : Mixed B K body e) {k ep : Int} {d : List Int} (hk : fragOk k d.length = true) (he : 0 ≤ ep ∧ ep < 4294967296) {p : Nat} (hp : p % 52 ≤ 41) (hs : p + (11 + d.length) ≤ 832) (hl : 11 + d.length ≤ leftN p)
    (hat : ∀ j, j < 11 + d.length → body.getD (p + j) 0 = (fragB k ep d).getD j 0) :
    (p + (11 + d.length) ≤ e → scF ep B K p = (⟨k, ep, d⟩, 11 + d.length)) ∧ (e ≤ p → scF ep B K p = (⟨k, ep, d⟩, 11 + d.length) ∨ (scF ep B K p).2 = 0) := by
  have yes : covAt K (p : Int) ((p + (11 + d.length) : Nat) : Int) = true → (∀ j, j < 11 + d.length → B.getD (p + j) 0 = body.getD (p + j) 0) → scF ep B K p = (⟨k, ep, d⟩, 11 + d.length) := fun hc hb => by
    have hD := scD_same M.len hk he hs hl fun j hj => (hb j hj).trans (hat j hj)
    have h11 : covAt K (p : Int) ((p + 11 : Nat) : Int) = true := (covat_iff K p (p + 11) (by omega) (by omega)).2 fun i h1 h2 => (covat_iff K p (p + (11 + d.length)) (by omega) hs).1 hc i h1 (by omega)
    rw [scF_yes (by omega) h11 (by rw [hD]) (by rw [hD]; exact hc), hD]
  constructor
  · intro hE
    refine yes ((covat_iff K p _ (by omega) hs).2 fun i h1 h2 => M.synced i (by omega) (by omega)) fun j hj => M.old (by omega) (by omega)
  · intro hE
    cases h11 : covAt K (p : Int) ((p + 11 : Nat) : Int) with
    | false => exact .inr (by rw [scF_head h11])
    | true =>
      have hK := (covat_iff K p (p + 11) (by omega) (by omega)).1 h11 (p / 52) (Nat.le_refl _) (by omega)
      have hd : ∀ j, j < 11 → 52 * (p / 52) + (p % 52 + j) = p + j := fun j _ => by omega
      rcases M.bytes (p / 52) (by omega) hK with h1 | ⟨hlt, h1⟩
      · have hh : ∀ j, j < 11 → B.getD (p + j) 0 = body.getD (p + j) 0 := fun j hj => by
          have := h1 (p % 52 + j) (by omega)
          rwa [hd j hj] at this
        cases hc : covAt K (p : Int) ((p + (11 + d.length) : Nat) : Int) with
        | true =>
          refine .inl (yes hc fun j hj => ?_)
          have hj8 : p + j < 832 := by omega
          have hd2 : 52 * ((p + j) / 52) + (p + j) % 52 = p + j := by omega
          have hKj := (covat_iff K p _ (by omega) hs).1 hc ((p + j) / 52) (by omega) (by omega)
          by_cases hsame : (p + j) / 52 = p / 52
          · have := h1 (p % 52 + j) (by omega)
            rwa [show 52 * (p / 52) + (p % 52 + j) = p + j from by omega] at this
          · rcases M.bytes ((p + j) / 52) (by omega) hKj with h2 | ⟨h2, _⟩
            · have := h2 ((p + j) % 52) (by omega)
              rwa [hd2] at this
            · omega
        | false =>
          refine .inr ?_
          by_cases h0 : (scD ep B p).2.2 = 0
          · have hsz := scD_head M.len hk he hs hl (fun j hj => (hh j hj).trans (hat j (by omega))) h0
            rw [scF_cov (by rw [hsz]; exact hc)]
          · rw [scF_err h0]
      · refine .inr ?_
        rw [scF_err (scD_zero M.len (by omega) (by omega) fun j hj => ?_)]
        have := h1 (p % 52 + j) (by omega)
        rw [hd j hj, if_neg (by omega)] at this
        exact this
theorem Mixed.stop (M : Mixed B K body e) (ep : Int) {p : Nat} (hp : p = 832 ∨ (p % 52 ≤ 41 ∧ p + 11 ≤ 832 ∧ 11 ≤ leftN p)) (h0 : ∀ j, p ≤ j → body.getD j 0 = 0) : (scF ep B K p).2 = 0 := by
  rcases hp with h8 | ⟨h1, h2, h3⟩
  · rw [scF_far h8]
  · cases h11 : covAt K (p : Int) ((p + 11 : Nat) : Int) with
    | false => rw [scF_head h11]
    | true =>
      have hK := (covat_iff K p (p + 11) (by omega) (by omega)).1 h11 (p / 52) (Nat.le_refl _) (by omega)
      have hd : ∀ j, j < 11 → 52 * (p / 52) + (p % 52 + j) = p + j := fun j _ => by omega
      rw [scF_err (scD_zero M.len h2 h3 fun j hj => ?_)]
      rcases M.bytes (p / 52) (by omega) hK with h | ⟨_, h⟩
      · have := h (p % 52 + j) (by omega)
        rw [hd j hj] at this
        rw [this]; exact h0 _ (by omega)
      · have := h (p % 52 + j) (by omega)
        rw [hd j hj] at this
        rw [this]
        split
        · exact h0 _ (by omega)
        · rfl
end
theorem mixed_told {B : List Int} {K : List Bool} {ep : Int} (he : 0 ≤ ep ∧ ep < 4294967296) {ls : List (List Int)} (hg : GoodF ls ls.length) (h5 : ∀ z ∈ ls, z.length ≤ 512) {n : Nat} (hn : n ≤ ls.length) (M : Mixed B K (bodyF ep ls) (endF (ls.take n))) :
    ∃ q, n ≤ q ∧ q ≤ ls.length ∧ (scEnd ep B K).recs = ls.take q ∧ (scEnd ep B K).places = placesF (ls.take q) ∧ (scEnd ep B K).fin = endF (ls.take q) := by
  have hfr : ∀ k m, k < ls.length → Laid (endF (ls.take k)) (ls.getD k []) m → ∀ i, i < m →
      (bS (endF (ls.take k)) (ls.getD k []).length i + szF (endF (ls.take k)) (ls.getD k []) i ≤ endF (ls.take n) → scF ep B K (bS (endF (ls.take k)) (ls.getD k []).length i) = (frI ep (endF (ls.take k)) (ls.getD k []) i, szF (endF (ls.take k)) (ls.getD k []) i)) ∧
      (endF (ls.take n) ≤ bS (endF (ls.take k)) (ls.getD k []).length i → scF ep B K (bS (endF (ls.take k)) (ls.getD k []).length i) = (frI ep (endF (ls.take k)) (ls.getD k []) i, szF (endF (ls.take k)) (ls.getD k []) i) ∨ (scF ep B K (bS (endF (ls.take k)) (ls.getD k []).length i)).2 = 0) := fun k m hk h i hi => by
    obtain ⟨r1, r2, r3, r4, r5, r6⟩ := h.room hi
    have hd := h.data hi ep
    have hsz : szF (endF (ls.take k)) (ls.getD k []) i = 11 + (frI ep (endF (ls.take k)) (ls.getD k []) i).data.length := by rw [hd]; rfl
    have hkd : 1 ≤ (frI ep (endF (ls.take k)) (ls.getD k []) i).kind ∧ (frI ep (endF (ls.take k)) (ls.getD k []) i).kind ≤ 4 := kind_bd _ _
    have hl8 := left_le208 (bS (endF (ls.take k)) (ls.getD k []).length i)
    have hok : fragOk (frI ep (endF (ls.take k)) (ls.getD k []) i).kind (frI ep (endF (ls.take k)) (ls.getD k []) i).data.length = true := decide_eq_true ⟨hkd.1, hkd.2, by omega⟩
    have := M.frag hok he (p := bS (endF (ls.take k)) (ls.getD k []).length i) r5 (by omega) (by omega) (fun j hj => body_at hg ep hk h hi j (by omega))
    rw [← hsz] at this
    exact this
  have hend : (scF ep B K (beginN (endF ls))).2 = 0 := by
    refine M.stop ep ?_ fun j hj => ?_
    · rcases begin_room (endF ls) (endF_le ls) with h | ⟨h1, h2⟩
      · exact .inl h
      · have := left_le (beginN (endF ls)) (begin_le _ (endF_le ls))
        exact .inr ⟨h2, by omega, h1⟩
    · have h1 := body_out hg ep ls.length (Nat.le_refl _) j
      rw [List.take_length] at h1
      exact h1 (Nat.le_trans (begin_ge _) hj)
  have hlow : ∀ k m, k < n → Laid (endF (ls.take k)) (ls.getD k []) m → ∀ i, i < m → bS (endF (ls.take k)) (ls.getD k []).length i + szF (endF (ls.take k)) (ls.getD k []) i ≤ endF (ls.take n) := fun k m hk h i hi => by
    obtain ⟨r1, _⟩ := h.room hi
    have h2 := h.mono (i := i + 1) (t := m) (by omega) (Nat.le_refl _)
    have h3 : endF (ls.take (k + 1)) = pS (endF (ls.take k)) (ls.getD k []).length m := by rw [endF_next ls k (by omega), h.end_]
    have h4 := end_mono hg (k := k + 1) (t := n) (by omega) hn
    omega
  obtain ⟨q, h1, h2, h3, h4, h6⟩ := recs_all M.len hg h5 (fun k hk m h i hi => by
    by_cases hkn : k < n
    · exact .inl ((hfr k m hk h i hi).1 (hlow k m hkn h i hi))
    · have h2 := end_mono hg (k := n) (t := k) (by omega) (by omega)
      obtain ⟨_, _, _, r4, _⟩ := h.room hi
      have h3 := h.mono (i := 0) (t := i) (Nat.zero_le _) (by omega)
      rw [pS_zero] at h3
      exact (hfr k m hk h i hi).2 (by omega)) hend
  refine ⟨q, ?_, h1, h2, h3, h4⟩
  by_cases hqn : n ≤ q
  · exact hqn
  · exact absurd (fun m h i hi => (hfr q m (by omega) h i hi).1 (hlow q m (by omega) h i hi)) (h6 (by omega))
end Go.Proofs.YtnmplnemnfonfaaGreatDoor
namespace Go.Proofs.YtnmplnemnfonfaaGreatDoor
open Go.RowKit
def leaves (kb : List Int) (torn cut : Int) (o n : List Int) (i : Nat) : List Int :=
  if (i : Int) = torn then mixN o n (cutN cut) else if bitI kb (i : Int) = true then n else o
end Go.Proofs.YtnmplnemnfonfaaGreatDoor
namespace Go.Proofs.YtnmplnemnfonfaaGreatDoor
open Go.RowKit
theorem touch_lt (e i : Nat) : i < (touchN 0 e).2 ↔ 52 * i < e := by
  unfold touchN
  split
  · show i < (e - 1) / 52 + 1 ↔ _
    omega
  · show i < 0 ↔ _
    omega
theorem whole_ok {x : Int} (hx : U64 x) (h0 : x ≠ 0) {ls : List (List Int)} (n : Nat) (i : Nat) (hi : i < 16) : okAt x 16 (wholeK x (bodyF (x % 4294967296) (ls.take n)) (touchN 0 (endF (ls.take n))).2 16) i = decide (52 * i < endF (ls.take n)) := by
  rw [okAt_whole x hx h0 _ _ i hi]
  exact decide_eq_decide.2 (touch_lt _ _)
theorem body_end {x : Int} {ls : List (List Int)} (hg : GoodF ls ls.length) (j : Nat) (hj : endF ls ≤ j) : (bodyF (x % 4294967296) ls).getD j 0 = 0 := by
  have h1 := body_out hg (x % 4294967296) ls.length (Nat.le_refl _) j
  rw [List.take_length] at h1
  exact h1 hj
section
variable {x : Int} (hx : U64 x) (h0 : x ≠ 0) {ls : List (List Int)} (hg : GoodF ls ls.length)
include hx h0 hg
theorem whole_get (n : Nat) (hn : n ≤ ls.length) (j : Nat) (hj : j < 832) :
    (flatB x 16 (wholeK x (bodyF (x % 4294967296) (ls.take n)) (touchN 0 (endF (ls.take n))).2 16) 16).getD j 0 = if j < endF (ls.take n) then (bodyF (x % 4294967296) ls).getD j 0 else 0 := by
  rw [back_get x hx h0 _ _ j hj, bodyF_len]
  have h1 := body_out hg (x % 4294967296) n hn j
  have h2 := body_pre hg (x % 4294967296) (k := n) (t := ls.length) hn (Nat.le_refl _) j
  rw [List.take_length] at h2
  have h3 := touch_lt (endF (ls.take n)) (j / 52)
  by_cases he : j < endF (ls.take n)
  · rw [if_pos he, if_pos ⟨by have := h3.2 (by omega); omega, hj⟩, h2 he]
  · rw [if_neg he]
    split
    · exact h1 (by omega)
    · rfl
theorem whole_room (n : Nat) (hn : n ≤ ls.length) (i r : Nat) (hi : i < 16) (hr : r < 52) :
    (roomAt x 16 (wholeK x (bodyF (x % 4294967296) (ls.take n)) (touchN 0 (endF (ls.take n))).2 16) i).getD r 0 = if 52 * i + r < endF (ls.take n) then (bodyF (x % 4294967296) ls).getD (52 * i + r) 0 else 0 := by
  rw [← flatB_get x 16 _ (wholeK_length _ _ _ 16) i r hr 16 hi]
  exact whole_get hx h0 hg n hn (52 * i + r) (by omega)
theorem mixed_whole : Mixed (flatB x 16 (wholeK x (bodyF (x % 4294967296) ls) (touchN 0 (endF ls)).2 16) 16) (flatK x 16 (wholeK x (bodyF (x % 4294967296) ls) (touchN 0 (endF ls)).2 16) 16) (bodyF (x % 4294967296) ls) (endF ls) := by
  have hl : ls.take ls.length = ls := List.take_length
  have h1 := whole_room hx h0 hg ls.length (Nat.le_refl _)
  have h2 := whole_ok hx h0 (ls := ls) ls.length
  rw [hl] at h1 h2
  refine ⟨flatB_length _ _ _ (wholeK_length _ _ _ 16) 16, fun i hi h => ?_, fun i hi _ => .inl fun r hr => ?_⟩
  · rw [flatK_get _ _ _ i 16 hi, h2 i hi]; exact decide_eq_true h
  · rw [flatB_get x 16 _ (wholeK_length _ _ _ 16) i r hr 16 hi, h1 i r hi hr]
    split
    · rfl
    · exact (body_end hg _ (by omega)).symm
end
theorem whole_rest {x : Int} {ls : List (List Int)} (hg : GoodF ls ls.length) : restB 16 (wholeK x (bodyF (x % 4294967296) ls) (touchN 0 (endF ls)).2 16) (endF ls) = true := by
  refine restB_yes fun i _ hi => restS_yes fun k hk => ?_
  have hsec := secOf_whole x (bodyF (x % 4294967296) ls) (touchN 0 (endF ls)).2 i 16 hi
  have hbyte := sec_byte (wholeK x (bodyF (x % 4294967296) ls) (touchN 0 (endF ls)).2 16) i k hk
  rw [hsec] at hbyte
  unfold restAt
  rw [← hbyte]
  have htl := touch_lt (endF ls) i
  by_cases hin : i < (touchN 0 (endF ls)).2
  · rw [if_pos hin]
    have h52 := htl.1 hin
    by_cases hc : 12 ≤ k ∧ endF ls + 12 ≤ 52 * i + k
    · rw [sealed_get3 _ _ _ k hc.1 hk]
      have h1 : (partB (bodyF (x % 4294967296) ls) i).getD (k - 12) 0 = (bodyF (x % 4294967296) ls).getD (52 * i + (k - 12)) 0 := by
        unfold partB
        simp only [List.getD, List.getElem?_take, show k - 12 < 52 from by omega, if_true, List.getElem?_drop]
      rw [h1, body_end hg _ (by omega)]
      simp
    · have h1 : ¬ endF ls ≤ 52 * i := by omega
      by_cases h2 : 12 ≤ k
      · have h3 : ¬ endF ls + 12 ≤ 52 * i + k := fun q => hc ⟨h2, q⟩
        simp [h1, h3]
      · simp [h1, h2]
  · rw [if_neg hin]
    have : z64.getD k 0 = 0 := getD_replicate 64 k
    rw [this]
    simp
theorem told_whole {x : Int} (hx : U64 x) (h0 : x ≠ 0) {ls : List (List Int)} (hg : GoodF ls ls.length) (h5 : ∀ z ∈ ls, z.length ≤ 512) :
    (scEnd (x % 4294967296) (flatB x 16 (wholeK x (bodyF (x % 4294967296) ls) (touchN 0 (endF ls)).2 16) 16) (flatK x 16 (wholeK x (bodyF (x % 4294967296) ls) (touchN 0 (endF ls)).2 16) 16)).recs = ls ∧
    (scEnd (x % 4294967296) (flatB x 16 (wholeK x (bodyF (x % 4294967296) ls) (touchN 0 (endF ls)).2 16) 16) (flatK x 16 (wholeK x (bodyF (x % 4294967296) ls) (touchN 0 (endF ls)).2 16) 16)).places = placesF ls ∧
    (scEnd (x % 4294967296) (flatB x 16 (wholeK x (bodyF (x % 4294967296) ls) (touchN 0 (endF ls)).2 16) 16) (flatK x 16 (wholeK x (bodyF (x % 4294967296) ls) (touchN 0 (endF ls)).2 16) 16)).fin = endF ls ∧
    scKind 16 (wholeK x (bodyF (x % 4294967296) ls) (touchN 0 (endF ls)).2 16) (endF ls) = 1 := by
  have hM := mixed_whole hx h0 hg
  have hl : ls.take ls.length = ls := List.take_length
  have he : 0 ≤ x % 4294967296 ∧ x % 4294967296 < 4294967296 := by omega
  obtain ⟨q, h1, h2, h3, h4, h6⟩ := mixed_told he hg h5 (n := ls.length) (Nat.le_refl _) (by rw [hl]; exact hM)
  obtain rfl : q = ls.length := by omega
  rw [hl] at h3 h4 h6
  refine ⟨h3, h4, h6, ?_⟩
  unfold scKind
  rw [whole_rest hg, if_pos rfl]
end Go.Proofs.YtnmplnemnfonfaaGreatDoor
