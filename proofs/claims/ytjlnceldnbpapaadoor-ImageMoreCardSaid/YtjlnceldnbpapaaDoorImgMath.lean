/-
  LAYER 17 (image): a record's fragments laid into a body, and records laid one behind the other (plain mathematics). No condition.
-/
import Derived.Test.YtjlnceldnbpapaaDoorJCut
import Derived.Test.YtjlnceldnbpapaaDoorJFrag
import Derived.Test.YtjlnceldnbpapaaDoorFill
namespace Go.Proofs.YtjlnceldnbpapaaDoor
open Go.RowKit
/-- a piece's place: where its fragment is laid, which bytes it has -/
structure PcFit (a n : Nat) (c : PC) (q l k : Nat) : Prop where
  at_ : c.at_ = (q : Int)
  from_ : c.from_ = (l : Int)
  to : c.to = ((l + k : Nat) : Int)
  room : q + 11 + k ≤ 832
  upto : l + k ≤ n
  most : k ≤ 197
  k1 : 1 ≤ c.kind
  k4 : c.kind ≤ 4
  ge : a ≤ q
theorem begin_ge (a : Nat) : a ≤ beginN a := by unfold beginN; split <;> omega
theorem pS_up (a n : Nat) : ∀ i, a ≤ pS a n i
  | 0 => Nat.le_refl _
  | i + 1 => by
    have h := pS_up a n i
    have h2 := begin_ge (pS a n i)
    rw [pS_next]
    unfold bS
    omega
theorem kind_bd (b c : Bool) : 1 ≤ kindN b c ∧ kindN b c ≤ 4 := by cases b <;> cases c <;> decide
theorem left_le208 (a : Nat) : leftN a ≤ 208 := by unfold leftN; split <;> omega
theorem pc_fit {x n : Int} {i : Nat} {c : PC} (h : (pcsI x n)[i]? = some c) : ∃ (m q l k : Nat), n = (m : Int) ∧ PcFit (nr x) m c q l k := by
  cases hq : fitI x n with
  | false => rw [(told_no hq).1] at h; simp at h
  | true =>
    obtain ⟨m, j, rfl, hk, hm, hc, hf⟩ := told_of hq
    rw [(told_yes hc hf).2.1] at h
    have hi : i < j := by have := (List.getElem?_eq_some_iff.1 h).1; rwa [firstP_len] at this
    rw [firstP_get _ _ _ _ hi] at h
    obtain rfl := Option.some.inj h
    obtain ⟨_, hs⟩ := hc.at_ hf hi
    have h1 := hs.f_ge
    have h2 := hs.f_le
    have h3 := hs.lle
    have h4 := hs.fits
    have h5 := left_le208 (bS (nr x) m i)
    have h6 := pS_up (nr x) m i
    have h7 := begin_ge (pS (nr x) m i)
    have hkd := kind_bd (decide (i = 0)) (decide (fS (nr x) m (i + 1) = m))
    exact ⟨m, bS (nr x) m i, fS (nr x) m i, fS (nr x) m (i + 1) - fS (nr x) m i, rfl, rfl, rfl, by show ((fS (nr x) m (i + 1) : Nat) : Int) = _; omega, by omega, by omega, by omega, hkd.1, hkd.2, by unfold bS; omega⟩
theorem end_gt {x n : Int} (h : fitI x n = true) : nr x < endI x n ∧ endI x n ≤ 832 := by
  obtain ⟨m, j, rfl, hk, hm, hc, hf⟩ := told_of h
  rw [(told_yes hc hf).2.2]
  have h0 := hc.1
  obtain ⟨i, rfl⟩ : ∃ i, j = i + 1 := ⟨j - 1, by omega⟩
  have h1 := pS_up (nr x) m i
  have h2 := begin_ge (pS (nr x) m i)
  have h3 := (hc.2.2.2 (i + 1) (Nat.le_refl _)).p_le
  rw [pS_next] at h3 ⊢
  unfold bS at h3 ⊢
  omega
theorem end_le (x n : Int) : endI x n ≤ 832 := by
  cases h : fitI x n with
  | true => exact (end_gt h).2
  | false => rw [(told_no h).2]; omega
/-! from where it begins on, it is cut the same -/
theorem st_begin (a n : Nat) : ∀ i, fS (beginN a) n i = fS a n i ∧ bS (beginN a) n i = bS a n i
  | 0 => ⟨rfl, begin_again a⟩
  | i + 1 => by
    obtain ⟨h1, h2⟩ := st_begin a n i
    have hf : fS (beginN a) n (i + 1) = fS a n (i + 1) := by rw [fS_next, fS_next, h1, h2]
    refine ⟨hf, ?_⟩
    have hp : pS (beginN a) n (i + 1) = pS a n (i + 1) := by rw [pS_next, pS_next, h1, h2]
    show beginN (pS (beginN a) n (i + 1)) = beginN (pS a n (i + 1))
    rw [hp]
theorem room_begin (a : Nat) : roomI (beginN a) = roomI a := by unfold roomI; rw [begin_again]
theorem pcs_begin (x : Int) (n : Int) : fitI (beginN (nr x) : Nat) n = fitI x n ∧ pcsI (beginN (nr x) : Nat) n = pcsI x n := by
  have hnr : nr ((beginN (nr x) : Nat) : Int) = beginN (nr x) := nr_nat _ (begin_le _ (nr_le x))
  have hfit : fitI (beginN (nr x) : Nat) n = fitI x n := by unfold fitI; rw [hnr, room_begin]
  refine ⟨hfit, ?_⟩
  cases hq : fitI x n with
  | false => rw [(told_no hq).1, (told_no (hfit.trans hq)).1]
  | true =>
    obtain ⟨m, j, rfl, _, _, hc, hf⟩ := told_of hq
    have hb : nr ((beginN (nr x) : Nat) : Int) ≤ 832 := nr_le _
    have hf2 : Fit (nr ((beginN (nr x) : Nat) : Int)) m := (fit_nat _ _).1 (hfit.trans hq)
    have hc2 := cuts_cnt hb hf2
    generalize cnt (nr ((beginN (nr x) : Nat) : Int)) m = j2 at hc2
    rw [(told_yes hc hf).2.1, (told_yes hc2 hf2).2.1]
    rw [hnr] at hc2 hf2 ⊢
    have hst := st_begin (nr x) m
    have hj : j2 = j := by
      obtain ⟨c1, c2, c3, _⟩ := hc
      obtain ⟨d1, d2, d3, _⟩ := hc2
      rcases Nat.lt_trichotomy j2 j with h | h | h
      · have := c3 j2 d1 h; rw [(hst j2).1] at d2; omega
      · exact h
      · have := d3 j c1 h; rw [(hst j).1] at this; omega
    subst hj
    unfold firstP
    refine List.map_congr_left fun i _ => ?_
    unfold pcS
    rw [(hst i).1, (hst (i + 1)).1, (hst i).2]
/-! laying -/
/-- a piece's fragment, as bytes -/
def pcB (ep : Int) (zs : List Int) (c : PC) : List Int := fragB c.kind ep (frOf ep zs c).data
def layP (ep : Int) (zs : List Int) (b : List Int) (ps : List PC) : List Int := ps.foldl (fun b c => splice b c.at_.toNat (pcB ep zs c)) b
theorem layP_nil (ep : Int) (zs b : List Int) : layP ep zs b [] = b := rfl
theorem layP_snoc (ep : Int) (zs b : List Int) (ps : List PC) (c : PC) : layP ep zs b (ps ++ [c]) = splice (layP ep zs b ps) c.at_.toNat (pcB ep zs c) := by simp [layP]
theorem layP_next (ep : Int) (zs b : List Int) (ps : List PC) (i : Nat) (c : PC) (h : ps[i]? = some c) : layP ep zs b (ps.take (i + 1)) = splice (layP ep zs b (ps.take i)) c.at_.toNat (pcB ep zs c) := by
  rw [List.take_add_one, h]
  exact layP_snoc ep zs b _ c
theorem PcFit.data {a n : Nat} {c : PC} {q l k : Nat} (h : PcFit a n c q l k) (ep : Int) (zs : List Int) : (frOf ep zs c).data = (zs.drop l).take k := by rw [frOf_data h.from_ h.to]
theorem PcFit.len {a n : Nat} {c : PC} {q l k : Nat} (h : PcFit a n c q l k) (ep : Int) (zs : List Int) (hz : zs.length = n) : (pcB ep zs c).length = 11 + k := by
  have := h.upto
  unfold pcB
  rw [fragB_length, h.data, List.length_take, List.length_drop]
  omega
theorem splice_len (b : List Int) (q : Nat) (x : List Int) (h : q + x.length ≤ b.length) : (splice b q x).length = b.length := by
  unfold splice; simp; omega
theorem splice_take (b : List Int) (q : Nat) (x : List Int) (m : Nat) (h : m ≤ q) (hq : q ≤ b.length) : (splice b q x).take m = b.take m := by
  unfold splice
  rw [List.take_append_of_le_length (by simp; omega), List.take_take, Nat.min_eq_left h]
theorem layP_len {ep : Int} {zs b : List Int} (hb : b.length = 832) {x : Int} : ∀ i, (layP ep zs b ((pcsI x zs.length).take i)).length = 832
  | 0 => by simpa [layP] using hb
  | i + 1 => by
    have ih := layP_len (ep := ep) (zs := zs) hb (x := x) i
    cases h : (pcsI x zs.length)[i]? with
    | none => rw [List.take_add_one, h]; simpa using ih
    | some c =>
      obtain ⟨m, q, l, k, hm, hf⟩ := pc_fit h
      have hr := hf.room
      rw [layP_next _ _ _ _ _ _ h, splice_len, ih]
      rw [hf.len ep zs (by omega), hf.at_, ih, Int.toNat_natCast]; omega
theorem layP_take {ep : Int} {zs b : List Int} (hb : b.length = 832) {x : Int} : ∀ i, (layP ep zs b ((pcsI x zs.length).take i)).take (nr x) = b.take (nr x)
  | 0 => by simp [layP]
  | i + 1 => by
    have ih := layP_take (ep := ep) (zs := zs) hb (x := x) i
    cases h : (pcsI x zs.length)[i]? with
    | none => rw [List.take_add_one, h]; simpa using ih
    | some c =>
      obtain ⟨m, q, l, k, hm, hf⟩ := pc_fit h
      have hr := hf.room
      have hg := hf.ge
      rw [layP_next _ _ _ _ _ _ h, splice_take _ _ _ _ (by rw [hf.at_, Int.toNat_natCast]; exact hg) (by rw [layP_len hb, hf.at_, Int.toNat_natCast]; omega), ih]
/-- a record laid -/
noncomputable def layR (ep : Int) (b : List Int) (x : Int) (zs : List Int) : List Int := layP ep zs b (pcsI x zs.length)
theorem layR_all (ep : Int) (b : List Int) (x : Int) (zs : List Int) (i : Nat) (h : (pcsI x zs.length).length ≤ i) : layP ep zs b ((pcsI x zs.length).take i) = layR ep b x zs := by rw [List.take_of_length_le h]; rfl
theorem layR_len {ep : Int} {b zs : List Int} {x : Int} (hb : b.length = 832) : (layR ep b x zs).length = 832 := by
  rw [← layR_all _ _ _ _ _ (Nat.le_refl _)]; exact layP_len hb _
theorem layR_take {ep : Int} {b zs : List Int} {x : Int} (hb : b.length = 832) : (layR ep b x zs).take (nr x) = b.take (nr x) := by
  rw [← layR_all _ _ _ _ _ (Nat.le_refl _)]; exact layP_take hb _
/-- what is laid are bytes -/
theorem layP_bytes {ep : Int} {zs b : List Int} (hb : isB b) (hz : isB zs) {x : Int} : ∀ i, isB (layP ep zs b ((pcsI x zs.length).take i))
  | 0 => by simpa [layP] using hb
  | i + 1 => by
    have ih := layP_bytes (ep := ep) hb hz (x := x) i
    cases h : (pcsI x zs.length)[i]? with
    | none => rw [List.take_add_one, h]; simpa using ih
    | some c =>
      obtain ⟨m, q, l, k, hm, hf⟩ := pc_fit h
      rw [layP_next _ _ _ _ _ _ h]
      have h2 : isB (pcB ep zs c) := fragB_bytes (by have := hf.k1; have := hf.k4; omega) ep (by rw [hf.data]; exact (hz.drop _).take _)
      unfold splice
      exact (ih.take _).append (h2.append (ih.drop _))
theorem layR_bytes {ep : Int} {b zs : List Int} {x : Int} (hb : isB b) (hz : isB zs) : isB (layR ep b x zs) := by
  rw [← layR_all _ _ _ _ _ (Nat.le_refl _)]; exact layP_bytes hb hz _
/-! records, one behind the other -/
def z832 : List Int := List.replicate 832 0
noncomputable def endF (ls : List (List Int)) : Nat := ls.foldl (fun a z => endI (a : Nat) z.length) 0
noncomputable def bodyF (ep : Int) (ls : List (List Int)) : List Int := (ls.foldl (fun s z => (layR ep s.1 (s.2 : Nat) z, endI (s.2 : Nat) z.length)) (z832, 0)).1
noncomputable def placesF (ls : List (List Int)) : List Int := (List.range ls.length).map fun k => ((beginN (endF (ls.take k)) : Nat) : Int)
noncomputable def fitsF (ls : List (List Int)) : Bool := (List.range ls.length).all fun k => fitI (endF (ls.take k) : Nat) (ls.getD k []).length
theorem endF_nil : endF [] = 0 := rfl
theorem endF_snoc (ls : List (List Int)) (z : List Int) : endF (ls ++ [z]) = endI (endF ls : Nat) z.length := by simp [endF]
theorem endF_le : ∀ ls : List (List Int), endF ls ≤ 832 := fun ls => by
  rcases List.eq_nil_or_concat ls with rfl | ⟨l, z, rfl⟩
  · rw [endF_nil]; omega
  · rw [List.concat_eq_append, endF_snoc]; exact end_le _ _
theorem bodyF_state (ep : Int) (ls : List (List Int)) : (ls.foldl (fun s z => (layR ep s.1 (s.2 : Nat) z, endI (s.2 : Nat) z.length)) ((z832, 0) : List Int × Nat)).2 = endF ls := by
  unfold endF
  generalize (0 : Nat) = a
  generalize z832 = b
  induction ls generalizing a b with
  | nil => rfl
  | cons z l ih => exact ih _ _
theorem bodyF_nil (ep : Int) : bodyF ep [] = z832 := rfl
theorem bodyF_snoc (ep : Int) (ls : List (List Int)) (z : List Int) : bodyF ep (ls ++ [z]) = layR ep (bodyF ep ls) (endF ls : Nat) z := by
  have h := bodyF_state ep ls
  unfold bodyF at *
  rw [List.foldl_append]
  simp only [List.foldl_cons, List.foldl_nil]
  rw [h]
theorem placesF_nil : placesF [] = [] := rfl
theorem placesF_len (ls : List (List Int)) : (placesF ls).length = ls.length := by simp [placesF]
theorem placesF_snoc (ls : List (List Int)) (z : List Int) : placesF (ls ++ [z]) = placesF ls ++ [((beginN (endF ls) : Nat) : Int)] := by
  unfold placesF
  rw [List.length_append, List.length_singleton, List.range_succ, List.map_append]
  congr 1
  · refine List.map_congr_left fun k hk => ?_
    have : k < ls.length := List.mem_range.1 hk
    rw [List.take_append_of_le_length (by omega)]
  · simp
/-- a record that does not fit -/
def BadF (ls : List (List Int)) : Prop := ∃ k, k < ls.length ∧ fitI (endF (ls.take k) : Nat) (ls.getD k []).length = false
/-- the first k fit -/
def GoodF (ls : List (List Int)) (k : Nat) : Prop := ∀ j, j < k → fitI (endF (ls.take j) : Nat) (ls.getD j []).length = true
theorem fitsF_bad {ls : List (List Int)} (h : BadF ls) : fitsF ls = false := by
  obtain ⟨k, hk, hf⟩ := h
  unfold fitsF
  rw [Bool.eq_false_iff]
  intro h
  have := List.all_eq_true.1 h k (List.mem_range.2 hk)
  rw [hf] at this; cases this
theorem fitsF_good {ls : List (List Int)} (h : GoodF ls ls.length) : fitsF ls = true := by
  unfold fitsF
  exact List.all_eq_true.2 fun k hk => h k (List.mem_range.1 hk)
theorem fitsF_iff (ls : List (List Int)) : fitsF ls = true ↔ GoodF ls ls.length := by
  refine ⟨fun h k hk => ?_, fitsF_good⟩
  unfold fitsF at h
  exact List.all_eq_true.1 h k (List.mem_range.2 hk)
theorem GoodF.zero (ls : List (List Int)) : GoodF ls 0 := fun j hj => absurd hj (by omega)
theorem GoodF.next {ls : List (List Int)} {k : Nat} (h : GoodF ls k) (hf : fitI (endF (ls.take k) : Nat) (ls.getD k []).length = true) : GoodF ls (k + 1) := fun j hj => by
  by_cases e : j = k
  · subst e; exact hf
  · exact h j (by omega)
theorem take_next (ls : List (List Int)) (k : Nat) (hk : k < ls.length) : ls.take (k + 1) = ls.take k ++ [ls.getD k []] := by
  rw [List.take_add_one]; simp [List.getD, hk]
theorem endF_next (ls : List (List Int)) (k : Nat) (hk : k < ls.length) : endF (ls.take (k + 1)) = endI (endF (ls.take k) : Nat) (ls.getD k []).length := by rw [take_next ls k hk, endF_snoc]
theorem bodyF_next (ep : Int) (ls : List (List Int)) (k : Nat) (hk : k < ls.length) : bodyF ep (ls.take (k + 1)) = layR ep (bodyF ep (ls.take k)) (endF (ls.take k) : Nat) (ls.getD k []) := by rw [take_next ls k hk, bodyF_snoc]
theorem placesF_next (ls : List (List Int)) (k : Nat) (hk : k < ls.length) : placesF (ls.take (k + 1)) = placesF (ls.take k) ++ [((beginN (endF (ls.take k)) : Nat) : Int)] := by rw [take_next ls k hk, placesF_snoc]
theorem bodyF_at (ep : Int) (ls : List (List Int)) : ∀ k, k ≤ ls.length → (bodyF ep (ls.take k)).length = 832
  | 0, _ => by rw [List.take_zero, bodyF_nil]; exact List.length_replicate
  | k + 1, h => by rw [bodyF_next ep ls k (by omega)]; exact layR_len (bodyF_at ep ls k (by omega))
theorem bodyF_len (ep : Int) (ls : List (List Int)) : (bodyF ep ls).length = 832 := by
  have := bodyF_at ep ls ls.length (Nat.le_refl _)
  rwa [List.take_length] at this
theorem bodyF_bytes {ep : Int} (ls : List (List Int)) (hl : ∀ z ∈ ls, isB z) : ∀ k, k ≤ ls.length → isB (bodyF ep (ls.take k))
  | 0, _ => by rw [List.take_zero, bodyF_nil]; intro x hx; have := List.eq_of_mem_replicate hx; omega
  | k + 1, h => by
    rw [bodyF_next ep ls k (by omega)]
    exact layR_bytes (bodyF_bytes ls hl k (by omega)) (hl _ (by simp [List.getD, show k < ls.length by omega]))
/-- a record more -/
theorem fitsF_snoc (ls : List (List Int)) (z : List Int) : fitsF (ls ++ [z]) = (fitsF ls && fitI (endF ls : Nat) z.length) := by
  rw [Bool.eq_iff_iff, Bool.and_eq_true, fitsF_iff, fitsF_iff]
  have hlow : ∀ k, k < ls.length → (ls ++ [z]).take k = ls.take k ∧ (ls ++ [z]).getD k [] = ls.getD k [] := fun k hk =>
    ⟨List.take_append_of_le_length (by omega), by simp [List.getD, List.getElem?_append_left hk]⟩
  have htop : (ls ++ [z]).take ls.length = ls ∧ (ls ++ [z]).getD ls.length [] = z := ⟨by simp, by simp [List.getD]⟩
  have hlen : (ls ++ [z]).length = ls.length + 1 := by simp
  rw [hlen]
  constructor
  · intro h
    refine ⟨fun k hk => ?_, ?_⟩
    · have := h k (by omega)
      rwa [(hlow k hk).1, (hlow k hk).2] at this
    · have := h ls.length (by omega)
      rwa [htop.1, htop.2] at this
  · rintro ⟨h1, h2⟩ k hk
    by_cases e : k < ls.length
    · rw [(hlow k e).1, (hlow k e).2]; exact h1 k e
    · obtain rfl : k = ls.length := by omega
      rw [htop.1, htop.2]; exact h2
end Go.Proofs.YtjlnceldnbpapaaDoor
