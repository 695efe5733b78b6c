/-
  TEXTS JOINED: ImgMath, ScanWhere, Cut, StampMath, SpanWhere, SpanTouch, PlanMath. Each one's own words stand at its head.
-/
import Derived.Test.YtepaghohojomeaaDoorJ3
import Derived.Test.YtepaghohojomeaaDoorJ4
import Derived.Laws.Slices
import Derived.Deep.WholeRow
import Derived.Lib.SmallJoins
import Derived.Test.YtepaghohojomeaaDoorJ1
import Derived.Laws.StructEq
import Derived.Test.YtepaghohojomeaaDoorJ0
/-
  LAYER 17 (image): a record's fragments laid into a body, and records laid one behind the other (plain mathematics). No condition.
-/
namespace Go.Proofs.YtepaghohojomeaaDoor
open Go.RowKit
/-- a piece's place: where its fragment is laid, which bytes it has -/
structure PcFit (a n : Nat) (c : PC) (q l k : Nat) : Prop where
  at_ : c.at_ = (q : Int)
  from_ : c.from_ = (l : Int)
  to : c.to = ((l + k : Nat) : Int)
  room : q + 11 + k ≤ 832
  upto : l + k ≤ n
  most : k ≤ 197
  k1 : 1 ≤ c.kind
  k4 : c.kind ≤ 4
  ge : a ≤ q
theorem begin_ge (a : Nat) : a ≤ beginN a := by unfold beginN; split <;> omega
theorem pS_up (a n : Nat) : ∀ i, a ≤ pS a n i
  | 0 => Nat.le_refl _
  | i + 1 => by
    have h := pS_up a n i
    have h2 := begin_ge (pS a n i)
    rw [pS_next]
    unfold bS
    omega
theorem kind_bd (b c : Bool) : 1 ≤ kindN b c ∧ kindN b c ≤ 4 := by cases b <;> cases c <;> decide
theorem left_le208 (a : Nat) : leftN a ≤ 208 := by unfold leftN; split <;> omega
theorem pc_fit {x n : Int} {i : Nat} {c : PC} (h : (pcsI x n)[i]? = some c) : ∃ (m q l k : Nat), n = (m : Int) ∧ PcFit (nr x) m c q l k := by
  cases hq : fitI x n with
  | false => rw [(told_no hq).1] at h; simp at h
  | true =>
    obtain ⟨m, j, rfl, hk, hm, hc, hf⟩ := told_of hq
    rw [(told_yes hc hf).2.1] at h
    have hi : i < j := by have := (List.getElem?_eq_some_iff.1 h).1; rwa [firstP_len] at this
    rw [firstP_get _ _ _ _ hi] at h
    obtain rfl := Option.some.inj h
    obtain ⟨_, hs⟩ := hc.at_ hf hi
    have h1 := hs.f_ge
    have h2 := hs.f_le
    have h3 := hs.lle
    have h4 := hs.fits
    have h5 := left_le208 (bS (nr x) m i)
    have h6 := pS_up (nr x) m i
    have h7 := begin_ge (pS (nr x) m i)
    have hkd := kind_bd (decide (i = 0)) (decide (fS (nr x) m (i + 1) = m))
    exact ⟨m, bS (nr x) m i, fS (nr x) m i, fS (nr x) m (i + 1) - fS (nr x) m i, rfl, rfl, rfl, by show ((fS (nr x) m (i + 1) : Nat) : Int) = _; omega, by omega, by omega, by omega, hkd.1, hkd.2, by unfold bS; omega⟩
theorem end_gt {x n : Int} (h : fitI x n = true) : nr x < endI x n ∧ endI x n ≤ 832 := by
  obtain ⟨m, j, rfl, hk, hm, hc, hf⟩ := told_of h
  rw [(told_yes hc hf).2.2]
  have h0 := hc.1
  obtain ⟨i, rfl⟩ : ∃ i, j = i + 1 := ⟨j - 1, by omega⟩
  have h1 := pS_up (nr x) m i
  have h2 := begin_ge (pS (nr x) m i)
  have h3 := (hc.2.2.2 (i + 1) (Nat.le_refl _)).p_le
  rw [pS_next] at h3 ⊢
  unfold bS at h3 ⊢
  omega
theorem end_le (x n : Int) : endI x n ≤ 832 := by
  cases h : fitI x n with
  | true => exact (end_gt h).2
  | false => rw [(told_no h).2]; omega
/-! from where it begins on, it is cut the same -/
theorem st_begin (a n : Nat) : ∀ i, fS (beginN a) n i = fS a n i ∧ bS (beginN a) n i = bS a n i
  | 0 => ⟨rfl, begin_again a⟩
  | i + 1 => by
    obtain ⟨h1, h2⟩ := st_begin a n i
    have hf : fS (beginN a) n (i + 1) = fS a n (i + 1) := by rw [fS_next, fS_next, h1, h2]
    refine ⟨hf, ?_⟩
    have hp : pS (beginN a) n (i + 1) = pS a n (i + 1) := by rw [pS_next, pS_next, h1, h2]
    show beginN (pS (beginN a) n (i + 1)) = beginN (pS a n (i + 1))
    rw [hp]
theorem room_begin (a : Nat) : roomI (beginN a) = roomI a := by unfold roomI; rw [begin_again]
theorem pcs_begin (x : Int) (n : Int) : fitI (beginN (nr x) : Nat) n = fitI x n ∧ pcsI (beginN (nr x) : Nat) n = pcsI x n := by
  have hnr : nr ((beginN (nr x) : Nat) : Int) = beginN (nr x) := nr_nat _ (begin_le _ (nr_le x))
  have hfit : fitI (beginN (nr x) : Nat) n = fitI x n := by unfold fitI; rw [hnr, room_begin]
  refine ⟨hfit, ?_⟩
  cases hq : fitI x n with
  | false => rw [(told_no hq).1, (told_no (hfit.trans hq)).1]
  | true =>
    obtain ⟨m, j, rfl, _, _, hc, hf⟩ := told_of hq
    have hb : nr ((beginN (nr x) : Nat) : Int) ≤ 832 := nr_le _
    have hf2 : Fit (nr ((beginN (nr x) : Nat) : Int)) m := (fit_nat _ _).1 (hfit.trans hq)
    have hc2 := cuts_cnt hb hf2
    generalize cnt (nr ((beginN (nr x) : Nat) : Int)) m = j2 at hc2
    rw [(told_yes hc hf).2.1, (told_yes hc2 hf2).2.1]
    rw [hnr] at hc2 hf2 ⊢
    have hst := st_begin (nr x) m
    have hj : j2 = j := by
      obtain ⟨c1, c2, c3, _⟩ := hc
      obtain ⟨d1, d2, d3, _⟩ := hc2
      rcases Nat.lt_trichotomy j2 j with h | h | h
      · have := c3 j2 d1 h; rw [(hst j2).1] at d2; omega
      · exact h
      · have := d3 j c1 h; rw [(hst j).1] at this; omega
    subst hj
    unfold firstP
    refine List.map_congr_left fun i _ => ?_
    unfold pcS
    rw [(hst i).1, (hst (i + 1)).1, (hst i).2]
/-! laying -/
/-- a piece's fragment, as bytes -/
def pcB (ep : Int) (zs : List Int) (c : PC) : List Int := fragB c.kind ep (frOf ep zs c).data
def layP (ep : Int) (zs : List Int) (b : List Int) (ps : List PC) : List Int := ps.foldl (fun b c => splice b c.at_.toNat (pcB ep zs c)) b
theorem layP_nil (ep : Int) (zs b : List Int) : layP ep zs b [] = b := rfl
theorem layP_snoc (ep : Int) (zs b : List Int) (ps : List PC) (c : PC) : layP ep zs b (ps ++ [c]) = splice (layP ep zs b ps) c.at_.toNat (pcB ep zs c) := by simp [layP]
theorem layP_next (ep : Int) (zs b : List Int) (ps : List PC) (i : Nat) (c : PC) (h : ps[i]? = some c) : layP ep zs b (ps.take (i + 1)) = splice (layP ep zs b (ps.take i)) c.at_.toNat (pcB ep zs c) := by
  rw [List.take_add_one, h]
  exact layP_snoc ep zs b _ c
theorem PcFit.data {a n : Nat} {c : PC} {q l k : Nat} (h : PcFit a n c q l k) (ep : Int) (zs : List Int) : (frOf ep zs c).data = (zs.drop l).take k := by rw [frOf_data h.from_ h.to]
theorem PcFit.len {a n : Nat} {c : PC} {q l k : Nat} (h : PcFit a n c q l k) (ep : Int) (zs : List Int) (hz : zs.length = n) : (pcB ep zs c).length = 11 + k := by
  have := h.upto
  unfold pcB
  rw [fragB_length, h.data, List.length_take, List.length_drop]
  omega
theorem splice_len (b : List Int) (q : Nat) (x : List Int) (h : q + x.length ≤ b.length) : (splice b q x).length = b.length := by
  unfold splice; simp; omega
theorem splice_take (b : List Int) (q : Nat) (x : List Int) (m : Nat) (h : m ≤ q) (hq : q ≤ b.length) : (splice b q x).take m = b.take m := by
  unfold splice
  rw [List.take_append_of_le_length (by simp; omega), List.take_take, Nat.min_eq_left h]
theorem layP_len {ep : Int} {zs b : List Int} (hb : b.length = 832) {x : Int} : ∀ i, (layP ep zs b ((pcsI x zs.length).take i)).length = 832
  | 0 => by simpa [layP] using hb
  | i + 1 => by
    have ih := layP_len (ep := ep) (zs := zs) hb (x := x) i
    cases h : (pcsI x zs.length)[i]? with
    | none => rw [List.take_add_one, h]; simpa using ih
    | some c =>
      obtain ⟨m, q, l, k, hm, hf⟩ := pc_fit h
      have hr := hf.room
      rw [layP_next _ _ _ _ _ _ h, splice_len, ih]
      rw [hf.len ep zs (by omega), hf.at_, ih, Int.toNat_natCast]; omega
theorem layP_take {ep : Int} {zs b : List Int} (hb : b.length = 832) {x : Int} : ∀ i, (layP ep zs b ((pcsI x zs.length).take i)).take (nr x) = b.take (nr x)
  | 0 => by simp [layP]
  | i + 1 => by
    have ih := layP_take (ep := ep) (zs := zs) hb (x := x) i
    cases h : (pcsI x zs.length)[i]? with
    | none => rw [List.take_add_one, h]; simpa using ih
    | some c =>
      obtain ⟨m, q, l, k, hm, hf⟩ := pc_fit h
      have hr := hf.room
      have hg := hf.ge
      rw [layP_next _ _ _ _ _ _ h, splice_take _ _ _ _ (by rw [hf.at_, Int.toNat_natCast]; exact hg) (by rw [layP_len hb, hf.at_, Int.toNat_natCast]; omega), ih]
/-- a record laid -/
noncomputable def layR (ep : Int) (b : List Int) (x : Int) (zs : List Int) : List Int := layP ep zs b (pcsI x zs.length)
theorem layR_all (ep : Int) (b : List Int) (x : Int) (zs : List Int) (i : Nat) (h : (pcsI x zs.length).length ≤ i) : layP ep zs b ((pcsI x zs.length).take i) = layR ep b x zs := by rw [List.take_of_length_le h]; rfl
theorem layR_len {ep : Int} {b zs : List Int} {x : Int} (hb : b.length = 832) : (layR ep b x zs).length = 832 := by
  rw [← layR_all _ _ _ _ _ (Nat.le_refl _)]; exact layP_len hb _
theorem layR_take {ep : Int} {b zs : List Int} {x : Int} (hb : b.length = 832) : (layR ep b x zs).take (nr x) = b.take (nr x) := by
  rw [← layR_all _ _ _ _ _ (Nat.le_refl _)]; exact layP_take hb _
/-- what is laid are bytes -/
theorem layP_bytes {ep : Int} {zs b : List Int} (hb : isB b) (hz : isB zs) {x : Int} : ∀ i, isB (layP ep zs b ((pcsI x zs.length).take i))
  | 0 => by simpa [layP] using hb
  | i + 1 => by
    have ih := layP_bytes (ep := ep) hb hz (x := x) i
    cases h : (pcsI x zs.length)[i]? with
    | none => rw [List.take_add_one, h]; simpa using ih
    | some c =>
      obtain ⟨m, q, l, k, hm, hf⟩ := pc_fit h
      rw [layP_next _ _ _ _ _ _ h]
      have h2 : isB (pcB ep zs c) := fragB_bytes (by have := hf.k1; have := hf.k4; omega) ep (by rw [hf.data]; exact (hz.drop _).take _)
      unfold splice
      exact (ih.take _).append (h2.append (ih.drop _))
theorem layR_bytes {ep : Int} {b zs : List Int} {x : Int} (hb : isB b) (hz : isB zs) : isB (layR ep b x zs) := by
  rw [← layR_all _ _ _ _ _ (Nat.le_refl _)]; exact layP_bytes hb hz _
/-! records, one behind the other -/
def z832 : List Int := List.replicate 832 0
noncomputable def endF (ls : List (List Int)) : Nat := ls.foldl (fun a z => endI (a : Nat) z.length) 0
noncomputable def bodyF (ep : Int) (ls : List (List Int)) : List Int := (ls.foldl (fun s z => (layR ep s.1 (s.2 : Nat) z, endI (s.2 : Nat) z.length)) (z832, 0)).1
noncomputable def placesF (ls : List (List Int)) : List Int := (List.range ls.length).map fun k => ((beginN (endF (ls.take k)) : Nat) : Int)
noncomputable def fitsF (ls : List (List Int)) : Bool := (List.range ls.length).all fun k => fitI (endF (ls.take k) : Nat) (ls.getD k []).length
theorem endF_nil : endF [] = 0 := rfl
theorem endF_snoc (ls : List (List Int)) (z : List Int) : endF (ls ++ [z]) = endI (endF ls : Nat) z.length := by simp [endF]
theorem endF_le : ∀ ls : List (List Int), endF ls ≤ 832 := fun ls => by
  rcases List.eq_nil_or_concat ls with rfl | ⟨l, z, rfl⟩
  · rw [endF_nil]; omega
  · rw [List.concat_eq_append, endF_snoc]; exact end_le _ _
theorem bodyF_state (ep : Int) (ls : List (List Int)) : (ls.foldl (fun s z => (layR ep s.1 (s.2 : Nat) z, endI (s.2 : Nat) z.length)) ((z832, 0) : List Int × Nat)).2 = endF ls := by
  unfold endF
  generalize (0 : Nat) = a
  generalize z832 = b
  induction ls generalizing a b with
  | nil => rfl
  | cons z l ih => exact ih _ _
theorem bodyF_nil (ep : Int) : bodyF ep [] = z832 := rfl
theorem bodyF_snoc (ep : Int) (ls : List (List Int)) (z : List Int) : bodyF ep (ls ++ [z]) = layR ep (bodyF ep ls) (endF ls : Nat) z := by
  have h := bodyF_state ep ls
  unfold bodyF at *
  rw [List.foldl_append]
  simp only [List.foldl_cons, List.foldl_nil]
  rw [h]
theorem placesF_nil : placesF [] = [] := rfl
theorem placesF_len (ls : List (List Int)) : (placesF ls).length = ls.length := by simp [placesF]
theorem placesF_snoc (ls : List (List Int)) (z : List Int) : placesF (ls ++ [z]) = placesF ls ++ [((beginN (endF ls) : Nat) : Int)] := by
  unfold placesF
  rw [List.length_append, List.length_singleton, List.range_succ, List.map_append]
  congr 1
  · refine List.map_congr_left fun k hk => ?_
    have : k < ls.length := List.mem_range.1 hk
    rw [List.take_append_of_le_length (by omega)]
  · simp
/-- a record that does not fit -/
def BadF (ls : List (List Int)) : Prop := ∃ k, k < ls.length ∧ fitI (endF (ls.take k) : Nat) (ls.getD k []).length = false
/-- the first k fit -/
def GoodF (ls : List (List Int)) (k : Nat) : Prop := ∀ j, j < k → fitI (endF (ls.take j) : Nat) (ls.getD j []).length = true
theorem fitsF_bad {ls : List (List Int)} (h : BadF ls) : fitsF ls = false := by
  obtain ⟨k, hk, hf⟩ := h
  unfold fitsF
  rw [Bool.eq_false_iff]
  intro h
  have := List.all_eq_true.1 h k (List.mem_range.2 hk)
  rw [hf] at this; cases this
theorem fitsF_good {ls : List (List Int)} (h : GoodF ls ls.length) : fitsF ls = true := by
  unfold fitsF
  exact List.all_eq_true.2 fun k hk => h k (List.mem_range.1 hk)
theorem fitsF_iff (ls : List (List Int)) : fitsF ls = true ↔ GoodF ls ls.length := by
  refine ⟨fun h k hk => ?_, fitsF_good⟩
  unfold fitsF at h
  exact List.all_eq_true.1 h k (List.mem_range.2 hk)
theorem GoodF.zero (ls : List (List Int)) : GoodF ls 0 := fun j hj => absurd hj (by omega)
theorem GoodF.next {ls : List (List Int)} {k : Nat} (h : GoodF ls k) (hf : fitI (endF (ls.take k) : Nat) (ls.getD k []).length = true) : GoodF ls (k + 1) := fun j hj => by
  by_cases e : j = k
  · subst e; exact hf
  · exact h j (by omega)
theorem take_next (ls : List (List Int)) (k : Nat) (hk : k < ls.length) : ls.take (k + 1) = ls.take k ++ [ls.getD k []] := by
  rw [List.take_add_one]; simp [List.getD, hk]
theorem endF_next (ls : List (List Int)) (k : Nat) (hk : k < ls.length) : endF (ls.take (k + 1)) = endI (endF (ls.take k) : Nat) (ls.getD k []).length := by rw [take_next ls k hk, endF_snoc]
theorem bodyF_next (ep : Int) (ls : List (List Int)) (k : Nat) (hk : k < ls.length) : bodyF ep (ls.take (k + 1)) = layR ep (bodyF ep (ls.take k)) (endF (ls.take k) : Nat) (ls.getD k []) := by rw [take_next ls k hk, bodyF_snoc]
theorem placesF_next (ls : List (List Int)) (k : Nat) (hk : k < ls.length) : placesF (ls.take (k + 1)) = placesF (ls.take k) ++ [((beginN (endF (ls.take k)) : Nat) : Int)] := by rw [take_next ls k hk, placesF_snoc]
theorem bodyF_at (ep : Int) (ls : List (List Int)) : ∀ k, k ≤ ls.length → (bodyF ep (ls.take k)).length = 832
  | 0, _ => by rw [List.take_zero, bodyF_nil]; exact List.length_replicate
  | k + 1, h => by rw [bodyF_next ep ls k (by omega)]; exact layR_len (bodyF_at ep ls k (by omega))
theorem bodyF_len (ep : Int) (ls : List (List Int)) : (bodyF ep ls).length = 832 := by
  have := bodyF_at ep ls ls.length (Nat.le_refl _)
  rwa [List.take_length] at this
theorem bodyF_bytes {ep : Int} (ls : List (List Int)) (hl : ∀ z ∈ ls, isB z) : ∀ k, k ≤ ls.length → isB (bodyF ep (ls.take k))
  | 0, _ => by rw [List.take_zero, bodyF_nil]; intro x hx; have := List.eq_of_mem_replicate hx; omega
  | k + 1, h => by
    rw [bodyF_next ep ls k (by omega)]
    exact layR_bytes (bodyF_bytes ls hl k (by omega)) (hl _ (by simp [List.getD, show k < ls.length by omega]))
/-- a record more -/
theorem fitsF_snoc (ls : List (List Int)) (z : List Int) : fitsF (ls ++ [z]) = (fitsF ls && fitI (endF ls : Nat) z.length) := by
  rw [Bool.eq_iff_iff, Bool.and_eq_true, fitsF_iff, fitsF_iff]
  have hlow : ∀ k, k < ls.length → (ls ++ [z]).take k = ls.take k ∧ (ls ++ [z]).getD k [] = ls.getD k [] := fun k hk =>
    ⟨List.take_append_of_le_length (by omega), by simp [List.getD, List.getElem?_append_left hk]⟩
  have htop : (ls ++ [z]).take ls.length = ls ∧ (ls ++ [z]).getD ls.length [] = z := ⟨by simp, by simp [List.getD]⟩
  have hlen : (ls ++ [z]).length = ls.length + 1 := by simp
  rw [hlen]
  constructor
  · intro h
    refine ⟨fun k hk => ?_, ?_⟩
    · have := h k (by omega)
      rwa [(hlow k hk).1, (hlow k hk).2] at this
    · have := h ls.length (by omega)
      rwa [htop.1, htop.2] at this
  · rintro ⟨h1, h2⟩ k hk
    by_cases e : k < ls.length
    · rw [(hlow k e).1, (hlow k e).2]; exact h1 k e
    · obtain rfl : k = ls.length := by omega
      rw [htop.1, htop.2]; exact h2
end Go.Proofs.YtepaghohojomeaaDoor
/-
  LAYER 19 (scan): where what is laid stands (plain mathematics): a fragment's bytes, the bytes behind the end, what a longer laying keeps. No condition.
-/
namespace Go.Proofs.YtepaghohojomeaaDoor
open Go.RowKit
theorem splice_in (b : List Int) (q : Nat) (x : List Int) (hf : q + x.length ≤ b.length) (j : Nat) (hj : j < x.length) : (splice b q x).getD (q + j) 0 = x.getD j 0 := by
  simp only [List.getD]
  rw [splice_get b q x hf, if_neg (by omega), if_pos (by omega), Nat.add_sub_cancel_left]
theorem splice_out (b : List Int) (q : Nat) (x : List Int) (hf : q + x.length ≤ b.length) (j : Nat) (hj : j < q ∨ q + x.length ≤ j) : (splice b q x).getD j 0 = b.getD j 0 := by
  simp only [List.getD]
  rw [splice_get b q x hf]
  rcases hj with h | h
  · rw [if_pos h]
  · rw [if_neg (by omega), if_neg (by omega)]
/-- a record's i-th fragment -/
def frI (ep : Int) (a : Nat) (zs : List Int) (i : Nat) : FR := ⟨kindN (decide (i = 0)) (decide (fS a zs.length (i + 1) = zs.length)), ep, (zs.drop (fS a zs.length i)).take (fS a zs.length (i + 1) - fS a zs.length i)⟩
/-- how many bytes it has -/
def szI (a : Nat) (zs : List Int) (i : Nat) : Nat := 11 + (fS a zs.length (i + 1) - fS a zs.length i)
def frB (ep : Int) (a : Nat) (zs : List Int) (i : Nat) : List Int := fragB (frI ep a zs i).kind ep (frI ep a zs i).data
theorem pcB_frB (ep : Int) (a : Nat) (zs : List Int) (i : Nat) : pcB ep zs (pcS a zs.length i) = frB ep a zs i := by
  unfold pcB frB frI frOf pcS
  simp only [Int.toNat_natCast]
/-- a record that fits -/
structure Laid (a : Nat) (zs : List Int) (m : Nat) : Prop where
  cuts : Cuts a zs.length m
  fit : Fit a zs.length
  pcs : pcsI (a : Int) zs.length = firstP a zs.length m
  end_ : endI (a : Int) zs.length = pS a zs.length m
  ha : a ≤ 832
theorem laid_of {a : Nat} {zs : List Int} (ha : a ≤ 832) (h : fitI (a : Int) zs.length = true) : ∃ m, Laid a zs m := by
  obtain ⟨k, m, hk, _, _, hc, hf⟩ := told_of h
  obtain rfl : zs.length = k := by omega
  have hn := nr_nat a ha
  obtain ⟨_, h2, h3⟩ := told_yes hc hf
  rw [hn] at hc hf h2 h3
  exact ⟨m, hc, hf, h2, h3, ha⟩
section
variable {a m : Nat} {zs : List Int}
theorem Laid.step (h : Laid a zs m) {i : Nat} (hi : i < m) : Run a zs.length i ∧ Step a zs.length i := h.cuts.at_ h.fit hi
theorem Laid.data (h : Laid a zs m) {i : Nat} (hi : i < m) (ep : Int) : (frI ep a zs i).data.length = fS a zs.length (i + 1) - fS a zs.length i := by
  obtain ⟨_, hs⟩ := h.step hi
  have h1 := hs.f_ge
  have h2 := hs.f_le
  show ((zs.drop _).take _).length = _
  rw [List.length_take, List.length_drop]; omega
theorem Laid.len (h : Laid a zs m) {i : Nat} (hi : i < m) (ep : Int) : (frB ep a zs i).length = szI a zs i := by
  unfold frB szI
  rw [fragB_length, h.data hi]
theorem Laid.room (h : Laid a zs m) {i : Nat} (hi : i < m) : bS a zs.length i + szI a zs i = pS a zs.length (i + 1) ∧ pS a zs.length (i + 1) ≤ 832 ∧ szI a zs i ≤ leftN (bS a zs.length i) ∧ pS a zs.length i ≤ bS a zs.length i ∧ bS a zs.length i % 52 ≤ 41 ∧ bS a zs.length i ≠ 832 := by
  obtain ⟨hr, hs⟩ := h.step hi
  have h1 := hs.p_eq
  have h2 := (h.cuts.2.2.2 (i + 1) (by omega)).p_le
  have h3 := hs.fits
  have h4 := begin_ge (pS a zs.length i)
  have h5 := begin_room (pS a zs.length i) hr.p_le
  unfold szI
  refine ⟨by omega, h2, h3, h4, ?_, ?_⟩
  · rcases h5 with h5 | ⟨_, h5⟩
    · have : bS a zs.length i = 832 := h5
      have h6 := hs.l11
      rw [this] at h6
      exact absurd h6 (by decide)
    · exact h5
  · intro e
    have h6 := hs.l11
    rw [e] at h6
    exact absurd h6 (by decide)
theorem Laid.mono (h : Laid a zs m) {i : Nat} : ∀ {t : Nat}, i ≤ t → t ≤ m → pS a zs.length i ≤ pS a zs.length t
  | 0, hi, _ => by obtain rfl : i = 0 := by omega
                   exact Nat.le_refl _
  | t + 1, hi, ht => by
    by_cases e : i = t + 1
    · subst e; exact Nat.le_refl _
    · have ih := Laid.mono h (i := i) (t := t) (by omega) (by omega)
      obtain ⟨h1, _, _, h4, _⟩ := h.room (i := t) (by omega)
      omega
theorem Laid.lay_len (h : Laid a zs m) {ep : Int} {b : List Int} (hb : b.length = 832) (t : Nat) : (layP ep zs b ((firstP a zs.length m).take t)).length = 832 := by
  rw [← h.pcs]; exact layP_len hb t
theorem Laid.lay_next (_h : Laid a zs m) {ep : Int} {b : List Int} {t : Nat} (ht : t < m) : layP ep zs b ((firstP a zs.length m).take (t + 1)) = splice (layP ep zs b ((firstP a zs.length m).take t)) (bS a zs.length t) (frB ep a zs t) := by
  rw [layP_next ep zs b _ t _ (firstP_get a zs.length m t ht), pcB_frB]
  rfl
theorem Laid.lay_fit (h : Laid a zs m) {ep : Int} {b : List Int} (hb : b.length = 832) {t : Nat} (ht : t < m) : bS a zs.length t + (frB ep a zs t).length ≤ (layP ep zs b ((firstP a zs.length m).take t)).length := by
  obtain ⟨h1, h2, _⟩ := h.room ht
  rw [h.lay_len hb, h.len ht]; omega
/-- a fragment's bytes stand -/
theorem Laid.lay_at (h : Laid a zs m) {ep : Int} {b : List Int} (hb : b.length = 832) {i : Nat} : ∀ t, i < t → t ≤ m → ∀ j, j < szI a zs i → (layP ep zs b ((firstP a zs.length m).take t)).getD (bS a zs.length i + j) 0 = (frB ep a zs i).getD j 0
  | 0, hi, _, _, _ => absurd hi (by omega)
  | t + 1, hi, ht, j, hj => by
    have hf := h.lay_fit (ep := ep) hb (show t < m from ht)
    have hl := h.len (show t < m from ht) ep
    rw [h.lay_next ht]
    by_cases e : i = t
    · subst e
      exact splice_in _ _ _ hf j (by omega)
    · obtain ⟨h1, _⟩ := h.room (i := i) (by omega)
      obtain ⟨_, _, _, h4, _⟩ := h.room (show t < m from ht)
      have h5 := h.mono (i := i + 1) (t := t) (by omega) (by omega)
      rw [splice_out _ _ _ hf _ (.inl (by omega))]
      exact Laid.lay_at h hb t (by omega) (by omega) j hj
/-- behind the end nothing is laid -/
theorem Laid.lay_out (h : Laid a zs m) {ep : Int} {b : List Int} (hb : b.length = 832) : ∀ t, t ≤ m → ∀ j, pS a zs.length t ≤ j → (layP ep zs b ((firstP a zs.length m).take t)).getD j 0 = b.getD j 0
  | 0, _, j, _ => by rw [List.take_zero, layP_nil]
  | t + 1, ht, j, hj => by
    have hf := h.lay_fit (ep := ep) hb (show t < m from ht)
    have hl := h.len (show t < m from ht) ep
    obtain ⟨h1, _, _, h4, _⟩ := h.room (show t < m from ht)
    rw [h.lay_next ht, splice_out _ _ _ hf _ (.inr (by omega))]
    exact Laid.lay_out h hb t (by omega) j (by omega)
theorem Laid.rec_ (h : Laid a zs m) (ep : Int) (b : List Int) : layR ep b (a : Int) zs = layP ep zs b ((firstP a zs.length m).take m) := by
  unfold layR
  rw [h.pcs, List.take_of_length_le (by rw [firstP_len]; exact Nat.le_refl _)]
theorem Laid.low (h : Laid a zs m) {ep : Int} {b : List Int} (hb : b.length = 832) {j : Nat} (hj : j < a) : (layR ep b (a : Int) zs).getD j 0 = b.getD j 0 := by
  have h1 := layR_take (ep := ep) (zs := zs) (x := (a : Int)) hb
  rw [nr_nat a h.ha] at h1
  have h2 := congrArg (fun l => l.getD j 0) h1
  simpa [List.getD, List.getElem?_take, hj] using h2
theorem Laid.up (h : Laid a zs m) : a ≤ pS a zs.length m := by
  have := h.mono (i := 0) (t := m) (Nat.zero_le _) (Nat.le_refl _)
  rwa [pS_zero] at this
end
/-! records, one behind the other -/
section
variable {ls : List (List Int)} (hg : GoodF ls ls.length)
include hg
/-- the k-th record, laid -/
theorem laid_k {k : Nat} (hk : k < ls.length) : ∃ m, Laid (endF (ls.take k)) (ls.getD k []) m := laid_of (endF_le _) (hg k hk)
theorem end_step {k : Nat} (hk : k < ls.length) : endF (ls.take k) ≤ endF (ls.take (k + 1)) := by
  obtain ⟨m, h⟩ := laid_k hg hk
  rw [endF_next ls k hk, h.end_]
  exact h.up
theorem end_mono {k : Nat} : ∀ {t : Nat}, k ≤ t → t ≤ ls.length → endF (ls.take k) ≤ endF (ls.take t)
  | 0, hk, _ => by obtain rfl : k = 0 := by omega
                   exact Nat.le_refl _
  | t + 1, hk, ht => by
    by_cases e : k = t + 1
    · subst e; exact Nat.le_refl _
    · exact Nat.le_trans (end_mono (t := t) (by omega) (by omega)) (end_step hg (by omega))
theorem body_out (ep : Int) : ∀ k, k ≤ ls.length → ∀ j, endF (ls.take k) ≤ j → (bodyF ep (ls.take k)).getD j 0 = 0
  | 0, _, j, _ => by rw [List.take_zero, bodyF_nil]; unfold z832; simp only [List.getD, List.getElem?_replicate]; split <;> rfl
  | k + 1, hk, j, hj => by
    obtain ⟨m, h⟩ := laid_k hg (k := k) (by omega)
    have hb := bodyF_at ep ls k (by omega)
    have hs := end_step hg (k := k) (by omega)
    rw [endF_next ls k (by omega), h.end_] at hj
    rw [bodyF_next ep ls k (by omega), h.rec_, h.lay_out hb m (Nat.le_refl _) j hj]
    exact body_out ep k (by omega) j (by have := h.up; omega)
theorem body_pre (ep : Int) {k : Nat} : ∀ {t : Nat}, k ≤ t → t ≤ ls.length → ∀ j, j < endF (ls.take k) → (bodyF ep (ls.take t)).getD j 0 = (bodyF ep (ls.take k)).getD j 0
  | 0, hk, _, j, _ => by obtain rfl : k = 0 := by omega
                         rfl
  | t + 1, hk, ht, j, hj => by
    by_cases e : k = t + 1
    · subst e; rfl
    · obtain ⟨m, h⟩ := laid_k hg (k := t) (by omega)
      have hm := end_mono hg (k := k) (t := t) (by omega) (by omega)
      rw [bodyF_next ep ls t (by omega), h.low (bodyF_at ep ls t (by omega)) (by omega)]
      exact body_pre ep (t := t) (by omega) (by omega) j hj
/-- where the k-th record's i-th fragment stands -/
theorem body_at (ep : Int) {k m i : Nat} (hk : k < ls.length) (h : Laid (endF (ls.take k)) (ls.getD k []) m) (hi : i < m) (j : Nat) (hj : j < szI (endF (ls.take k)) (ls.getD k []) i) :
    (bodyF ep ls).getD (bS (endF (ls.take k)) (ls.getD k []).length i + j) 0 = (frB ep (endF (ls.take k)) (ls.getD k []) i).getD j 0 := by
  have hb := bodyF_at ep ls k (by omega)
  obtain ⟨h1, _⟩ := h.room hi
  have h2 := h.mono (i := i + 1) (t := m) (by omega) (Nat.le_refl _)
  have h3 : endF (ls.take (k + 1)) = pS (endF (ls.take k)) (ls.getD k []).length m := by rw [endF_next ls k hk, h.end_]
  have h4 := body_pre hg ep (k := k + 1) (t := ls.length) (by omega) (Nat.le_refl _) (bS (endF (ls.take k)) (ls.getD k []).length i + j) (by omega)
  rw [List.take_length] at h4
  rw [h4, bodyF_next ep ls k hk, h.rec_]
  exact h.lay_at hb m hi (Nat.le_refl _) j hj
end
end Go.Proofs.YtepaghohojomeaaDoor
/-
  CUTS OF SLICES OF BYTES, with two and with three indices, and an append to a slice that is full. Nothing here speaks of the program's functions. No condition.
-/
namespace Go.Proofs.YtepaghohojomeaaDoor
open Go.RowKit
/-- a part of a slice -/
theorem RI.cut {k : IntKind} {w : World} {a : Option Addr} {len cap : Nat} {zs : List Int} (h : RI k w (.slice a len cap) len zs) (l n m : Nat) (hl : l + n ≤ len) (hm : l + n ≤ m) (hm2 : m ≤ cap) :
    RI k w (sliced a l (l + n) m 1) n ((zs.drop l).take n) := by
  obtain ⟨a', cap', e, h1, h2, h3, h4, hc⟩ := h
  simp only [Value.slice.injEq, true_and] at e
  obtain ⟨rfl, rfl⟩ := e
  have hz : ((zs.drop l).take n).length = n := by simp; omega
  unfold sliced
  rw [show l + n - l = n from by omega]
  by_cases h0 : m = l
  · rw [if_pos h0]
    exact ⟨a, m - l, rfl, hz, by omega, by omega, fun e => by have := h4 e; omega, fun h => absurd h (by omega)⟩
  · rw [if_neg h0]
    cases a with
    | none => have := h4 rfl; omega
    | some x =>
      refine ⟨some (x.add (l * 1)), m - l, rfl, hz, by omega, by omega, fun h => by simp at h, fun hp => ?_⟩
      obtain ⟨b, off, hx, hcell⟩ := hc (by omega)
      obtain rfl := Option.some.inj hx
      refine ⟨b, off + l, by simp [Addr.add], fun j hj => ?_⟩
      rw [Nat.add_assoc, hcell (l + j) (by omega)]
      simp only [List.getD, List.getElem?_take, hj, if_true, List.getElem?_drop]
section
variable {w : World} {o : Oper} {a : Act}
set_option maxRecDepth 20000 in
theorem u8_cell1 : (sizeOf (Tryd.prog.elem 43)).run Tryd.prog w = .ok 1 w := by
  have he : Tryd.prog.elem 43 = 5 := rfl
  obtain ⟨i, hi, _, hz1, _⟩ := info_parts Tryd.info_u8
  simp [sizeOf, typeInfo, he, hi, hz1]
set_option maxRecDepth 20000 in
theorem und_bytes : Tryd.prog.underlying 43 = some (.slice (Tryd.prog.elem 43)) := by rw [Tryd.underlying43]; rfl
/-- x[l:h] -/
theorem exec_cut_lh (x lo hi : Operand) (ho : o.op = .slice 43 x (some lo) (some hi) none) (p : Option Addr) (len cap l n : Nat) (hx : a.eval x = .slice p len cap) (hlo : a.eval lo = .int .i64 (l : Int)) (hhi : a.eval hi = .int .i64 ((l + n : Nat) : Int)) (hc : l + n ≤ cap) :
    (execOp a.eval o).run Tryd.prog w = .ok (.value (sliced p l (l + n) cap 1)) w := by
  have h1 := run_slice_lh (P := Tryd.prog) w 43 p len cap und_bytes .i64 .i64 (l : Int) ((l + n : Nat) : Int) (by omega) (by omega) (by omega)
  rw [u8_cell1] at h1
  simp only [Result.andThen_ok, Int.toNat_natCast] at h1
  simp only [Int.natCast_add] at h1
  simp [execOp, ho, hx, hlo, hhi, run_sliceAt_slice _ _ _ _ _ _ und_bytes, h1, Result.andThen]
/-- x[:h] -/
theorem exec_cut_h (x hi : Operand) (ho : o.op = .slice 43 x none (some hi) none) (p : Option Addr) (len cap n : Nat) (hx : a.eval x = .slice p len cap) (hhi : a.eval hi = .int .i64 (n : Int)) (hc : n ≤ cap) :
    (execOp a.eval o).run Tryd.prog w = .ok (.value (sliced p 0 n cap 1)) w := by
  have h1 := run_slice_h (P := Tryd.prog) w 43 p len cap und_bytes .i64 (n : Int) (by omega) (by omega)
  rw [u8_cell1] at h1
  simp only [Result.andThen_ok, Int.toNat_natCast] at h1
  simp [execOp, ho, hx, hhi, run_sliceAt_slice _ _ _ _ _ _ und_bytes, h1, Result.andThen]
/-- x[l:h:m] -/
theorem exec_cut_lhm (x lo hi mx : Operand) (ho : o.op = .slice 43 x (some lo) (some hi) (some mx)) (p : Option Addr) (len cap l n m : Nat) (hx : a.eval x = .slice p len cap) (hlo : a.eval lo = .int .i64 (l : Int)) (hhi : a.eval hi = .int .i64 ((l + n : Nat) : Int)) (hmx : a.eval mx = .int .i64 (m : Int)) (hm : l + n ≤ m) (hc : m ≤ cap) :
    (execOp a.eval o).run Tryd.prog w = .ok (.value (sliced p l (l + n) m 1)) w := by
  have h1 := run_slice_lhm (P := Tryd.prog) w 43 p len cap und_bytes .i64 .i64 .i64 (l : Int) ((l + n : Nat) : Int) (m : Int) (by omega) (by omega) (by omega) (by omega)
  rw [u8_cell1] at h1
  simp only [Result.andThen_ok, Int.toNat_natCast] at h1
  simp only [Int.natCast_add] at h1
  simp [execOp, ho, hx, hlo, hhi, hmx, run_sliceAt_slice _ _ _ _ _ _ und_bytes, h1, Result.andThen]
theorem sliced_form (p : Option Addr) (l n m s : Nat) : ∃ q c, sliced p l (l + n) m s = .slice q n c := ⟨_, _, by unfold sliced; rw [show l + n - l = n from by omega]⟩
section
variable {ops : Array Oper} {rest : List Oper} {Q : Exit → Act → World → Prop}
theorem wpl_val (hw : o.guard = none) {v : Value} (he : (execOp a.eval o).run Tryd.prog w = .ok (.value v) w) (h : wpList Tryd.prog ops Q rest (a.put o.dst v) w) : wpList Tryd.prog ops Q (o :: rest) a w := by
  refine wpList_plain hw fun K hK => ?_
  unfold Oper.wp
  rw [he]
  simp only [Oper.upon]
  exact hK _ _ h
theorem wpl_cut_lh (hg : o.guard = none) (x lo hi : Operand) (ho : o.op = .slice 43 x (some lo) (some hi) none) (v : Value) (len l n : Nat) (zs : List Int) (hx : a.eval x = v) (hlo : a.eval lo = .int .i64 (l : Int)) (hhi : a.eval hi = .int .i64 ((l + n : Nat) : Int)) (hr : RI .u8 w v len zs) (hl : l + n ≤ len)
    (h : ∀ p c, RI .u8 w (.slice p n c) n ((zs.drop l).take n) → wpList Tryd.prog ops Q rest (a.put o.dst (.slice p n c)) w) : wpList Tryd.prog ops Q (o :: rest) a w := by
  obtain ⟨p, cap, rfl, _, hc, _⟩ := id hr
  obtain ⟨q, c, e⟩ := sliced_form p l n cap 1
  have he := exec_cut_lh (w := w) x lo hi ho p len cap l n hx hlo hhi (by omega)
  have hR := hr.cut l n cap hl (by omega) (Nat.le_refl _)
  rw [e] at he hR
  exact wpl_val hg he (h q c hR)
theorem wpl_cut_lhm (hg : o.guard = none) (x lo hi mx : Operand) (ho : o.op = .slice 43 x (some lo) (some hi) (some mx)) (v : Value) (len l n m : Nat) (zs : List Int) (hx : a.eval x = v) (hlo : a.eval lo = .int .i64 (l : Int)) (hhi : a.eval hi = .int .i64 ((l + n : Nat) : Int)) (hmx : a.eval mx = .int .i64 (m : Int)) (hr : RI .u8 w v len zs) (hl : l + n ≤ len) (hm : l + n ≤ m) (hm2 : m ≤ len)
    (h : ∀ p c, RI .u8 w (.slice p n c) n ((zs.drop l).take n) → wpList Tryd.prog ops Q rest (a.put o.dst (.slice p n c)) w) : wpList Tryd.prog ops Q (o :: rest) a w := by
  obtain ⟨p, cap, rfl, _, hc, _⟩ := id hr
  obtain ⟨q, c, e⟩ := sliced_form p l n m 1
  have he := exec_cut_lhm (w := w) x lo hi mx ho p len cap l n m hx hlo hhi hmx hm (by omega)
  have hR := hr.cut l n m hl hm (by omega)
  rw [e] at he hR
  exact wpl_val hg he (h q c hR)
end
end
/-- append to a slice without room: nothing that was there is changed -/
theorem wp_app_full {P : Program} {w : World} {o : Oper} {a : Act} {K : Act → World → Prop} {Q : Exit → Act → World → Prop} (s x : Operand) (t : TypeId) (ho : o.op = .call { callee := .builtin .append, args := #[s, x], argTypes := #[t, t] })
    (e : TypeId) (k : IntKind) (bytes : Nat) (ht : P.underlying t = some (.slice e)) (hinfo : (P.info? e).map (fun i => (i.zero, i.size, i.bytes)) = some (some (.int k 0), 1, bytes))
    (g off n : Nat) (xs : List Int) (hs : a.eval s = .slice (some ⟨g, off, none⟩) n n) (hown : RI k w (.slice (some ⟨g, off, none⟩) n n) n xs)
    (v2 : Value) (m : Nat) (ys : List Int) (hx : a.eval x = v2) (hri : RI k w v2 m ys) (h0 : 0 < n) (hbytes : ((n + m) + (n + m) / 4 + 192) * bytes ≤ 281474976710656) (h63 : n + m ≤ 9223372036854775807)
    (h : ∀ p c w', RI k w' (.slice p (n + m) c) (n + m) (xs ++ ys) → Below w.heap.size w w' → K (a.put o.dst (.slice p (n + m) c)) w') : o.wp P a w K Q := by
  obtain ⟨i, hi, hz0, hz1, hz2⟩ := info_parts hinfo
  obtain ⟨ad, cap, rfl, hl, hlc, _, hnil, hc⟩ := hri
  have hxl := hown.length
  obtain ⟨b, of2, e1, hcell⟩ := hown.at_ h0
  obtain ⟨rfl, rfl⟩ : g = b ∧ off = of2 := by simpa using e1
  by_cases hm : m = 0
  · subst hm
    obtain rfl : ys = [] := List.length_eq_zero_iff.1 hl
    have hrun : (Builtin.append_ #[t, t] o.type #[.slice (some ⟨g, off, none⟩) n n, .slice ad 0 cap]).run P w = .ok (.slice (some ⟨g, off, none⟩) n n) w := by
      cases ad <;> simp [Builtin.append_, run_underlying ht, sizeOf, typeInfo, hi, Builtin.lenOf, Builtin.firstCells, loadCells, loadCellsFrom, storeCells]
    unfold Oper.wp
    simp [execOp, ho, resolve, invoke, builtin, hs, hx, hrun, Result.andThen]
    exact h (some ⟨g, off, none⟩) n w (by rw [List.append_nil]; exact hown) (Below.refl _ _)
  · obtain ⟨b2, of3, rfl, hcell2⟩ := hc (by omega)
    have holds : ∀ j u, (il k xs)[j]? = some u → w.cell? ((⟨g, off, none⟩ : Addr).add j) = some u := by
      intro j u hj
      have hjl : j < xs.length := by have := (List.getElem?_eq_some_iff.1 hj).1; rwa [il_length] at this
      rw [il_get _ _ _ hjl] at hj
      have hadd : (⟨g, off, none⟩ : Addr).add j = ⟨g, off + j, none⟩ := by unfold Addr.add; split <;> simp_all
      rw [hadd, hcell j (by omega)]; exact hj
    have hnews : ∀ j u, (il k ys)[j]? = some u → w.cell? ((⟨b2, of3, none⟩ : Addr).add j) = some u := by
      intro j u hj
      have hjl : j < ys.length := by have := (List.getElem?_eq_some_iff.1 hj).1; rwa [il_length] at this
      rw [il_get _ _ _ hjl] at hj
      have hadd : (⟨b2, of3, none⟩ : Addr).add j = ⟨b2, of3 + j, none⟩ := by unfold Addr.add; split <;> simp_all
      rw [hadd, hcell2 j (by omega)]; exact hj
    have hrun := run_append_grow (P := P) w t o.type e i (.int k 0) ht hi hz0 ⟨g, off, none⟩ n n (il k xs) (by rw [il_length, hz1]; omega) holds ⟨b2, of3, none⟩ m cap (il k ys) (by rw [il_length, hz1]; omega) hnews (by omega) (by omega) (growslice_fits_wide (by omega) (by rw [hz2]; exact hbytes))
    unfold Oper.wp
    simp [execOp, ho, resolve, invoke, builtin, hs, hx, hrun, Result.andThen]
    have hge := grownCap_ge w (n + m) n e
    have hle := grownCap_le_maxLen w (n + m) n e (by unfold maxLen; omega)
    refine h _ _ _ ⟨_, _, rfl, by simp; omega, hge, by unfold maxLen at hle; omega, fun h => by simp at h, fun _ => ⟨w.heap.size, 0, rfl, fun j hj => ?_⟩⟩ ((Below.refl _ w).drew.alloc (Nat.le_refl _) _)
    rw [Nat.zero_add]
    refine (cell_of_row _ w.heap.size j _ e _ (heap_alloc_last w.drew _)).trans ?_
    have e2 : il k xs ++ il k ys = il k (xs ++ ys) := (il_append k xs ys).symm
    rw [e2, Array.getElem?_append_left (by simp [il_length]; omega)]
    have := il_get k (xs ++ ys) j (by simp; omega)
    simpa using this
end Go.Proofs.YtepaghohojomeaaDoor
/-
  PLAIN MATHEMATICS OF LAYER 6 (stamp): which bytes a stamped sector has. No condition.
-/
namespace Go.Proofs.YtepaghohojomeaaDoor
/-- a sector's room, out of any bytes -/
def room (zs : List Int) : List Int := (zs ++ List.replicate 52 0).take 52
theorem room_length (zs : List Int) : (room zs).length = 52 := by simp [room]
theorem getD_replicate (n j : Nat) : (List.replicate n (0 : Int)).getD j 0 = 0 := by
  simp only [List.getD, List.getElem?_replicate]; split <;> rfl
theorem room_get (zs : List Int) (j : Nat) (h : j < 52) : (room zs).getD j 0 = zs.getD j 0 := by
  simp only [room, List.getD, List.getElem?_take, h, if_true, List.getElem?_append]
  split
  · rfl
  · rename_i h1
    rw [List.getElem?_eq_none (l := zs) (by omega)]
    simp only [List.getElem?_replicate]; split <;> rfl
/-- the sector that is sealed -/
def sealed (x i : Int) (zs : List Int) : List Int := putL x 8 ++ putL i 4 ++ room zs
theorem sealed_length (x i : Int) (zs : List Int) : (sealed x i zs).length = 64 := by simp [sealed, putL_length, room_length]
theorem getD_app_l (a b : List Int) (j : Nat) (h : j < a.length) : (a ++ b).getD j 0 = a.getD j 0 := by simp [List.getD, List.getElem?_append, h]
theorem getD_app_r (a b : List Int) (j : Nat) (h : a.length ≤ j) : (a ++ b).getD j 0 = b.getD (j - a.length) 0 := by simp [List.getD, List.getElem?_append, Nat.not_lt.2 h]
theorem sealed_get1 (x i : Int) (zs : List Int) (j : Nat) (h : j < 8) : (sealed x i zs).getD j 0 = (putL x 8).getD j 0 := by
  unfold sealed
  rw [getD_app_l _ _ _ (by simp [putL_length]; omega), getD_app_l _ _ _ (by simp [putL_length]; omega)]
theorem sealed_get2 (x i : Int) (zs : List Int) (j : Nat) (h : 8 ≤ j) (h2 : j < 12) : (sealed x i zs).getD j 0 = (putL i 4).getD (j - 8) 0 := by
  unfold sealed
  rw [getD_app_l _ _ _ (by simp [putL_length]; omega), getD_app_r _ _ _ (by simp [putL_length]; omega), putL_length]
theorem sealed_get3 (x i : Int) (zs : List Int) (j : Nat) (h : 12 ≤ j) (h2 : j < 64) : (sealed x i zs).getD j 0 = zs.getD (j - 12) 0 := by
  unfold sealed
  rw [getD_app_r _ _ _ (by simp [putL_length]; omega), List.length_append, putL_length, putL_length, room_get _ _ (by omega)]
theorem sealed_room (x i : Int) (zs : List Int) : (sealed x i zs).drop 12 = room zs := by
  unfold sealed
  rw [List.drop_left' (by simp [putL_length])]
theorem room_room (zs : List Int) : room (room zs) = room zs := by
  unfold room
  rw [List.take_append_of_le_length (by simp), List.take_take]; rfl
theorem sealed_again (x i : Int) (zs : List Int) : sealed x i (room zs) = sealed x i zs := by unfold sealed; rw [room_room]
theorem sealed_own (x i : Int) (zs : List Int) : sealed x i ((sealed x i zs).drop 12) = sealed x i zs := by rw [sealed_room, sealed_again]
/-- an index's bytes are those of the number without a sign -/
theorem putL_wrap (i : Int) : putL (i % 18446744073709551616) 4 = putL i 4 := by
  unfold putL
  refine List.map_congr_left fun j hj => ?_
  simp only [List.mem_range] at hj
  rcases (by omega : j = 0 ∨ j = 1 ∨ j = 2 ∨ j = 3) with rfl | rfl | rfl | rfl
  all_goals
    simp only [Nat.reduceMul, Int.reducePow]
    omega
/-- three pieces laid into an empty sector -/
theorem sealed_splice (x i : Int) (zs : List Int) : splice (splice (splice (List.replicate 64 0) 0 (putL x 8)) 8 (putL i 4)) 12 (zs.take (min zs.length 52)) = sealed x i zs := by
  have h1 : splice (List.replicate 64 0) 0 (putL x 8) = putL x 8 ++ List.replicate 56 0 := by
    simp only [splice, List.take_zero, List.nil_append, putL_length, List.drop_replicate]
  have h2 : splice (putL x 8 ++ List.replicate 56 0) 8 (putL i 4) = (putL x 8 ++ putL i 4) ++ List.replicate 52 0 := by
    simp only [splice, putL_length]
    rw [List.take_left' (putL_length x 8), List.drop_append, List.drop_eq_nil_of_le (by rw [putL_length]; omega), putL_length, List.nil_append, List.drop_replicate, List.append_assoc]
  have h3 : (zs.take (min zs.length 52)).length = min zs.length 52 := by simp
  rw [h1, h2]
  unfold sealed room
  simp only [splice, h3]
  rw [List.take_left' (by simp [putL_length]), List.drop_append, List.drop_eq_nil_of_le (by simp [putL_length]), List.nil_append]
  congr 1
  rw [List.drop_replicate, List.take_append, List.take_replicate]
  congr 1
  · rw [List.take_eq_take_iff]; omega
  · congr 1; simp [putL_length]; omega
/-- bytes tell the number that they are of -/
theorem putL_eq (a b : Int) (k : Nat) : putL a k = putL b k ↔ a % 2 ^ (8 * k) = b % 2 ^ (8 * k) := by
  constructor
  · intro h
    rw [← getI_put a k k (Nat.le_refl _), ← getI_put b k k (Nat.le_refl _), h]
  · intro h
    unfold putL
    refine List.map_congr_left fun j hj => ?_
    simp only [List.mem_range] at hj
    have key : ∀ n : Int, n / 2 ^ (8 * j) % 256 = n % 2 ^ (8 * k) / 2 ^ (8 * j) % 256 := fun n => by
      have hp := pow_pos' (8 * j)
      have hs : (2 : Int) ^ (8 * k) = 2 ^ (8 * j) * (256 * 2 ^ (8 * (k - j - 1))) := by
        rw [show (256 : Int) = 2 ^ 8 from rfl, ← Int.pow_add, ← Int.pow_add]; congr 1; omega
      have h1 := Int.emod_add_mul_ediv n (2 ^ (8 * k))
      generalize n / 2 ^ (8 * k) = q at h1
      generalize n % 2 ^ (8 * k) = r at h1
      rw [← h1, hs, Int.mul_assoc, Int.add_mul_ediv_left _ _ (by omega), Int.mul_assoc, Int.add_mul_emod_self_left]
    rw [key a, key b, h]
theorem sealed_eq (x y i j : Int) (hx : U64 x) (hy : U64 y) (zs : List Int) : sealed y j ((sealed x i zs).drop 12) = sealed x i zs ↔ x = y ∧ i % 4294967296 = j % 4294967296 := by
  rw [sealed_room, sealed_again]
  unfold sealed
  unfold U64 at hx hy
  rw [List.append_left_inj]
  constructor
  · intro h
    obtain ⟨h1, h2⟩ := List.append_inj h (by simp [putL_length])
    have h3 := (putL_eq y x 8).1 h1
    have h4 := (putL_eq j i 4).1 h2
    simp only [Nat.reduceMul, Int.reducePow] at h3 h4
    omega
  · rintro ⟨rfl, h⟩
    rw [(putL_eq j i 4).2 (by simp only [Nat.reduceMul, Int.reducePow]; omega)]
/-- a sector is sealed by what it tells -/
theorem sealed_read (l : List Int) (hl : l.length = 64) (hb : Bytes l) : sealed (getI (l.take 8) 8) (getI ((l.drop 8).take 4) 4) (l.drop 12) = l := by
  unfold sealed
  rw [putL_getI _ (bytes_take hb 8) 8 (by simp [hl]), putL_getI _ (bytes_take (bytes_drop hb 8) 4) 4 (by simp [hl])]
  have h1 : room (l.drop 12) = l.drop 12 := by
    unfold room; rw [List.take_append_of_le_length (by simp [hl]), List.take_of_length_le (by simp [hl])]
  rw [h1, show l.drop 12 = (l.drop 8).drop 4 from by rw [List.drop_drop], List.append_assoc, List.take_append_drop, List.take_append_drop]
/-- bytes, filled up to whole sectors -/
def padn (zs : List Int) : List Int := zs ++ List.replicate ((zs.length + 63) / 64 * 64 - zs.length) 0
theorem padn_length (zs : List Int) : (padn zs).length = (zs.length + 63) / 64 * 64 := by simp [padn]; omega
theorem padn_nil : padn [] = [] := rfl
theorem padn_whole (zs : List Int) (n : Nat) (h : zs.length = n * 64) : padn zs = zs := by
  unfold padn; rw [show (zs.length + 63) / 64 * 64 - zs.length = 0 from by omega]; simp
theorem padn_take (zs : List Int) : (padn zs).take zs.length = zs := by simp [padn]
/-- one byte more goes where a zero stood -/
theorem padn_step (zs : List Int) (i : Nat) (h : i < zs.length) : (zs.take i ++ List.replicate ((i / 64 + 1) * 64 - i) 0).set i (zs.getD i 0) = padn (zs.take (i + 1)) := by
  have hl : (zs.take i).length = i := by simp; omega
  have hl2 : (zs.take (i + 1)).length = i + 1 := by simp; omega
  unfold padn
  rw [hl2, show (i + 1 + 63) / 64 * 64 - (i + 1) = (i / 64 + 1) * 64 - i - 1 from by omega]
  obtain ⟨m, hm⟩ : ∃ m, (i / 64 + 1) * 64 - i = m + 1 := ⟨(i / 64 + 1) * 64 - i - 1, by omega⟩
  rw [hm, Nat.add_sub_cancel, List.replicate_succ, List.set_append_right _ _ (by omega), hl, Nat.sub_self, List.set_cons_zero]
  have e : zs.take (i + 1) = zs.take i ++ [zs.getD i 0] := by
    rw [List.take_add_one, List.getD, List.getElem?_eq_getElem h]; rfl
  rw [e, List.append_assoc]; rfl
theorem padn_same (zs : List Int) (i : Nat) (h : i ≤ zs.length) (h0 : i % 64 ≠ 0) : padn (zs.take i) = zs.take i ++ List.replicate ((i / 64 + 1) * 64 - i) 0 := by
  have hl : (zs.take i).length = i := by simp; omega
  unfold padn
  rw [hl, show (i + 63) / 64 * 64 - i = (i / 64 + 1) * 64 - i from by omega]
theorem padn_more (zs : List Int) (i : Nat) (h : i ≤ zs.length) (h0 : i % 64 = 0) : padn (zs.take i) ++ List.replicate 64 0 = zs.take i ++ List.replicate ((i / 64 + 1) * 64 - i) 0 := by
  have hl : (zs.take i).length = i := by simp; omega
  rw [padn_whole _ (i / 64) (by omega), show (i / 64 + 1) * 64 - i = 64 from by omega]
/-- so many bytes, of which the first m are laid -/
def laidN (zs : List Int) (n m : Nat) : List Int := (List.range n).map fun j => if j < m then zs.getD j 0 else 0
theorem laidN_length (zs : List Int) (n m : Nat) : (laidN zs n m).length = n := by simp [laidN]
theorem laidN_zero (zs : List Int) (n : Nat) : laidN zs n 0 = List.replicate n 0 := by
  refine List.ext_getElem (by simp [laidN]) fun j h1 h2 => ?_
  rw [List.getElem_replicate]; simp [laidN]
theorem laidN_full (zs : List Int) (t : Nat) (h : zs.length = t) : laidN zs t t = zs := by
  refine List.ext_getElem (by rw [laidN_length, h]) fun j h1 h2 => ?_
  have h3 : j < t := by omega
  simp [laidN, h3, List.getD, h2]
theorem sealed_bytes (x i : Int) (zs : List Int) (h : Bytes zs) : Bytes (sealed x i zs) := by
  refine bytes_of_mem fun z hz => ?_
  simp only [sealed, room, List.mem_append] at hz
  rcases hz with (hz | hz) | hz
  · exact (putL_bytes x 8).mem z hz
  · exact (putL_bytes i 4).mem z hz
  · have := List.mem_of_mem_take hz
    rcases List.mem_append.1 this with h1 | h1
    · exact h.mem z h1
    · have := List.eq_of_mem_replicate h1; omega
theorem laidN_all (zs : List Int) (k : Nat) (hk : (zs.length + 63) / 64 = k) : laidN zs (k * 64) (k * 64) = padn zs := by
  refine List.ext_getElem (by rw [laidN_length, padn_length, hk]) fun j h1 h2 => ?_
  rw [laidN_length] at h1
  simp only [laidN, List.getElem_map, List.getElem_range, if_pos h1, padn, List.getElem_append, List.getElem_replicate]
  split
  · rename_i h; simp [List.getD, h]
  · rename_i h; simp [List.getD, List.getElem?_eq_none (l := zs) (i := j) (by omega)]
theorem laidN_splice (zs : List Int) (n m : Nat) (hm : m + 64 ≤ n) (hl : m < zs.length) : splice (laidN zs n m) m ((zs.drop m).take (min (zs.length - m) 64)) = laidN zs n (m + 64) := by
  have hc : ((zs.drop m).take (min (zs.length - m) 64)).length = min (zs.length - m) 64 := by rw [List.length_take, List.length_drop]; omega
  refine List.ext_getElem (by rw [length_splice _ _ _ (by rw [hc, laidN_length]; omega), laidN_length, laidN_length]) fun j h1 h2 => ?_
  rw [laidN_length] at h2
  have hg : ∀ (l : List Int) (h : j < l.length), l[j] = l.getD j 0 := fun l h => by simp [List.getD, h]
  rw [hg, hg]
  have hlen := laidN_length zs n m
  have hL : ∀ q, (laidN zs n q).getD j 0 = if j < q then zs.getD j 0 else 0 := fun q => by
    simp [laidN, List.getD, h2]
  rw [hL]
  unfold splice
  by_cases h3 : j < m
  · have e : ((laidN zs n m).take m ++ ((zs.drop m).take (min (zs.length - m) 64) ++ (laidN zs n m).drop (m + ((zs.drop m).take (min (zs.length - m) 64)).length))).getD j 0 = (laidN zs n m).getD j 0 := by
      simp only [List.getD, List.getElem?_append, List.length_take, hlen, show j < min m n from by omega, if_true, List.getElem?_take, h3]
    rw [e, hL, if_pos h3, if_pos (by omega)]
  · by_cases h4 : j < m + min (zs.length - m) 64
    · have e : ((laidN zs n m).take m ++ ((zs.drop m).take (min (zs.length - m) 64) ++ (laidN zs n m).drop (m + ((zs.drop m).take (min (zs.length - m) 64)).length))).getD j 0 = zs.getD j 0 := by
        simp only [List.getD]
        rw [List.getElem?_append_right (by simp [hlen]; omega), List.getElem?_append_left (by rw [hc]; simp [hlen]; omega), List.getElem?_take, if_pos (by simp [hlen]; omega), List.getElem?_drop]
        congr 2
        simp [hlen]; omega
      rw [e, if_pos (by omega)]
    · have e : ((laidN zs n m).take m ++ ((zs.drop m).take (min (zs.length - m) 64) ++ (laidN zs n m).drop (m + ((zs.drop m).take (min (zs.length - m) 64)).length))).getD j 0 = (laidN zs n m).getD j 0 := by
        simp only [List.getD]
        rw [List.getElem?_append_right (by simp [hlen]; omega), List.getElem?_append_right (by rw [hc]; simp [hlen]; omega), List.getElem?_drop, hc]
        congr 2
        simp [hlen]; omega
      rw [e, hL, if_neg h3]
      split
      · simp [List.getD, List.getElem?_eq_none (l := zs) (i := j) (by omega)]
      · rfl
/-- the part of a sector that is laid -/
def part (l : List Int) (k : Nat) : List Int := (List.range 64).map fun j => if j < k then l.getD j 0 else 0
theorem part_length (l : List Int) (k : Nat) : (part l k).length = 64 := by simp [part]
theorem part_zero (l : List Int) : part l 0 = List.replicate 64 0 := by
  refine List.ext_getElem (by simp [part]) fun j h1 h2 => ?_
  rw [List.getElem_replicate]
  simp [part]
theorem part_all (l : List Int) (hl : l.length = 64) : part l 64 = l := by
  refine List.ext_getElem (by simp [part, hl]) fun j h1 h2 => ?_
  simp [part, List.getD, h2]; omega
theorem part_set (l : List Int) (k : Nat) : (part l k).set k (l.getD k 0) = part l (k + 1) := by
  refine List.ext_getElem (by simp [part]) fun j h1 h2 => ?_
  simp only [part, List.getElem_set, List.getElem_map, List.getElem_range]
  by_cases h : k = j
  · subst h; simp
  · rw [if_neg h]
    by_cases h3 : j < k
    · rw [if_pos h3, if_pos (by omega)]
    · rw [if_neg h3, if_neg (by omega)]
end Go.Proofs.YtepaghohojomeaaDoor
/-
  WHAT THE PROGRAM'S OWN FUNCTIONS OF LAYER 7 (span) ANSWER: place, Where. A Spot is the value .agg of its two numbers. No condition.
-/
namespace Go.Proofs.YtepaghohojomeaaDoor
open Go.RowKit
theorem spot_info : (Tryd.prog.info? 112).map (·.size) = some 2 := by kernel_rfl
theorem nearer_any (n m : Int) (h : I63 n) (h2 : 0 ≤ m ∧ m ≤ 832) (w : World) : Calls Tryd.prog 91 #[.int .i64 n, .int .i64 m] w fun e w' => e = .returned (.int .i64 (min (max n 0) m)) ∧ w' = w := by
  unfold I63 at h
  go_enter Tryd.func91, Tryd.ntmps91
  go_wp2
  all_goals
    go_ret
    exact ⟨ret_int (by omega), rfl⟩
theorem place_any (n : Int) (h : I63 n) (w : World) : Calls Tryd.prog 74 #[.int .i64 n] w fun e w' => e = .returned (.int .i64 (nr n : Int)) ∧ w' = w := by
  have HN : Hid (∀ w, Calls Tryd.prog 91 #[.int .i64 n, .int .i64 832] w fun e w' => e = .returned (.int .i64 (nr n : Int)) ∧ w' = w) := fun w =>
    (nearer_any n 832 h (by omega) w).mono fun e w' ⟨he, hw⟩ => ⟨by rw [he]; unfold nr; congr 2; omega, hw⟩
  go_enter Tryd.func74, Tryd.ntmps74
  go_wp2_with (first
    | (go_at_call 91; (with_reducible refine (HN.out _).mono ?_); rintro e w' ⟨rfl, rfl⟩))
  go_ret
  exact ⟨rfl, rfl⟩
theorem where_any (n : Int) (h : I63 n) (w : World) : Calls Tryd.prog 52 #[.int .i64 n] w fun e w' => e = .returned (.agg #[.int .i64 ((nr n / 52 : Nat) : Int), .int .i64 ((nr n % 52 : Nat) : Int)]) ∧ Below w.heap.size w w' := by
  have hle := nr_le n
  have HP : Hid (∀ w, Calls Tryd.prog 74 #[.int .i64 n] w fun e w' => e = .returned (.int .i64 (nr n : Int)) ∧ w' = w) := fun w => place_any n h w
  generalize nr n = a at *
  have hq : (a : Int).tdiv 52 = ((a / 52 : Nat) : Int) := by rw [Int.tdiv_eq_ediv_of_nonneg (by omega)]; omega
  have hm : (a : Int).tmod 52 = ((a % 52 : Nat) : Int) := by rw [Int.tmod_eq_emod_of_nonneg (by omega)]; omega
  obtain ⟨q, hq2⟩ : ∃ q, a / 52 = q := ⟨_, rfl⟩
  obtain ⟨r, hr2⟩ : ∃ r, a % 52 = r := ⟨_, rfl⟩
  rw [hq2] at hq ⊢
  rw [hr2] at hm ⊢
  have hq3 : (q : Int) ≤ 16 := by omega
  have hr3 : (r : Int) ≤ 51 := by omega
  clear hq2 hr2
  go_enter Tryd.func52, Tryd.ntmps52
  go_wp2_with (first
    | (go_at_call 74; (with_reducible refine (HP.out _).mono ?_); rintro e w' ⟨rfl, rfl⟩))
  exact bodyPost_ret_by (v := .agg #[.int .i64 q, .int .i64 r]) (results_cell_row rfl _ _ w.heap.size _ #[.int .i64 q, .int .i64 r] (0, 0) _ rfl (heap_alloc_last w _) Tryd.underlying112 rfl spot_info) rfl ⟨rfl, (Below.refl _ _).alloc (Nat.le_refl _) _⟩
theorem wrap_id (x : Int) (h : -1000 ≤ x ∧ x ≤ 10000) : IntKind.i64.wrap x = x := by
  exact IntWalk.i64_in _ (by omega)
theorem bchain {a b c : World} (h : Below a.heap.size a b) (k : Below b.heap.size b c) : Below a.heap.size a c := h.trans (k.mono h.size)
end Go.Proofs.YtepaghohojomeaaDoor
/-
  LAYER 7 (span), Touch: which sectors places lie in: what the reference's and the program's answer. No condition.
-/
namespace Go.Proofs.YtepaghohojomeaaDoor
open Go.RowKit
/-- which sectors places lie in -/
def touchN (a b : Nat) : Nat × Nat := if a < b then (a / 52, (b - 1) / 52 + 1) else (0, 0)
set_option maxRecDepth 8000 in
set_option maxHeartbeats 800000 in
theorem rtouch_any (n m : Int) (h : I63 n) (h2 : I63 m) (w : World) : Calls Tryd.prog 54 #[.int .i64 n, .int .i64 m] w fun e w' => e = .returned (.tuple #[.int .i64 ((touchN (nr n) (nr m)).1 : Int), .int .i64 ((touchN (nr n) (nr m)).2 : Int)]) ∧ w' = w := by
  have hle := nr_le n
  have hle2 := nr_le m
  have HN : Hid (∀ w, Calls Tryd.prog 56 #[.int .i64 n] w fun e w' => e = .returned (.int .i64 (nr n : Int)) ∧ w' = w) := fun w => near_any n h w
  have HM : Hid (∀ w, Calls Tryd.prog 56 #[.int .i64 m] w fun e w' => e = .returned (.int .i64 (nr m : Int)) ∧ w' = w) := fun w => near_any m h2 w
  generalize nr n = a at *
  generalize nr m = b at *
  go_enter Tryd.func54, Tryd.ntmps54
  go_wp2_with (first
    | (go_at_call 56; (with_reducible refine (HN.out _).mono ?_); rintro e w' ⟨rfl, rfl⟩))
  go_loop [6, 7, 8] (fun fv lv iv => ∃ (i : Nat) (f l : Int), iv = .int .i64 i ∧ fv = .int .i64 f ∧ lv = .int .i64 l ∧ i ≤ 832 ∧ -1 ≤ f ∧ f ≤ 16 ∧ -1 ≤ l ∧ l ≤ 16 ∧ Hid ((i = a ∧ f = -1 ∧ l = -1) ∨ (a < i ∧ i ≤ b ∧ f = ((a / 52 : Nat) : Int) ∧ l = (((i - 1) / 52 : Nat) : Int)))) (fun _ _ iv => 832 - (intOf iv).toNat)
  case atStart => exact ⟨a, -1, -1, rfl, rfl, rfl, by omega, by omega, by omega, by omega, by omega, .inl ⟨rfl, rfl, rfl⟩⟩
  case round =>
    obtain ⟨i, f, l, rfl, rfl, rfl, hi, hf1, hf2, hl1, hl2, HR⟩ := hrel
    have hd : (i : Int).tdiv 52 = ((i / 52 : Nat) : Int) := by rw [Int.tdiv_eq_ediv_of_nonneg (by omega)]; omega
    obtain ⟨q, hq⟩ : ∃ q, i / 52 = q := ⟨_, rfl⟩
    rw [hq] at hd
    have hwq : wrap64 (q : Int) = (q : Int) := by unfold wrap64; omega
    have HQ := Lib.hid hq
    have HWQ := Lib.hid (congrArg (Value.int IntKind.i64) hwq)
    clear hq hwq
    by_cases hlt : (i : Int) < (b : Int)
    · by_cases hf : f < 0
      · go_wp2_with (first
          | (go_at_call 56; (with_reducible refine (HM.out _).mono ?_); rintro e w' ⟨rfl, rfl⟩))
        go_round
        case rel =>
          refine ⟨i + 1, q, q, by go_num, HWQ.out, HWQ.out, by omega, by omega, by have := HQ.out; omega, by omega, by have := HQ.out; omega, .inr ?_⟩
          have := HQ.out
          rcases HR.out with ⟨rfl, _, _⟩ | ⟨g1, g2, g3, g4⟩ <;> omega
        case measure => simp [intOf]; omega
      · go_wp2_with (first
          | (go_at_call 56; (with_reducible refine (HM.out _).mono ?_); rintro e w' ⟨rfl, rfl⟩))
        go_round
        case rel =>
          refine ⟨i + 1, f, q, by go_num, rfl, HWQ.out, by omega, by omega, by omega, by omega, by have := HQ.out; omega, .inr ?_⟩
          have := HQ.out
          rcases HR.out with ⟨rfl, _, _⟩ | ⟨g1, g2, g3, g4⟩ <;> omega
        case measure => simp [intOf]; omega
    · by_cases hf : f < 0
      · have HT := Lib.hid (show touchN a b = (0, 0) from if_neg (by rcases HR.out with ⟨rfl, _, _⟩ | ⟨g1, g2, g3, g4⟩ <;> omega))
        go_wp2_with (first
          | (go_at_call 56; (with_reducible refine (HM.out _).mono ?_); rintro e w' ⟨rfl, rfl⟩))
        go_ret2
        exact ⟨by rw [HT.out]; rfl, rfl⟩
      · have HT := Lib.hid (show ((touchN a b).1 : Int) = f ∧ ((touchN a b).2 : Int) = l + 1 from by
          rcases HR.out with ⟨rfl, g2, _⟩ | ⟨g1, g2, g3, g4⟩
          · omega
          · rw [show touchN a b = (a / 52, (b - 1) / 52 + 1) from if_pos (by omega)]
            exact ⟨by omega, by omega⟩)
        go_wp2_with (first
          | (go_at_call 56; (with_reducible refine (HM.out _).mono ?_); rintro e w' ⟨rfl, rfl⟩))
        go_ret2
        exact ⟨by rw [HT.out.1, HT.out.2]; rfl, rfl⟩
set_option maxRecDepth 8000 in
theorem touch_any (n m : Int) (h : I63 n) (h2 : I63 m) (w : World) : Calls Tryd.prog 87 #[.int .i64 n, .int .i64 m] w fun e w' => e = .returned (.tuple #[.int .i64 ((touchN (nr n) (nr m)).1 : Int), .int .i64 ((touchN (nr n) (nr m)).2 : Int)]) ∧ Below w.heap.size w w' := by
  have hln := nr_le n
  have hlm := nr_le m
  have HN : Hid (∀ w, Calls Tryd.prog 74 #[.int .i64 n] w fun e w' => e = .returned (.int .i64 (nr n : Int)) ∧ w' = w) := fun w => place_any n h w
  have HM : Hid (∀ w, Calls Tryd.prog 74 #[.int .i64 m] w fun e w' => e = .returned (.int .i64 (nr m : Int)) ∧ w' = w) := fun w => place_any m h2 w
  generalize nr n = a at *
  generalize nr m = b at *
  by_cases hlt : (a : Int) < (b : Int)
  · have ht : touchN a b = (a / 52, (b - 1) / 52 + 1) := by unfold touchN; rw [if_pos (by omega)]
    rw [ht]
    have H1 : Hid (∀ w, Calls Tryd.prog 52 #[.int .i64 (a : Int)] w fun e w' => e = .returned (.agg #[.int .i64 ((a / 52 : Nat) : Int), .int .i64 ((a % 52 : Nat) : Int)]) ∧ Below w.heap.size w w') := fun w => by
      have := where_any a (by unfold I63; omega) w; rwa [nr_nat _ hln] at this
    have H2 : Hid (∀ w, Calls Tryd.prog 52 #[.int .i64 ((b : Int) - 1)] w fun e w' => e = .returned (.agg #[.int .i64 (((b - 1) / 52 : Nat) : Int), .int .i64 (((b - 1) % 52 : Nat) : Int)]) ∧ Below w.heap.size w w') := fun w => by
      have := where_any ((b - 1 : Nat) : Int) (by unfold I63; omega) w; rwa [nr_nat _ (by omega), show ((b - 1 : Nat) : Int) = (b : Int) - 1 from by omega] at this
    have hq : (((b - 1) / 52 : Nat) : Int) ≤ 16 := by omega
    generalize (b - 1) / 52 = q at *
    generalize (b - 1) % 52 = r at *
    generalize a / 52 = q2 at *
    generalize a % 52 = r2 at *
    clear ht
    go_enter Tryd.func87, Tryd.ntmps87
    have hf1 : ∀ w, (Instr.field 112 (.agg #[.int .i64 q2, .int .i64 r2]) 0).run Tryd.prog w = .ok (.int .i64 q2) w := fun _ => by kernel_rfl
    have hf2 : ∀ w, (Instr.field 112 (.agg #[.int .i64 q, .int .i64 r]) 0).run Tryd.prog w = .ok (.int .i64 q) w := fun _ => by kernel_rfl
    go_wp2_with (first
      | (go_at_call 74; (with_reducible refine (HN.out _).mono ?_); rintro e w' ⟨rfl, rfl⟩)
      | (go_at_call 74; (with_reducible refine (HM.out _).mono ?_); rintro e w' ⟨rfl, rfl⟩)
      | (go_at_call 52; (with_reducible refine (H1.out _).mono ?_); rintro e w1 ⟨rfl, hb⟩; have HB1 := Lib.hid hb; clear hb)
      | (go_at_call 52; (with_reducible refine (H2.out _).mono ?_); rintro e w2 ⟨rfl, hb⟩; have HB2 := Lib.hid (bchain HB1.out hb); clear hb))
    go_ret2
    exact ⟨rfl, HB2.out⟩
  · have ht : touchN a b = (0, 0) := by unfold touchN; rw [if_neg (by omega)]
    rw [ht]
    clear ht
    go_enter Tryd.func87, Tryd.ntmps87
    go_wp2_with (first
      | (go_at_call 74; (with_reducible refine (HN.out _).mono ?_); rintro e w' ⟨rfl, rfl⟩)
      | (go_at_call 74; (with_reducible refine (HM.out _).mono ?_); rintro e w' ⟨rfl, rfl⟩))
    go_ret2
    exact ⟨rfl, Below.refl _ _⟩
end Go.Proofs.YtepaghohojomeaaDoor
/-
  LAYER 16 (plan): what a body's sectors are, and what sectors' body is (plain mathematics). No condition.
-/
namespace Go.Proofs.YtepaghohojomeaaDoor
open Go.RowKit
/-- the i-th sector of a list that is told by its bytes -/
def secOf (fs : List Int) (i : Nat) : List Int := (fs.drop (i * 64)).take 64
theorem secOf_length (fs : List Int) (n i : Nat) (h : fs.length = n * 64) (hi : i < n) : (secOf fs i).length = 64 := by unfold secOf; simp; omega
/-- is it stamped? -/
def okAt (x : Int) (n : Nat) (fs : List Int) (i : Nat) : Bool := decide (i < n) && decide (sealed x i ((secOf fs i).drop 12) = secOf fs i)
/-- its room, zeros if it isn't stamped -/
def roomAt (x : Int) (n : Nat) (fs : List Int) (i : Nat) : List Int := if okAt x n fs i = true then (secOf fs i).drop 12 else List.replicate 52 0
def flatB (x : Int) (n : Nat) (fs : List Int) : Nat → List Int
  | 0 => []
  | k + 1 => flatB x n fs k ++ roomAt x n fs k
def flatK (x : Int) (n : Nat) (fs : List Int) : Nat → List Bool
  | 0 => []
  | k + 1 => flatK x n fs k ++ [okAt x n fs k]
theorem roomAt_length (x : Int) (n : Nat) (fs : List Int) (h : fs.length = n * 64) (i : Nat) : (roomAt x n fs i).length = 52 := by
  unfold roomAt
  split
  · rename_i h1
    simp only [okAt, Bool.and_eq_true, decide_eq_true_eq] at h1
    rw [List.length_drop, secOf_length fs n i h h1.1]
  · simp
theorem flatB_length (x : Int) (n : Nat) (fs : List Int) (h : fs.length = n * 64) : ∀ k, (flatB x n fs k).length = 52 * k
  | 0 => rfl
  | k + 1 => by rw [flatB, List.length_append, flatB_length x n fs h k, roomAt_length x n fs h]; omega
theorem flatK_length (x : Int) (n : Nat) (fs : List Int) : ∀ k, (flatK x n fs k).length = k
  | 0 => rfl
  | k + 1 => by rw [flatK, List.length_append, flatK_length x n fs k]; rfl
theorem okAt_behind (x : Int) (n : Nat) (fs : List Int) (i : Nat) (h : n ≤ i) : okAt x n fs i = false := by
  unfold okAt; rw [decide_eq_false (by omega)]; rfl
theorem okAt_in (x : Int) (n : Nat) (fs : List Int) (i : Nat) (h : i < n) : okAt x n fs i = decide (sealed x i ((secOf fs i).drop 12) = secOf fs i) := by
  unfold okAt; rw [decide_eq_true h]; rfl
theorem roomAt_false (x : Int) (n : Nat) (fs : List Int) (i : Nat) (h : okAt x n fs i = false) : roomAt x n fs i = List.replicate 52 0 := by
  unfold roomAt; rw [if_neg (by rw [h]; simp)]
theorem roomAt_true (x : Int) (n : Nat) (fs : List Int) (i : Nat) (h : okAt x n fs i = true) : roomAt x n fs i = (secOf fs i).drop 12 := by
  unfold roomAt; rw [if_pos h]
theorem flatB_behind (x : Int) (n : Nat) (fs : List Int) (k : Nat) (h : n ≤ k) : ∀ d, flatB x n fs (k + d) = flatB x n fs k ++ List.replicate (52 * d) 0
  | 0 => by simp
  | d + 1 => by
    rw [← Nat.add_assoc, flatB, flatB_behind x n fs k h d, roomAt_false _ _ _ _ (okAt_behind _ _ _ _ (by omega)), List.append_assoc, List.replicate_append_replicate, Nat.mul_add]
theorem flatK_behind (x : Int) (n : Nat) (fs : List Int) (k : Nat) (h : n ≤ k) : ∀ d, flatK x n fs (k + d) = flatK x n fs k ++ List.replicate d false
  | 0 => by simp
  | d + 1 => by
    rw [← Nat.add_assoc, flatK, flatK_behind x n fs k h d, okAt_behind _ _ _ _ (by omega), List.append_assoc, show [false] = List.replicate 1 false from rfl, List.replicate_append_replicate]
/-- the body's block behind k rounds -/
def bodyAt (x : Int) (n : Nat) (fs : List Int) (k : Nat) : List Int := flatB x n fs k ++ List.replicate (832 - 52 * k) 0
def oksAt (x : Int) (n : Nat) (fs : List Int) (k : Nat) : List Bool := flatK x n fs k ++ List.replicate (16 - k) false
theorem bodyAt_length (x : Int) (n : Nat) (fs : List Int) (h : fs.length = n * 64) (k : Nat) (hk : k ≤ 16) : (bodyAt x n fs k).length = 832 := by
  unfold bodyAt; rw [List.length_append, flatB_length x n fs h, List.length_replicate]; omega
theorem oksAt_length (x : Int) (n : Nat) (fs : List Int) (k : Nat) (hk : k ≤ 16) : (oksAt x n fs k).length = 16 := by
  unfold oksAt; rw [List.length_append, flatK_length, List.length_replicate]; omega
theorem bodyAt_zero (x : Int) (n : Nat) (fs : List Int) : bodyAt x n fs 0 = List.replicate 832 0 := rfl
theorem oksAt_zero (x : Int) (n : Nat) (fs : List Int) : oksAt x n fs 0 = List.replicate 16 false := rfl
theorem splice_mid {α : Type} (a b c : List α) (d : List α) (h : c.length = b.length) (k : Nat) (hk : a.length = k) : splice (a ++ (b ++ d)) k c = a ++ (c ++ d) := by
  subst hk
  unfold splice
  rw [List.take_left', List.drop_append, List.drop_eq_nil_of_le (by omega), List.nil_append]
  · congr 2
    rw [show a.length + c.length - a.length = b.length from by omega, List.drop_left']
    rfl
  · rfl
theorem splice_nil {α : Type} (l : List α) (k : Nat) : splice l k [] = l := by simp [splice]
theorem bodyAt_true (x : Int) (n : Nat) (fs : List Int) (h : fs.length = n * 64) (k : Nat) (hk : k < 16) (ho : okAt x n fs k = true) :
    splice (bodyAt x n fs k) (52 * k) ((secOf fs k).drop 12) = bodyAt x n fs (k + 1) := by
  have hr := roomAt_length x n fs h k
  rw [roomAt_true _ _ _ _ ho] at hr
  unfold bodyAt
  rw [show 832 - 52 * k = 52 + (832 - 52 * (k + 1)) from by omega, ← List.replicate_append_replicate,
    splice_mid _ (List.replicate 52 0) _ _ (by simpa using hr) _ (flatB_length x n fs h k), flatB, roomAt_true _ _ _ _ ho, List.append_assoc]
theorem bodyAt_false (x : Int) (n : Nat) (fs : List Int) (k : Nat) (hk : k < 16) (ho : okAt x n fs k = false) : bodyAt x n fs k = bodyAt x n fs (k + 1) := by
  unfold bodyAt
  rw [flatB, roomAt_false _ _ _ _ ho, List.append_assoc, List.replicate_append_replicate, show 52 + (832 - 52 * (k + 1)) = 832 - 52 * k from by omega]
theorem oksAt_next (x : Int) (n : Nat) (fs : List Int) (k : Nat) (hk : k < 16) : (oksAt x n fs k).set k (okAt x n fs k) = oksAt x n fs (k + 1) := by
  unfold oksAt
  rw [show 16 - k = 1 + (16 - (k + 1)) from by omega, ← List.replicate_append_replicate, List.set_append_right _ _ (by rw [flatK_length]; omega), flatK_length, Nat.sub_self, flatK, List.append_assoc]
  rfl
theorem bodyAt_end (x : Int) (n : Nat) (fs : List Int) : bodyAt x n fs (min n 16) = flatB x n fs 16 := by
  by_cases h : n ≤ 16
  · rw [Nat.min_eq_left h]
    have := flatB_behind x n fs n (Nat.le_refl _) (16 - n)
    rw [show n + (16 - n) = 16 from by omega] at this
    rw [this]; unfold bodyAt; rw [show 832 - 52 * n = 52 * (16 - n) from by omega]
  · rw [Nat.min_eq_right (by omega)]; unfold bodyAt; simp
theorem oksAt_end (x : Int) (n : Nat) (fs : List Int) : oksAt x n fs (min n 16) = flatK x n fs 16 := by
  by_cases h : n ≤ 16
  · rw [Nat.min_eq_left h]
    have := flatK_behind x n fs n (Nat.le_refl _) (16 - n)
    rw [show n + (16 - n) = 16 from by omega] at this
    rw [this]; rfl
  · rw [Nat.min_eq_right (by omega)]; unfold oksAt; simp
/-- the bytes of a body that its i-th sector has -/
def partB (body : List Int) (i : Nat) : List Int := (body.drop (52 * i)).take 52
/-- k sectors of a body, from the a-th on -/
def writeB (x : Int) (body : List Int) (a : Nat) : Nat → List Int
  | 0 => []
  | k + 1 => writeB x body a k ++ sealed x ((a + k : Nat) : Int) (partB body (a + k))
theorem writeB_length (x : Int) (body : List Int) (a : Nat) : ∀ k, (writeB x body a k).length = k * 64
  | 0 => rfl
  | k + 1 => by rw [writeB, List.length_append, writeB_length x body a k, sealed_length]; omega
/-- the row of d sectors behind k rounds -/
def rowAt (x : Int) (body : List Int) (a d k : Nat) : List Int := writeB x body a k ++ List.replicate ((d - k) * 64) 0
theorem rowAt_length (x : Int) (body : List Int) (a d k : Nat) (hk : k ≤ d) : (rowAt x body a d k).length = d * 64 := by
  unfold rowAt; rw [List.length_append, writeB_length, List.length_replicate, ← Nat.add_mul]; congr 1; omega
theorem rowAt_zero (x : Int) (body : List Int) (a d : Nat) : rowAt x body a d 0 = List.replicate (d * 64) 0 := by simp [rowAt, writeB]
theorem rowAt_end (x : Int) (body : List Int) (a d : Nat) : rowAt x body a d d = writeB x body a d := by simp [rowAt]
theorem rowAt_next (x : Int) (body : List Int) (a d k : Nat) (hk : k < d) :
    splice (rowAt x body a d k) (k * 64) (sealed x ((a + k : Nat) : Int) (partB body (a + k))) = rowAt x body a d (k + 1) := by
  unfold rowAt
  rw [show (d - k) * 64 = 64 + (d - (k + 1)) * 64 from by omega, ← List.replicate_append_replicate,
    splice_mid _ (List.replicate 64 0) _ _ (by rw [sealed_length]; simp) _ (writeB_length x body a k), writeB, List.append_assoc]
/-- all sectors of a segment, n of them written -/
def wholeK (x : Int) (body : List Int) (n : Nat) : Nat → List Int
  | 0 => []
  | k + 1 => wholeK x body n k ++ (if k < n then sealed x (k : Int) (partB body k) else z64)
theorem wholeK_length (x : Int) (body : List Int) (n : Nat) : ∀ k, (wholeK x body n k).length = k * 64
  | 0 => rfl
  | k + 1 => by
    rw [wholeK, List.length_append, wholeK_length x body n k]
    split
    · rw [sealed_length]; omega
    · rw [z64_length]; omega
theorem wholeK_in (x : Int) (body : List Int) (n : Nat) : ∀ k, k ≤ n → wholeK x body n k = writeB x body 0 k
  | 0, _ => rfl
  | k + 1, h => by rw [wholeK, wholeK_in x body n k (by omega), if_pos (by omega), writeB, Nat.zero_add]
theorem wholeK_behind (x : Int) (body : List Int) (n : Nat) : ∀ d, wholeK x body n (n + d) = writeB x body 0 n ++ List.replicate (d * 64) 0
  | 0 => by rw [Nat.add_zero, wholeK_in _ _ _ _ (Nat.le_refl _)]; simp
  | d + 1 => by
    rw [← Nat.add_assoc, wholeK, wholeK_behind x body n d, if_neg (by omega), List.append_assoc, z64, List.replicate_append_replicate, Nat.add_mul]
theorem whole_splice (x : Int) (body : List Int) (n : Nat) (h : n ≤ 16) : splice (List.replicate 1024 (0 : Int)) 0 (writeB x body 0 n) = wholeK x body n 16 := by
  have h1 := wholeK_behind x body n (16 - n)
  rw [show n + (16 - n) = 16 from by omega] at h1
  rw [h1]
  unfold splice
  rw [List.take_zero, List.nil_append, writeB_length, List.drop_replicate, show 1024 - (0 + n * 64) = (16 - n) * 64 from by omega]
/-- the i-th sector of a whole segment -/
theorem secOf_whole (x : Int) (body : List Int) (n i : Nat) : ∀ k, i < k → secOf (wholeK x body n k) i = if i < n then sealed x (i : Int) (partB body i) else z64
  | 0, h => absurd h (by omega)
  | k + 1, h => by
    have hl := wholeK_length x body n k
    by_cases hik : i < k
    · rw [← secOf_whole x body n i k hik]
      unfold secOf
      rw [wholeK, List.drop_append_of_le_length (by omega), List.take_append_of_le_length (by simp; omega)]
    · obtain rfl : i = k := by omega
      unfold secOf
      rw [wholeK, List.drop_left' hl]
      refine List.take_of_length_le ?_
      split
      · rw [sealed_length]; omega
      · rw [z64_length]; omega
theorem z64_sealed : z64 = sealed 0 0 [] := by decide
theorem okAt_whole (x : Int) (hx : U64 x) (h0 : x ≠ 0) (body : List Int) (n i : Nat) (hi : i < 16) : okAt x 16 (wholeK x body n 16) i = decide (i < n) := by
  rw [okAt_in _ _ _ _ hi, secOf_whole x body n i 16 hi]
  by_cases h : i < n
  · rw [if_pos h, sealed_own, decide_eq_true rfl, decide_eq_true h]
  · rw [if_neg h, z64_sealed, decide_eq_false h]
    refine decide_eq_false fun he => h0 ?_
    exact ((sealed_eq 0 x 0 i (by unfold U64; omega) hx []).1 he).1.symm
theorem flatB_get (x : Int) (n : Nat) (fs : List Int) (hl : fs.length = n * 64) (i r : Nat) (hr : r < 52) : ∀ k, i < k → (flatB x n fs k).getD (52 * i + r) 0 = (roomAt x n fs i).getD r 0
  | 0, h => absurd h (by omega)
  | k + 1, h => by
    have h1 := flatB_length x n fs hl k
    rw [flatB]
    by_cases hik : i < k
    · rw [getD_app_l _ _ _ (by omega), flatB_get x n fs hl i r hr k hik]
    · obtain rfl : i = k := by omega
      rw [getD_app_r _ _ _ (by omega), h1, Nat.add_sub_cancel_left]
theorem getB_app_l (a b : List Bool) (j : Nat) (h : j < a.length) : (a ++ b).getD j false = a.getD j false := by simp [List.getD, List.getElem?_append, h]
theorem getB_app_r (a b : List Bool) (j : Nat) (h : a.length ≤ j) : (a ++ b).getD j false = b.getD (j - a.length) false := by simp [List.getD, List.getElem?_append, Nat.not_lt.2 h]
theorem flatK_get (x : Int) (n : Nat) (fs : List Int) (i : Nat) : ∀ k, i < k → (flatK x n fs k).getD i false = okAt x n fs i
  | 0, h => absurd h (by omega)
  | k + 1, h => by
    have h1 := flatK_length x n fs k
    rw [flatK]
    by_cases hik : i < k
    · rw [getB_app_l _ _ _ (by omega), flatK_get x n fs i k hik]
    · obtain rfl : i = k := by omega
      rw [getB_app_r _ _ _ (by omega), h1]; simp
/-- the body of a whole segment -/
theorem back_get (x : Int) (hx : U64 x) (h0 : x ≠ 0) (body : List Int) (n j : Nat) (hj : j < 832) :
    (flatB x 16 (wholeK x body n 16) 16).getD j 0 = if j < 52 * n ∧ j < body.length then body.getD j 0 else 0 := by
  have hj2 : 52 * (j / 52) + j % 52 = j := by omega
  have h1 := flatB_get x 16 (wholeK x body n 16) (wholeK_length x body n 16) (j / 52) (j % 52) (by omega) 16 (by omega)
  rw [hj2] at h1
  rw [h1]
  have ho := okAt_whole x hx h0 body n (j / 52) (by omega)
  by_cases hn : j / 52 < n
  · rw [decide_eq_true hn] at ho
    rw [roomAt_true _ _ _ _ ho, secOf_whole x body n _ 16 (by omega), if_pos hn, sealed_room, room_get _ _ (by omega)]
    unfold partB
    have h2 : ((body.drop (52 * (j / 52))).take 52).getD (j % 52) 0 = body.getD j 0 := by
      simp only [List.getD, List.getElem?_take, show j % 52 < 52 from by omega, if_true, List.getElem?_drop, hj2]
    rw [h2]
    by_cases hb : j < body.length
    · rw [if_pos ⟨by omega, hb⟩]
    · rw [if_neg (by omega)]
      simp [List.getD, List.getElem?_eq_none (Nat.not_lt.1 hb)]
  · rw [decide_eq_false hn] at ho
    rw [roomAt_false _ _ _ _ ho, if_neg (by omega), getD_replicate]
/-- are all of d sectors from the a-th on true? -/
def cov (bs : List Bool) (a d : Nat) : Bool := (List.range d).all fun i => bs.getD (a + i) false
theorem cov_short (bs : List Bool) (a d i : Nat) (hi : i < d) (h : bs.getD (a + i) false = false) : cov bs a d = false := by
  refine Bool.eq_false_iff.2 fun h1 => ?_
  have := List.all_eq_true.1 h1 i (List.mem_range.2 hi)
  rw [h] at this; cases this
theorem cov_all (bs : List Bool) (a d : Nat) (h : ∀ i, i < d → bs.getD (a + i) false = true) : cov bs a d = true :=
  List.all_eq_true.2 fun i hi => h i (List.mem_range.1 hi)
/-- which sectors a segment's places lie in -/
theorem touch_le (a b : Nat) (hb : b ≤ 832) : (touchN a b).1 ≤ (touchN a b).2 ∧ (touchN a b).2 ≤ 16 ∧ ((touchN a b).1 = (touchN a b).2 → (touchN a b).1 = 0) := by
  unfold touchN
  split
  · refine ⟨by simp only; omega, by simp only; omega, by simp only; omega⟩
  · simp
theorem touch_zero (b : Nat) : (touchN 0 b).1 = 0 := by
  unfold touchN; split <;> rfl
end Go.Proofs.YtepaghohojomeaaDoor
