/-
  HEADERS AND THEIR SECTORS (layer 18), plain mathematics: which are right (hdOk), a header's sector (secH), the header whose sector bytes are (headD); what is put is got, and the other way about; a burst is seen. No condition.
-/
import Derived.Test.YtncnmmillhnhlaaDoorFragMath
import Derived.Test.YtncnmmillhnhlaaDoorSecs
namespace Go.Proofs.YtncnmmillhnhlaaDoor
/-- a header -/
structure Hdr where
  e : Int
  s : Int
  f : Int
  l : List Int
deriving instance DecidableEq for Hdr
def noH : Hdr := ⟨0, 0, 0, [0, 0, 0, 0]⟩
/-- .. whose numbers its types allow -/
structure HdT (h : Hdr) : Prop where
  e : U64 h.e
  s : I63 h.s
  f : I63 h.f
  n : h.l.length = 4
  l : ∀ x ∈ h.l, I63 x
def lsn (n : Int) : Bool := decide (1 ≤ n ∧ n ≤ 2147483647)
def hdOk (h : Hdr) : Bool := decide (h.e ≠ 0) && lsn h.s && lsn h.f && h.l.all fun x => decide (0 ≤ x ∧ x < h.f)
theorem lsn_bd {n : Int} (h : lsn n = true) : 1 ≤ n ∧ n ≤ 2147483647 := of_decide_eq_true h
theorem hdOk_parts {h : Hdr} (hk : hdOk h = true) : h.e ≠ 0 ∧ (1 ≤ h.s ∧ h.s ≤ 2147483647) ∧ (1 ≤ h.f ∧ h.f ≤ 2147483647) ∧ ∀ x ∈ h.l, 0 ≤ x ∧ x < h.f := by
  unfold hdOk at hk
  simp only [Bool.and_eq_true, decide_eq_true_eq, List.all_eq_true] at hk
  exact ⟨hk.1.1.1, lsn_bd hk.1.1.2, lsn_bd hk.1.2, hk.2⟩
theorem hdOk_of {h : Hdr} (h1 : h.e ≠ 0) (h2 : lsn h.s = true) (h3 : lsn h.f = true) (h4 : ∀ x ∈ h.l, 0 ≤ x ∧ x < h.f) : hdOk h = true := by
  unfold hdOk
  simp only [Bool.and_eq_true, decide_eq_true_eq, List.all_eq_true]
  exact ⟨⟨⟨h1, h2⟩, h3⟩, h4⟩
def mark : List Int := [115, 116, 114, 100, 1]
/-- numbers of four bytes each -/
def put4 (l : List Int) : List Int := (l.map fun x => putL x 4).flatten
/-- what stands ahead of the sum -/
def headP (h : Hdr) : List Int := mark ++ putL h.e 8 ++ putL h.s 4 ++ putL h.f 4 ++ put4 h.l
def headS (h : Hdr) : Nat := maskS (ofS (headP h))
def headB (h : Hdr) : List Int := headP h ++ putL (headS h) 4
def secH (h : Hdr) : List Int := headB h ++ List.replicate 23 0
def readH (zs : List Int) : Hdr := ⟨num zs 5 8, num zs 13 4, num zs 17 4, [num zs 21 4, num zs 25 4, num zs 29 4, num zs 33 4]⟩
theorem put4_length (l : List Int) : (put4 l).length = 4 * l.length := by
  induction l with
  | nil => rfl
  | cons a l ih => simp only [put4, List.map_cons, List.flatten_cons, List.length_append, putL_length, List.length_cons] at *; omega
theorem put4_bytes (l : List Int) : isB (put4 l) := by
  intro x hx
  simp only [put4, List.mem_flatten, List.mem_map] at hx
  obtain ⟨m, ⟨a, _, rfl⟩, hm⟩ := hx
  exact putL_isB a 4 x hm
theorem put4_snoc (l : List Int) (x : Int) : put4 (l ++ [x]) = put4 l ++ putL x 4 := by simp [put4]
theorem mark_bytes : isB mark := by intro x hx; simp only [mark, List.mem_cons, List.not_mem_nil, or_false] at hx; omega
theorem mark_length : mark.length = 5 := rfl
theorem headP_length {h : Hdr} (hn : h.l.length = 4) : (headP h).length = 37 := by simp [headP, putL_length, put4_length, mark_length, hn]
theorem headB_length {h : Hdr} (hn : h.l.length = 4) : (headB h).length = 41 := by simp [headB, putL_length, headP_length hn]
theorem secH_length {h : Hdr} (hn : h.l.length = 4) : (secH h).length = 64 := by simp [secH, headB_length hn]
theorem headP_bytes (h : Hdr) : isB (headP h) := ((((mark_bytes.append (putL_isB _ _)).append (putL_isB _ _)).append (putL_isB _ _)).append (put4_bytes _))
theorem headB_bytes (h : Hdr) : isB (headB h) := (headP_bytes h).append (putL_isB _ _)
theorem zeros_bytes (n : Nat) : isB (List.replicate n 0) := fun x hx => by have := (List.mem_replicate.1 hx).2; omega
theorem secH_bytes (h : Hdr) : isB (secH h) := (headB_bytes h).append (zeros_bytes _)
theorem headS_lt (h : Hdr) : headS h < 4294967296 := maskS_lt _
/-- the number of bytes that were put there -/
theorem num_mid (a r : List Int) (x : Int) (n k : Nat) (hk : a.length = k) : num (a ++ (putL x n ++ r)) k n = x % 2 ^ (8 * n) := by
  unfold num
  rw [List.drop_left' hk, getI_append _ _ _ (by rw [putL_length]; omega), getI_put _ _ _ (Nat.le_refl _)]
theorem readH_put {h : Hdr} (ht : HdT h) (hk : hdOk h = true) (r : List Int) : readH (headP h ++ r) = h := by
  obtain ⟨e, s, f, l⟩ := h
  have hn := ht.n
  obtain ⟨_, h2, h3, h4⟩ := hdOk_parts hk
  have he := ht.e
  unfold U64 at he
  simp only at *
  match l, hn, h4 with
  | [a, b, c, d], _, h4 =>
    have ha := h4 a (by simp)
    have hb := h4 b (by simp)
    have hc := h4 c (by simp)
    have hd := h4 d (by simp)
    have e0 : headP ⟨e, s, f, [a, b, c, d]⟩ ++ r = mark ++ putL e 8 ++ putL s 4 ++ putL f 4 ++ putL a 4 ++ putL b 4 ++ putL c 4 ++ putL d 4 ++ r := by
      simp [headP, put4, List.append_assoc]
    rw [e0]
    unfold readH
    have p1 : num (mark ++ putL e 8 ++ putL s 4 ++ putL f 4 ++ putL a 4 ++ putL b 4 ++ putL c 4 ++ putL d 4 ++ r) 5 8 = e := by
      simp only [List.append_assoc]
      have := num_mid mark (putL s 4 ++ (putL f 4 ++ (putL a 4 ++ (putL b 4 ++ (putL c 4 ++ (putL d 4 ++ r)))))) e 8 5 rfl
      rw [this]; omega
    have step : ∀ (q : List Int) (x : Int) (t : List Int) (k : Nat), q.length = k → 0 ≤ x → x < 4294967296 → num (q ++ putL x 4 ++ t) k 4 = x := fun q x t k hq h0 h1 => by
      rw [List.append_assoc, num_mid _ _ _ _ _ hq]; omega
    have p2 := step (mark ++ putL e 8) s (putL f 4 ++ putL a 4 ++ putL b 4 ++ putL c 4 ++ putL d 4 ++ r) 13 (by simp [putL_length, mark_length]) (by omega) (by omega)
    have p3 := step (mark ++ putL e 8 ++ putL s 4) f (putL a 4 ++ putL b 4 ++ putL c 4 ++ putL d 4 ++ r) 17 (by simp [putL_length, mark_length]) (by omega) (by omega)
    have p4 := step (mark ++ putL e 8 ++ putL s 4 ++ putL f 4) a (putL b 4 ++ putL c 4 ++ putL d 4 ++ r) 21 (by simp [putL_length, mark_length]) (by omega) (by omega)
    have p5 := step (mark ++ putL e 8 ++ putL s 4 ++ putL f 4 ++ putL a 4) b (putL c 4 ++ putL d 4 ++ r) 25 (by simp [putL_length, mark_length]) (by omega) (by omega)
    have p6 := step (mark ++ putL e 8 ++ putL s 4 ++ putL f 4 ++ putL a 4 ++ putL b 4) c (putL d 4 ++ r) 29 (by simp [putL_length, mark_length]) (by omega) (by omega)
    have p7 := step (mark ++ putL e 8 ++ putL s 4 ++ putL f 4 ++ putL a 4 ++ putL b 4 ++ putL c 4) d r 33 (by simp [putL_length, mark_length]) (by omega) (by omega)
    simp only [List.append_assoc] at p1 p2 p3 p4 p5 p6 p7 ⊢
    rw [p1, p2, p3, p4, p5, p6, p7]
/-- what was read is put by the same bytes -/
theorem put_readH {zs : List Int} (hb : isB zs) (hl : 37 ≤ zs.length) (hm : zs.take 5 = mark) : headP (readH zs) = zs.take 37 := by
  have e : headP (readH zs) = zs.take 5 ++ (zs.drop 5).take 8 ++ (zs.drop 13).take 4 ++ (zs.drop 17).take 4 ++ ((zs.drop 21).take 4 ++ ((zs.drop 25).take 4 ++ ((zs.drop 29).take 4 ++ ((zs.drop 33).take 4 ++ [])))) := by
    unfold headP readH
    simp only [put4, List.map_cons, List.map_nil, List.flatten_cons, List.flatten_nil]
    rw [num_put hb 5 8 (by omega), num_put hb 13 4 (by omega), num_put hb 17 4 (by omega), num_put hb 21 4 (by omega), num_put hb 25 4 (by omega), num_put hb 29 4 (by omega), num_put hb 33 4 (by omega), hm]
  rw [e, show 37 = 5 + 8 + 4 + 4 + 4 + 4 + 4 + 4 from rfl]
  simp only [List.take_add, List.append_assoc, List.append_nil]
theorem readH_typed {zs : List Int} (hb : isB zs) : HdT (readH zs) := by
  have b8 := num_bd hb 5 8
  have b4 : ∀ a, I63 (num zs a 4) := fun a => by have := num_bd hb a 4; unfold I63; omega
  refine ⟨by unfold U64; simp only [readH]; omega, b4 _, b4 _, rfl, fun x hx => ?_⟩
  simp only [readH, List.mem_cons, List.not_mem_nil, or_false] at hx
  rcases hx with rfl | rfl | rfl | rfl <;> exact b4 _
theorem noH_typed : HdT noH := ⟨by unfold U64; simp only [noH]; omega, by unfold I63; simp only [noH]; omega, by unfold I63; simp only [noH]; omega, rfl, fun x hx => by
  simp only [noH, List.mem_cons, List.not_mem_nil, or_false, or_self] at hx; subst hx; unfold I63; omega⟩
/-- is the sum there? -/
theorem num_sum {zs : List Int} (hb : isB zs) (hl : 41 ≤ zs.length) (m : Nat) (hm : m < 4294967296) : num zs 37 4 = (m : Int) ↔ (zs.drop 37).take 4 = putL m 4 := by
  have h1 := num_put hb 37 4 (by omega)
  constructor
  · intro h; rw [← h1, h]
  · intro h
    have h2 : num zs 37 4 = getI ((zs.drop 37).take 4) 4 := by unfold num; rw [getI_take _ 4 4 (Nat.le_refl _)]
    rw [h2, h, getI_put _ _ _ (Nat.le_refl _)]; omega
/-- the header whose sector bytes are; or why they are none -/
def headD (zs : List Int) : Hdr × Int :=
  if zs = z64 then (noH, 7) else
  if zs.take 5 ≠ mark ∨ zs.drop 41 ≠ List.replicate 23 0 then (noH, 2) else
  if (zs.drop 37).take 4 ≠ putL (maskS (ofS (zs.take 37))) 4 then (noH, 3) else
  if hdOk (readH zs) = true then (readH zs, 0) else (noH, 2)
section
variable {zs : List Int}
theorem headD_none (h : zs = z64) : headD zs = (noH, 7) := by unfold headD; rw [if_pos h]
theorem headD_form (h : ¬ zs = z64) (h2 : zs.take 5 ≠ mark ∨ zs.drop 41 ≠ List.replicate 23 0) : headD zs = (noH, 2) := by unfold headD; rw [if_neg h, if_pos h2]
section
variable (h : ¬ zs = z64) (h2 : zs.take 5 = mark) (h3 : zs.drop 41 = List.replicate 23 0)
include h h2 h3
theorem headD_sum (h4 : (zs.drop 37).take 4 ≠ putL (maskS (ofS (zs.take 37))) 4) : headD zs = (noH, 3) := by
  unfold headD; rw [if_neg h, if_neg (by simp [h2, h3]), if_pos h4]
variable (h4 : (zs.drop 37).take 4 = putL (maskS (ofS (zs.take 37))) 4)
include h4
theorem headD_wrong (h5 : hdOk (readH zs) = false) : headD zs = (noH, 2) := by
  unfold headD; rw [if_neg h, if_neg (by simp [h2, h3]), if_neg (by simp [h4]), if_neg (by simp [h5])]
theorem headD_ok (h5 : hdOk (readH zs) = true) : headD zs = (readH zs, 0) := by
  unfold headD; rw [if_neg h, if_neg (by simp [h2, h3]), if_neg (by simp [h4]), if_pos h5]
end
theorem headD_cases : (zs = z64 ∧ headD zs = (noH, 7)) ∨ (¬ zs = z64 ∧ (zs.take 5 ≠ mark ∨ zs.drop 41 ≠ List.replicate 23 0) ∧ headD zs = (noH, 2)) ∨
    (¬ zs = z64 ∧ zs.take 5 = mark ∧ zs.drop 41 = List.replicate 23 0 ∧ (zs.drop 37).take 4 ≠ putL (maskS (ofS (zs.take 37))) 4 ∧ headD zs = (noH, 3)) ∨
    (¬ zs = z64 ∧ zs.take 5 = mark ∧ zs.drop 41 = List.replicate 23 0 ∧ (zs.drop 37).take 4 = putL (maskS (ofS (zs.take 37))) 4 ∧ hdOk (readH zs) = false ∧ headD zs = (noH, 2)) ∨
    (¬ zs = z64 ∧ zs.take 5 = mark ∧ zs.drop 41 = List.replicate 23 0 ∧ (zs.drop 37).take 4 = putL (maskS (ofS (zs.take 37))) 4 ∧ hdOk (readH zs) = true ∧ headD zs = (readH zs, 0)) := by
  by_cases h : zs = z64
  · exact .inl ⟨h, headD_none h⟩
  by_cases h2 : zs.take 5 = mark
  · by_cases h3 : zs.drop 41 = List.replicate 23 0
    · by_cases h4 : (zs.drop 37).take 4 = putL (maskS (ofS (zs.take 37))) 4
      · cases h5 : hdOk (readH zs)
        · exact .inr (.inr (.inr (.inl ⟨h, h2, h3, h4, rfl, headD_wrong h h2 h3 h4 h5⟩)))
        · exact .inr (.inr (.inr (.inr ⟨h, h2, h3, h4, rfl, headD_ok h h2 h3 h4 h5⟩)))
      · exact .inr (.inr (.inl ⟨h, h2, h3, h4, headD_sum h h2 h3 h4⟩))
    · exact .inr (.inl ⟨h, .inr h3, headD_form h (.inr h3)⟩)
  · exact .inr (.inl ⟨h, .inl h2, headD_form h (.inl h2)⟩)
theorem headD_typed (hb : isB zs) : HdT (headD zs).1 := by
  rcases headD_cases (zs := zs) with ⟨_, h⟩ | ⟨_, _, h⟩ | ⟨_, _, _, _, h⟩ | ⟨_, _, _, _, _, h⟩ | ⟨_, _, _, _, _, h⟩ <;> rw [h]
  · exact noH_typed
  · exact noH_typed
  · exact noH_typed
  · exact noH_typed
  · exact readH_typed hb
/-- what a header that is told is like -/
theorem headD_parts (h : (headD zs).2 = 0) : zs.take 5 = mark ∧ zs.drop 41 = List.replicate 23 0 ∧ (zs.drop 37).take 4 = putL (maskS (ofS (zs.take 37))) 4 ∧ hdOk (readH zs) = true ∧ headD zs = (readH zs, 0) := by
  rcases headD_cases (zs := zs) with ⟨_, h1⟩ | ⟨_, _, h1⟩ | ⟨_, _, _, _, h1⟩ | ⟨_, _, _, _, _, h1⟩ | ⟨_, h2, h3, h4, h5, h1⟩
  · rw [h1] at h; exact absurd h (by decide)
  · rw [h1] at h; exact absurd h (by decide)
  · rw [h1] at h; exact absurd h (by decide)
  · rw [h1] at h; exact absurd h (by decide)
  · exact ⟨h2, h3, h4, h5, h1⟩
end
theorem secH_take37 {h : Hdr} (hn : h.l.length = 4) : (secH h).take 37 = headP h := by
  unfold secH headB; rw [List.append_assoc, List.take_left' (headP_length hn)]
theorem secH_drop37 {h : Hdr} (hn : h.l.length = 4) : (secH h).drop 37 = putL (headS h) 4 ++ List.replicate 23 0 := by
  unfold secH headB; rw [List.append_assoc, List.drop_left' (headP_length hn)]
theorem secH_sum {h : Hdr} (hn : h.l.length = 4) : ((secH h).drop 37).take 4 = putL (headS h) 4 := by
  rw [secH_drop37 hn, List.take_left' (by rw [putL_length])]
theorem secH_rest {h : Hdr} (hn : h.l.length = 4) : (secH h).drop 41 = List.replicate 23 0 := by
  unfold secH; rw [List.drop_left' (headB_length hn)]
theorem secH_mark {h : Hdr} (hn : h.l.length = 4) : (secH h).take 5 = mark := by
  have e : (secH h).take 5 = ((secH h).take 37).take 5 := by rw [List.take_take, show min 5 37 = 5 from rfl]
  rw [e, secH_take37 hn]
  unfold headP
  simp only [List.append_assoc]
  exact List.take_left' rfl
theorem not_z64 {zs : List Int} (h : zs.take 5 = mark) : ¬ zs = z64 := by
  intro e
  rw [e] at h
  have : (z64.take 5).getD 0 0 = mark.getD 0 0 := by rw [h]
  exact absurd this (by decide)
/-- what is encoded is decoded -/
theorem hd_got {h : Hdr} (ht : HdT h) (hk : hdOk h = true) : headD (secH h) = (h, 0) := by
  have hn := ht.n
  have hr : readH (secH h) = h := by
    unfold secH headB; rw [List.append_assoc]; exact readH_put ht hk _
  have := headD_ok (zs := secH h) (not_z64 (secH_mark hn)) (secH_mark hn) (secH_rest hn) (by rw [secH_sum hn, secH_take37 hn]; rfl) (by rw [hr]; exact hk)
  rw [this, hr]
/-- what is decoded is encoded to the same sector -/
theorem hd_back {zs : List Int} (hb : isB zs) (hl : zs.length = 64) (h : (headD zs).2 = 0) : hdOk (headD zs).1 = true ∧ secH (headD zs).1 = zs := by
  obtain ⟨h2, h3, h4, h5, h1⟩ := headD_parts h
  rw [h1]
  refine ⟨h5, ?_⟩
  have hp := put_readH hb (by omega) h2
  unfold secH headB headS
  simp only
  rw [hp, ← h4, ← h3, show zs.drop 41 = (zs.drop 37).drop 4 from by rw [List.drop_drop], List.append_assoc, List.take_append_drop, List.take_append_drop]
/-- what lies behind a change stays -/
theorem pat_drop_all (zs ws : List Int) (at_ k m : Nat) (h : at_ + k ≤ m) : (pat zs ws at_ k).drop m = zs.drop m := by
  induction k with
  | zero => rfl
  | succ k ih => rw [pat, List.drop_set_of_lt (by omega)]; exact ih (by omega)
theorem pat_take_in (zs ws : List Int) (at_ k m : Nat) (_h : at_ + k ≤ m) : (pat zs ws at_ k).take m = pat (zs.take m) ws at_ k := by
  induction k with
  | zero => rfl
  | succ k ih => rw [pat, List.take_set, ih (by omega), pat]
/-- a burst is seen -/
theorem hd_burst {h : Hdr} (ht : HdT h) (ws : List Int) (hw : isB ws) (at_ j : Nat) (_hj : at_ + j ≤ 64) (hjw : j ≤ ws.length) (h4 : j ≤ 4) (hs : at_ < 37 → at_ + j ≤ 37)
    (hg : (headD (pat (secH h) ws at_ j)).2 = 0) : pat (secH h) ws at_ j = secH h := by
  have hn := ht.n
  have hl := secH_length hn
  obtain ⟨_, g3, g4, _, _⟩ := headD_parts hg
  obtain ⟨z, hz⟩ : ∃ z, secH h = z := ⟨_, rfl⟩
  have hzb : isB z := by rw [← hz]; exact secH_bytes h
  have hsum : (z.drop 37).take 4 = putL (maskS (ofS (z.take 37))) 4 := by rw [← hz, secH_sum hn, secH_take37 hn]; rfl
  have hrest : z.drop 41 = List.replicate 23 0 := by rw [← hz]; exact secH_rest hn
  rw [hz] at hl g3 g4 ⊢
  by_cases ha : at_ < 37
  · have h37 := hs ha
    rw [pat_drop_all z ws at_ j 37 h37, hsum, pat_take_in z ws at_ j 37 h37] at g4
    have e1 : (maskS (ofS (z.take 37)) : Int) = maskS (ofS (pat (z.take 37) ws at_ j)) := by
      have q := congrArg (fun l => getI l 4) g4
      simp only [getI_put _ _ _ (Nat.le_refl _)] at q
      have b1 := maskS_lt (ofS (z.take 37))
      have b2 := maskS_lt (ofS (pat (z.take 37) ws at_ j))
      omega
    have e2 := maskS_inj (ofS_lt _) (ofS_lt _) (Int.ofNat.inj e1)
    have e3 := pat_of (z.take 37) ws at_ j (by simp; omega) hjw h4 (hzb.take 37) hw e2.symm
    rw [← List.take_append_drop 37 (pat z ws at_ j), pat_take_in z ws at_ j 37 h37, e3, pat_drop_all z ws at_ j 37 h37, List.take_append_drop]
  · have t37 := pat_take z ws at_ j 37 (by omega)
    rw [t37] at g4
    have c : ∀ q : List Int, q = q.take 37 ++ ((q.drop 37).take 4 ++ q.drop 41) := fun q => by
      rw [show q.drop 41 = (q.drop 37).drop 4 from by rw [List.drop_drop], List.take_append_drop, List.take_append_drop]
    rw [c (pat z ws at_ j), t37, g4, g3, ← hsum, ← hrest, ← c]
theorem awake_hd : hdOk ⟨1, 1, 1, [0, 0, 0, 0]⟩ = true := by decide
end Go.Proofs.YtncnmmillhnhlaaDoor
