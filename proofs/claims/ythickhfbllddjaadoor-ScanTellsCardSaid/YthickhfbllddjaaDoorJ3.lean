/-
  TEXTS JOINED: PlanMath, Bools, PlanCov. Each one's own words stand at its head.
-/
import Derived.Test.YthickhfbllddjaaDoorStampMath
import Derived.Test.YthickhfbllddjaaDoorJ2
import Derived.Test.YthickhfbllddjaaDoorSecs
import Derived.Test.YthickhfbllddjaaDoorJ1
import Derived.Test.YthickhfbllddjaaDoorCut
import Derived.Test.YthickhfbllddjaaDoorRegion
import Derived.Test.YthickhfbllddjaaDoorBelow
/-
  LAYER 16 (plan): what a body's sectors are, and what sectors' body is (plain mathematics). No condition.
-/
namespace Go.Proofs.YthickhfbllddjaaDoor
open Go.RowKit
/-- the i-th sector of a list that is told by its bytes -/
def secOf (fs : List Int) (i : Nat) : List Int := (fs.drop (i * 64)).take 64
theorem secOf_length (fs : List Int) (n i : Nat) (h : fs.length = n * 64) (hi : i < n) : (secOf fs i).length = 64 := by unfold secOf; simp; omega
/-- is it stamped? -/
def okAt (x : Int) (n : Nat) (fs : List Int) (i : Nat) : Bool := decide (i < n) && decide (sealed x i ((secOf fs i).drop 12) = secOf fs i)
/-- its room, zeros if it isn't stamped -/
def roomAt (x : Int) (n : Nat) (fs : List Int) (i : Nat) : List Int := if okAt x n fs i = true then (secOf fs i).drop 12 else List.replicate 52 0
def flatB (x : Int) (n : Nat) (fs : List Int) : Nat → List Int
  | 0 => []
  | k + 1 => flatB x n fs k ++ roomAt x n fs k
def flatK (x : Int) (n : Nat) (fs : List Int) : Nat → List Bool
  | 0 => []
  | k + 1 => flatK x n fs k ++ [okAt x n fs k]
theorem roomAt_length (x : Int) (n : Nat) (fs : List Int) (h : fs.length = n * 64) (i : Nat) : (roomAt x n fs i).length = 52 := by
  unfold roomAt
  split
  · rename_i h1
    simp only [okAt, Bool.and_eq_true, decide_eq_true_eq] at h1
    rw [List.length_drop, secOf_length fs n i h h1.1]
  · simp
theorem flatB_length (x : Int) (n : Nat) (fs : List Int) (h : fs.length = n * 64) : ∀ k, (flatB x n fs k).length = 52 * k
  | 0 => rfl
  | k + 1 => by rw [flatB, List.length_append, flatB_length x n fs h k, roomAt_length x n fs h]; omega
theorem flatK_length (x : Int) (n : Nat) (fs : List Int) : ∀ k, (flatK x n fs k).length = k
  | 0 => rfl
  | k + 1 => by rw [flatK, List.length_append, flatK_length x n fs k]; rfl
theorem okAt_behind (x : Int) (n : Nat) (fs : List Int) (i : Nat) (h : n ≤ i) : okAt x n fs i = false := by
  unfold okAt; rw [decide_eq_false (by omega)]; rfl
theorem okAt_in (x : Int) (n : Nat) (fs : List Int) (i : Nat) (h : i < n) : okAt x n fs i = decide (sealed x i ((secOf fs i).drop 12) = secOf fs i) := by
  unfold okAt; rw [decide_eq_true h]; rfl
theorem roomAt_false (x : Int) (n : Nat) (fs : List Int) (i : Nat) (h : okAt x n fs i = false) : roomAt x n fs i = List.replicate 52 0 := by
  unfold roomAt; rw [if_neg (by rw [h]; simp)]
theorem roomAt_true (x : Int) (n : Nat) (fs : List Int) (i : Nat) (h : okAt x n fs i = true) : roomAt x n fs i = (secOf fs i).drop 12 := by
  unfold roomAt; rw [if_pos h]
theorem flatB_behind (x : Int) (n : Nat) (fs : List Int) (k : Nat) (h : n ≤ k) : ∀ d, flatB x n fs (k + d) = flatB x n fs k ++ List.replicate (52 * d) 0
  | 0 => by simp
  | d + 1 => by
    rw [← Nat.add_assoc, flatB, flatB_behind x n fs k h d, roomAt_false _ _ _ _ (okAt_behind _ _ _ _ (by omega)), List.append_assoc, List.replicate_append_replicate, Nat.mul_add]
theorem flatK_behind (x : Int) (n : Nat) (fs : List Int) (k : Nat) (h : n ≤ k) : ∀ d, flatK x n fs (k + d) = flatK x n fs k ++ List.replicate d false
  | 0 => by simp
  | d + 1 => by
    rw [← Nat.add_assoc, flatK, flatK_behind x n fs k h d, okAt_behind _ _ _ _ (by omega), List.append_assoc, show [false] = List.replicate 1 false from rfl, List.replicate_append_replicate]
/-- the body's block behind k rounds -/
def bodyAt (x : Int) (n : Nat) (fs : List Int) (k : Nat) : List Int := flatB x n fs k ++ List.replicate (832 - 52 * k) 0
def oksAt (x : Int) (n : Nat) (fs : List Int) (k : Nat) : List Bool := flatK x n fs k ++ List.replicate (16 - k) false
theorem bodyAt_length (x : Int) (n : Nat) (fs : List Int) (h : fs.length = n * 64) (k : Nat) (hk : k ≤ 16) : (bodyAt x n fs k).length = 832 := by
  unfold bodyAt; rw [List.length_append, flatB_length x n fs h, List.length_replicate]; omega
theorem oksAt_length (x : Int) (n : Nat) (fs : List Int) (k : Nat) (hk : k ≤ 16) : (oksAt x n fs k).length = 16 := by
  unfold oksAt; rw [List.length_append, flatK_length, List.length_replicate]; omega
theorem bodyAt_zero (x : Int) (n : Nat) (fs : List Int) : bodyAt x n fs 0 = List.replicate 832 0 := rfl
theorem oksAt_zero (x : Int) (n : Nat) (fs : List Int) : oksAt x n fs 0 = List.replicate 16 false := rfl
theorem splice_mid {α : Type} (a b c : List α) (d : List α) (h : c.length = b.length) (k : Nat) (hk : a.length = k) : splice (a ++ (b ++ d)) k c = a ++ (c ++ d) := by
  subst hk
  unfold splice
  rw [List.take_left', List.drop_append, List.drop_eq_nil_of_le (by omega), List.nil_append]
  · congr 2
    rw [show a.length + c.length - a.length = b.length from by omega, List.drop_left']
    rfl
  · rfl
theorem splice_nil {α : Type} (l : List α) (k : Nat) : splice l k [] = l := by simp [splice]
theorem bodyAt_true (x : Int) (n : Nat) (fs : List Int) (h : fs.length = n * 64) (k : Nat) (hk : k < 16) (ho : okAt x n fs k = true) :
    splice (bodyAt x n fs k) (52 * k) ((secOf fs k).drop 12) = bodyAt x n fs (k + 1) := by
  have hr := roomAt_length x n fs h k
  rw [roomAt_true _ _ _ _ ho] at hr
  unfold bodyAt
  rw [show 832 - 52 * k = 52 + (832 - 52 * (k + 1)) from by omega, ← List.replicate_append_replicate,
    splice_mid _ (List.replicate 52 0) _ _ (by simpa using hr) _ (flatB_length x n fs h k), flatB, roomAt_true _ _ _ _ ho, List.append_assoc]
theorem bodyAt_false (x : Int) (n : Nat) (fs : List Int) (k : Nat) (hk : k < 16) (ho : okAt x n fs k = false) : bodyAt x n fs k = bodyAt x n fs (k + 1) := by
  unfold bodyAt
  rw [flatB, roomAt_false _ _ _ _ ho, List.append_assoc, List.replicate_append_replicate, show 52 + (832 - 52 * (k + 1)) = 832 - 52 * k from by omega]
theorem oksAt_next (x : Int) (n : Nat) (fs : List Int) (k : Nat) (hk : k < 16) : (oksAt x n fs k).set k (okAt x n fs k) = oksAt x n fs (k + 1) := by
  unfold oksAt
  rw [show 16 - k = 1 + (16 - (k + 1)) from by omega, ← List.replicate_append_replicate, List.set_append_right _ _ (by rw [flatK_length]; omega), flatK_length, Nat.sub_self, flatK, List.append_assoc]
  rfl
theorem bodyAt_end (x : Int) (n : Nat) (fs : List Int) : bodyAt x n fs (min n 16) = flatB x n fs 16 := by
  by_cases h : n ≤ 16
  · rw [Nat.min_eq_left h]
    have := flatB_behind x n fs n (Nat.le_refl _) (16 - n)
    rw [show n + (16 - n) = 16 from by omega] at this
    rw [this]; unfold bodyAt; rw [show 832 - 52 * n = 52 * (16 - n) from by omega]
  · rw [Nat.min_eq_right (by omega)]; unfold bodyAt; simp
theorem oksAt_end (x : Int) (n : Nat) (fs : List Int) : oksAt x n fs (min n 16) = flatK x n fs 16 := by
  by_cases h : n ≤ 16
  · rw [Nat.min_eq_left h]
    have := flatK_behind x n fs n (Nat.le_refl _) (16 - n)
    rw [show n + (16 - n) = 16 from by omega] at this
    rw [this]; rfl
  · rw [Nat.min_eq_right (by omega)]; unfold oksAt; simp
/-- the bytes of a body that its i-th sector has -/
def partB (body : List Int) (i : Nat) : List Int := (body.drop (52 * i)).take 52
/-- k sectors of a body, from the a-th on -/
def writeB (x : Int) (body : List Int) (a : Nat) : Nat → List Int
  | 0 => []
  | k + 1 => writeB x body a k ++ sealed x ((a + k : Nat) : Int) (partB body (a + k))
theorem writeB_length (x : Int) (body : List Int) (a : Nat) : ∀ k, (writeB x body a k).length = k * 64
  | 0 => rfl
  | k + 1 => by rw [writeB, List.length_append, writeB_length x body a k, sealed_length]; omega
/-- the row of d sectors behind k rounds -/
def rowAt (x : Int) (body : List Int) (a d k : Nat) : List Int := writeB x body a k ++ List.replicate ((d - k) * 64) 0
theorem rowAt_length (x : Int) (body : List Int) (a d k : Nat) (hk : k ≤ d) : (rowAt x body a d k).length = d * 64 := by
  unfold rowAt; rw [List.length_append, writeB_length, List.length_replicate, ← Nat.add_mul]; congr 1; omega
theorem rowAt_zero (x : Int) (body : List Int) (a d : Nat) : rowAt x body a d 0 = List.replicate (d * 64) 0 := by simp [rowAt, writeB]
theorem rowAt_end (x : Int) (body : List Int) (a d : Nat) : rowAt x body a d d = writeB x body a d := by simp [rowAt]
theorem rowAt_next (x : Int) (body : List Int) (a d k : Nat) (hk : k < d) :
    splice (rowAt x body a d k) (k * 64) (sealed x ((a + k : Nat) : Int) (partB body (a + k))) = rowAt x body a d (k + 1) := by
  unfold rowAt
  rw [show (d - k) * 64 = 64 + (d - (k + 1)) * 64 from by omega, ← List.replicate_append_replicate,
    splice_mid _ (List.replicate 64 0) _ _ (by rw [sealed_length]; simp) _ (writeB_length x body a k), writeB, List.append_assoc]
/-- all sectors of a segment, n of them written -/
def wholeK (x : Int) (body : List Int) (n : Nat) : Nat → List Int
  | 0 => []
  | k + 1 => wholeK x body n k ++ (if k < n then sealed x (k : Int) (partB body k) else z64)
theorem wholeK_length (x : Int) (body : List Int) (n : Nat) : ∀ k, (wholeK x body n k).length = k * 64
  | 0 => rfl
  | k + 1 => by
    rw [wholeK, List.length_append, wholeK_length x body n k]
    split
    · rw [sealed_length]; omega
    · rw [z64_length]; omega
theorem wholeK_in (x : Int) (body : List Int) (n : Nat) : ∀ k, k ≤ n → wholeK x body n k = writeB x body 0 k
  | 0, _ => rfl
  | k + 1, h => by rw [wholeK, wholeK_in x body n k (by omega), if_pos (by omega), writeB, Nat.zero_add]
theorem wholeK_behind (x : Int) (body : List Int) (n : Nat) : ∀ d, wholeK x body n (n + d) = writeB x body 0 n ++ List.replicate (d * 64) 0
  | 0 => by rw [Nat.add_zero, wholeK_in _ _ _ _ (Nat.le_refl _)]; simp
  | d + 1 => by
    rw [← Nat.add_assoc, wholeK, wholeK_behind x body n d, if_neg (by omega), List.append_assoc, z64, List.replicate_append_replicate, Nat.add_mul]
theorem whole_splice (x : Int) (body : List Int) (n : Nat) (h : n ≤ 16) : splice (List.replicate 1024 (0 : Int)) 0 (writeB x body 0 n) = wholeK x body n 16 := by
  have h1 := wholeK_behind x body n (16 - n)
  rw [show n + (16 - n) = 16 from by omega] at h1
  rw [h1]
  unfold splice
  rw [List.take_zero, List.nil_append, writeB_length, List.drop_replicate, show 1024 - (0 + n * 64) = (16 - n) * 64 from by omega]
/-- the i-th sector of a whole segment -/
theorem secOf_whole (x : Int) (body : List Int) (n i : Nat) : ∀ k, i < k → secOf (wholeK x body n k) i = if i < n then sealed x (i : Int) (partB body i) else z64
  | 0, h => absurd h (by omega)
  | k + 1, h => by
    have hl := wholeK_length x body n k
    by_cases hik : i < k
    · rw [← secOf_whole x body n i k hik]
      unfold secOf
      rw [wholeK, List.drop_append_of_le_length (by omega), List.take_append_of_le_length (by simp; omega)]
    · obtain rfl : i = k := by omega
      unfold secOf
      rw [wholeK, List.drop_left' hl]
      refine List.take_of_length_le ?_
      split
      · rw [sealed_length]; omega
      · rw [z64_length]; omega
theorem z64_sealed : z64 = sealed 0 0 [] := by decide
theorem okAt_whole (x : Int) (hx : U64 x) (h0 : x ≠ 0) (body : List Int) (n i : Nat) (hi : i < 16) : okAt x 16 (wholeK x body n 16) i = decide (i < n) := by
  rw [okAt_in _ _ _ _ hi, secOf_whole x body n i 16 hi]
  by_cases h : i < n
  · rw [if_pos h, sealed_own, decide_eq_true rfl, decide_eq_true h]
  · rw [if_neg h, z64_sealed, decide_eq_false h]
    refine decide_eq_false fun he => h0 ?_
    exact ((sealed_eq 0 x 0 i (by unfold U64; omega) hx []).1 he).1.symm
theorem flatB_get (x : Int) (n : Nat) (fs : List Int) (hl : fs.length = n * 64) (i r : Nat) (hr : r < 52) : ∀ k, i < k → (flatB x n fs k).getD (52 * i + r) 0 = (roomAt x n fs i).getD r 0
  | 0, h => absurd h (by omega)
  | k + 1, h => by
    have h1 := flatB_length x n fs hl k
    rw [flatB]
    by_cases hik : i < k
    · rw [getD_app_l _ _ _ (by omega), flatB_get x n fs hl i r hr k hik]
    · obtain rfl : i = k := by omega
      rw [getD_app_r _ _ _ (by omega), h1, Nat.add_sub_cancel_left]
theorem getB_app_l (a b : List Bool) (j : Nat) (h : j < a.length) : (a ++ b).getD j false = a.getD j false := by simp [List.getD, List.getElem?_append, h]
theorem getB_app_r (a b : List Bool) (j : Nat) (h : a.length ≤ j) : (a ++ b).getD j false = b.getD (j - a.length) false := by simp [List.getD, List.getElem?_append, Nat.not_lt.2 h]
theorem flatK_get (x : Int) (n : Nat) (fs : List Int) (i : Nat) : ∀ k, i < k → (flatK x n fs k).getD i false = okAt x n fs i
  | 0, h => absurd h (by omega)
  | k + 1, h => by
    have h1 := flatK_length x n fs k
    rw [flatK]
    by_cases hik : i < k
    · rw [getB_app_l _ _ _ (by omega), flatK_get x n fs i k hik]
    · obtain rfl : i = k := by omega
      rw [getB_app_r _ _ _ (by omega), h1]; simp
/-- the body of a whole segment -/
theorem back_get (x : Int) (hx : U64 x) (h0 : x ≠ 0) (body : List Int) (n j : Nat) (hj : j < 832) :
    (flatB x 16 (wholeK x body n 16) 16).getD j 0 = if j < 52 * n ∧ j < body.length then body.getD j 0 else 0 := by
  have hj2 : 52 * (j / 52) + j % 52 = j := by omega
  have h1 := flatB_get x 16 (wholeK x body n 16) (wholeK_length x body n 16) (j / 52) (j % 52) (by omega) 16 (by omega)
  rw [hj2] at h1
  rw [h1]
  have ho := okAt_whole x hx h0 body n (j / 52) (by omega)
  by_cases hn : j / 52 < n
  · rw [decide_eq_true hn] at ho
    rw [roomAt_true _ _ _ _ ho, secOf_whole x body n _ 16 (by omega), if_pos hn, sealed_room, room_get _ _ (by omega)]
    unfold partB
    have h2 : ((body.drop (52 * (j / 52))).take 52).getD (j % 52) 0 = body.getD j 0 := by
      simp only [List.getD, List.getElem?_take, show j % 52 < 52 from by omega, if_true, List.getElem?_drop, hj2]
    rw [h2]
    by_cases hb : j < body.length
    · rw [if_pos ⟨by omega, hb⟩]
    · rw [if_neg (by omega)]
      simp [List.getD, List.getElem?_eq_none (Nat.not_lt.1 hb)]
  · rw [decide_eq_false hn] at ho
    rw [roomAt_false _ _ _ _ ho, if_neg (by omega), getD_replicate]
/-- are all of d sectors from the a-th on true? -/
def cov (bs : List Bool) (a d : Nat) : Bool := (List.range d).all fun i => bs.getD (a + i) false
theorem cov_short (bs : List Bool) (a d i : Nat) (hi : i < d) (h : bs.getD (a + i) false = false) : cov bs a d = false := by
  refine Bool.eq_false_iff.2 fun h1 => ?_
  have := List.all_eq_true.1 h1 i (List.mem_range.2 hi)
  rw [h] at this; cases this
theorem cov_all (bs : List Bool) (a d : Nat) (h : ∀ i, i < d → bs.getD (a + i) false = true) : cov bs a d = true :=
  List.all_eq_true.2 fun i hi => h i (List.mem_range.1 hi)
/-- which sectors a segment's places lie in -/
theorem touch_le (a b : Nat) (hb : b ≤ 832) : (touchN a b).1 ≤ (touchN a b).2 ∧ (touchN a b).2 ≤ 16 ∧ ((touchN a b).1 = (touchN a b).2 → (touchN a b).1 = 0) := by
  unfold touchN
  split
  · refine ⟨by simp only; omega, by simp only; omega, by simp only; omega⟩
  · simp
theorem touch_zero (b : Nat) : (touchN 0 b).1 = 0 := by
  unfold touchN; split <;> rfl
end Go.Proofs.YthickhfbllddjaaDoor
/-
  SLICES OF BOOLS: cuts; slices.Index and slices.Contains of false. No condition.
-/
namespace Go.Proofs.YthickhfbllddjaaDoor
open Go.RowKit
/-- a part of a slice of bools -/
theorem BS.cut {w : World} {a : Option Addr} {len cap : Nat} {bs : List Bool} (h : BS w (.slice a len cap) len bs) (l n m : Nat) (hl : l + n ≤ len) (hm : l + n ≤ m) (hm2 : m ≤ cap) :
    BS w (sliced a l (l + n) m 1) n ((bs.drop l).take n) := by
  have hbl := h.length
  obtain ⟨a', cap', e, h1, h2, h3, h4, hc⟩ := h
  simp only [Value.slice.injEq, true_and] at e
  obtain ⟨rfl, rfl⟩ := e
  have hz : (((bs.drop l).take n).map Value.bool).length = n * 1 := by simp; omega
  unfold sliced
  rw [show l + n - l = n from by omega]
  by_cases h0 : m = l
  · rw [if_pos h0]
    exact ⟨a, m - l, rfl, hz, by omega, by omega, fun e => by have := h4 e; omega, fun h => absurd h (by omega)⟩
  · rw [if_neg h0]
    cases a with
    | none => have := h4 rfl; omega
    | some x =>
      refine ⟨some (x.add (l * 1)), m - l, rfl, hz, by omega, by omega, fun h => by simp at h, fun hp => ?_⟩
      obtain ⟨b, off, hx, hcell⟩ := hc (by omega)
      obtain rfl := Option.some.inj hx
      refine ⟨b, off + l, by simp [Addr.add], fun j hj => ?_⟩
      rw [Nat.add_assoc, hcell (l + j) (by omega)]
      simp only [List.getElem?_map, List.getElem?_take, show j < n from by omega, if_true, List.getElem?_drop]
section
variable {w : World} {o : Oper} {a : Act}
set_option maxRecDepth 20000 in
theorem bool_cell1 : (sizeOf (Tryd.prog.elem 54)).run Tryd.prog w = .ok 1 w := by
  have he : Tryd.prog.elem 54 = 4 := rfl
  have hb : (Tryd.prog.info? 4).map (fun i => (i.zero, i.size, i.bytes)) = some (some (.bool false), 1, 1) := by kernel_rfl
  obtain ⟨i, hi, _, hz1, _⟩ := info_parts hb
  simp [sizeOf, typeInfo, he, hi, hz1]
set_option maxRecDepth 20000 in
theorem und_bools : Tryd.prog.underlying 54 = some (.slice (Tryd.prog.elem 54)) := by rw [Tryd.underlying54]; rfl
/-- x[l:h] -/
theorem exec_cutb_lh (x lo hi : Operand) (ho : o.op = .slice 54 x (some lo) (some hi) none) (p : Option Addr) (len cap l n : Nat) (hx : a.eval x = .slice p len cap) (hlo : a.eval lo = .int .i64 (l : Int)) (hhi : a.eval hi = .int .i64 ((l + n : Nat) : Int)) (hc : l + n ≤ cap) :
    (execOp a.eval o).run Tryd.prog w = .ok (.value (sliced p l (l + n) cap 1)) w := by
  have h1 := run_slice_lh (P := Tryd.prog) w 54 p len cap und_bools .i64 .i64 (l : Int) ((l + n : Nat) : Int) (by omega) (by omega) (by omega)
  rw [bool_cell1] at h1
  simp only [Result.andThen_ok, Int.toNat_natCast] at h1
  simp only [Int.natCast_add] at h1
  simp [execOp, ho, hx, hlo, hhi, run_sliceAt_slice _ _ _ _ _ _ und_bools, h1, Result.andThen]
/-- x[:h] -/
theorem exec_cutb_h (x hi : Operand) (ho : o.op = .slice 54 x none (some hi) none) (p : Option Addr) (len cap n : Nat) (hx : a.eval x = .slice p len cap) (hhi : a.eval hi = .int .i64 (n : Int)) (hc : n ≤ cap) :
    (execOp a.eval o).run Tryd.prog w = .ok (.value (sliced p 0 n cap 1)) w := by
  have h1 := run_slice_h (P := Tryd.prog) w 54 p len cap und_bools .i64 (n : Int) (by omega) (by omega)
  rw [bool_cell1] at h1
  simp only [Result.andThen_ok, Int.toNat_natCast] at h1
  simp [execOp, ho, hx, hhi, run_sliceAt_slice _ _ _ _ _ _ und_bools, h1, Result.andThen]
end
section
variable {w : World} {o : Oper} {a : Act} {ops : Array Oper} {rest : List Oper} {Q : Exit → Act → World → Prop}
/-- .. guarded or not, its order as it stands -/
theorem wpl_cutb_lh (hw : Region.wanted o (yielded ops a.tmps) = true) (x lo hi : Operand) (ho : o.op = .slice 54 x (some lo) (some hi) none) (v : Value) (len l n : Nat) (bs : List Bool) (hx : a.eval x = v) (hlo : a.eval lo = .int .i64 (l : Int)) (hhi : a.eval hi = .int .i64 ((l + n : Nat) : Int)) (hr : BS w v len bs) (hl : l + n ≤ len)
    (h : ∀ p c, BS w (.slice p n c) n ((bs.drop l).take n) → wpList Tryd.prog ops Q rest (a.put o.dst (.slice p n c)) w) : wpList Tryd.prog ops Q (o :: rest) a w := by
  obtain ⟨p, cap, rfl, hc, _, _⟩ := CS.form hr
  obtain ⟨q, c, e⟩ := sliced_form p l n cap 1
  have he := exec_cutb_lh (w := w) x lo hi ho p len cap l n hx hlo hhi (by omega)
  have hR := hr.cut l n cap hl (by omega) (Nat.le_refl _)
  rw [e] at he hR
  unfold wpList
  rw [if_pos hw]
  refine Or.inl ?_
  unfold Oper.wp
  rw [he]
  simp only [Oper.upon]
  exact h q c hR
end
theorem cov_iff (bs : List Bool) (a d : Nat) : cov bs a d = true ↔ ∀ i, i < d → bs.getD (a + i) false = true := by
  unfold cov
  rw [List.all_eq_true]
  exact ⟨fun h i hi => h i (List.mem_range.2 hi), fun h i hi => h i (List.mem_range.1 hi)⟩
theorem cov_cut (bs : List Bool) (l n : Nat) : cov ((bs.drop l).take n) 0 n = cov bs l n := by
  rw [Bool.eq_iff_iff, cov_iff, cov_iff]
  have h : ∀ i, i < n → ((bs.drop l).take n).getD (0 + i) false = bs.getD (l + i) false := fun i hi => by
    rw [Nat.zero_add]; simp [List.getD, hi, List.getElem?_drop]
  exact ⟨fun k i hi => by rw [← h i hi]; exact k i hi, fun k i hi => by rw [h i hi]; exact k i hi⟩
set_option maxRecDepth 8000 in
set_option maxHeartbeats 800000 in
theorem index_any (v : Value) (len : Nat) (bs : List Bool) (w : World) (h : BS w v len bs) :
    Calls Tryd.prog 81 #[v, .bool false] w fun e w' => ∃ k : Int, e = .returned (.int .i64 k) ∧ w' = w ∧ decide (0 ≤ k) = !cov bs 0 len := by
  have hle := CS.le h
  obtain ⟨a, cap, rfl, hcap, hcap2, _⟩ := CS.form h
  have HC : Hid (∀ i, i < len → ∃ b off, a = some ⟨b, off, none⟩ ∧ w.cell? ⟨b, off + i, none⟩ = some (.bool (bs.getD i false))) := fun i hi => h.at_ i hi
  clear h
  go_enter Tryd.func81, Tryd.ntmps81
  go_wp2
  go_loop [8] (fun iv => ∃ i : Nat, iv = .int .i64 i ∧ i ≤ len ∧ Hid (∀ j, j < i → bs.getD (0 + j) false = true)) (fun iv => len - (intOf iv).toNat)
  case atStart => exact ⟨0, rfl, by omega, fun j hj => absurd hj (by omega)⟩
  case round =>
    obtain ⟨i, rfl, hi, HE⟩ := hrel
    by_cases hlt : (i : Int) < (len : Int)
    · obtain ⟨b, off, rfl, hcell⟩ := HC.out i (by omega)
      have HB : Hid (∀ x, bs.getD i false = x → bs.getD (0 + i) false = x) := fun x hx => by rw [Nat.zero_add]; exact hx
      cases hx : bs.getD i false with
      | false =>
        rw [hx] at hcell
        have HS := Lib.hid (cov_short bs 0 len i (by omega) (HB.out _ hx))
        clear HB hx
        go_wp2
        go_ret
        exact ⟨_, rfl, rfl, by rw [HS.out]; simp⟩
      | true =>
        rw [hx] at hcell
        have HN : Hid (∀ j, j < i + 1 → bs.getD (0 + j) false = true) := fun j hj => by
          by_cases hji : j < i
          · exact HE.out j hji
          · obtain rfl : j = i := by omega
            exact HB.out _ hx
        clear HB hx
        go_wp2
        exact ⟨⟨i + 1, by simp, by omega, HN⟩, by simp [intOf]; omega⟩
    · obtain rfl : i = len := by omega
      go_wp2
      go_ret
      exact ⟨_, rfl, rfl, by rw [cov_all bs 0 i HE.out]; simp⟩
set_option maxRecDepth 8000 in
theorem contains_any (v : Value) (len : Nat) (bs : List Bool) (w : World) (h : BS w v len bs) :
    Calls Tryd.prog 74 #[v, .bool false] w fun e w' => e = .returned (.bool (!cov bs 0 len)) ∧ w' = w := by
  have HH := Lib.hid h
  clear h
  go_enter Tryd.func74, Tryd.ntmps74
  go_wp2_with (first
    | (go_at_call 81; (with_reducible refine (index_any _ _ _ _ HH.out).mono ?_); rintro e w' ⟨k, rfl, rfl, hk⟩; have HK := Lib.hid hk; clear hk))
  go_ret
  exact ⟨ret_bool HK.out, rfl⟩
end Go.Proofs.YthickhfbllddjaaDoor
/-
  LAYER 16 (plan), Covered: what the reference's and the program's answer. No condition.
-/
namespace Go.Proofs.YthickhfbllddjaaDoor
open Go.RowKit
/-- what Covered answers -/
def covAt (bs : List Bool) (from_ to : Int) : Bool := cov bs (touchN (nr from_) (nr to)).1 ((touchN (nr from_) (nr to)).2 - (touchN (nr from_) (nr to)).1)
theorem cov_long (bs : List Bool) (a b : Nat) (hab : a ≤ b) (h0 : a = b → a = 0) (hb : bs.length < b) : cov bs a (b - a) = false := by
  have hlt : a < b := by omega
  refine cov_short bs a (b - a) (b - a - 1) (by omega) ?_
  rw [show a + (b - a - 1) = b - 1 from by omega]
  simp [List.getD, List.getElem?_eq_none (show bs.length ≤ b - 1 from by omega)]
set_option maxRecDepth 8000 in
set_option maxHeartbeats 800000 in
theorem covered_any (v : Value) (len : Nat) (bs : List Bool) (f t : Int) (hf : I63 f) (ht : I63 t) (w : World) (h : BS w v len bs) :
    Calls Tryd.prog 64 #[v, .int .i64 f, .int .i64 t] w fun e w' => e = .returned (.bool (covAt bs f t)) ∧ Below w.heap.size w w' := by
  have hle := CS.le h
  have hbl := h.length
  obtain ⟨ad, cap, rfl, hcap, hcap2, _⟩ := CS.form h
  have HT : Hid (∀ w : World, Calls Tryd.prog 73 #[.int .i64 f, .int .i64 t] w fun e w' => e = .returned (.tuple #[.int .i64 ((touchN (nr f) (nr t)).1 : Int), .int .i64 ((touchN (nr f) (nr t)).2 : Int)]) ∧ Below w.heap.size w w') := fun w => touch_any f t hf ht w
  obtain ⟨hab, hb16, h0⟩ := touch_le (nr f) (nr t) (nr_le t)
  unfold covAt
  generalize (touchN (nr f) (nr t)).1 = a at *
  generalize (touchN (nr f) (nr t)).2 = b at *
  have HH := Lib.hid h
  have H0 := Lib.hid h0
  have HBL := Lib.hid hbl
  clear h h0 hbl hf ht
  by_cases hlt : (b : Int) ≤ (len : Int)
  · go_enter Tryd.func64, Tryd.ntmps64
    go_wp2_with (first
      | (go_at_call 73; (with_reducible refine (HT.out _).mono ?_); rintro e w1 ⟨rfl, hb⟩; have HB := Lib.hid hb; have HH1 := Lib.hid (HH.out.kin (Kin.below hb)); clear hb)
      | (refine wpl_cutb_lh (by rfl) _ _ _ rfl _ len a (b - a) bs rfl rfl (by rw [show a + (b - a) = b from by omega]; rfl) HH1.out (by omega) ?_; intro p c hc; have HC := Lib.hid hc; clear hc)
      | (go_at_call 74; (with_reducible refine (contains_any _ _ _ _ HC.out).mono ?_); rintro e w2 ⟨rfl, rfl⟩; rw [cov_cut]))
    go_ret
    exact ⟨ret_bool (by simp), HB.out⟩
  · have HN := Lib.hid (cov_long bs a b hab H0.out (by rw [HBL.out]; omega))
    go_enter Tryd.func64, Tryd.ntmps64
    go_wp2_with (first
      | (go_at_call 73; (with_reducible refine (HT.out _).mono ?_); rintro e w1 ⟨rfl, hb⟩; have HB := Lib.hid hb; clear hb))
    go_ret
    exact ⟨ret_bool (by rw [HN.out]), HB.out⟩
set_option maxRecDepth 8000 in
set_option maxHeartbeats 800000 in
theorem rcovered_any (v : Value) (len : Nat) (bs : List Bool) (f t : Int) (hf : I63 f) (ht : I63 t) (w : World) (h : BS w v len bs) :
    Calls Tryd.prog 38 #[v, .int .i64 f, .int .i64 t] w fun e w' => e = .returned (.bool (covAt bs f t)) ∧ w' = w := by
  have hle := CS.le h
  have hbl := h.length
  obtain ⟨ad, cap, rfl, hcap, hcap2, _⟩ := CS.form h
  have HC : Hid (∀ i, i < len → ∃ b off, ad = some ⟨b, off, none⟩ ∧ w.cell? ⟨b, off + i, none⟩ = some (.bool (bs.getD i false))) := fun i hi => h.at_ i hi
  have HT : Hid (∀ w : World, Calls Tryd.prog 42 #[.int .i64 f, .int .i64 t] w fun e w' => e = .returned (.tuple #[.int .i64 ((touchN (nr f) (nr t)).1 : Int), .int .i64 ((touchN (nr f) (nr t)).2 : Int)]) ∧ w' = w) := fun w => rtouch_any f t hf ht w
  obtain ⟨hab, hb16, h0⟩ := touch_le (nr f) (nr t) (nr_le t)
  unfold covAt
  generalize (touchN (nr f) (nr t)).1 = a at *
  generalize (touchN (nr f) (nr t)).2 = b at *
  have H0 := Lib.hid h0
  have HBL := Lib.hid hbl
  clear h h0 hbl hf ht
  go_enter Tryd.func38, Tryd.ntmps38
  go_wp2_with (first
    | (go_at_call 42; (with_reducible refine (HT.out _).mono ?_); rintro e w1 ⟨rfl, rfl⟩))
  go_loop [9] (fun iv => ∃ i : Nat, iv = .int .i64 ((a + i : Nat) : Int) ∧ i ≤ b - a ∧ Hid (∀ j, j < i → bs.getD (a + j) false = true)) (fun iv => b - (intOf iv).toNat)
  case atStart => exact ⟨0, rfl, by omega, fun j hj => absurd hj (by omega)⟩
  case round =>
    obtain ⟨i, rfl, hi, HE⟩ := hrel
    obtain ⟨q, hq⟩ : ∃ q, a + i = q := ⟨_, rfl⟩
    rw [hq]
    by_cases hlt : (q : Int) < (b : Int)
    · by_cases hln : (q : Int) ≥ (len : Int)
      · have HN := Lib.hid (cov_short bs a (b - a) i (by omega) (by rw [hq]; simp [List.getD, List.getElem?_eq_none (show bs.length ≤ q from by rw [HBL.out]; omega)]))
        go_wp2
        go_ret
        exact ⟨ret_bool (by rw [HN.out]), rfl⟩
      · obtain ⟨b1, off, rfl, hcell⟩ := HC.out q (by omega)
        cases hx : bs.getD q false with
        | false =>
          rw [hx] at hcell
          have HN := Lib.hid (cov_short bs a (b - a) i (by omega) (by rw [hq]; exact hx))
          clear hx
          go_wp2
          go_ret
          exact ⟨ret_bool (by rw [HN.out]), rfl⟩
        | true =>
          rw [hx] at hcell
          have HN : Hid (∀ j, j < i + 1 → bs.getD (a + j) false = true) := fun j hj => by
            by_cases hji : j < i
            · exact HE.out j hji
            · obtain rfl : j = i := by omega
              rw [hq]; exact hx
          have HQ := Lib.hid hq
          clear hx hq
          go_wp2
          exact ⟨⟨i + 1, by rw [← Nat.add_assoc, HQ.out]; simp, by have := HQ.out; omega, HN⟩, by simp [intOf]; omega⟩
    · obtain rfl : i = b - a := by omega
      have HN := Lib.hid (cov_all bs a (b - a) HE.out)
      go_wp2
      go_ret
      exact ⟨ret_bool (by rw [HN.out]), rfl⟩
end Go.Proofs.YthickhfbllddjaaDoor
