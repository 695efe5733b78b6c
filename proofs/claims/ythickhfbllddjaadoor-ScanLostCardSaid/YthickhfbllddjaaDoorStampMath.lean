/-
  PLAIN MATHEMATICS OF LAYER 6 (stamp): which bytes a stamped sector has. No condition.
-/
import Derived.Test.YthickhfbllddjaaDoorPutMath
namespace Go.Proofs.YthickhfbllddjaaDoor
/-- a sector's room, out of any bytes -/
def room (zs : List Int) : List Int := (zs ++ List.replicate 52 0).take 52
theorem room_length (zs : List Int) : (room zs).length = 52 := by simp [room]
theorem getD_replicate (n j : Nat) : (List.replicate n (0 : Int)).getD j 0 = 0 := by
  simp only [List.getD, List.getElem?_replicate]; split <;> rfl
theorem room_get (zs : List Int) (j : Nat) (h : j < 52) : (room zs).getD j 0 = zs.getD j 0 := by
  simp only [room, List.getD, List.getElem?_take, h, if_true, List.getElem?_append]
  split
  · rfl
  · rename_i h1
    rw [List.getElem?_eq_none (l := zs) (by omega)]
    simp only [List.getElem?_replicate]; split <;> rfl
/-- the sector that is sealed -/
def sealed (x i : Int) (zs : List Int) : List Int := putL x 8 ++ putL i 4 ++ room zs
theorem sealed_length (x i : Int) (zs : List Int) : (sealed x i zs).length = 64 := by simp [sealed, putL_length, room_length]
theorem getD_app_l (a b : List Int) (j : Nat) (h : j < a.length) : (a ++ b).getD j 0 = a.getD j 0 := by simp [List.getD, List.getElem?_append, h]
theorem getD_app_r (a b : List Int) (j : Nat) (h : a.length ≤ j) : (a ++ b).getD j 0 = b.getD (j - a.length) 0 := by simp [List.getD, List.getElem?_append, Nat.not_lt.2 h]
theorem sealed_get1 (x i : Int) (zs : List Int) (j : Nat) (h : j < 8) : (sealed x i zs).getD j 0 = (putL x 8).getD j 0 := by
  unfold sealed
  rw [getD_app_l _ _ _ (by simp [putL_length]; omega), getD_app_l _ _ _ (by simp [putL_length]; omega)]
theorem sealed_get2 (x i : Int) (zs : List Int) (j : Nat) (h : 8 ≤ j) (h2 : j < 12) : (sealed x i zs).getD j 0 = (putL i 4).getD (j - 8) 0 := by
  unfold sealed
  rw [getD_app_l _ _ _ (by simp [putL_length]; omega), getD_app_r _ _ _ (by simp [putL_length]; omega), putL_length]
theorem sealed_get3 (x i : Int) (zs : List Int) (j : Nat) (h : 12 ≤ j) (h2 : j < 64) : (sealed x i zs).getD j 0 = zs.getD (j - 12) 0 := by
  unfold sealed
  rw [getD_app_r _ _ _ (by simp [putL_length]; omega), List.length_append, putL_length, putL_length, room_get _ _ (by omega)]
theorem sealed_room (x i : Int) (zs : List Int) : (sealed x i zs).drop 12 = room zs := by
  unfold sealed
  rw [List.drop_left' (by simp [putL_length])]
theorem room_room (zs : List Int) : room (room zs) = room zs := by
  unfold room
  rw [List.take_append_of_le_length (by simp), List.take_take]; rfl
theorem sealed_again (x i : Int) (zs : List Int) : sealed x i (room zs) = sealed x i zs := by unfold sealed; rw [room_room]
theorem sealed_own (x i : Int) (zs : List Int) : sealed x i ((sealed x i zs).drop 12) = sealed x i zs := by rw [sealed_room, sealed_again]
/-- an index's bytes are those of the number without a sign -/
theorem putL_wrap (i : Int) : putL (i % 18446744073709551616) 4 = putL i 4 := by
  unfold putL
  refine List.map_congr_left fun j hj => ?_
  simp only [List.mem_range] at hj
  rcases (by omega : j = 0 ∨ j = 1 ∨ j = 2 ∨ j = 3) with rfl | rfl | rfl | rfl
  all_goals
    simp only [Nat.reduceMul, Int.reducePow]
    omega
/-- three pieces laid into an empty sector -/
theorem sealed_splice (x i : Int) (zs : List Int) : splice (splice (splice (List.replicate 64 0) 0 (putL x 8)) 8 (putL i 4)) 12 (zs.take (min zs.length 52)) = sealed x i zs := by
  have h1 : splice (List.replicate 64 0) 0 (putL x 8) = putL x 8 ++ List.replicate 56 0 := by
    simp only [splice, List.take_zero, List.nil_append, putL_length, List.drop_replicate]
  have h2 : splice (putL x 8 ++ List.replicate 56 0) 8 (putL i 4) = (putL x 8 ++ putL i 4) ++ List.replicate 52 0 := by
    simp only [splice, putL_length]
    rw [List.take_left' (putL_length x 8), List.drop_append, List.drop_eq_nil_of_le (by rw [putL_length]; omega), putL_length, List.nil_append, List.drop_replicate, List.append_assoc]
  have h3 : (zs.take (min zs.length 52)).length = min zs.length 52 := by simp
  rw [h1, h2]
  unfold sealed room
  simp only [splice, h3]
  rw [List.take_left' (by simp [putL_length]), List.drop_append, List.drop_eq_nil_of_le (by simp [putL_length]), List.nil_append]
  congr 1
  rw [List.drop_replicate, List.take_append, List.take_replicate]
  congr 1
  · rw [List.take_eq_take_iff]; omega
  · congr 1; simp [putL_length]; omega
/-- bytes tell the number that they are of -/
theorem putL_eq (a b : Int) (k : Nat) : putL a k = putL b k ↔ a % 2 ^ (8 * k) = b % 2 ^ (8 * k) := by
  constructor
  · intro h
    rw [← getI_put a k k (Nat.le_refl _), ← getI_put b k k (Nat.le_refl _), h]
  · intro h
    unfold putL
    refine List.map_congr_left fun j hj => ?_
    simp only [List.mem_range] at hj
    have key : ∀ n : Int, n / 2 ^ (8 * j) % 256 = n % 2 ^ (8 * k) / 2 ^ (8 * j) % 256 := fun n => by
      have hp := pow_pos' (8 * j)
      have hs : (2 : Int) ^ (8 * k) = 2 ^ (8 * j) * (256 * 2 ^ (8 * (k - j - 1))) := by
        rw [show (256 : Int) = 2 ^ 8 from rfl, ← Int.pow_add, ← Int.pow_add]; congr 1; omega
      have h1 := Int.emod_add_mul_ediv n (2 ^ (8 * k))
      generalize n / 2 ^ (8 * k) = q at h1
      generalize n % 2 ^ (8 * k) = r at h1
      rw [← h1, hs, Int.mul_assoc, Int.add_mul_ediv_left _ _ (by omega), Int.mul_assoc, Int.add_mul_emod_self_left]
    rw [key a, key b, h]
theorem sealed_eq (x y i j : Int) (hx : U64 x) (hy : U64 y) (zs : List Int) : sealed y j ((sealed x i zs).drop 12) = sealed x i zs ↔ x = y ∧ i % 4294967296 = j % 4294967296 := by
  rw [sealed_room, sealed_again]
  unfold sealed
  unfold U64 at hx hy
  rw [List.append_left_inj]
  constructor
  · intro h
    obtain ⟨h1, h2⟩ := List.append_inj h (by simp [putL_length])
    have h3 := (putL_eq y x 8).1 h1
    have h4 := (putL_eq j i 4).1 h2
    simp only [Nat.reduceMul, Int.reducePow] at h3 h4
    omega
  · rintro ⟨rfl, h⟩
    rw [(putL_eq j i 4).2 (by simp only [Nat.reduceMul, Int.reducePow]; omega)]
/-- a sector is sealed by what it tells -/
theorem sealed_read (l : List Int) (hl : l.length = 64) (hb : Bytes l) : sealed (getI (l.take 8) 8) (getI ((l.drop 8).take 4) 4) (l.drop 12) = l := by
  unfold sealed
  rw [putL_getI _ (bytes_take hb 8) 8 (by simp [hl]), putL_getI _ (bytes_take (bytes_drop hb 8) 4) 4 (by simp [hl])]
  have h1 : room (l.drop 12) = l.drop 12 := by
    unfold room; rw [List.take_append_of_le_length (by simp [hl]), List.take_of_length_le (by simp [hl])]
  rw [h1, show l.drop 12 = (l.drop 8).drop 4 from by rw [List.drop_drop], List.append_assoc, List.take_append_drop, List.take_append_drop]
/-- bytes, filled up to whole sectors -/
def padn (zs : List Int) : List Int := zs ++ List.replicate ((zs.length + 63) / 64 * 64 - zs.length) 0
theorem padn_length (zs : List Int) : (padn zs).length = (zs.length + 63) / 64 * 64 := by simp [padn]; omega
theorem padn_nil : padn [] = [] := rfl
theorem padn_whole (zs : List Int) (n : Nat) (h : zs.length = n * 64) : padn zs = zs := by
  unfold padn; rw [show (zs.length + 63) / 64 * 64 - zs.length = 0 from by omega]; simp
theorem padn_take (zs : List Int) : (padn zs).take zs.length = zs := by simp [padn]
/-- one byte more goes where a zero stood -/
theorem padn_step (zs : List Int) (i : Nat) (h : i < zs.length) : (zs.take i ++ List.replicate ((i / 64 + 1) * 64 - i) 0).set i (zs.getD i 0) = padn (zs.take (i + 1)) := by
  have hl : (zs.take i).length = i := by simp; omega
  have hl2 : (zs.take (i + 1)).length = i + 1 := by simp; omega
  unfold padn
  rw [hl2, show (i + 1 + 63) / 64 * 64 - (i + 1) = (i / 64 + 1) * 64 - i - 1 from by omega]
  obtain ⟨m, hm⟩ : ∃ m, (i / 64 + 1) * 64 - i = m + 1 := ⟨(i / 64 + 1) * 64 - i - 1, by omega⟩
  rw [hm, Nat.add_sub_cancel, List.replicate_succ, List.set_append_right _ _ (by omega), hl, Nat.sub_self, List.set_cons_zero]
  have e : zs.take (i + 1) = zs.take i ++ [zs.getD i 0] := by
    rw [List.take_add_one, List.getD, List.getElem?_eq_getElem h]; rfl
  rw [e, List.append_assoc]; rfl
theorem padn_same (zs : List Int) (i : Nat) (h : i ≤ zs.length) (h0 : i % 64 ≠ 0) : padn (zs.take i) = zs.take i ++ List.replicate ((i / 64 + 1) * 64 - i) 0 := by
  have hl : (zs.take i).length = i := by simp; omega
  unfold padn
  rw [hl, show (i + 63) / 64 * 64 - i = (i / 64 + 1) * 64 - i from by omega]
theorem padn_more (zs : List Int) (i : Nat) (h : i ≤ zs.length) (h0 : i % 64 = 0) : padn (zs.take i) ++ List.replicate 64 0 = zs.take i ++ List.replicate ((i / 64 + 1) * 64 - i) 0 := by
  have hl : (zs.take i).length = i := by simp; omega
  rw [padn_whole _ (i / 64) (by omega), show (i / 64 + 1) * 64 - i = 64 from by omega]
/-- so many bytes, of which the first m are laid -/
def laidN (zs : List Int) (n m : Nat) : List Int := (List.range n).map fun j => if j < m then zs.getD j 0 else 0
theorem laidN_length (zs : List Int) (n m : Nat) : (laidN zs n m).length = n := by simp [laidN]
theorem laidN_zero (zs : List Int) (n : Nat) : laidN zs n 0 = List.replicate n 0 := by
  refine List.ext_getElem (by simp [laidN]) fun j h1 h2 => ?_
  rw [List.getElem_replicate]; simp [laidN]
theorem laidN_full (zs : List Int) (t : Nat) (h : zs.length = t) : laidN zs t t = zs := by
  refine List.ext_getElem (by rw [laidN_length, h]) fun j h1 h2 => ?_
  have h3 : j < t := by omega
  simp [laidN, h3, List.getD, h2]
theorem sealed_bytes (x i : Int) (zs : List Int) (h : Bytes zs) : Bytes (sealed x i zs) := by
  refine bytes_of_mem fun z hz => ?_
  simp only [sealed, room, List.mem_append] at hz
  rcases hz with (hz | hz) | hz
  · exact (putL_bytes x 8).mem z hz
  · exact (putL_bytes i 4).mem z hz
  · have := List.mem_of_mem_take hz
    rcases List.mem_append.1 this with h1 | h1
    · exact h.mem z h1
    · have := List.eq_of_mem_replicate h1; omega
theorem laidN_all (zs : List Int) (k : Nat) (hk : (zs.length + 63) / 64 = k) : laidN zs (k * 64) (k * 64) = padn zs := by
  refine List.ext_getElem (by rw [laidN_length, padn_length, hk]) fun j h1 h2 => ?_
  rw [laidN_length] at h1
  simp only [laidN, List.getElem_map, List.getElem_range, if_pos h1, padn, List.getElem_append, List.getElem_replicate]
  split
  · rename_i h; simp [List.getD, h]
  · rename_i h; simp [List.getD, List.getElem?_eq_none (l := zs) (i := j) (by omega)]
theorem laidN_splice (zs : List Int) (n m : Nat) (hm : m + 64 ≤ n) (hl : m < zs.length) : splice (laidN zs n m) m ((zs.drop m).take (min (zs.length - m) 64)) = laidN zs n (m + 64) := by
  have hc : ((zs.drop m).take (min (zs.length - m) 64)).length = min (zs.length - m) 64 := by rw [List.length_take, List.length_drop]; omega
  refine List.ext_getElem (by rw [length_splice _ _ _ (by rw [hc, laidN_length]; omega), laidN_length, laidN_length]) fun j h1 h2 => ?_
  rw [laidN_length] at h2
  have hg : ∀ (l : List Int) (h : j < l.length), l[j] = l.getD j 0 := fun l h => by simp [List.getD, h]
  rw [hg, hg]
  have hlen := laidN_length zs n m
  have hL : ∀ q, (laidN zs n q).getD j 0 = if j < q then zs.getD j 0 else 0 := fun q => by
    simp [laidN, List.getD, h2]
  rw [hL]
  unfold splice
  by_cases h3 : j < m
  · have e : ((laidN zs n m).take m ++ ((zs.drop m).take (min (zs.length - m) 64) ++ (laidN zs n m).drop (m + ((zs.drop m).take (min (zs.length - m) 64)).length))).getD j 0 = (laidN zs n m).getD j 0 := by
      simp only [List.getD, List.getElem?_append, List.length_take, hlen, show j < min m n from by omega, if_true, List.getElem?_take, h3]
    rw [e, hL, if_pos h3, if_pos (by omega)]
  · by_cases h4 : j < m + min (zs.length - m) 64
    · have e : ((laidN zs n m).take m ++ ((zs.drop m).take (min (zs.length - m) 64) ++ (laidN zs n m).drop (m + ((zs.drop m).take (min (zs.length - m) 64)).length))).getD j 0 = zs.getD j 0 := by
        simp only [List.getD]
        rw [List.getElem?_append_right (by simp [hlen]; omega), List.getElem?_append_left (by rw [hc]; simp [hlen]; omega), List.getElem?_take, if_pos (by simp [hlen]; omega), List.getElem?_drop]
        congr 2
        simp [hlen]; omega
      rw [e, if_pos (by omega)]
    · have e : ((laidN zs n m).take m ++ ((zs.drop m).take (min (zs.length - m) 64) ++ (laidN zs n m).drop (m + ((zs.drop m).take (min (zs.length - m) 64)).length))).getD j 0 = (laidN zs n m).getD j 0 := by
        simp only [List.getD]
        rw [List.getElem?_append_right (by simp [hlen]; omega), List.getElem?_append_right (by rw [hc]; simp [hlen]; omega), List.getElem?_drop, hc]
        congr 2
        simp [hlen]; omega
      rw [e, hL, if_neg h3]
      split
      · simp [List.getD, List.getElem?_eq_none (l := zs) (i := j) (by omega)]
      · rfl
/-- the part of a sector that is laid -/
def part (l : List Int) (k : Nat) : List Int := (List.range 64).map fun j => if j < k then l.getD j 0 else 0
theorem part_length (l : List Int) (k : Nat) : (part l k).length = 64 := by simp [part]
theorem part_zero (l : List Int) : part l 0 = List.replicate 64 0 := by
  refine List.ext_getElem (by simp [part]) fun j h1 h2 => ?_
  rw [List.getElem_replicate]
  simp [part]
theorem part_all (l : List Int) (hl : l.length = 64) : part l 64 = l := by
  refine List.ext_getElem (by simp [part, hl]) fun j h1 h2 => ?_
  simp [part, List.getD, h2]; omega
theorem part_set (l : List Int) (k : Nat) : (part l k).set k (l.getD k 0) = part l (k + 1) := by
  refine List.ext_getElem (by simp [part]) fun j h1 h2 => ?_
  simp only [part, List.getElem_set, List.getElem_map, List.getElem_range]
  by_cases h : k = j
  · subst h; simp
  · rw [if_neg h]
    by_cases h3 : j < k
    · rw [if_pos h3, if_pos (by omega)]
    · rw [if_neg h3, if_neg (by omega)]
end Go.Proofs.YthickhfbllddjaaDoor
