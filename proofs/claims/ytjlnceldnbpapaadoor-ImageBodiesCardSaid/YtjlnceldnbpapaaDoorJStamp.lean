/-
  TEXTS JOINED: StampMath, StampRef, StampSeal. Each one's own words stand at its head.
-/
import Derived.Test.YtjlnceldnbpapaaDoorPutMath
import Derived.Test.YtjlnceldnbpapaaDoorPut
import Derived.Test.YtjlnceldnbpapaaDoorSecs
import Derived.Test.YtjlnceldnbpapaaDoorRegion
import Derived.Lib.SliceRun
import Derived.Test.YtjlnceldnbpapaaDoorSlices
/-
  PLAIN MATHEMATICS OF LAYER 6 (stamp): which bytes a stamped sector has. No condition.
-/
namespace Go.Proofs.YtjlnceldnbpapaaDoor
/-- a sector's room, out of any bytes -/
def room (zs : List Int) : List Int := (zs ++ List.replicate 52 0).take 52
theorem room_length (zs : List Int) : (room zs).length = 52 := by simp [room]
theorem getD_replicate (n j : Nat) : (List.replicate n (0 : Int)).getD j 0 = 0 := by
  simp only [List.getD, List.getElem?_replicate]; split <;> rfl
theorem room_get (zs : List Int) (j : Nat) (h : j < 52) : (room zs).getD j 0 = zs.getD j 0 := by
  simp only [room, List.getD, List.getElem?_take, h, if_true, List.getElem?_append]
  split
  · rfl
  · rename_i h1
    rw [List.getElem?_eq_none (l := zs) (by omega)]
    simp only [List.getElem?_replicate]; split <;> rfl
/-- the sector that is sealed -/
def sealed (x i : Int) (zs : List Int) : List Int := putL x 8 ++ putL i 4 ++ room zs
theorem sealed_length (x i : Int) (zs : List Int) : (sealed x i zs).length = 64 := by simp [sealed, putL_length, room_length]
theorem getD_app_l (a b : List Int) (j : Nat) (h : j < a.length) : (a ++ b).getD j 0 = a.getD j 0 := by simp [List.getD, List.getElem?_append, h]
theorem getD_app_r (a b : List Int) (j : Nat) (h : a.length ≤ j) : (a ++ b).getD j 0 = b.getD (j - a.length) 0 := by simp [List.getD, List.getElem?_append, Nat.not_lt.2 h]
theorem sealed_get1 (x i : Int) (zs : List Int) (j : Nat) (h : j < 8) : (sealed x i zs).getD j 0 = (putL x 8).getD j 0 := by
  unfold sealed
  rw [getD_app_l _ _ _ (by simp [putL_length]; omega), getD_app_l _ _ _ (by simp [putL_length]; omega)]
theorem sealed_get2 (x i : Int) (zs : List Int) (j : Nat) (h : 8 ≤ j) (h2 : j < 12) : (sealed x i zs).getD j 0 = (putL i 4).getD (j - 8) 0 := by
  unfold sealed
  rw [getD_app_l _ _ _ (by simp [putL_length]; omega), getD_app_r _ _ _ (by simp [putL_length]; omega), putL_length]
theorem sealed_get3 (x i : Int) (zs : List Int) (j : Nat) (h : 12 ≤ j) (h2 : j < 64) : (sealed x i zs).getD j 0 = zs.getD (j - 12) 0 := by
  unfold sealed
  rw [getD_app_r _ _ _ (by simp [putL_length]; omega), List.length_append, putL_length, putL_length, room_get _ _ (by omega)]
theorem sealed_room (x i : Int) (zs : List Int) : (sealed x i zs).drop 12 = room zs := by
  unfold sealed
  rw [List.drop_left' (by simp [putL_length])]
theorem room_room (zs : List Int) : room (room zs) = room zs := by
  unfold room
  rw [List.take_append_of_le_length (by simp), List.take_take]; rfl
theorem sealed_again (x i : Int) (zs : List Int) : sealed x i (room zs) = sealed x i zs := by unfold sealed; rw [room_room]
theorem sealed_own (x i : Int) (zs : List Int) : sealed x i ((sealed x i zs).drop 12) = sealed x i zs := by rw [sealed_room, sealed_again]
/-- an index's bytes are those of the number without a sign -/
theorem putL_wrap (i : Int) : putL (i % 18446744073709551616) 4 = putL i 4 := by
  unfold putL
  refine List.map_congr_left fun j hj => ?_
  simp only [List.mem_range] at hj
  rcases (by omega : j = 0 ∨ j = 1 ∨ j = 2 ∨ j = 3) with rfl | rfl | rfl | rfl
  all_goals
    simp only [Nat.reduceMul, Int.reducePow]
    omega
/-- three pieces laid into an empty sector -/
theorem sealed_splice (x i : Int) (zs : List Int) : splice (splice (splice (List.replicate 64 0) 0 (putL x 8)) 8 (putL i 4)) 12 (zs.take (min zs.length 52)) = sealed x i zs := by
  have h1 : splice (List.replicate 64 0) 0 (putL x 8) = putL x 8 ++ List.replicate 56 0 := by
    simp only [splice, List.take_zero, List.nil_append, putL_length, List.drop_replicate]
  have h2 : splice (putL x 8 ++ List.replicate 56 0) 8 (putL i 4) = (putL x 8 ++ putL i 4) ++ List.replicate 52 0 := by
    simp only [splice, putL_length]
    rw [List.take_left' (putL_length x 8), List.drop_append, List.drop_eq_nil_of_le (by rw [putL_length]; omega), putL_length, List.nil_append, List.drop_replicate, List.append_assoc]
  have h3 : (zs.take (min zs.length 52)).length = min zs.length 52 := by simp
  rw [h1, h2]
  unfold sealed room
  simp only [splice, h3]
  rw [List.take_left' (by simp [putL_length]), List.drop_append, List.drop_eq_nil_of_le (by simp [putL_length]), List.nil_append]
  congr 1
  rw [List.drop_replicate, List.take_append, List.take_replicate]
  congr 1
  · rw [List.take_eq_take_iff]; omega
  · congr 1; simp [putL_length]; omega
/-- bytes tell the number that they are of -/
theorem putL_eq (a b : Int) (k : Nat) : putL a k = putL b k ↔ a % 2 ^ (8 * k) = b % 2 ^ (8 * k) := by
  constructor
  · intro h
    rw [← getI_put a k k (Nat.le_refl _), ← getI_put b k k (Nat.le_refl _), h]
  · intro h
    unfold putL
    refine List.map_congr_left fun j hj => ?_
    simp only [List.mem_range] at hj
    have key : ∀ n : Int, n / 2 ^ (8 * j) % 256 = n % 2 ^ (8 * k) / 2 ^ (8 * j) % 256 := fun n => by
      have hp := pow_pos' (8 * j)
      have hs : (2 : Int) ^ (8 * k) = 2 ^ (8 * j) * (256 * 2 ^ (8 * (k - j - 1))) := by
        rw [show (256 : Int) = 2 ^ 8 from rfl, ← Int.pow_add, ← Int.pow_add]; congr 1; omega
      have h1 := Int.emod_add_mul_ediv n (2 ^ (8 * k))
      generalize n / 2 ^ (8 * k) = q at h1
      generalize n % 2 ^ (8 * k) = r at h1
      rw [← h1, hs, Int.mul_assoc, Int.add_mul_ediv_left _ _ (by omega), Int.mul_assoc, Int.add_mul_emod_self_left]
    rw [key a, key b, h]
theorem sealed_eq (x y i j : Int) (hx : U64 x) (hy : U64 y) (zs : List Int) : sealed y j ((sealed x i zs).drop 12) = sealed x i zs ↔ x = y ∧ i % 4294967296 = j % 4294967296 := by
  rw [sealed_room, sealed_again]
  unfold sealed
  unfold U64 at hx hy
  rw [List.append_left_inj]
  constructor
  · intro h
    obtain ⟨h1, h2⟩ := List.append_inj h (by simp [putL_length])
    have h3 := (putL_eq y x 8).1 h1
    have h4 := (putL_eq j i 4).1 h2
    simp only [Nat.reduceMul, Int.reducePow] at h3 h4
    omega
  · rintro ⟨rfl, h⟩
    rw [(putL_eq j i 4).2 (by simp only [Nat.reduceMul, Int.reducePow]; omega)]
/-- a sector is sealed by what it tells -/
theorem sealed_read (l : List Int) (hl : l.length = 64) (hb : Bytes l) : sealed (getI (l.take 8) 8) (getI ((l.drop 8).take 4) 4) (l.drop 12) = l := by
  unfold sealed
  rw [putL_getI _ (bytes_take hb 8) 8 (by simp [hl]), putL_getI _ (bytes_take (bytes_drop hb 8) 4) 4 (by simp [hl])]
  have h1 : room (l.drop 12) = l.drop 12 := by
    unfold room; rw [List.take_append_of_le_length (by simp [hl]), List.take_of_length_le (by simp [hl])]
  rw [h1, show l.drop 12 = (l.drop 8).drop 4 from by rw [List.drop_drop], List.append_assoc, List.take_append_drop, List.take_append_drop]
/-- bytes, filled up to whole sectors -/
def padn (zs : List Int) : List Int := zs ++ List.replicate ((zs.length + 63) / 64 * 64 - zs.length) 0
theorem padn_length (zs : List Int) : (padn zs).length = (zs.length + 63) / 64 * 64 := by simp [padn]; omega
theorem padn_nil : padn [] = [] := rfl
theorem padn_whole (zs : List Int) (n : Nat) (h : zs.length = n * 64) : padn zs = zs := by
  unfold padn; rw [show (zs.length + 63) / 64 * 64 - zs.length = 0 from by omega]; simp
theorem padn_take (zs : List Int) : (padn zs).take zs.length = zs := by simp [padn]
/-- one byte more goes where a zero stood -/
theorem padn_step (zs : List Int) (i : Nat) (h : i < zs.length) : (zs.take i ++ List.replicate ((i / 64 + 1) * 64 - i) 0).set i (zs.getD i 0) = padn (zs.take (i + 1)) := by
  have hl : (zs.take i).length = i := by simp; omega
  have hl2 : (zs.take (i + 1)).length = i + 1 := by simp; omega
  unfold padn
  rw [hl2, show (i + 1 + 63) / 64 * 64 - (i + 1) = (i / 64 + 1) * 64 - i - 1 from by omega]
  obtain ⟨m, hm⟩ : ∃ m, (i / 64 + 1) * 64 - i = m + 1 := ⟨(i / 64 + 1) * 64 - i - 1, by omega⟩
  rw [hm, Nat.add_sub_cancel, List.replicate_succ, List.set_append_right _ _ (by omega), hl, Nat.sub_self, List.set_cons_zero]
  have e : zs.take (i + 1) = zs.take i ++ [zs.getD i 0] := by
    rw [List.take_add_one, List.getD, List.getElem?_eq_getElem h]; rfl
  rw [e, List.append_assoc]; rfl
theorem padn_same (zs : List Int) (i : Nat) (h : i ≤ zs.length) (h0 : i % 64 ≠ 0) : padn (zs.take i) = zs.take i ++ List.replicate ((i / 64 + 1) * 64 - i) 0 := by
  have hl : (zs.take i).length = i := by simp; omega
  unfold padn
  rw [hl, show (i + 63) / 64 * 64 - i = (i / 64 + 1) * 64 - i from by omega]
theorem padn_more (zs : List Int) (i : Nat) (h : i ≤ zs.length) (h0 : i % 64 = 0) : padn (zs.take i) ++ List.replicate 64 0 = zs.take i ++ List.replicate ((i / 64 + 1) * 64 - i) 0 := by
  have hl : (zs.take i).length = i := by simp; omega
  rw [padn_whole _ (i / 64) (by omega), show (i / 64 + 1) * 64 - i = 64 from by omega]
/-- so many bytes, of which the first m are laid -/
def laidN (zs : List Int) (n m : Nat) : List Int := (List.range n).map fun j => if j < m then zs.getD j 0 else 0
theorem laidN_length (zs : List Int) (n m : Nat) : (laidN zs n m).length = n := by simp [laidN]
theorem laidN_zero (zs : List Int) (n : Nat) : laidN zs n 0 = List.replicate n 0 := by
  refine List.ext_getElem (by simp [laidN]) fun j h1 h2 => ?_
  rw [List.getElem_replicate]; simp [laidN]
theorem laidN_full (zs : List Int) (t : Nat) (h : zs.length = t) : laidN zs t t = zs := by
  refine List.ext_getElem (by rw [laidN_length, h]) fun j h1 h2 => ?_
  have h3 : j < t := by omega
  simp [laidN, h3, List.getD, h2]
theorem sealed_bytes (x i : Int) (zs : List Int) (h : Bytes zs) : Bytes (sealed x i zs) := by
  refine bytes_of_mem fun z hz => ?_
  simp only [sealed, room, List.mem_append] at hz
  rcases hz with (hz | hz) | hz
  · exact (putL_bytes x 8).mem z hz
  · exact (putL_bytes i 4).mem z hz
  · have := List.mem_of_mem_take hz
    rcases List.mem_append.1 this with h1 | h1
    · exact h.mem z h1
    · have := List.eq_of_mem_replicate h1; omega
theorem laidN_all (zs : List Int) (k : Nat) (hk : (zs.length + 63) / 64 = k) : laidN zs (k * 64) (k * 64) = padn zs := by
  refine List.ext_getElem (by rw [laidN_length, padn_length, hk]) fun j h1 h2 => ?_
  rw [laidN_length] at h1
  simp only [laidN, List.getElem_map, List.getElem_range, if_pos h1, padn, List.getElem_append, List.getElem_replicate]
  split
  · rename_i h; simp [List.getD, h]
  · rename_i h; simp [List.getD, List.getElem?_eq_none (l := zs) (i := j) (by omega)]
theorem laidN_splice (zs : List Int) (n m : Nat) (hm : m + 64 ≤ n) (hl : m < zs.length) : splice (laidN zs n m) m ((zs.drop m).take (min (zs.length - m) 64)) = laidN zs n (m + 64) := by
  have hc : ((zs.drop m).take (min (zs.length - m) 64)).length = min (zs.length - m) 64 := by rw [List.length_take, List.length_drop]; omega
  refine List.ext_getElem (by rw [length_splice _ _ _ (by rw [hc, laidN_length]; omega), laidN_length, laidN_length]) fun j h1 h2 => ?_
  rw [laidN_length] at h2
  have hg : ∀ (l : List Int) (h : j < l.length), l[j] = l.getD j 0 := fun l h => by simp [List.getD, h]
  rw [hg, hg]
  have hlen := laidN_length zs n m
  have hL : ∀ q, (laidN zs n q).getD j 0 = if j < q then zs.getD j 0 else 0 := fun q => by
    simp [laidN, List.getD, h2]
  rw [hL]
  unfold splice
  by_cases h3 : j < m
  · have e : ((laidN zs n m).take m ++ ((zs.drop m).take (min (zs.length - m) 64) ++ (laidN zs n m).drop (m + ((zs.drop m).take (min (zs.length - m) 64)).length))).getD j 0 = (laidN zs n m).getD j 0 := by
      simp only [List.getD, List.getElem?_append, List.length_take, hlen, show j < min m n from by omega, if_true, List.getElem?_take, h3]
    rw [e, hL, if_pos h3, if_pos (by omega)]
  · by_cases h4 : j < m + min (zs.length - m) 64
    · have e : ((laidN zs n m).take m ++ ((zs.drop m).take (min (zs.length - m) 64) ++ (laidN zs n m).drop (m + ((zs.drop m).take (min (zs.length - m) 64)).length))).getD j 0 = zs.getD j 0 := by
        simp only [List.getD]
        rw [List.getElem?_append_right (by simp [hlen]; omega), List.getElem?_append_left (by rw [hc]; simp [hlen]; omega), List.getElem?_take, if_pos (by simp [hlen]; omega), List.getElem?_drop]
        congr 2
        simp [hlen]; omega
      rw [e, if_pos (by omega)]
    · have e : ((laidN zs n m).take m ++ ((zs.drop m).take (min (zs.length - m) 64) ++ (laidN zs n m).drop (m + ((zs.drop m).take (min (zs.length - m) 64)).length))).getD j 0 = (laidN zs n m).getD j 0 := by
        simp only [List.getD]
        rw [List.getElem?_append_right (by simp [hlen]; omega), List.getElem?_append_right (by rw [hc]; simp [hlen]; omega), List.getElem?_drop, hc]
        congr 2
        simp [hlen]; omega
      rw [e, hL, if_neg h3]
      split
      · simp [List.getD, List.getElem?_eq_none (l := zs) (i := j) (by omega)]
      · rfl
/-- the part of a sector that is laid -/
def part (l : List Int) (k : Nat) : List Int := (List.range 64).map fun j => if j < k then l.getD j 0 else 0
theorem part_length (l : List Int) (k : Nat) : (part l k).length = 64 := by simp [part]
theorem part_zero (l : List Int) : part l 0 = List.replicate 64 0 := by
  refine List.ext_getElem (by simp [part]) fun j h1 h2 => ?_
  rw [List.getElem_replicate]
  simp [part]
theorem part_all (l : List Int) (hl : l.length = 64) : part l 64 = l := by
  refine List.ext_getElem (by simp [part, hl]) fun j h1 h2 => ?_
  simp [part, List.getD, h2]; omega
theorem part_set (l : List Int) (k : Nat) : (part l k).set k (l.getD k 0) = part l (k + 1) := by
  refine List.ext_getElem (by simp [part]) fun j h1 h2 => ?_
  simp only [part, List.getElem_set, List.getElem_map, List.getElem_range]
  by_cases h : k = j
  · subst h; simp
  · rw [if_neg h]
    by_cases h3 : j < k
    · rw [if_pos h3, if_pos (by omega)]
    · rw [if_neg h3, if_neg (by omega)]
end Go.Proofs.YtjlnceldnbpapaaDoor
/-
  WHAT THE DOCUMENT'S ANSWERS OF LAYER 6 (stamp) ANSWER: the reference's Byte, Seal, Room, Open, Secs, Same. Bytes must lie where the slices say; sizes as the theorems say.
-/
namespace Go.Proofs.YtjlnceldnbpapaaDoor
open Go.RowKit
/-- the reference's Put, as a slice of bytes -/
theorem rput_ri (x : Int) (hx : U64 x) (n : Nat) (hn : n ≤ 8) (w : World) :
    Calls Tryd.prog 35 #[.int .u64 x, .int .i64 n] w fun e w' => ∃ v, e = .returned v ∧ RI .u8 w' v n (putL x n) ∧ Below w.heap.size w w' :=
  (rput_any x n n hx (by unfold I63; omega) (by unfold clampI; omega) w).mono fun _ _ ⟨v, he, ho, hb⟩ => ⟨v, he, RI.own ho, hb⟩
theorem u64_wrap (i : Int) : IntKind.u64.wrap i = i % 18446744073709551616 := by
  simp [IntKind.wrap, IntKind.signed, IntKind.bits]
set_option maxRecDepth 8000 in
set_option maxHeartbeats 400000 in
theorem byte_any (x i : Int) (hx : U64 x) (hi : I63 i) (v : Value) (len : Nat) (zs : List Int) (w : World) (hri : RI .u8 w v len zs) (j : Nat) (hj : j < 64) (z : Int) (hz : (sealed x i zs).getD j 0 = z) :
    Calls Tryd.prog 60 #[.int .u64 x, .int .i64 i, v, .int .i64 j] w fun e w' => e = .returned (.int .u8 z) ∧ Below w.heap.size w w' := by
  have HR := Lib.hid hri
  have hlr := hri.le
  have hzl := hri.length
  obtain ⟨a, cap, rfl, _⟩ := hri
  have hi' : -9223372036854775808 ≤ i ∧ i ≤ 9223372036854775807 := hi
  by_cases h8 : j < 8
  · have HG := Lib.hid (hz.symm.trans (sealed_get1 x i zs j h8))
    have h8' : (j : Int) < 8 := by omega
    clear hz
    go_enter Tryd.func60, Tryd.ntmps60
    go_wp2_with (first
      | (go_at_call 35; (refine (rput_ri x hx 8 (by omega) _).mono ?_); rintro e w1 ⟨v1, rfl, hr, hb⟩; obtain ⟨b, off, cp, rfl, hcp, hcp2, hcell⟩ := hr.open_ (by omega); have hc1 := hcell j (by omega); rw [← HG.out] at hc1; have HB := Lib.hid hb; clear hb hr hcell))
    go_ret
    exact ⟨rfl, HB.out⟩
  by_cases h12 : j < 12
  · have HG := Lib.hid (hz.symm.trans (sealed_get2 x i zs j (by omega) h12))
    have h8' : ¬ (j : Int) < 8 := by omega
    have h12' : (j : Int) < 12 := by omega
    have hjj : (j : Int) - 8 = ((j - 8 : Nat) : Int) := by omega
    have hj4 : ((j - 8 : Nat) : Int) < 4 := by omega
    obtain ⟨y, hy⟩ : ∃ y, IntKind.u64.wrap i = y := ⟨_, rfl⟩
    have hyu : U64 y := by rw [u64_wrap] at hy; unfold U64; omega
    have HY := Lib.hid (show putL y 4 = putL i 4 from by rw [← hy, u64_wrap]; exact putL_wrap i)
    clear hz
    go_enter Tryd.func60, Tryd.ntmps60
    go_wp2_with (first
      | (go_at_call 35; go_loud (refine (rput_ri y hyu 4 (by omega) _).mono ?_); rintro e w1 ⟨v1, rfl, hr, hb⟩; obtain ⟨b, off, cp, rfl, hcp, hcp2, hcell⟩ := hr.open_ (by omega); have hc1 := hcell (j - 8) (by omega); rw [HY.out, ← HG.out] at hc1; have HB := Lib.hid hb; clear hb hr hcell))
    go_ret
    exact ⟨rfl, HB.out⟩
  · have HG := Lib.hid (hz.symm.trans (sealed_get3 x i zs j (by omega) hj))
    have h8' : ¬ (j : Int) < 8 := by omega
    have h12' : ¬ (j : Int) < 12 := by omega
    have hjj : (j : Int) - 12 = ((j - 12 : Nat) : Int) := by omega
    by_cases hlt : j - 12 < len
    · obtain ⟨b, off, cp, e, hcp, hcp2, hcell⟩ := HR.out.open_ (by omega)
      simp only [Value.slice.injEq, true_and] at e
      obtain ⟨rfl, rfl⟩ := e
      have hc1 := hcell (j - 12) hlt
      rw [← HG.out] at hc1
      have hlt' : ((j - 12 : Nat) : Int) < (len : Int) := by omega
      clear hcell hz
      go_enter Tryd.func60, Tryd.ntmps60
      go_wp2_with fail
      go_ret
      exact ⟨rfl, Below.refl _ _⟩
    · have HZ := Lib.hid (show zs.getD (j - 12) 0 = 0 from by simp [List.getD, List.getElem?_eq_none (l := zs) (i := j - 12) (by omega)])
      have hlt' : ¬ ((j - 12 : Nat) : Int) < (len : Int) := by omega
      clear hz
      go_enter Tryd.func60, Tryd.ntmps60
      go_wp2_with fail
      go_ret
      exact ⟨ret_int (by rw [HG.out, HZ.out]), Below.refl _ _⟩
/-- where the reference's Seal stands: room for the result, and the sector that grows -/
structure TS (W : World) (l : List Int) (k : Nat) (w : World) : Prop where
  below : Below W.heap.size W w
  old : Blk w W.heap.size z64
  new : Blk w (W.heap.size + 1) (part l k)
theorem TS.keep {W w w' : World} {l : List Int} {k : Nat} (h : TS W l k w) (hb : Below w.heap.size w w') : TS W l k w' := ⟨chain h.below hb, h.old.keep hb, h.new.keep hb⟩
theorem TS.start (W : World) (l : List Int) : TS W l 0 ((W.alloc (.cells (sv z64) 53)).alloc (.cells (sv z64) 53)) := by
  have h0 := below_alloc W (.cells (sv z64) 53)
  have s0 := alloc_size W (.cells (sv z64) 53)
  have b0 := Blk.new W z64 z64_length
  generalize W.alloc (.cells (sv z64) 53) = w0 at *
  have h1 := below_alloc w0 (.cells (sv z64) 53)
  have b1 := Blk.new w0 z64 z64_length
  refine ⟨chain h0 h1, b0.keep h1, ?_⟩
  rw [s0] at b1
  rw [part_zero]; exact b1
theorem TS.stored {W w : World} {l : List Int} {k : Nat} (h : TS W l k w) (z : Int) (hz : l.getD k 0 = z) : TS W l (k + 1) (w.setCell ⟨W.heap.size + 1, k, none⟩ (.int .u8 z)) := by
  subst hz
  have hn := h.new.stored k (l.getD k 0)
  rw [part_set] at hn
  exact ⟨h.below.setCell (by show W.heap.size ≤ W.heap.size + 1; omega) _, h.old.apart (by omega) _ _, hn⟩
theorem TS.row0 {W w : World} {l : List Int} (h : TS W l 0 w) : TS W l 0 (w.setRow (W.heap.size + 1) (sv z64)) :=
  ⟨below_row h.below (by omega) _, h.old.row_apart (by omega) _, by rw [part_zero]; exact h.new.row z64_length⟩
theorem TS.last {W w : World} {l : List Int} (h : TS W l 64 w) (hl : l.length = 64) : Blk w (W.heap.size + 1) l := by
  have := h.new; rwa [part_all l hl] at this
set_option maxRecDepth 8000 in
set_option maxHeartbeats 1000000 in
theorem rseal_any (x i : Int) (hx : U64 x) (hi : I63 i) (v : Value) (len : Nat) (zs : List Int) (w : World) (hri : RI .u8 w v len zs) :
    Calls Tryd.prog 46 #[.int .u64 x, .int .i64 i, v] w fun e w' => e = .returned (.agg (sv (sealed x i zs))) ∧ Below w.heap.size w w' := by
  have HR := Lib.hid hri
  have HX := Lib.hid hx
  have HI := Lib.hid hi
  obtain ⟨l, hl⟩ : ∃ l, sealed x i zs = l := ⟨_, rfl⟩
  have HL := Lib.hid (show l.length = 64 from by rw [← hl]; exact sealed_length x i zs)
  have HE := Lib.hid hl
  rw [hl]
  have HS0 := Lib.hid (TS.start w l)
  have HZ := Lib.hid z64_cells
  clear hri hx hi hl
  go_enter Tryd.func46, Tryd.ntmps46
  go_wp2_with (first
    | (rw [← HZ.out]; refine wpList_store_row rfl 53 _ _ rfl (w.heap.size + 1) (sv z64) rfl rfl _ (sv z64) HS0.out.new.1 (sv_info _ z64_length) rfl (sv_one _) ?_))
  have HS1 := Lib.hid (TS.row0 HS0.out)
  go_loopw [8] (fun iv wr => ∃ k : Nat, iv = .int .i64 k ∧ k ≤ 64 ∧ Hid (TS w l k wr)) (fun iv _ => 64 - (intOf iv).toNat)
  case atStart => exact ⟨0, rfl, by omega, HS1⟩
  case round =>
    obtain ⟨k, rfl, hk, HS⟩ := hrel
    by_cases hlt : (k : Int) < 64
    · have hk2 : k < 64 := by omega
      obtain ⟨z, hz⟩ : ∃ z, l.getD k 0 = z := ⟨_, rfl⟩
      have HK := Lib.hid hz
      clear hz
      go_wp2_with (first
        | (go_at_call 60; (refine (byte_any x i HX.out HI.out v len zs _ (HR.out.keep HS.out.below) k hk2 z (by rw [HE.out]; exact HK.out)).mono ?_); rintro e w' ⟨rfl, hb⟩; have HS2 := Lib.hid (HS.out.keep hb); have hcell := HS2.out.new.cell k hk2; have hfr := HS2.out.new.frozen k; clear hb))
      go_roundw
      case rel => exact ⟨k + 1, by go_num, by omega, Lib.hid (HS2.out.stored z HK.out)⟩
      case measure => simp [intOf]; omega
    · have hk2 : k = 64 := by omega
      subst hk2
      have HS3 := Lib.hid (HS.out.last HL.out)
      go_wp2_with (first
        | (refine wpList_load_row rfl 53 _ rfl (w.heap.size + 1) rfl _ (sv l) (0, 0) _ HS3.out.1 Tryd.underlying53 rfl (sv_info _ HL.out) ?_)
        | (refine wpList_store_row rfl 53 _ _ rfl w.heap.size (sv l) rfl rfl _ (sv z64) HS.out.old.1 (sv_info _ HL.out) (by rw [sv_size, sv_size, HL.out, z64_length]) (sv_one _) ?_))
      refine bodyPost_ret_by (v := .agg (sv l)) (results_cell_row rfl _ _ w.heap.size _ (sv l) (0, 0) _ rfl (HS.out.old.row HL.out).1 Tryd.underlying53 rfl (sv_info _ HL.out)) rfl ⟨rfl, below_row HS.out.below (Nat.le_refl _) _⟩
end Go.Proofs.YtjlnceldnbpapaaDoor
/-
  WHAT THE PROGRAM'S OWN FUNCTIONS OF LAYER 6 (stamp) ANSWER: Seal.
-/
namespace Go.Proofs.YtjlnceldnbpapaaDoor
open Go.RowKit
theorem put_ri (x : Int) (n : Nat) (hn : n ≤ 8) (w : World) :
    Calls Tryd.prog 55 #[.int .u64 x, .int .i64 n] w fun e w' => e = .returned (.slice (some ⟨w.heap.size, 0, none⟩) n n) ∧ RI .u8 w' (.slice (some ⟨w.heap.size, 0, none⟩) n n) n (putL x n) ∧ Below w.heap.size w w' :=
  (put_any x n n (by unfold I63; omega) (by unfold clampI; omega) w).mono fun _ _ ⟨he, ho, hb⟩ => ⟨he, RI.own ho, hb⟩
/-- where Seal stands: room for the result, the sector, the room that came in -/
structure TE (W : World) (l : List Int) (rm : Value) (len : Nat) (zs : List Int) (w : World) : Prop where
  below : Below W.heap.size W w
  old : Blk w W.heap.size z64
  new : Blk w (W.heap.size + 1) l
  arg : RI .u8 w rm len zs
theorem TE.next {W w w' : World} {l : List Int} {rm : Value} {len : Nat} {zs : List Int} (h : TE W l rm len zs w) (hb : Below w.heap.size w w') : TE W l rm len zs w' := ⟨chain h.below hb, h.old.keep hb, h.new.keep hb, h.arg.keep hb⟩
/-- behind a copy into the sector -/
theorem TE.copied {W w w' : World} {l l' : List Int} {rm : Value} {len : Nat} {zs : List Int} (h : TE W l rm len zs w) (hr : RI .u8 W rm len zs) (hk : Blk w' (W.heap.size + 1) l') (hb : Below (W.heap.size + 1) w w') : TE W l' rm len zs w' := by
  have h1 : Below W.heap.size W w' := h.below.trans (hb.mono (by omega))
  exact ⟨h1, h.old.keepB hb (by omega), hk, hr.keep h1⟩
set_option maxRecDepth 8000 in
set_option maxHeartbeats 1000000 in
theorem seal_any (x i : Int) (_hx : U64 x) (hi : I63 i) (v : Value) (len : Nat) (zs : List Int) (w : World) (hri : RI .u8 w v len zs) :
    Calls Tryd.prog 44 #[.int .u64 x, .int .i64 i, v] w fun e w' => e = .returned (.agg (sv (sealed x i zs))) ∧ Below w.heap.size w w' := by
  have HR := Lib.hid hri
  have hi' : -9223372036854775808 ≤ i ∧ i ≤ 9223372036854775807 := hi
  obtain ⟨a, c, rfl, hzl, _⟩ : ∃ a c, v = .slice a len c ∧ zs.length = len ∧ True := by obtain ⟨a, c, e, h, _⟩ := hri; exact ⟨a, c, e, h, trivial⟩
  obtain ⟨y, hy⟩ : ∃ y, IntKind.u64.wrap i = y := ⟨_, rfl⟩
  have HY := Lib.hid (show putL y 4 = putL i 4 from by rw [← hy, u64_wrap]; exact putL_wrap i)
  have HT0 : Hid (TE w z64 (.slice a len c) len zs ((w.alloc (.cells (sv z64) 53)).alloc (.cells (sv z64) 53))) := by
    have h := TS.start w (List.replicate 64 0)
    exact ⟨h.below, h.old, by have := h.new; rwa [part_zero] at this, hri.keep h.below⟩
  have HSP := Lib.hid (sealed_splice x i zs)
  have HSL := Lib.hid (sealed_length x i zs)
  rw [hzl] at HSP
  have HZ := Lib.hid z64_cells
  clear hri hzl
  go_enter Tryd.func44, Tryd.ntmps44
  go_wp2
  rw [← HZ.out]
  refine wp_region_held_drew (S := (fun w' => Below w.heap.size w w')) (by kernel_rfl) (HT0.out.below.drew) (fun hS => ?_)
  refine wpAnyH_take (i := 0) (oi := ({ dst := some 8, op := Op.slice 53 (Operand.tmp 7) none (some (Operand.const (Value.int IntKind.i64 8))) none, type := 26, pos := "stamp.go:15", after := #[], guard := none } : Oper)) (v := ?_) rfl (by kernel_rfl) (by kernel_rfl) (by kernel_rfl) (fun _ _ _ h => h) (Or.inl ⟨by rfl, ?_⟩) hS ?_
  rotate_left
  · (intro w hSw; (try dsimp only at hSw); go_simp; try with_reducible rfl)
  (try simp only [Act.put, List.setIfInBounds_toArray, List.set_cons_zero, List.set_cons_succ])
  refine wpAnyH_take (i := 1) (oi := ({ dst := some 9, op := Op.move (Operand.tmp 0), type := 22, pos := "stamp.go:15", after := #[], guard := none } : Oper)) (v := ?_) rfl (by kernel_rfl) (by kernel_rfl) (by kernel_rfl) (fun _ _ _ h => h) (Or.inl ⟨by rfl, ?_⟩) hS ?_
  rotate_left
  · (intro w hSw; (try dsimp only at hSw); go_simp; try with_reducible rfl)
  (try simp only [Act.put, List.setIfInBounds_toArray, List.set_cons_zero, List.set_cons_succ])
  refine rg_one 2 ({ dst := some 10, op := Op.call { callee := Callee.value (Operand.func 55), args := #[Operand.tmp 9, Operand.const (Value.int IntKind.i64 8)], argTypes := #[22, 3] }, type := 26, pos := "stamp.go:15", after := #[{ on := 1, ground := Ground.data }], guard := none } : Oper) (by kernel_rfl) rfl (fun K hK => ?_)
  go_simp
  (go_at_call 55; (refine (put_ri x 8 (by omega) _).mono ?_); rintro e w2 ⟨rfl, hr2, hb⟩; have HT2 := Lib.hid ((HT0.out.next ((Below.refl _ _).drew)).next hb); have hN := HT2.out.below)
  refine hK.out _ _ ?_ (fun hS1 => ?_)
  · (exact hN)
  clear hK K hS; have hS := hS1; clear hS1
  (try simp only [Act.put, List.setIfInBounds_toArray, List.set_cons_zero, List.set_cons_succ])
  refine rg_one 3 ({ dst := some 11, op := Op.call { callee := Callee.builtin Builtin.copy, args := #[Operand.tmp 8, Operand.tmp 10], argTypes := #[26, 26] }, type := 3, pos := "stamp.go:15", after := #[{ on := 0, ground := Ground.data }, { on := 2, ground := Ground.data }, { on := 2, ground := Ground.chain }], guard := none } : Oper) (by kernel_rfl) rfl (fun K hK => ?_)
  refine step_copy_sec rfl (.tmp 8) (.tmp 10) rfl (w.heap.size + 1) 0 8 64 z64 HT2.out.new rfl _ 8 (putL x 8) rfl hr2 (by omega) ?_; intro w3 HK3 hb3; rw [show (putL x 8).take (min 8 8) = putL x 8 from List.take_of_length_le (by rw [putL_length]; omega)] at HK3; have HT3 := Lib.hid (HT2.out.copied HR.out HK3.out hb3); clear hN; have hN := HT3.out.below
  refine hK.out _ _ ?_ (fun hS1 => ?_)
  · (exact hN)
  clear hK K hS; have hS := hS1; clear hS1
  (try simp only [Act.put, List.setIfInBounds_toArray, List.set_cons_zero, List.set_cons_succ])
  refine wpAnyH_done (by kernel_rfl) ?_ _
  clear hS hb3 hb hr2 HT2 HK3 hN
  go_wp2
  refine wp_region_held_drew (S := (fun w' => Below w.heap.size w w')) (by kernel_rfl) (HT3.out.below.drew) (fun hS => ?_)
  refine wpAnyH_take (i := 0) (oi := ({ dst := some 12, op := Op.slice 53 (Operand.tmp 7) (some (Operand.const (Value.int IntKind.i64 8))) (some (Operand.const (Value.int IntKind.i64 12))) none, type := 26, pos := "stamp.go:16", after := #[], guard := none } : Oper)) (v := ?_) rfl (by kernel_rfl) (by kernel_rfl) (by kernel_rfl) (fun _ _ _ h => h) (Or.inl ⟨by rfl, ?_⟩) hS ?_
  rotate_left
  · (intro w hSw; (try dsimp only at hSw); go_simp; try with_reducible rfl)
  (try simp only [Act.put, List.setIfInBounds_toArray, List.set_cons_zero, List.set_cons_succ])
  refine wpAnyH_take (i := 1) (oi := ({ dst := some 13, op := Op.move (Operand.tmp 1), type := 3, pos := "stamp.go:16", after := #[], guard := none } : Oper)) (v := ?_) rfl (by kernel_rfl) (by kernel_rfl) (by kernel_rfl) (fun _ _ _ h => h) (Or.inl ⟨by rfl, ?_⟩) hS ?_
  rotate_left
  · (intro w hSw; (try dsimp only at hSw); go_simp; try with_reducible rfl)
  (try simp only [Act.put, List.setIfInBounds_toArray, List.set_cons_zero, List.set_cons_succ])
  refine wpAnyH_take (i := 2) (oi := ({ dst := some 14, op := Op.convert 3 22 (Operand.tmp 13), type := 22, pos := "stamp.go:16", after := #[{ on := 1, ground := Ground.data }], guard := none } : Oper)) (v := ?_) rfl (by kernel_rfl) (by kernel_rfl) (by kernel_rfl) (fun _ _ _ h => h) (Or.inl ⟨by rfl, ?_⟩) hS ?_
  rotate_left
  · (intro w hSw; (try dsimp only at hSw); go_simp; try with_reducible rfl)
  (try simp only [Act.put, List.setIfInBounds_toArray, List.set_cons_zero, List.set_cons_succ])
  refine rg_one 3 ({ dst := some 15, op := Op.call { callee := Callee.value (Operand.func 55), args := #[Operand.tmp 14, Operand.const (Value.int IntKind.i64 4)], argTypes := #[22, 3] }, type := 26, pos := "stamp.go:16", after := #[{ on := 2, ground := Ground.data }], guard := none } : Oper) (by kernel_rfl) rfl (fun K hK => ?_)
  go_simp
  (go_at_call 55; (refine (put_ri y 4 (by omega) _).mono ?_); rintro e w4 ⟨rfl, hr4, hb⟩; rw [HY.out] at hr4; have HT4 := Lib.hid ((HT3.out.next ((Below.refl _ _).drew)).next hb); have hN := HT4.out.below)
  refine hK.out _ _ ?_ (fun hS1 => ?_)
  · (exact hN)
  clear hK K hS; have hS := hS1; clear hS1
  (try simp only [Act.put, List.setIfInBounds_toArray, List.set_cons_zero, List.set_cons_succ])
  refine rg_one 4 ({ dst := some 16, op := Op.call { callee := Callee.builtin Builtin.copy, args := #[Operand.tmp 12, Operand.tmp 15], argTypes := #[26, 26] }, type := 3, pos := "stamp.go:16", after := #[{ on := 0, ground := Ground.data }, { on := 3, ground := Ground.data }, { on := 3, ground := Ground.chain }], guard := none } : Oper) (by kernel_rfl) rfl (fun K hK => ?_)
  refine step_copy_sec rfl (.tmp 12) (.tmp 15) rfl (w.heap.size + 1) 8 4 56 _ HT4.out.new rfl _ 4 (putL i 4) rfl hr4 (by omega) ?_; intro w5 HK5 hb5; rw [show (putL i 4).take (min 4 4) = putL i 4 from List.take_of_length_le (by rw [putL_length]; omega)] at HK5; have HT5 := Lib.hid (HT4.out.copied HR.out HK5.out hb5); clear hN; have hN := HT5.out.below
  refine hK.out _ _ ?_ (fun hS1 => ?_)
  · (exact hN)
  clear hK K hS; have hS := hS1; clear hS1
  (try simp only [Act.put, List.setIfInBounds_toArray, List.set_cons_zero, List.set_cons_succ])
  refine wpAnyH_done (by kernel_rfl) ?_ _
  clear hS hb5 hb hr4 HT4 HK5 hN
  go_wp2_with (first
    | ((refine wpl_copy_sec rfl (.tmp 17) (.tmp 18) rfl (w.heap.size + 1) 12 52 52 _ HT5.out.new rfl _ len zs rfl HT5.out.arg (by omega) ?_; intro w6 HK6 hb6; rw [show z64 = List.replicate 64 0 from rfl, HSP.out] at HK6; have HT6 := Lib.hid (HT5.out.copied HR.out HK6.out hb6); clear hb6))
    | (refine wpList_load_row rfl 53 _ rfl (w.heap.size + 1) rfl _ (sv (sealed x i zs)) (0, 0) _ HT6.out.new.1 Tryd.underlying53 rfl (sv_info _ HSL.out) ?_)
    | (refine wpList_store_row rfl 53 _ _ rfl w.heap.size (sv (sealed x i zs)) rfl rfl _ (sv z64) HT6.out.old.1 (sv_info _ HSL.out) (by rw [sv_size, sv_size, HSL.out, z64_length]) (sv_one _) ?_))
  refine bodyPost_ret_by (v := .agg (sv (sealed x i zs))) (results_cell_row rfl _ _ w.heap.size _ (sv (sealed x i zs)) (0, 0) _ rfl (HT6.out.old.row HSL.out).1 Tryd.underlying53 rfl (sv_info _ HSL.out)) rfl ⟨rfl, below_row HT6.out.below (Nat.le_refl _) _⟩
end Go.Proofs.YtjlnceldnbpapaaDoor
