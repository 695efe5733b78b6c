/-
  SLICES OF BOOLS: cuts; slices.Index and slices.Contains of false. No condition.
-/
import Derived.Test.YtedjebccclocnaaList
import Derived.Test.YtedjebccclocnaaCut
import Derived.Test.YtedjebccclocnaaRegion
import Derived.Test.YtedjebccclocnaaPlanMath
namespace Go.Proofs.Ytedjebccclocnaa
open Go.RowKit
/-- a part of a slice of bools -/
theorem BS.cut {w : World} {a : Option Addr} {len cap : Nat} {bs : List Bool} (h : BS w (.slice a len cap) len bs) (l n m : Nat) (hl : l + n ≤ len) (hm : l + n ≤ m) (hm2 : m ≤ cap) :
    BS w (sliced a l (l + n) m 1) n ((bs.drop l).take n) := by
  have hbl := h.length
  obtain ⟨a', cap', e, h1, h2, h3, h4, hc⟩ := h
  simp only [Value.slice.injEq, true_and] at e
  obtain ⟨rfl, rfl⟩ := e
  have hz : (((bs.drop l).take n).map Value.bool).length = n * 1 := by simp; omega
  unfold sliced
  rw [show l + n - l = n from by omega]
  by_cases h0 : m = l
  · rw [if_pos h0]
    exact ⟨a, m - l, rfl, hz, by omega, by omega, fun e => by have := h4 e; omega, fun h => absurd h (by omega)⟩
  · rw [if_neg h0]
    cases a with
    | none => have := h4 rfl; omega
    | some x =>
      refine ⟨some (x.add (l * 1)), m - l, rfl, hz, by omega, by omega, fun h => by simp at h, fun hp => ?_⟩
      obtain ⟨b, off, hx, hcell⟩ := hc (by omega)
      obtain rfl := Option.some.inj hx
      refine ⟨b, off + l, by simp [Addr.add], fun j hj => ?_⟩
      rw [Nat.add_assoc, hcell (l + j) (by omega)]
      simp only [List.getElem?_map, List.getElem?_take, show j < n from by omega, if_true, List.getElem?_drop]
section
variable {w : World} {o : Oper} {a : Act}
theorem bool_cell1 : (sizeOf (Try.prog.elem 27)).run Try.prog w = .ok 1 w := by
  have he : Try.prog.elem 27 = 4 := rfl
  have hb : (Try.prog.info? 4).map (fun i => (i.zero, i.size, i.bytes)) = some (some (.bool false), 1, 1) := by kernel_rfl
  obtain ⟨i, hi, _, hz1, _⟩ := info_parts hb
  simp [sizeOf, typeInfo, he, hi, hz1]
theorem und_bools : Try.prog.underlying 27 = some (.slice (Try.prog.elem 27)) := by rw [Try.underlying27]; rfl
/-- x[l:h] -/
theorem exec_cutb_lh (x lo hi : Operand) (ho : o.op = .slice 27 x (some lo) (some hi) none) (p : Option Addr) (len cap l n : Nat) (hx : a.eval x = .slice p len cap) (hlo : a.eval lo = .int .i64 (l : Int)) (hhi : a.eval hi = .int .i64 ((l + n : Nat) : Int)) (hc : l + n ≤ cap) :
    (execOp a.eval o).run Try.prog w = .ok (.value (sliced p l (l + n) cap 1)) w := by
  have h1 := run_slice_lh (P := Try.prog) w 27 p len cap und_bools .i64 .i64 (l : Int) ((l + n : Nat) : Int) (by omega) (by omega) (by omega)
  rw [bool_cell1] at h1
  simp only [Result.andThen_ok, Int.toNat_natCast] at h1
  simp only [Int.natCast_add] at h1
  simp [execOp, ho, hx, hlo, hhi, run_sliceAt_slice _ _ _ _ _ _ und_bools, h1, Result.andThen]
/-- x[:h] -/
theorem exec_cutb_h (x hi : Operand) (ho : o.op = .slice 27 x none (some hi) none) (p : Option Addr) (len cap n : Nat) (hx : a.eval x = .slice p len cap) (hhi : a.eval hi = .int .i64 (n : Int)) (hc : n ≤ cap) :
    (execOp a.eval o).run Try.prog w = .ok (.value (sliced p 0 n cap 1)) w := by
  have h1 := run_slice_h (P := Try.prog) w 27 p len cap und_bools .i64 (n : Int) (by omega) (by omega)
  rw [bool_cell1] at h1
  simp only [Result.andThen_ok, Int.toNat_natCast] at h1
  simp [execOp, ho, hx, hhi, run_sliceAt_slice _ _ _ _ _ _ und_bools, h1, Result.andThen]
end
section
variable {w : World} {o : Oper} {a : Act} {ops : Array Oper} {rest : List Oper} {Q : Exit → Act → World → Prop}
/-- .. guarded or not, its order as it stands -/
theorem wpl_cutb_lh (hw : Region.wanted o (yielded ops a.tmps) = true) (x lo hi : Operand) (ho : o.op = .slice 27 x (some lo) (some hi) none) (v : Value) (len l n : Nat) (bs : List Bool) (hx : a.eval x = v) (hlo : a.eval lo = .int .i64 (l : Int)) (hhi : a.eval hi = .int .i64 ((l + n : Nat) : Int)) (hr : BS w v len bs) (hl : l + n ≤ len)
    (h : ∀ p c, BS w (.slice p n c) n ((bs.drop l).take n) → wpList Try.prog ops Q rest (a.put o.dst (.slice p n c)) w) : wpList Try.prog ops Q (o :: rest) a w := by
  obtain ⟨p, cap, rfl, hc, _, _⟩ := CS.form hr
  obtain ⟨q, c, e⟩ := sliced_form p l n cap 1
  have he := exec_cutb_lh (w := w) x lo hi ho p len cap l n hx hlo hhi (by omega)
  have hR := hr.cut l n cap hl (by omega) (Nat.le_refl _)
  rw [e] at he hR
  unfold wpList
  rw [if_pos hw]
  refine Or.inl ?_
  unfold Oper.wp
  rw [he]
  simp only [Oper.upon]
  exact h q c hR
end
theorem cov_iff (bs : List Bool) (a d : Nat) : cov bs a d = true ↔ ∀ i, i < d → bs.getD (a + i) false = true := by
  unfold cov
  rw [List.all_eq_true]
  exact ⟨fun h i hi => h i (List.mem_range.2 hi), fun h i hi => h i (List.mem_range.1 hi)⟩
theorem cov_cut (bs : List Bool) (l n : Nat) : cov ((bs.drop l).take n) 0 n = cov bs l n := by
  rw [Bool.eq_iff_iff, cov_iff, cov_iff]
  have h : ∀ i, i < n → ((bs.drop l).take n).getD (0 + i) false = bs.getD (l + i) false := fun i hi => by
    rw [Nat.zero_add]; simp [List.getD, hi, List.getElem?_drop]
  exact ⟨fun k i hi => by rw [← h i hi]; exact k i hi, fun k i hi => by rw [h i hi]; exact k i hi⟩
set_option maxRecDepth 8000 in
set_option maxHeartbeats 800000 in
theorem index_any (v : Value) (len : Nat) (bs : List Bool) (w : World) (h : BS w v len bs) :
    Calls Try.prog 30 #[v, .bool false] w fun e w' => ∃ k : Int, e = .returned (.int .i64 k) ∧ w' = w ∧ decide (0 ≤ k) = !cov bs 0 len := by
  have hle := CS.le h
  obtain ⟨a, cap, rfl, hcap, hcap2, _⟩ := CS.form h
  have HC : Hid (∀ i, i < len → ∃ b off, a = some ⟨b, off, none⟩ ∧ w.cell? ⟨b, off + i, none⟩ = some (.bool (bs.getD i false))) := fun i hi => h.at_ i hi
  clear h
  go_enter Try.func30, Try.ntmps30
  go_wp2
  go_loop [8] (fun iv => ∃ i : Nat, iv = .int .i64 i ∧ i ≤ len ∧ Hid (∀ j, j < i → bs.getD (0 + j) false = true)) (fun iv => len - (intOf iv).toNat)
  case atStart => exact ⟨0, rfl, by omega, fun j hj => absurd hj (by omega)⟩
  case round =>
    obtain ⟨i, rfl, hi, HE⟩ := hrel
    by_cases hlt : (i : Int) < (len : Int)
    · obtain ⟨b, off, rfl, hcell⟩ := HC.out i (by omega)
      have HB : Hid (∀ x, bs.getD i false = x → bs.getD (0 + i) false = x) := fun x hx => by rw [Nat.zero_add]; exact hx
      cases hx : bs.getD i false with
      | false =>
        rw [hx] at hcell
        have HS := Lib.hid (cov_short bs 0 len i (by omega) (HB.out _ hx))
        clear HB hx
        go_wp2
        go_ret
        exact ⟨_, rfl, rfl, by rw [HS.out]; simp⟩
      | true =>
        rw [hx] at hcell
        have HN : Hid (∀ j, j < i + 1 → bs.getD (0 + j) false = true) := fun j hj => by
          by_cases hji : j < i
          · exact HE.out j hji
          · obtain rfl : j = i := by omega
            exact HB.out _ hx
        clear HB hx
        go_wp2
        exact ⟨⟨i + 1, by simp, by omega, HN⟩, by simp [intOf]; omega⟩
    · obtain rfl : i = len := by omega
      go_wp2
      go_ret
      exact ⟨_, rfl, rfl, by rw [cov_all bs 0 i HE.out]; simp⟩
set_option maxRecDepth 8000 in
theorem contains_any (v : Value) (len : Nat) (bs : List Bool) (w : World) (h : BS w v len bs) :
    Calls Try.prog 21 #[v, .bool false] w fun e w' => e = .returned (.bool (!cov bs 0 len)) ∧ w' = w := by
  have HH := Lib.hid h
  clear h
  go_enter Try.func21, Try.ntmps21
  go_wp2_with (first
    | (go_at_call 30; (with_reducible refine (index_any _ _ _ _ HH.out).mono ?_); rintro e w' ⟨k, rfl, rfl, hk⟩; have HK := Lib.hid hk; clear hk))
  go_ret
  exact ⟨ret_bool HK.out, rfl⟩
end Go.Proofs.Ytedjebccclocnaa
