/-
  LAYER 16 (plan), Covered: what the reference's and the program's answer. No condition.
-/
import Derived.Test.YtedjebccclocnaaBools
import Derived.Test.YtedjebccclocnaaBelow
namespace Go.Proofs.Ytedjebccclocnaa
open Go.RowKit
/-- what Covered answers -/
def covAt (bs : List Bool) (from_ to : Int) : Bool := cov bs (touchN (nr from_) (nr to)).1 ((touchN (nr from_) (nr to)).2 - (touchN (nr from_) (nr to)).1)
theorem cov_long (bs : List Bool) (a b : Nat) (hab : a ≤ b) (h0 : a = b → a = 0) (hb : bs.length < b) : cov bs a (b - a) = false := by
  have hlt : a < b := by omega
  refine cov_short bs a (b - a) (b - a - 1) (by omega) ?_
  rw [show a + (b - a - 1) = b - 1 from by omega]
  simp [List.getD, List.getElem?_eq_none (show bs.length ≤ b - 1 from by omega)]
set_option maxRecDepth 8000 in
set_option maxHeartbeats 800000 in
theorem covered_any (v : Value) (len : Nat) (bs : List Bool) (f t : Int) (hf : I63 f) (ht : I63 t) (w : World) (h : BS w v len bs) :
    Calls Try.prog 9 #[v, .int .i64 f, .int .i64 t] w fun e w' => e = .returned (.bool (covAt bs f t)) ∧ Below w.heap.size w w' := by
  have hle := CS.le h
  have hbl := h.length
  obtain ⟨ad, cap, rfl, hcap, hcap2, _⟩ := CS.form h
  have HT : Hid (∀ w : World, Calls Try.prog 20 #[.int .i64 f, .int .i64 t] w fun e w' => e = .returned (.tuple #[.int .i64 ((touchN (nr f) (nr t)).1 : Int), .int .i64 ((touchN (nr f) (nr t)).2 : Int)]) ∧ Below w.heap.size w w') := fun w => touch_any f t hf ht w
  obtain ⟨hab, hb16, h0⟩ := touch_le (nr f) (nr t) (nr_le t)
  unfold covAt
  generalize (touchN (nr f) (nr t)).1 = a at *
  generalize (touchN (nr f) (nr t)).2 = b at *
  have HH := Lib.hid h
  have H0 := Lib.hid h0
  have HBL := Lib.hid hbl
  clear h h0 hbl hf ht
  by_cases hlt : (b : Int) ≤ (len : Int)
  · go_enter Try.func9, Try.ntmps9
    go_wp2_with (first
      | (go_at_call 20; (with_reducible refine (HT.out _).mono ?_); rintro e w1 ⟨rfl, hb⟩; have HB := Lib.hid hb; have HH1 := Lib.hid (HH.out.kin (Kin.below hb)); clear hb)
      | (refine wpl_cutb_lh (by rfl) _ _ _ rfl _ len a (b - a) bs rfl rfl (by rw [show a + (b - a) = b from by omega]; rfl) HH1.out (by omega) ?_; intro p c hc; have HC := Lib.hid hc; clear hc)
      | (go_at_call 21; (with_reducible refine (contains_any _ _ _ _ HC.out).mono ?_); rintro e w2 ⟨rfl, rfl⟩; rw [cov_cut]))
    go_ret
    exact ⟨ret_bool (by simp), HB.out⟩
  · have HN := Lib.hid (cov_long bs a b hab H0.out (by rw [HBL.out]; omega))
    go_enter Try.func9, Try.ntmps9
    go_wp2_with (first
      | (go_at_call 20; (with_reducible refine (HT.out _).mono ?_); rintro e w1 ⟨rfl, hb⟩; have HB := Lib.hid hb; clear hb))
    go_ret
    exact ⟨ret_bool (by rw [HN.out]), HB.out⟩
set_option maxRecDepth 8000 in
set_option maxHeartbeats 800000 in
theorem rcovered_any (v : Value) (len : Nat) (bs : List Bool) (f t : Int) (hf : I63 f) (ht : I63 t) (w : World) (h : BS w v len bs) :
    Calls Try.prog 10 #[v, .int .i64 f, .int .i64 t] w fun e w' => e = .returned (.bool (covAt bs f t)) ∧ w' = w := by
  have hle := CS.le h
  have hbl := h.length
  obtain ⟨ad, cap, rfl, hcap, hcap2, _⟩ := CS.form h
  have HC : Hid (∀ i, i < len → ∃ b off, ad = some ⟨b, off, none⟩ ∧ w.cell? ⟨b, off + i, none⟩ = some (.bool (bs.getD i false))) := fun i hi => h.at_ i hi
  have HT : Hid (∀ w : World, Calls Try.prog 16 #[.int .i64 f, .int .i64 t] w fun e w' => e = .returned (.tuple #[.int .i64 ((touchN (nr f) (nr t)).1 : Int), .int .i64 ((touchN (nr f) (nr t)).2 : Int)]) ∧ w' = w) := fun w => rtouch_any f t hf ht w
  obtain ⟨hab, hb16, h0⟩ := touch_le (nr f) (nr t) (nr_le t)
  unfold covAt
  generalize (touchN (nr f) (nr t)).1 = a at *
  generalize (touchN (nr f) (nr t)).2 = b at *
  have H0 := Lib.hid h0
  have HBL := Lib.hid hbl
  clear h h0 hbl hf ht
  go_enter Try.func10, Try.ntmps10
  go_wp2_with (first
    | (go_at_call 16; (with_reducible refine (HT.out _).mono ?_); rintro e w1 ⟨rfl, rfl⟩))
  go_loop [9] (fun iv => ∃ i : Nat, iv = .int .i64 ((a + i : Nat) : Int) ∧ i ≤ b - a ∧ Hid (∀ j, j < i → bs.getD (a + j) false = true)) (fun iv => b - (intOf iv).toNat)
  case atStart => exact ⟨0, rfl, by omega, fun j hj => absurd hj (by omega)⟩
  case round =>
    obtain ⟨i, rfl, hi, HE⟩ := hrel
    obtain ⟨q, hq⟩ : ∃ q, a + i = q := ⟨_, rfl⟩
    rw [hq]
    by_cases hlt : (q : Int) < (b : Int)
    · by_cases hln : (q : Int) ≥ (len : Int)
      · have HN := Lib.hid (cov_short bs a (b - a) i (by omega) (by rw [hq]; simp [List.getD, List.getElem?_eq_none (show bs.length ≤ q from by rw [HBL.out]; omega)]))
        go_wp2
        go_ret
        exact ⟨ret_bool (by rw [HN.out]), rfl⟩
      · obtain ⟨b1, off, rfl, hcell⟩ := HC.out q (by omega)
        cases hx : bs.getD q false with
        | false =>
          rw [hx] at hcell
          have HN := Lib.hid (cov_short bs a (b - a) i (by omega) (by rw [hq]; exact hx))
          clear hx
          go_wp2
          go_ret
          exact ⟨ret_bool (by rw [HN.out]), rfl⟩
        | true =>
          rw [hx] at hcell
          have HN : Hid (∀ j, j < i + 1 → bs.getD (a + j) false = true) := fun j hj => by
            by_cases hji : j < i
            · exact HE.out j hji
            · obtain rfl : j = i := by omega
              rw [hq]; exact hx
          have HQ := Lib.hid hq
          clear hx hq
          go_wp2
          exact ⟨⟨i + 1, by rw [← Nat.add_assoc, HQ.out]; simp, by have := HQ.out; omega, HN⟩, by simp [intOf]; omega⟩
    · obtain rfl : i = b - a := by omega
      have HN := Lib.hid (cov_all bs a (b - a) HE.out)
      go_wp2
      go_ret
      exact ⟨ret_bool (by rw [HN.out]), rfl⟩
end Go.Proofs.Ytedjebccclocnaa
