/-
  WHAT Rest OF THE REFERENCE OF LAYER 19 ANSWERS, of any sectors and any end. No condition.
-/
import Derived.Test.YthickhfbllddjaaDoorJ4
import Derived.Test.YthickhfbllddjaaDoorJ2
import Derived.Test.YthickhfbllddjaaDoorSecs
namespace Go.Proofs.YthickhfbllddjaaDoor
open Go.RowKit
theorem restAt_no {fs : List Int} {e i k : Nat} {z : Int} (hz : fs.getD (i * 64 + k) 0 = z) (h0 : z ≠ 0) (h : e ≤ 52 * i ∨ (12 ≤ k ∧ e + 12 ≤ 52 * i + k)) : restAt fs e i k = false := by
  unfold restAt
  rw [hz]
  rcases h with h | ⟨h1, h2⟩
  · simp [h0, h]
  · simp [h0, h1, h2]
theorem restAt_yes {fs : List Int} {e i k : Nat} {z : Int} (hz : fs.getD (i * 64 + k) 0 = z) (h : z = 0 ∨ (¬ e ≤ 52 * i ∧ ¬ (12 ≤ k ∧ e + 12 ≤ 52 * i + k))) : restAt fs e i k = true := by
  unfold restAt
  rw [hz]
  rcases h with h | ⟨h1, h2⟩
  · simp [h]
  · by_cases h3 : 12 ≤ k
    · have h4 : ¬ e + 12 ≤ 52 * i + k := fun q => h2 ⟨h3, q⟩
      simp [h1, h4]
    · simp [h1, h3]
theorem restR_step {fs : List Int} {e i k : Nat} (h : ∀ j, j < k → restAt fs e i j = true) (hz : restAt fs e i k = true) : ∀ j, j < k + 1 → restAt fs e i j = true := fun j hj => by
  by_cases ej : j = k
  · rw [ej]; exact hz
  · exact h j (by omega)
theorem restR_row {fs : List Int} {e i : Nat} (h : ∀ j, j < i → restS fs e j = true) (hz : restS fs e i = true) : ∀ j, j < i + 1 → restS fs e j = true := fun j hj => by
  by_cases ej : j = i
  · rw [ej]; exact hz
  · exact h j (by omega)
set_option maxRecDepth 8000 in
set_option maxHeartbeats 4000000 in
theorem rrest_any (v : Value) (n : Nat) (fs : List Int) (x : Int) (hx : I63 x) (w : World) (h : FS w v n fs) (hn : n ≤ 1000000) :
    Calls Tryd.prog 11 #[v, .int .i64 x] w fun r w' => r = .returned (.bool (restB n fs (nr x))) ∧ Below w.heap.size w w' := by
  have hle := nr_le x
  have HNR : Hid (∀ w, Calls Tryd.prog 25 #[.int .i64 x] w fun r w' => r = .returned (.int .i64 (nr x : Int)) ∧ w = w') := Lib.hid fun w => (near_any x hx w).mono fun r w' ⟨h1, h2⟩ => ⟨h1, h2.symm⟩
  obtain ⟨e, he⟩ : ∃ e, nr x = e := ⟨_, rfl⟩
  rw [he] at HNR hle ⊢
  obtain ⟨ad, cap, rfl, hfl, hc1, hc2, _⟩ := id h
  have HH := Lib.hid h
  have HFL := Lib.hid hfl
  clear h hx hfl he
  go_enter Tryd.func11, Tryd.ntmps11
  go_wp2_with (first
    | (go_at_call 25; (with_reducible refine (HNR.out _).mono ?_); rintro r w1 ⟨rfl, rfl⟩))
  go_loopw [5] (fun iv wr => ∃ i : Nat, iv = .int .i64 i ∧ i ≤ n ∧ i ≤ 16 ∧ Hid (∀ j, j < i → restS fs e j = true) ∧ Hid (Below w.heap.size w wr)) (fun iv _ => 16 - (intOf iv).toNat)
  case atStart => exact ⟨0, rfl, by omega, by omega, Lib.hid (fun j hj => absurd hj (by omega)), Lib.hid (Below.refl _ _)⟩
  case round =>
    rename World => wo
    obtain ⟨i, rfl, hin, hi16, HR, HB⟩ := hrel
    by_cases hlt : (i : Int) < (n : Int)
    · by_cases hl6 : (i : Int) < 16
      · obtain ⟨b, off, rfl, hat⟩ := HH.out.at_ i (by omega)
        have HAT := Lib.hid hat
        clear hat
        go_wp2
        go_loopw [6] (fun kv wr => ∃ k : Nat, kv = .int .i64 k ∧ k ≤ 64 ∧ Hid (∀ j, j < k → restAt fs e i j = true) ∧ Hid (Below w.heap.size w wr)) (fun kv _ => 64 - (intOf kv).toNat)
        case atStart => exact ⟨0, rfl, by omega, Lib.hid (fun j hj => absurd hj (by omega)), HB⟩
        case round =>
          rename World => wi
          obtain ⟨k, rfl, hk64, HK, HBI⟩ := hrel
          by_cases hk : (k : Int) < 64
          · obtain ⟨z, hz⟩ : ∃ z, fs.getD (i * 64 + k) 0 = z := ⟨_, rfl⟩
            have hc := (HAT.out.keep HBI.out).2 k (by omega)
            rw [show ((fs.drop (i * 64)).take 64).getD k 0 = z from by rw [← hz]; exact sec_byte fs i k (by omega)] at hc
            have HZ := Lib.hid hz
            clear hz
            rcases (by omega : z = 0 ∨ (z ≠ 0 ∧ (e : Int) ≤ 52 * (i : Int)) ∨ (z ≠ 0 ∧ ¬ (e : Int) ≤ 52 * (i : Int) ∧ ¬ (12 : Int) ≤ (k : Int)) ∨ (z ≠ 0 ∧ ¬ (e : Int) ≤ 52 * (i : Int) ∧ (12 : Int) ≤ (k : Int) ∧ (e : Int) ≤ 52 * (i : Int) + (k : Int) - 12) ∨ (z ≠ 0 ∧ ¬ (e : Int) ≤ 52 * (i : Int) ∧ (12 : Int) ≤ (k : Int) ∧ ¬ (e : Int) ≤ 52 * (i : Int) + (k : Int) - 12)) with h0 | ⟨h0, h1⟩ | ⟨h0, h1, h2⟩ | ⟨h0, h1, h2, h3⟩ | ⟨h0, h1, h2, h3⟩
            · have HNX := Lib.hid (restR_step HK.out (restAt_yes HZ.out (.inl h0)))
              subst h0
              go_wp2
              go_roundw
              case rel => exact ⟨k + 1, by go_num, by omega, HNX, HBI⟩
              case measure => simp [intOf]; omega
            · have HNO := Lib.hid (restB_no (n := n) (fs := fs) (e := e) (i := i) (by omega) (by omega) (restS_no (k := k) (by omega) (restAt_no HZ.out h0 (.inl (by omega)))))
              have h0' : (z != 0) = true := by simpa using h0
              go_wp2
              (first | go_ret2 | go_ret3 | go_ret)
              exact ⟨ret_bool HNO.out.symm, HBI.out⟩
            · have HNX := Lib.hid (restR_step HK.out (restAt_yes HZ.out (.inr ⟨by omega, by omega⟩)))
              have h0' : (z != 0) = true := by simpa using h0
              go_wp2
              go_roundw
              case rel => exact ⟨k + 1, by go_num, by omega, HNX, HBI⟩
              case measure => simp [intOf]; omega
            · have HNO := Lib.hid (restB_no (n := n) (fs := fs) (e := e) (i := i) (by omega) (by omega) (restS_no (k := k) (by omega) (restAt_no HZ.out h0 (.inr ⟨by omega, by omega⟩))))
              have h0' : (z != 0) = true := by simpa using h0
              go_wp2
              (first | go_ret2 | go_ret3 | go_ret)
              exact ⟨ret_bool HNO.out.symm, HBI.out⟩
            · have HNX := Lib.hid (restR_step HK.out (restAt_yes HZ.out (.inr ⟨by omega, by omega⟩)))
              have h0' : (z != 0) = true := by simpa using h0
              go_wp2
              go_roundw
              case rel => exact ⟨k + 1, by go_num, by omega, HNX, HBI⟩
              case measure => simp [intOf]; omega
          · have HNX := Lib.hid (restR_row HR.out (restS_yes fun j hj => HK.out j (by omega)))
            go_wp2
            go_roundw
            case rel => exact ⟨i + 1, by go_num, by omega, by omega, HNX, HBI⟩
            case measure => simp [intOf]; omega
      · have HALL := Lib.hid (restB_yes (n := n) fun j h1 h2 => HR.out j (by omega))
        go_wp2
        go_ret
        exact ⟨ret_bool HALL.out.symm, HB.out⟩
    · have HALL := Lib.hid (restB_yes (n := n) fun j h1 h2 => HR.out j (by omega))
      go_wp2
      go_ret
      exact ⟨ret_bool HALL.out.symm, HB.out⟩
end Go.Proofs.YthickhfbllddjaaDoor
