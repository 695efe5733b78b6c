/-
  LAYER 5 (name), what later layers take of it: which bytes a name may have, what the program's fits and Right answer, and the reference's in and Right.
-/
import Derived.Test.YtpnialanmidekaaBase
import Derived.Lib.Strings
namespace Go.Proofs.Ytpnialanmidekaa
open Go.RowKit
open Go.Lib (toList_data size_eq)
/-- is a byte one that a name may have? -/
def okb (x : UInt8) : Bool := decide (97 ≤ x.toNat ∧ x.toNat ≤ 122 ∨ 48 ≤ x.toNat ∧ x.toNat ≤ 57 ∨ x.toNat = 45)
/-- is a text a name? -/
def nameN (l : List UInt8) : Bool := decide (0 < l.length) && decide (l.length ≤ 24) && l.all okb
theorem okb_list (x : UInt8) : okb x = decide (x ∈ ([97, 98, 99, 100, 101, 102, 103, 104, 105, 106, 107, 108, 109, 110, 111, 112, 113, 114, 115, 116, 117, 118, 119, 120, 121, 122, 48, 49, 50, 51, 52, 53, 54, 55, 56, 57, 45] : List UInt8)) := by
  have h : ∀ i : Fin 256, okb (UInt8.ofNat i.val) = decide (UInt8.ofNat i.val ∈ ([97, 98, 99, 100, 101, 102, 103, 104, 105, 106, 107, 108, 109, 110, 111, 112, 113, 114, 115, 116, 117, 118, 119, 120, 121, 122, 48, 49, 50, 51, 52, 53, 54, 55, 56, 57, 45] : List UInt8)) := by decide +kernel
  have h2 := h ⟨x.toNat, x.toNat_lt⟩
  simpa using h2
theorem fits_any (c : UInt8) (w : World) : Calls Try.prog 74 #[.int .u8 (c.toNat : Int)] w fun e w' => e = .returned (.bool (okb c)) ∧ w' = w := by
  go_enter Try.func74, Try.ntmps74
  go_wp2
  all_goals
    go_ret
    refine ⟨ret_bool ?_, rfl⟩
    unfold okb
    rw [Bool.eq_iff_iff]
    simp only [Bool.or_eq_true, decide_eq_true_eq, beq_iff_eq]
    first | omega | (refine iff_of_true trivial ?_; omega)
theorem getD_mem' {l : List UInt8} {k : Nat} (h : k < l.length) : l.getD k 0 ∈ l := by
  simp [List.getD, h]
theorem nameN_false {l : List UInt8} {i : Nat} (hi : i < l.length) (h : okb (l.getD i 0) = false) : nameN l = false := by
  unfold nameN
  have : l.all okb = false := by
    rw [List.all_eq_false]
    exact ⟨l.getD i 0, getD_mem' hi, by rw [h]; simp⟩
  rw [this, Bool.and_false]
theorem nameN_true {l : List UInt8} (h0 : 0 < l.length) (h1 : l.length ≤ 24) (h : ∀ j, j < l.length → okb (l.getD j 0) = true) : nameN l = true := by
  unfold nameN
  have : l.all okb = true := by
    rw [List.all_eq_true]
    intro x hx
    obtain ⟨j, hj, rfl⟩ := List.getElem_of_mem hx
    have := h j hj
    simpa [List.getD, hj] using this
  rw [this, decide_eq_true h0, decide_eq_true h1]; rfl
theorem size_len (s : ByteArray) : s.data.toList.length = s.size := (size_eq s).symm
theorem byte_getD (s : ByteArray) (i : Nat) (h : i < s.size) : s[i] = s.data.toList.getD i 0 := by
  have h1 : i < s.data.size := h
  rw [List.getD, Array.getElem?_toList, Array.getElem?_eq_getElem h1]
  rfl
theorem right_any (s : ByteArray) (w : World) (hs : s.size ≤ 281474976710656) : Calls Try.prog 68 #[.string s] w fun e w' => e = .returned (.bool (nameN s.data.toList)) ∧ w' = w := by
  have hl := size_len s
  by_cases h0 : s.size = 0
  · have hv : nameN s.data.toList = false := by unfold nameN; rw [hl, h0]; rfl
    have h1 : s.toList = [] := by rw [toList_data, ← List.length_eq_zero_iff, hl, h0]
    rw [hv]
    clear hl hv
    go_enter Try.func68, Try.ntmps68
    go_wp2
    go_ret
    exact ⟨rfl, rfl⟩
  by_cases h24 : (24 : Int) < (s.size : Int)
  · have hv : nameN s.data.toList = false := by unfold nameN; rw [hl, show decide (s.size ≤ 24) = false from decide_eq_false (by omega), Bool.and_false, Bool.false_and]
    have h1 : ¬ s.toList = [] := by rw [toList_data, ← List.length_eq_zero_iff, hl]; exact h0
    have h2 : s.toList.isEmpty = false := by rw [List.isEmpty_eq_false_iff]; exact h1
    rw [hv]
    clear hl hv
    go_enter Try.func68, Try.ntmps68
    go_wp2
    go_ret
    exact ⟨rfl, rfl⟩
  have h1 : ¬ s.toList = [] := by rw [toList_data, ← List.length_eq_zero_iff, hl]; exact h0
  have h2 : s.toList.isEmpty = false := by rw [List.isEmpty_eq_false_iff]; exact h1
  have HL := Lib.hid hl
  clear hl
  go_enter Try.func68, Try.ntmps68
  go_wp2
  go_loop [13] (fun iv => ∃ i : Nat, iv = .int .i64 i ∧ i ≤ s.size ∧ Hid (∀ j, j < i → okb (s.data.toList.getD j 0) = true)) (fun iv => s.size - (intOf iv).toNat)
  case atStart => exact ⟨0, rfl, by omega, fun j hj => absurd hj (by omega)⟩
  case round =>
    obtain ⟨i, rfl, hi, HI⟩ := hrel
    by_cases hlt : (i : Int) < (s.size : Int)
    · have hn : i < s.size := by omega
      have hb := byte_getD s i hn
      obtain ⟨c, hc⟩ : ∃ c, s.data.toList.getD i 0 = c := ⟨_, rfl⟩
      rw [hc] at hb
      have HC := Lib.hid hc
      clear hc
      cases ho : okb c with
      | false =>
        have HO := Lib.hid ho
        go_wp2_with (first
          | (go_at_call 74; (with_reducible refine (fits_any c _).mono ?_); rintro e w' ⟨rfl, rfl⟩))
        go_ret
        refine ⟨ret_bool ?_, rfl⟩
        rw [nameN_false (i := i) (by rw [HL.out]; exact hn) (by rw [HC.out]; exact HO.out)]
      | true =>
        have HO := Lib.hid ho
        go_wp2_with (first
          | (go_at_call 74; (with_reducible refine (fits_any c _).mono ?_); rintro e w' ⟨rfl, rfl⟩))
        go_round
        case rel =>
          refine ⟨i + 1, by go_num, by omega, fun j hj => ?_⟩
          by_cases hji : j = i
          · subst hji; rw [HC.out]; exact HO.out
          · exact HI.out j (by omega)
        case measure => simp [intOf]; omega
    · go_wp2
      go_ret
      refine ⟨ret_bool ?_, rfl⟩
      rw [nameN_true (by rw [HL.out]; omega) (by rw [HL.out]; omega) (fun j hj => HI.out j (by rw [HL.out] at hj; omega))]
set_option maxRecDepth 8000 in
theorem in_any (s : ByteArray) (c : UInt8) (w : World) (hs : s.size ≤ 281474976710656) : Calls Try.prog 72 #[.string s, .int .u8 (c.toNat : Int)] w fun e w' => e = .returned (.bool (decide (c ∈ s.data.toList))) ∧ w' = w := by
  have hl := size_len s
  have HL := Lib.hid hl
  clear hl
  go_enter Try.func72, Try.ntmps72
  go_wp2
  go_loop [5] (fun iv => ∃ i : Nat, iv = .int .i64 i ∧ i ≤ s.size ∧ Hid (∀ j, j < i → s.data.toList.getD j 0 ≠ c)) (fun iv => s.size - (intOf iv).toNat)
  case atStart => exact ⟨0, rfl, by omega, fun j hj => absurd hj (by omega)⟩
  case round =>
    obtain ⟨i, rfl, hi, HI⟩ := hrel
    by_cases hlt : (i : Int) < (s.size : Int)
    · have hn : i < s.size := by omega
      have hb := byte_getD s i hn
      obtain ⟨x, hx⟩ : ∃ x, s.data.toList.getD i 0 = x := ⟨_, rfl⟩
      rw [hx] at hb
      have HX := Lib.hid hx
      clear hx
      by_cases hc : x = c
      · subst hc
        go_wp2
        go_ret
        refine ⟨ret_bool ?_, rfl⟩
        rw [decide_eq_true]
        rw [← HX.out]
        simpa using getD_mem' (l := s.data.toList) (k := i) (by rw [HL.out]; exact hn)
      · have hne : ¬ ((x.toNat : Nat) : Int) = ((c.toNat : Nat) : Int) := fun h => hc (UInt8.toNat_inj.1 (by omega))
        have HC := Lib.hid hc
        clear hc
        go_wp2
        go_round
        case rel =>
          refine ⟨i + 1, by go_num, by omega, fun j hj => ?_⟩
          by_cases hji : j = i
          · subst hji; rw [HX.out]; exact HC.out
          · exact HI.out j (by omega)
        case measure => simp [intOf]; omega
    · go_wp2
      go_ret
      refine ⟨ret_bool ?_, rfl⟩
      rw [eq_comm, decide_eq_false_iff_not]
      intro hm
      obtain ⟨j, hj, e⟩ := List.getElem_of_mem (Array.mem_toList_iff.2 hm)
      refine HI.out j (by rw [HL.out] at hj; omega) ?_
      rw [List.getD, List.getElem?_eq_getElem hj, e]; rfl
set_option maxRecDepth 8000 in
theorem rright_any (s : ByteArray) (w : World) (hs : s.size ≤ 281474976710656) : Calls Try.prog 62 #[.string s] w fun e w' => e = .returned (.bool (nameN s.data.toList)) ∧ w' = w := by
  have hl := size_len s
  have HL := Lib.hid hl
  clear hl
  have HIN : Hid (∀ (c : UInt8) (w : World), Calls Try.prog 72 #[.string ⟨#[97, 98, 99, 100, 101, 102, 103, 104, 105, 106, 107, 108, 109, 110, 111, 112, 113, 114, 115, 116, 117, 118, 119, 120, 121, 122, 48, 49, 50, 51, 52, 53, 54, 55, 56, 57, 45]⟩, .int .u8 (c.toNat : Int)] w fun e w' => e = .returned (.bool (okb c)) ∧ w' = w) := by
    intro c w
    have := in_any ⟨#[97, 98, 99, 100, 101, 102, 103, 104, 105, 106, 107, 108, 109, 110, 111, 112, 113, 114, 115, 116, 117, 118, 119, 120, 121, 122, 48, 49, 50, 51, 52, 53, 54, 55, 56, 57, 45]⟩ c w (by decide)
    rw [okb_list]
    exact this
  go_enter Try.func62, Try.ntmps62
  go_wp2
  go_loop [3] (fun iv => ∃ i : Nat, iv = .int .i64 i ∧ i ≤ s.size ∧ Hid (∀ j, j < i → okb (s.data.toList.getD j 0) = true)) (fun iv => s.size - (intOf iv).toNat)
  case atStart => exact ⟨0, rfl, by omega, fun j hj => absurd hj (by omega)⟩
  case round =>
    obtain ⟨i, rfl, hi, HI⟩ := hrel
    by_cases hlt : (i : Int) < (s.size : Int)
    · have hn : i < s.size := by omega
      have hb := byte_getD s i hn
      obtain ⟨c, hc⟩ : ∃ c, s.data.toList.getD i 0 = c := ⟨_, rfl⟩
      rw [hc] at hb
      have HC := Lib.hid hc
      clear hc
      cases ho : okb c with
      | false =>
        have HO := Lib.hid ho
        go_wp2_with (first
          | (go_at_call 72; (refine (HIN.out c _).mono ?_); rintro e w' ⟨rfl, rfl⟩))
        go_ret
        refine ⟨ret_bool ?_, rfl⟩
        rw [nameN_false (i := i) (by rw [HL.out]; exact hn) (by rw [HC.out]; exact HO.out)]
      | true =>
        have HO := Lib.hid ho
        go_wp2_with (first
          | (go_at_call 72; (refine (HIN.out c _).mono ?_); rintro e w' ⟨rfl, rfl⟩))
        go_round
        case rel =>
          refine ⟨i + 1, by go_num, by omega, fun j hj => ?_⟩
          by_cases hji : j = i
          · subst hji; rw [HC.out]; exact HO.out
          · exact HI.out j (by omega)
        case measure => simp [intOf]; omega
    · have HE := Lib.hid (show nameN s.data.toList = (decide (0 < (s.size : Int)) && decide ((s.size : Int) < 25)) from by
        unfold nameN
        have : s.data.toList.all okb = true := by
          rw [List.all_eq_true]
          intro x hx
          obtain ⟨j, hj, rfl⟩ := List.getElem_of_mem hx
          have h1 := HI.out j (by rw [HL.out] at hj; omega)
          rwa [List.getD, List.getElem?_eq_getElem hj] at h1
        rw [this, Bool.and_true, HL.out]
        rw [Bool.eq_iff_iff]; simp; omega)
      go_wp2
      all_goals
        go_ret
        refine ⟨ret_bool ?_, rfl⟩
        rw [HE.out]
        simp
        try omega
end Go.Proofs.Ytpnialanmidekaa
