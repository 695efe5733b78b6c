/-
  WHAT THE DOCUMENT'S ANSWERS OF LAYER 5 (name) ANSWER: the reference's in, Right, Digits, Wal, Pool, Parse. Sizes as the theorems say.
-/
import Derived.Test.YtgdoojgebhemnaaDoorNameCode
namespace Go.Proofs.YtgdoojgebhemnaaDoor
open Go.RowKit
open Go.Lib (toList_data size_eq)
set_option maxRecDepth 8000 in
theorem in_any (s : ByteArray) (c : UInt8) (w : World) (hs : s.size ≤ 281474976710656) : Calls Tryd.prog 18 #[.string s, .int .u8 (c.toNat : Int)] w fun e w' => e = .returned (.bool (decide (c ∈ s.data.toList))) ∧ w' = w := by
  have hl := size_len s
  have HL := Lib.hid hl
  clear hl
  go_enter Tryd.func18, Tryd.ntmps18
  go_wp2
  go_loop [5] (fun iv => ∃ i : Nat, iv = .int .i64 i ∧ i ≤ s.size ∧ Hid (∀ j, j < i → s.data.toList.getD j 0 ≠ c)) (fun iv => s.size - (intOf iv).toNat)
  case atStart => exact ⟨0, rfl, by omega, fun j hj => absurd hj (by omega)⟩
  case round =>
    obtain ⟨i, rfl, hi, HI⟩ := hrel
    by_cases hlt : (i : Int) < (s.size : Int)
    · have hn : i < s.size := by omega
      have hb := byte_getD s i hn
      obtain ⟨x, hx⟩ : ∃ x, s.data.toList.getD i 0 = x := ⟨_, rfl⟩
      rw [hx] at hb
      have HX := Lib.hid hx
      clear hx
      by_cases hc : x = c
      · subst hc
        go_wp2
        go_ret
        refine ⟨ret_bool ?_, rfl⟩
        rw [decide_eq_true]
        rw [← HX.out]
        simpa using getD_mem' (l := s.data.toList) (k := i) (by rw [HL.out]; exact hn)
      · have hne : ¬ ((x.toNat : Nat) : Int) = ((c.toNat : Nat) : Int) := fun h => hc (UInt8.toNat_inj.1 (by omega))
        have HC := Lib.hid hc
        clear hc
        go_wp2
        go_round
        case rel =>
          refine ⟨i + 1, by go_num, by omega, fun j hj => ?_⟩
          by_cases hji : j = i
          · subst hji; rw [HX.out]; exact HC.out
          · exact HI.out j (by omega)
        case measure => simp [intOf]; omega
    · go_wp2
      go_ret
      refine ⟨ret_bool ?_, rfl⟩
      rw [eq_comm, decide_eq_false_iff_not]
      intro hm
      obtain ⟨j, hj, e⟩ := List.getElem_of_mem (Array.mem_toList_iff.2 hm)
      refine HI.out j (by rw [HL.out] at hj; omega) ?_
      rw [List.getD, List.getElem?_eq_getElem hj, e]; rfl
set_option maxRecDepth 8000 in
theorem rright_any (s : ByteArray) (w : World) (hs : s.size ≤ 281474976710656) : Calls Tryd.prog 8 #[.string s] w fun e w' => e = .returned (.bool (nameN s.data.toList)) ∧ w' = w := by
  have hl := size_len s
  have HL := Lib.hid hl
  clear hl
  have HIN : Hid (∀ (c : UInt8) (w : World), Calls Tryd.prog 18 #[.string ⟨#[97, 98, 99, 100, 101, 102, 103, 104, 105, 106, 107, 108, 109, 110, 111, 112, 113, 114, 115, 116, 117, 118, 119, 120, 121, 122, 48, 49, 50, 51, 52, 53, 54, 55, 56, 57, 45]⟩, .int .u8 (c.toNat : Int)] w fun e w' => e = .returned (.bool (okb c)) ∧ w' = w) := by
    intro c w
    have := in_any ⟨#[97, 98, 99, 100, 101, 102, 103, 104, 105, 106, 107, 108, 109, 110, 111, 112, 113, 114, 115, 116, 117, 118, 119, 120, 121, 122, 48, 49, 50, 51, 52, 53, 54, 55, 56, 57, 45]⟩ c w (by decide)
    rw [okb_list]
    exact this
  go_enter Tryd.func8, Tryd.ntmps8
  go_wp2
  go_loop [3] (fun iv => ∃ i : Nat, iv = .int .i64 i ∧ i ≤ s.size ∧ Hid (∀ j, j < i → okb (s.data.toList.getD j 0) = true)) (fun iv => s.size - (intOf iv).toNat)
  case atStart => exact ⟨0, rfl, by omega, fun j hj => absurd hj (by omega)⟩
  case round =>
    obtain ⟨i, rfl, hi, HI⟩ := hrel
    by_cases hlt : (i : Int) < (s.size : Int)
    · have hn : i < s.size := by omega
      have hb := byte_getD s i hn
      obtain ⟨c, hc⟩ : ∃ c, s.data.toList.getD i 0 = c := ⟨_, rfl⟩
      rw [hc] at hb
      have HC := Lib.hid hc
      clear hc
      cases ho : okb c with
      | false =>
        have HO := Lib.hid ho
        go_wp2_with (first
          | (go_at_call 18; (refine (HIN.out c _).mono ?_); rintro e w' ⟨rfl, rfl⟩))
        go_ret
        refine ⟨ret_bool ?_, rfl⟩
        rw [nameN_false (i := i) (by rw [HL.out]; exact hn) (by rw [HC.out]; exact HO.out)]
      | true =>
        have HO := Lib.hid ho
        go_wp2_with (first
          | (go_at_call 18; (refine (HIN.out c _).mono ?_); rintro e w' ⟨rfl, rfl⟩))
        go_round
        case rel =>
          refine ⟨i + 1, by go_num, by omega, fun j hj => ?_⟩
          by_cases hji : j = i
          · subst hji; rw [HC.out]; exact HO.out
          · exact HI.out j (by omega)
        case measure => simp [intOf]; omega
    · have HE := Lib.hid (show nameN s.data.toList = (decide (0 < (s.size : Int)) && decide ((s.size : Int) < 25)) from by
        unfold nameN
        have : s.data.toList.all okb = true := by
          rw [List.all_eq_true]
          intro x hx
          obtain ⟨j, hj, rfl⟩ := List.getElem_of_mem hx
          have h1 := HI.out j (by rw [HL.out] at hj; omega)
          rwa [List.getD, List.getElem?_eq_getElem hj] at h1
        rw [this, Bool.and_true, HL.out]
        rw [Bool.eq_iff_iff]; simp; omega)
      go_wp2
      all_goals
        go_ret
        refine ⟨ret_bool ?_, rfl⟩
        rw [HE.out]
        simp
        try omega
theorem dig_piece (k : Nat) (h : k < 10) : (⟨#[48, 49, 50, 51, 52, 53, 54, 55, 56, 57]⟩ : ByteArray).extract k (k + 1) = ⟨(Lib.itoa k).toArray⟩ := by
  rw [Lib.extract_eq, itoa_nat, Lib.decDigits_one h]
  have hf : ∀ i : Fin 10, ((⟨#[48, 49, 50, 51, 52, 53, 54, 55, 56, 57]⟩ : ByteArray).data.toList.drop i.val).take 1 = [UInt8.ofNat (48 + i.val)] := by decide +kernel
  rw [show k + 1 - k = 1 from by omega, hf ⟨k, h⟩]
set_option maxRecDepth 8000 in
set_option maxHeartbeats 1000000 in
theorem rdigits_upto (k : Nat) : ∀ (n : Int) (w : World), n.natAbs ≤ k → -9223372036854775808 ≤ n → n ≤ 9223372036854775807 →
    Calls Tryd.prog 15 #[.int .i64 n] w fun e w' => e = .returned (.string ⟨(Lib.itoa n).toArray⟩) ∧ w' = w := by
  induction k using Nat.strongRecOn with
  | _ k ih =>
    have one : ∀ (n : Int) (w : World), 0 ≤ n → n ≤ 9 → Calls Tryd.prog 15 #[.int .i64 n] w fun e w' => e = .returned (.string ⟨(Lib.itoa n).toArray⟩) ∧ w' = w := by
      intro n w h0 h9
      obtain ⟨m, rfl⟩ : ∃ m : Nat, n = m := ⟨n.toNat, by omega⟩
      have hp := dig_piece m (by omega)
      have c1 : (0 : Int) ≤ (m : Int) := by omega
      have c2 : (m : Int) ≤ (m : Int) + 1 := by omega
      have c3 : (m : Int) + 1 ≤ 10 := by omega
      have HP := Lib.hid hp
      clear hp ih
      go_enter Tryd.func15, Tryd.ntmps15
      go_wp2_with fail
      go_ret
      exact ⟨congrArg (fun x => Ending.returned (.string x)) HP.out, rfl⟩
    have ONE := Lib.hid one
    clear one
    intro n w hk h0 h1
    by_cases hn : n < 0
    · obtain ⟨u, hu, hd, hr⟩ := div_ten_neg n (by omega)
      have hm1 : 0 ≤ -(n.tmod 10) ∧ -(n.tmod 10) ≤ 9 := by omega
      by_cases hs : -10 < n
      · have hi := itoa_neg_one n hn hs
        have HR := Lib.hid hr
        clear hr hd
        obtain ⟨m, hm⟩ : ∃ m, n.tmod 10 = -m := ⟨-(n.tmod 10), by omega⟩
        rw [hm, Int.neg_neg] at hi hm1
        have hl : ¬ 9223372036854775807 < 1 + (Lib.itoa m).length := by have := itoa_short (n := m) (by omega) (by omega); omega
        have HI := Lib.hid hi
        clear hi ih hu
        go_enter Tryd.func15, Tryd.ntmps15
        go_wp2_with (first
          | (go_at_call 15; (with_reducible refine (ONE.out m _ (by omega) (by omega)).mono ?_); rintro e w' ⟨rfl, rfl⟩))
        go_ret
        refine ⟨?_, rfl⟩
        rw [HI.out]
        exact congrArg (fun x => Ending.returned (.string x)) (app_text [45] (Lib.itoa m))
      · have hi := itoa_split_neg n (by omega)
        have hq1 : (n.tdiv 10).natAbs < k := by omega
        have hq2 : -9223372036854775808 ≤ n.tdiv 10 ∧ n.tdiv 10 ≤ 9223372036854775807 := by omega
        clear hr hd
        obtain ⟨m, hm⟩ : ∃ m, n.tmod 10 = -m := ⟨-(n.tmod 10), by omega⟩
        rw [hm, Int.neg_neg] at hi hm1
        obtain ⟨q, hq⟩ : ∃ q, n.tdiv 10 = q := ⟨_, rfl⟩
        rw [hq] at hi hq1 hq2
        have hl : ¬ 9223372036854775807 < (Lib.itoa q).length + (Lib.itoa m).length := by have := itoa_short (n := m) (by omega) (by omega); have := itoa_short (n := q) (by omega) (by omega); omega
        have HI := Lib.hid hi
        have IH := Lib.hid (ih q.natAbs hq1 q)
        clear hi ih hu
        go_enter Tryd.func15, Tryd.ntmps15
        go_wp2_with (first
          | (go_at_call 15; (with_reducible refine (ONE.out m _ (by omega) (by omega)).mono ?_); rintro e w' ⟨rfl, rfl⟩)
          | (go_at_call 15; (with_reducible refine (IH.out _ (by omega) (by omega) (by omega)).mono ?_); rintro e w' ⟨rfl, rfl⟩))
        go_ret
        refine ⟨?_, rfl⟩
        rw [HI.out]
        exact congrArg (fun x => Ending.returned (.string x)) (app_text (Lib.itoa q) (Lib.itoa m))
    · by_cases hs : n < 10
      · exact ONE.out n w (by omega) (by omega)
      · have hi := itoa_split n (by omega)
        obtain ⟨u, hu, hd, hr⟩ := div_ten n (by omega)
        have hq1 : (n.tdiv 10).natAbs < k := by omega
        have hq2 : -9223372036854775808 ≤ n.tdiv 10 ∧ n.tdiv 10 ≤ 9223372036854775807 := by omega
        have hm1 : 0 ≤ n.tmod 10 ∧ n.tmod 10 ≤ 9 := by omega
        clear hr hd
        obtain ⟨m, hm⟩ : ∃ m, n.tmod 10 = m := ⟨_, rfl⟩
        rw [hm] at hi hm1
        obtain ⟨q, hq⟩ : ∃ q, n.tdiv 10 = q := ⟨_, rfl⟩
        rw [hq] at hi hq1 hq2
        have hl : ¬ 9223372036854775807 < (Lib.itoa q).length + (Lib.itoa m).length := by have := itoa_short (n := m) (by omega) (by omega); have := itoa_short (n := q) (by omega) (by omega); omega
        have HI := Lib.hid hi
        have IH := Lib.hid (ih q.natAbs hq1 q)
        clear hi ih hu
        go_enter Tryd.func15, Tryd.ntmps15
        go_wp2_with (first
          | (go_at_call 15; (with_reducible refine (ONE.out m _ (by omega) (by omega)).mono ?_); rintro e w' ⟨rfl, rfl⟩)
          | (go_at_call 15; (with_reducible refine (IH.out _ (by omega) (by omega) (by omega)).mono ?_); rintro e w' ⟨rfl, rfl⟩))
        go_ret
        refine ⟨?_, rfl⟩
        rw [HI.out]
        exact congrArg (fun x => Ending.returned (.string x)) (app_text (Lib.itoa q) (Lib.itoa m))
theorem rdigits_any (n : Int) (w : World) (h0 : -9223372036854775808 ≤ n) (h1 : n ≤ 9223372036854775807) :
    Calls Tryd.prog 15 #[.int .i64 n] w fun e w' => e = .returned (.string ⟨(Lib.itoa n).toArray⟩) ∧ w' = w :=
  rdigits_upto n.natAbs n w (Nat.le_refl _) h0 h1
theorem rwal_any (n : Int) (h0 : -9223372036854775808 ≤ n) (h1 : n ≤ 9223372036854775807) (w : World) :
    Calls Tryd.prog 12 #[.int .i64 n] w fun e w' => e = .returned (.string ⟨(walN n).toArray⟩) ∧ w' = w := by
  by_cases hn : 1 ≤ n
  · by_cases hm : n ≤ 2147483647
    · have hl : ¬ 9223372036854775807 < 4 + (Lib.itoa n).length := by have := itoa_short h0 h1; omega
      have HW := Lib.hid (walN_in hn hm)
      have hn' : 0 < n := by omega
      go_enter Tryd.func12, Tryd.ntmps12
      go_wp2_with (first
        | (go_at_call 15; (with_reducible refine (rdigits_any n _ h0 h1).mono ?_); rintro e w' ⟨rfl, rfl⟩))
      go_ret
      refine ⟨?_, rfl⟩
      rw [HW.out]
      exact congrArg (fun x => Ending.returned (.string x)) (app_text [119, 97, 108, 45] (Lib.itoa n))
    · rw [walN_out (n := n) (by omega)]
      go_enter Tryd.func12, Tryd.ntmps12
      go_wp2
      go_ret
      exact ⟨rfl, rfl⟩
  · rw [walN_out (n := n) (by omega)]
    have hn' : ¬ 0 < n := by omega
    go_enter Tryd.func12, Tryd.ntmps12
    go_wp2
    go_ret
    exact ⟨rfl, rfl⟩
theorem rpool_any (n : Int) (h0 : -9223372036854775808 ≤ n) (h1 : n ≤ 9223372036854775807) (w : World) :
    Calls Tryd.prog 13 #[.int .i64 n] w fun e w' => e = .returned (.string ⟨(poolN n).toArray⟩) ∧ w' = w := by
  by_cases hn : 0 ≤ n
  · by_cases hm : n ≤ 2
    · have hl : ¬ 9223372036854775807 < 5 + (Lib.itoa n).length := by have := itoa_short h0 h1; omega
      have HW := Lib.hid (poolN_in hn hm)
      have hn' : -1 < n := by omega
      go_enter Tryd.func13, Tryd.ntmps13
      go_wp2_with (first
        | (go_at_call 15; (with_reducible refine (rdigits_any n _ h0 h1).mono ?_); rintro e w' ⟨rfl, rfl⟩))
      go_ret
      refine ⟨?_, rfl⟩
      rw [HW.out]
      exact congrArg (fun x => Ending.returned (.string x)) (app_text [102, 114, 101, 101, 45] (Lib.itoa n))
    · rw [poolN_out (n := n) (by omega)]
      go_enter Tryd.func13, Tryd.ntmps13
      go_wp2
      go_ret
      exact ⟨rfl, rfl⟩
  · rw [poolN_out (n := n) (by omega)]
    have hn' : ¬ -1 < n := by omega
    go_enter Tryd.func13, Tryd.ntmps13
    go_wp2
    go_ret
    exact ⟨rfl, rfl⟩
theorem dec_step (l : List UInt8) (i a : Nat) (x : UInt8) (h4 : 4 ≤ i) (hg : l[i]? = some x) (hd : Lib.decFrom 0 ((l.drop 4).take (i - 4)) = some a) (hx : 48 ≤ x.toNat ∧ x.toNat ≤ 57) (hl : l.length ≤ 14) :
    Lib.decFrom 0 ((l.drop 4).take (i + 1 - 4)) = some (10 * a + x.toNat - 48) ∧ 10 * a + x.toNat - 48 < 10000000000 := by
  have hv : Lib.digitVal x = some (x.toNat - 48) := by unfold Lib.digitVal; rw [if_pos hx]
  have h1 := Lib.decFrom_take (l.drop 4) (i - 4) 0 a x (x.toNat - 48) hd (by rw [List.getElem?_drop, show 4 + (i - 4) = i from by omega]; exact hg) hv
  rw [show i - 4 + 1 = i + 1 - 4 from by omega, show a * 10 + (x.toNat - 48) = 10 * a + x.toNat - 48 from by omega] at h1
  refine ⟨h1, ?_⟩
  have h2 := Lib.decFrom_lt _ _ _ h1
  have h3 : ((l.drop 4).take (i + 1 - 4)).length ≤ 10 := by simp; omega
  have h5 : (10 : Nat) ^ ((l.drop 4).take (i + 1 - 4)).length ≤ 10 ^ 10 := Nat.pow_le_pow_right (by omega) h3
  omega
set_option maxRecDepth 8000 in
set_option maxHeartbeats 1000000 in
theorem rparse_list (l : List UInt8) (w : World) (hs : l.length ≤ 281474976710656) : Calls Tryd.prog 6 #[.string ⟨l.toArray⟩] w fun e w' => ∃ k n, e = .returned (.tuple #[.int .i64 k, .int .i64 n]) ∧ parsed l k n ∧ w' = w := by
  go_enter Tryd.func6, Tryd.ntmps6
  go_wp2
  go_loop [4] (fun kv => ∃ k : Nat, kv = .int .i64 k ∧ k ≤ 3 ∧ Hid (∀ j : Nat, j < k → poolN j ≠ l)) (fun kv => 3 - (intOf kv).toNat)
  case atStart => exact ⟨0, rfl, by omega, fun j hj => absurd hj (by omega)⟩
  case round =>
    obtain ⟨k, rfl, hk, HK⟩ := hrel
    by_cases hlt : (k : Int) ≤ 2
    · cases hq : (poolN k == l) with
      | true =>
        have HQ := Lib.hid hq
        go_wp2_with (first
          | (go_at_call 13; (with_reducible refine (rpool_any k (by omega) (by omega) _).mono ?_); rintro e w' ⟨rfl, rfl⟩))
        go_ret2
        exact ⟨_, _, rfl, .inl ⟨rfl, by omega, by omega, by have := HQ.out; simp at this; exact this.symm⟩, rfl⟩
      | false =>
        have HQ := Lib.hid hq
        go_wp2_with (first
          | (go_at_call 13; (with_reducible refine (rpool_any k (by omega) (by omega) _).mono ?_); rintro e w' ⟨rfl, rfl⟩))
        go_round
        case rel =>
          refine ⟨k + 1, by go_num, by omega, fun j hj => ?_⟩
          by_cases hji : j = k
          · subst hji; simpa using HQ.out
          · exact HK.out j (by omega)
        case measure => simp [intOf]; omega
    · obtain rfl : k = 3 := by omega
      have HP := Lib.hid (not_pool (l := l) (HK.out 0 (by omega)) (HK.out 1 (by omega)) (HK.out 2 (by omega)))
      by_cases h5 : (l.length : Int) < 5
      · have HN := Lib.hid (show parsed l 0 0 from ref_none HP.out (fun h => by have := (wal_form h).1; omega))
        go_wp2
        go_ret2
        exact ⟨_, _, rfl, HN.out, rfl⟩
      by_cases h14 : (14 : Int) < (l.length : Int)
      · have HN := Lib.hid (show parsed l 0 0 from ref_none HP.out (fun h => by have := (wal_form h).2.1; omega))
        go_wp2
        go_ret2
        exact ⟨_, _, rfl, HN.out, rfl⟩
      have h4 : (4 : Int) ≤ (l.length : Int) := by omega
      have hx : ((⟨l.toArray⟩ : ByteArray).extract 0 4).toList = l.take 4 := by rw [Lib.extract_toList]; simp
      by_cases hp : l.take 4 = [119, 97, 108, 45]
      · have hb : (((⟨l.toArray⟩ : ByteArray).extract 0 4).toList == [119, 97, 108, 45]) = true := by rw [hx, hp]; rfl
        have HI : Hid (∀ (c : UInt8) (w : World), Calls Tryd.prog 18 #[.string ⟨#[48, 49, 50, 51, 52, 53, 54, 55, 56, 57]⟩, .int .u8 (c.toNat : Int)] w fun e w' => e = .returned (.bool (decide (48 ≤ c.toNat ∧ c.toNat ≤ 57))) ∧ w' = w) := by
          intro c w
          have := in_any ⟨#[48, 49, 50, 51, 52, 53, 54, 55, 56, 57]⟩ c w (by decide)
          rw [← digit_list]
          exact this
        have hn5 : 5 ≤ l.length := by omega
        have hn14 : l.length ≤ 14 := by omega
        clear hx hp HK hlt h5 h14 hs hk
        go_wp2
        go_loop [5, 6] (fun nv iv => ∃ i a : Nat, nv = .int .i64 a ∧ iv = .int .i64 i ∧ 4 ≤ i ∧ i ≤ l.length ∧ a < 10000000000 ∧ Hid (Lib.decFrom 0 ((l.drop 4).take (i - 4)) = some a)) (fun _ iv => l.length - (intOf iv).toNat)
        case atStart => exact ⟨4, 0, rfl, rfl, by omega, by omega, by omega, rfl⟩
        case round =>
          obtain ⟨i, a, rfl, rfl, hi4, hi, ha, HD⟩ := hrel
          by_cases hlt : (i : Int) < (l.length : Int)
          · have hn : i < l.length := by omega
            have hg : l[i]? = some l[i] := List.getElem?_eq_getElem hn
            obtain ⟨x, hx⟩ : ∃ x, l[i] = x := ⟨_, rfl⟩
            have hb1 : (⟨l.toArray⟩ : ByteArray)[i]'(by rw [size_eq]; exact hn) = x := hx
            have hxb : x.toNat < 256 := x.toNat_lt
            rw [hx] at hg
            have HG := Lib.hid hg
            clear hg
            by_cases hd : 48 ≤ x.toNat ∧ x.toNat ≤ 57
            · have HS := Lib.hid (dec_step l i a x hi4 HG.out HD.out hd hn14)
              go_wp2_with (first
                | (go_at_call 18; (with_reducible refine (HI.out x _).mono ?_); rintro e w' ⟨rfl, rfl⟩))
              go_round
              case rel =>
                exact ⟨i + 1, 10 * a + x.toNat - 48, by congr 1; omega, by go_num, by omega, by omega, HS.out.2, HS.out.1⟩
              case measure => simp [intOf]; omega
            · have HN := Lib.hid (show parsed l 0 0 from ref_none HP.out (fun h => hd ((wal_form h).2.2.2.1 x (by
                have h1 := HG.out
                rw [List.mem_iff_getElem?]
                exact ⟨i - 4, by rw [List.getElem?_drop, show 4 + (i - 4) = i from by omega]; exact h1⟩))))
              go_wp2_with (first
                | (go_at_call 18; (with_reducible refine (HI.out x _).mono ?_); rintro e w' ⟨rfl, rfl⟩))
              go_ret2
              exact ⟨_, _, rfl, HN.out, rfl⟩
          · have hq : i = l.length := by omega
            have HD2 := Lib.hid (show Lib.decFrom 0 (l.drop 4) = some a from by have h1 := HD.out; rwa [hq, List.take_of_length_le (by simp)] at h1)
            clear HD
            cases hw : (walN a == l) with
            | true =>
              have HW := Lib.hid hw
              go_wp2_with (first
                | (go_at_call 12; (with_reducible refine (rwal_any a (by omega) (by omega) _).mono ?_); rintro e w' ⟨rfl, rfl⟩))
              go_ret2
              exact ⟨_, _, rfl, ref_hit a (by intro h; subst h; simp at hn5) (by simpa using HW.out), rfl⟩
            | false =>
              have HW := Lib.hid hw
              go_wp2_with (first
                | (go_at_call 12; (with_reducible refine (rwal_any a (by omega) (by omega) _).mono ?_); rintro e w' ⟨rfl, rfl⟩))
              go_ret2
              exact ⟨_, _, rfl, ref_none HP.out (ref_miss a HD2.out (by simpa using HW.out)), rfl⟩
      · have hb : (((⟨l.toArray⟩ : ByteArray).extract 0 4).toList == [119, 97, 108, 45]) = false := by rw [hx]; simpa using hp
        have HN := Lib.hid (show parsed l 0 0 from ref_none HP.out (fun h => hp (wal_form h).2.2.1))
        clear hx hp
        go_wp2
        go_ret2
        exact ⟨_, _, rfl, HN.out, rfl⟩
end Go.Proofs.YtgdoojgebhemnaaDoor
