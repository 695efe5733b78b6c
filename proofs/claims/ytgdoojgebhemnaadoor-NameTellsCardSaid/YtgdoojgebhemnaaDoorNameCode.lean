/-
  WHAT THE PROGRAM'S OWN FUNCTIONS OF LAYER 5 (name) ANSWER: fits, Right, Digits, Wal, Pool, Parse (and strings.Cut at a minus). The library's table of powers and its two sentinel errors lie as the form says.
-/
import Derived.Test.YtgdoojgebhemnaaDoorNameMath
import Derived.Test.YtgdoojgebhemnaaDoorShelf
import Derived.WalkLawsBesides
import Derived.WalkSpells
import Derived.Stop.LaidErr
import Derived.Shelf.Strconv.ErrVarAll
namespace Go.Proofs.YtgdoojgebhemnaaDoor
open Go.Proofs Go.RowKit
open Go.Lib (toList_data size_eq)
/-- the variables of the library that the walk reads, as they are laid -/
def Vars (w : World) : Prop := Lib.TabIs Tryd.prog w "internal/strconv.uint64pow10" .u64 Lib.pow10Tab ∧ (∃ tp p, w.var? Tryd.prog "strconv.ErrSyntax" = some #[.iface tp p]) ∧ (∃ tp p, w.var? Tryd.prog "strconv.ErrRange" = some #[.iface tp p])
theorem pow10_tab {w : World} (h : Lib.TabIs Tryd.prog w "internal/strconv.uint64pow10" .u64 [1, 10, 100, 1000, 10000, 100000, 1000000, 10000000, 100000000, 1000000000, 10000000000, 100000000000, 1000000000000, 10000000000000, 100000000000000, 1000000000000000, 10000000000000000, 100000000000000000, 1000000000000000000, 10000000000000000000]) : Lib.TabIs Tryd.prog w "internal/strconv.uint64pow10" .u64 Lib.pow10Tab := by
  rw [show Lib.pow10Tab = [1, 10, 100, 1000, 10000, 100000, 1000000, 10000000, 100000000, 1000000000, 10000000000, 100000000000, 1000000000000, 10000000000000, 100000000000000, 1000000000000000, 10000000000000000, 100000000000000000, 1000000000000000000, 10000000000000000000] from by decide +kernel]
  exact h
theorem var_below {P : Program} {w w' : World} {n : String} {cs : Array Value} (h : w.var? P n = some cs) (hb : Below w.heap.size w w') : w'.var? P n = some cs := by
  unfold World.var? at *
  cases hg : P.globalNamed n with
  | none => simp [hg] at h
  | some g =>
    simp only [hg, Option.bind_some] at h ⊢
    have hlt : g < w.heap.size := by
      rcases Nat.lt_or_ge g w.heap.size with h' | h'
      · exact h'
      · simp [Array.getElem?_eq_none h'] at h
    rw [hb.block g hlt]; exact h
theorem Vars.on {w w' : World} (h : Vars w) (hb : Below w.heap.size w w') : Vars w' := by
  obtain ⟨h1, ⟨t1, p1, h2⟩, t2, p2, h3⟩ := h
  exact ⟨var_below h1 hb, ⟨t1, p1, var_below h2 hb⟩, t2, p2, var_below h3 hb⟩
theorem chain {a b c : World} (h : Below a.heap.size a b) (k : Below b.heap.size b c) : Below a.heap.size a c := h.trans (k.mono h.size)
theorem fits_any (c : UInt8) (w : World) : Calls Tryd.prog 19 #[.int .u8 (c.toNat : Int)] w fun e w' => e = .returned (.bool (okb c)) ∧ w' = w := by
  go_enter Tryd.func19, Tryd.ntmps19
  go_wp2
  all_goals
    go_ret
    refine ⟨ret_bool ?_, rfl⟩
    unfold okb
    rw [Bool.eq_iff_iff]
    simp only [Bool.or_eq_true, decide_eq_true_eq, beq_iff_eq]
    first | omega | (refine iff_of_true trivial ?_; omega)
theorem getD_mem' {l : List UInt8} {k : Nat} (h : k < l.length) : l.getD k 0 ∈ l := by
  simp [List.getD, h]
theorem nameN_false {l : List UInt8} {i : Nat} (hi : i < l.length) (h : okb (l.getD i 0) = false) : nameN l = false := by
  unfold nameN
  have : l.all okb = false := by
    rw [List.all_eq_false]
    exact ⟨l.getD i 0, getD_mem' hi, by rw [h]; simp⟩
  rw [this, Bool.and_false]
theorem nameN_true {l : List UInt8} (h0 : 0 < l.length) (h1 : l.length ≤ 24) (h : ∀ j, j < l.length → okb (l.getD j 0) = true) : nameN l = true := by
  unfold nameN
  have : l.all okb = true := by
    rw [List.all_eq_true]
    intro x hx
    obtain ⟨j, hj, rfl⟩ := List.getElem_of_mem hx
    have := h j hj
    simpa [List.getD, hj] using this
  rw [this, decide_eq_true h0, decide_eq_true h1]; rfl
theorem size_len (s : ByteArray) : s.data.toList.length = s.size := (size_eq s).symm
theorem byte_getD (s : ByteArray) (i : Nat) (h : i < s.size) : s[i] = s.data.toList.getD i 0 := by
  have h1 : i < s.data.size := h
  rw [List.getD, Array.getElem?_toList, Array.getElem?_eq_getElem h1]
  rfl
theorem right_any (s : ByteArray) (w : World) (hs : s.size ≤ 281474976710656) : Calls Tryd.prog 7 #[.string s] w fun e w' => e = .returned (.bool (nameN s.data.toList)) ∧ w' = w := by
  have hl := size_len s
  by_cases h0 : s.size = 0
  · have hv : nameN s.data.toList = false := by unfold nameN; rw [hl, h0]; rfl
    have h1 : s.toList = [] := by rw [toList_data, ← List.length_eq_zero_iff, hl, h0]
    rw [hv]
    clear hl hv
    go_enter Tryd.func7, Tryd.ntmps7
    go_wp2
    go_ret
    exact ⟨rfl, rfl⟩
  by_cases h24 : (24 : Int) < (s.size : Int)
  · have hv : nameN s.data.toList = false := by unfold nameN; rw [hl, show decide (s.size ≤ 24) = false from decide_eq_false (by omega), Bool.and_false, Bool.false_and]
    have h1 : ¬ s.toList = [] := by rw [toList_data, ← List.length_eq_zero_iff, hl]; exact h0
    have h2 : s.toList.isEmpty = false := by rw [List.isEmpty_eq_false_iff]; exact h1
    rw [hv]
    clear hl hv
    go_enter Tryd.func7, Tryd.ntmps7
    go_wp2
    go_ret
    exact ⟨rfl, rfl⟩
  have h1 : ¬ s.toList = [] := by rw [toList_data, ← List.length_eq_zero_iff, hl]; exact h0
  have h2 : s.toList.isEmpty = false := by rw [List.isEmpty_eq_false_iff]; exact h1
  have HL := Lib.hid hl
  clear hl
  go_enter Tryd.func7, Tryd.ntmps7
  go_wp2
  go_loop [13] (fun iv => ∃ i : Nat, iv = .int .i64 i ∧ i ≤ s.size ∧ Hid (∀ j, j < i → okb (s.data.toList.getD j 0) = true)) (fun iv => s.size - (intOf iv).toNat)
  case atStart => exact ⟨0, rfl, by omega, fun j hj => absurd hj (by omega)⟩
  case round =>
    obtain ⟨i, rfl, hi, HI⟩ := hrel
    by_cases hlt : (i : Int) < (s.size : Int)
    · have hn : i < s.size := by omega
      have hb := byte_getD s i hn
      obtain ⟨c, hc⟩ : ∃ c, s.data.toList.getD i 0 = c := ⟨_, rfl⟩
      rw [hc] at hb
      have HC := Lib.hid hc
      clear hc
      cases ho : okb c with
      | false =>
        have HO := Lib.hid ho
        go_wp2_with (first
          | (go_at_call 19; (with_reducible refine (fits_any c _).mono ?_); rintro e w' ⟨rfl, rfl⟩))
        go_ret
        refine ⟨ret_bool ?_, rfl⟩
        rw [nameN_false (i := i) (by rw [HL.out]; exact hn) (by rw [HC.out]; exact HO.out)]
      | true =>
        have HO := Lib.hid ho
        go_wp2_with (first
          | (go_at_call 19; (with_reducible refine (fits_any c _).mono ?_); rintro e w' ⟨rfl, rfl⟩))
        go_round
        case rel =>
          refine ⟨i + 1, by go_num, by omega, fun j hj => ?_⟩
          by_cases hji : j = i
          · subst hji; rw [HC.out]; exact HO.out
          · exact HI.out j (by omega)
        case measure => simp [intOf]; omega
    · go_wp2
      go_ret
      refine ⟨ret_bool ?_, rfl⟩
      rw [nameN_true (by rw [HL.out]; omega) (by rw [HL.out]; omega) (fun j hj => HI.out j (by rw [HL.out] at hj; omega))]
theorem below_itoa {w w' : World} (h : ∃ (k : Nat) (os : Array Obj), w' = Sort.grow (w.drewN k) os) : Below w.heap.size w w' := by
  obtain ⟨k, os, rfl⟩ := h
  refine ⟨rfl, rfl, rfl, ?_, fun j hj => ?_⟩
  · show w.heap.size ≤ (w.heap ++ os).size
    simp
  · show (w.heap ++ os)[j]? = w.heap[j]?
    rw [Array.getElem?_append_left hj]
theorem digits_any (n : Int) (h0 : -9223372036854775808 ≤ n) (h1 : n ≤ 9223372036854775807) (w : World) (hv : Vars w) :
    Calls Tryd.prog 14 #[.int .i64 n] w fun e w' => e = .returned (.string ⟨(Lib.itoa n).toArray⟩) ∧ Below w.heap.size w w' := by
  have HV := Lib.hid hv
  clear hv
  go_enter Tryd.func14, Tryd.ntmps14
  go_wp2_with (first
    | (go_at_call 20; (refine (Tryd.strconv_Itoa n h0 h1 _ HV.out.1).mono ?_); rintro e w' ⟨rfl, hb⟩; have HB := Lib.hid (below_itoa hb); clear hb))
  go_ret
  exact ⟨rfl, HB.out⟩
theorem app_text (a b : List UInt8) : (⟨a.toArray⟩ ++ ⟨b.toArray⟩ : ByteArray) = ⟨(a ++ b).toArray⟩ := by
  apply ByteArray.ext
  simp
theorem wal_any (n : Int) (h0 : -9223372036854775808 ≤ n) (h1 : n ≤ 9223372036854775807) (w : World) (hv : Vars w) :
    Calls Tryd.prog 10 #[.int .i64 n] w fun e w' => e = .returned (.string ⟨(walN n).toArray⟩) ∧ Below w.heap.size w w' := by
  have HV := Lib.hid hv
  clear hv
  by_cases hn : 1 ≤ n
  · by_cases hm : n ≤ 2147483647
    · have hl : ¬ 9223372036854775807 < 4 + (Lib.itoa n).length := by have := itoa_short h0 h1; omega
      have HW := Lib.hid (walN_in hn hm)
      go_enter Tryd.func10, Tryd.ntmps10
      go_wp2_with (first
        | (go_at_call 14; (refine (digits_any n h0 h1 _ HV.out).mono ?_); rintro e w' ⟨rfl, hb⟩; have HB := Lib.hid hb; clear hb))
      go_ret
      refine ⟨?_, HB.out⟩
      rw [HW.out]
      exact congrArg (fun x => Ending.returned (.string x)) (app_text [119, 97, 108, 45] (Lib.itoa n))
    · have hw := walN_out (n := n) (by omega)
      rw [hw]
      clear hw
      go_enter Tryd.func10, Tryd.ntmps10
      go_wp2
      go_ret
      exact ⟨rfl, Below.refl _ _⟩
  · have hw := walN_out (n := n) (by omega)
    rw [hw]
    clear hw
    go_enter Tryd.func10, Tryd.ntmps10
    go_wp2
    go_ret
    exact ⟨rfl, Below.refl _ _⟩
theorem pool_any (n : Int) (h0 : -9223372036854775808 ≤ n) (h1 : n ≤ 9223372036854775807) (w : World) (hv : Vars w) :
    Calls Tryd.prog 11 #[.int .i64 n] w fun e w' => e = .returned (.string ⟨(poolN n).toArray⟩) ∧ Below w.heap.size w w' := by
  have HV := Lib.hid hv
  clear hv
  by_cases hn : 0 ≤ n
  · by_cases hm : n ≤ 2
    · have hl : ¬ 9223372036854775807 < 5 + (Lib.itoa n).length := by have := itoa_short h0 h1; omega
      have HW := Lib.hid (poolN_in hn hm)
      go_enter Tryd.func11, Tryd.ntmps11
      go_wp2_with (first
        | (go_at_call 14; (refine (digits_any n h0 h1 _ HV.out).mono ?_); rintro e w' ⟨rfl, hb⟩; have HB := Lib.hid hb; clear hb))
      go_ret
      refine ⟨?_, HB.out⟩
      rw [HW.out]
      exact congrArg (fun x => Ending.returned (.string x)) (app_text [102, 114, 101, 101, 45] (Lib.itoa n))
    · have hw := poolN_out (n := n) (by omega)
      rw [hw]
      clear hw
      go_enter Tryd.func11, Tryd.ntmps11
      go_wp2
      go_ret
      exact ⟨rfl, Below.refl _ _⟩
  · have hw := poolN_out (n := n) (by omega)
    rw [hw]
    clear hw
    go_enter Tryd.func11, Tryd.ntmps11
    go_wp2
    go_ret
    exact ⟨rfl, Below.refl _ _⟩
theorem idx_lt : ∀ (l : List UInt8) (c : UInt8), Lib.indexByte l c < l.length
  | [], _ => by simp [Lib.indexByte]
  | b :: l, c => by
    have := idx_lt l c
    have := Lib.indexByte_ge l c
    simp only [Lib.indexByte, List.length_cons]
    split
    · omega
    · split <;> omega
theorem icut_any (s : ByteArray) (w : World) (hs : s.size ≤ 281474976710656) : Calls Tryd.prog 21 #[.string s, .string ⟨#[45]⟩] w fun e w' => ∃ b, e = .returned (.tuple #[.string ⟨(headN s.data.toList).toArray⟩, .string ⟨(restN s.data.toList).toArray⟩, .bool b]) ∧ Below w.heap.size w w' := by
  have hg := Lib.indexByte_ge s.data.toList 45
  have hlt := idx_lt s.data.toList 45
  rw [show s.data.toList.length = s.size from (size_eq s).symm] at hlt
  by_cases h0 : Lib.indexByte s.data.toList 45 < 0
  · have hh : headN s.data.toList = s.data.toList := if_pos h0
    have hr : restN s.data.toList = [] := if_pos h0
    rw [hh, hr]
    clear hh hr hg
    go_enter Tryd.func21, Tryd.ntmps21
    go_wp2_with (first
      | (go_at_call 25; (refine (Tryd.stringslite_Index_one s 45 _).mono ?_); rintro e w' ⟨rfl, rfl⟩))
    go_ret3
    exact ⟨_, rfl, Below.refl _ _⟩
  · obtain ⟨i, hi⟩ : ∃ i : Nat, Lib.indexByte s.data.toList 45 = i := ⟨(Lib.indexByte s.data.toList 45).toNat, by omega⟩
    have hh : headN s.data.toList = s.data.toList.take i := by unfold headN; rw [hi, if_neg (by omega)]; rfl
    have hr : restN s.data.toList = s.data.toList.drop (i + 1) := by unfold restN; rw [hi, if_neg (by omega)]; rfl
    rw [hh, hr]
    have HI := Lib.hid hi
    rw [hi] at hlt
    have c1 : (0 : Int) ≤ (i : Int) := by omega
    have c2 : (i : Int) ≤ (s.size : Int) := by omega
    have c3 : (0 : Int) ≤ (i : Int) + 1 := by omega
    have c4 : (i : Int) + 1 ≤ (s.size : Int) := by omega
    clear hh hr hg h0 hi
    go_enter Tryd.func21, Tryd.ntmps21
    go_wp2_with (first
      | (go_at_call 25; (refine (Tryd.stringslite_Index_one s 45 _).mono ?_); rintro e w' ⟨rfl, rfl⟩; rw [HI.out]))
    go_region
    go_wp2
    go_ret3
    refine ⟨true, ?_, (Below.refl _ _).drew⟩
    show Ending.returned (.tuple #[.string (s.extract 0 i), .string (s.extract (i + 1) s.size), .bool true]) = _
    rw [Lib.extract_eq, Lib.extract_eq, size_eq, List.drop_zero, Nat.sub_zero, List.take_of_length_le (l := s.data.toList.drop (i + 1)) (by simp)]
theorem cut_any (s : ByteArray) (w : World) (hs : s.size ≤ 281474976710656) : Calls Tryd.prog 16 #[.string s, .string ⟨#[45]⟩] w fun e w' => ∃ b, e = .returned (.tuple #[.string ⟨(headN s.data.toList).toArray⟩, .string ⟨(restN s.data.toList).toArray⟩, .bool b]) ∧ Below w.heap.size w w' := by
  go_enter Tryd.func16, Tryd.ntmps16
  go_wp2_with (first
    | (go_at_call 21; (refine (icut_any s _ hs).mono ?_); rintro e w' ⟨b, rfl, hb⟩; have HB := Lib.hid hb; clear hb))
  go_ret3
  exact ⟨_, rfl, HB.out⟩
theorem atoi_ok (rs : List UInt8) (v : Int) (h : Lib.atoiAll rs = .ok v) (w : World) (hs : rs.length ≤ 281474976710656) :
    Calls Tryd.prog 17 #[.string ⟨rs.toArray⟩] w fun e w' => e = .returned (.tuple #[.int .i64 v, .nilIface]) ∧ Below w.heap.size w w' := by
  refine (Tryd.strconv_Atoi_ok ⟨rs.toArray⟩ (by rw [size_eq]; show rs.length ≤ _; omega) v h w).mono ?_
  rintro e w' ⟨he, hw⟩
  refine ⟨he, ?_⟩
  rcases hw with rfl | ⟨t, rfl⟩
  · exact Below.refl _ _
  · exact Lib.bytesWorld_below _ _ _
theorem atoi_err (rs : List UInt8) (h : ∀ v, Lib.atoiAll rs ≠ .ok v) (w : World) (hs : rs.length ≤ 281474976710656) (hv : Vars w) :
    Calls Tryd.prog 17 #[.string ⟨rs.toArray⟩] w fun e w' => ∃ v N, e = .returned (.tuple #[.int .i64 v, .iface 42 (.pointer (some ⟨N, 0, none⟩))]) ∧ Below w.heap.size w w' := by
  obtain ⟨_, ⟨t1, p1, h1⟩, t2, p2, h2⟩ := hv
  have hl : (⟨rs.toArray⟩ : ByteArray).size ≤ 281474976710656 := by rw [size_eq]; exact hs
  rcases ha : Lib.atoiAll rs with v | _ | _
  · exact absurd ha (h v)
  · have hc : Calls Tryd.prog 17 #[.string ⟨rs.toArray⟩] w fun e w' => ∃ N, e = .returned (.tuple #[.int .i64 0, .iface 42 (.pointer (some ⟨N, 0, none⟩))]) ∧ w.heap.size ≤ N ∧ _ ∧ Below w.heap.size w w' := Any.strconv_Atoi_syntax_var Tryd.laysC172 ⟨rs.toArray⟩ hl ha t1 p1 w h1
    refine hc.mono ?_
    rintro e w' ⟨N, he, _, _, hb⟩
    exact ⟨_, N, he, hb⟩
  · have hc : Calls Tryd.prog 17 #[.string ⟨rs.toArray⟩] w fun e w' => ∃ N, e = .returned (.tuple #[.int .i64 (Lib.atoiSat rs), .iface 42 (.pointer (some ⟨N, 0, none⟩))]) ∧ w.heap.size ≤ N ∧ _ ∧ Below w.heap.size w w' := Any.strconv_Atoi_range_var Tryd.laysC172 ⟨rs.toArray⟩ hl ha t2 p2 w h2
    refine hc.mono ?_
    rintro e w' ⟨N, he, _, _, hb⟩
    exact ⟨_, N, he, hb⟩
set_option maxRecDepth 8000 in
set_option maxHeartbeats 1000000 in
theorem parse_list (l : List UInt8) (w : World) (hs : l.length ≤ 281474976710656) (hv : Vars w) : Calls Tryd.prog 5 #[.string ⟨l.toArray⟩] w fun e w' => ∃ k n, e = .returned (.tuple #[.int .i64 k, .int .i64 n]) ∧ parsed l k n ∧ Below w.heap.size w w' := by
  have HV := Lib.hid hv
  clear hv
  obtain ⟨hd, hh⟩ : ∃ x, headN l = x := ⟨_, rfl⟩
  obtain ⟨rs, hr⟩ : ∃ x, restN l = x := ⟨_, rfl⟩
  have hrl : rs.length ≤ 281474976710656 := by
    rw [← hr]; unfold restN; split
    · simp
    · simp; omega
  have hcut : ∀ w, Calls Tryd.prog 16 #[.string ⟨l.toArray⟩, .string ⟨#[45]⟩] w fun e w' => ∃ b, e = .returned (.tuple #[.string ⟨hd.toArray⟩, .string ⟨rs.toArray⟩, .bool b]) ∧ Below w.heap.size w w' := by
    intro w
    have := cut_any ⟨l.toArray⟩ w (by rw [size_eq]; exact hs)
    rw [show (⟨l.toArray⟩ : ByteArray).data.toList = l from rfl, hh, hr] at this
    exact this
  have HH := Lib.hid hh
  have HR := Lib.hid hr
  clear hh hr
  by_cases h1 : hd = [102, 114, 101, 101]
  · subst h1
    by_cases ha : ∃ v, Lib.atoiAll rs = .ok v
    · obtain ⟨v, ha⟩ := ha
      have hvb := Lib.atoiAll_bounds ha
      have HA := Lib.hid ha
      clear ha
      cases hq : (poolN v == l) with
      | true =>
        have HQ := Lib.hid hq
        go_enter Tryd.func5, Tryd.ntmps5
        go_wp2_with (first
          | (go_at_call 16; (refine (hcut _).mono ?_); rintro e w1 ⟨b, rfl, hb⟩; have HB := Lib.hid hb; clear hb)
          | (go_at_call 17; (refine (atoi_ok rs v HA.out _ (by omega)).mono ?_); rintro e w2 ⟨rfl, hb⟩; have HB2 := Lib.hid (chain HB.out hb); clear hb)
          | (go_at_call 10; (refine (wal_any _ (by omega) (by omega) _ (HV.out.on HB2.out)).mono ?_); rintro e w3 ⟨rfl, hb⟩; have HB3 := Lib.hid (chain HB2.out hb); clear hb)
          | (go_at_call 11; (refine (pool_any _ (by omega) (by omega) _ (HV.out.on HB2.out)).mono ?_); rintro e w3 ⟨rfl, hb⟩; have HB3 := Lib.hid (chain HB2.out hb); clear hb))
        go_ret2
        exact ⟨_, _, rfl, parse_free_hit HH.out (by simpa using HQ.out), HB3.out⟩
      | false =>
        have HQ := Lib.hid hq
        go_enter Tryd.func5, Tryd.ntmps5
        go_wp2_with (first
          | (go_at_call 16; (refine (hcut _).mono ?_); rintro e w1 ⟨b, rfl, hb⟩; have HB := Lib.hid hb; clear hb)
          | (go_at_call 17; (refine (atoi_ok rs v HA.out _ (by omega)).mono ?_); rintro e w2 ⟨rfl, hb⟩; have HB2 := Lib.hid (chain HB.out hb); clear hb)
          | (go_at_call 10; (refine (wal_any _ (by omega) (by omega) _ (HV.out.on HB2.out)).mono ?_); rintro e w3 ⟨rfl, hb⟩; have HB3 := Lib.hid (chain HB2.out hb); clear hb)
          | (go_at_call 11; (refine (pool_any _ (by omega) (by omega) _ (HV.out.on HB2.out)).mono ?_); rintro e w3 ⟨rfl, hb⟩; have HB3 := Lib.hid (chain HB2.out hb); clear hb))
        go_ret2
        exact ⟨_, _, rfl, parse_free_miss HH.out (by rw [HR.out]; exact HA.out) (by simpa using HQ.out), HB3.out⟩
    · have HA := Lib.hid (show ∀ v, Lib.atoiAll rs ≠ .ok v from fun v hv => ha ⟨v, hv⟩)
      clear ha
      go_enter Tryd.func5, Tryd.ntmps5
      go_wp2_with (first
        | (go_at_call 16; (refine (hcut _).mono ?_); rintro e w1 ⟨b, rfl, hb⟩; have HB := Lib.hid hb; clear hb)
        | (go_at_call 17; (refine (atoi_err rs HA.out _ (by omega) (HV.out.on HB.out)).mono ?_); rintro e w2 ⟨v, N, rfl, hb⟩; have HB2 := Lib.hid (chain HB.out hb); clear hb)
        | (go_at_call 10; (refine (wal_any _ (by omega) (by omega) _ (HV.out.on HB2.out)).mono ?_); rintro e w3 ⟨rfl, hb⟩; have HB3 := Lib.hid (chain HB2.out hb); clear hb)
        | (go_at_call 11; (refine (pool_any _ (by omega) (by omega) _ (HV.out.on HB2.out)).mono ?_); rintro e w3 ⟨rfl, hb⟩; have HB3 := Lib.hid (chain HB2.out hb); clear hb))
      go_ret2
      exact ⟨_, _, rfl, parse_none (by rw [HR.out]; exact HA.out), HB2.out⟩
  by_cases h2 : hd = [119, 97, 108]
  · subst h2
    clear h1
    by_cases ha : ∃ v, Lib.atoiAll rs = .ok v
    · obtain ⟨v, ha⟩ := ha
      have hvb := Lib.atoiAll_bounds ha
      have HA := Lib.hid ha
      clear ha
      cases hq : (walN v == l) with
      | true =>
        have HQ := Lib.hid hq
        go_enter Tryd.func5, Tryd.ntmps5
        go_wp2_with (first
          | (go_at_call 16; (refine (hcut _).mono ?_); rintro e w1 ⟨b, rfl, hb⟩; have HB := Lib.hid hb; clear hb)
          | (go_at_call 17; (refine (atoi_ok rs v HA.out _ (by omega)).mono ?_); rintro e w2 ⟨rfl, hb⟩; have HB2 := Lib.hid (chain HB.out hb); clear hb)
          | (go_at_call 10; (refine (wal_any _ (by omega) (by omega) _ (HV.out.on HB2.out)).mono ?_); rintro e w3 ⟨rfl, hb⟩; have HB3 := Lib.hid (chain HB2.out hb); clear hb)
          | (go_at_call 11; (refine (pool_any _ (by omega) (by omega) _ (HV.out.on HB2.out)).mono ?_); rintro e w3 ⟨rfl, hb⟩; have HB3 := Lib.hid (chain HB2.out hb); clear hb))
        go_ret2
        exact ⟨_, _, rfl, parse_wal_hit HH.out (by simpa using HQ.out), HB3.out⟩
      | false =>
        have HQ := Lib.hid hq
        go_enter Tryd.func5, Tryd.ntmps5
        go_wp2_with (first
          | (go_at_call 16; (refine (hcut _).mono ?_); rintro e w1 ⟨b, rfl, hb⟩; have HB := Lib.hid hb; clear hb)
          | (go_at_call 17; (refine (atoi_ok rs v HA.out _ (by omega)).mono ?_); rintro e w2 ⟨rfl, hb⟩; have HB2 := Lib.hid (chain HB.out hb); clear hb)
          | (go_at_call 10; (refine (wal_any _ (by omega) (by omega) _ (HV.out.on HB2.out)).mono ?_); rintro e w3 ⟨rfl, hb⟩; have HB3 := Lib.hid (chain HB2.out hb); clear hb)
          | (go_at_call 11; (refine (pool_any _ (by omega) (by omega) _ (HV.out.on HB2.out)).mono ?_); rintro e w3 ⟨rfl, hb⟩; have HB3 := Lib.hid (chain HB2.out hb); clear hb))
        go_ret2
        exact ⟨_, _, rfl, parse_wal_miss HH.out (by rw [HR.out]; exact HA.out) (by simpa using HQ.out), HB3.out⟩
    · have HA := Lib.hid (show ∀ v, Lib.atoiAll rs ≠ .ok v from fun v hv => ha ⟨v, hv⟩)
      clear ha
      go_enter Tryd.func5, Tryd.ntmps5
      go_wp2_with (first
        | (go_at_call 16; (refine (hcut _).mono ?_); rintro e w1 ⟨b, rfl, hb⟩; have HB := Lib.hid hb; clear hb)
        | (go_at_call 17; (refine (atoi_err rs HA.out _ (by omega) (HV.out.on HB.out)).mono ?_); rintro e w2 ⟨v, N, rfl, hb⟩; have HB2 := Lib.hid (chain HB.out hb); clear hb)
        | (go_at_call 10; (refine (wal_any _ (by omega) (by omega) _ (HV.out.on HB2.out)).mono ?_); rintro e w3 ⟨rfl, hb⟩; have HB3 := Lib.hid (chain HB2.out hb); clear hb)
        | (go_at_call 11; (refine (pool_any _ (by omega) (by omega) _ (HV.out.on HB2.out)).mono ?_); rintro e w3 ⟨rfl, hb⟩; have HB3 := Lib.hid (chain HB2.out hb); clear hb))
      go_ret2
      exact ⟨_, _, rfl, parse_none (by rw [HR.out]; exact HA.out), HB2.out⟩
  have HN := Lib.hid (show headN l ≠ [102, 114, 101, 101] from by rw [HH.out]; exact h1)
  have HM := Lib.hid (show headN l ≠ [119, 97, 108] from by rw [HH.out]; exact h2)
  have e1 : (hd == [102, 114, 101, 101]) = false := by simpa using h1
  have e2 : (hd == [119, 97, 108]) = false := by simpa using h2
  clear h1 h2
  go_enter Tryd.func5, Tryd.ntmps5
  go_wp2_with (first
    | (go_at_call 16; (refine (hcut _).mono ?_); rintro e w1 ⟨b, rfl, hb⟩; have HB := Lib.hid hb; clear hb))
  go_ret2
  exact ⟨_, _, rfl, parse_other HN.out HM.out, HB.out⟩
end Go.Proofs.YtgdoojgebhemnaaDoor
