/-
  THE WALKS OF THE LAWS NameTells AND NameMakes: whatever text, whatever number comes in: the call returns true and changes nothing that was there.
-/
import Derived.Test.YtgdoojgebhemnaaDoorNameRef
namespace Go.Proofs.YtgdoojgebhemnaaDoor
open Go.RowKit
open Go.Lib (toList_data size_eq)
theorem name_12 : walN 12 = [119, 97, 108, 45, 49, 50] := by
  rw [walN_in (by omega) (by omega), show (12 : Int) = ((12 : Nat) : Int) from rfl, itoa_nat, Lib.decDigits_two (by omega) (by omega)]
  rfl
theorem name_2 : poolN 2 = [102, 114, 101, 101, 45, 50] := by
  rw [poolN_in (by omega) (by omega), show (2 : Int) = ((2 : Nat) : Int) from rfl, itoa_nat, Lib.decDigits_one (by omega)]
  rfl
set_option maxRecDepth 8000 in
theorem awake_any (w : World) (hv : Vars w) : Calls Tryd.prog 9 #[] w fun e w' => e = .returned (.bool true) ∧ Below w.heap.size w w' := by
  have HV := Lib.hid hv
  have hp : Calls Tryd.prog 5 #[.string ⟨#[119, 97, 108, 45, 49, 50]⟩] w fun e w' => e = .returned (.tuple #[.int .i64 1, .int .i64 12]) ∧ Below w.heap.size w w' := by
    refine (parse_list [119, 97, 108, 45, 49, 50] w (by decide) hv).mono ?_
    rintro e w' ⟨k, n, he, h, hb⟩
    obtain ⟨rfl, rfl⟩ := parsed_one h (.inr (.inl ⟨rfl, by omega, by omega, name_12.symm⟩) : parsed [119, 97, 108, 45, 49, 50] 1 12)
    exact ⟨he, hb⟩
  have hq : ∀ w : World, Vars w → Calls Tryd.prog 11 #[.int .i64 2] w fun e w' => e = .returned (.string ⟨#[102, 114, 101, 101, 45, 50]⟩) ∧ Below w.heap.size w w' := by
    intro w h
    have := pool_any 2 (by omega) (by omega) w h
    rw [name_2] at this
    exact this
  have HQ := Lib.hid hq
  clear hv hq
  go_enter Tryd.func9, Tryd.ntmps9
  go_wp2_with (first
    | (go_at_call 5; (with_reducible refine hp.mono ?_); rintro e w1 ⟨rfl, hb⟩; have HB := Lib.hid hb; clear hb)
    | (go_at_call 11; (refine (HQ.out _ (HV.out.on HB.out)).mono ?_); rintro e w2 ⟨rfl, hb⟩; have HB2 := Lib.hid (chain HB.out hb); clear hb))
  go_ret
  exact ⟨rfl, HB2.out⟩
set_option maxRecDepth 8000 in
theorem tells_list (l : List UInt8) (W : World) (hs : l.length ≤ 281474976710656) (hv : Vars W) :
    Calls Tryd.prog 3 #[.string ⟨l.toArray⟩] W fun e w' => e = .returned (.bool true) ∧ Below W.heap.size W w' := by
  have HV := Lib.hid hv
  have hs' : (⟨l.toArray⟩ : ByteArray).size ≤ 281474976710656 := by rw [size_eq]; exact hs
  have H1 : Hid (∀ w, Calls Tryd.prog 7 #[.string ⟨l.toArray⟩] w fun e w' => e = .returned (.bool (nameN l)) ∧ w' = w) := fun w => right_any ⟨l.toArray⟩ w hs'
  have H2 : Hid (∀ w, Calls Tryd.prog 8 #[.string ⟨l.toArray⟩] w fun e w' => e = .returned (.bool (nameN l)) ∧ w' = w) := fun w => rright_any ⟨l.toArray⟩ w hs'
  clear hv hs'
  go_enter Tryd.func3, Tryd.ntmps3
  go_wp2_with (first
    | (go_at_call 5; (with_reducible refine (parse_list l _ hs HV.out).mono ?_); rintro e w1 ⟨k, n, rfl, hp, hb⟩; have HP := Lib.hid hp; have HB := Lib.hid hb; clear hb hp)
    | (go_at_call 6; (with_reducible refine (rparse_list l _ hs).mono ?_); rintro e w2 ⟨j, m, rfl, hp, rfl⟩; obtain ⟨rfl, rfl⟩ := parsed_one HP.out hp; clear hp)
    | (go_at_call 7; (with_reducible refine (H1.out _).mono ?_); rintro e w3 ⟨rfl, rfl⟩)
    | (go_at_call 8; (with_reducible refine (H2.out _).mono ?_); rintro e w4 ⟨rfl, rfl⟩)
    | (go_at_call 9; (refine (awake_any _ (HV.out.on HB.out)).mono ?_); rintro e w5 ⟨rfl, hb⟩; have HB2 := Lib.hid (chain HB.out hb); clear hb))
  go_ret
  exact ⟨rfl, HB2.out⟩
theorem tells_walk (s : ByteArray) (W : World) (hs : s.size ≤ 281474976710656) (hv : Vars W) :
    Calls Tryd.prog 3 #[.string s] W fun e w' => e = .returned (.bool true) ∧ Below W.heap.size W w' := by
  have := tells_list s.data.toList W (by rw [size_len]; exact hs) hv
  rwa [Lib.mk_data] at this
/-- what the law asks of a name that was made -/
def Made (K n : Int) (l : List UInt8) : Prop := ¬ l = [] ∧ l.length ≤ 24 ∧ nameN l = true ∧ ∀ k m, parsed l k m → k = K ∧ m = n
theorem made_wal {n : Int} (h1 : 1 ≤ n) (h2 : n ≤ 2147483647) : Made 1 n (walN n) := by
  have hn := name_wal h1 h2
  have h := hn
  unfold nameN at h
  simp only [Bool.and_eq_true, decide_eq_true_eq] at h
  exact ⟨by intro e; rw [e] at h; simp at h, h.1.2, hn, fun k m hp => parsed_one hp (.inr (.inl ⟨rfl, h1, h2, rfl⟩))⟩
theorem made_pool {n : Int} (h1 : 0 ≤ n) (h2 : n ≤ 2) : Made 2 n (poolN n) := by
  have hn := name_pool h1 h2
  have h := hn
  unfold nameN at h
  simp only [Bool.and_eq_true, decide_eq_true_eq] at h
  exact ⟨by intro e; rw [e] at h; simp at h, h.1.2, hn, fun k m hp => parsed_one hp (.inl ⟨rfl, h1, h2, rfl⟩)⟩
set_option maxRecDepth 8000 in
set_option maxHeartbeats 1000000 in
theorem makes_both (n : Int) (h0 : -9223372036854775808 ≤ n) (h1 : n ≤ 9223372036854775807) (W : World) (hv : Vars W) (X Y : List UInt8) (hX : walN n = X) (hY : poolN n = Y) (hx : Made 1 n X) (hy : Made 2 n Y) :
    Calls Tryd.prog 4 #[.int .i64 n] W fun e w' => e = .returned (.bool true) ∧ Below W.heap.size W w' := by
  have HV := Lib.hid hv
  have HX : Hid (∀ w, Vars w → Calls Tryd.prog 10 #[.int .i64 n] w fun e w' => e = .returned (.string ⟨X.toArray⟩) ∧ Below w.heap.size w w') := fun w h => by rw [← hX]; exact wal_any n h0 h1 w h
  have HY : Hid (∀ w, Vars w → Calls Tryd.prog 11 #[.int .i64 n] w fun e w' => e = .returned (.string ⟨Y.toArray⟩) ∧ Below w.heap.size w w') := fun w h => by rw [← hY]; exact pool_any n h0 h1 w h
  have RX : Hid (∀ w, Calls Tryd.prog 12 #[.int .i64 n] w fun e w' => e = .returned (.string ⟨X.toArray⟩) ∧ w' = w) := fun w => by rw [← hX]; exact rwal_any n h0 h1 w
  have RY : Hid (∀ w, Calls Tryd.prog 13 #[.int .i64 n] w fun e w' => e = .returned (.string ⟨Y.toArray⟩) ∧ w' = w) := fun w => by rw [← hY]; exact rpool_any n h0 h1 w
  clear hv hX hY
  obtain ⟨hx1, hx2, hx3, hx4⟩ := hx
  have hx5 : X.isEmpty = false := by rw [List.isEmpty_eq_false_iff]; exact hx1
  have hx6 : (X == []) = false := by simpa using hx1
  have Mx := Lib.hid hx4
  have Lx := Lib.hid hx2
  have Rx : Hid (∀ w, Calls Tryd.prog 7 #[.string ⟨X.toArray⟩] w fun e w' => e = .returned (.bool true) ∧ w' = w) := fun w => by
    have := right_any ⟨X.toArray⟩ w (by rw [size_eq]; show X.length ≤ _; omega)
    rwa [show nameN (⟨X.toArray⟩ : ByteArray).data.toList = true from hx3] at this
  clear hx3 hx4 hx2
  obtain ⟨hy1, hy2, hy3, hy4⟩ := hy
  have hy5 : Y.isEmpty = false := by rw [List.isEmpty_eq_false_iff]; exact hy1
  have hy6 : (Y == []) = false := by simpa using hy1
  have My := Lib.hid hy4
  have Ly := Lib.hid hy2
  have Ry : Hid (∀ w, Calls Tryd.prog 7 #[.string ⟨Y.toArray⟩] w fun e w' => e = .returned (.bool true) ∧ w' = w) := fun w => by
    have := right_any ⟨Y.toArray⟩ w (by rw [size_eq]; show Y.length ≤ _; omega)
    rwa [show nameN (⟨Y.toArray⟩ : ByteArray).data.toList = true from hy3] at this
  clear hy3 hy4 hy2
  go_enter Tryd.func4, Tryd.ntmps4
  go_wp2_with (first
    | (go_at_call 10; (with_reducible refine (HX.out _ HV.out).mono ?_); rintro e w1 ⟨rfl, hb⟩; have HB1 := Lib.hid hb; clear hb)
    | (go_at_call 11; (refine (HY.out _ (HV.out.on HB1.out)).mono ?_); rintro e w2 ⟨rfl, hb⟩; have HB2 := Lib.hid (chain HB1.out hb); clear hb)
    | (go_at_call 12; (with_reducible refine (RX.out _).mono ?_); rintro e w3 ⟨rfl, rfl⟩)
    | (go_at_call 13; (with_reducible refine (RY.out _).mono ?_); rintro e w4 ⟨rfl, rfl⟩)
    | (go_at_call 14; (refine (digits_any n h0 h1 _ (HV.out.on HB2.out)).mono ?_); rintro e w5 ⟨rfl, hb⟩; have HB3 := Lib.hid (chain HB2.out hb); clear hb)
    | (go_at_call 15; (with_reducible refine (rdigits_any n _ h0 h1).mono ?_); rintro e w6 ⟨rfl, rfl⟩)
    | (go_at_call 5; (refine (parse_list Y _ (by have := Ly.out; omega) (HV.out.on HB4.out)).mono ?_); rintro e w8 ⟨j, q, rfl, hp, hb⟩; obtain ⟨rfl, rfl⟩ := My.out _ _ hp; clear hp; have HB5 := Lib.hid (chain HB4.out hb); clear hb)
    | (go_at_call 5; (refine (parse_list X _ (by have := Lx.out; omega) (HV.out.on HB3.out)).mono ?_); rintro e w7 ⟨k, m, rfl, hp, hb⟩; obtain ⟨rfl, rfl⟩ := Mx.out _ _ hp; clear hp; have HB4 := Lib.hid (chain HB3.out hb); clear hb)
    | (go_at_call 7; (with_reducible refine (Rx.out _).mono ?_); rintro e w9 ⟨rfl, rfl⟩)
    | (go_at_call 7; (with_reducible refine (Ry.out _).mono ?_); rintro e w9 ⟨rfl, rfl⟩)
    | (go_at_call 9; (refine (awake_any _ (HV.out.on HB5.out)).mono ?_); rintro e w9 ⟨rfl, hb⟩; have HB6 := Lib.hid (chain HB5.out hb); clear hb))
  go_ret
  exact ⟨rfl, HB6.out⟩
set_option maxRecDepth 8000 in
set_option maxHeartbeats 1000000 in
theorem makes_wal (n : Int) (h0 : -9223372036854775808 ≤ n) (h1 : n ≤ 9223372036854775807) (W : World) (hv : Vars W) (X Y : List UInt8) (hX : walN n = X) (hY : poolN n = Y) (hx : Made 1 n X) (hy : Y = []) :
    Calls Tryd.prog 4 #[.int .i64 n] W fun e w' => e = .returned (.bool true) ∧ Below W.heap.size W w' := by
  have HV := Lib.hid hv
  have HX : Hid (∀ w, Vars w → Calls Tryd.prog 10 #[.int .i64 n] w fun e w' => e = .returned (.string ⟨X.toArray⟩) ∧ Below w.heap.size w w') := fun w h => by rw [← hX]; exact wal_any n h0 h1 w h
  have HY : Hid (∀ w, Vars w → Calls Tryd.prog 11 #[.int .i64 n] w fun e w' => e = .returned (.string ⟨Y.toArray⟩) ∧ Below w.heap.size w w') := fun w h => by rw [← hY]; exact pool_any n h0 h1 w h
  have RX : Hid (∀ w, Calls Tryd.prog 12 #[.int .i64 n] w fun e w' => e = .returned (.string ⟨X.toArray⟩) ∧ w' = w) := fun w => by rw [← hX]; exact rwal_any n h0 h1 w
  have RY : Hid (∀ w, Calls Tryd.prog 13 #[.int .i64 n] w fun e w' => e = .returned (.string ⟨Y.toArray⟩) ∧ w' = w) := fun w => by rw [← hY]; exact rpool_any n h0 h1 w
  clear hv hX hY
  obtain ⟨hx1, hx2, hx3, hx4⟩ := hx
  have hx5 : X.isEmpty = false := by rw [List.isEmpty_eq_false_iff]; exact hx1
  have hx6 : (X == []) = false := by simpa using hx1
  have Mx := Lib.hid hx4
  have Lx := Lib.hid hx2
  have Rx : Hid (∀ w, Calls Tryd.prog 7 #[.string ⟨X.toArray⟩] w fun e w' => e = .returned (.bool true) ∧ w' = w) := fun w => by
    have := right_any ⟨X.toArray⟩ w (by rw [size_eq]; show X.length ≤ _; omega)
    rwa [show nameN (⟨X.toArray⟩ : ByteArray).data.toList = true from hx3] at this
  clear hx3 hx4 hx2
  subst hy
  go_enter Tryd.func4, Tryd.ntmps4
  go_wp2_with (first
    | (go_at_call 10; (with_reducible refine (HX.out _ HV.out).mono ?_); rintro e w1 ⟨rfl, hb⟩; have HB1 := Lib.hid hb; clear hb)
    | (go_at_call 11; (refine (HY.out _ (HV.out.on HB1.out)).mono ?_); rintro e w2 ⟨rfl, hb⟩; have HB2 := Lib.hid (chain HB1.out hb); clear hb)
    | (go_at_call 12; (with_reducible refine (RX.out _).mono ?_); rintro e w3 ⟨rfl, rfl⟩)
    | (go_at_call 13; (with_reducible refine (RY.out _).mono ?_); rintro e w4 ⟨rfl, rfl⟩)
    | (go_at_call 14; (refine (digits_any n h0 h1 _ (HV.out.on HB2.out)).mono ?_); rintro e w5 ⟨rfl, hb⟩; have HB3 := Lib.hid (chain HB2.out hb); clear hb)
    | (go_at_call 15; (with_reducible refine (rdigits_any n _ h0 h1).mono ?_); rintro e w6 ⟨rfl, rfl⟩)
    | (go_at_call 5; (refine (parse_list [] _ (by decide) (HV.out.on HB4.out)).mono ?_); rintro e w8 ⟨j, q, rfl, hp, hb⟩; clear hp; have HB5 := Lib.hid (chain HB4.out hb); clear hb)
    | (go_at_call 5; (refine (parse_list X _ (by have := Lx.out; omega) (HV.out.on HB3.out)).mono ?_); rintro e w7 ⟨k, m, rfl, hp, hb⟩; obtain ⟨rfl, rfl⟩ := Mx.out _ _ hp; clear hp; have HB4 := Lib.hid (chain HB3.out hb); clear hb)
    | (go_at_call 7; (with_reducible refine (Rx.out _).mono ?_); rintro e w9 ⟨rfl, rfl⟩)
    | (go_at_call 9; (refine (awake_any _ (HV.out.on HB5.out)).mono ?_); rintro e w9 ⟨rfl, hb⟩; have HB6 := Lib.hid (chain HB5.out hb); clear hb))
  go_ret
  exact ⟨rfl, HB6.out⟩
set_option maxRecDepth 8000 in
set_option maxHeartbeats 1000000 in
theorem makes_pool (n : Int) (h0 : -9223372036854775808 ≤ n) (h1 : n ≤ 9223372036854775807) (W : World) (hv : Vars W) (X Y : List UInt8) (hX : walN n = X) (hY : poolN n = Y) (hx : X = []) (hy : Made 2 n Y) :
    Calls Tryd.prog 4 #[.int .i64 n] W fun e w' => e = .returned (.bool true) ∧ Below W.heap.size W w' := by
  have HV := Lib.hid hv
  have HX : Hid (∀ w, Vars w → Calls Tryd.prog 10 #[.int .i64 n] w fun e w' => e = .returned (.string ⟨X.toArray⟩) ∧ Below w.heap.size w w') := fun w h => by rw [← hX]; exact wal_any n h0 h1 w h
  have HY : Hid (∀ w, Vars w → Calls Tryd.prog 11 #[.int .i64 n] w fun e w' => e = .returned (.string ⟨Y.toArray⟩) ∧ Below w.heap.size w w') := fun w h => by rw [← hY]; exact pool_any n h0 h1 w h
  have RX : Hid (∀ w, Calls Tryd.prog 12 #[.int .i64 n] w fun e w' => e = .returned (.string ⟨X.toArray⟩) ∧ w' = w) := fun w => by rw [← hX]; exact rwal_any n h0 h1 w
  have RY : Hid (∀ w, Calls Tryd.prog 13 #[.int .i64 n] w fun e w' => e = .returned (.string ⟨Y.toArray⟩) ∧ w' = w) := fun w => by rw [← hY]; exact rpool_any n h0 h1 w
  clear hv hX hY
  subst hx
  obtain ⟨hy1, hy2, hy3, hy4⟩ := hy
  have hy5 : Y.isEmpty = false := by rw [List.isEmpty_eq_false_iff]; exact hy1
  have hy6 : (Y == []) = false := by simpa using hy1
  have My := Lib.hid hy4
  have Ly := Lib.hid hy2
  have Ry : Hid (∀ w, Calls Tryd.prog 7 #[.string ⟨Y.toArray⟩] w fun e w' => e = .returned (.bool true) ∧ w' = w) := fun w => by
    have := right_any ⟨Y.toArray⟩ w (by rw [size_eq]; show Y.length ≤ _; omega)
    rwa [show nameN (⟨Y.toArray⟩ : ByteArray).data.toList = true from hy3] at this
  clear hy3 hy4 hy2
  go_enter Tryd.func4, Tryd.ntmps4
  go_wp2_with (first
    | (go_at_call 10; (with_reducible refine (HX.out _ HV.out).mono ?_); rintro e w1 ⟨rfl, hb⟩; have HB1 := Lib.hid hb; clear hb)
    | (go_at_call 11; (refine (HY.out _ (HV.out.on HB1.out)).mono ?_); rintro e w2 ⟨rfl, hb⟩; have HB2 := Lib.hid (chain HB1.out hb); clear hb)
    | (go_at_call 12; (with_reducible refine (RX.out _).mono ?_); rintro e w3 ⟨rfl, rfl⟩)
    | (go_at_call 13; (with_reducible refine (RY.out _).mono ?_); rintro e w4 ⟨rfl, rfl⟩)
    | (go_at_call 14; (refine (digits_any n h0 h1 _ (HV.out.on HB2.out)).mono ?_); rintro e w5 ⟨rfl, hb⟩; have HB3 := Lib.hid (chain HB2.out hb); clear hb)
    | (go_at_call 15; (with_reducible refine (rdigits_any n _ h0 h1).mono ?_); rintro e w6 ⟨rfl, rfl⟩)
    | (go_at_call 5; (refine (parse_list Y _ (by have := Ly.out; omega) (HV.out.on HB4.out)).mono ?_); rintro e w8 ⟨j, q, rfl, hp, hb⟩; obtain ⟨rfl, rfl⟩ := My.out _ _ hp; clear hp; have HB5 := Lib.hid (chain HB4.out hb); clear hb)
    | (go_at_call 5; (refine (parse_list [] _ (by decide) (HV.out.on HB3.out)).mono ?_); rintro e w7 ⟨k, m, rfl, hp, hb⟩; clear hp; have HB4 := Lib.hid (chain HB3.out hb); clear hb)
    | (go_at_call 7; (with_reducible refine (Ry.out _).mono ?_); rintro e w9 ⟨rfl, rfl⟩)
    | (go_at_call 9; (refine (awake_any _ (HV.out.on HB5.out)).mono ?_); rintro e w9 ⟨rfl, hb⟩; have HB6 := Lib.hid (chain HB5.out hb); clear hb))
  go_ret
  exact ⟨rfl, HB6.out⟩
set_option maxRecDepth 8000 in
set_option maxHeartbeats 1000000 in
theorem makes_none (n : Int) (h0 : -9223372036854775808 ≤ n) (h1 : n ≤ 9223372036854775807) (W : World) (hv : Vars W) (X Y : List UInt8) (hX : walN n = X) (hY : poolN n = Y) (hx : X = []) (hy : Y = []) :
    Calls Tryd.prog 4 #[.int .i64 n] W fun e w' => e = .returned (.bool true) ∧ Below W.heap.size W w' := by
  have HV := Lib.hid hv
  have HX : Hid (∀ w, Vars w → Calls Tryd.prog 10 #[.int .i64 n] w fun e w' => e = .returned (.string ⟨X.toArray⟩) ∧ Below w.heap.size w w') := fun w h => by rw [← hX]; exact wal_any n h0 h1 w h
  have HY : Hid (∀ w, Vars w → Calls Tryd.prog 11 #[.int .i64 n] w fun e w' => e = .returned (.string ⟨Y.toArray⟩) ∧ Below w.heap.size w w') := fun w h => by rw [← hY]; exact pool_any n h0 h1 w h
  have RX : Hid (∀ w, Calls Tryd.prog 12 #[.int .i64 n] w fun e w' => e = .returned (.string ⟨X.toArray⟩) ∧ w' = w) := fun w => by rw [← hX]; exact rwal_any n h0 h1 w
  have RY : Hid (∀ w, Calls Tryd.prog 13 #[.int .i64 n] w fun e w' => e = .returned (.string ⟨Y.toArray⟩) ∧ w' = w) := fun w => by rw [← hY]; exact rpool_any n h0 h1 w
  clear hv hX hY
  subst hx
  subst hy
  go_enter Tryd.func4, Tryd.ntmps4
  go_wp2_with (first
    | (go_at_call 10; (with_reducible refine (HX.out _ HV.out).mono ?_); rintro e w1 ⟨rfl, hb⟩; have HB1 := Lib.hid hb; clear hb)
    | (go_at_call 11; (refine (HY.out _ (HV.out.on HB1.out)).mono ?_); rintro e w2 ⟨rfl, hb⟩; have HB2 := Lib.hid (chain HB1.out hb); clear hb)
    | (go_at_call 12; (with_reducible refine (RX.out _).mono ?_); rintro e w3 ⟨rfl, rfl⟩)
    | (go_at_call 13; (with_reducible refine (RY.out _).mono ?_); rintro e w4 ⟨rfl, rfl⟩)
    | (go_at_call 14; (refine (digits_any n h0 h1 _ (HV.out.on HB2.out)).mono ?_); rintro e w5 ⟨rfl, hb⟩; have HB3 := Lib.hid (chain HB2.out hb); clear hb)
    | (go_at_call 15; (with_reducible refine (rdigits_any n _ h0 h1).mono ?_); rintro e w6 ⟨rfl, rfl⟩)
    | (go_at_call 5; (refine (parse_list [] _ (by decide) (HV.out.on HB4.out)).mono ?_); rintro e w8 ⟨j, q, rfl, hp, hb⟩; clear hp; have HB5 := Lib.hid (chain HB4.out hb); clear hb)
    | (go_at_call 5; (refine (parse_list [] _ (by decide) (HV.out.on HB3.out)).mono ?_); rintro e w7 ⟨k, m, rfl, hp, hb⟩; clear hp; have HB4 := Lib.hid (chain HB3.out hb); clear hb)
    | (go_at_call 9; (refine (awake_any _ (HV.out.on HB5.out)).mono ?_); rintro e w9 ⟨rfl, hb⟩; have HB6 := Lib.hid (chain HB5.out hb); clear hb))
  go_ret
  exact ⟨rfl, HB6.out⟩
theorem makes_walk (n : Int) (h0 : -9223372036854775808 ≤ n) (h1 : n ≤ 9223372036854775807) (W : World) (hv : Vars W) :
    Calls Tryd.prog 4 #[.int .i64 n] W fun e w' => e = .returned (.bool true) ∧ Below W.heap.size W w' := by
  by_cases hx : 1 ≤ n ∧ n ≤ 2147483647
  · by_cases hy : 0 ≤ n ∧ n ≤ 2
    · exact makes_both n h0 h1 W hv _ _ rfl rfl (made_wal hx.1 hx.2) (made_pool hy.1 hy.2)
    · exact makes_wal n h0 h1 W hv _ _ rfl rfl (made_wal hx.1 hx.2) (poolN_out hy)
  · by_cases hy : 0 ≤ n ∧ n ≤ 2
    · exact makes_pool n h0 h1 W hv _ _ rfl rfl (walN_out hx) (made_pool hy.1 hy.2)
    · exact makes_none n h0 h1 W hv _ _ rfl rfl (walN_out hx) (poolN_out hy)
end Go.Proofs.YtgdoojgebhemnaaDoor
