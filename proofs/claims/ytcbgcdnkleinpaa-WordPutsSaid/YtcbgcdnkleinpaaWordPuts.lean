/-
  THE WALK OF THE LAW WordPuts: whatever number, width and bytes come in: the call returns true and changes nothing that was there. No condition.
-/
import Derived.Test.YtcbgcdnkleinpaaWordB
import Derived.WalkKit
import Derived.ProofKit
import Derived.OpenShut
import Derived.Lib.Hide
import Derived.Laws.BytesArg
import Derived.Deep.RegionHeld3
import Derived.Test.YtcbgcdnkleinpaaRegion
namespace Go.Proofs.Ytcbgcdnkleinpaa
open Go.RowKit
theorem Drawn.below' {w w' : World} (h : Drawn w w') : Below w.heap.size w w' := by
  obtain ⟨n, rfl⟩ := h
  exact ⟨rfl, rfl, rfl, Nat.le_refl _, fun _ _ => rfl⟩
set_option maxHeartbeats 400000 in
theorem get_zero (a : Option Addr) (cap : Nat) (w : World) :
    Calls Try.prog 8 #[.slice a 0 cap] w fun e w' => e = .returned (.int .u64 0) ∧ w = w' := by
  go_enter Try.func8, Try.ntmps8
  go_wp2
  refine wp_loop_rounds 1 ?_
  rw [rounds_succ]
  go_wp2
  go_ret
  exact ⟨rfl, rfl⟩
set_option maxHeartbeats 400000 in
theorem rget_zero (a : Option Addr) (cap : Nat) (w : World) :
    Calls Try.prog 9 #[.slice a 0 cap] w fun e w' => e = .returned (.int .u64 0) ∧ Drawn w w' := by
  go_enter Try.func9, Try.ntmps9
  go_wp2
  refine wp_loop_rounds 1 ?_
  rw [rounds_succ]
  go_wp2
  go_ret
  exact ⟨rfl, Drawn.refl _⟩
theorem get_rb {w : World} {v : Value} {len : Nat} {zs : List Int} (h : RB w v len zs) (hz : Bytes zs) (hmax : len ≤ 9223372036854775807) :
    Calls Try.prog 8 #[v] w fun e w' => e = .returned (.int .u64 (getI zs (min len 8))) ∧ w = w' := by
  obtain ⟨a, cap, rfl, hc⟩ := h
  by_cases h0 : 0 < len
  · obtain ⟨b, off, rfl, hcell⟩ := hc h0
    exact get_some b off len cap zs w hz h0 hmax hcell
  · obtain rfl : len = 0 := by omega
    exact get_zero a cap w
theorem rget_rb {w : World} {v : Value} {len : Nat} {zs : List Int} (h : RB w v len zs) (hz : Bytes zs) (hmax : len ≤ 9223372036854775807) :
    Calls Try.prog 9 #[v] w fun e w' => e = .returned (.int .u64 (getI zs (min len 8))) ∧ Below w.heap.size w w' := by
  obtain ⟨a, cap, rfl, hc⟩ := h
  by_cases h0 : 0 < len
  · obtain ⟨b, off, rfl, hcell⟩ := hc h0
    exact (rget_some b off len cap zs w hz h0 hmax hcell).mono fun _ _ ⟨he, hw⟩ => ⟨he, hw.below'⟩
  · obtain rfl : len = 0 := by omega
    exact (rget_zero a cap w).mono fun _ _ ⟨he, hw⟩ => ⟨he, hw.below'⟩

theorem cell_keep {w w' : World} (hb : Below w.heap.size w w') {a : Addr} {v : Value} (h : w.cell? a = some v) : w'.cell? a = some v :=
  (hb.cell (World.block_lt_of_cell? w _ h)).trans h
theorem RB.keep {w w' : World} (hb : Below w.heap.size w w') {v : Value} {len : Nat} {zs : List Int} (h : RB w v len zs) : RB w' v len zs := by
  obtain ⟨a, cap, rfl, hc⟩ := h
  refine ⟨a, cap, rfl, fun h0 => ?_⟩
  obtain ⟨b, off, rfl, hcell⟩ := hc h0
  exact ⟨b, off, rfl, fun j hj => cell_keep hb (hcell j hj)⟩
theorem rb_own {w : World} {base : Nat} {v : Value} {k : Nat} {zs : List Int} (h : w.ownsRow base 5 1 v k (bl zs)) : RB w v k zs := by
  have hl : zs.length = k := by have := h.1; rw [bl_length] at this; omega
  rcases h.2 with ⟨rfl, rfl⟩ | ⟨g, cap, cur, rfl, _⟩
  · exact ⟨none, 0, rfl, fun h => absurd h (by omega)⟩
  · refine ⟨_, cap, rfl, fun _ => ⟨g, 0, rfl, fun j hj => ?_⟩⟩
    rw [Nat.zero_add, h.cellAt j (by omega), bl_get zs j (by omega)]
/-- the text of what a slice of bytes holds -/
theorem conv_rb {w : World} {v : Value} {k : Nat} {zs : List Int} (h : RB w v k zs) (hl : zs.length = k) : (convert 23 9 v).run Try.prog w = .ok (.string (strOfNums zs)) w := by
  obtain ⟨a, cap, rfl, hc⟩ := h
  by_cases h0 : 0 < k
  · obtain ⟨b, off, rfl, hcell⟩ := hc h0
    exact run_convert_bytes_arg w _ _ Try.underlying23 Try.underlying5 b off k cap zs hl hcell _ Try.underlying9
  · obtain rfl : k = 0 := by omega
    obtain rfl : zs = [] := List.length_eq_zero_iff.1 hl
    cases a with
    | none => exact run_convert_bytes_nil w _ _ Try.underlying23 Try.underlying5 0 cap _ Try.underlying9
    | some x =>
      have hl : (loadCells x 0).run Try.prog w = .ok (([] : List Int).map (Value.int .u8)).toArray w := run_loadCells_list (P := Try.prog) w x [] (fun j v hj => by simp at hj)
      rw [run_convert_bytes_string w _ _ _ _ 0 cap Try.underlying23 Try.underlying5 Try.underlying9, run_bytesToString w x 0 cap [] hl]
      rfl

/-- what is kept through the law's region: the row x = Put(n, width), the bytes b, and that nothing old has changed -/
def PS (W : World) (x bv : Value) (k len : Nat) (xs zs : List Int) (w : World) : Prop := RB w x k xs ∧ RB w bv len zs ∧ Below W.heap.size W w
/-- it is kept by whatever leaves old blocks alone -/
theorem PS.next {W : World} {x bv : Value} {k len : Nat} {xs zs : List Int} {s : ByteArray} {w w' : World} (hl : xs.length = k) (hs : s = strOfNums xs)
    (h : (convert 23 9 x).run Try.prog w = .ok (.string s) w ∧ PS W x bv k len xs zs w) (hb : Below w.heap.size w w') :
    (convert 23 9 x).run Try.prog w' = .ok (.string s) w' ∧ PS W x bv k len xs zs w' :=
  ⟨by rw [hs]; exact conv_rb (h.2.1.keep hb) hl, h.2.1.keep hb, h.2.2.1.keep hb, h.2.2.2.trans (hb.mono h.2.2.2.size)⟩

theorem PS.out {W : World} {x bv : Value} {k len : Nat} {xs zs : List Int} {w : World} (h : PS W x bv k len xs zs w) : Below W.heap.size W w := h.2.2
theorem put_low (n : Int) (hn : U64 n) (k : Nat) (hk : k ≤ 8) : getI (putL n k) (min k 8) = lowI n (8 * (k : Int)) := by
  rw [Nat.min_eq_left hk, getI_put n k k (Nat.le_refl _)]
  unfold lowI
  split
  · obtain rfl : k = 8 := by omega
    unfold U64 at hn
    have e : (2 : Int) ^ (8 * 8) = 18446744073709551616 := by decide
    rw [e]; omega
  · rw [show (8 * (k : Int)).toNat = 8 * k from by omega]
theorem low_at (n m v : Int) (h : U64 n) (h2 : I63 m) (hv : lowI n m = v) (w : World) : Calls Try.prog 10 #[.int .u64 n, .int .i64 m] w fun e w' => e = .returned (.int .u64 v) ∧ w = w' :=
  (low_any n m h h2 w).mono fun _ _ ⟨he, hw⟩ => ⟨by rw [he, hv], hw⟩
theorem get_at {w : World} {v : Value} {len : Nat} {zs : List Int} {x : Int} (h : RB w v len zs) (hz : Bytes zs) (hmax : len ≤ 9223372036854775807) (hx : getI zs (min len 8) = x) :
    Calls Try.prog 8 #[v] w fun e w' => e = .returned (.int .u64 x) ∧ w = w' :=
  (get_rb h hz hmax).mono fun _ _ ⟨he, hw⟩ => ⟨by rw [he, hx], hw⟩
theorem rget_at {w : World} {v : Value} {len : Nat} {zs : List Int} {x : Int} (h : RB w v len zs) (hz : Bytes zs) (hmax : len ≤ 9223372036854775807) (hx : getI zs (min len 8) = x) :
    Calls Try.prog 9 #[v] w fun e w' => e = .returned (.int .u64 x) ∧ Below w.heap.size w w' :=
  (rget_rb h hz hmax).mono fun _ _ ⟨he, hw⟩ => ⟨by rw [he, hx], hw⟩
theorem get_x {W : World} {x bv : Value} {k len : Nat} {xs zs : List Int} {r : Int} {w : World} (h : PS W x bv k len xs zs w) (hz : Bytes xs) (hmax : k ≤ 9223372036854775807) (hx : getI xs (min k 8) = r) :
    Calls Try.prog 8 #[x] w fun e w' => e = .returned (.int .u64 r) ∧ w = w' := get_at h.1 hz hmax hx
theorem get_b {W : World} {x bv : Value} {k len : Nat} {xs zs : List Int} {r : Int} {w : World} (h : PS W x bv k len xs zs w) (hz : Bytes zs) (hmax : len ≤ 9223372036854775807) (hx : getI zs (min len 8) = r) :
    Calls Try.prog 8 #[bv] w fun e w' => e = .returned (.int .u64 r) ∧ w = w' := get_at h.2.1 hz hmax hx
theorem rget_b {W : World} {x bv : Value} {k len : Nat} {xs zs : List Int} {r : Int} {w : World} (h : PS W x bv k len xs zs w) (hz : Bytes zs) (hmax : len ≤ 9223372036854775807) (hx : getI zs (min len 8) = r) :
    Calls Try.prog 9 #[bv] w fun e w' => e = .returned (.int .u64 r) ∧ Below w.heap.size w w' := rget_at h.2.1 hz hmax hx
/-- the reference's row, as a text -/
theorem rput_text (n m : Int) (k : Nat) (s : ByteArray) (h : U64 n) (h2 : I63 m) (hk : clampI m 8 = k) (hs : s = strOfNums (putL n k)) (w : World) :
    Calls Try.prog 7 #[.int .u64 n, .int .i64 m] w fun e w' => ∃ v, e = .returned v ∧ (convert 23 9 v).run Try.prog w' = .ok (.string s) w' ∧ Below w.heap.size w w' :=
  (rput_any n m k h h2 hk w).mono fun _ _ ⟨v, he, ho, hb⟩ => ⟨v, he, by rw [hs]; exact conv_rb (rb_own ho) (putL_length n k), hb⟩

set_option maxHeartbeats 1000000 in
theorem puts_walk (n m : Int) (a : Option Addr) (len cap : Nat) (zs : List Int) (W : World) (hn : U64 n) (hm : I63 m) (hz : Bytes zs) (hmax : len ≤ 9223372036854775807)
    (hc : RB W (.slice a len cap) len zs) :
    Calls Try.prog 3 #[.int .u64 n, .int .i64 m, .slice a len cap] W fun e w' => e = .returned (.bool true) ∧ Below W.heap.size W w' := by
  obtain ⟨k, hk⟩ : ∃ k : Nat, clampI m 8 = k := ⟨(clampI m 8).toNat, by unfold clampI; omega⟩
  have hk8 : k ≤ 8 := by unfold clampI at hk; omega
  obtain ⟨s, hs⟩ : ∃ s, s = strOfNums (putL n k) := ⟨_, rfl⟩
  obtain ⟨g, hg⟩ : ∃ g, getI zs (min len 8) = g := ⟨_, rfl⟩
  obtain ⟨l, hl⟩ : ∃ l, lowI n (8 * (k : Int)) = l := ⟨_, rfl⟩
  have HK := Lib.hid hk; clear hk
  have HS := Lib.hid hs; clear hs
  have HG := Lib.hid hg; clear hg
  have HPL := Lib.hid ((put_low n hn k hk8).trans hl)
  have HL := Lib.hid hl; clear hl
  have HC := Lib.hid hc; clear hc
  go_enter Try.func3, Try.ntmps3
  go_wp2_with (go_at_call 6; (with_reducible refine (put_any n m k hm HK.out _).mono ?_); rintro e w1 ⟨rfl, ho, hb⟩; have HO := Lib.hid ho; have HB := Lib.hid hb; clear ho hb)
  have hS0 : (convert 23 9 (.slice (some ⟨W.heap.size, 0, none⟩) k k)).run Try.prog w1 = .ok (.string s) w1 ∧ PS W (.slice (some ⟨W.heap.size, 0, none⟩) k k) (.slice a len cap) k len (putL n k) zs w1 :=
    ⟨by rw [HS.out]; exact conv_rb (rb_own HO.out) (putL_length n k), rb_own HO.out, HC.out.keep HB.out, HB.out⟩
  have he : IntKind.i64.wrap (8 * (k : Int)) = 8 * (k : Int) := IntWalk.i64_in _ (by omega)
  have HI : Hid (I63 (8 * (k : Int))) := Lib.hid (by unfold I63; omega)
  refine wp_region_held_drew (S := (fun w' => (convert 23 9 (.slice (some ⟨W.heap.size, 0, none⟩) k k)).run Try.prog w' = .ok (.string s) w' ∧ PS W (.slice (some ⟨W.heap.size, 0, none⟩) k k) (.slice a len cap) k len (putL n k) zs w')) (by kernel_rfl) (PS.next (putL_length n k) HS.out hS0 ((Below.refl _ _).drew)) (fun hS => ?_)
  refine wpAnyH_take (i := 0) (oi := ({ dst := some 11, op := Op.move (Operand.tmp 7), type := 23, pos := "law.go:18", after := #[], guard := none } : Oper)) (v := ?_) rfl (by kernel_rfl) (by kernel_rfl) (by kernel_rfl) (fun _ _ _ h => h) (Or.inl ⟨by rfl, ?_⟩) hS ?_
  rotate_left
  · (intro w hSw; (try dsimp only at hSw); go_simp; try with_reducible rfl)
  (try simp only [Act.put, List.setIfInBounds_toArray, List.set_cons_zero, List.set_cons_succ])
  refine wpAnyH_take (i := 1) (oi := ({ dst := some 12, op := Op.convert 23 9 (Operand.tmp 11), type := 9, pos := "law.go:18", after := #[{ on := 0, ground := Ground.data }], guard := none } : Oper)) (v := ?_) rfl (by kernel_rfl) (by kernel_rfl) (by kernel_rfl) (fun _ _ _ h => h) (Or.inl ⟨by rfl, ?_⟩) hS ?_
  rotate_left
  · (intro w hSw; (try dsimp only at hSw); go_simp; try with_reducible rfl)
  (try simp only [Act.put, List.setIfInBounds_toArray, List.set_cons_zero, List.set_cons_succ])
  refine wpAnyH_take (i := 2) (oi := ({ dst := some 13, op := Op.move (Operand.tmp 0), type := 22, pos := "law.go:18", after := #[], guard := none } : Oper)) (v := ?_) rfl (by kernel_rfl) (by kernel_rfl) (by kernel_rfl) (fun _ _ _ h => h) (Or.inl ⟨by rfl, ?_⟩) hS ?_
  rotate_left
  · (intro w hSw; (try dsimp only at hSw); go_simp; try with_reducible rfl)
  (try simp only [Act.put, List.setIfInBounds_toArray, List.set_cons_zero, List.set_cons_succ])
  refine wpAnyH_take (i := 3) (oi := ({ dst := some 14, op := Op.move (Operand.tmp 1), type := 3, pos := "law.go:18", after := #[], guard := none } : Oper)) (v := ?_) rfl (by kernel_rfl) (by kernel_rfl) (by kernel_rfl) (fun _ _ _ h => h) (Or.inl ⟨by rfl, ?_⟩) hS ?_
  rotate_left
  · (intro w hSw; (try dsimp only at hSw); go_simp; try with_reducible rfl)
  (try simp only [Act.put, List.setIfInBounds_toArray, List.set_cons_zero, List.set_cons_succ])
  refine rg_one 4 ({ dst := some 15, op := Op.call { callee := Callee.value (Operand.func 7), args := #[Operand.tmp 13, Operand.tmp 14], argTypes := #[22, 3] }, type := 23, pos := "law.go:18", after := #[{ on := 2, ground := Ground.data }, { on := 3, ground := Ground.data }], guard := none } : Oper) (by kernel_rfl) rfl (fun K hK => ?_)
  go_simp
  (go_at_call 7; (with_reducible refine (rput_text n m k s hn hm HK.out HS.out _).mono ?_); rintro e w2 ⟨v, rfl, hcv, hb⟩)
  refine hK.out _ _ ?_ (fun hS1 => ?_)
  · (first | exact hS | exact PS.next (putL_length n k) HS.out hS hb)
  clear hK K hS; have hS := hS1; clear hS1
  (try simp only [Act.put, List.setIfInBounds_toArray, List.set_cons_zero, List.set_cons_succ])
  refine rg_one 5 ({ dst := some 16, op := Op.convert 23 9 (Operand.tmp 15), type := 9, pos := "law.go:18", after := #[{ on := 4, ground := Ground.data }], guard := none } : Oper) (by kernel_rfl) rfl (fun K hK => ?_)
  go_simp
  refine hK.out _ _ ?_ (fun hS1 => ?_)
  · (first | exact hS | exact PS.next (putL_length n k) HS.out hS hb)
  clear hK K hS; have hS := hS1; clear hS1
  (try simp only [Act.put, List.setIfInBounds_toArray, List.set_cons_zero, List.set_cons_succ])
  refine wpAnyH_take (i := 6) (oi := ({ dst := some 17, op := Op.binOp BinOp.eql 9 (Operand.tmp 12) (Operand.tmp 16) 9, type := 4, pos := "law.go:18", after := #[{ on := 1, ground := Ground.data }, { on := 5, ground := Ground.data }], guard := none } : Oper)) (v := ?_) rfl (by kernel_rfl) (by kernel_rfl) (by kernel_rfl) (fun _ _ _ h => h) (Or.inl ⟨by rfl, ?_⟩) hS ?_
  rotate_left
  · (intro w hSw; (try dsimp only at hSw); go_simp; try with_reducible rfl)
  (try simp only [Act.put, List.setIfInBounds_toArray, List.set_cons_zero, List.set_cons_succ])
  refine wpAnyH_take (i := 7) (oi := ({ dst := some 18, op := Op.move (Operand.tmp 17), type := 4, pos := "law.go:18", after := #[{ on := 6, ground := Ground.data }, { on := 4, ground := Ground.chain }], guard := none } : Oper)) (v := ?_) rfl (by kernel_rfl) (by kernel_rfl) (by kernel_rfl) (fun _ _ _ h => h) (Or.inl ⟨by rfl, ?_⟩) hS ?_
  rotate_left
  · (intro w hSw; (try dsimp only at hSw); go_simp; try with_reducible rfl)
  (try simp only [Act.put, List.setIfInBounds_toArray, List.set_cons_zero, List.set_cons_succ])
  refine wpAnyH_take (i := 8) (oi := ({ dst := some 19, op := Op.move (Operand.tmp 2), type := 23, pos := "law.go:18", after := #[{ on := 7, ground := Ground.guard }], guard := some (7, true) } : Oper)) (v := ?_) rfl (by kernel_rfl) (by kernel_rfl) (by kernel_rfl) (fun _ _ _ h => h) (Or.inl ⟨by rfl, ?_⟩) hS ?_
  rotate_left
  · (intro w hSw; (try dsimp only at hSw); go_simp; try with_reducible rfl)
  (try simp only [Act.put, List.setIfInBounds_toArray, List.set_cons_zero, List.set_cons_succ])
  refine wpAnyH_take (i := 10) (oi := ({ dst := some 21, op := Op.move (Operand.tmp 2), type := 23, pos := "law.go:18", after := #[{ on := 7, ground := Ground.guard }], guard := some (7, true) } : Oper)) (v := ?_) rfl (by kernel_rfl) (by kernel_rfl) (by kernel_rfl) (fun _ _ _ h => h) (Or.inl ⟨by rfl, ?_⟩) hS ?_
  rotate_left
  · (intro w hSw; (try dsimp only at hSw); go_simp; try with_reducible rfl)
  (try simp only [Act.put, List.setIfInBounds_toArray, List.set_cons_zero, List.set_cons_succ])
  refine rg_one 9 ({ dst := some 20, op := Op.call { callee := Callee.value (Operand.func 8), args := #[Operand.tmp 19], argTypes := #[23] }, type := 22, pos := "law.go:18", after := #[{ on := 8, ground := Ground.data }, { on := 7, ground := Ground.chain }, { on := 7, ground := Ground.guard }], guard := some (7, true) } : Oper) (by kernel_rfl) rfl (fun K hK => ?_)
  go_simp
  go_at_call 8; (with_reducible refine (get_b (W := W) (x := (.slice (some ⟨W.heap.size, 0, none⟩) k k)) (bv := .slice a len cap) (k := k) (len := len) (xs := putL n k) (zs := zs) hS.2 hz hmax HG.out).mono ?_); rintro e w2 ⟨rfl, rfl⟩
  refine hK.out _ _ ?_ (fun hS1 => ?_)
  · (first | exact hS | exact PS.next (putL_length n k) HS.out hS hb)
  clear hK K hS; have hS := hS1; clear hS1
  (try simp only [Act.put, List.setIfInBounds_toArray, List.set_cons_zero, List.set_cons_succ])
  refine rg_one 11 ({ dst := some 22, op := Op.call { callee := Callee.value (Operand.func 9), args := #[Operand.tmp 21], argTypes := #[23] }, type := 22, pos := "law.go:18", after := #[{ on := 10, ground := Ground.data }, { on := 9, ground := Ground.chain }, { on := 7, ground := Ground.guard }], guard := some (7, true) } : Oper) (by kernel_rfl) rfl (fun K hK => ?_)
  go_simp
  go_at_call 9; (with_reducible refine (rget_b (W := W) (x := (.slice (some ⟨W.heap.size, 0, none⟩) k k)) (bv := .slice a len cap) (k := k) (len := len) (xs := putL n k) (zs := zs) hS.2 hz hmax HG.out).mono ?_); rintro e w2 ⟨rfl, hb⟩
  refine hK.out _ _ ?_ (fun hS1 => ?_)
  · (first | exact hS | exact PS.next (putL_length n k) HS.out hS hb)
  clear hK K hS; have hS := hS1; clear hS1
  (try simp only [Act.put, List.setIfInBounds_toArray, List.set_cons_zero, List.set_cons_succ])
  refine wpAnyH_take (i := 12) (oi := ({ dst := some 23, op := Op.binOp BinOp.eql 22 (Operand.tmp 20) (Operand.tmp 22) 22, type := 4, pos := "law.go:18", after := #[{ on := 9, ground := Ground.data }, { on := 11, ground := Ground.data }, { on := 7, ground := Ground.guard }], guard := some (7, true) } : Oper)) (v := ?_) rfl (by kernel_rfl) (by kernel_rfl) (by kernel_rfl) (fun _ _ _ h => h) (Or.inl ⟨by rfl, ?_⟩) hS ?_
  rotate_left
  · (intro w hSw; (try dsimp only at hSw); go_simp; try with_reducible rfl)
  (try simp only [Act.put, List.setIfInBounds_toArray, List.set_cons_zero, List.set_cons_succ])
  refine wpAnyH_take (i := 13) (oi := ({ dst := some 24, op := Op.pick (Operand.tmp 18) (Operand.tmp 23) (Operand.const (Value.bool false)), type := 4, pos := "law.go:18", after := #[{ on := 7, ground := Ground.data }, { on := 12, ground := Ground.data }], guard := none } : Oper)) (v := ?_) rfl (by kernel_rfl) (by kernel_rfl) (by kernel_rfl) (fun _ _ _ h => h) (Or.inl ⟨by rfl, ?_⟩) hS ?_
  rotate_left
  · (intro w hSw; (try dsimp only at hSw); go_simp; try with_reducible rfl)
  (try simp only [Act.put, List.setIfInBounds_toArray, List.set_cons_zero, List.set_cons_succ])
  refine wpAnyH_take (i := 14) (oi := ({ dst := some 25, op := Op.move (Operand.tmp 24), type := 4, pos := "law.go:18", after := #[{ on := 13, ground := Ground.data }, { on := 11, ground := Ground.chain }], guard := none } : Oper)) (v := ?_) rfl (by kernel_rfl) (by kernel_rfl) (by kernel_rfl) (fun _ _ _ h => h) (Or.inl ⟨by rfl, ?_⟩) hS ?_
  rotate_left
  · (intro w hSw; (try dsimp only at hSw); go_simp; try with_reducible rfl)
  (try simp only [Act.put, List.setIfInBounds_toArray, List.set_cons_zero, List.set_cons_succ])
  refine wpAnyH_take (i := 15) (oi := ({ dst := some 26, op := Op.move (Operand.tmp 7), type := 23, pos := "law.go:18", after := #[{ on := 14, ground := Ground.guard }], guard := some (14, true) } : Oper)) (v := ?_) rfl (by kernel_rfl) (by kernel_rfl) (by kernel_rfl) (fun _ _ _ h => h) (Or.inl ⟨by rfl, ?_⟩) hS ?_
  rotate_left
  · (intro w hSw; (try dsimp only at hSw); go_simp; try with_reducible rfl)
  (try simp only [Act.put, List.setIfInBounds_toArray, List.set_cons_zero, List.set_cons_succ])
  refine wpAnyH_take (i := 17) (oi := ({ dst := some 28, op := Op.move (Operand.tmp 0), type := 22, pos := "law.go:18", after := #[{ on := 14, ground := Ground.guard }], guard := some (14, true) } : Oper)) (v := ?_) rfl (by kernel_rfl) (by kernel_rfl) (by kernel_rfl) (fun _ _ _ h => h) (Or.inl ⟨by rfl, ?_⟩) hS ?_
  rotate_left
  · (intro w hSw; (try dsimp only at hSw); go_simp; try with_reducible rfl)
  (try simp only [Act.put, List.setIfInBounds_toArray, List.set_cons_zero, List.set_cons_succ])
  refine wpAnyH_take (i := 18) (oi := ({ dst := some 29, op := Op.move (Operand.tmp 7), type := 23, pos := "law.go:18", after := #[{ on := 14, ground := Ground.guard }], guard := some (14, true) } : Oper)) (v := ?_) rfl (by kernel_rfl) (by kernel_rfl) (by kernel_rfl) (fun _ _ _ h => h) (Or.inl ⟨by rfl, ?_⟩) hS ?_
  rotate_left
  · (intro w hSw; (try dsimp only at hSw); go_simp; try with_reducible rfl)
  (try simp only [Act.put, List.setIfInBounds_toArray, List.set_cons_zero, List.set_cons_succ])
  refine wpAnyH_take (i := 19) (oi := ({ dst := some 30, op := Op.call { callee := Callee.builtin Builtin.len, args := #[Operand.tmp 29], argTypes := #[23] }, type := 3, pos := "law.go:18", after := #[{ on := 18, ground := Ground.data }, { on := 14, ground := Ground.guard }], guard := some (14, true) } : Oper)) (v := ?_) rfl (by kernel_rfl) (by kernel_rfl) (by kernel_rfl) (fun _ _ _ h => h) (Or.inl ⟨by rfl, ?_⟩) hS ?_
  rotate_left
  · (intro w hSw; (try dsimp only at hSw); go_simp; try with_reducible rfl)
  (try simp only [Act.put, List.setIfInBounds_toArray, List.set_cons_zero, List.set_cons_succ])
  refine wpAnyH_take (i := 20) (oi := ({ dst := some 31, op := Op.binOp BinOp.mul 3 (Operand.const (Value.int IntKind.i64 8)) (Operand.tmp 30) 3, type := 3, pos := "law.go:18", after := #[{ on := 19, ground := Ground.data }, { on := 14, ground := Ground.guard }], guard := some (14, true) } : Oper)) (v := ?_) rfl (by kernel_rfl) (by kernel_rfl) (by kernel_rfl) (fun _ _ _ h => h) (Or.inl ⟨by rfl, ?_⟩) hS ?_
  rotate_left
  · (intro w hSw; (try dsimp only at hSw); go_simp; try with_reducible rfl)
  (try simp only [Act.put, List.setIfInBounds_toArray, List.set_cons_zero, List.set_cons_succ])
  refine rg_one 16 ({ dst := some 27, op := Op.call { callee := Callee.value (Operand.func 8), args := #[Operand.tmp 26], argTypes := #[23] }, type := 22, pos := "law.go:18", after := #[{ on := 15, ground := Ground.data }, { on := 14, ground := Ground.chain }, { on := 14, ground := Ground.guard }], guard := some (14, true) } : Oper) (by kernel_rfl) rfl (fun K hK => ?_)
  go_simp
  go_at_call 8; (with_reducible refine (get_x (W := W) (x := (.slice (some ⟨W.heap.size, 0, none⟩) k k)) (bv := .slice a len cap) (k := k) (len := len) (xs := putL n k) (zs := zs) hS.2 (putL_bytes n k) (by omega) HPL.out).mono ?_); rintro e w2 ⟨rfl, rfl⟩
  refine hK.out _ _ ?_ (fun hS1 => ?_)
  · (first | exact hS | exact PS.next (putL_length n k) HS.out hS hb)
  clear hK K hS; have hS := hS1; clear hS1
  (try simp only [Act.put, List.setIfInBounds_toArray, List.set_cons_zero, List.set_cons_succ])
  refine rg_one 21 ({ dst := some 32, op := Op.call { callee := Callee.value (Operand.func 10), args := #[Operand.tmp 28, Operand.tmp 31], argTypes := #[22, 3] }, type := 22, pos := "law.go:18", after := #[{ on := 17, ground := Ground.data }, { on := 20, ground := Ground.data }, { on := 16, ground := Ground.chain }, { on := 14, ground := Ground.guard }], guard := some (14, true) } : Oper) (by kernel_rfl) rfl (fun K hK => ?_)
  go_simp
  go_at_call 10; (with_reducible refine (low_at n _ l hn HI.out HL.out _).mono ?_); rintro e w2 ⟨rfl, rfl⟩
  refine hK.out _ _ ?_ (fun hS1 => ?_)
  · (first | exact hS | exact PS.next (putL_length n k) HS.out hS hb)
  clear hK K hS; have hS := hS1; clear hS1
  (try simp only [Act.put, List.setIfInBounds_toArray, List.set_cons_zero, List.set_cons_succ])
  refine wpAnyH_take (i := 22) (oi := ({ dst := some 33, op := Op.binOp BinOp.eql 22 (Operand.tmp 27) (Operand.tmp 32) 22, type := 4, pos := "law.go:18", after := #[{ on := 16, ground := Ground.data }, { on := 21, ground := Ground.data }, { on := 14, ground := Ground.guard }], guard := some (14, true) } : Oper)) (v := ?_) rfl (by kernel_rfl) (by kernel_rfl) (by kernel_rfl) (fun _ _ _ h => h) (Or.inl ⟨by rfl, ?_⟩) hS ?_
  rotate_left
  · (intro w hSw; (try dsimp only at hSw); go_simp; try with_reducible rfl)
  (try simp only [Act.put, List.setIfInBounds_toArray, List.set_cons_zero, List.set_cons_succ])
  refine wpAnyH_take (i := 23) (oi := ({ dst := some 34, op := Op.pick (Operand.tmp 25) (Operand.tmp 33) (Operand.const (Value.bool false)), type := 4, pos := "law.go:18", after := #[{ on := 14, ground := Ground.data }, { on := 22, ground := Ground.data }], guard := none } : Oper)) (v := ?_) rfl (by kernel_rfl) (by kernel_rfl) (by kernel_rfl) (fun _ _ _ h => h) (Or.inl ⟨by rfl, ?_⟩) hS ?_
  rotate_left
  · (intro w hSw; (try dsimp only at hSw); go_simp; try with_reducible rfl)
  (try simp only [Act.put, List.setIfInBounds_toArray, List.set_cons_zero, List.set_cons_succ])
  refine wpAnyH_take (i := 24) (oi := ({ dst := some 35, op := Op.move (Operand.tmp 34), type := 4, pos := "law.go:18", after := #[{ on := 23, ground := Ground.data }, { on := 21, ground := Ground.chain }], guard := none } : Oper)) (v := ?_) rfl (by kernel_rfl) (by kernel_rfl) (by kernel_rfl) (fun _ _ _ h => h) (Or.inl ⟨by rfl, ?_⟩) hS ?_
  rotate_left
  · (intro w hSw; (try dsimp only at hSw); go_simp; try with_reducible rfl)
  (try simp only [Act.put, List.setIfInBounds_toArray, List.set_cons_zero, List.set_cons_succ])
  refine rg_one 25 ({ dst := some 36, op := Op.call { callee := Callee.value (Operand.func 11), args := #[], argTypes := #[] }, type := 4, pos := "law.go:18", after := #[{ on := 24, ground := Ground.chain }, { on := 24, ground := Ground.guard }], guard := some (24, true) } : Oper) (by kernel_rfl) rfl (fun K hK => ?_)
  go_simp
  (go_at_call 11; (with_reducible refine (awake_any _).mono ?_); rintro e w2 ⟨rfl, hb⟩)
  refine hK.out _ _ ?_ (fun hS1 => ?_)
  · (first | exact hS | exact PS.next (putL_length n k) HS.out hS hb)
  clear hK K hS; have hS := hS1; clear hS1
  (try simp only [Act.put, List.setIfInBounds_toArray, List.set_cons_zero, List.set_cons_succ])
  refine wpAnyH_take (i := 26) (oi := ({ dst := some 37, op := Op.pick (Operand.tmp 35) (Operand.tmp 36) (Operand.const (Value.bool false)), type := 4, pos := "law.go:18", after := #[{ on := 24, ground := Ground.data }, { on := 25, ground := Ground.data }], guard := none } : Oper)) (v := ?_) rfl (by kernel_rfl) (by kernel_rfl) (by kernel_rfl) (fun _ _ _ h => h) (Or.inl ⟨by rfl, ?_⟩) hS ?_
  rotate_left
  · (intro w hSw; (try dsimp only at hSw); go_simp; try with_reducible rfl)
  (try simp only [Act.put, List.setIfInBounds_toArray, List.set_cons_zero, List.set_cons_succ])
  refine wpAnyH_take (i := 27) (oi := ({ dst := some 6, op := Op.assign (Operand.tmp 37), type := 4, pos := "law.go:18", after := #[{ on := 26, ground := Ground.data }, { on := 25, ground := Ground.chain }, { on := 0, ground := Ground.phase }, { on := 1, ground := Ground.phase }, { on := 2, ground := Ground.phase }, { on := 3, ground := Ground.phase }, { on := 4, ground := Ground.phase }, { on := 5, ground := Ground.phase }, { on := 6, ground := Ground.phase }, { on := 7, ground := Ground.phase }, { on := 8, ground := Ground.phase }, { on := 9, ground := Ground.phase }, { on := 10, ground := Ground.phase }, { on := 11, ground := Ground.phase }, { on := 12, ground := Ground.phase }, { on := 13, ground := Ground.phase }, { on := 14, ground := Ground.phase }, { on := 15, ground := Ground.phase }, { on := 16, ground := Ground.phase }, { on := 17, ground := Ground.phase }, { on := 18, ground := Ground.phase }, { on := 19, ground := Ground.phase }, { on := 20, ground := Ground.phase }, { on := 21, ground := Ground.phase }, { on := 22, ground := Ground.phase }, { on := 23, ground := Ground.phase }, { on := 24, ground := Ground.phase }, { on := 25, ground := Ground.phase }, { on := 26, ground := Ground.phase }], guard := none } : Oper)) (v := ?_) rfl (by kernel_rfl) (by kernel_rfl) (by kernel_rfl) (fun _ _ _ h => h) (Or.inl ⟨by rfl, ?_⟩) hS ?_
  rotate_left
  · (intro w hSw; (try dsimp only at hSw); go_simp; try with_reducible rfl)
  (try simp only [Act.put, List.setIfInBounds_toArray, List.set_cons_zero, List.set_cons_succ])
  refine wpAnyH_done (by kernel_rfl) ?_ _
  go_wp2
  go_ret
  exact ⟨rfl, PS.out hS.2⟩
end Go.Proofs.Ytcbgcdnkleinpaa
