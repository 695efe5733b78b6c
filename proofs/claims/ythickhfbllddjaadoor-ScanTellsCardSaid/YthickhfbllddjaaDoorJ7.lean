/-
  TEXTS JOINED: SpanCode, ScanFrag, ScanTell. Each one's own words stand at its head.
-/
import Derived.Test.YthickhfbllddjaaDoorJ4
import Derived.Test.YthickhfbllddjaaDoorJ2
import Derived.Test.YthickhfbllddjaaDoorJ5
import Derived.Test.YthickhfbllddjaaDoorJ6
import Derived.Test.YthickhfbllddjaaDoorJ3
/-
  WHAT THE PROGRAM'S OWN FUNCTIONS OF LAYER 7 (span) ANSWER: At, Left, Begin (place, Where: XSpanWhere). No condition.
-/
namespace Go.Proofs.YthickhfbllddjaaDoor
open Go.RowKit
/-- the place of a spot -/
def atN (s o : Int) : Nat := min ((min (max s 0) 16).toNat * 52 + (min (max o 0) 52).toNat) 832
set_option maxRecDepth 8000 in
theorem at_any (s o : Int) (h : I63 s) (h2 : I63 o) (w : World) : Calls Tryd.prog 50 #[.agg #[.int .i64 s, .int .i64 o]] w fun e w' => e = .returned (.int .i64 (atN s o : Int)) ∧ Below w.heap.size w w' := by
  obtain ⟨x, hx⟩ : ∃ x, min (max s 0) 16 = x := ⟨_, rfl⟩
  obtain ⟨y, hy⟩ : ∃ y, min (max o 0) 52 = y := ⟨_, rfl⟩
  have hx0 : 0 ≤ x := by omega
  have hx1 : x ≤ 16 := by omega
  have hy0 : 0 ≤ y := by omega
  have hy1 : y ≤ 52 := by omega
  have H1 : Hid (∀ w, Calls Tryd.prog 57 #[.int .i64 s, .int .i64 16] w fun e w' => e = .returned (.int .i64 x) ∧ w' = w) := fun w => hx ▸ nearer_any s 16 h (by omega) w
  have H2 : Hid (∀ w, Calls Tryd.prog 57 #[.int .i64 o, .int .i64 52] w fun e w' => e = .returned (.int .i64 y) ∧ w' = w) := fun w => hy ▸ nearer_any o 52 h2 (by omega) w
  have hwr : IntKind.i64.wrap (IntKind.i64.wrap (52 * x) + y) = 52 * x + y := by rw [wrap_id (52 * x) (by omega), wrap_id (52 * x + y) (by omega)]
  have H3 : Hid (∀ w, Calls Tryd.prog 41 #[.int .i64 (52 * x + y)] w fun e w' => e = .returned (.int .i64 (atN s o : Int)) ∧ w' = w) := fun w =>
    (place_any (52 * x + y) (by unfold I63; omega) w).mono fun e w' ⟨he, hw⟩ => ⟨by rw [he]; unfold nr atN; rw [hx, hy]; congr 2; omega, hw⟩
  generalize atN s o = at' at *
  clear hx hy
  unfold I63 at h h2
  go_enter Tryd.func50, Tryd.ntmps50
  go_wp2
  refine wp_region_held_drew (S := (fun w' => w' = (w.alloc (.cells #[.int .i64 s, .int .i64 o] 71)).drew)) (by kernel_rfl) rfl (fun hS => ?_)
  refine wpAnyH_take (i := 0) (oi := ({ dst := some 3, op := Op.fieldAddr 71 (Operand.tmp 1) 0, type := 0, pos := "span.go:18", after := #[], guard := none } : Oper)) (v := ?_) rfl (by kernel_rfl) (by kernel_rfl) (by kernel_rfl) (fun _ _ _ h => h) (Or.inl ⟨by rfl, ?_⟩) hS ?_
  rotate_left
  · (intro w hSw; (try dsimp only at hSw); go_simp; try with_reducible rfl)
  (try simp only [Act.put, List.setIfInBounds_toArray, List.set_cons_zero, List.set_cons_succ])
  refine wpAnyH_take (i := 1) (oi := ({ dst := some 4, op := Op.load 3 (Operand.tmp 3), type := 3, pos := "span.go:18", after := #[{ on := 0, ground := Ground.data }], guard := none } : Oper)) (v := ?_) rfl (by kernel_rfl) (by kernel_rfl) (by kernel_rfl) (fun _ _ _ h => h) (Or.inl ⟨by rfl, ?_⟩) hS ?_
  rotate_left
  · (intro w hSw; (try dsimp only at hSw); go_simp; try with_reducible rfl)
  (try simp only [Act.put, List.setIfInBounds_toArray, List.set_cons_zero, List.set_cons_succ])
  refine wpAnyH_take (i := 4) (oi := ({ dst := some 7, op := Op.fieldAddr 71 (Operand.tmp 1) 1, type := 0, pos := "span.go:18", after := #[], guard := none } : Oper)) (v := ?_) rfl (by kernel_rfl) (by kernel_rfl) (by kernel_rfl) (fun _ _ _ h => h) (Or.inl ⟨by rfl, ?_⟩) hS ?_
  rotate_left
  · (intro w hSw; (try dsimp only at hSw); go_simp; try with_reducible rfl)
  (try simp only [Act.put, List.setIfInBounds_toArray, List.set_cons_zero, List.set_cons_succ])
  refine wpAnyH_take (i := 5) (oi := ({ dst := some 8, op := Op.load 3 (Operand.tmp 7), type := 3, pos := "span.go:18", after := #[{ on := 4, ground := Ground.data }], guard := none } : Oper)) (v := ?_) rfl (by kernel_rfl) (by kernel_rfl) (by kernel_rfl) (fun _ _ _ h => h) (Or.inl ⟨by rfl, ?_⟩) hS ?_
  rotate_left
  · (intro w hSw; (try dsimp only at hSw); go_simp; try with_reducible rfl)
  (try simp only [Act.put, List.setIfInBounds_toArray, List.set_cons_zero, List.set_cons_succ])
  refine rg_one 2 ({ dst := some 5, op := Op.call { callee := Callee.value (Operand.func 57), args := #[Operand.tmp 4, Operand.const (Value.int IntKind.i64 16)], argTypes := #[3, 3] }, type := 3, pos := "span.go:18", after := #[{ on := 1, ground := Ground.data }], guard := none } : Oper) (by kernel_rfl) rfl (fun K hK => ?_)
  go_simp
  (go_at_call 57; (with_reducible refine (H1.out _).mono ?_); rintro e w2 ⟨rfl, rfl⟩)
  refine hK.out _ _ ?_ (fun hS1 => ?_)
  · (exact hS)
  clear hK K hS; have hS := hS1; clear hS1
  (try simp only [Act.put, List.setIfInBounds_toArray, List.set_cons_zero, List.set_cons_succ])
  refine wpAnyH_take (i := 3) (oi := ({ dst := some 6, op := Op.binOp BinOp.mul 3 (Operand.const (Value.int IntKind.i64 52)) (Operand.tmp 5) 3, type := 3, pos := "span.go:18", after := #[{ on := 2, ground := Ground.data }], guard := none } : Oper)) (v := ?_) rfl (by kernel_rfl) (by kernel_rfl) (by kernel_rfl) (fun _ _ _ h => h) (Or.inl ⟨by rfl, ?_⟩) hS ?_
  rotate_left
  · (intro w hSw; (try dsimp only at hSw); go_simp; try with_reducible rfl)
  (try simp only [Act.put, List.setIfInBounds_toArray, List.set_cons_zero, List.set_cons_succ])
  refine rg_one 6 ({ dst := some 9, op := Op.call { callee := Callee.value (Operand.func 57), args := #[Operand.tmp 8, Operand.const (Value.int IntKind.i64 52)], argTypes := #[3, 3] }, type := 3, pos := "span.go:18", after := #[{ on := 5, ground := Ground.data }, { on := 2, ground := Ground.chain }], guard := none } : Oper) (by kernel_rfl) rfl (fun K hK => ?_)
  go_simp
  (go_at_call 57; (with_reducible refine (H2.out _).mono ?_); rintro e w2 ⟨rfl, rfl⟩)
  refine hK.out _ _ ?_ (fun hS1 => ?_)
  · (exact hS)
  clear hK K hS; have hS := hS1; clear hS1
  (try simp only [Act.put, List.setIfInBounds_toArray, List.set_cons_zero, List.set_cons_succ])
  refine wpAnyH_take (i := 7) (oi := ({ dst := some 10, op := Op.binOp BinOp.add 3 (Operand.tmp 6) (Operand.tmp 9) 3, type := 3, pos := "span.go:18", after := #[{ on := 3, ground := Ground.data }, { on := 6, ground := Ground.data }], guard := none } : Oper)) (v := ?_) rfl (by kernel_rfl) (by kernel_rfl) (by kernel_rfl) (fun _ _ _ h => h) (Or.inl ⟨by rfl, ?_⟩) hS ?_
  rotate_left
  · (intro w hSw; (try dsimp only at hSw); go_simp; try with_reducible rfl)
  (try simp only [Act.put, List.setIfInBounds_toArray, List.set_cons_zero, List.set_cons_succ])
  refine rg_one 8 ({ dst := some 11, op := Op.call { callee := Callee.value (Operand.func 41), args := #[Operand.tmp 10], argTypes := #[3] }, type := 3, pos := "span.go:18", after := #[{ on := 7, ground := Ground.data }, { on := 6, ground := Ground.chain }], guard := none } : Oper) (by kernel_rfl) rfl (fun K hK => ?_)
  go_simp
  (go_at_call 41; (with_reducible refine (H3.out _).mono ?_); rintro e w2 ⟨rfl, rfl⟩)
  refine hK.out _ _ ?_ (fun hS1 => ?_)
  · (exact hS)
  clear hK K hS; have hS := hS1; clear hS1
  (try simp only [Act.put, List.setIfInBounds_toArray, List.set_cons_zero, List.set_cons_succ])
  refine wpAnyH_take (i := 9) (oi := ({ dst := some 2, op := Op.assign (Operand.tmp 11), type := 3, pos := "span.go:18", after := #[{ on := 8, ground := Ground.data }, { on := 8, ground := Ground.chain }, { on := 0, ground := Ground.phase }, { on := 1, ground := Ground.phase }, { on := 2, ground := Ground.phase }, { on := 3, ground := Ground.phase }, { on := 4, ground := Ground.phase }, { on := 5, ground := Ground.phase }, { on := 6, ground := Ground.phase }, { on := 7, ground := Ground.phase }, { on := 8, ground := Ground.phase }], guard := none } : Oper)) (v := ?_) rfl (by kernel_rfl) (by kernel_rfl) (by kernel_rfl) (fun _ _ _ h => h) (Or.inl ⟨by rfl, ?_⟩) hS ?_
  rotate_left
  · (intro w hSw; (try dsimp only at hSw); go_simp; try with_reducible rfl)
  (try simp only [Act.put, List.setIfInBounds_toArray, List.set_cons_zero, List.set_cons_succ])
  refine wpAnyH_done (by kernel_rfl) ?_ _
  go_wp2
  go_ret
  exact ⟨rfl, ((Below.refl _ _).alloc (Nat.le_refl _) _).drew⟩
theorem at_nat (s o a : Nat) (hs : s ≤ 16) (ho : o ≤ 51) (ha : s * 52 + o = a) (ha2 : a ≤ 832) (w : World) : Calls Tryd.prog 50 #[.agg #[.int .i64 s, .int .i64 o]] w fun e w' => e = .returned (.int .i64 (a : Int)) ∧ Below w.heap.size w w' :=
  (at_any s o (by unfold I63; omega) (by unfold I63; omega) w).mono fun e w' ⟨he, hw⟩ => ⟨by rw [he]; unfold atN; congr 2; omega, hw⟩
set_option maxRecDepth 8000 in
theorem left_any (n : Int) (h : I63 n) (w : World) : Calls Tryd.prog 53 #[.int .i64 n] w fun e w' => e = .returned (.int .i64 (leftN (nr n) : Int)) ∧ Below w.heap.size w w' := by
  have hle := nr_le n
  have HW : Hid (∀ w, Calls Tryd.prog 23 #[.int .i64 n] w fun e w' => e = .returned (.agg #[.int .i64 ((nr n / 52 : Nat) : Int), .int .i64 ((nr n % 52 : Nat) : Int)]) ∧ Below w.heap.size w w') := fun w => where_any n h w
  generalize nr n = a at *
  have HA : Hid (∀ w, Calls Tryd.prog 50 #[.agg #[.int .i64 ((a / 52 : Nat) : Int), .int .i64 ((a % 52 : Nat) : Int)]] w fun e w' => e = .returned (.int .i64 (a : Int)) ∧ Below w.heap.size w w') := fun w =>
    at_nat (a / 52) (a % 52) a (by omega) (by omega) (by omega) hle w
  have hm : (a : Int).tmod 208 = ((a % 208 : Nat) : Int) := by rw [Int.tmod_eq_emod_of_nonneg (by omega)]; omega
  have hmd := Nat.div_add_mod a 52
  obtain ⟨q, hq2⟩ : ∃ q, a / 52 = q := ⟨_, rfl⟩
  obtain ⟨r, hr2⟩ : ∃ r, a % 52 = r := ⟨_, rfl⟩
  obtain ⟨k, hk2⟩ : ∃ k, a % 208 = k := ⟨_, rfl⟩
  have hr3 : r < 52 := by omega
  have hk3 : (k : Int) < 208 := by omega
  rw [hq2, hr2] at HW HA hmd
  rw [hk2] at hm
  have HL := Lib.hid (show leftN a = if a = 832 then 0 else 208 - k by unfold leftN; rw [hk2])
  generalize leftN a = la at *
  have HM := Lib.hid hmd
  have HR := Lib.hid hr3
  clear hq2 hr2 hk2 hmd hr3
  by_cases h8 : a = 832
  · have hq : (q : Int) = 16 := by have := HM.out; have := HR.out; omega
    have hr : (r : Int) = 0 := by have := HM.out; have := HR.out; omega
    go_enter Tryd.func53, Tryd.ntmps53
    go_wp2_with (first
      | (go_at_call 23; (with_reducible refine (HW.out _).mono ?_); rintro e w1 ⟨rfl, hb⟩; have HB1 := Lib.hid hb; clear hb))
    go_ret
    exact ⟨ret_int (by rw [HL.out, if_pos h8]; rfl), HB1.out.alloc HB1.out.size _⟩
  · have hne : ¬ (q : Int) = 16 := by have := HM.out; have := HR.out; omega
    go_enter Tryd.func53, Tryd.ntmps53
    go_wp2_with (first
      | (go_at_call 23; (with_reducible refine (HW.out _).mono ?_); rintro e w1 ⟨rfl, hb⟩; have HB1 := Lib.hid hb; clear hb)
      | (go_at_call 50; (with_reducible refine (HA.out _).mono ?_); rintro e w2 ⟨rfl, hb⟩; have HB2 := Lib.hid (bchain (HB1.out.alloc HB1.out.size _) hb); clear hb))
    go_ret
    exact ⟨ret_int (by rw [HL.out, if_neg h8]; omega), HB2.out⟩
set_option maxRecDepth 8000 in
theorem begin_any (n : Int) (h : I63 n) (w : World) : Calls Tryd.prog 31 #[.int .i64 n] w fun e w' => e = .returned (.int .i64 (beginN (nr n) : Int)) ∧ Below w.heap.size w w' := by
  have hle := nr_le n
  have HW : Hid (∀ w, Calls Tryd.prog 23 #[.int .i64 n] w fun e w' => e = .returned (.agg #[.int .i64 ((nr n / 52 : Nat) : Int), .int .i64 ((nr n % 52 : Nat) : Int)]) ∧ Below w.heap.size w w') := fun w => where_any n h w
  generalize nr n = a at *
  have hb := begin_le a hle
  have hmd := Nat.div_add_mod a 52
  obtain ⟨q, hq2⟩ : ∃ q, a / 52 = q := ⟨_, rfl⟩
  obtain ⟨r, hr2⟩ : ∃ r, a % 52 = r := ⟨_, rfl⟩
  have hr3 : r < 52 := by omega
  rw [hq2, hr2] at HW
  rw [hq2, hr2] at hmd
  have hbg : beginN a = if 41 < r then (q + 1) * 52 else a := by unfold beginN; rw [hq2, hr2]
  generalize beginN a = be at *
  clear hq2 hr2
  have hr4 : (r : Int) ≤ 51 := by omega
  have hq4 : (q : Int) ≤ 16 := by omega
  by_cases h4 : 41 < r
  · rw [if_pos h4] at hbg
    have HA : Hid (∀ w, Calls Tryd.prog 50 #[.agg #[.int .i64 ((q : Int) + 1), .int .i64 0]] w fun e w' => e = .returned (.int .i64 (be : Int)) ∧ Below w.heap.size w w') := fun w =>
      at_nat (q + 1) 0 be (by omega) (by omega) (by omega) (by omega) w
    clear hmd hb hbg
    go_enter Tryd.func31, Tryd.ntmps31
    go_wp2_with (first
      | (go_at_call 23; (with_reducible refine (HW.out _).mono ?_); rintro e w1 ⟨rfl, hb⟩; have HB1 := Lib.hid hb; clear hb)
      | (go_at_call 50; (with_reducible refine (HA.out _).mono ?_); rintro e w2 ⟨rfl, hb⟩; have HB2 := Lib.hid (bchain (HB1.out.alloc HB1.out.size _) hb); clear hb))
    go_ret
    exact ⟨rfl, HB2.out⟩
  · rw [if_neg h4] at hbg
    subst hbg
    have HA : Hid (∀ w, Calls Tryd.prog 50 #[.agg #[.int .i64 (q : Int), .int .i64 (r : Int)]] w fun e w' => e = .returned (.int .i64 (be : Int)) ∧ Below w.heap.size w w') := fun w =>
      at_nat q r be (by omega) (by omega) (by omega) (by omega) w
    clear hmd hb
    go_enter Tryd.func31, Tryd.ntmps31
    go_wp2_with (first
      | (go_at_call 23; (with_reducible refine (HW.out _).mono ?_); rintro e w1 ⟨rfl, hb⟩; have HB1 := Lib.hid hb; clear hb)
      | (go_at_call 50; (with_reducible refine (HA.out _).mono ?_); rintro e w2 ⟨rfl, hb⟩; have HB2 := Lib.hid (bchain (HB1.out.alloc HB1.out.size _) hb); clear hb))
    go_ret
    exact ⟨rfl, HB2.out⟩
end Go.Proofs.YthickhfbllddjaaDoor
/-
  WHAT THE SCANNER'S METHODS has AND fragment ANSWER (layer 19). The table of half a byte's steps must lie in its block as start-up lays it; the body and the stamps must lie in a world that was ahead.
-/
namespace Go.Proofs.YthickhfbllddjaaDoor
open Go.RowKit
set_option maxRecDepth 8000 in
set_option maxHeartbeats 1000000 in
theorem has_any {W w : World} {sb jb : Nat} {ep a0 b0 e0 k0 : Int} {bv kv rv pv : Value} {K : List Bool} (hs : SO w sb ep bv kv jb a0 b0 rv pv e0 k0) (hb : Below W.heap.size W w) (hk : BS W kv 16 K) (f n : Nat) (hf : f ≤ 832) (hn : n ≤ 100000) :
    Calls Tryd.prog 51 #[.pointer (some ⟨sb, 0, none⟩), .int .i64 f, .int .i64 n] w fun e w' => e = .returned (.bool (covAt K (f : Int) ((f + n : Nat) : Int))) ∧ Below w.heap.size w w' := by
  obtain ⟨_, _, z2, _⟩ := hs.cells
  obtain ⟨t, ht⟩ : ∃ t, f + n = t := ⟨_, rfl⟩
  have htI : (f : Int) + (n : Int) = (t : Int) := by omega
  have htb : (t : Int) ≤ 1000000 := by omega
  have HC : Hid (Calls Tryd.prog 64 #[kv, .int .i64 (f : Int), .int .i64 (t : Int)] w fun e w' => e = .returned (.bool (covAt K (f : Int) (t : Int))) ∧ Below w.heap.size w w') := Lib.hid (covered_any kv 16 K f t (by unfold I63; omega) (by unfold I63; omega) w (hk.kin (Kin.below hb)))
  rw [ht]
  clear hs hb hk ht hn
  go_enter Tryd.func51, Tryd.ntmps51
  go_wp2_with (first
    | (go_at_call 64; (with_reducible refine (HC.out).mono ?_); rintro e w1 ⟨rfl, hb⟩; have HB1 := Lib.hid hb; clear hb))
  go_ret
  exact ⟨rfl, HB1.out⟩
/-- what fragment answers -/
def FragT (ep : Int) (B : List Int) (K : List Bool) (a : Nat) (w : World) (r : Ending) (w' : World) : Prop :=
  Below w.heap.size w w' ∧ (((scF ep B K a).2 = 0 ∧ ∃ k e x n c m, r = .returned (.tuple #[.agg (fA k e (.slice x n c)), .int .i64 m, .bool false])) ∨
    ((scF ep B K a).2 ≠ 0 ∧ ∃ x c, r = .returned (.tuple #[.agg (fA (scF ep B K a).1.kind (scF ep B K a).1.epoch (.slice x (scF ep B K a).1.data.length c)), .int .i64 ((scF ep B K a).2 : Nat), .bool true]) ∧
      w'.ownsRow w.heap.size 5 1 (.slice x (scF ep B K a).1.data.length c) (scF ep B K a).1.data.length (il .u8 (scF ep B K a).1.data)))
set_option maxRecDepth 8000 in
set_option maxHeartbeats 4000000 in
theorem fragment_any {W w : World} {sb jb : Nat} {ep a0 b0 e0 k0 : Int} {bv kv rv pv : Value} {B : List Int} {K : List Bool} (hs : SO w sb ep bv kv jb a0 b0 rv pv e0 k0) (hb : Below W.heap.size W w) (hT : Tab W) (hB : B.length = 832) (hBb : isB B) (hbv : RI .u8 W bv 832 B) (hk : BS W kv 16 K) (a : Nat) (ha : a ≤ 832) :
    Calls Tryd.prog 32 #[.pointer (some ⟨sb, 0, none⟩), .int .i64 a] w (FragT ep B K a w) := by
  obtain ⟨wa, hwa⟩ : ∃ q, w.alloc (.cells (fA 0 0 (.slice none 0 0)) 64) = q := ⟨_, rfl⟩
  have HA : Hid (FO wa w.heap.size 0 0 (.slice none 0 0)) := Lib.hid (by rw [← hwa]; exact FO.alloc w)
  have hba : Below w.heap.size w wa := by rw [← hwa]; exact balloc w _
  have HBA := Lib.hid hba
  have HSA := Lib.hid (hs.keep hba)
  have hbw : Below W.heap.size W wa := bch hb hba
  have HB0 := Lib.hid hbw
  have HT := Lib.hid hT
  have HK := Lib.hid hk
  have HHAS : Hid (∀ (w : World) (n : Nat), SO w sb ep bv kv jb a0 b0 rv pv e0 k0 → Below W.heap.size W w → n ≤ 100000 → Calls Tryd.prog 51 #[.pointer (some ⟨sb, 0, none⟩), .int .i64 a, .int .i64 n] w fun e w' => e = .returned (.bool (covAt K (a : Int) ((a + n : Nat) : Int))) ∧ Below w.heap.size w w') := Lib.hid fun w n h1 h2 h3 => has_any h1 h2 hk a n ha h3
  by_cases h8 : a = 832
  · have HR := Lib.hid (scF_far (ep := ep) (B := B) (K := K) h8)
    have h8i : (a : Int) = 832 := by omega
    clear hs hb hT hBb hbv hk hba hbw h8 hB
    go_enter Tryd.func32, Tryd.ntmps32
    go_wp2_with (first
      | (rw [hwa])
      | (refine wpl_put_fr rfl (.tmp 4) (.tmp 18) rfl w.heap.size HA.out 0 0 none 0 0 rfl rfl ?_; intro wz HZ HGZ))
    refine bodyPost_ret_by (results_row_tmp2 rfl _ _ w.heap.size _ rfl HZ.out.load) rfl ?_
    exact ⟨below_over HBA.out HGZ.out (Nat.le_refl _) HBA.out.size, .inl ⟨by rw [HR.out], _, _, _, _, _, _, rfl⟩⟩
  have h8i : ¬ (a : Int) = 832 := by omega
  cases h11 : covAt K (a : Int) ((a + 11 : Nat) : Int) with
  | false =>
    have HR := Lib.hid (scF_head (ep := ep) (B := B) (K := K) h11)
    have HH : Hid (Calls Tryd.prog 51 #[.pointer (some ⟨sb, 0, none⟩), .int .i64 a, .int .i64 11] wa fun e w' => e = .returned (.bool false) ∧ Below wa.heap.size wa w') := Lib.hid (by
      have := HHAS.out wa 11 HSA.out hbw (by omega); rwa [h11] at this)
    clear hs hb hT hBb hbv hk hba hbw h8 hB h11
    go_enter Tryd.func32, Tryd.ntmps32
    go_wp2_with (first
      | (rw [hwa])
      | (go_at_call 51; (with_reducible refine (HH.out).mono ?_); rintro e w1 ⟨rfl, hb1⟩; have HA1 := Lib.hid (HA.out.keep hb1); have HB1 := Lib.hid (bch HBA.out hb1); clear hb1)
      | (refine wpl_put_fr rfl (.tmp 4) (.tmp 18) rfl w.heap.size HA1.out 0 0 none 0 0 rfl rfl ?_; intro wz HZ HGZ))
    refine bodyPost_ret_by (results_row_tmp2 rfl _ _ w.heap.size _ rfl HZ.out.load) rfl ?_
    exact ⟨below_over HB1.out HGZ.out (Nat.le_refl _) HB1.out.size, .inl ⟨by rw [HR.out], _, _, _, _, _, _, rfl⟩⟩
  | true =>
    have HH : Hid (Calls Tryd.prog 51 #[.pointer (some ⟨sb, 0, none⟩), .int .i64 a, .int .i64 11] wa fun e w' => e = .returned (.bool true) ∧ Below wa.heap.size wa w') := Lib.hid (by
      have := HHAS.out wa 11 HSA.out hbw (by omega); rwa [h11] at this)
    have hlt0 := hs.lt
    have hwz := hb.size
    obtain ⟨ba, bc, rfl, _, hbc, _⟩ := id hbv
    obtain ⟨l, hl⟩ : ∃ l, leftN a = l := ⟨_, rfl⟩
    have hla := left_le a ha
    rw [hl] at hla
    have hna : nr (a : Int) = a := nr_nat a ha
    have HLF : Hid (∀ w, Calls Tryd.prog 53 #[.int .i64 a] w fun e w' => e = .returned (.int .i64 (l : Int)) ∧ Below w.heap.size w w') := Lib.hid fun w => by
      have := left_any (a : Int) (by unfold I63; omega) w; rwa [hna, hl] at this
    obtain ⟨t, ht⟩ : ∃ t, a + l = t := ⟨_, rfl⟩
    have htI : (a : Int) + (l : Int) = (t : Int) := by omega
    have ht8 : (t : Int) ≤ 832 := by omega
    obtain ⟨q, qc, hq⟩ := sliced_form ba a l bc 1
    have HSL := Lib.hid hq
    have hcut : ∀ w, Below W.heap.size W w → RI .u8 w (.slice q l qc) l (bSl B a) := fun w h => by
      have := (hbv.keep h).cut a l bc (by omega) (by omega) (Nat.le_refl _)
      rw [hq] at this
      unfold bSl
      rw [hl]
      exact this
    have hbs : isB (bSl B a) := (hBb.drop _).take _
    have HDC : Hid (∀ w, Below W.heap.size W w → Calls Tryd.prog 52 #[.slice q l qc, .int .u32 ep] w (DecF (bSl B a) ep w)) := Lib.hid fun w h => fdec_any _ l _ ep w (hT.keep h) (hcut w h) hbs
    have HTL := Lib.hid ht
    have HWT : Hid (IntKind.i64.wrap (t : Int) = (t : Int)) := Lib.hid (wrap_id _ (by omega))
    have HBC : Hid (t ≤ bc) := Lib.hid (by omega)
    obtain ⟨f, m, x, hD⟩ : ∃ f m x, scD ep B a = (f, m, x) := ⟨_, _, _, rfl⟩
    have HDF : Hid (∀ w w' r, DecF (bSl B a) ep w r w' → ∃ p n c, r = .returned (.tuple #[.agg (fA f.kind f.epoch (.slice p n c)), .int .i64 (m : Nat), .int .i64 x]) ∧ w'.ownsRow w.heap.size 5 1 (.slice p n c) n (il .u8 f.data) ∧ Below w.heap.size w w') := Lib.hid fun w w' r h => by
      obtain ⟨p, n, c, h1, h2, h3⟩ := h
      rw [show fragD (bSl B a) ep = (f, m, x) from hD] at h1 h2
      exact ⟨p, n, c, h1, h2, h3⟩
    have HW0 : Hid (∀ w', Below wa.heap.size wa w' → Below W.heap.size W w' ∧ Below w.heap.size w w' ∧ FO w' w.heap.size 0 0 (.slice none 0 0) ∧ SO w' sb ep (.slice ba 832 bc) kv jb a0 b0 rv pv e0 k0) := Lib.hid fun w' h => ⟨bch HB0.out h, bch HBA.out h, HA.out.keep h, HSA.out.keep h⟩
    have hx : (x = 0 ∧ 11 ≤ m ∧ a + m ≤ 832 ∧ (∀ n, covAt K (a : Int) ((a + m : Nat) : Int) = n → if n = true then scF ep B K a = (f, m) else scF ep B K a = (noF, 0))) ∨ (x ≠ 0 ∧ scF ep B K a = (noF, 0)) := by
      by_cases h0 : x = 0
      · have h3 : (scD ep B a).2.2 = 0 := by rw [hD]; exact h0
        have hp := scD_parts hB ha h3
        rw [hD] at hp
        refine .inl ⟨h0, hp.1, hp.2.2.1, fun n hn => ?_⟩
        cases n with
        | true =>
          have := scF_yes h8 h11 h3 (by rw [hD]; exact hn)
          rw [hD] at this
          exact this
        | false => exact scF_cov (by rw [hD]; exact hn)
      · exact .inr ⟨h0, scF_err (by rw [hD]; exact h0)⟩
    obtain ⟨fk, fe, fd⟩ := f
    dsimp only at HDF
    obtain ⟨s0, s1, _⟩ := HSA.out.cells
    clear hs hb hT hBb hbv hk hba hbw h8 hB h11 hbc hl hla hna hq hcut hbs ht
    go_enter Tryd.func32, Tryd.ntmps32
    go_wp2_with (first
      | (rw [hwa])
      | (go_at_call 51; (with_reducible refine (HH.out).mono ?_); rintro e w1 ⟨rfl, hb1⟩; have HB1 := Lib.hid hb1; clear hb1))
    have HS3 : Hid (∀ w', Below wa.heap.size wa w' → w'.cell? ⟨sb, 0, none⟩ = some (.int .u32 ep) ∧ w'.cell? ⟨sb, 1, none⟩ = some (.slice ba 832 bc) ∧ Below wa.heap.size wa w') := Lib.hid fun w' h => by
      obtain ⟨q0, q1, _⟩ := (HW0.out w' h).2.2.2.cells
      exact ⟨q0, q1, h⟩
    clear s0 s1
    have HSW : Hid (sb < w.heap.size ∧ W.heap.size ≤ w.heap.size) := Lib.hid ⟨hlt0, hwz⟩
    have HWA : Hid (w.heap.size + 1 = wa.heap.size) := Lib.hid (by rw [← hwa, alloc_size])
    clear hwa hlt0 hwz
    go_wp2_with fail
    refine wp_region_held_drew (S := (fun w' => w'.cell? ⟨sb, 0, none⟩ = some (.int .u32 ep) ∧ w'.cell? ⟨sb, 1, none⟩ = some (.slice ba 832 bc) ∧ Below wa.heap.size wa w')) (by kernel_rfl) (HS3.out _ HB1.out.drew) (fun hS => ?_)
    refine wpAnyH_take (i := 0) (oi := ({ dst := some 20, op := Op.move (Operand.tmp 0), type := 50, pos := "scanner.go:59", after := #[], guard := none } : Oper)) (v := ?_) rfl (by kernel_rfl) (by kernel_rfl) (by kernel_rfl) (fun _ _ _ h => h) (Or.inl ⟨by rfl, ?_⟩) hS ?_
    rotate_left
    · (intro w hSw; (try dsimp only at hSw); go_simp; try with_reducible rfl)
    (try simp only [Act.put, List.setIfInBounds_toArray, List.set_cons_zero, List.set_cons_succ])
    refine wpAnyH_take (i := 1) (oi := ({ dst := some 21, op := Op.nilCheck (Operand.tmp 20), type := 0, pos := "scanner.go:59", after := #[{ on := 0, ground := Ground.data }], guard := none } : Oper)) (v := ?_) rfl (by kernel_rfl) (by kernel_rfl) (by kernel_rfl) (fun _ _ _ h => h) (Or.inl ⟨by rfl, ?_⟩) hS ?_
    rotate_left
    · (intro w hSw; (try dsimp only at hSw); go_simp; try with_reducible rfl)
    (try simp only [Act.put, List.setIfInBounds_toArray, List.set_cons_zero, List.set_cons_succ])
    refine wpAnyH_take (i := 2) (oi := ({ dst := some 22, op := Op.fieldAddr 57 (Operand.tmp 21) 1, type := 0, pos := "scanner.go:59", after := #[{ on := 1, ground := Ground.data }], guard := none } : Oper)) (v := ?_) rfl (by kernel_rfl) (by kernel_rfl) (by kernel_rfl) (fun _ _ _ h => h) (Or.inl ⟨by rfl, ?_⟩) hS ?_
    rotate_left
    · (intro w hSw; (try dsimp only at hSw); go_simp; try with_reducible rfl)
    (try simp only [Act.put, List.setIfInBounds_toArray, List.set_cons_zero, List.set_cons_succ])
    refine wpAnyH_take (i := 3) (oi := ({ dst := some 23, op := Op.load 38 (Operand.tmp 22), type := 38, pos := "scanner.go:59", after := #[{ on := 2, ground := Ground.data }], guard := none } : Oper)) (v := ?_) rfl (by kernel_rfl) (by kernel_rfl) (by kernel_rfl) (fun _ _ _ h => h) (Or.inl ⟨by rfl, ?_⟩) hS ?_
    rotate_left
    · (intro w hSw; (try dsimp only at hSw); go_simp; try with_reducible rfl)
    (try simp only [Act.put, List.setIfInBounds_toArray, List.set_cons_zero, List.set_cons_succ])
    refine wpAnyH_take (i := 4) (oi := ({ dst := some 24, op := Op.move (Operand.tmp 1), type := 3, pos := "scanner.go:59", after := #[], guard := none } : Oper)) (v := ?_) rfl (by kernel_rfl) (by kernel_rfl) (by kernel_rfl) (fun _ _ _ h => h) (Or.inl ⟨by rfl, ?_⟩) hS ?_
    rotate_left
    · (intro w hSw; (try dsimp only at hSw); go_simp; try with_reducible rfl)
    (try simp only [Act.put, List.setIfInBounds_toArray, List.set_cons_zero, List.set_cons_succ])
    refine wpAnyH_take (i := 5) (oi := ({ dst := some 25, op := Op.move (Operand.tmp 1), type := 3, pos := "scanner.go:59", after := #[], guard := none } : Oper)) (v := ?_) rfl (by kernel_rfl) (by kernel_rfl) (by kernel_rfl) (fun _ _ _ h => h) (Or.inl ⟨by rfl, ?_⟩) hS ?_
    rotate_left
    · (intro w hSw; (try dsimp only at hSw); go_simp; try with_reducible rfl)
    (try simp only [Act.put, List.setIfInBounds_toArray, List.set_cons_zero, List.set_cons_succ])
    refine wpAnyH_take (i := 6) (oi := ({ dst := some 26, op := Op.move (Operand.tmp 1), type := 3, pos := "scanner.go:59", after := #[], guard := none } : Oper)) (v := ?_) rfl (by kernel_rfl) (by kernel_rfl) (by kernel_rfl) (fun _ _ _ h => h) (Or.inl ⟨by rfl, ?_⟩) hS ?_
    rotate_left
    · (intro w hSw; (try dsimp only at hSw); go_simp; try with_reducible rfl)
    (try simp only [Act.put, List.setIfInBounds_toArray, List.set_cons_zero, List.set_cons_succ])
    refine wpAnyH_take (i := 10) (oi := ({ dst := some 30, op := Op.move (Operand.tmp 0), type := 50, pos := "scanner.go:59", after := #[], guard := none } : Oper)) (v := ?_) rfl (by kernel_rfl) (by kernel_rfl) (by kernel_rfl) (fun _ _ _ h => h) (Or.inl ⟨by rfl, ?_⟩) hS ?_
    rotate_left
    · (intro w hSw; (try dsimp only at hSw); go_simp; try with_reducible rfl)
    (try simp only [Act.put, List.setIfInBounds_toArray, List.set_cons_zero, List.set_cons_succ])
    refine wpAnyH_take (i := 11) (oi := ({ dst := some 31, op := Op.nilCheck (Operand.tmp 30), type := 0, pos := "scanner.go:59", after := #[{ on := 10, ground := Ground.data }], guard := none } : Oper)) (v := ?_) rfl (by kernel_rfl) (by kernel_rfl) (by kernel_rfl) (fun _ _ _ h => h) (Or.inl ⟨by rfl, ?_⟩) hS ?_
    rotate_left
    · (intro w hSw; (try dsimp only at hSw); go_simp; try with_reducible rfl)
    (try simp only [Act.put, List.setIfInBounds_toArray, List.set_cons_zero, List.set_cons_succ])
    refine wpAnyH_take (i := 12) (oi := ({ dst := some 32, op := Op.fieldAddr 57 (Operand.tmp 31) 0, type := 0, pos := "scanner.go:59", after := #[{ on := 11, ground := Ground.data }], guard := none } : Oper)) (v := ?_) rfl (by kernel_rfl) (by kernel_rfl) (by kernel_rfl) (fun _ _ _ h => h) (Or.inl ⟨by rfl, ?_⟩) hS ?_
    rotate_left
    · (intro w hSw; (try dsimp only at hSw); go_simp; try with_reducible rfl)
    (try simp only [Act.put, List.setIfInBounds_toArray, List.set_cons_zero, List.set_cons_succ])
    refine wpAnyH_take (i := 13) (oi := ({ dst := some 33, op := Op.load 53 (Operand.tmp 32), type := 53, pos := "scanner.go:59", after := #[{ on := 12, ground := Ground.data }], guard := none } : Oper)) (v := ?_) rfl (by kernel_rfl) (by kernel_rfl) (by kernel_rfl) (fun _ _ _ h => h) (Or.inl ⟨by rfl, ?_⟩) hS ?_
    rotate_left
    · (intro w hSw; (try dsimp only at hSw); go_simp; try with_reducible rfl)
    (try simp only [Act.put, List.setIfInBounds_toArray, List.set_cons_zero, List.set_cons_succ])
    refine rg_both 7 19 ({ dst := some 27, op := Op.call { callee := Callee.value (Operand.func 53), args := #[Operand.tmp 26], argTypes := #[3] }, type := 3, pos := "scanner.go:59", after := #[{ on := 6, ground := Ground.data }], guard := none } : Oper) ({ dst := some 7, op := Op.alloc 64, type := 0, pos := "scanner.go:59", after := #[], guard := none } : Oper) (by kernel_rfl) rfl rfl (fun K hK => ?_) (fun K hK => ?_)
    · skip
      go_simp
      (go_at_call 53; (with_reducible refine (HLF.out _).mono ?_); rintro r w2 ⟨rfl, hb⟩; have hN := HS3.out _ (bch hS.2.2 hb); (try (have q := Lib.hid (HG.out.keep hb); clear HG; have HG := q; clear q)); clear hb)
      refine hK.out _ _ ?_ (fun hS1 => ?_)
      · (first | exact hN | exact hS)
      clear hK K hS; have hS := hS1; clear hS1
      (try simp only [Act.put, List.setIfInBounds_toArray, List.set_cons_zero, List.set_cons_succ])
      refine wpAnyH_take (i := 8) (oi := ({ dst := some 28, op := Op.binOp BinOp.add 3 (Operand.tmp 25) (Operand.tmp 27) 3, type := 3, pos := "scanner.go:59", after := #[{ on := 5, ground := Ground.data }, { on := 7, ground := Ground.data }], guard := none } : Oper)) (v := .int .i64 (t : Int)) rfl (by kernel_rfl) (by kernel_rfl) (by kernel_rfl) (fun _ _ _ h => h) (Or.inl ⟨by rfl, ?_⟩) hS ?_
      · (intro w hSw; (try dsimp only at hSw); have z := HWT.out; go_simp; (try exact z))
      (try simp only [Act.put, List.setIfInBounds_toArray, List.set_cons_zero, List.set_cons_succ])
      refine wpAnyH_take (i := 9) (oi := ({ dst := some 29, op := Op.slice 38 (Operand.tmp 23) (some (Operand.tmp 24)) (some (Operand.tmp 28)) none, type := 38, pos := "scanner.go:59", after := #[{ on := 3, ground := Ground.data }, { on := 4, ground := Ground.data }, { on := 8, ground := Ground.data }], guard := none } : Oper)) (v := .slice q l qc) rfl (by kernel_rfl) (by kernel_rfl) (by kernel_rfl) (fun _ _ _ h => h) (Or.inl ⟨by rfl, ?_⟩) hS ?_
      · (intro w hSw; (try dsimp only at hSw); exact (exec_cut_lh (.tmp 23) (.tmp 24) (.tmp 28) rfl ba 832 bc a l rfl rfl (by rw [HTL.out]; rfl) (by rw [HTL.out]; exact HBC.out)).trans (by rw [HSL.out]))
      (try simp only [Act.put, List.setIfInBounds_toArray, List.set_cons_zero, List.set_cons_succ])
      refine rg_both 14 19 ({ dst := some 34, op := Op.call { callee := Callee.value (Operand.func 52), args := #[Operand.tmp 29, Operand.tmp 33], argTypes := #[38, 53] }, type := 91, pos := "scanner.go:59", after := #[{ on := 9, ground := Ground.data }, { on := 13, ground := Ground.data }, { on := 7, ground := Ground.chain }], guard := none } : Oper) ({ dst := some 7, op := Op.alloc 64, type := 0, pos := "scanner.go:59", after := #[], guard := none } : Oper) (by kernel_rfl) rfl rfl (fun K hK => ?_) (fun K hK => ?_)
      · skip
        go_simp
        (go_at_call 52; (refine (HDC.out _ (bch HB0.out hS.2.2)).mono ?_); rintro r w4 hd; obtain ⟨p4, n4, c4, rfl, ho, hb⟩ := HDF.out _ _ _ hd; have hN := HS3.out _ (bch hS.2.2 hb); (try (have q := Lib.hid (HG.out.keep hb); clear HG; have HG := q; clear q)); have HO := Lib.hid (own_mono ho (show w.heap.size ≤ _ from Nat.le_trans (by have := HWA.out; omega) hS.2.2.size)); clear hb ho hd)
        refine hK.out _ _ ?_ (fun hS1 => ?_)
        · (first | exact hN | exact hS)
        clear hK K hS; have hS := hS1; clear hS1
        (try simp only [Act.put, List.setIfInBounds_toArray, List.set_cons_zero, List.set_cons_succ])
        refine wpAnyH_take (i := 15) (oi := ({ dst := some 19, op := Op.move (Operand.tmp 34), type := 91, pos := "scanner.go:59", after := #[{ on := 14, ground := Ground.data }], guard := none } : Oper)) (v := ?_) rfl (by kernel_rfl) (by kernel_rfl) (by kernel_rfl) (fun _ _ _ h => h) (Or.inl ⟨by rfl, ?_⟩) hS ?_
        rotate_left
        · (intro w hSw; (try dsimp only at hSw); go_simp; try with_reducible rfl)
        (try simp only [Act.put, List.setIfInBounds_toArray, List.set_cons_zero, List.set_cons_succ])
        refine wpAnyH_take (i := 16) (oi := ({ dst := some 35, op := Op.extract (Operand.tmp 19) 0, type := 64, pos := "scanner.go:59", after := #[{ on := 15, ground := Ground.data }], guard := none } : Oper)) (v := ?_) rfl (by kernel_rfl) (by kernel_rfl) (by kernel_rfl) (fun _ _ _ h => h) (Or.inl ⟨by rfl, ?_⟩) hS ?_
        rotate_left
        · (intro w hSw; (try dsimp only at hSw); go_simp; try with_reducible rfl)
        (try simp only [Act.put, List.setIfInBounds_toArray, List.set_cons_zero, List.set_cons_succ])
        refine wpAnyH_take (i := 17) (oi := ({ dst := some 36, op := Op.extract (Operand.tmp 19) 1, type := 3, pos := "scanner.go:59", after := #[{ on := 15, ground := Ground.data }, { on := 20, ground := Ground.gcOnly Departure.lateStores }], guard := none } : Oper)) (v := ?_) rfl (by kernel_rfl) (by kernel_rfl) (by kernel_rfl) (fun _ _ _ h => h) (Or.inl ⟨by rfl, ?_⟩) hS ?_
        rotate_left
        · (intro w hSw; (try dsimp only at hSw); go_simp; try with_reducible rfl)
        (try simp only [Act.put, List.setIfInBounds_toArray, List.set_cons_zero, List.set_cons_succ])
        refine wpAnyH_take (i := 18) (oi := ({ dst := some 37, op := Op.extract (Operand.tmp 19) 2, type := 67, pos := "scanner.go:59", after := #[{ on := 15, ground := Ground.data }, { on := 21, ground := Ground.gcOnly Departure.lateStores }], guard := none } : Oper)) (v := ?_) rfl (by kernel_rfl) (by kernel_rfl) (by kernel_rfl) (fun _ _ _ h => h) (Or.inl ⟨by rfl, ?_⟩) hS ?_
        rotate_left
        · (intro w hSw; (try dsimp only at hSw); go_simp; try with_reducible rfl)
        (try simp only [Act.put, List.setIfInBounds_toArray, List.set_cons_zero, List.set_cons_succ])
        refine rg_one 19 ({ dst := some 7, op := Op.alloc 64, type := 0, pos := "scanner.go:59", after := #[], guard := none } : Oper) (by kernel_rfl) rfl (fun K hK => ?_)
        rw [if_pos (by rfl)]; refine wp_new_fr rfl ?_; intro g w5 HG hgl hb; have hN := HS3.out _ (bch hS.2.2 hb.out); (try (have q := Lib.hid (own_keep HO.out hb.out); clear HO; have HO := q; clear q)); have HGL := Lib.hid (Nat.le_trans hS.2.2.size hgl.out); clear hgl hb
        refine hK.out _ _ ?_ (fun hS1 => ?_)
        · (first | exact hN | exact hS)
        clear hK K hS; have hS := hS1; clear hS1
        (try simp only [Act.put, List.setIfInBounds_toArray, List.set_cons_zero, List.set_cons_succ])
        refine rg_one 20 ({ dst := none, op := Op.store 64 (Operand.tmp 7) (Operand.tmp 35), type := 0, pos := "scanner.go:59", after := #[{ on := 19, ground := Ground.data }, { on := 16, ground := Ground.data }, { on := 14, ground := Ground.chain }, { on := 0, ground := Ground.phase }, { on := 1, ground := Ground.phase }, { on := 2, ground := Ground.phase }, { on := 3, ground := Ground.phase }, { on := 4, ground := Ground.phase }, { on := 5, ground := Ground.phase }, { on := 6, ground := Ground.phase }, { on := 7, ground := Ground.phase }, { on := 8, ground := Ground.phase }, { on := 9, ground := Ground.phase }, { on := 10, ground := Ground.phase }, { on := 11, ground := Ground.phase }, { on := 12, ground := Ground.phase }, { on := 13, ground := Ground.phase }, { on := 14, ground := Ground.phase }, { on := 15, ground := Ground.phase }, { on := 16, ground := Ground.phase }, { on := 17, ground := Ground.textOnly Departure.lateStores }, { on := 18, ground := Ground.textOnly Departure.lateStores }, { on := 19, ground := Ground.phase }], guard := none } : Oper) (by kernel_rfl) rfl (fun K hK => ?_)
        rw [if_pos (by rfl)]; refine wp_put_fr (.tmp 7) (.tmp 35) rfl g HG.out fk fe p4 n4 c4 rfl rfl ?_; intro w6 HF6 HG6; have HO6 := Lib.hid (own_over HO.out HG6.out (fun q hq e => HG.out.ne_own HO.out q hq (Option.some.inj e))); have hN := HS3.out _ (below_over hS.2.2 HG6.out HGL.out hS.2.2.size); clear HG HO HG6
        refine hK.out _ _ ?_ (fun hS1 => ?_)
        · (first | exact hN | exact hS)
        clear hK K hS; have hS := hS1; clear hS1
        (try simp only [Act.put])
        refine wpAnyH_take (i := 21) (oi := ({ dst := some 8, op := Op.assign (Operand.tmp 36), type := 3, pos := "scanner.go:59", after := #[{ on := 17, ground := Ground.data }, { on := 20, ground := Ground.chain }, { on := 0, ground := Ground.phase }, { on := 1, ground := Ground.phase }, { on := 2, ground := Ground.phase }, { on := 3, ground := Ground.phase }, { on := 4, ground := Ground.phase }, { on := 5, ground := Ground.phase }, { on := 6, ground := Ground.phase }, { on := 7, ground := Ground.phase }, { on := 8, ground := Ground.phase }, { on := 9, ground := Ground.phase }, { on := 10, ground := Ground.phase }, { on := 11, ground := Ground.phase }, { on := 12, ground := Ground.phase }, { on := 13, ground := Ground.phase }, { on := 14, ground := Ground.phase }, { on := 15, ground := Ground.phase }, { on := 16, ground := Ground.phase }, { on := 17, ground := Ground.phase }, { on := 18, ground := Ground.textOnly Departure.lateStores }, { on := 19, ground := Ground.phase }, { on := 20, ground := Ground.phase }], guard := none } : Oper)) (v := ?_) rfl (by kernel_rfl) (by kernel_rfl) (by kernel_rfl) (fun _ _ _ h => h) (Or.inl ⟨by rfl, ?_⟩) hS ?_
        rotate_left
        · (intro w hSw; (try dsimp only at hSw); go_simp; try with_reducible rfl)
        (try simp only [Act.put, List.setIfInBounds_toArray, List.set_cons_zero, List.set_cons_succ])
        refine wpAnyH_take (i := 22) (oi := ({ dst := some 9, op := Op.assign (Operand.tmp 37), type := 67, pos := "scanner.go:59", after := #[{ on := 18, ground := Ground.data }, { on := 21, ground := Ground.chain }, { on := 0, ground := Ground.phase }, { on := 1, ground := Ground.phase }, { on := 2, ground := Ground.phase }, { on := 3, ground := Ground.phase }, { on := 4, ground := Ground.phase }, { on := 5, ground := Ground.phase }, { on := 6, ground := Ground.phase }, { on := 7, ground := Ground.phase }, { on := 8, ground := Ground.phase }, { on := 9, ground := Ground.phase }, { on := 10, ground := Ground.phase }, { on := 11, ground := Ground.phase }, { on := 12, ground := Ground.phase }, { on := 13, ground := Ground.phase }, { on := 14, ground := Ground.phase }, { on := 15, ground := Ground.phase }, { on := 16, ground := Ground.phase }, { on := 17, ground := Ground.phase }, { on := 18, ground := Ground.phase }, { on := 19, ground := Ground.phase }, { on := 20, ground := Ground.phase }, { on := 21, ground := Ground.phase }], guard := none } : Oper)) (v := ?_) rfl (by kernel_rfl) (by kernel_rfl) (by kernel_rfl) (fun _ _ _ h => h) (Or.inl ⟨by rfl, ?_⟩) hS ?_
        rotate_left
        · (intro w hSw; (try dsimp only at hSw); go_simp; try with_reducible rfl)
        (try simp only [Act.put, List.setIfInBounds_toArray, List.set_cons_zero, List.set_cons_succ])
        refine wpAnyH_done (by kernel_rfl) ?_ _
        have HB6 := Lib.hid hS.2.2
        clear hS
        (try clear hN)
        have HW6 := Lib.hid (HW0.out _ HB6.out)
        have HGN := Lib.hid (show w.heap.size ≠ g from by have := HGL.out; have := HWA.out; omega)
        have HA7 := Lib.hid (HW6.out.2.2.1.keep (Below.refl _ w6).drew)
        have HO7 := Lib.hid (own_keep HO6.out (Below.refl _ w6).drew)
        have HST : Hid (Below w.heap.size w w6.drew ∧ Below W.heap.size W w6.drew ∧ SO w6.drew sb ep (.slice ba 832 bc) kv jb a0 b0 rv pv e0 k0 ∧ FO w6.drew g fk fe (.slice p4 n4 c4)) := Lib.hid ⟨HW6.out.2.1.drew, HW6.out.1.drew, HW6.out.2.2.2.keep (Below.refl _ w6).drew, HF6.out.keep (Below.refl _ w6).drew⟩
        rcases hx with ⟨rfl, hm1, hm2, hyes⟩ | ⟨hx0, hno⟩
        · obtain ⟨y, hy⟩ : ∃ y, covAt K (a : Int) ((a + m : Nat) : Int) = y := ⟨_, rfl⟩
          have HY := Lib.hid (hyes y hy)
          have HH2 : Hid (∀ w, SO w sb ep (.slice ba 832 bc) kv jb a0 b0 rv pv e0 k0 → Below W.heap.size W w → Calls Tryd.prog 51 #[.pointer (some ⟨sb, 0, none⟩), .int .i64 a, .int .i64 m] w fun e w' => e = .returned (.bool y) ∧ Below w.heap.size w w') := Lib.hid fun w h1 h2 => by
            have := HHAS.out w m h1 h2 (by omega); rwa [hy] at this
          clear hyes hy
          go_wp2_with fail
          refine wp_region_held_drew (S := (fun w' => Below w.heap.size w w' ∧ Below W.heap.size W w' ∧ SO w' sb ep (.slice ba 832 bc) kv jb a0 b0 rv pv e0 k0 ∧ FO w' g fk fe (.slice p4 n4 c4))) (by kernel_rfl) HST.out (fun hS => ?_)
          refine wpAnyH_take (i := 0) (oi := ({ dst := some 38, op := Op.load 64 (Operand.tmp 7), type := 64, pos := "scanner.go:61", after := #[], guard := none } : Oper)) (v := ?_) rfl (by kernel_rfl) (by kernel_rfl) (by kernel_rfl) (fun _ _ _ h => h) (Or.inl ⟨by rfl, ?_⟩) hS ?_
          rotate_left
          · (intro w hSw; (try dsimp only at hSw); refine exec_load_fr (.tmp 7) ?_ ?_ hSw.2.2.2 <;> rfl)
          (try simp only [Act.put, List.setIfInBounds_toArray, List.set_cons_zero, List.set_cons_succ])
          refine wpAnyH_take (i := 1) (oi := ({ dst := some 39, op := Op.move (Operand.tmp 8), type := 3, pos := "scanner.go:61", after := #[{ on := 10, ground := Ground.gcOnly Departure.lateStores }], guard := none } : Oper)) (v := ?_) rfl (by kernel_rfl) (by kernel_rfl) (by kernel_rfl) (fun _ _ _ h => h) (Or.inl ⟨by rfl, ?_⟩) hS ?_
          rotate_left
          · (intro w hSw; (try dsimp only at hSw); go_simp; try with_reducible rfl)
          (try simp only [Act.put, List.setIfInBounds_toArray, List.set_cons_zero, List.set_cons_succ])
          refine wpAnyH_take (i := 2) (oi := ({ dst := some 40, op := Op.move (Operand.tmp 9), type := 67, pos := "scanner.go:61", after := #[], guard := none } : Oper)) (v := ?_) rfl (by kernel_rfl) (by kernel_rfl) (by kernel_rfl) (fun _ _ _ h => h) (Or.inl ⟨by rfl, ?_⟩) hS ?_
          rotate_left
          · (intro w hSw; (try dsimp only at hSw); go_simp; try with_reducible rfl)
          (try simp only [Act.put, List.setIfInBounds_toArray, List.set_cons_zero, List.set_cons_succ])
          refine wpAnyH_take (i := 3) (oi := ({ dst := some 41, op := Op.binOp BinOp.eql 67 (Operand.tmp 40) (Operand.const (Value.int IntKind.i64 0)) 67, type := 4, pos := "scanner.go:61", after := #[{ on := 2, ground := Ground.data }], guard := none } : Oper)) (v := ?_) rfl (by kernel_rfl) (by kernel_rfl) (by kernel_rfl) (fun _ _ _ h => h) (Or.inl ⟨by rfl, ?_⟩) hS ?_
          rotate_left
          · (intro w hSw; (try dsimp only at hSw); go_simp; try with_reducible rfl)
          (try simp only [Act.put, List.setIfInBounds_toArray, List.set_cons_zero, List.set_cons_succ])
          refine wpAnyH_take (i := 4) (oi := ({ dst := some 42, op := Op.move (Operand.tmp 41), type := 4, pos := "scanner.go:61", after := #[{ on := 3, ground := Ground.data }], guard := none } : Oper)) (v := ?_) rfl (by kernel_rfl) (by kernel_rfl) (by kernel_rfl) (fun _ _ _ h => h) (Or.inl ⟨by rfl, ?_⟩) hS ?_
          rotate_left
          · (intro w hSw; (try dsimp only at hSw); go_simp; try with_reducible rfl)
          (try simp only [Act.put, List.setIfInBounds_toArray, List.set_cons_zero, List.set_cons_succ])
          refine wpAnyH_take (i := 5) (oi := ({ dst := some 43, op := Op.move (Operand.tmp 0), type := 50, pos := "scanner.go:61", after := #[{ on := 4, ground := Ground.guard }], guard := some (4, true) } : Oper)) (v := ?_) rfl (by kernel_rfl) (by kernel_rfl) (by kernel_rfl) (fun _ _ _ h => h) (Or.inl ⟨by rfl, ?_⟩) hS ?_
          rotate_left
          · (intro w hSw; (try dsimp only at hSw); go_simp; try with_reducible rfl)
          (try simp only [Act.put, List.setIfInBounds_toArray, List.set_cons_zero, List.set_cons_succ])
          refine wpAnyH_take (i := 6) (oi := ({ dst := some 44, op := Op.move (Operand.tmp 1), type := 3, pos := "scanner.go:61", after := #[{ on := 4, ground := Ground.guard }], guard := some (4, true) } : Oper)) (v := ?_) rfl (by kernel_rfl) (by kernel_rfl) (by kernel_rfl) (fun _ _ _ h => h) (Or.inl ⟨by rfl, ?_⟩) hS ?_
          rotate_left
          · (intro w hSw; (try dsimp only at hSw); go_simp; try with_reducible rfl)
          (try simp only [Act.put, List.setIfInBounds_toArray, List.set_cons_zero, List.set_cons_succ])
          refine wpAnyH_take (i := 7) (oi := ({ dst := some 45, op := Op.move (Operand.tmp 8), type := 3, pos := "scanner.go:61", after := #[{ on := 4, ground := Ground.guard }], guard := some (4, true) } : Oper)) (v := ?_) rfl (by kernel_rfl) (by kernel_rfl) (by kernel_rfl) (fun _ _ _ h => h) (Or.inl ⟨by rfl, ?_⟩) hS ?_
          rotate_left
          · (intro w hSw; (try dsimp only at hSw); go_simp; try with_reducible rfl)
          (try simp only [Act.put, List.setIfInBounds_toArray, List.set_cons_zero, List.set_cons_succ])
          refine rg_one 8 ({ dst := some 46, op := Op.call { callee := Callee.value (Operand.func 51), args := #[Operand.tmp 43, Operand.tmp 44, Operand.tmp 45], argTypes := #[50, 3, 3] }, type := 4, pos := "scanner.go:61", after := #[{ on := 5, ground := Ground.data }, { on := 6, ground := Ground.data }, { on := 7, ground := Ground.data }, { on := 4, ground := Ground.chain }, { on := 4, ground := Ground.guard }], guard := some (4, true) } : Oper) (by kernel_rfl) rfl (fun K hK => ?_)
          go_simp
          (go_at_call 51; (with_reducible refine (HH2.out _ hS.2.2.1 hS.2.1).mono ?_); rintro r w7 ⟨rfl, hb⟩; have hN := (show Below w.heap.size w w7 ∧ Below W.heap.size W w7 ∧ SO w7 sb ep (.slice ba 832 bc) kv jb a0 b0 rv pv e0 k0 ∧ FO w7 g fk fe (.slice p4 n4 c4) from ⟨bch hS.1 hb, bch hS.2.1 hb, hS.2.2.1.keep hb, hS.2.2.2.keep hb⟩); have HA8 := Lib.hid (HA7.out.keep hb); have HO8 := Lib.hid (own_keep HO7.out hb); clear hb)
          refine hK.out _ _ ?_ (fun hS1 => ?_)
          · (first | exact hN | exact hS)
          clear hK K hS; have hS := hS1; clear hS1
          (try simp only [Act.put, List.setIfInBounds_toArray, List.set_cons_zero, List.set_cons_succ])
          refine wpAnyH_take (i := 9) (oi := ({ dst := some 47, op := Op.pick (Operand.tmp 42) (Operand.tmp 46) (Operand.const (Value.bool false)), type := 4, pos := "scanner.go:61", after := #[{ on := 4, ground := Ground.data }, { on := 8, ground := Ground.data }, { on := 11, ground := Ground.gcOnly Departure.lateStores }], guard := none } : Oper)) (v := ?_) rfl (by kernel_rfl) (by kernel_rfl) (by kernel_rfl) (fun _ _ _ h => h) (Or.inl ⟨by rfl, ?_⟩) hS ?_
          rotate_left
          · (intro w hSw; (try dsimp only at hSw); go_simp; try with_reducible rfl)
          (try simp only [Act.put, List.setIfInBounds_toArray, List.set_cons_zero, List.set_cons_succ])
          refine rg_one 10 ({ dst := none, op := Op.store 64 (Operand.tmp 4) (Operand.tmp 38), type := 0, pos := "scanner.go:61", after := #[{ on := 0, ground := Ground.data }, { on := 8, ground := Ground.chain }, { on := 0, ground := Ground.phase }, { on := 1, ground := Ground.textOnly Departure.lateStores }, { on := 2, ground := Ground.textOnly Departure.lateStores }, { on := 3, ground := Ground.textOnly Departure.lateStores }, { on := 4, ground := Ground.textOnly Departure.lateStores }, { on := 5, ground := Ground.textOnly Departure.lateStores }, { on := 6, ground := Ground.textOnly Departure.lateStores }, { on := 7, ground := Ground.textOnly Departure.lateStores }, { on := 8, ground := Ground.textOnly Departure.lateStoresUnsure }, { on := 9, ground := Ground.textOnly Departure.lateStores }], guard := none } : Oper) (by kernel_rfl) rfl (fun K hK => ?_)
          rw [if_pos (by rfl)]; refine wp_put_fr (.tmp 4) (.tmp 38) rfl w.heap.size HA8.out fk fe p4 n4 c4 rfl rfl ?_; intro w8 HF8 HG8; have hN := (show Below w.heap.size w w8 ∧ Below W.heap.size W w8 ∧ SO w8 sb ep (.slice ba 832 bc) kv jb a0 b0 rv pv e0 k0 ∧ FO w8 g fk fe (.slice p4 n4 c4) from ⟨below_over hS.1 HG8.out (Nat.le_refl _) hS.1.size, below_over hS.2.1 HG8.out HSW.out.2 hS.2.1.size, (HG8.out.block sb hS.2.2.1.lt (fun x => by have := HSW.out.1; have := Option.some.inj x; omega)).trans hS.2.2.1, hS.2.2.2.over HG8.out (Ne.symm HGN.out)⟩); have HO9 := Lib.hid (own_over HO8.out HG8.out (fun q hq e => HA8.out.ne_own HO8.out q hq (Option.some.inj e)))
          refine hK.out _ _ ?_ (fun hS1 => ?_)
          · (first | exact hN | exact hS)
          clear hK K hS; have hS := hS1; clear hS1
          (try simp only [Act.put])
          refine wpAnyH_take (i := 11) (oi := ({ dst := some 5, op := Op.assign (Operand.tmp 39), type := 3, pos := "scanner.go:61", after := #[{ on := 1, ground := Ground.data }, { on := 10, ground := Ground.chain }, { on := 0, ground := Ground.phase }, { on := 1, ground := Ground.phase }, { on := 2, ground := Ground.textOnly Departure.lateStores }, { on := 3, ground := Ground.textOnly Departure.lateStores }, { on := 4, ground := Ground.textOnly Departure.lateStores }, { on := 5, ground := Ground.textOnly Departure.lateStores }, { on := 6, ground := Ground.textOnly Departure.lateStores }, { on := 7, ground := Ground.textOnly Departure.lateStores }, { on := 8, ground := Ground.textOnly Departure.lateStoresUnsure }, { on := 9, ground := Ground.textOnly Departure.lateStores }, { on := 10, ground := Ground.phase }], guard := none } : Oper)) (v := ?_) rfl (by kernel_rfl) (by kernel_rfl) (by kernel_rfl) (fun _ _ _ h => h) (Or.inl ⟨by rfl, ?_⟩) hS ?_
          rotate_left
          · (intro w hSw; (try dsimp only at hSw); go_simp; try with_reducible rfl)
          (try simp only [Act.put, List.setIfInBounds_toArray, List.set_cons_zero, List.set_cons_succ])
          refine wpAnyH_take (i := 12) (oi := ({ dst := some 6, op := Op.assign (Operand.tmp 47), type := 4, pos := "scanner.go:61", after := #[{ on := 9, ground := Ground.data }, { on := 11, ground := Ground.chain }, { on := 0, ground := Ground.phase }, { on := 1, ground := Ground.phase }, { on := 2, ground := Ground.phase }, { on := 3, ground := Ground.phase }, { on := 4, ground := Ground.phase }, { on := 5, ground := Ground.phase }, { on := 6, ground := Ground.phase }, { on := 7, ground := Ground.phase }, { on := 8, ground := Ground.phase }, { on := 9, ground := Ground.phase }, { on := 10, ground := Ground.phase }, { on := 11, ground := Ground.phase }], guard := none } : Oper)) (v := ?_) rfl (by kernel_rfl) (by kernel_rfl) (by kernel_rfl) (fun _ _ _ h => h) (Or.inl ⟨by rfl, ?_⟩) hS ?_
          rotate_left
          · (intro w hSw; (try dsimp only at hSw); go_simp; try with_reducible rfl)
          (try simp only [Act.put, List.setIfInBounds_toArray, List.set_cons_zero, List.set_cons_succ])
          refine wpAnyH_done (by kernel_rfl) ?_ _
          have HB8 := Lib.hid hS.1
          clear hS
          go_wp2
          refine bodyPost_ret_by (results_row_tmp2 rfl _ _ w.heap.size _ rfl HF8.out.load) rfl ?_
          have hn4 : fd.length = n4 := (il_length .u8 fd).symm.trans (HO9.out.1.trans (Nat.mul_one _))
          subst hn4
          have hyy := HY.out
          cases y with
          | true =>
            rw [if_pos rfl] at hyy
            refine ⟨HB8.out, .inr ⟨by rw [hyy]; show m ≠ 0; omega, p4, c4, by rw [hyy]; rfl, ?_⟩⟩
            rw [hyy]; exact HO9.out
          | false =>
            rw [if_neg (by decide)] at hyy
            exact ⟨HB8.out, .inl ⟨by rw [hyy], _, _, _, _, _, _, rfl⟩⟩
        · have hx1 : (x == 0) = false := by simpa using hx0
          have HNO := Lib.hid hno
          clear hno
          go_wp2_with fail
          refine wp_region_held_drew (S := (fun w' => Below w.heap.size w w' ∧ FO w' g fk fe (.slice p4 n4 c4))) (by kernel_rfl) ⟨HST.out.1, HST.out.2.2.2⟩ (fun hS => ?_)
          refine wpAnyH_take (i := 0) (oi := ({ dst := some 38, op := Op.load 64 (Operand.tmp 7), type := 64, pos := "scanner.go:61", after := #[], guard := none } : Oper)) (v := ?_) rfl (by kernel_rfl) (by kernel_rfl) (by kernel_rfl) (fun _ _ _ h => h) (Or.inl ⟨by rfl, ?_⟩) hS ?_
          rotate_left
          · (intro w hSw; (try dsimp only at hSw); refine exec_load_fr (.tmp 7) ?_ ?_ hSw.2 <;> rfl)
          (try simp only [Act.put, List.setIfInBounds_toArray, List.set_cons_zero, List.set_cons_succ])
          refine wpAnyH_take (i := 1) (oi := ({ dst := some 39, op := Op.move (Operand.tmp 8), type := 3, pos := "scanner.go:61", after := #[{ on := 10, ground := Ground.gcOnly Departure.lateStores }], guard := none } : Oper)) (v := ?_) rfl (by kernel_rfl) (by kernel_rfl) (by kernel_rfl) (fun _ _ _ h => h) (Or.inl ⟨by rfl, ?_⟩) hS ?_
          rotate_left
          · (intro w hSw; (try dsimp only at hSw); go_simp; try with_reducible rfl)
          (try simp only [Act.put, List.setIfInBounds_toArray, List.set_cons_zero, List.set_cons_succ])
          refine wpAnyH_take (i := 2) (oi := ({ dst := some 40, op := Op.move (Operand.tmp 9), type := 67, pos := "scanner.go:61", after := #[], guard := none } : Oper)) (v := ?_) rfl (by kernel_rfl) (by kernel_rfl) (by kernel_rfl) (fun _ _ _ h => h) (Or.inl ⟨by rfl, ?_⟩) hS ?_
          rotate_left
          · (intro w hSw; (try dsimp only at hSw); go_simp; try with_reducible rfl)
          (try simp only [Act.put, List.setIfInBounds_toArray, List.set_cons_zero, List.set_cons_succ])
          refine wpAnyH_take (i := 3) (oi := ({ dst := some 41, op := Op.binOp BinOp.eql 67 (Operand.tmp 40) (Operand.const (Value.int IntKind.i64 0)) 67, type := 4, pos := "scanner.go:61", after := #[{ on := 2, ground := Ground.data }], guard := none } : Oper)) (v := ?_) rfl (by kernel_rfl) (by kernel_rfl) (by kernel_rfl) (fun _ _ _ h => h) (Or.inl ⟨by rfl, ?_⟩) hS ?_
          rotate_left
          · (intro w hSw; (try dsimp only at hSw); go_simp; try with_reducible rfl)
          (try simp only [Act.put, List.setIfInBounds_toArray, List.set_cons_zero, List.set_cons_succ])
          refine wpAnyH_take (i := 4) (oi := ({ dst := some 42, op := Op.move (Operand.tmp 41), type := 4, pos := "scanner.go:61", after := #[{ on := 3, ground := Ground.data }], guard := none } : Oper)) (v := ?_) rfl (by kernel_rfl) (by kernel_rfl) (by kernel_rfl) (fun _ _ _ h => h) (Or.inl ⟨by rfl, ?_⟩) hS ?_
          rotate_left
          · (intro w hSw; (try dsimp only at hSw); go_simp; try with_reducible rfl)
          (try simp only [Act.put, List.setIfInBounds_toArray, List.set_cons_zero, List.set_cons_succ])
          refine wpAnyH_take (i := 5) (oi := ({ dst := some 43, op := Op.move (Operand.tmp 0), type := 50, pos := "scanner.go:61", after := #[{ on := 4, ground := Ground.guard }], guard := some (4, true) } : Oper)) (v := undef) rfl (by kernel_rfl) (by kernel_rfl) (by kernel_rfl) (fun _ _ _ h => h) (Or.inr ⟨by rfl, rfl⟩) hS ?_
          (try simp only [Act.put, List.setIfInBounds_toArray, List.set_cons_zero, List.set_cons_succ])
          refine wpAnyH_take (i := 6) (oi := ({ dst := some 44, op := Op.move (Operand.tmp 1), type := 3, pos := "scanner.go:61", after := #[{ on := 4, ground := Ground.guard }], guard := some (4, true) } : Oper)) (v := undef) rfl (by kernel_rfl) (by kernel_rfl) (by kernel_rfl) (fun _ _ _ h => h) (Or.inr ⟨by rfl, rfl⟩) hS ?_
          (try simp only [Act.put, List.setIfInBounds_toArray, List.set_cons_zero, List.set_cons_succ])
          refine wpAnyH_take (i := 7) (oi := ({ dst := some 45, op := Op.move (Operand.tmp 8), type := 3, pos := "scanner.go:61", after := #[{ on := 4, ground := Ground.guard }], guard := some (4, true) } : Oper)) (v := undef) rfl (by kernel_rfl) (by kernel_rfl) (by kernel_rfl) (fun _ _ _ h => h) (Or.inr ⟨by rfl, rfl⟩) hS ?_
          (try simp only [Act.put, List.setIfInBounds_toArray, List.set_cons_zero, List.set_cons_succ])
          refine wpAnyH_take (i := 8) (oi := ({ dst := some 46, op := Op.call { callee := Callee.value (Operand.func 51), args := #[Operand.tmp 43, Operand.tmp 44, Operand.tmp 45], argTypes := #[50, 3, 3] }, type := 4, pos := "scanner.go:61", after := #[{ on := 5, ground := Ground.data }, { on := 6, ground := Ground.data }, { on := 7, ground := Ground.data }, { on := 4, ground := Ground.chain }, { on := 4, ground := Ground.guard }], guard := some (4, true) } : Oper)) (v := undef) rfl (by kernel_rfl) (by kernel_rfl) (by kernel_rfl) (fun _ _ _ h => h) (Or.inr ⟨by rfl, rfl⟩) hS ?_
          (try simp only [Act.put, List.setIfInBounds_toArray, List.set_cons_zero, List.set_cons_succ])
          refine wpAnyH_take (i := 9) (oi := ({ dst := some 47, op := Op.pick (Operand.tmp 42) (Operand.tmp 46) (Operand.const (Value.bool false)), type := 4, pos := "scanner.go:61", after := #[{ on := 4, ground := Ground.data }, { on := 8, ground := Ground.data }, { on := 11, ground := Ground.gcOnly Departure.lateStores }], guard := none } : Oper)) (v := ?_) rfl (by kernel_rfl) (by kernel_rfl) (by kernel_rfl) (fun _ _ _ h => h) (Or.inl ⟨by rfl, ?_⟩) hS ?_
          rotate_left
          · (intro w hSw; (try dsimp only at hSw); go_simp; try with_reducible rfl)
          (try simp only [Act.put, List.setIfInBounds_toArray, List.set_cons_zero, List.set_cons_succ])
          refine rg_one 10 ({ dst := none, op := Op.store 64 (Operand.tmp 4) (Operand.tmp 38), type := 0, pos := "scanner.go:61", after := #[{ on := 0, ground := Ground.data }, { on := 8, ground := Ground.chain }, { on := 0, ground := Ground.phase }, { on := 1, ground := Ground.textOnly Departure.lateStores }, { on := 2, ground := Ground.textOnly Departure.lateStores }, { on := 3, ground := Ground.textOnly Departure.lateStores }, { on := 4, ground := Ground.textOnly Departure.lateStores }, { on := 5, ground := Ground.textOnly Departure.lateStores }, { on := 6, ground := Ground.textOnly Departure.lateStores }, { on := 7, ground := Ground.textOnly Departure.lateStores }, { on := 8, ground := Ground.textOnly Departure.lateStoresUnsure }, { on := 9, ground := Ground.textOnly Departure.lateStores }], guard := none } : Oper) (by kernel_rfl) rfl (fun K hK => ?_)
          rw [if_pos (by rfl)]; refine wp_put_fr (.tmp 4) (.tmp 38) rfl w.heap.size HA7.out fk fe p4 n4 c4 rfl rfl ?_; intro w8 HF8 HG8; have hN := (show Below w.heap.size w w8 ∧ FO w8 g fk fe (.slice p4 n4 c4) from ⟨below_over hS.1 HG8.out (Nat.le_refl _) hS.1.size, hS.2.over HG8.out (Ne.symm HGN.out)⟩)
          refine hK.out _ _ ?_ (fun hS1 => ?_)
          · (first | exact hN | exact hS)
          clear hK K hS; have hS := hS1; clear hS1
          (try simp only [Act.put])
          refine wpAnyH_take (i := 11) (oi := ({ dst := some 5, op := Op.assign (Operand.tmp 39), type := 3, pos := "scanner.go:61", after := #[{ on := 1, ground := Ground.data }, { on := 10, ground := Ground.chain }, { on := 0, ground := Ground.phase }, { on := 1, ground := Ground.phase }, { on := 2, ground := Ground.textOnly Departure.lateStores }, { on := 3, ground := Ground.textOnly Departure.lateStores }, { on := 4, ground := Ground.textOnly Departure.lateStores }, { on := 5, ground := Ground.textOnly Departure.lateStores }, { on := 6, ground := Ground.textOnly Departure.lateStores }, { on := 7, ground := Ground.textOnly Departure.lateStores }, { on := 8, ground := Ground.textOnly Departure.lateStoresUnsure }, { on := 9, ground := Ground.textOnly Departure.lateStores }, { on := 10, ground := Ground.phase }], guard := none } : Oper)) (v := ?_) rfl (by kernel_rfl) (by kernel_rfl) (by kernel_rfl) (fun _ _ _ h => h) (Or.inl ⟨by rfl, ?_⟩) hS ?_
          rotate_left
          · (intro w hSw; (try dsimp only at hSw); go_simp; try with_reducible rfl)
          (try simp only [Act.put, List.setIfInBounds_toArray, List.set_cons_zero, List.set_cons_succ])
          refine wpAnyH_take (i := 12) (oi := ({ dst := some 6, op := Op.assign (Operand.tmp 47), type := 4, pos := "scanner.go:61", after := #[{ on := 9, ground := Ground.data }, { on := 11, ground := Ground.chain }, { on := 0, ground := Ground.phase }, { on := 1, ground := Ground.phase }, { on := 2, ground := Ground.phase }, { on := 3, ground := Ground.phase }, { on := 4, ground := Ground.phase }, { on := 5, ground := Ground.phase }, { on := 6, ground := Ground.phase }, { on := 7, ground := Ground.phase }, { on := 8, ground := Ground.phase }, { on := 9, ground := Ground.phase }, { on := 10, ground := Ground.phase }, { on := 11, ground := Ground.phase }], guard := none } : Oper)) (v := ?_) rfl (by kernel_rfl) (by kernel_rfl) (by kernel_rfl) (fun _ _ _ h => h) (Or.inl ⟨by rfl, ?_⟩) hS ?_
          rotate_left
          · (intro w hSw; (try dsimp only at hSw); go_simp; try with_reducible rfl)
          (try simp only [Act.put, List.setIfInBounds_toArray, List.set_cons_zero, List.set_cons_succ])
          refine wpAnyH_done (by kernel_rfl) ?_ _
          have HB8 := Lib.hid hS.1
          clear hS
          go_wp2
          refine bodyPost_ret_by (results_row_tmp2 rfl _ _ w.heap.size _ rfl HF8.out.load) rfl ?_
          exact ⟨HB8.out, .inl ⟨by rw [HNO.out], _, _, _, _, _, _, rfl⟩⟩
      · skip
        rw [if_pos (by rfl)]; refine wp_new_fr rfl ?_; intro g w5 HG hgl hb; have hN := HS3.out _ (bch hS.2.2 hb.out); (try (have q := Lib.hid (own_keep HO.out hb.out); clear HO; have HO := q; clear q)); have HGL := Lib.hid (Nat.le_trans hS.2.2.size hgl.out); clear hgl hb
        refine hK.out _ _ ?_ (fun hS1 => ?_)
        · (first | exact hN | exact hS)
        clear hK K hS; have hS := hS1; clear hS1
        (try simp only [Act.put, List.setIfInBounds_toArray, List.set_cons_zero, List.set_cons_succ])
        refine rg_one 14 ({ dst := some 34, op := Op.call { callee := Callee.value (Operand.func 52), args := #[Operand.tmp 29, Operand.tmp 33], argTypes := #[38, 53] }, type := 91, pos := "scanner.go:59", after := #[{ on := 9, ground := Ground.data }, { on := 13, ground := Ground.data }, { on := 7, ground := Ground.chain }], guard := none } : Oper) (by kernel_rfl) rfl (fun K hK => ?_)
        go_simp
        (go_at_call 52; (refine (HDC.out _ (bch HB0.out hS.2.2)).mono ?_); rintro r w4 hd; obtain ⟨p4, n4, c4, rfl, ho, hb⟩ := HDF.out _ _ _ hd; have hN := HS3.out _ (bch hS.2.2 hb); (try (have q := Lib.hid (HG.out.keep hb); clear HG; have HG := q; clear q)); have HO := Lib.hid (own_mono ho (show w.heap.size ≤ _ from Nat.le_trans (by have := HWA.out; omega) hS.2.2.size)); clear hb ho hd)
        refine hK.out _ _ ?_ (fun hS1 => ?_)
        · (first | exact hN | exact hS)
        clear hK K hS; have hS := hS1; clear hS1
        (try simp only [Act.put, List.setIfInBounds_toArray, List.set_cons_zero, List.set_cons_succ])
        refine wpAnyH_take (i := 15) (oi := ({ dst := some 19, op := Op.move (Operand.tmp 34), type := 91, pos := "scanner.go:59", after := #[{ on := 14, ground := Ground.data }], guard := none } : Oper)) (v := ?_) rfl (by kernel_rfl) (by kernel_rfl) (by kernel_rfl) (fun _ _ _ h => h) (Or.inl ⟨by rfl, ?_⟩) hS ?_
        rotate_left
        · (intro w hSw; (try dsimp only at hSw); go_simp; try with_reducible rfl)
        (try simp only [Act.put, List.setIfInBounds_toArray, List.set_cons_zero, List.set_cons_succ])
        refine wpAnyH_take (i := 16) (oi := ({ dst := some 35, op := Op.extract (Operand.tmp 19) 0, type := 64, pos := "scanner.go:59", after := #[{ on := 15, ground := Ground.data }], guard := none } : Oper)) (v := ?_) rfl (by kernel_rfl) (by kernel_rfl) (by kernel_rfl) (fun _ _ _ h => h) (Or.inl ⟨by rfl, ?_⟩) hS ?_
        rotate_left
        · (intro w hSw; (try dsimp only at hSw); go_simp; try with_reducible rfl)
        (try simp only [Act.put, List.setIfInBounds_toArray, List.set_cons_zero, List.set_cons_succ])
        refine wpAnyH_take (i := 17) (oi := ({ dst := some 36, op := Op.extract (Operand.tmp 19) 1, type := 3, pos := "scanner.go:59", after := #[{ on := 15, ground := Ground.data }, { on := 20, ground := Ground.gcOnly Departure.lateStores }], guard := none } : Oper)) (v := ?_) rfl (by kernel_rfl) (by kernel_rfl) (by kernel_rfl) (fun _ _ _ h => h) (Or.inl ⟨by rfl, ?_⟩) hS ?_
        rotate_left
        · (intro w hSw; (try dsimp only at hSw); go_simp; try with_reducible rfl)
        (try simp only [Act.put, List.setIfInBounds_toArray, List.set_cons_zero, List.set_cons_succ])
        refine wpAnyH_take (i := 18) (oi := ({ dst := some 37, op := Op.extract (Operand.tmp 19) 2, type := 67, pos := "scanner.go:59", after := #[{ on := 15, ground := Ground.data }, { on := 21, ground := Ground.gcOnly Departure.lateStores }], guard := none } : Oper)) (v := ?_) rfl (by kernel_rfl) (by kernel_rfl) (by kernel_rfl) (fun _ _ _ h => h) (Or.inl ⟨by rfl, ?_⟩) hS ?_
        rotate_left
        · (intro w hSw; (try dsimp only at hSw); go_simp; try with_reducible rfl)
        (try simp only [Act.put, List.setIfInBounds_toArray, List.set_cons_zero, List.set_cons_succ])
        refine rg_one 20 ({ dst := none, op := Op.store 64 (Operand.tmp 7) (Operand.tmp 35), type := 0, pos := "scanner.go:59", after := #[{ on := 19, ground := Ground.data }, { on := 16, ground := Ground.data }, { on := 14, ground := Ground.chain }, { on := 0, ground := Ground.phase }, { on := 1, ground := Ground.phase }, { on := 2, ground := Ground.phase }, { on := 3, ground := Ground.phase }, { on := 4, ground := Ground.phase }, { on := 5, ground := Ground.phase }, { on := 6, ground := Ground.phase }, { on := 7, ground := Ground.phase }, { on := 8, ground := Ground.phase }, { on := 9, ground := Ground.phase }, { on := 10, ground := Ground.phase }, { on := 11, ground := Ground.phase }, { on := 12, ground := Ground.phase }, { on := 13, ground := Ground.phase }, { on := 14, ground := Ground.phase }, { on := 15, ground := Ground.phase }, { on := 16, ground := Ground.phase }, { on := 17, ground := Ground.textOnly Departure.lateStores }, { on := 18, ground := Ground.textOnly Departure.lateStores }, { on := 19, ground := Ground.phase }], guard := none } : Oper) (by kernel_rfl) rfl (fun K hK => ?_)
        rw [if_pos (by rfl)]; refine wp_put_fr (.tmp 7) (.tmp 35) rfl g HG.out fk fe p4 n4 c4 rfl rfl ?_; intro w6 HF6 HG6; have HO6 := Lib.hid (own_over HO.out HG6.out (fun q hq e => HG.out.ne_own HO.out q hq (Option.some.inj e))); have hN := HS3.out _ (below_over hS.2.2 HG6.out HGL.out hS.2.2.size); clear HG HO HG6
        refine hK.out _ _ ?_ (fun hS1 => ?_)
        · (first | exact hN | exact hS)
        clear hK K hS; have hS := hS1; clear hS1
        (try simp only [Act.put])
        refine wpAnyH_take (i := 21) (oi := ({ dst := some 8, op := Op.assign (Operand.tmp 36), type := 3, pos := "scanner.go:59", after := #[{ on := 17, ground := Ground.data }, { on := 20, ground := Ground.chain }, { on := 0, ground := Ground.phase }, { on := 1, ground := Ground.phase }, { on := 2, ground := Ground.phase }, { on := 3, ground := Ground.phase }, { on := 4, ground := Ground.phase }, { on := 5, ground := Ground.phase }, { on := 6, ground := Ground.phase }, { on := 7, ground := Ground.phase }, { on := 8, ground := Ground.phase }, { on := 9, ground := Ground.phase }, { on := 10, ground := Ground.phase }, { on := 11, ground := Ground.phase }, { on := 12, ground := Ground.phase }, { on := 13, ground := Ground.phase }, { on := 14, ground := Ground.phase }, { on := 15, ground := Ground.phase }, { on := 16, ground := Ground.phase }, { on := 17, ground := Ground.phase }, { on := 18, ground := Ground.textOnly Departure.lateStores }, { on := 19, ground := Ground.phase }, { on := 20, ground := Ground.phase }], guard := none } : Oper)) (v := ?_) rfl (by kernel_rfl) (by kernel_rfl) (by kernel_rfl) (fun _ _ _ h => h) (Or.inl ⟨by rfl, ?_⟩) hS ?_
        rotate_left
        · (intro w hSw; (try dsimp only at hSw); go_simp; try with_reducible rfl)
        (try simp only [Act.put, List.setIfInBounds_toArray, List.set_cons_zero, List.set_cons_succ])
        refine wpAnyH_take (i := 22) (oi := ({ dst := some 9, op := Op.assign (Operand.tmp 37), type := 67, pos := "scanner.go:59", after := #[{ on := 18, ground := Ground.data }, { on := 21, ground := Ground.chain }, { on := 0, ground := Ground.phase }, { on := 1, ground := Ground.phase }, { on := 2, ground := Ground.phase }, { on := 3, ground := Ground.phase }, { on := 4, ground := Ground.phase }, { on := 5, ground := Ground.phase }, { on := 6, ground := Ground.phase }, { on := 7, ground := Ground.phase }, { on := 8, ground := Ground.phase }, { on := 9, ground := Ground.phase }, { on := 10, ground := Ground.phase }, { on := 11, ground := Ground.phase }, { on := 12, ground := Ground.phase }, { on := 13, ground := Ground.phase }, { on := 14, ground := Ground.phase }, { on := 15, ground := Ground.phase }, { on := 16, ground := Ground.phase }, { on := 17, ground := Ground.phase }, { on := 18, ground := Ground.phase }, { on := 19, ground := Ground.phase }, { on := 20, ground := Ground.phase }, { on := 21, ground := Ground.phase }], guard := none } : Oper)) (v := ?_) rfl (by kernel_rfl) (by kernel_rfl) (by kernel_rfl) (fun _ _ _ h => h) (Or.inl ⟨by rfl, ?_⟩) hS ?_
        rotate_left
        · (intro w hSw; (try dsimp only at hSw); go_simp; try with_reducible rfl)
        (try simp only [Act.put, List.setIfInBounds_toArray, List.set_cons_zero, List.set_cons_succ])
        refine wpAnyH_done (by kernel_rfl) ?_ _
        have HB6 := Lib.hid hS.2.2
        clear hS
        (try clear hN)
        have HW6 := Lib.hid (HW0.out _ HB6.out)
        have HGN := Lib.hid (show w.heap.size ≠ g from by have := HGL.out; have := HWA.out; omega)
        have HA7 := Lib.hid (HW6.out.2.2.1.keep (Below.refl _ w6).drew)
        have HO7 := Lib.hid (own_keep HO6.out (Below.refl _ w6).drew)
        have HST : Hid (Below w.heap.size w w6.drew ∧ Below W.heap.size W w6.drew ∧ SO w6.drew sb ep (.slice ba 832 bc) kv jb a0 b0 rv pv e0 k0 ∧ FO w6.drew g fk fe (.slice p4 n4 c4)) := Lib.hid ⟨HW6.out.2.1.drew, HW6.out.1.drew, HW6.out.2.2.2.keep (Below.refl _ w6).drew, HF6.out.keep (Below.refl _ w6).drew⟩
        rcases hx with ⟨rfl, hm1, hm2, hyes⟩ | ⟨hx0, hno⟩
        · obtain ⟨y, hy⟩ : ∃ y, covAt K (a : Int) ((a + m : Nat) : Int) = y := ⟨_, rfl⟩
          have HY := Lib.hid (hyes y hy)
          have HH2 : Hid (∀ w, SO w sb ep (.slice ba 832 bc) kv jb a0 b0 rv pv e0 k0 → Below W.heap.size W w → Calls Tryd.prog 51 #[.pointer (some ⟨sb, 0, none⟩), .int .i64 a, .int .i64 m] w fun e w' => e = .returned (.bool y) ∧ Below w.heap.size w w') := Lib.hid fun w h1 h2 => by
            have := HHAS.out w m h1 h2 (by omega); rwa [hy] at this
          clear hyes hy
          go_wp2_with fail
          refine wp_region_held_drew (S := (fun w' => Below w.heap.size w w' ∧ Below W.heap.size W w' ∧ SO w' sb ep (.slice ba 832 bc) kv jb a0 b0 rv pv e0 k0 ∧ FO w' g fk fe (.slice p4 n4 c4))) (by kernel_rfl) HST.out (fun hS => ?_)
          refine wpAnyH_take (i := 0) (oi := ({ dst := some 38, op := Op.load 64 (Operand.tmp 7), type := 64, pos := "scanner.go:61", after := #[], guard := none } : Oper)) (v := ?_) rfl (by kernel_rfl) (by kernel_rfl) (by kernel_rfl) (fun _ _ _ h => h) (Or.inl ⟨by rfl, ?_⟩) hS ?_
          rotate_left
          · (intro w hSw; (try dsimp only at hSw); refine exec_load_fr (.tmp 7) ?_ ?_ hSw.2.2.2 <;> rfl)
          (try simp only [Act.put, List.setIfInBounds_toArray, List.set_cons_zero, List.set_cons_succ])
          refine wpAnyH_take (i := 1) (oi := ({ dst := some 39, op := Op.move (Operand.tmp 8), type := 3, pos := "scanner.go:61", after := #[{ on := 10, ground := Ground.gcOnly Departure.lateStores }], guard := none } : Oper)) (v := ?_) rfl (by kernel_rfl) (by kernel_rfl) (by kernel_rfl) (fun _ _ _ h => h) (Or.inl ⟨by rfl, ?_⟩) hS ?_
          rotate_left
          · (intro w hSw; (try dsimp only at hSw); go_simp; try with_reducible rfl)
          (try simp only [Act.put, List.setIfInBounds_toArray, List.set_cons_zero, List.set_cons_succ])
          refine wpAnyH_take (i := 2) (oi := ({ dst := some 40, op := Op.move (Operand.tmp 9), type := 67, pos := "scanner.go:61", after := #[], guard := none } : Oper)) (v := ?_) rfl (by kernel_rfl) (by kernel_rfl) (by kernel_rfl) (fun _ _ _ h => h) (Or.inl ⟨by rfl, ?_⟩) hS ?_
          rotate_left
          · (intro w hSw; (try dsimp only at hSw); go_simp; try with_reducible rfl)
          (try simp only [Act.put, List.setIfInBounds_toArray, List.set_cons_zero, List.set_cons_succ])
          refine wpAnyH_take (i := 3) (oi := ({ dst := some 41, op := Op.binOp BinOp.eql 67 (Operand.tmp 40) (Operand.const (Value.int IntKind.i64 0)) 67, type := 4, pos := "scanner.go:61", after := #[{ on := 2, ground := Ground.data }], guard := none } : Oper)) (v := ?_) rfl (by kernel_rfl) (by kernel_rfl) (by kernel_rfl) (fun _ _ _ h => h) (Or.inl ⟨by rfl, ?_⟩) hS ?_
          rotate_left
          · (intro w hSw; (try dsimp only at hSw); go_simp; try with_reducible rfl)
          (try simp only [Act.put, List.setIfInBounds_toArray, List.set_cons_zero, List.set_cons_succ])
          refine wpAnyH_take (i := 4) (oi := ({ dst := some 42, op := Op.move (Operand.tmp 41), type := 4, pos := "scanner.go:61", after := #[{ on := 3, ground := Ground.data }], guard := none } : Oper)) (v := ?_) rfl (by kernel_rfl) (by kernel_rfl) (by kernel_rfl) (fun _ _ _ h => h) (Or.inl ⟨by rfl, ?_⟩) hS ?_
          rotate_left
          · (intro w hSw; (try dsimp only at hSw); go_simp; try with_reducible rfl)
          (try simp only [Act.put, List.setIfInBounds_toArray, List.set_cons_zero, List.set_cons_succ])
          refine wpAnyH_take (i := 5) (oi := ({ dst := some 43, op := Op.move (Operand.tmp 0), type := 50, pos := "scanner.go:61", after := #[{ on := 4, ground := Ground.guard }], guard := some (4, true) } : Oper)) (v := ?_) rfl (by kernel_rfl) (by kernel_rfl) (by kernel_rfl) (fun _ _ _ h => h) (Or.inl ⟨by rfl, ?_⟩) hS ?_
          rotate_left
          · (intro w hSw; (try dsimp only at hSw); go_simp; try with_reducible rfl)
          (try simp only [Act.put, List.setIfInBounds_toArray, List.set_cons_zero, List.set_cons_succ])
          refine wpAnyH_take (i := 6) (oi := ({ dst := some 44, op := Op.move (Operand.tmp 1), type := 3, pos := "scanner.go:61", after := #[{ on := 4, ground := Ground.guard }], guard := some (4, true) } : Oper)) (v := ?_) rfl (by kernel_rfl) (by kernel_rfl) (by kernel_rfl) (fun _ _ _ h => h) (Or.inl ⟨by rfl, ?_⟩) hS ?_
          rotate_left
          · (intro w hSw; (try dsimp only at hSw); go_simp; try with_reducible rfl)
          (try simp only [Act.put, List.setIfInBounds_toArray, List.set_cons_zero, List.set_cons_succ])
          refine wpAnyH_take (i := 7) (oi := ({ dst := some 45, op := Op.move (Operand.tmp 8), type := 3, pos := "scanner.go:61", after := #[{ on := 4, ground := Ground.guard }], guard := some (4, true) } : Oper)) (v := ?_) rfl (by kernel_rfl) (by kernel_rfl) (by kernel_rfl) (fun _ _ _ h => h) (Or.inl ⟨by rfl, ?_⟩) hS ?_
          rotate_left
          · (intro w hSw; (try dsimp only at hSw); go_simp; try with_reducible rfl)
          (try simp only [Act.put, List.setIfInBounds_toArray, List.set_cons_zero, List.set_cons_succ])
          refine rg_one 8 ({ dst := some 46, op := Op.call { callee := Callee.value (Operand.func 51), args := #[Operand.tmp 43, Operand.tmp 44, Operand.tmp 45], argTypes := #[50, 3, 3] }, type := 4, pos := "scanner.go:61", after := #[{ on := 5, ground := Ground.data }, { on := 6, ground := Ground.data }, { on := 7, ground := Ground.data }, { on := 4, ground := Ground.chain }, { on := 4, ground := Ground.guard }], guard := some (4, true) } : Oper) (by kernel_rfl) rfl (fun K hK => ?_)
          go_simp
          (go_at_call 51; (with_reducible refine (HH2.out _ hS.2.2.1 hS.2.1).mono ?_); rintro r w7 ⟨rfl, hb⟩; have hN := (show Below w.heap.size w w7 ∧ Below W.heap.size W w7 ∧ SO w7 sb ep (.slice ba 832 bc) kv jb a0 b0 rv pv e0 k0 ∧ FO w7 g fk fe (.slice p4 n4 c4) from ⟨bch hS.1 hb, bch hS.2.1 hb, hS.2.2.1.keep hb, hS.2.2.2.keep hb⟩); have HA8 := Lib.hid (HA7.out.keep hb); have HO8 := Lib.hid (own_keep HO7.out hb); clear hb)
          refine hK.out _ _ ?_ (fun hS1 => ?_)
          · (first | exact hN | exact hS)
          clear hK K hS; have hS := hS1; clear hS1
          (try simp only [Act.put, List.setIfInBounds_toArray, List.set_cons_zero, List.set_cons_succ])
          refine wpAnyH_take (i := 9) (oi := ({ dst := some 47, op := Op.pick (Operand.tmp 42) (Operand.tmp 46) (Operand.const (Value.bool false)), type := 4, pos := "scanner.go:61", after := #[{ on := 4, ground := Ground.data }, { on := 8, ground := Ground.data }, { on := 11, ground := Ground.gcOnly Departure.lateStores }], guard := none } : Oper)) (v := ?_) rfl (by kernel_rfl) (by kernel_rfl) (by kernel_rfl) (fun _ _ _ h => h) (Or.inl ⟨by rfl, ?_⟩) hS ?_
          rotate_left
          · (intro w hSw; (try dsimp only at hSw); go_simp; try with_reducible rfl)
          (try simp only [Act.put, List.setIfInBounds_toArray, List.set_cons_zero, List.set_cons_succ])
          refine rg_one 10 ({ dst := none, op := Op.store 64 (Operand.tmp 4) (Operand.tmp 38), type := 0, pos := "scanner.go:61", after := #[{ on := 0, ground := Ground.data }, { on := 8, ground := Ground.chain }, { on := 0, ground := Ground.phase }, { on := 1, ground := Ground.textOnly Departure.lateStores }, { on := 2, ground := Ground.textOnly Departure.lateStores }, { on := 3, ground := Ground.textOnly Departure.lateStores }, { on := 4, ground := Ground.textOnly Departure.lateStores }, { on := 5, ground := Ground.textOnly Departure.lateStores }, { on := 6, ground := Ground.textOnly Departure.lateStores }, { on := 7, ground := Ground.textOnly Departure.lateStores }, { on := 8, ground := Ground.textOnly Departure.lateStoresUnsure }, { on := 9, ground := Ground.textOnly Departure.lateStores }], guard := none } : Oper) (by kernel_rfl) rfl (fun K hK => ?_)
          rw [if_pos (by rfl)]; refine wp_put_fr (.tmp 4) (.tmp 38) rfl w.heap.size HA8.out fk fe p4 n4 c4 rfl rfl ?_; intro w8 HF8 HG8; have hN := (show Below w.heap.size w w8 ∧ Below W.heap.size W w8 ∧ SO w8 sb ep (.slice ba 832 bc) kv jb a0 b0 rv pv e0 k0 ∧ FO w8 g fk fe (.slice p4 n4 c4) from ⟨below_over hS.1 HG8.out (Nat.le_refl _) hS.1.size, below_over hS.2.1 HG8.out HSW.out.2 hS.2.1.size, (HG8.out.block sb hS.2.2.1.lt (fun x => by have := HSW.out.1; have := Option.some.inj x; omega)).trans hS.2.2.1, hS.2.2.2.over HG8.out (Ne.symm HGN.out)⟩); have HO9 := Lib.hid (own_over HO8.out HG8.out (fun q hq e => HA8.out.ne_own HO8.out q hq (Option.some.inj e)))
          refine hK.out _ _ ?_ (fun hS1 => ?_)
          · (first | exact hN | exact hS)
          clear hK K hS; have hS := hS1; clear hS1
          (try simp only [Act.put])
          refine wpAnyH_take (i := 11) (oi := ({ dst := some 5, op := Op.assign (Operand.tmp 39), type := 3, pos := "scanner.go:61", after := #[{ on := 1, ground := Ground.data }, { on := 10, ground := Ground.chain }, { on := 0, ground := Ground.phase }, { on := 1, ground := Ground.phase }, { on := 2, ground := Ground.textOnly Departure.lateStores }, { on := 3, ground := Ground.textOnly Departure.lateStores }, { on := 4, ground := Ground.textOnly Departure.lateStores }, { on := 5, ground := Ground.textOnly Departure.lateStores }, { on := 6, ground := Ground.textOnly Departure.lateStores }, { on := 7, ground := Ground.textOnly Departure.lateStores }, { on := 8, ground := Ground.textOnly Departure.lateStoresUnsure }, { on := 9, ground := Ground.textOnly Departure.lateStores }, { on := 10, ground := Ground.phase }], guard := none } : Oper)) (v := ?_) rfl (by kernel_rfl) (by kernel_rfl) (by kernel_rfl) (fun _ _ _ h => h) (Or.inl ⟨by rfl, ?_⟩) hS ?_
          rotate_left
          · (intro w hSw; (try dsimp only at hSw); go_simp; try with_reducible rfl)
          (try simp only [Act.put, List.setIfInBounds_toArray, List.set_cons_zero, List.set_cons_succ])
          refine wpAnyH_take (i := 12) (oi := ({ dst := some 6, op := Op.assign (Operand.tmp 47), type := 4, pos := "scanner.go:61", after := #[{ on := 9, ground := Ground.data }, { on := 11, ground := Ground.chain }, { on := 0, ground := Ground.phase }, { on := 1, ground := Ground.phase }, { on := 2, ground := Ground.phase }, { on := 3, ground := Ground.phase }, { on := 4, ground := Ground.phase }, { on := 5, ground := Ground.phase }, { on := 6, ground := Ground.phase }, { on := 7, ground := Ground.phase }, { on := 8, ground := Ground.phase }, { on := 9, ground := Ground.phase }, { on := 10, ground := Ground.phase }, { on := 11, ground := Ground.phase }], guard := none } : Oper)) (v := ?_) rfl (by kernel_rfl) (by kernel_rfl) (by kernel_rfl) (fun _ _ _ h => h) (Or.inl ⟨by rfl, ?_⟩) hS ?_
          rotate_left
          · (intro w hSw; (try dsimp only at hSw); go_simp; try with_reducible rfl)
          (try simp only [Act.put, List.setIfInBounds_toArray, List.set_cons_zero, List.set_cons_succ])
          refine wpAnyH_done (by kernel_rfl) ?_ _
          have HB8 := Lib.hid hS.1
          clear hS
          go_wp2
          refine bodyPost_ret_by (results_row_tmp2 rfl _ _ w.heap.size _ rfl HF8.out.load) rfl ?_
          have hn4 : fd.length = n4 := (il_length .u8 fd).symm.trans (HO9.out.1.trans (Nat.mul_one _))
          subst hn4
          have hyy := HY.out
          cases y with
          | true =>
            rw [if_pos rfl] at hyy
            refine ⟨HB8.out, .inr ⟨by rw [hyy]; show m ≠ 0; omega, p4, c4, by rw [hyy]; rfl, ?_⟩⟩
            rw [hyy]; exact HO9.out
          | false =>
            rw [if_neg (by decide)] at hyy
            exact ⟨HB8.out, .inl ⟨by rw [hyy], _, _, _, _, _, _, rfl⟩⟩
        · have hx1 : (x == 0) = false := by simpa using hx0
          have HNO := Lib.hid hno
          clear hno
          go_wp2_with fail
          refine wp_region_held_drew (S := (fun w' => Below w.heap.size w w' ∧ FO w' g fk fe (.slice p4 n4 c4))) (by kernel_rfl) ⟨HST.out.1, HST.out.2.2.2⟩ (fun hS => ?_)
          refine wpAnyH_take (i := 0) (oi := ({ dst := some 38, op := Op.load 64 (Operand.tmp 7), type := 64, pos := "scanner.go:61", after := #[], guard := none } : Oper)) (v := ?_) rfl (by kernel_rfl) (by kernel_rfl) (by kernel_rfl) (fun _ _ _ h => h) (Or.inl ⟨by rfl, ?_⟩) hS ?_
          rotate_left
          · (intro w hSw; (try dsimp only at hSw); refine exec_load_fr (.tmp 7) ?_ ?_ hSw.2 <;> rfl)
          (try simp only [Act.put, List.setIfInBounds_toArray, List.set_cons_zero, List.set_cons_succ])
          refine wpAnyH_take (i := 1) (oi := ({ dst := some 39, op := Op.move (Operand.tmp 8), type := 3, pos := "scanner.go:61", after := #[{ on := 10, ground := Ground.gcOnly Departure.lateStores }], guard := none } : Oper)) (v := ?_) rfl (by kernel_rfl) (by kernel_rfl) (by kernel_rfl) (fun _ _ _ h => h) (Or.inl ⟨by rfl, ?_⟩) hS ?_
          rotate_left
          · (intro w hSw; (try dsimp only at hSw); go_simp; try with_reducible rfl)
          (try simp only [Act.put, List.setIfInBounds_toArray, List.set_cons_zero, List.set_cons_succ])
          refine wpAnyH_take (i := 2) (oi := ({ dst := some 40, op := Op.move (Operand.tmp 9), type := 67, pos := "scanner.go:61", after := #[], guard := none } : Oper)) (v := ?_) rfl (by kernel_rfl) (by kernel_rfl) (by kernel_rfl) (fun _ _ _ h => h) (Or.inl ⟨by rfl, ?_⟩) hS ?_
          rotate_left
          · (intro w hSw; (try dsimp only at hSw); go_simp; try with_reducible rfl)
          (try simp only [Act.put, List.setIfInBounds_toArray, List.set_cons_zero, List.set_cons_succ])
          refine wpAnyH_take (i := 3) (oi := ({ dst := some 41, op := Op.binOp BinOp.eql 67 (Operand.tmp 40) (Operand.const (Value.int IntKind.i64 0)) 67, type := 4, pos := "scanner.go:61", after := #[{ on := 2, ground := Ground.data }], guard := none } : Oper)) (v := ?_) rfl (by kernel_rfl) (by kernel_rfl) (by kernel_rfl) (fun _ _ _ h => h) (Or.inl ⟨by rfl, ?_⟩) hS ?_
          rotate_left
          · (intro w hSw; (try dsimp only at hSw); go_simp; try with_reducible rfl)
          (try simp only [Act.put, List.setIfInBounds_toArray, List.set_cons_zero, List.set_cons_succ])
          refine wpAnyH_take (i := 4) (oi := ({ dst := some 42, op := Op.move (Operand.tmp 41), type := 4, pos := "scanner.go:61", after := #[{ on := 3, ground := Ground.data }], guard := none } : Oper)) (v := ?_) rfl (by kernel_rfl) (by kernel_rfl) (by kernel_rfl) (fun _ _ _ h => h) (Or.inl ⟨by rfl, ?_⟩) hS ?_
          rotate_left
          · (intro w hSw; (try dsimp only at hSw); go_simp; try with_reducible rfl)
          (try simp only [Act.put, List.setIfInBounds_toArray, List.set_cons_zero, List.set_cons_succ])
          refine wpAnyH_take (i := 5) (oi := ({ dst := some 43, op := Op.move (Operand.tmp 0), type := 50, pos := "scanner.go:61", after := #[{ on := 4, ground := Ground.guard }], guard := some (4, true) } : Oper)) (v := undef) rfl (by kernel_rfl) (by kernel_rfl) (by kernel_rfl) (fun _ _ _ h => h) (Or.inr ⟨by rfl, rfl⟩) hS ?_
          (try simp only [Act.put, List.setIfInBounds_toArray, List.set_cons_zero, List.set_cons_succ])
          refine wpAnyH_take (i := 6) (oi := ({ dst := some 44, op := Op.move (Operand.tmp 1), type := 3, pos := "scanner.go:61", after := #[{ on := 4, ground := Ground.guard }], guard := some (4, true) } : Oper)) (v := undef) rfl (by kernel_rfl) (by kernel_rfl) (by kernel_rfl) (fun _ _ _ h => h) (Or.inr ⟨by rfl, rfl⟩) hS ?_
          (try simp only [Act.put, List.setIfInBounds_toArray, List.set_cons_zero, List.set_cons_succ])
          refine wpAnyH_take (i := 7) (oi := ({ dst := some 45, op := Op.move (Operand.tmp 8), type := 3, pos := "scanner.go:61", after := #[{ on := 4, ground := Ground.guard }], guard := some (4, true) } : Oper)) (v := undef) rfl (by kernel_rfl) (by kernel_rfl) (by kernel_rfl) (fun _ _ _ h => h) (Or.inr ⟨by rfl, rfl⟩) hS ?_
          (try simp only [Act.put, List.setIfInBounds_toArray, List.set_cons_zero, List.set_cons_succ])
          refine wpAnyH_take (i := 8) (oi := ({ dst := some 46, op := Op.call { callee := Callee.value (Operand.func 51), args := #[Operand.tmp 43, Operand.tmp 44, Operand.tmp 45], argTypes := #[50, 3, 3] }, type := 4, pos := "scanner.go:61", after := #[{ on := 5, ground := Ground.data }, { on := 6, ground := Ground.data }, { on := 7, ground := Ground.data }, { on := 4, ground := Ground.chain }, { on := 4, ground := Ground.guard }], guard := some (4, true) } : Oper)) (v := undef) rfl (by kernel_rfl) (by kernel_rfl) (by kernel_rfl) (fun _ _ _ h => h) (Or.inr ⟨by rfl, rfl⟩) hS ?_
          (try simp only [Act.put, List.setIfInBounds_toArray, List.set_cons_zero, List.set_cons_succ])
          refine wpAnyH_take (i := 9) (oi := ({ dst := some 47, op := Op.pick (Operand.tmp 42) (Operand.tmp 46) (Operand.const (Value.bool false)), type := 4, pos := "scanner.go:61", after := #[{ on := 4, ground := Ground.data }, { on := 8, ground := Ground.data }, { on := 11, ground := Ground.gcOnly Departure.lateStores }], guard := none } : Oper)) (v := ?_) rfl (by kernel_rfl) (by kernel_rfl) (by kernel_rfl) (fun _ _ _ h => h) (Or.inl ⟨by rfl, ?_⟩) hS ?_
          rotate_left
          · (intro w hSw; (try dsimp only at hSw); go_simp; try with_reducible rfl)
          (try simp only [Act.put, List.setIfInBounds_toArray, List.set_cons_zero, List.set_cons_succ])
          refine rg_one 10 ({ dst := none, op := Op.store 64 (Operand.tmp 4) (Operand.tmp 38), type := 0, pos := "scanner.go:61", after := #[{ on := 0, ground := Ground.data }, { on := 8, ground := Ground.chain }, { on := 0, ground := Ground.phase }, { on := 1, ground := Ground.textOnly Departure.lateStores }, { on := 2, ground := Ground.textOnly Departure.lateStores }, { on := 3, ground := Ground.textOnly Departure.lateStores }, { on := 4, ground := Ground.textOnly Departure.lateStores }, { on := 5, ground := Ground.textOnly Departure.lateStores }, { on := 6, ground := Ground.textOnly Departure.lateStores }, { on := 7, ground := Ground.textOnly Departure.lateStores }, { on := 8, ground := Ground.textOnly Departure.lateStoresUnsure }, { on := 9, ground := Ground.textOnly Departure.lateStores }], guard := none } : Oper) (by kernel_rfl) rfl (fun K hK => ?_)
          rw [if_pos (by rfl)]; refine wp_put_fr (.tmp 4) (.tmp 38) rfl w.heap.size HA7.out fk fe p4 n4 c4 rfl rfl ?_; intro w8 HF8 HG8; have hN := (show Below w.heap.size w w8 ∧ FO w8 g fk fe (.slice p4 n4 c4) from ⟨below_over hS.1 HG8.out (Nat.le_refl _) hS.1.size, hS.2.over HG8.out (Ne.symm HGN.out)⟩)
          refine hK.out _ _ ?_ (fun hS1 => ?_)
          · (first | exact hN | exact hS)
          clear hK K hS; have hS := hS1; clear hS1
          (try simp only [Act.put])
          refine wpAnyH_take (i := 11) (oi := ({ dst := some 5, op := Op.assign (Operand.tmp 39), type := 3, pos := "scanner.go:61", after := #[{ on := 1, ground := Ground.data }, { on := 10, ground := Ground.chain }, { on := 0, ground := Ground.phase }, { on := 1, ground := Ground.phase }, { on := 2, ground := Ground.textOnly Departure.lateStores }, { on := 3, ground := Ground.textOnly Departure.lateStores }, { on := 4, ground := Ground.textOnly Departure.lateStores }, { on := 5, ground := Ground.textOnly Departure.lateStores }, { on := 6, ground := Ground.textOnly Departure.lateStores }, { on := 7, ground := Ground.textOnly Departure.lateStores }, { on := 8, ground := Ground.textOnly Departure.lateStoresUnsure }, { on := 9, ground := Ground.textOnly Departure.lateStores }, { on := 10, ground := Ground.phase }], guard := none } : Oper)) (v := ?_) rfl (by kernel_rfl) (by kernel_rfl) (by kernel_rfl) (fun _ _ _ h => h) (Or.inl ⟨by rfl, ?_⟩) hS ?_
          rotate_left
          · (intro w hSw; (try dsimp only at hSw); go_simp; try with_reducible rfl)
          (try simp only [Act.put, List.setIfInBounds_toArray, List.set_cons_zero, List.set_cons_succ])
          refine wpAnyH_take (i := 12) (oi := ({ dst := some 6, op := Op.assign (Operand.tmp 47), type := 4, pos := "scanner.go:61", after := #[{ on := 9, ground := Ground.data }, { on := 11, ground := Ground.chain }, { on := 0, ground := Ground.phase }, { on := 1, ground := Ground.phase }, { on := 2, ground := Ground.phase }, { on := 3, ground := Ground.phase }, { on := 4, ground := Ground.phase }, { on := 5, ground := Ground.phase }, { on := 6, ground := Ground.phase }, { on := 7, ground := Ground.phase }, { on := 8, ground := Ground.phase }, { on := 9, ground := Ground.phase }, { on := 10, ground := Ground.phase }, { on := 11, ground := Ground.phase }], guard := none } : Oper)) (v := ?_) rfl (by kernel_rfl) (by kernel_rfl) (by kernel_rfl) (fun _ _ _ h => h) (Or.inl ⟨by rfl, ?_⟩) hS ?_
          rotate_left
          · (intro w hSw; (try dsimp only at hSw); go_simp; try with_reducible rfl)
          (try simp only [Act.put, List.setIfInBounds_toArray, List.set_cons_zero, List.set_cons_succ])
          refine wpAnyH_done (by kernel_rfl) ?_ _
          have HB8 := Lib.hid hS.1
          clear hS
          go_wp2
          refine bodyPost_ret_by (results_row_tmp2 rfl _ _ w.heap.size _ rfl HF8.out.load) rfl ?_
          exact ⟨HB8.out, .inl ⟨by rw [HNO.out], _, _, _, _, _, _, rfl⟩⟩
    · skip
      rw [if_pos (by rfl)]; refine wp_new_fr rfl ?_; intro g w5 HG hgl hb; have hN := HS3.out _ (bch hS.2.2 hb.out); (try (have q := Lib.hid (own_keep HO.out hb.out); clear HO; have HO := q; clear q)); have HGL := Lib.hid (Nat.le_trans hS.2.2.size hgl.out); clear hgl hb
      refine hK.out _ _ ?_ (fun hS1 => ?_)
      · (first | exact hN | exact hS)
      clear hK K hS; have hS := hS1; clear hS1
      (try simp only [Act.put, List.setIfInBounds_toArray, List.set_cons_zero, List.set_cons_succ])
      refine rg_one 7 ({ dst := some 27, op := Op.call { callee := Callee.value (Operand.func 53), args := #[Operand.tmp 26], argTypes := #[3] }, type := 3, pos := "scanner.go:59", after := #[{ on := 6, ground := Ground.data }], guard := none } : Oper) (by kernel_rfl) rfl (fun K hK => ?_)
      go_simp
      (go_at_call 53; (with_reducible refine (HLF.out _).mono ?_); rintro r w2 ⟨rfl, hb⟩; have hN := HS3.out _ (bch hS.2.2 hb); (try (have q := Lib.hid (HG.out.keep hb); clear HG; have HG := q; clear q)); clear hb)
      refine hK.out _ _ ?_ (fun hS1 => ?_)
      · (first | exact hN | exact hS)
      clear hK K hS; have hS := hS1; clear hS1
      (try simp only [Act.put, List.setIfInBounds_toArray, List.set_cons_zero, List.set_cons_succ])
      refine wpAnyH_take (i := 8) (oi := ({ dst := some 28, op := Op.binOp BinOp.add 3 (Operand.tmp 25) (Operand.tmp 27) 3, type := 3, pos := "scanner.go:59", after := #[{ on := 5, ground := Ground.data }, { on := 7, ground := Ground.data }], guard := none } : Oper)) (v := .int .i64 (t : Int)) rfl (by kernel_rfl) (by kernel_rfl) (by kernel_rfl) (fun _ _ _ h => h) (Or.inl ⟨by rfl, ?_⟩) hS ?_
      · (intro w hSw; (try dsimp only at hSw); have z := HWT.out; go_simp; (try exact z))
      (try simp only [Act.put, List.setIfInBounds_toArray, List.set_cons_zero, List.set_cons_succ])
      refine wpAnyH_take (i := 9) (oi := ({ dst := some 29, op := Op.slice 38 (Operand.tmp 23) (some (Operand.tmp 24)) (some (Operand.tmp 28)) none, type := 38, pos := "scanner.go:59", after := #[{ on := 3, ground := Ground.data }, { on := 4, ground := Ground.data }, { on := 8, ground := Ground.data }], guard := none } : Oper)) (v := .slice q l qc) rfl (by kernel_rfl) (by kernel_rfl) (by kernel_rfl) (fun _ _ _ h => h) (Or.inl ⟨by rfl, ?_⟩) hS ?_
      · (intro w hSw; (try dsimp only at hSw); exact (exec_cut_lh (.tmp 23) (.tmp 24) (.tmp 28) rfl ba 832 bc a l rfl rfl (by rw [HTL.out]; rfl) (by rw [HTL.out]; exact HBC.out)).trans (by rw [HSL.out]))
      (try simp only [Act.put, List.setIfInBounds_toArray, List.set_cons_zero, List.set_cons_succ])
      refine rg_one 14 ({ dst := some 34, op := Op.call { callee := Callee.value (Operand.func 52), args := #[Operand.tmp 29, Operand.tmp 33], argTypes := #[38, 53] }, type := 91, pos := "scanner.go:59", after := #[{ on := 9, ground := Ground.data }, { on := 13, ground := Ground.data }, { on := 7, ground := Ground.chain }], guard := none } : Oper) (by kernel_rfl) rfl (fun K hK => ?_)
      go_simp
      (go_at_call 52; (refine (HDC.out _ (bch HB0.out hS.2.2)).mono ?_); rintro r w4 hd; obtain ⟨p4, n4, c4, rfl, ho, hb⟩ := HDF.out _ _ _ hd; have hN := HS3.out _ (bch hS.2.2 hb); (try (have q := Lib.hid (HG.out.keep hb); clear HG; have HG := q; clear q)); have HO := Lib.hid (own_mono ho (show w.heap.size ≤ _ from Nat.le_trans (by have := HWA.out; omega) hS.2.2.size)); clear hb ho hd)
      refine hK.out _ _ ?_ (fun hS1 => ?_)
      · (first | exact hN | exact hS)
      clear hK K hS; have hS := hS1; clear hS1
      (try simp only [Act.put, List.setIfInBounds_toArray, List.set_cons_zero, List.set_cons_succ])
      refine wpAnyH_take (i := 15) (oi := ({ dst := some 19, op := Op.move (Operand.tmp 34), type := 91, pos := "scanner.go:59", after := #[{ on := 14, ground := Ground.data }], guard := none } : Oper)) (v := ?_) rfl (by kernel_rfl) (by kernel_rfl) (by kernel_rfl) (fun _ _ _ h => h) (Or.inl ⟨by rfl, ?_⟩) hS ?_
      rotate_left
      · (intro w hSw; (try dsimp only at hSw); go_simp; try with_reducible rfl)
      (try simp only [Act.put, List.setIfInBounds_toArray, List.set_cons_zero, List.set_cons_succ])
      refine wpAnyH_take (i := 16) (oi := ({ dst := some 35, op := Op.extract (Operand.tmp 19) 0, type := 64, pos := "scanner.go:59", after := #[{ on := 15, ground := Ground.data }], guard := none } : Oper)) (v := ?_) rfl (by kernel_rfl) (by kernel_rfl) (by kernel_rfl) (fun _ _ _ h => h) (Or.inl ⟨by rfl, ?_⟩) hS ?_
      rotate_left
      · (intro w hSw; (try dsimp only at hSw); go_simp; try with_reducible rfl)
      (try simp only [Act.put, List.setIfInBounds_toArray, List.set_cons_zero, List.set_cons_succ])
      refine wpAnyH_take (i := 17) (oi := ({ dst := some 36, op := Op.extract (Operand.tmp 19) 1, type := 3, pos := "scanner.go:59", after := #[{ on := 15, ground := Ground.data }, { on := 20, ground := Ground.gcOnly Departure.lateStores }], guard := none } : Oper)) (v := ?_) rfl (by kernel_rfl) (by kernel_rfl) (by kernel_rfl) (fun _ _ _ h => h) (Or.inl ⟨by rfl, ?_⟩) hS ?_
      rotate_left
      · (intro w hSw; (try dsimp only at hSw); go_simp; try with_reducible rfl)
      (try simp only [Act.put, List.setIfInBounds_toArray, List.set_cons_zero, List.set_cons_succ])
      refine wpAnyH_take (i := 18) (oi := ({ dst := some 37, op := Op.extract (Operand.tmp 19) 2, type := 67, pos := "scanner.go:59", after := #[{ on := 15, ground := Ground.data }, { on := 21, ground := Ground.gcOnly Departure.lateStores }], guard := none } : Oper)) (v := ?_) rfl (by kernel_rfl) (by kernel_rfl) (by kernel_rfl) (fun _ _ _ h => h) (Or.inl ⟨by rfl, ?_⟩) hS ?_
      rotate_left
      · (intro w hSw; (try dsimp only at hSw); go_simp; try with_reducible rfl)
      (try simp only [Act.put, List.setIfInBounds_toArray, List.set_cons_zero, List.set_cons_succ])
      refine rg_one 20 ({ dst := none, op := Op.store 64 (Operand.tmp 7) (Operand.tmp 35), type := 0, pos := "scanner.go:59", after := #[{ on := 19, ground := Ground.data }, { on := 16, ground := Ground.data }, { on := 14, ground := Ground.chain }, { on := 0, ground := Ground.phase }, { on := 1, ground := Ground.phase }, { on := 2, ground := Ground.phase }, { on := 3, ground := Ground.phase }, { on := 4, ground := Ground.phase }, { on := 5, ground := Ground.phase }, { on := 6, ground := Ground.phase }, { on := 7, ground := Ground.phase }, { on := 8, ground := Ground.phase }, { on := 9, ground := Ground.phase }, { on := 10, ground := Ground.phase }, { on := 11, ground := Ground.phase }, { on := 12, ground := Ground.phase }, { on := 13, ground := Ground.phase }, { on := 14, ground := Ground.phase }, { on := 15, ground := Ground.phase }, { on := 16, ground := Ground.phase }, { on := 17, ground := Ground.textOnly Departure.lateStores }, { on := 18, ground := Ground.textOnly Departure.lateStores }, { on := 19, ground := Ground.phase }], guard := none } : Oper) (by kernel_rfl) rfl (fun K hK => ?_)
      rw [if_pos (by rfl)]; refine wp_put_fr (.tmp 7) (.tmp 35) rfl g HG.out fk fe p4 n4 c4 rfl rfl ?_; intro w6 HF6 HG6; have HO6 := Lib.hid (own_over HO.out HG6.out (fun q hq e => HG.out.ne_own HO.out q hq (Option.some.inj e))); have hN := HS3.out _ (below_over hS.2.2 HG6.out HGL.out hS.2.2.size); clear HG HO HG6
      refine hK.out _ _ ?_ (fun hS1 => ?_)
      · (first | exact hN | exact hS)
      clear hK K hS; have hS := hS1; clear hS1
      (try simp only [Act.put])
      refine wpAnyH_take (i := 21) (oi := ({ dst := some 8, op := Op.assign (Operand.tmp 36), type := 3, pos := "scanner.go:59", after := #[{ on := 17, ground := Ground.data }, { on := 20, ground := Ground.chain }, { on := 0, ground := Ground.phase }, { on := 1, ground := Ground.phase }, { on := 2, ground := Ground.phase }, { on := 3, ground := Ground.phase }, { on := 4, ground := Ground.phase }, { on := 5, ground := Ground.phase }, { on := 6, ground := Ground.phase }, { on := 7, ground := Ground.phase }, { on := 8, ground := Ground.phase }, { on := 9, ground := Ground.phase }, { on := 10, ground := Ground.phase }, { on := 11, ground := Ground.phase }, { on := 12, ground := Ground.phase }, { on := 13, ground := Ground.phase }, { on := 14, ground := Ground.phase }, { on := 15, ground := Ground.phase }, { on := 16, ground := Ground.phase }, { on := 17, ground := Ground.phase }, { on := 18, ground := Ground.textOnly Departure.lateStores }, { on := 19, ground := Ground.phase }, { on := 20, ground := Ground.phase }], guard := none } : Oper)) (v := ?_) rfl (by kernel_rfl) (by kernel_rfl) (by kernel_rfl) (fun _ _ _ h => h) (Or.inl ⟨by rfl, ?_⟩) hS ?_
      rotate_left
      · (intro w hSw; (try dsimp only at hSw); go_simp; try with_reducible rfl)
      (try simp only [Act.put, List.setIfInBounds_toArray, List.set_cons_zero, List.set_cons_succ])
      refine wpAnyH_take (i := 22) (oi := ({ dst := some 9, op := Op.assign (Operand.tmp 37), type := 67, pos := "scanner.go:59", after := #[{ on := 18, ground := Ground.data }, { on := 21, ground := Ground.chain }, { on := 0, ground := Ground.phase }, { on := 1, ground := Ground.phase }, { on := 2, ground := Ground.phase }, { on := 3, ground := Ground.phase }, { on := 4, ground := Ground.phase }, { on := 5, ground := Ground.phase }, { on := 6, ground := Ground.phase }, { on := 7, ground := Ground.phase }, { on := 8, ground := Ground.phase }, { on := 9, ground := Ground.phase }, { on := 10, ground := Ground.phase }, { on := 11, ground := Ground.phase }, { on := 12, ground := Ground.phase }, { on := 13, ground := Ground.phase }, { on := 14, ground := Ground.phase }, { on := 15, ground := Ground.phase }, { on := 16, ground := Ground.phase }, { on := 17, ground := Ground.phase }, { on := 18, ground := Ground.phase }, { on := 19, ground := Ground.phase }, { on := 20, ground := Ground.phase }, { on := 21, ground := Ground.phase }], guard := none } : Oper)) (v := ?_) rfl (by kernel_rfl) (by kernel_rfl) (by kernel_rfl) (fun _ _ _ h => h) (Or.inl ⟨by rfl, ?_⟩) hS ?_
      rotate_left
      · (intro w hSw; (try dsimp only at hSw); go_simp; try with_reducible rfl)
      (try simp only [Act.put, List.setIfInBounds_toArray, List.set_cons_zero, List.set_cons_succ])
      refine wpAnyH_done (by kernel_rfl) ?_ _
      have HB6 := Lib.hid hS.2.2
      clear hS
      (try clear hN)
      have HW6 := Lib.hid (HW0.out _ HB6.out)
      have HGN := Lib.hid (show w.heap.size ≠ g from by have := HGL.out; have := HWA.out; omega)
      have HA7 := Lib.hid (HW6.out.2.2.1.keep (Below.refl _ w6).drew)
      have HO7 := Lib.hid (own_keep HO6.out (Below.refl _ w6).drew)
      have HST : Hid (Below w.heap.size w w6.drew ∧ Below W.heap.size W w6.drew ∧ SO w6.drew sb ep (.slice ba 832 bc) kv jb a0 b0 rv pv e0 k0 ∧ FO w6.drew g fk fe (.slice p4 n4 c4)) := Lib.hid ⟨HW6.out.2.1.drew, HW6.out.1.drew, HW6.out.2.2.2.keep (Below.refl _ w6).drew, HF6.out.keep (Below.refl _ w6).drew⟩
      rcases hx with ⟨rfl, hm1, hm2, hyes⟩ | ⟨hx0, hno⟩
      · obtain ⟨y, hy⟩ : ∃ y, covAt K (a : Int) ((a + m : Nat) : Int) = y := ⟨_, rfl⟩
        have HY := Lib.hid (hyes y hy)
        have HH2 : Hid (∀ w, SO w sb ep (.slice ba 832 bc) kv jb a0 b0 rv pv e0 k0 → Below W.heap.size W w → Calls Tryd.prog 51 #[.pointer (some ⟨sb, 0, none⟩), .int .i64 a, .int .i64 m] w fun e w' => e = .returned (.bool y) ∧ Below w.heap.size w w') := Lib.hid fun w h1 h2 => by
          have := HHAS.out w m h1 h2 (by omega); rwa [hy] at this
        clear hyes hy
        go_wp2_with fail
        refine wp_region_held_drew (S := (fun w' => Below w.heap.size w w' ∧ Below W.heap.size W w' ∧ SO w' sb ep (.slice ba 832 bc) kv jb a0 b0 rv pv e0 k0 ∧ FO w' g fk fe (.slice p4 n4 c4))) (by kernel_rfl) HST.out (fun hS => ?_)
        refine wpAnyH_take (i := 0) (oi := ({ dst := some 38, op := Op.load 64 (Operand.tmp 7), type := 64, pos := "scanner.go:61", after := #[], guard := none } : Oper)) (v := ?_) rfl (by kernel_rfl) (by kernel_rfl) (by kernel_rfl) (fun _ _ _ h => h) (Or.inl ⟨by rfl, ?_⟩) hS ?_
        rotate_left
        · (intro w hSw; (try dsimp only at hSw); refine exec_load_fr (.tmp 7) ?_ ?_ hSw.2.2.2 <;> rfl)
        (try simp only [Act.put, List.setIfInBounds_toArray, List.set_cons_zero, List.set_cons_succ])
        refine wpAnyH_take (i := 1) (oi := ({ dst := some 39, op := Op.move (Operand.tmp 8), type := 3, pos := "scanner.go:61", after := #[{ on := 10, ground := Ground.gcOnly Departure.lateStores }], guard := none } : Oper)) (v := ?_) rfl (by kernel_rfl) (by kernel_rfl) (by kernel_rfl) (fun _ _ _ h => h) (Or.inl ⟨by rfl, ?_⟩) hS ?_
        rotate_left
        · (intro w hSw; (try dsimp only at hSw); go_simp; try with_reducible rfl)
        (try simp only [Act.put, List.setIfInBounds_toArray, List.set_cons_zero, List.set_cons_succ])
        refine wpAnyH_take (i := 2) (oi := ({ dst := some 40, op := Op.move (Operand.tmp 9), type := 67, pos := "scanner.go:61", after := #[], guard := none } : Oper)) (v := ?_) rfl (by kernel_rfl) (by kernel_rfl) (by kernel_rfl) (fun _ _ _ h => h) (Or.inl ⟨by rfl, ?_⟩) hS ?_
        rotate_left
        · (intro w hSw; (try dsimp only at hSw); go_simp; try with_reducible rfl)
        (try simp only [Act.put, List.setIfInBounds_toArray, List.set_cons_zero, List.set_cons_succ])
        refine wpAnyH_take (i := 3) (oi := ({ dst := some 41, op := Op.binOp BinOp.eql 67 (Operand.tmp 40) (Operand.const (Value.int IntKind.i64 0)) 67, type := 4, pos := "scanner.go:61", after := #[{ on := 2, ground := Ground.data }], guard := none } : Oper)) (v := ?_) rfl (by kernel_rfl) (by kernel_rfl) (by kernel_rfl) (fun _ _ _ h => h) (Or.inl ⟨by rfl, ?_⟩) hS ?_
        rotate_left
        · (intro w hSw; (try dsimp only at hSw); go_simp; try with_reducible rfl)
        (try simp only [Act.put, List.setIfInBounds_toArray, List.set_cons_zero, List.set_cons_succ])
        refine wpAnyH_take (i := 4) (oi := ({ dst := some 42, op := Op.move (Operand.tmp 41), type := 4, pos := "scanner.go:61", after := #[{ on := 3, ground := Ground.data }], guard := none } : Oper)) (v := ?_) rfl (by kernel_rfl) (by kernel_rfl) (by kernel_rfl) (fun _ _ _ h => h) (Or.inl ⟨by rfl, ?_⟩) hS ?_
        rotate_left
        · (intro w hSw; (try dsimp only at hSw); go_simp; try with_reducible rfl)
        (try simp only [Act.put, List.setIfInBounds_toArray, List.set_cons_zero, List.set_cons_succ])
        refine wpAnyH_take (i := 5) (oi := ({ dst := some 43, op := Op.move (Operand.tmp 0), type := 50, pos := "scanner.go:61", after := #[{ on := 4, ground := Ground.guard }], guard := some (4, true) } : Oper)) (v := ?_) rfl (by kernel_rfl) (by kernel_rfl) (by kernel_rfl) (fun _ _ _ h => h) (Or.inl ⟨by rfl, ?_⟩) hS ?_
        rotate_left
        · (intro w hSw; (try dsimp only at hSw); go_simp; try with_reducible rfl)
        (try simp only [Act.put, List.setIfInBounds_toArray, List.set_cons_zero, List.set_cons_succ])
        refine wpAnyH_take (i := 6) (oi := ({ dst := some 44, op := Op.move (Operand.tmp 1), type := 3, pos := "scanner.go:61", after := #[{ on := 4, ground := Ground.guard }], guard := some (4, true) } : Oper)) (v := ?_) rfl (by kernel_rfl) (by kernel_rfl) (by kernel_rfl) (fun _ _ _ h => h) (Or.inl ⟨by rfl, ?_⟩) hS ?_
        rotate_left
        · (intro w hSw; (try dsimp only at hSw); go_simp; try with_reducible rfl)
        (try simp only [Act.put, List.setIfInBounds_toArray, List.set_cons_zero, List.set_cons_succ])
        refine wpAnyH_take (i := 7) (oi := ({ dst := some 45, op := Op.move (Operand.tmp 8), type := 3, pos := "scanner.go:61", after := #[{ on := 4, ground := Ground.guard }], guard := some (4, true) } : Oper)) (v := ?_) rfl (by kernel_rfl) (by kernel_rfl) (by kernel_rfl) (fun _ _ _ h => h) (Or.inl ⟨by rfl, ?_⟩) hS ?_
        rotate_left
        · (intro w hSw; (try dsimp only at hSw); go_simp; try with_reducible rfl)
        (try simp only [Act.put, List.setIfInBounds_toArray, List.set_cons_zero, List.set_cons_succ])
        refine rg_one 8 ({ dst := some 46, op := Op.call { callee := Callee.value (Operand.func 51), args := #[Operand.tmp 43, Operand.tmp 44, Operand.tmp 45], argTypes := #[50, 3, 3] }, type := 4, pos := "scanner.go:61", after := #[{ on := 5, ground := Ground.data }, { on := 6, ground := Ground.data }, { on := 7, ground := Ground.data }, { on := 4, ground := Ground.chain }, { on := 4, ground := Ground.guard }], guard := some (4, true) } : Oper) (by kernel_rfl) rfl (fun K hK => ?_)
        go_simp
        (go_at_call 51; (with_reducible refine (HH2.out _ hS.2.2.1 hS.2.1).mono ?_); rintro r w7 ⟨rfl, hb⟩; have hN := (show Below w.heap.size w w7 ∧ Below W.heap.size W w7 ∧ SO w7 sb ep (.slice ba 832 bc) kv jb a0 b0 rv pv e0 k0 ∧ FO w7 g fk fe (.slice p4 n4 c4) from ⟨bch hS.1 hb, bch hS.2.1 hb, hS.2.2.1.keep hb, hS.2.2.2.keep hb⟩); have HA8 := Lib.hid (HA7.out.keep hb); have HO8 := Lib.hid (own_keep HO7.out hb); clear hb)
        refine hK.out _ _ ?_ (fun hS1 => ?_)
        · (first | exact hN | exact hS)
        clear hK K hS; have hS := hS1; clear hS1
        (try simp only [Act.put, List.setIfInBounds_toArray, List.set_cons_zero, List.set_cons_succ])
        refine wpAnyH_take (i := 9) (oi := ({ dst := some 47, op := Op.pick (Operand.tmp 42) (Operand.tmp 46) (Operand.const (Value.bool false)), type := 4, pos := "scanner.go:61", after := #[{ on := 4, ground := Ground.data }, { on := 8, ground := Ground.data }, { on := 11, ground := Ground.gcOnly Departure.lateStores }], guard := none } : Oper)) (v := ?_) rfl (by kernel_rfl) (by kernel_rfl) (by kernel_rfl) (fun _ _ _ h => h) (Or.inl ⟨by rfl, ?_⟩) hS ?_
        rotate_left
        · (intro w hSw; (try dsimp only at hSw); go_simp; try with_reducible rfl)
        (try simp only [Act.put, List.setIfInBounds_toArray, List.set_cons_zero, List.set_cons_succ])
        refine rg_one 10 ({ dst := none, op := Op.store 64 (Operand.tmp 4) (Operand.tmp 38), type := 0, pos := "scanner.go:61", after := #[{ on := 0, ground := Ground.data }, { on := 8, ground := Ground.chain }, { on := 0, ground := Ground.phase }, { on := 1, ground := Ground.textOnly Departure.lateStores }, { on := 2, ground := Ground.textOnly Departure.lateStores }, { on := 3, ground := Ground.textOnly Departure.lateStores }, { on := 4, ground := Ground.textOnly Departure.lateStores }, { on := 5, ground := Ground.textOnly Departure.lateStores }, { on := 6, ground := Ground.textOnly Departure.lateStores }, { on := 7, ground := Ground.textOnly Departure.lateStores }, { on := 8, ground := Ground.textOnly Departure.lateStoresUnsure }, { on := 9, ground := Ground.textOnly Departure.lateStores }], guard := none } : Oper) (by kernel_rfl) rfl (fun K hK => ?_)
        rw [if_pos (by rfl)]; refine wp_put_fr (.tmp 4) (.tmp 38) rfl w.heap.size HA8.out fk fe p4 n4 c4 rfl rfl ?_; intro w8 HF8 HG8; have hN := (show Below w.heap.size w w8 ∧ Below W.heap.size W w8 ∧ SO w8 sb ep (.slice ba 832 bc) kv jb a0 b0 rv pv e0 k0 ∧ FO w8 g fk fe (.slice p4 n4 c4) from ⟨below_over hS.1 HG8.out (Nat.le_refl _) hS.1.size, below_over hS.2.1 HG8.out HSW.out.2 hS.2.1.size, (HG8.out.block sb hS.2.2.1.lt (fun x => by have := HSW.out.1; have := Option.some.inj x; omega)).trans hS.2.2.1, hS.2.2.2.over HG8.out (Ne.symm HGN.out)⟩); have HO9 := Lib.hid (own_over HO8.out HG8.out (fun q hq e => HA8.out.ne_own HO8.out q hq (Option.some.inj e)))
        refine hK.out _ _ ?_ (fun hS1 => ?_)
        · (first | exact hN | exact hS)
        clear hK K hS; have hS := hS1; clear hS1
        (try simp only [Act.put])
        refine wpAnyH_take (i := 11) (oi := ({ dst := some 5, op := Op.assign (Operand.tmp 39), type := 3, pos := "scanner.go:61", after := #[{ on := 1, ground := Ground.data }, { on := 10, ground := Ground.chain }, { on := 0, ground := Ground.phase }, { on := 1, ground := Ground.phase }, { on := 2, ground := Ground.textOnly Departure.lateStores }, { on := 3, ground := Ground.textOnly Departure.lateStores }, { on := 4, ground := Ground.textOnly Departure.lateStores }, { on := 5, ground := Ground.textOnly Departure.lateStores }, { on := 6, ground := Ground.textOnly Departure.lateStores }, { on := 7, ground := Ground.textOnly Departure.lateStores }, { on := 8, ground := Ground.textOnly Departure.lateStoresUnsure }, { on := 9, ground := Ground.textOnly Departure.lateStores }, { on := 10, ground := Ground.phase }], guard := none } : Oper)) (v := ?_) rfl (by kernel_rfl) (by kernel_rfl) (by kernel_rfl) (fun _ _ _ h => h) (Or.inl ⟨by rfl, ?_⟩) hS ?_
        rotate_left
        · (intro w hSw; (try dsimp only at hSw); go_simp; try with_reducible rfl)
        (try simp only [Act.put, List.setIfInBounds_toArray, List.set_cons_zero, List.set_cons_succ])
        refine wpAnyH_take (i := 12) (oi := ({ dst := some 6, op := Op.assign (Operand.tmp 47), type := 4, pos := "scanner.go:61", after := #[{ on := 9, ground := Ground.data }, { on := 11, ground := Ground.chain }, { on := 0, ground := Ground.phase }, { on := 1, ground := Ground.phase }, { on := 2, ground := Ground.phase }, { on := 3, ground := Ground.phase }, { on := 4, ground := Ground.phase }, { on := 5, ground := Ground.phase }, { on := 6, ground := Ground.phase }, { on := 7, ground := Ground.phase }, { on := 8, ground := Ground.phase }, { on := 9, ground := Ground.phase }, { on := 10, ground := Ground.phase }, { on := 11, ground := Ground.phase }], guard := none } : Oper)) (v := ?_) rfl (by kernel_rfl) (by kernel_rfl) (by kernel_rfl) (fun _ _ _ h => h) (Or.inl ⟨by rfl, ?_⟩) hS ?_
        rotate_left
        · (intro w hSw; (try dsimp only at hSw); go_simp; try with_reducible rfl)
        (try simp only [Act.put, List.setIfInBounds_toArray, List.set_cons_zero, List.set_cons_succ])
        refine wpAnyH_done (by kernel_rfl) ?_ _
        have HB8 := Lib.hid hS.1
        clear hS
        go_wp2
        refine bodyPost_ret_by (results_row_tmp2 rfl _ _ w.heap.size _ rfl HF8.out.load) rfl ?_
        have hn4 : fd.length = n4 := (il_length .u8 fd).symm.trans (HO9.out.1.trans (Nat.mul_one _))
        subst hn4
        have hyy := HY.out
        cases y with
        | true =>
          rw [if_pos rfl] at hyy
          refine ⟨HB8.out, .inr ⟨by rw [hyy]; show m ≠ 0; omega, p4, c4, by rw [hyy]; rfl, ?_⟩⟩
          rw [hyy]; exact HO9.out
        | false =>
          rw [if_neg (by decide)] at hyy
          exact ⟨HB8.out, .inl ⟨by rw [hyy], _, _, _, _, _, _, rfl⟩⟩
      · have hx1 : (x == 0) = false := by simpa using hx0
        have HNO := Lib.hid hno
        clear hno
        go_wp2_with fail
        refine wp_region_held_drew (S := (fun w' => Below w.heap.size w w' ∧ FO w' g fk fe (.slice p4 n4 c4))) (by kernel_rfl) ⟨HST.out.1, HST.out.2.2.2⟩ (fun hS => ?_)
        refine wpAnyH_take (i := 0) (oi := ({ dst := some 38, op := Op.load 64 (Operand.tmp 7), type := 64, pos := "scanner.go:61", after := #[], guard := none } : Oper)) (v := ?_) rfl (by kernel_rfl) (by kernel_rfl) (by kernel_rfl) (fun _ _ _ h => h) (Or.inl ⟨by rfl, ?_⟩) hS ?_
        rotate_left
        · (intro w hSw; (try dsimp only at hSw); refine exec_load_fr (.tmp 7) ?_ ?_ hSw.2 <;> rfl)
        (try simp only [Act.put, List.setIfInBounds_toArray, List.set_cons_zero, List.set_cons_succ])
        refine wpAnyH_take (i := 1) (oi := ({ dst := some 39, op := Op.move (Operand.tmp 8), type := 3, pos := "scanner.go:61", after := #[{ on := 10, ground := Ground.gcOnly Departure.lateStores }], guard := none } : Oper)) (v := ?_) rfl (by kernel_rfl) (by kernel_rfl) (by kernel_rfl) (fun _ _ _ h => h) (Or.inl ⟨by rfl, ?_⟩) hS ?_
        rotate_left
        · (intro w hSw; (try dsimp only at hSw); go_simp; try with_reducible rfl)
        (try simp only [Act.put, List.setIfInBounds_toArray, List.set_cons_zero, List.set_cons_succ])
        refine wpAnyH_take (i := 2) (oi := ({ dst := some 40, op := Op.move (Operand.tmp 9), type := 67, pos := "scanner.go:61", after := #[], guard := none } : Oper)) (v := ?_) rfl (by kernel_rfl) (by kernel_rfl) (by kernel_rfl) (fun _ _ _ h => h) (Or.inl ⟨by rfl, ?_⟩) hS ?_
        rotate_left
        · (intro w hSw; (try dsimp only at hSw); go_simp; try with_reducible rfl)
        (try simp only [Act.put, List.setIfInBounds_toArray, List.set_cons_zero, List.set_cons_succ])
        refine wpAnyH_take (i := 3) (oi := ({ dst := some 41, op := Op.binOp BinOp.eql 67 (Operand.tmp 40) (Operand.const (Value.int IntKind.i64 0)) 67, type := 4, pos := "scanner.go:61", after := #[{ on := 2, ground := Ground.data }], guard := none } : Oper)) (v := ?_) rfl (by kernel_rfl) (by kernel_rfl) (by kernel_rfl) (fun _ _ _ h => h) (Or.inl ⟨by rfl, ?_⟩) hS ?_
        rotate_left
        · (intro w hSw; (try dsimp only at hSw); go_simp; try with_reducible rfl)
        (try simp only [Act.put, List.setIfInBounds_toArray, List.set_cons_zero, List.set_cons_succ])
        refine wpAnyH_take (i := 4) (oi := ({ dst := some 42, op := Op.move (Operand.tmp 41), type := 4, pos := "scanner.go:61", after := #[{ on := 3, ground := Ground.data }], guard := none } : Oper)) (v := ?_) rfl (by kernel_rfl) (by kernel_rfl) (by kernel_rfl) (fun _ _ _ h => h) (Or.inl ⟨by rfl, ?_⟩) hS ?_
        rotate_left
        · (intro w hSw; (try dsimp only at hSw); go_simp; try with_reducible rfl)
        (try simp only [Act.put, List.setIfInBounds_toArray, List.set_cons_zero, List.set_cons_succ])
        refine wpAnyH_take (i := 5) (oi := ({ dst := some 43, op := Op.move (Operand.tmp 0), type := 50, pos := "scanner.go:61", after := #[{ on := 4, ground := Ground.guard }], guard := some (4, true) } : Oper)) (v := undef) rfl (by kernel_rfl) (by kernel_rfl) (by kernel_rfl) (fun _ _ _ h => h) (Or.inr ⟨by rfl, rfl⟩) hS ?_
        (try simp only [Act.put, List.setIfInBounds_toArray, List.set_cons_zero, List.set_cons_succ])
        refine wpAnyH_take (i := 6) (oi := ({ dst := some 44, op := Op.move (Operand.tmp 1), type := 3, pos := "scanner.go:61", after := #[{ on := 4, ground := Ground.guard }], guard := some (4, true) } : Oper)) (v := undef) rfl (by kernel_rfl) (by kernel_rfl) (by kernel_rfl) (fun _ _ _ h => h) (Or.inr ⟨by rfl, rfl⟩) hS ?_
        (try simp only [Act.put, List.setIfInBounds_toArray, List.set_cons_zero, List.set_cons_succ])
        refine wpAnyH_take (i := 7) (oi := ({ dst := some 45, op := Op.move (Operand.tmp 8), type := 3, pos := "scanner.go:61", after := #[{ on := 4, ground := Ground.guard }], guard := some (4, true) } : Oper)) (v := undef) rfl (by kernel_rfl) (by kernel_rfl) (by kernel_rfl) (fun _ _ _ h => h) (Or.inr ⟨by rfl, rfl⟩) hS ?_
        (try simp only [Act.put, List.setIfInBounds_toArray, List.set_cons_zero, List.set_cons_succ])
        refine wpAnyH_take (i := 8) (oi := ({ dst := some 46, op := Op.call { callee := Callee.value (Operand.func 51), args := #[Operand.tmp 43, Operand.tmp 44, Operand.tmp 45], argTypes := #[50, 3, 3] }, type := 4, pos := "scanner.go:61", after := #[{ on := 5, ground := Ground.data }, { on := 6, ground := Ground.data }, { on := 7, ground := Ground.data }, { on := 4, ground := Ground.chain }, { on := 4, ground := Ground.guard }], guard := some (4, true) } : Oper)) (v := undef) rfl (by kernel_rfl) (by kernel_rfl) (by kernel_rfl) (fun _ _ _ h => h) (Or.inr ⟨by rfl, rfl⟩) hS ?_
        (try simp only [Act.put, List.setIfInBounds_toArray, List.set_cons_zero, List.set_cons_succ])
        refine wpAnyH_take (i := 9) (oi := ({ dst := some 47, op := Op.pick (Operand.tmp 42) (Operand.tmp 46) (Operand.const (Value.bool false)), type := 4, pos := "scanner.go:61", after := #[{ on := 4, ground := Ground.data }, { on := 8, ground := Ground.data }, { on := 11, ground := Ground.gcOnly Departure.lateStores }], guard := none } : Oper)) (v := ?_) rfl (by kernel_rfl) (by kernel_rfl) (by kernel_rfl) (fun _ _ _ h => h) (Or.inl ⟨by rfl, ?_⟩) hS ?_
        rotate_left
        · (intro w hSw; (try dsimp only at hSw); go_simp; try with_reducible rfl)
        (try simp only [Act.put, List.setIfInBounds_toArray, List.set_cons_zero, List.set_cons_succ])
        refine rg_one 10 ({ dst := none, op := Op.store 64 (Operand.tmp 4) (Operand.tmp 38), type := 0, pos := "scanner.go:61", after := #[{ on := 0, ground := Ground.data }, { on := 8, ground := Ground.chain }, { on := 0, ground := Ground.phase }, { on := 1, ground := Ground.textOnly Departure.lateStores }, { on := 2, ground := Ground.textOnly Departure.lateStores }, { on := 3, ground := Ground.textOnly Departure.lateStores }, { on := 4, ground := Ground.textOnly Departure.lateStores }, { on := 5, ground := Ground.textOnly Departure.lateStores }, { on := 6, ground := Ground.textOnly Departure.lateStores }, { on := 7, ground := Ground.textOnly Departure.lateStores }, { on := 8, ground := Ground.textOnly Departure.lateStoresUnsure }, { on := 9, ground := Ground.textOnly Departure.lateStores }], guard := none } : Oper) (by kernel_rfl) rfl (fun K hK => ?_)
        rw [if_pos (by rfl)]; refine wp_put_fr (.tmp 4) (.tmp 38) rfl w.heap.size HA7.out fk fe p4 n4 c4 rfl rfl ?_; intro w8 HF8 HG8; have hN := (show Below w.heap.size w w8 ∧ FO w8 g fk fe (.slice p4 n4 c4) from ⟨below_over hS.1 HG8.out (Nat.le_refl _) hS.1.size, hS.2.over HG8.out (Ne.symm HGN.out)⟩)
        refine hK.out _ _ ?_ (fun hS1 => ?_)
        · (first | exact hN | exact hS)
        clear hK K hS; have hS := hS1; clear hS1
        (try simp only [Act.put])
        refine wpAnyH_take (i := 11) (oi := ({ dst := some 5, op := Op.assign (Operand.tmp 39), type := 3, pos := "scanner.go:61", after := #[{ on := 1, ground := Ground.data }, { on := 10, ground := Ground.chain }, { on := 0, ground := Ground.phase }, { on := 1, ground := Ground.phase }, { on := 2, ground := Ground.textOnly Departure.lateStores }, { on := 3, ground := Ground.textOnly Departure.lateStores }, { on := 4, ground := Ground.textOnly Departure.lateStores }, { on := 5, ground := Ground.textOnly Departure.lateStores }, { on := 6, ground := Ground.textOnly Departure.lateStores }, { on := 7, ground := Ground.textOnly Departure.lateStores }, { on := 8, ground := Ground.textOnly Departure.lateStoresUnsure }, { on := 9, ground := Ground.textOnly Departure.lateStores }, { on := 10, ground := Ground.phase }], guard := none } : Oper)) (v := ?_) rfl (by kernel_rfl) (by kernel_rfl) (by kernel_rfl) (fun _ _ _ h => h) (Or.inl ⟨by rfl, ?_⟩) hS ?_
        rotate_left
        · (intro w hSw; (try dsimp only at hSw); go_simp; try with_reducible rfl)
        (try simp only [Act.put, List.setIfInBounds_toArray, List.set_cons_zero, List.set_cons_succ])
        refine wpAnyH_take (i := 12) (oi := ({ dst := some 6, op := Op.assign (Operand.tmp 47), type := 4, pos := "scanner.go:61", after := #[{ on := 9, ground := Ground.data }, { on := 11, ground := Ground.chain }, { on := 0, ground := Ground.phase }, { on := 1, ground := Ground.phase }, { on := 2, ground := Ground.phase }, { on := 3, ground := Ground.phase }, { on := 4, ground := Ground.phase }, { on := 5, ground := Ground.phase }, { on := 6, ground := Ground.phase }, { on := 7, ground := Ground.phase }, { on := 8, ground := Ground.phase }, { on := 9, ground := Ground.phase }, { on := 10, ground := Ground.phase }, { on := 11, ground := Ground.phase }], guard := none } : Oper)) (v := ?_) rfl (by kernel_rfl) (by kernel_rfl) (by kernel_rfl) (fun _ _ _ h => h) (Or.inl ⟨by rfl, ?_⟩) hS ?_
        rotate_left
        · (intro w hSw; (try dsimp only at hSw); go_simp; try with_reducible rfl)
        (try simp only [Act.put, List.setIfInBounds_toArray, List.set_cons_zero, List.set_cons_succ])
        refine wpAnyH_done (by kernel_rfl) ?_ _
        have HB8 := Lib.hid hS.1
        clear hS
        go_wp2
        refine bodyPost_ret_by (results_row_tmp2 rfl _ _ w.heap.size _ rfl HF8.out.load) rfl ?_
        exact ⟨HB8.out, .inl ⟨by rw [HNO.out], _, _, _, _, _, _, rfl⟩⟩
end Go.Proofs.YthickhfbllddjaaDoor
/-
  WHAT THE SCANNER'S METHOD tell DOES (layer 19): a record more, its place, the end. No condition but bounds.
-/
namespace Go.Proofs.YthickhfbllddjaaDoor
open Go.RowKit
theorem Tryd.info_int : (Tryd.prog.info? 3).map (fun i => (i.zero, i.size, i.bytes)) = some (some (.int .i64 0), 1, 8) := by kernel_rfl
theorem ri_int1 (w : World) (x : Int) : RI .i64 (w.alloc (.cells #[.int .i64 x] 3)) (.slice (some ⟨w.heap.size, 0, none⟩) 1 1) 1 [x] := by
  refine ⟨_, 1, rfl, rfl, Nat.le_refl _, by omega, fun h => by simp at h, fun _ => ⟨w.heap.size, 0, rfl, fun j hj => ?_⟩⟩
  obtain rfl : j = 0 := by omega
  rw [Nat.zero_add, cell_of_row _ w.heap.size 0 _ _ _ (heap_alloc_last w _)]
  rfl
theorem keep_drew (w : World) (o : Obj) : Below w.heap.size w (w.alloc o).drew := (balloc w o).drew
set_option maxRecDepth 8000 in
set_option maxHeartbeats 4000000 in
theorem tell_any {W w : World} {sb jb : Nat} {ep : Int} {bv kv : Value} {a b e : Nat} {o : Bool} {h : List Int} {hv rv : Value} {es : List (List Int × Value)} {pv : Value} {ps : List Int}
    (c : SC W w sb jb ep bv kv a b e o h hv rv es pv ps) (u : Value) (r : List Int) (hu : w.ownsRow W.heap.size 5 1 u r.length (il .u8 r)) (hap : ∀ g, u.ownBlock = some g → some g ≠ hv.ownBlock) (hm : es.length ≤ 1000) (hp : ps.length ≤ 1000) :
    Calls Tryd.prog 35 #[.pointer (some ⟨sb, 0, none⟩), u] w fun e' w' => e' = .returned (.tuple #[]) ∧ ∃ rv' pv', SC W w' sb jb ep bv kv a b a o h hv rv' (es ++ [(r, u)]) pv' (ps ++ [(b : Int)]) := by
  obtain ⟨ua, uc, rfl⟩ := own_form hu
  obtain ⟨ra, rc, rfl⟩ := own_form c.recs.row
  obtain ⟨pa, pc, rfl⟩ := own_form c.places
  obtain ⟨wa, hwa⟩ : ∃ q, w.alloc (.cells #[.slice ua r.length uc] 38) = q := ⟨_, rfl⟩
  have hba : Below w.heap.size w wa := by rw [← hwa]; exact balloc w _
  have HCA := Lib.hid (c.keep hba)
  have HUA := Lib.hid (own_keep hu hba)
  have HKA : Hid (wa.heap[w.heap.size]? = some (.cells #[.slice ua r.length uc] 38 (0, 0))) := Lib.hid (by rw [← hwa]; exact heap_alloc_last w _)
  have HAP := Lib.hid hap
  obtain ⟨_, _, _, _, _, _, z6, _⟩ := c.blk.cells
  clear c hu hap hba
  go_enter Tryd.func35, Tryd.ntmps35
  go_wp2_with (first
    | (at_builtin; refine wpl_app_sr rfl (.tmp 9) (.tmp 11) rfl rfl HCA.out.recs w.heap.size (r, .slice ua r.length uc) rfl HKA.out HUA.out HAP.out (by omega) HCA.out.below.size ?_; intro v8 w8 HR8 HG8; obtain ⟨a8, c8, rfl⟩ := own_form HR8.out.row; have hs8 := HCA.out.blk.grown HCA.out.recs.row (by decide) HG8.out; have z68 := hs8.cells.2.2.2.2.2.2.1; have f68 := hs8.frozen 6; have HC9 := Lib.hid (HCA.out.more (es' := es ++ [(r, .slice ua r.length uc)]) HG8.out (by rw [List.length_append]; exact HR8.out)); obtain ⟨w9, hw9⟩ : ∃ q, w8.setCell ⟨sb, 6, none⟩ (.slice a8 (es.length + 1) c8) = q := ⟨_, rfl⟩; rw [hw9] at HC9; clear hs8))
  clear z6 z68 f68 HCA HUA HKA HAP HR8 HG8
  have HCD := Lib.hid (HC9.out.keep (Below.refl _ w9).drew)
  obtain ⟨_, _, _, _, _, y5, _, y7, _⟩ := HCD.out.blk.cells
  go_wp2_with fail
  refine wp_region_held_drew (S := (fun w' => w'.cell? ⟨sb, 5, none⟩ = some (.int .i64 (b : Int)))) (by kernel_rfl) y5 (fun hS => ?_)
  refine wpAnyH_take (i := 0) (oi := ({ dst := some 16, op := Op.move (Operand.tmp 0), type := 50, pos := "scanner.go:72", after := #[], guard := none } : Oper)) (v := ?_) rfl (by kernel_rfl) (by kernel_rfl) (by kernel_rfl) (fun _ _ _ h => h) (Or.inl ⟨by rfl, ?_⟩) hS ?_
  rotate_left
  · (intro w hSw; (try dsimp only at hSw); go_simp; try with_reducible rfl)
  (try simp only [Act.put, List.setIfInBounds_toArray, List.set_cons_zero, List.set_cons_succ])
  refine wpAnyH_take (i := 1) (oi := ({ dst := some 17, op := Op.move (Operand.tmp 0), type := 50, pos := "scanner.go:72", after := #[], guard := none } : Oper)) (v := ?_) rfl (by kernel_rfl) (by kernel_rfl) (by kernel_rfl) (fun _ _ _ h => h) (Or.inl ⟨by rfl, ?_⟩) hS ?_
  rotate_left
  · (intro w hSw; (try dsimp only at hSw); go_simp; try with_reducible rfl)
  (try simp only [Act.put, List.setIfInBounds_toArray, List.set_cons_zero, List.set_cons_succ])
  refine wpAnyH_take (i := 2) (oi := ({ dst := some 18, op := Op.nilCheck (Operand.tmp 17), type := 0, pos := "scanner.go:72", after := #[{ on := 1, ground := Ground.data }], guard := none } : Oper)) (v := ?_) rfl (by kernel_rfl) (by kernel_rfl) (by kernel_rfl) (fun _ _ _ h => h) (Or.inl ⟨by rfl, ?_⟩) hS ?_
  rotate_left
  · (intro w hSw; (try dsimp only at hSw); go_simp; try with_reducible rfl)
  (try simp only [Act.put, List.setIfInBounds_toArray, List.set_cons_zero, List.set_cons_succ])
  refine wpAnyH_take (i := 3) (oi := ({ dst := some 19, op := Op.fieldAddr 57 (Operand.tmp 18) 6, type := 0, pos := "scanner.go:72", after := #[{ on := 2, ground := Ground.data }], guard := none } : Oper)) (v := ?_) rfl (by kernel_rfl) (by kernel_rfl) (by kernel_rfl) (fun _ _ _ h => h) (Or.inl ⟨by rfl, ?_⟩) hS ?_
  rotate_left
  · (intro w hSw; (try dsimp only at hSw); go_simp; try with_reducible rfl)
  (try simp only [Act.put, List.setIfInBounds_toArray, List.set_cons_zero, List.set_cons_succ])
  refine wpAnyH_take (i := 4) (oi := ({ dst := some 20, op := Op.fieldAddr 28 (Operand.tmp 19) 1, type := 0, pos := "scanner.go:72", after := #[{ on := 3, ground := Ground.data }], guard := none } : Oper)) (v := ?_) rfl (by kernel_rfl) (by kernel_rfl) (by kernel_rfl) (fun _ _ _ h => h) (Or.inl ⟨by rfl, ?_⟩) hS ?_
  rotate_left
  · (intro w hSw; (try dsimp only at hSw); go_simp; try with_reducible rfl)
  (try simp only [Act.put, List.setIfInBounds_toArray, List.set_cons_zero, List.set_cons_succ])
  refine wpAnyH_take (i := 6) (oi := ({ dst := some 22, op := Op.move (Operand.tmp 0), type := 50, pos := "scanner.go:72", after := #[], guard := none } : Oper)) (v := ?_) rfl (by kernel_rfl) (by kernel_rfl) (by kernel_rfl) (fun _ _ _ h => h) (Or.inl ⟨by rfl, ?_⟩) hS ?_
  rotate_left
  · (intro w hSw; (try dsimp only at hSw); go_simp; try with_reducible rfl)
  (try simp only [Act.put, List.setIfInBounds_toArray, List.set_cons_zero, List.set_cons_succ])
  refine wpAnyH_take (i := 7) (oi := ({ dst := some 23, op := Op.nilCheck (Operand.tmp 22), type := 0, pos := "scanner.go:72", after := #[{ on := 6, ground := Ground.data }], guard := none } : Oper)) (v := ?_) rfl (by kernel_rfl) (by kernel_rfl) (by kernel_rfl) (fun _ _ _ h => h) (Or.inl ⟨by rfl, ?_⟩) hS ?_
  rotate_left
  · (intro w hSw; (try dsimp only at hSw); go_simp; try with_reducible rfl)
  (try simp only [Act.put, List.setIfInBounds_toArray, List.set_cons_zero, List.set_cons_succ])
  refine wpAnyH_take (i := 8) (oi := ({ dst := some 24, op := Op.fieldAddr 57 (Operand.tmp 23) 5, type := 0, pos := "scanner.go:72", after := #[{ on := 7, ground := Ground.data }], guard := none } : Oper)) (v := ?_) rfl (by kernel_rfl) (by kernel_rfl) (by kernel_rfl) (fun _ _ _ h => h) (Or.inl ⟨by rfl, ?_⟩) hS ?_
  rotate_left
  · (intro w hSw; (try dsimp only at hSw); go_simp; try with_reducible rfl)
  (try simp only [Act.put, List.setIfInBounds_toArray, List.set_cons_zero, List.set_cons_succ])
  refine wpAnyH_take (i := 9) (oi := ({ dst := some 25, op := Op.load 3 (Operand.tmp 24), type := 3, pos := "scanner.go:72", after := #[{ on := 8, ground := Ground.data }], guard := none } : Oper)) (v := ?_) rfl (by kernel_rfl) (by kernel_rfl) (by kernel_rfl) (fun _ _ _ h => h) (Or.inl ⟨by rfl, ?_⟩) hS ?_
  rotate_left
  · (intro w hSw; (try dsimp only at hSw); go_simp; try with_reducible rfl)
  (try simp only [Act.put, List.setIfInBounds_toArray, List.set_cons_zero, List.set_cons_succ])
  refine rg_both 5 10 ({ dst := some 21, op := Op.load 26 (Operand.tmp 20), type := 26, pos := "scanner.go:72", after := #[{ on := 4, ground := Ground.data }], guard := none } : Oper) ({ dst := some 26, op := Op.buildSlice 26 1 #[(0, Operand.tmp 25)], type := 26, pos := "scanner.go:72", after := #[{ on := 9, ground := Ground.data }], guard := none } : Oper) (by kernel_rfl) rfl rfl (fun K hK => ?_) (fun K hK => ?_)
  · skip
    go_simp
    refine hK.out _ _ ?_ (fun hS1 => ?_)
    · (first | exact hN | exact hS)
    clear hK K hS; have hS := hS1; clear hS1
    (try simp only [Act.put, List.setIfInBounds_toArray, List.set_cons_zero, List.set_cons_succ])
    refine rg_one 10 ({ dst := some 26, op := Op.buildSlice 26 1 #[(0, Operand.tmp 25)], type := 26, pos := "scanner.go:72", after := #[{ on := 9, ground := Ground.data }], guard := none } : Oper) (by kernel_rfl) rfl (fun K hK => ?_)
    go_simp
    (obtain ⟨wA, hwA⟩ : ∃ q, (w9.alloc (.cells #[.int .i64 (b : Int)] 3)).drew = q := ⟨_, rfl⟩; rw [hwA]; have HCA := Lib.hid (HC9.out.keep (hwA ▸ keep_drew w9 _)); have y7 := HCA.out.blk.cells.2.2.2.2.2.2.2.1; have hN := HCA.out.blk.cells.2.2.2.2.2.1; have HRI : Hid (RI .i64 wA (.slice (some ⟨w9.heap.size, 0, none⟩) 1 1) 1 [(b : Int)]) := Lib.hid (hwA ▸ (ri_int1 w9 (b : Int)).keep (Below.refl _ _).drew))
    refine hK.out _ _ ?_ (fun hS1 => ?_)
    · (first | exact hN | exact hS)
    clear hK K hS; have hS := hS1; clear hS1
    (try simp only [Act.put, List.setIfInBounds_toArray, List.set_cons_zero, List.set_cons_succ])
    refine rg_one 11 ({ dst := some 27, op := Op.call { callee := Callee.builtin Builtin.append, args := #[Operand.tmp 21, Operand.tmp 26], argTypes := #[26, 26] }, type := 26, pos := "scanner.go:72", after := #[{ on := 5, ground := Ground.data }, { on := 10, ground := Ground.data }], guard := none } : Oper) (by kernel_rfl) rfl (fun K hK => ?_)
    rw [if_pos (by rfl)]; refine wp_appn (.tmp 21) (.tmp 26) 26 rfl 3 .i64 8 Tryd.underlying26 Tryd.info_int W.heap.size (.slice pa ps.length pc) ps.length ps rfl HCA.out.places _ 1 [(b : Int)] rfl HRI.out (by omega) (by omega) HCA.out.below.size ?_; intro v5 w5 ho5 hg5 _; obtain ⟨a5, c5, rfl⟩ := own_form ho5; have hs5 := HCA.out.blk.grown HCA.out.places (by decide) hg5; have hN := hs5.cells.2.2.2.2.2.1; have z75 := hs5.cells.2.2.2.2.2.2.2.1; have f75 := hs5.frozen 7; have HC6 := Lib.hid (HCA.out.more7 (ps' := ps ++ [(b : Int)]) hg5 (by rw [List.length_append]; exact ho5)); clear hs5
    refine hK.out _ _ ?_ (fun hS1 => ?_)
    · (first | exact hN | exact hS)
    clear hK K hS; have hS := hS1; clear hS1
    (try simp only [Act.put, List.setIfInBounds_toArray, List.set_cons_zero, List.set_cons_succ])
    refine wpAnyH_take (i := 12) (oi := ({ dst := some 28, op := Op.nilCheck (Operand.tmp 16), type := 0, pos := "scanner.go:72", after := #[{ on := 0, ground := Ground.data }, { on := 0, ground := Ground.phase }, { on := 1, ground := Ground.phase }, { on := 2, ground := Ground.phase }, { on := 3, ground := Ground.phase }, { on := 4, ground := Ground.phase }, { on := 5, ground := Ground.phase }, { on := 6, ground := Ground.phase }, { on := 7, ground := Ground.phase }, { on := 8, ground := Ground.phase }, { on := 9, ground := Ground.phase }, { on := 10, ground := Ground.phase }, { on := 11, ground := Ground.phase }], guard := none } : Oper)) (v := ?_) rfl (by kernel_rfl) (by kernel_rfl) (by kernel_rfl) (fun _ _ _ h => h) (Or.inl ⟨by rfl, ?_⟩) hS ?_
    rotate_left
    · (intro w hSw; (try dsimp only at hSw); go_simp; try with_reducible rfl)
    (try simp only [Act.put, List.setIfInBounds_toArray, List.set_cons_zero, List.set_cons_succ])
    refine wpAnyH_take (i := 13) (oi := ({ dst := some 29, op := Op.fieldAddr 57 (Operand.tmp 28) 6, type := 0, pos := "scanner.go:72", after := #[{ on := 12, ground := Ground.data }, { on := 0, ground := Ground.phase }, { on := 1, ground := Ground.phase }, { on := 2, ground := Ground.phase }, { on := 3, ground := Ground.phase }, { on := 4, ground := Ground.phase }, { on := 5, ground := Ground.phase }, { on := 6, ground := Ground.phase }, { on := 7, ground := Ground.phase }, { on := 8, ground := Ground.phase }, { on := 9, ground := Ground.phase }, { on := 10, ground := Ground.phase }, { on := 11, ground := Ground.phase }], guard := none } : Oper)) (v := ?_) rfl (by kernel_rfl) (by kernel_rfl) (by kernel_rfl) (fun _ _ _ h => h) (Or.inl ⟨by rfl, ?_⟩) hS ?_
    rotate_left
    · (intro w hSw; (try dsimp only at hSw); go_simp; try with_reducible rfl)
    (try simp only [Act.put, List.setIfInBounds_toArray, List.set_cons_zero, List.set_cons_succ])
    refine wpAnyH_take (i := 14) (oi := ({ dst := some 30, op := Op.fieldAddr 28 (Operand.tmp 29) 1, type := 0, pos := "scanner.go:72", after := #[{ on := 13, ground := Ground.data }, { on := 0, ground := Ground.phase }, { on := 1, ground := Ground.phase }, { on := 2, ground := Ground.phase }, { on := 3, ground := Ground.phase }, { on := 4, ground := Ground.phase }, { on := 5, ground := Ground.phase }, { on := 6, ground := Ground.phase }, { on := 7, ground := Ground.phase }, { on := 8, ground := Ground.phase }, { on := 9, ground := Ground.phase }, { on := 10, ground := Ground.phase }, { on := 11, ground := Ground.phase }], guard := none } : Oper)) (v := ?_) rfl (by kernel_rfl) (by kernel_rfl) (by kernel_rfl) (fun _ _ _ h => h) (Or.inl ⟨by rfl, ?_⟩) hS ?_
    rotate_left
    · (intro w hSw; (try dsimp only at hSw); go_simp; try with_reducible rfl)
    (try simp only [Act.put, List.setIfInBounds_toArray, List.set_cons_zero, List.set_cons_succ])
    refine rg_one 15 ({ dst := none, op := Op.store 26 (Operand.tmp 30) (Operand.tmp 27), type := 0, pos := "scanner.go:72", after := #[{ on := 14, ground := Ground.data }, { on := 11, ground := Ground.data }, { on := 11, ground := Ground.chain }, { on := 0, ground := Ground.phase }, { on := 1, ground := Ground.phase }, { on := 2, ground := Ground.phase }, { on := 3, ground := Ground.phase }, { on := 4, ground := Ground.phase }, { on := 5, ground := Ground.phase }, { on := 6, ground := Ground.phase }, { on := 7, ground := Ground.phase }, { on := 8, ground := Ground.phase }, { on := 9, ground := Ground.phase }, { on := 10, ground := Ground.phase }, { on := 11, ground := Ground.phase }], guard := none } : Oper) (by kernel_rfl) rfl (fun K hK => ?_)
    go_simp
    (obtain ⟨w6, hw6⟩ : ∃ q, w5.setCell ⟨sb, 7, none⟩ (.slice a5 (ps.length + 1) c5) = q := ⟨_, rfl⟩; rw [hw6]; rw [hw6] at HC6; clear hN; have hN := HC6.out.blk.cells.2.2.2.2.2.1)
    refine hK.out _ _ ?_ (fun hS1 => ?_)
    · (first | exact hN | exact hS)
    clear hK K hS; have hS := hS1; clear hS1
    (try simp only [Act.put])
    refine wpAnyH_done (by kernel_rfl) ?_ _
    clear hS hN
    (try clear y7)
    (try clear z75 f75 hw6)
    obtain ⟨_, _, _, _, x4, _, _, _, x8, _⟩ := HC6.out.blk.cells
    have f8 := HC6.out.blk.frozen 8
    go_wp2
    go_end0
    exact ⟨rfl, _, _, HC6.out.set8 a⟩
  · skip
    go_simp
    (obtain ⟨wA, hwA⟩ : ∃ q, (w9.alloc (.cells #[.int .i64 (b : Int)] 3)).drew = q := ⟨_, rfl⟩; rw [hwA]; have HCA := Lib.hid (HC9.out.keep (hwA ▸ keep_drew w9 _)); have y7 := HCA.out.blk.cells.2.2.2.2.2.2.2.1; have hN := HCA.out.blk.cells.2.2.2.2.2.1; have HRI : Hid (RI .i64 wA (.slice (some ⟨w9.heap.size, 0, none⟩) 1 1) 1 [(b : Int)]) := Lib.hid (hwA ▸ (ri_int1 w9 (b : Int)).keep (Below.refl _ _).drew))
    refine hK.out _ _ ?_ (fun hS1 => ?_)
    · (first | exact hN | exact hS)
    clear hK K hS; have hS := hS1; clear hS1
    (try simp only [Act.put, List.setIfInBounds_toArray, List.set_cons_zero, List.set_cons_succ])
    refine rg_one 5 ({ dst := some 21, op := Op.load 26 (Operand.tmp 20), type := 26, pos := "scanner.go:72", after := #[{ on := 4, ground := Ground.data }], guard := none } : Oper) (by kernel_rfl) rfl (fun K hK => ?_)
    go_simp
    refine hK.out _ _ ?_ (fun hS1 => ?_)
    · (first | exact hN | exact hS)
    clear hK K hS; have hS := hS1; clear hS1
    (try simp only [Act.put, List.setIfInBounds_toArray, List.set_cons_zero, List.set_cons_succ])
    refine rg_one 11 ({ dst := some 27, op := Op.call { callee := Callee.builtin Builtin.append, args := #[Operand.tmp 21, Operand.tmp 26], argTypes := #[26, 26] }, type := 26, pos := "scanner.go:72", after := #[{ on := 5, ground := Ground.data }, { on := 10, ground := Ground.data }], guard := none } : Oper) (by kernel_rfl) rfl (fun K hK => ?_)
    rw [if_pos (by rfl)]; refine wp_appn (.tmp 21) (.tmp 26) 26 rfl 3 .i64 8 Tryd.underlying26 Tryd.info_int W.heap.size (.slice pa ps.length pc) ps.length ps rfl HCA.out.places _ 1 [(b : Int)] rfl HRI.out (by omega) (by omega) HCA.out.below.size ?_; intro v5 w5 ho5 hg5 _; obtain ⟨a5, c5, rfl⟩ := own_form ho5; have hs5 := HCA.out.blk.grown HCA.out.places (by decide) hg5; have hN := hs5.cells.2.2.2.2.2.1; have z75 := hs5.cells.2.2.2.2.2.2.2.1; have f75 := hs5.frozen 7; have HC6 := Lib.hid (HCA.out.more7 (ps' := ps ++ [(b : Int)]) hg5 (by rw [List.length_append]; exact ho5)); clear hs5
    refine hK.out _ _ ?_ (fun hS1 => ?_)
    · (first | exact hN | exact hS)
    clear hK K hS; have hS := hS1; clear hS1
    (try simp only [Act.put, List.setIfInBounds_toArray, List.set_cons_zero, List.set_cons_succ])
    refine wpAnyH_take (i := 12) (oi := ({ dst := some 28, op := Op.nilCheck (Operand.tmp 16), type := 0, pos := "scanner.go:72", after := #[{ on := 0, ground := Ground.data }, { on := 0, ground := Ground.phase }, { on := 1, ground := Ground.phase }, { on := 2, ground := Ground.phase }, { on := 3, ground := Ground.phase }, { on := 4, ground := Ground.phase }, { on := 5, ground := Ground.phase }, { on := 6, ground := Ground.phase }, { on := 7, ground := Ground.phase }, { on := 8, ground := Ground.phase }, { on := 9, ground := Ground.phase }, { on := 10, ground := Ground.phase }, { on := 11, ground := Ground.phase }], guard := none } : Oper)) (v := ?_) rfl (by kernel_rfl) (by kernel_rfl) (by kernel_rfl) (fun _ _ _ h => h) (Or.inl ⟨by rfl, ?_⟩) hS ?_
    rotate_left
    · (intro w hSw; (try dsimp only at hSw); go_simp; try with_reducible rfl)
    (try simp only [Act.put, List.setIfInBounds_toArray, List.set_cons_zero, List.set_cons_succ])
    refine wpAnyH_take (i := 13) (oi := ({ dst := some 29, op := Op.fieldAddr 57 (Operand.tmp 28) 6, type := 0, pos := "scanner.go:72", after := #[{ on := 12, ground := Ground.data }, { on := 0, ground := Ground.phase }, { on := 1, ground := Ground.phase }, { on := 2, ground := Ground.phase }, { on := 3, ground := Ground.phase }, { on := 4, ground := Ground.phase }, { on := 5, ground := Ground.phase }, { on := 6, ground := Ground.phase }, { on := 7, ground := Ground.phase }, { on := 8, ground := Ground.phase }, { on := 9, ground := Ground.phase }, { on := 10, ground := Ground.phase }, { on := 11, ground := Ground.phase }], guard := none } : Oper)) (v := ?_) rfl (by kernel_rfl) (by kernel_rfl) (by kernel_rfl) (fun _ _ _ h => h) (Or.inl ⟨by rfl, ?_⟩) hS ?_
    rotate_left
    · (intro w hSw; (try dsimp only at hSw); go_simp; try with_reducible rfl)
    (try simp only [Act.put, List.setIfInBounds_toArray, List.set_cons_zero, List.set_cons_succ])
    refine wpAnyH_take (i := 14) (oi := ({ dst := some 30, op := Op.fieldAddr 28 (Operand.tmp 29) 1, type := 0, pos := "scanner.go:72", after := #[{ on := 13, ground := Ground.data }, { on := 0, ground := Ground.phase }, { on := 1, ground := Ground.phase }, { on := 2, ground := Ground.phase }, { on := 3, ground := Ground.phase }, { on := 4, ground := Ground.phase }, { on := 5, ground := Ground.phase }, { on := 6, ground := Ground.phase }, { on := 7, ground := Ground.phase }, { on := 8, ground := Ground.phase }, { on := 9, ground := Ground.phase }, { on := 10, ground := Ground.phase }, { on := 11, ground := Ground.phase }], guard := none } : Oper)) (v := ?_) rfl (by kernel_rfl) (by kernel_rfl) (by kernel_rfl) (fun _ _ _ h => h) (Or.inl ⟨by rfl, ?_⟩) hS ?_
    rotate_left
    · (intro w hSw; (try dsimp only at hSw); go_simp; try with_reducible rfl)
    (try simp only [Act.put, List.setIfInBounds_toArray, List.set_cons_zero, List.set_cons_succ])
    refine rg_one 15 ({ dst := none, op := Op.store 26 (Operand.tmp 30) (Operand.tmp 27), type := 0, pos := "scanner.go:72", after := #[{ on := 14, ground := Ground.data }, { on := 11, ground := Ground.data }, { on := 11, ground := Ground.chain }, { on := 0, ground := Ground.phase }, { on := 1, ground := Ground.phase }, { on := 2, ground := Ground.phase }, { on := 3, ground := Ground.phase }, { on := 4, ground := Ground.phase }, { on := 5, ground := Ground.phase }, { on := 6, ground := Ground.phase }, { on := 7, ground := Ground.phase }, { on := 8, ground := Ground.phase }, { on := 9, ground := Ground.phase }, { on := 10, ground := Ground.phase }, { on := 11, ground := Ground.phase }], guard := none } : Oper) (by kernel_rfl) rfl (fun K hK => ?_)
    go_simp
    (obtain ⟨w6, hw6⟩ : ∃ q, w5.setCell ⟨sb, 7, none⟩ (.slice a5 (ps.length + 1) c5) = q := ⟨_, rfl⟩; rw [hw6]; rw [hw6] at HC6; clear hN; have hN := HC6.out.blk.cells.2.2.2.2.2.1)
    refine hK.out _ _ ?_ (fun hS1 => ?_)
    · (first | exact hN | exact hS)
    clear hK K hS; have hS := hS1; clear hS1
    (try simp only [Act.put])
    refine wpAnyH_done (by kernel_rfl) ?_ _
    clear hS hN
    (try clear y7)
    (try clear z75 f75 hw6)
    obtain ⟨_, _, _, _, x4, _, _, _, x8, _⟩ := HC6.out.blk.cells
    have f8 := HC6.out.blk.frozen 8
    go_wp2
    go_end0
    exact ⟨rfl, _, _, HC6.out.set8 a⟩
end Go.Proofs.YthickhfbllddjaaDoor
