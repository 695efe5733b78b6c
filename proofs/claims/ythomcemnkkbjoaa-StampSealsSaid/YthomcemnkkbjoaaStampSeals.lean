/-
  THE WALK OF THE LAW StampSeals: whatever epochs, indexes and room come in: the call returns true and changes nothing that was there.
-/
import Derived.Test.YthomcemnkkbjoaaStampReads
namespace Go.Proofs.Ythomcemnkkbjoaa
open Go.RowKit
/-- what is kept all through the law: both pairs of numbers, and the room that came in -/
structure QS (W : World) (x0 x1 i0 i1 : Int) (rm : Value) (len : Nat) (zs : List Int) (w : World) : Prop where
  c0 : w.cell? ⟨W.heap.size, 0, none⟩ = some (.int .u64 x0)
  c1 : w.cell? ⟨W.heap.size, 1, none⟩ = some (.int .u64 x1)
  d0 : w.cell? ⟨W.heap.size + 1, 0, none⟩ = some (.int .i64 i0)
  d1 : w.cell? ⟨W.heap.size + 1, 1, none⟩ = some (.int .i64 i1)
  arg : RI .u8 w rm len zs
  below : Below W.heap.size W w
theorem QS.next {W : World} {x0 x1 i0 i1 : Int} {rm : Value} {len : Nat} {zs : List Int} {w w' : World} (h : QS W x0 x1 i0 i1 rm len zs w) (hb : Below w.heap.size w w') : QS W x0 x1 i0 i1 rm len zs w' :=
  ⟨cell_keep hb h.c0, cell_keep hb h.c1, cell_keep hb h.d0, cell_keep hb h.d1, h.arg.keep hb, chain h.below hb⟩
theorem QS.start (W : World) (x0 x1 i0 i1 : Int) (rm : Value) (len : Nat) (zs : List Int) (h : RI .u8 W rm len zs) (t1 t2 : TypeId) :
    QS W x0 x1 i0 i1 rm len zs ((W.alloc (.cells #[.int .u64 x0, .int .u64 x1] t1)).alloc (.cells #[.int .i64 i0, .int .i64 i1] t2)) := by
  have h0 := below_alloc W (.cells #[.int .u64 x0, .int .u64 x1] t1)
  have s0 := alloc_size W (.cells #[.int .u64 x0, .int .u64 x1] t1)
  have k0 : (W.alloc (.cells #[.int .u64 x0, .int .u64 x1] t1)).heap[W.heap.size]? = some (.cells #[.int .u64 x0, .int .u64 x1] t1 (0, 0)) := heap_alloc_last W _
  generalize W.alloc (.cells #[.int .u64 x0, .int .u64 x1] t1) = w0 at *
  have h1 := below_alloc w0 (.cells #[.int .i64 i0, .int .i64 i1] t2)
  have k1 : (w0.alloc (.cells #[.int .i64 i0, .int .i64 i1] t2)).heap[w0.heap.size]? = some (.cells #[.int .i64 i0, .int .i64 i1] t2 (0, 0)) := heap_alloc_last w0 _
  rw [s0] at k1
  refine ⟨cell_keep h1 ?_, cell_keep h1 ?_, ?_, ?_, (h.keep h0).keep h1, chain h0 h1⟩
  · rw [cell_of_row _ _ _ _ _ _ k0]; rfl
  · rw [cell_of_row _ _ _ _ _ _ k0]; rfl
  · rw [cell_of_row _ _ _ _ _ _ k1]; rfl
  · rw [cell_of_row _ _ _ _ _ _ k1]; rfl
/-- .. and the sealed sector -/
structure QB (W : World) (x0 x1 i0 i1 : Int) (rm : Value) (len : Nat) (zs : List Int) (g : Nat) (L : List Int) (w : World) : Prop where
  q : QS W x0 x1 i0 i1 rm len zs w
  blk : Blk w g L
theorem QB.next {W : World} {x0 x1 i0 i1 : Int} {rm : Value} {len : Nat} {zs : List Int} {g : Nat} {L : List Int} {w w' : World} (h : QB W x0 x1 i0 i1 rm len zs g L w) (hb : Below w.heap.size w w') : QB W x0 x1 i0 i1 rm len zs g L w' := ⟨h.q.next hb, h.blk.keep hb⟩
/-- .. and what was opened -/
structure QO (W : World) (x0 x1 i0 i1 : Int) (rm : Value) (len : Nat) (zs : List Int) (g : Nat) (L : List Int) (rv : Value) (s : ByteArray) (w : World) : Prop where
  q : QB W x0 x1 i0 i1 rm len zs g L w
  room : RI .u8 w rv 52 (L.drop 12)
  text : s = strOfNums (L.drop 12)
  c : (convert 25 9 rv).run Try.prog w = .ok (.string s) w
theorem QO.start {W : World} {x0 x1 i0 i1 : Int} {rm : Value} {len : Nat} {zs : List Int} {g : Nat} {L : List Int} {rv : Value} {s : ByteArray} {w : World} (hq : QB W x0 x1 i0 i1 rm len zs g L w) (hr : RI .u8 w rv 52 (L.drop 12)) (hs : s = strOfNums (L.drop 12)) : QO W x0 x1 i0 i1 rm len zs g L rv s w :=
  ⟨hq, hr, hs, by rw [hs]; exact conv_ri hr⟩
theorem QO.next {W : World} {x0 x1 i0 i1 : Int} {rm : Value} {len : Nat} {zs : List Int} {g : Nat} {L : List Int} {rv : Value} {s : ByteArray} {w w' : World} (h : QO W x0 x1 i0 i1 rm len zs g L rv s w) (hb : Below w.heap.size w w') : QO W x0 x1 i0 i1 rm len zs g L rv s w' :=
  QO.start (h.q.next hb) (h.room.keep hb) h.text
theorem room_text (L : List Int) (hl : L.length = 64) (s : ByteArray) (hs : s = strOfNums (L.drop 12)) (w : World) :
    Calls Try.prog 9 #[.agg (sv L)] w fun e w' => ∃ v, e = .returned v ∧ (convert 25 9 v).run Try.prog w' = .ok (.string s) w' ∧ Below w.heap.size w w' :=
  (rroom_any L hl w).mono fun _ _ ⟨v, he, hr, hb⟩ => ⟨v, he, by rw [hs]; exact conv_ri hr, hb⟩
set_option maxRecDepth 8000 in
set_option maxHeartbeats 2000000 in
theorem seals_same (x0 x1 i0 i1 : Int) (hx0 : U64 x0) (hx1 : U64 x1) (hi0 : I63 i0) (hi1 : I63 i1) (rm : Value) (len : Nat) (zs : List Int) (W : World) (hri : RI .u8 W rm len zs) (hzb : Bytes zs) (hxx : x0 = x1) (y : Bool) (hyb : (IntKind.u32.wrap i0 == IntKind.u32.wrap i1) = y) (hy : decide (x0 = x1 ∧ i0 % 4294967296 = i1 % 4294967296) = y) :
    Calls Try.prog 3 #[.agg #[.int .u64 x0, .int .u64 x1], .agg #[.int .i64 i0, .int .i64 i1], rm] W fun e w' => e = .returned (.bool true) ∧ Below W.heap.size W w' := by
  subst hxx
  obtain ⟨L, hL⟩ : ∃ L, sealed x0 i0 zs = L := ⟨_, rfl⟩
  have hl : L.length = 64 := by rw [← hL]; exact sealed_length _ _ _
  have hbl : Bytes L := by rw [← hL]; exact sealed_bytes _ _ _ hzb
  have hy1 : decide (sealed x0 i0 (L.drop 12) = L) = true := decide_eq_true (by rw [← hL]; exact sealed_own _ _ _)
  have hy2 : decide (sealed x0 i1 (L.drop 12) = L) = y := by
    rw [← hL, show decide (sealed x0 i1 ((sealed x0 i0 zs).drop 12) = sealed x0 i0 zs) = decide (x0 = x0 ∧ i0 % 4294967296 = i1 % 4294967296) from by rw [decide_eq_decide]; exact sealed_eq x0 x0 i0 i1 hx0 hx1 zs]
    exact hy
  have HS1 : Hid (∀ (v : Value) (w : World), RI .u8 w v len zs → Calls Try.prog 6 #[.int .u64 x0, .int .i64 i0, v] w fun e w' => e = .returned (.agg (sv L)) ∧ Below w.heap.size w w') := fun v w h => by
    rw [← hL]; exact seal_any x0 i0 hx0 hi0 v len zs w h
  have HS2 : Hid (∀ (v : Value) (w : World), RI .u8 w v len zs → Calls Try.prog 7 #[.int .u64 x0, .int .i64 i0, v] w fun e w' => e = .returned (.agg (sv L)) ∧ Below w.heap.size w w') := fun v w h => by
    rw [← hL]; exact rseal_any x0 i0 hx0 hi0 v len zs w h
  have HO1 : Hid (∀ w : World, Calls Try.prog 8 #[.agg (sv L), .int .u64 x0, .int .i64 i0] w fun e w' => ∃ v, e = .returned (.tuple #[v, .bool true]) ∧ RI .u8 w' v 52 (L.drop 12) ∧ Below w.heap.size w w') := fun w => open_any L hl hbl x0 i0 hx0 hi0 w true hy1
  have HO2 : Hid (∀ w : World, Calls Try.prog 8 #[.agg (sv L), .int .u64 x0, .int .i64 i1] w fun e w' => ∃ v, e = .returned (.tuple #[v, .bool y]) ∧ Below w.heap.size w w') := fun w => (open_any L hl hbl x0 i1 hx1 hi1 w y hy2).mono fun _ _ ⟨v, he, _, hb⟩ => ⟨v, he, hb⟩
  have HEQ := Lib.hid (run_eq_sec L L hl hl)
  rw [decide_eq_true rfl] at HEQ
  obtain ⟨s, hs⟩ : ∃ s, s = strOfNums (L.drop 12) := ⟨_, rfl⟩
  have HTX := Lib.hid hs
  have HL := Lib.hid hl
  have HZ := Lib.hid z64_cells
  have HQ0 := Lib.hid (QS.start W x0 x0 i0 i1 rm len zs hri 23 24)
  obtain ⟨a0, c0', e0⟩ : ∃ a c, rm = .slice a len c := by obtain ⟨a, c, e, _⟩ := hri; exact ⟨a, c, e⟩
  subst e0
  clear hL hl hbl hzb hy1 hy2 hs hri hy
  go_enter Try.func3, Try.ntmps3
  go_wp2_with (first
    | (go_at_call 6; (refine (HS1.out _ _ HQ0.out.arg).mono ?_); rintro e w1 ⟨rfl, hb⟩; have HQ1 := Lib.hid (HQ0.out.next hb); have HB1 := Lib.hid HQ1.out.below; clear hb)
    | (rw [← HZ.out]; refine wpl_store_new rfl _ _ rfl rfl w1.heap.size rfl L HL.out rfl rfl W HB1 ?_; intro w2 HK2 _ HW2; have HQ2 := Lib.hid (QB.mk (HQ1.out.next HW2.out) HK2.out); clear HW2 HK2))
  refine wp_region_held_drew (S := (fun w' => QB W x0 x0 i0 i1 (.slice a0 len c0') len zs w1.heap.size L w')) (by kernel_rfl) (HQ2.out.next ((Below.refl _ _).drew)) (fun hS => ?_)
  refine wpAnyH_take (i := 0) (oi := ({ dst := some 18, op := Op.load 27 (Operand.tmp 7), type := 27, pos := "law.go:20", after := #[], guard := none } : Oper)) (v := ?_) rfl (by kernel_rfl) (by kernel_rfl) (by kernel_rfl) (fun _ _ _ h => h) (Or.inl ⟨by rfl, ?_⟩) hS ?_
  rotate_left
  · (intro w hSw; (try dsimp only at hSw); refine exec_load_sec (.tmp 7) ?_ ?_ hSw.blk <;> rfl)
  (try simp only [Act.put, List.setIfInBounds_toArray, List.set_cons_zero, List.set_cons_succ])
  refine wpAnyH_take (i := 1) (oi := ({ dst := some 19, op := Op.indexAddr 23 (Operand.tmp 3) (Operand.const (Value.int IntKind.i64 0)), type := 0, pos := "law.go:20", after := #[], guard := none } : Oper)) (v := ?_) rfl (by kernel_rfl) (by kernel_rfl) (by kernel_rfl) (fun _ _ _ h => h) (Or.inl ⟨by rfl, ?_⟩) hS ?_
  rotate_left
  · (intro w hSw; (try dsimp only at hSw); go_simp; try with_reducible rfl)
  (try simp only [Act.put, List.setIfInBounds_toArray, List.set_cons_zero, List.set_cons_succ])
  refine wpAnyH_take (i := 2) (oi := ({ dst := some 20, op := Op.load 22 (Operand.tmp 19), type := 22, pos := "law.go:20", after := #[{ on := 1, ground := Ground.data }], guard := none } : Oper)) (v := ?_) rfl (by kernel_rfl) (by kernel_rfl) (by kernel_rfl) (fun _ _ _ h => h) (Or.inl ⟨by rfl, ?_⟩) hS ?_
  rotate_left
  · (intro w hSw; (try dsimp only at hSw); have hc := hSw.q.c0; go_simp; try with_reducible rfl)
  (try simp only [Act.put, List.setIfInBounds_toArray, List.set_cons_zero, List.set_cons_succ])
  refine wpAnyH_take (i := 3) (oi := ({ dst := some 21, op := Op.indexAddr 24 (Operand.tmp 4) (Operand.const (Value.int IntKind.i64 0)), type := 0, pos := "law.go:20", after := #[], guard := none } : Oper)) (v := ?_) rfl (by kernel_rfl) (by kernel_rfl) (by kernel_rfl) (fun _ _ _ h => h) (Or.inl ⟨by rfl, ?_⟩) hS ?_
  rotate_left
  · (intro w hSw; (try dsimp only at hSw); go_simp; try with_reducible rfl)
  (try simp only [Act.put, List.setIfInBounds_toArray, List.set_cons_zero, List.set_cons_succ])
  refine wpAnyH_take (i := 4) (oi := ({ dst := some 22, op := Op.load 3 (Operand.tmp 21), type := 3, pos := "law.go:20", after := #[{ on := 3, ground := Ground.data }], guard := none } : Oper)) (v := ?_) rfl (by kernel_rfl) (by kernel_rfl) (by kernel_rfl) (fun _ _ _ h => h) (Or.inl ⟨by rfl, ?_⟩) hS ?_
  rotate_left
  · (intro w hSw; (try dsimp only at hSw); have hc := hSw.q.d0; go_simp; try with_reducible rfl)
  (try simp only [Act.put, List.setIfInBounds_toArray, List.set_cons_zero, List.set_cons_succ])
  refine wpAnyH_take (i := 5) (oi := ({ dst := some 23, op := Op.move (Operand.tmp 2), type := 25, pos := "law.go:20", after := #[], guard := none } : Oper)) (v := ?_) rfl (by kernel_rfl) (by kernel_rfl) (by kernel_rfl) (fun _ _ _ h => h) (Or.inl ⟨by rfl, ?_⟩) hS ?_
  rotate_left
  · (intro w hSw; (try dsimp only at hSw); go_simp; try with_reducible rfl)
  (try simp only [Act.put, List.setIfInBounds_toArray, List.set_cons_zero, List.set_cons_succ])
  refine rg_one 6 ({ dst := some 24, op := Op.call { callee := Callee.value (Operand.func 7), args := #[Operand.tmp 20, Operand.tmp 22, Operand.tmp 23], argTypes := #[22, 3, 25] }, type := 27, pos := "law.go:20", after := #[{ on := 2, ground := Ground.data }, { on := 4, ground := Ground.data }, { on := 5, ground := Ground.data }], guard := none } : Oper) (by kernel_rfl) rfl (fun K hK => ?_)
  go_simp
  (go_at_call 7; (with_reducible refine (HS2.out _ _ hS.q.arg).mono ?_); rintro e w3 ⟨rfl, hb⟩)
  refine hK.out _ _ ?_ (fun hS1 => ?_)
  · (first | exact hS | exact QB.next hS hb)
  clear hK K hS; have hS := hS1; clear hS1
  (try simp only [Act.put, List.setIfInBounds_toArray, List.set_cons_zero, List.set_cons_succ])
  refine wpAnyH_take (i := 7) (oi := ({ dst := some 25, op := Op.binOp BinOp.neq 27 (Operand.tmp 18) (Operand.tmp 24) 27, type := 4, pos := "law.go:20", after := #[{ on := 0, ground := Ground.data }, { on := 6, ground := Ground.data }], guard := none } : Oper)) (v := ?_) rfl (by kernel_rfl) (by kernel_rfl) (by kernel_rfl) (fun _ _ _ h => h) (Or.inl ⟨by rfl, ?_⟩) hS ?_
  rotate_left
  · (intro w hSw; (try dsimp only at hSw); have hq := HEQ.out w; go_simp; try with_reducible rfl)
  (try simp only [Act.put, List.setIfInBounds_toArray, List.set_cons_zero, List.set_cons_succ])
  refine wpAnyH_done (by kernel_rfl) ?_ _
  have HQ3 := Lib.hid hS
  have f0 := HQ3.out.q.c0
  have f1 := HQ3.out.q.d0
  clear hS
  go_wp2_with (first
    | (refine wpl_load_sec (by rfl) _ rfl w1.heap.size rfl L (by first | exact HQ4.out.blk | exact HQ3.out.blk) ?_)
    | (go_at_call 8; (with_reducible refine (HO1.out _).mono ?_); rintro e w4 ⟨v4, rfl, hr, hb⟩; have HR4 := Lib.hid hr; have HQ4 := Lib.hid (HQ3.out.next hb); have g0 := HQ4.out.q.c1; have g1 := HQ4.out.q.d1; clear hb hr)
    | (go_at_call 8; (with_reducible refine (HO2.out _).mono ?_); rintro e w5 ⟨v5, rfl, hb⟩; have HQ5 := Lib.hid (QO.start (HQ4.out.next hb) (HR4.out.keep hb) HTX.out); clear hb))
  refine wp_region_held_drew (S := (fun w' => QO W x0 x0 i0 i1 (.slice a0 len c0') len zs w1.heap.size L v4 s w')) (by kernel_rfl) (HQ5.out.next ((Below.refl _ _).drew)) (fun hS => ?_)
  refine wpAnyH_take (i := 0) (oi := ({ dst := some 44, op := Op.move (Operand.tmp 9), type := 4, pos := "law.go:25", after := #[], guard := none } : Oper)) (v := ?_) rfl (by kernel_rfl) (by kernel_rfl) (by kernel_rfl) (fun _ _ _ h => h) (Or.inl ⟨by rfl, ?_⟩) hS ?_
  rotate_left
  · (intro w hSw; (try dsimp only at hSw); go_simp; try with_reducible rfl)
  (try simp only [Act.put, List.setIfInBounds_toArray, List.set_cons_zero, List.set_cons_succ])
  refine wpAnyH_take (i := 1) (oi := ({ dst := some 45, op := Op.move (Operand.tmp 44), type := 4, pos := "law.go:25", after := #[{ on := 0, ground := Ground.data }], guard := none } : Oper)) (v := ?_) rfl (by kernel_rfl) (by kernel_rfl) (by kernel_rfl) (fun _ _ _ h => h) (Or.inl ⟨by rfl, ?_⟩) hS ?_
  rotate_left
  · (intro w hSw; (try dsimp only at hSw); go_simp; try with_reducible rfl)
  (try simp only [Act.put, List.setIfInBounds_toArray, List.set_cons_zero, List.set_cons_succ])
  refine wpAnyH_take (i := 2) (oi := ({ dst := some 46, op := Op.move (Operand.tmp 8), type := 25, pos := "law.go:25", after := #[{ on := 1, ground := Ground.guard }], guard := some (1, true) } : Oper)) (v := ?_) rfl (by kernel_rfl) (by kernel_rfl) (by kernel_rfl) (fun _ _ _ h => h) (Or.inl ⟨by rfl, ?_⟩) hS ?_
  rotate_left
  · (intro w hSw; (try dsimp only at hSw); go_simp; try with_reducible rfl)
  (try simp only [Act.put, List.setIfInBounds_toArray, List.set_cons_zero, List.set_cons_succ])
  refine wpAnyH_take (i := 3) (oi := ({ dst := some 47, op := Op.convert 25 9 (Operand.tmp 46), type := 9, pos := "law.go:25", after := #[{ on := 2, ground := Ground.data }, { on := 1, ground := Ground.guard }], guard := some (1, true) } : Oper)) (v := ?_) rfl (by kernel_rfl) (by kernel_rfl) (by kernel_rfl) (fun _ _ _ h => h) (Or.inl ⟨by rfl, ?_⟩) hS ?_
  rotate_left
  · (intro w hSw; (try dsimp only at hSw); have hc := hSw.c; go_simp; try with_reducible rfl)
  (try simp only [Act.put, List.setIfInBounds_toArray, List.set_cons_zero, List.set_cons_succ])
  refine wpAnyH_take (i := 4) (oi := ({ dst := some 48, op := Op.load 27 (Operand.tmp 7), type := 27, pos := "law.go:25", after := #[{ on := 1, ground := Ground.guard }], guard := some (1, true) } : Oper)) (v := ?_) rfl (by kernel_rfl) (by kernel_rfl) (by kernel_rfl) (fun _ _ _ h => h) (Or.inl ⟨by rfl, ?_⟩) hS ?_
  rotate_left
  · (intro w hSw; (try dsimp only at hSw); refine exec_load_sec (.tmp 7) ?_ ?_ hSw.q.blk <;> rfl)
  (try simp only [Act.put, List.setIfInBounds_toArray, List.set_cons_zero, List.set_cons_succ])
  refine rg_one 5 ({ dst := some 49, op := Op.call { callee := Callee.value (Operand.func 9), args := #[Operand.tmp 48], argTypes := #[27] }, type := 25, pos := "law.go:25", after := #[{ on := 4, ground := Ground.data }, { on := 1, ground := Ground.chain }, { on := 1, ground := Ground.guard }], guard := some (1, true) } : Oper) (by kernel_rfl) rfl (fun K hK => ?_)
  go_simp
  (go_at_call 9; (with_reducible refine (room_text L HL.out s HTX.out _).mono ?_); rintro e w6 ⟨v6, rfl, hcv, hb⟩)
  refine hK.out _ _ ?_ (fun hS1 => ?_)
  · (first | exact hS | exact QO.next hS hb)
  clear hK K hS; have hS := hS1; clear hS1
  (try simp only [Act.put, List.setIfInBounds_toArray, List.set_cons_zero, List.set_cons_succ])
  refine rg_one 6 ({ dst := some 50, op := Op.convert 25 9 (Operand.tmp 49), type := 9, pos := "law.go:25", after := #[{ on := 5, ground := Ground.data }, { on := 1, ground := Ground.guard }], guard := some (1, true) } : Oper) (by kernel_rfl) rfl (fun K hK => ?_)
  go_simp
  refine hK.out _ _ ?_ (fun hS1 => ?_)
  · (first | exact hS | exact QO.next hS hb)
  clear hK K hS; have hS := hS1; clear hS1
  (try simp only [Act.put, List.setIfInBounds_toArray, List.set_cons_zero, List.set_cons_succ])
  refine wpAnyH_take (i := 7) (oi := ({ dst := some 51, op := Op.binOp BinOp.eql 9 (Operand.tmp 47) (Operand.tmp 50) 9, type := 4, pos := "law.go:25", after := #[{ on := 3, ground := Ground.data }, { on := 6, ground := Ground.data }, { on := 1, ground := Ground.guard }], guard := some (1, true) } : Oper)) (v := ?_) rfl (by kernel_rfl) (by kernel_rfl) (by kernel_rfl) (fun _ _ _ h => h) (Or.inl ⟨by rfl, ?_⟩) hS ?_
  rotate_left
  · (intro w hSw; (try dsimp only at hSw); go_simp; try with_reducible rfl)
  (try simp only [Act.put, List.setIfInBounds_toArray, List.set_cons_zero, List.set_cons_succ])
  refine wpAnyH_take (i := 8) (oi := ({ dst := some 52, op := Op.pick (Operand.tmp 45) (Operand.tmp 51) (Operand.const (Value.bool false)), type := 4, pos := "law.go:25", after := #[{ on := 1, ground := Ground.data }, { on := 7, ground := Ground.data }], guard := none } : Oper)) (v := ?_) rfl (by kernel_rfl) (by kernel_rfl) (by kernel_rfl) (fun _ _ _ h => h) (Or.inl ⟨by rfl, ?_⟩) hS ?_
  rotate_left
  · (intro w hSw; (try dsimp only at hSw); go_simp; try with_reducible rfl)
  (try simp only [Act.put, List.setIfInBounds_toArray, List.set_cons_zero, List.set_cons_succ])
  refine wpAnyH_take (i := 9) (oi := ({ dst := some 53, op := Op.move (Operand.tmp 52), type := 4, pos := "law.go:25", after := #[{ on := 8, ground := Ground.data }, { on := 5, ground := Ground.chain }], guard := none } : Oper)) (v := ?_) rfl (by kernel_rfl) (by kernel_rfl) (by kernel_rfl) (fun _ _ _ h => h) (Or.inl ⟨by rfl, ?_⟩) hS ?_
  rotate_left
  · (intro w hSw; (try dsimp only at hSw); go_simp; try with_reducible rfl)
  (try simp only [Act.put, List.setIfInBounds_toArray, List.set_cons_zero, List.set_cons_succ])
  refine wpAnyH_take (i := 10) (oi := ({ dst := some 54, op := Op.move (Operand.tmp 11), type := 4, pos := "law.go:25", after := #[{ on := 9, ground := Ground.guard }], guard := some (9, true) } : Oper)) (v := ?_) rfl (by kernel_rfl) (by kernel_rfl) (by kernel_rfl) (fun _ _ _ h => h) (Or.inl ⟨by rfl, ?_⟩) hS ?_
  rotate_left
  · (intro w hSw; (try dsimp only at hSw); go_simp; try with_reducible rfl)
  (try simp only [Act.put, List.setIfInBounds_toArray, List.set_cons_zero, List.set_cons_succ])
  refine wpAnyH_take (i := 11) (oi := ({ dst := some 55, op := Op.indexAddr 23 (Operand.tmp 3) (Operand.const (Value.int IntKind.i64 0)), type := 0, pos := "law.go:25", after := #[{ on := 9, ground := Ground.guard }], guard := some (9, true) } : Oper)) (v := ?_) rfl (by kernel_rfl) (by kernel_rfl) (by kernel_rfl) (fun _ _ _ h => h) (Or.inl ⟨by rfl, ?_⟩) hS ?_
  rotate_left
  · (intro w hSw; (try dsimp only at hSw); go_simp; try with_reducible rfl)
  (try simp only [Act.put, List.setIfInBounds_toArray, List.set_cons_zero, List.set_cons_succ])
  refine wpAnyH_take (i := 12) (oi := ({ dst := some 56, op := Op.load 22 (Operand.tmp 55), type := 22, pos := "law.go:25", after := #[{ on := 11, ground := Ground.data }, { on := 9, ground := Ground.guard }], guard := some (9, true) } : Oper)) (v := ?_) rfl (by kernel_rfl) (by kernel_rfl) (by kernel_rfl) (fun _ _ _ h => h) (Or.inl ⟨by rfl, ?_⟩) hS ?_
  rotate_left
  · (intro w hSw; (try dsimp only at hSw); have hc := hSw.q.q.c0; go_simp; try with_reducible rfl)
  (try simp only [Act.put, List.setIfInBounds_toArray, List.set_cons_zero, List.set_cons_succ])
  refine wpAnyH_take (i := 13) (oi := ({ dst := some 57, op := Op.indexAddr 23 (Operand.tmp 3) (Operand.const (Value.int IntKind.i64 1)), type := 0, pos := "law.go:25", after := #[{ on := 9, ground := Ground.guard }], guard := some (9, true) } : Oper)) (v := ?_) rfl (by kernel_rfl) (by kernel_rfl) (by kernel_rfl) (fun _ _ _ h => h) (Or.inl ⟨by rfl, ?_⟩) hS ?_
  rotate_left
  · (intro w hSw; (try dsimp only at hSw); go_simp; try with_reducible rfl)
  (try simp only [Act.put, List.setIfInBounds_toArray, List.set_cons_zero, List.set_cons_succ])
  refine wpAnyH_take (i := 14) (oi := ({ dst := some 58, op := Op.load 22 (Operand.tmp 57), type := 22, pos := "law.go:25", after := #[{ on := 13, ground := Ground.data }, { on := 9, ground := Ground.guard }], guard := some (9, true) } : Oper)) (v := ?_) rfl (by kernel_rfl) (by kernel_rfl) (by kernel_rfl) (fun _ _ _ h => h) (Or.inl ⟨by rfl, ?_⟩) hS ?_
  rotate_left
  · (intro w hSw; (try dsimp only at hSw); have hc := hSw.q.q.c1; go_simp; try with_reducible rfl)
  (try simp only [Act.put, List.setIfInBounds_toArray, List.set_cons_zero, List.set_cons_succ])
  refine wpAnyH_take (i := 15) (oi := ({ dst := some 59, op := Op.binOp BinOp.eql 22 (Operand.tmp 56) (Operand.tmp 58) 22, type := 4, pos := "law.go:25", after := #[{ on := 12, ground := Ground.data }, { on := 14, ground := Ground.data }, { on := 9, ground := Ground.guard }], guard := some (9, true) } : Oper)) (v := ?_) rfl (by kernel_rfl) (by kernel_rfl) (by kernel_rfl) (fun _ _ _ h => h) (Or.inl ⟨by rfl, ?_⟩) hS ?_
  rotate_left
  · (intro w hSw; (try dsimp only at hSw); go_simp; try with_reducible rfl)
  (try simp only [Act.put, List.setIfInBounds_toArray, List.set_cons_zero, List.set_cons_succ])
  refine wpAnyH_take (i := 16) (oi := ({ dst := some 60, op := Op.move (Operand.tmp 59), type := 4, pos := "law.go:25", after := #[{ on := 15, ground := Ground.data }, { on := 9, ground := Ground.chain }, { on := 9, ground := Ground.guard }], guard := some (9, true) } : Oper)) (v := ?_) rfl (by kernel_rfl) (by kernel_rfl) (by kernel_rfl) (fun _ _ _ h => h) (Or.inl ⟨by rfl, ?_⟩) hS ?_
  rotate_left
  · (intro w hSw; (try dsimp only at hSw); go_simp; try with_reducible rfl)
  (try simp only [Act.put, List.setIfInBounds_toArray, List.set_cons_zero, List.set_cons_succ])
  refine wpAnyH_take (i := 17) (oi := ({ dst := some 61, op := Op.indexAddr 24 (Operand.tmp 4) (Operand.const (Value.int IntKind.i64 0)), type := 0, pos := "law.go:25", after := #[{ on := 16, ground := Ground.guard }], guard := some (16, true) } : Oper)) (v := ?_) rfl (by kernel_rfl) (by kernel_rfl) (by kernel_rfl) (fun _ _ _ h => h) (Or.inl ⟨by rfl, ?_⟩) hS ?_
  rotate_left
  · (intro w hSw; (try dsimp only at hSw); go_simp; try with_reducible rfl)
  (try simp only [Act.put, List.setIfInBounds_toArray, List.set_cons_zero, List.set_cons_succ])
  refine wpAnyH_take (i := 18) (oi := ({ dst := some 62, op := Op.load 3 (Operand.tmp 61), type := 3, pos := "law.go:25", after := #[{ on := 17, ground := Ground.data }, { on := 16, ground := Ground.guard }], guard := some (16, true) } : Oper)) (v := ?_) rfl (by kernel_rfl) (by kernel_rfl) (by kernel_rfl) (fun _ _ _ h => h) (Or.inl ⟨by rfl, ?_⟩) hS ?_
  rotate_left
  · (intro w hSw; (try dsimp only at hSw); have hc := hSw.q.q.d0; go_simp; try with_reducible rfl)
  (try simp only [Act.put, List.setIfInBounds_toArray, List.set_cons_zero, List.set_cons_succ])
  refine wpAnyH_take (i := 19) (oi := ({ dst := some 63, op := Op.convert 3 32 (Operand.tmp 62), type := 32, pos := "law.go:25", after := #[{ on := 18, ground := Ground.data }, { on := 16, ground := Ground.guard }], guard := some (16, true) } : Oper)) (v := ?_) rfl (by kernel_rfl) (by kernel_rfl) (by kernel_rfl) (fun _ _ _ h => h) (Or.inl ⟨by rfl, ?_⟩) hS ?_
  rotate_left
  · (intro w hSw; (try dsimp only at hSw); go_simp; try with_reducible rfl)
  (try simp only [Act.put, List.setIfInBounds_toArray, List.set_cons_zero, List.set_cons_succ])
  refine wpAnyH_take (i := 20) (oi := ({ dst := some 64, op := Op.indexAddr 24 (Operand.tmp 4) (Operand.const (Value.int IntKind.i64 1)), type := 0, pos := "law.go:25", after := #[{ on := 16, ground := Ground.guard }], guard := some (16, true) } : Oper)) (v := ?_) rfl (by kernel_rfl) (by kernel_rfl) (by kernel_rfl) (fun _ _ _ h => h) (Or.inl ⟨by rfl, ?_⟩) hS ?_
  rotate_left
  · (intro w hSw; (try dsimp only at hSw); go_simp; try with_reducible rfl)
  (try simp only [Act.put, List.setIfInBounds_toArray, List.set_cons_zero, List.set_cons_succ])
  refine wpAnyH_take (i := 21) (oi := ({ dst := some 65, op := Op.load 3 (Operand.tmp 64), type := 3, pos := "law.go:25", after := #[{ on := 20, ground := Ground.data }, { on := 16, ground := Ground.guard }], guard := some (16, true) } : Oper)) (v := ?_) rfl (by kernel_rfl) (by kernel_rfl) (by kernel_rfl) (fun _ _ _ h => h) (Or.inl ⟨by rfl, ?_⟩) hS ?_
  rotate_left
  · (intro w hSw; (try dsimp only at hSw); have hc := hSw.q.q.d1; go_simp; try with_reducible rfl)
  (try simp only [Act.put, List.setIfInBounds_toArray, List.set_cons_zero, List.set_cons_succ])
  refine wpAnyH_take (i := 22) (oi := ({ dst := some 66, op := Op.convert 3 32 (Operand.tmp 65), type := 32, pos := "law.go:25", after := #[{ on := 21, ground := Ground.data }, { on := 16, ground := Ground.guard }], guard := some (16, true) } : Oper)) (v := ?_) rfl (by kernel_rfl) (by kernel_rfl) (by kernel_rfl) (fun _ _ _ h => h) (Or.inl ⟨by rfl, ?_⟩) hS ?_
  rotate_left
  · (intro w hSw; (try dsimp only at hSw); go_simp; try with_reducible rfl)
  (try simp only [Act.put, List.setIfInBounds_toArray, List.set_cons_zero, List.set_cons_succ])
  refine wpAnyH_take (i := 23) (oi := ({ dst := some 67, op := Op.binOp BinOp.eql 32 (Operand.tmp 63) (Operand.tmp 66) 32, type := 4, pos := "law.go:25", after := #[{ on := 19, ground := Ground.data }, { on := 22, ground := Ground.data }, { on := 16, ground := Ground.guard }], guard := some (16, true) } : Oper)) (v := ?_) rfl (by kernel_rfl) (by kernel_rfl) (by kernel_rfl) (fun _ _ _ h => h) (Or.inl ⟨by rfl, ?_⟩) hS ?_
  rotate_left
  · (intro w hSw; (try dsimp only at hSw); go_simp; try with_reducible rfl)
  (try simp only [Act.put, List.setIfInBounds_toArray, List.set_cons_zero, List.set_cons_succ])
  refine wpAnyH_take (i := 24) (oi := ({ dst := some 68, op := Op.pick (Operand.tmp 60) (Operand.tmp 67) (Operand.const (Value.bool false)), type := 4, pos := "law.go:25", after := #[{ on := 16, ground := Ground.data }, { on := 23, ground := Ground.data }, { on := 9, ground := Ground.guard }], guard := some (9, true) } : Oper)) (v := ?_) rfl (by kernel_rfl) (by kernel_rfl) (by kernel_rfl) (fun _ _ _ h => h) (Or.inl ⟨by rfl, ?_⟩) hS ?_
  rotate_left
  · (intro w hSw; (try dsimp only at hSw); go_simp; try with_reducible rfl)
  (try simp only [Act.put, List.setIfInBounds_toArray, List.set_cons_zero, List.set_cons_succ])
  refine wpAnyH_take (i := 25) (oi := ({ dst := some 69, op := Op.binOp BinOp.eql 4 (Operand.tmp 54) (Operand.tmp 68) 4, type := 4, pos := "law.go:25", after := #[{ on := 10, ground := Ground.data }, { on := 24, ground := Ground.data }, { on := 9, ground := Ground.guard }], guard := some (9, true) } : Oper)) (v := ?_) rfl (by kernel_rfl) (by kernel_rfl) (by kernel_rfl) (fun _ _ _ h => h) (Or.inl ⟨by rfl, ?_⟩) hS ?_
  rotate_left
  · (intro w hSw; (try dsimp only at hSw); go_simp; try with_reducible rfl)
  (try simp only [Act.put, List.setIfInBounds_toArray, List.set_cons_zero, List.set_cons_succ])
  refine wpAnyH_take (i := 26) (oi := ({ dst := some 70, op := Op.pick (Operand.tmp 53) (Operand.tmp 69) (Operand.const (Value.bool false)), type := 4, pos := "law.go:25", after := #[{ on := 9, ground := Ground.data }, { on := 25, ground := Ground.data }], guard := none } : Oper)) (v := ?_) rfl (by kernel_rfl) (by kernel_rfl) (by kernel_rfl) (fun _ _ _ h => h) (Or.inl ⟨by rfl, ?_⟩) hS ?_
  rotate_left
  · (intro w hSw; (try dsimp only at hSw); go_simp; try with_reducible rfl)
  (try simp only [Act.put, List.setIfInBounds_toArray, List.set_cons_zero, List.set_cons_succ])
  refine wpAnyH_take (i := 27) (oi := ({ dst := some 71, op := Op.move (Operand.tmp 70), type := 4, pos := "law.go:25", after := #[{ on := 26, ground := Ground.data }, { on := 16, ground := Ground.chain }], guard := none } : Oper)) (v := ?_) rfl (by kernel_rfl) (by kernel_rfl) (by kernel_rfl) (fun _ _ _ h => h) (Or.inl ⟨by rfl, ?_⟩) hS ?_
  rotate_left
  · (intro w hSw; (try dsimp only at hSw); go_simp; try with_reducible rfl)
  (try simp only [Act.put, List.setIfInBounds_toArray, List.set_cons_zero, List.set_cons_succ])
  refine rg_one 28 ({ dst := some 72, op := Op.call { callee := Callee.value (Operand.func 10), args := #[], argTypes := #[] }, type := 4, pos := "law.go:25", after := #[{ on := 27, ground := Ground.chain }, { on := 27, ground := Ground.guard }], guard := some (27, true) } : Oper) (by kernel_rfl) rfl (fun K hK => ?_)
  go_simp
  (go_at_call 10; (with_reducible refine (awake_any _).mono ?_); rintro e w7 ⟨rfl, hb⟩)
  refine hK.out _ _ ?_ (fun hS1 => ?_)
  · (first | exact hS | exact QO.next hS hb)
  clear hK K hS; have hS := hS1; clear hS1
  (try simp only [Act.put, List.setIfInBounds_toArray, List.set_cons_zero, List.set_cons_succ])
  refine wpAnyH_take (i := 29) (oi := ({ dst := some 73, op := Op.pick (Operand.tmp 71) (Operand.tmp 72) (Operand.const (Value.bool false)), type := 4, pos := "law.go:25", after := #[{ on := 27, ground := Ground.data }, { on := 28, ground := Ground.data }], guard := none } : Oper)) (v := ?_) rfl (by kernel_rfl) (by kernel_rfl) (by kernel_rfl) (fun _ _ _ h => h) (Or.inl ⟨by rfl, ?_⟩) hS ?_
  rotate_left
  · (intro w hSw; (try dsimp only at hSw); go_simp; try with_reducible rfl)
  (try simp only [Act.put, List.setIfInBounds_toArray, List.set_cons_zero, List.set_cons_succ])
  refine wpAnyH_take (i := 30) (oi := ({ dst := some 6, op := Op.assign (Operand.tmp 73), type := 4, pos := "law.go:25", after := #[{ on := 29, ground := Ground.data }, { on := 28, ground := Ground.chain }, { on := 0, ground := Ground.phase }, { on := 1, ground := Ground.phase }, { on := 2, ground := Ground.phase }, { on := 3, ground := Ground.phase }, { on := 4, ground := Ground.phase }, { on := 5, ground := Ground.phase }, { on := 6, ground := Ground.phase }, { on := 7, ground := Ground.phase }, { on := 8, ground := Ground.phase }, { on := 9, ground := Ground.phase }, { on := 10, ground := Ground.phase }, { on := 11, ground := Ground.phase }, { on := 12, ground := Ground.phase }, { on := 13, ground := Ground.phase }, { on := 14, ground := Ground.phase }, { on := 15, ground := Ground.phase }, { on := 16, ground := Ground.phase }, { on := 17, ground := Ground.phase }, { on := 18, ground := Ground.phase }, { on := 19, ground := Ground.phase }, { on := 20, ground := Ground.phase }, { on := 21, ground := Ground.phase }, { on := 22, ground := Ground.phase }, { on := 23, ground := Ground.phase }, { on := 24, ground := Ground.phase }, { on := 25, ground := Ground.phase }, { on := 26, ground := Ground.phase }, { on := 27, ground := Ground.phase }, { on := 28, ground := Ground.phase }, { on := 29, ground := Ground.phase }], guard := none } : Oper)) (v := ?_) rfl (by kernel_rfl) (by kernel_rfl) (by kernel_rfl) (fun _ _ _ h => h) (Or.inl ⟨by rfl, ?_⟩) hS ?_
  rotate_left
  · (intro w hSw; (try dsimp only at hSw); go_simp; try with_reducible rfl)
  (try simp only [Act.put, List.setIfInBounds_toArray, List.set_cons_zero, List.set_cons_succ])
  refine wpAnyH_done (by kernel_rfl) ?_ _
  have HQ8 := Lib.hid hS
  go_wp2
  go_ret
  exact ⟨rfl, HQ8.out.q.q.below⟩
set_option maxRecDepth 8000 in
set_option maxHeartbeats 2000000 in
theorem seals_other (x0 x1 i0 i1 : Int) (hx0 : U64 x0) (hx1 : U64 x1) (hi0 : I63 i0) (hi1 : I63 i1) (rm : Value) (len : Nat) (zs : List Int) (W : World) (hri : RI .u8 W rm len zs) (hzb : Bytes zs) (hxx : ¬ x0 = x1) (y : Bool) (hyf : y = false) (hy : decide (x0 = x1 ∧ i0 % 4294967296 = i1 % 4294967296) = y) :
    Calls Try.prog 3 #[.agg #[.int .u64 x0, .int .u64 x1], .agg #[.int .i64 i0, .int .i64 i1], rm] W fun e w' => e = .returned (.bool true) ∧ Below W.heap.size W w' := by
  have hne : (x0 == x1) = false := by simpa using hxx
  obtain ⟨L, hL⟩ : ∃ L, sealed x0 i0 zs = L := ⟨_, rfl⟩
  have hl : L.length = 64 := by rw [← hL]; exact sealed_length _ _ _
  have hbl : Bytes L := by rw [← hL]; exact sealed_bytes _ _ _ hzb
  have hy1 : decide (sealed x0 i0 (L.drop 12) = L) = true := decide_eq_true (by rw [← hL]; exact sealed_own _ _ _)
  have hy2 : decide (sealed x1 i1 (L.drop 12) = L) = y := by
    rw [← hL, show decide (sealed x1 i1 ((sealed x0 i0 zs).drop 12) = sealed x0 i0 zs) = decide (x0 = x1 ∧ i0 % 4294967296 = i1 % 4294967296) from by rw [decide_eq_decide]; exact sealed_eq x0 x1 i0 i1 hx0 hx1 zs]
    exact hy
  have HS1 : Hid (∀ (v : Value) (w : World), RI .u8 w v len zs → Calls Try.prog 6 #[.int .u64 x0, .int .i64 i0, v] w fun e w' => e = .returned (.agg (sv L)) ∧ Below w.heap.size w w') := fun v w h => by
    rw [← hL]; exact seal_any x0 i0 hx0 hi0 v len zs w h
  have HS2 : Hid (∀ (v : Value) (w : World), RI .u8 w v len zs → Calls Try.prog 7 #[.int .u64 x0, .int .i64 i0, v] w fun e w' => e = .returned (.agg (sv L)) ∧ Below w.heap.size w w') := fun v w h => by
    rw [← hL]; exact rseal_any x0 i0 hx0 hi0 v len zs w h
  have HO1 : Hid (∀ w : World, Calls Try.prog 8 #[.agg (sv L), .int .u64 x0, .int .i64 i0] w fun e w' => ∃ v, e = .returned (.tuple #[v, .bool true]) ∧ RI .u8 w' v 52 (L.drop 12) ∧ Below w.heap.size w w') := fun w => open_any L hl hbl x0 i0 hx0 hi0 w true hy1
  have HO2 : Hid (∀ w : World, Calls Try.prog 8 #[.agg (sv L), .int .u64 x1, .int .i64 i1] w fun e w' => ∃ v, e = .returned (.tuple #[v, .bool y]) ∧ Below w.heap.size w w') := fun w => (open_any L hl hbl x1 i1 hx1 hi1 w y hy2).mono fun _ _ ⟨v, he, _, hb⟩ => ⟨v, he, hb⟩
  have HEQ := Lib.hid (run_eq_sec L L hl hl)
  rw [decide_eq_true rfl] at HEQ
  obtain ⟨s, hs⟩ : ∃ s, s = strOfNums (L.drop 12) := ⟨_, rfl⟩
  have HTX := Lib.hid hs
  have HL := Lib.hid hl
  have HZ := Lib.hid z64_cells
  have HQ0 := Lib.hid (QS.start W x0 x1 i0 i1 rm len zs hri 23 24)
  obtain ⟨a0, c0', e0⟩ : ∃ a c, rm = .slice a len c := by obtain ⟨a, c, e, _⟩ := hri; exact ⟨a, c, e⟩
  subst e0
  clear hL hl hbl hzb hy1 hy2 hs hri hy
  go_enter Try.func3, Try.ntmps3
  go_wp2_with (first
    | (go_at_call 6; (refine (HS1.out _ _ HQ0.out.arg).mono ?_); rintro e w1 ⟨rfl, hb⟩; have HQ1 := Lib.hid (HQ0.out.next hb); have HB1 := Lib.hid HQ1.out.below; clear hb)
    | (rw [← HZ.out]; refine wpl_store_new rfl _ _ rfl rfl w1.heap.size rfl L HL.out rfl rfl W HB1 ?_; intro w2 HK2 _ HW2; have HQ2 := Lib.hid (QB.mk (HQ1.out.next HW2.out) HK2.out); clear HW2 HK2))
  refine wp_region_held_drew (S := (fun w' => QB W x0 x1 i0 i1 (.slice a0 len c0') len zs w1.heap.size L w')) (by kernel_rfl) (HQ2.out.next ((Below.refl _ _).drew)) (fun hS => ?_)
  refine wpAnyH_take (i := 0) (oi := ({ dst := some 18, op := Op.load 27 (Operand.tmp 7), type := 27, pos := "law.go:20", after := #[], guard := none } : Oper)) (v := ?_) rfl (by kernel_rfl) (by kernel_rfl) (by kernel_rfl) (fun _ _ _ h => h) (Or.inl ⟨by rfl, ?_⟩) hS ?_
  rotate_left
  · (intro w hSw; (try dsimp only at hSw); refine exec_load_sec (.tmp 7) ?_ ?_ hSw.blk <;> rfl)
  (try simp only [Act.put, List.setIfInBounds_toArray, List.set_cons_zero, List.set_cons_succ])
  refine wpAnyH_take (i := 1) (oi := ({ dst := some 19, op := Op.indexAddr 23 (Operand.tmp 3) (Operand.const (Value.int IntKind.i64 0)), type := 0, pos := "law.go:20", after := #[], guard := none } : Oper)) (v := ?_) rfl (by kernel_rfl) (by kernel_rfl) (by kernel_rfl) (fun _ _ _ h => h) (Or.inl ⟨by rfl, ?_⟩) hS ?_
  rotate_left
  · (intro w hSw; (try dsimp only at hSw); go_simp; try with_reducible rfl)
  (try simp only [Act.put, List.setIfInBounds_toArray, List.set_cons_zero, List.set_cons_succ])
  refine wpAnyH_take (i := 2) (oi := ({ dst := some 20, op := Op.load 22 (Operand.tmp 19), type := 22, pos := "law.go:20", after := #[{ on := 1, ground := Ground.data }], guard := none } : Oper)) (v := ?_) rfl (by kernel_rfl) (by kernel_rfl) (by kernel_rfl) (fun _ _ _ h => h) (Or.inl ⟨by rfl, ?_⟩) hS ?_
  rotate_left
  · (intro w hSw; (try dsimp only at hSw); have hc := hSw.q.c0; go_simp; try with_reducible rfl)
  (try simp only [Act.put, List.setIfInBounds_toArray, List.set_cons_zero, List.set_cons_succ])
  refine wpAnyH_take (i := 3) (oi := ({ dst := some 21, op := Op.indexAddr 24 (Operand.tmp 4) (Operand.const (Value.int IntKind.i64 0)), type := 0, pos := "law.go:20", after := #[], guard := none } : Oper)) (v := ?_) rfl (by kernel_rfl) (by kernel_rfl) (by kernel_rfl) (fun _ _ _ h => h) (Or.inl ⟨by rfl, ?_⟩) hS ?_
  rotate_left
  · (intro w hSw; (try dsimp only at hSw); go_simp; try with_reducible rfl)
  (try simp only [Act.put, List.setIfInBounds_toArray, List.set_cons_zero, List.set_cons_succ])
  refine wpAnyH_take (i := 4) (oi := ({ dst := some 22, op := Op.load 3 (Operand.tmp 21), type := 3, pos := "law.go:20", after := #[{ on := 3, ground := Ground.data }], guard := none } : Oper)) (v := ?_) rfl (by kernel_rfl) (by kernel_rfl) (by kernel_rfl) (fun _ _ _ h => h) (Or.inl ⟨by rfl, ?_⟩) hS ?_
  rotate_left
  · (intro w hSw; (try dsimp only at hSw); have hc := hSw.q.d0; go_simp; try with_reducible rfl)
  (try simp only [Act.put, List.setIfInBounds_toArray, List.set_cons_zero, List.set_cons_succ])
  refine wpAnyH_take (i := 5) (oi := ({ dst := some 23, op := Op.move (Operand.tmp 2), type := 25, pos := "law.go:20", after := #[], guard := none } : Oper)) (v := ?_) rfl (by kernel_rfl) (by kernel_rfl) (by kernel_rfl) (fun _ _ _ h => h) (Or.inl ⟨by rfl, ?_⟩) hS ?_
  rotate_left
  · (intro w hSw; (try dsimp only at hSw); go_simp; try with_reducible rfl)
  (try simp only [Act.put, List.setIfInBounds_toArray, List.set_cons_zero, List.set_cons_succ])
  refine rg_one 6 ({ dst := some 24, op := Op.call { callee := Callee.value (Operand.func 7), args := #[Operand.tmp 20, Operand.tmp 22, Operand.tmp 23], argTypes := #[22, 3, 25] }, type := 27, pos := "law.go:20", after := #[{ on := 2, ground := Ground.data }, { on := 4, ground := Ground.data }, { on := 5, ground := Ground.data }], guard := none } : Oper) (by kernel_rfl) rfl (fun K hK => ?_)
  go_simp
  (go_at_call 7; (with_reducible refine (HS2.out _ _ hS.q.arg).mono ?_); rintro e w3 ⟨rfl, hb⟩)
  refine hK.out _ _ ?_ (fun hS1 => ?_)
  · (first | exact hS | exact QB.next hS hb)
  clear hK K hS; have hS := hS1; clear hS1
  (try simp only [Act.put, List.setIfInBounds_toArray, List.set_cons_zero, List.set_cons_succ])
  refine wpAnyH_take (i := 7) (oi := ({ dst := some 25, op := Op.binOp BinOp.neq 27 (Operand.tmp 18) (Operand.tmp 24) 27, type := 4, pos := "law.go:20", after := #[{ on := 0, ground := Ground.data }, { on := 6, ground := Ground.data }], guard := none } : Oper)) (v := ?_) rfl (by kernel_rfl) (by kernel_rfl) (by kernel_rfl) (fun _ _ _ h => h) (Or.inl ⟨by rfl, ?_⟩) hS ?_
  rotate_left
  · (intro w hSw; (try dsimp only at hSw); have hq := HEQ.out w; go_simp; try with_reducible rfl)
  (try simp only [Act.put, List.setIfInBounds_toArray, List.set_cons_zero, List.set_cons_succ])
  refine wpAnyH_done (by kernel_rfl) ?_ _
  have HQ3 := Lib.hid hS
  have f0 := HQ3.out.q.c0
  have f1 := HQ3.out.q.d0
  clear hS
  go_wp2_with (first
    | (refine wpl_load_sec (by rfl) _ rfl w1.heap.size rfl L (by first | exact HQ4.out.blk | exact HQ3.out.blk) ?_)
    | (go_at_call 8; (with_reducible refine (HO1.out _).mono ?_); rintro e w4 ⟨v4, rfl, hr, hb⟩; have HR4 := Lib.hid hr; have HQ4 := Lib.hid (HQ3.out.next hb); have g0 := HQ4.out.q.c1; have g1 := HQ4.out.q.d1; clear hb hr)
    | (go_at_call 8; (with_reducible refine (HO2.out _).mono ?_); rintro e w5 ⟨v5, rfl, hb⟩; have HQ5 := Lib.hid (QO.start (HQ4.out.next hb) (HR4.out.keep hb) HTX.out); clear hb))
  refine wp_region_held_drew (S := (fun w' => QO W x0 x1 i0 i1 (.slice a0 len c0') len zs w1.heap.size L v4 s w')) (by kernel_rfl) (HQ5.out.next ((Below.refl _ _).drew)) (fun hS => ?_)
  refine wpAnyH_take (i := 0) (oi := ({ dst := some 44, op := Op.move (Operand.tmp 9), type := 4, pos := "law.go:25", after := #[], guard := none } : Oper)) (v := ?_) rfl (by kernel_rfl) (by kernel_rfl) (by kernel_rfl) (fun _ _ _ h => h) (Or.inl ⟨by rfl, ?_⟩) hS ?_
  rotate_left
  · (intro w hSw; (try dsimp only at hSw); go_simp; try with_reducible rfl)
  (try simp only [Act.put, List.setIfInBounds_toArray, List.set_cons_zero, List.set_cons_succ])
  refine wpAnyH_take (i := 1) (oi := ({ dst := some 45, op := Op.move (Operand.tmp 44), type := 4, pos := "law.go:25", after := #[{ on := 0, ground := Ground.data }], guard := none } : Oper)) (v := ?_) rfl (by kernel_rfl) (by kernel_rfl) (by kernel_rfl) (fun _ _ _ h => h) (Or.inl ⟨by rfl, ?_⟩) hS ?_
  rotate_left
  · (intro w hSw; (try dsimp only at hSw); go_simp; try with_reducible rfl)
  (try simp only [Act.put, List.setIfInBounds_toArray, List.set_cons_zero, List.set_cons_succ])
  refine wpAnyH_take (i := 2) (oi := ({ dst := some 46, op := Op.move (Operand.tmp 8), type := 25, pos := "law.go:25", after := #[{ on := 1, ground := Ground.guard }], guard := some (1, true) } : Oper)) (v := ?_) rfl (by kernel_rfl) (by kernel_rfl) (by kernel_rfl) (fun _ _ _ h => h) (Or.inl ⟨by rfl, ?_⟩) hS ?_
  rotate_left
  · (intro w hSw; (try dsimp only at hSw); go_simp; try with_reducible rfl)
  (try simp only [Act.put, List.setIfInBounds_toArray, List.set_cons_zero, List.set_cons_succ])
  refine wpAnyH_take (i := 3) (oi := ({ dst := some 47, op := Op.convert 25 9 (Operand.tmp 46), type := 9, pos := "law.go:25", after := #[{ on := 2, ground := Ground.data }, { on := 1, ground := Ground.guard }], guard := some (1, true) } : Oper)) (v := ?_) rfl (by kernel_rfl) (by kernel_rfl) (by kernel_rfl) (fun _ _ _ h => h) (Or.inl ⟨by rfl, ?_⟩) hS ?_
  rotate_left
  · (intro w hSw; (try dsimp only at hSw); have hc := hSw.c; go_simp; try with_reducible rfl)
  (try simp only [Act.put, List.setIfInBounds_toArray, List.set_cons_zero, List.set_cons_succ])
  refine wpAnyH_take (i := 4) (oi := ({ dst := some 48, op := Op.load 27 (Operand.tmp 7), type := 27, pos := "law.go:25", after := #[{ on := 1, ground := Ground.guard }], guard := some (1, true) } : Oper)) (v := ?_) rfl (by kernel_rfl) (by kernel_rfl) (by kernel_rfl) (fun _ _ _ h => h) (Or.inl ⟨by rfl, ?_⟩) hS ?_
  rotate_left
  · (intro w hSw; (try dsimp only at hSw); refine exec_load_sec (.tmp 7) ?_ ?_ hSw.q.blk <;> rfl)
  (try simp only [Act.put, List.setIfInBounds_toArray, List.set_cons_zero, List.set_cons_succ])
  refine rg_one 5 ({ dst := some 49, op := Op.call { callee := Callee.value (Operand.func 9), args := #[Operand.tmp 48], argTypes := #[27] }, type := 25, pos := "law.go:25", after := #[{ on := 4, ground := Ground.data }, { on := 1, ground := Ground.chain }, { on := 1, ground := Ground.guard }], guard := some (1, true) } : Oper) (by kernel_rfl) rfl (fun K hK => ?_)
  go_simp
  (go_at_call 9; (with_reducible refine (room_text L HL.out s HTX.out _).mono ?_); rintro e w6 ⟨v6, rfl, hcv, hb⟩)
  refine hK.out _ _ ?_ (fun hS1 => ?_)
  · (first | exact hS | exact QO.next hS hb)
  clear hK K hS; have hS := hS1; clear hS1
  (try simp only [Act.put, List.setIfInBounds_toArray, List.set_cons_zero, List.set_cons_succ])
  refine rg_one 6 ({ dst := some 50, op := Op.convert 25 9 (Operand.tmp 49), type := 9, pos := "law.go:25", after := #[{ on := 5, ground := Ground.data }, { on := 1, ground := Ground.guard }], guard := some (1, true) } : Oper) (by kernel_rfl) rfl (fun K hK => ?_)
  go_simp
  refine hK.out _ _ ?_ (fun hS1 => ?_)
  · (first | exact hS | exact QO.next hS hb)
  clear hK K hS; have hS := hS1; clear hS1
  (try simp only [Act.put, List.setIfInBounds_toArray, List.set_cons_zero, List.set_cons_succ])
  refine wpAnyH_take (i := 7) (oi := ({ dst := some 51, op := Op.binOp BinOp.eql 9 (Operand.tmp 47) (Operand.tmp 50) 9, type := 4, pos := "law.go:25", after := #[{ on := 3, ground := Ground.data }, { on := 6, ground := Ground.data }, { on := 1, ground := Ground.guard }], guard := some (1, true) } : Oper)) (v := ?_) rfl (by kernel_rfl) (by kernel_rfl) (by kernel_rfl) (fun _ _ _ h => h) (Or.inl ⟨by rfl, ?_⟩) hS ?_
  rotate_left
  · (intro w hSw; (try dsimp only at hSw); go_simp; try with_reducible rfl)
  (try simp only [Act.put, List.setIfInBounds_toArray, List.set_cons_zero, List.set_cons_succ])
  refine wpAnyH_take (i := 8) (oi := ({ dst := some 52, op := Op.pick (Operand.tmp 45) (Operand.tmp 51) (Operand.const (Value.bool false)), type := 4, pos := "law.go:25", after := #[{ on := 1, ground := Ground.data }, { on := 7, ground := Ground.data }], guard := none } : Oper)) (v := ?_) rfl (by kernel_rfl) (by kernel_rfl) (by kernel_rfl) (fun _ _ _ h => h) (Or.inl ⟨by rfl, ?_⟩) hS ?_
  rotate_left
  · (intro w hSw; (try dsimp only at hSw); go_simp; try with_reducible rfl)
  (try simp only [Act.put, List.setIfInBounds_toArray, List.set_cons_zero, List.set_cons_succ])
  refine wpAnyH_take (i := 9) (oi := ({ dst := some 53, op := Op.move (Operand.tmp 52), type := 4, pos := "law.go:25", after := #[{ on := 8, ground := Ground.data }, { on := 5, ground := Ground.chain }], guard := none } : Oper)) (v := ?_) rfl (by kernel_rfl) (by kernel_rfl) (by kernel_rfl) (fun _ _ _ h => h) (Or.inl ⟨by rfl, ?_⟩) hS ?_
  rotate_left
  · (intro w hSw; (try dsimp only at hSw); go_simp; try with_reducible rfl)
  (try simp only [Act.put, List.setIfInBounds_toArray, List.set_cons_zero, List.set_cons_succ])
  refine wpAnyH_take (i := 10) (oi := ({ dst := some 54, op := Op.move (Operand.tmp 11), type := 4, pos := "law.go:25", after := #[{ on := 9, ground := Ground.guard }], guard := some (9, true) } : Oper)) (v := ?_) rfl (by kernel_rfl) (by kernel_rfl) (by kernel_rfl) (fun _ _ _ h => h) (Or.inl ⟨by rfl, ?_⟩) hS ?_
  rotate_left
  · (intro w hSw; (try dsimp only at hSw); go_simp; try with_reducible rfl)
  (try simp only [Act.put, List.setIfInBounds_toArray, List.set_cons_zero, List.set_cons_succ])
  refine wpAnyH_take (i := 11) (oi := ({ dst := some 55, op := Op.indexAddr 23 (Operand.tmp 3) (Operand.const (Value.int IntKind.i64 0)), type := 0, pos := "law.go:25", after := #[{ on := 9, ground := Ground.guard }], guard := some (9, true) } : Oper)) (v := ?_) rfl (by kernel_rfl) (by kernel_rfl) (by kernel_rfl) (fun _ _ _ h => h) (Or.inl ⟨by rfl, ?_⟩) hS ?_
  rotate_left
  · (intro w hSw; (try dsimp only at hSw); go_simp; try with_reducible rfl)
  (try simp only [Act.put, List.setIfInBounds_toArray, List.set_cons_zero, List.set_cons_succ])
  refine wpAnyH_take (i := 12) (oi := ({ dst := some 56, op := Op.load 22 (Operand.tmp 55), type := 22, pos := "law.go:25", after := #[{ on := 11, ground := Ground.data }, { on := 9, ground := Ground.guard }], guard := some (9, true) } : Oper)) (v := ?_) rfl (by kernel_rfl) (by kernel_rfl) (by kernel_rfl) (fun _ _ _ h => h) (Or.inl ⟨by rfl, ?_⟩) hS ?_
  rotate_left
  · (intro w hSw; (try dsimp only at hSw); have hc := hSw.q.q.c0; go_simp; try with_reducible rfl)
  (try simp only [Act.put, List.setIfInBounds_toArray, List.set_cons_zero, List.set_cons_succ])
  refine wpAnyH_take (i := 13) (oi := ({ dst := some 57, op := Op.indexAddr 23 (Operand.tmp 3) (Operand.const (Value.int IntKind.i64 1)), type := 0, pos := "law.go:25", after := #[{ on := 9, ground := Ground.guard }], guard := some (9, true) } : Oper)) (v := ?_) rfl (by kernel_rfl) (by kernel_rfl) (by kernel_rfl) (fun _ _ _ h => h) (Or.inl ⟨by rfl, ?_⟩) hS ?_
  rotate_left
  · (intro w hSw; (try dsimp only at hSw); go_simp; try with_reducible rfl)
  (try simp only [Act.put, List.setIfInBounds_toArray, List.set_cons_zero, List.set_cons_succ])
  refine wpAnyH_take (i := 14) (oi := ({ dst := some 58, op := Op.load 22 (Operand.tmp 57), type := 22, pos := "law.go:25", after := #[{ on := 13, ground := Ground.data }, { on := 9, ground := Ground.guard }], guard := some (9, true) } : Oper)) (v := ?_) rfl (by kernel_rfl) (by kernel_rfl) (by kernel_rfl) (fun _ _ _ h => h) (Or.inl ⟨by rfl, ?_⟩) hS ?_
  rotate_left
  · (intro w hSw; (try dsimp only at hSw); have hc := hSw.q.q.c1; go_simp; try with_reducible rfl)
  (try simp only [Act.put, List.setIfInBounds_toArray, List.set_cons_zero, List.set_cons_succ])
  refine wpAnyH_take (i := 15) (oi := ({ dst := some 59, op := Op.binOp BinOp.eql 22 (Operand.tmp 56) (Operand.tmp 58) 22, type := 4, pos := "law.go:25", after := #[{ on := 12, ground := Ground.data }, { on := 14, ground := Ground.data }, { on := 9, ground := Ground.guard }], guard := some (9, true) } : Oper)) (v := ?_) rfl (by kernel_rfl) (by kernel_rfl) (by kernel_rfl) (fun _ _ _ h => h) (Or.inl ⟨by rfl, ?_⟩) hS ?_
  rotate_left
  · (intro w hSw; (try dsimp only at hSw); go_simp; try with_reducible rfl)
  (try simp only [Act.put, List.setIfInBounds_toArray, List.set_cons_zero, List.set_cons_succ])
  refine wpAnyH_take (i := 16) (oi := ({ dst := some 60, op := Op.move (Operand.tmp 59), type := 4, pos := "law.go:25", after := #[{ on := 15, ground := Ground.data }, { on := 9, ground := Ground.chain }, { on := 9, ground := Ground.guard }], guard := some (9, true) } : Oper)) (v := ?_) rfl (by kernel_rfl) (by kernel_rfl) (by kernel_rfl) (fun _ _ _ h => h) (Or.inl ⟨by rfl, ?_⟩) hS ?_
  rotate_left
  · (intro w hSw; (try dsimp only at hSw); go_simp; try with_reducible rfl)
  (try simp only [Act.put, List.setIfInBounds_toArray, List.set_cons_zero, List.set_cons_succ])
  refine wpAnyH_take (i := 17) (oi := ({ dst := some 61, op := Op.indexAddr 24 (Operand.tmp 4) (Operand.const (Value.int IntKind.i64 0)), type := 0, pos := "law.go:25", after := #[{ on := 16, ground := Ground.guard }], guard := some (16, true) } : Oper)) (v := undef) rfl (by kernel_rfl) (by kernel_rfl) (by kernel_rfl) (fun _ _ _ h => h) (Or.inr ⟨by rfl, rfl⟩) hS ?_
  (try simp only [Act.put, List.setIfInBounds_toArray, List.set_cons_zero, List.set_cons_succ])
  refine wpAnyH_take (i := 18) (oi := ({ dst := some 62, op := Op.load 3 (Operand.tmp 61), type := 3, pos := "law.go:25", after := #[{ on := 17, ground := Ground.data }, { on := 16, ground := Ground.guard }], guard := some (16, true) } : Oper)) (v := undef) rfl (by kernel_rfl) (by kernel_rfl) (by kernel_rfl) (fun _ _ _ h => h) (Or.inr ⟨by rfl, rfl⟩) hS ?_
  (try simp only [Act.put, List.setIfInBounds_toArray, List.set_cons_zero, List.set_cons_succ])
  refine wpAnyH_take (i := 19) (oi := ({ dst := some 63, op := Op.convert 3 32 (Operand.tmp 62), type := 32, pos := "law.go:25", after := #[{ on := 18, ground := Ground.data }, { on := 16, ground := Ground.guard }], guard := some (16, true) } : Oper)) (v := undef) rfl (by kernel_rfl) (by kernel_rfl) (by kernel_rfl) (fun _ _ _ h => h) (Or.inr ⟨by rfl, rfl⟩) hS ?_
  (try simp only [Act.put, List.setIfInBounds_toArray, List.set_cons_zero, List.set_cons_succ])
  refine wpAnyH_take (i := 20) (oi := ({ dst := some 64, op := Op.indexAddr 24 (Operand.tmp 4) (Operand.const (Value.int IntKind.i64 1)), type := 0, pos := "law.go:25", after := #[{ on := 16, ground := Ground.guard }], guard := some (16, true) } : Oper)) (v := undef) rfl (by kernel_rfl) (by kernel_rfl) (by kernel_rfl) (fun _ _ _ h => h) (Or.inr ⟨by rfl, rfl⟩) hS ?_
  (try simp only [Act.put, List.setIfInBounds_toArray, List.set_cons_zero, List.set_cons_succ])
  refine wpAnyH_take (i := 21) (oi := ({ dst := some 65, op := Op.load 3 (Operand.tmp 64), type := 3, pos := "law.go:25", after := #[{ on := 20, ground := Ground.data }, { on := 16, ground := Ground.guard }], guard := some (16, true) } : Oper)) (v := undef) rfl (by kernel_rfl) (by kernel_rfl) (by kernel_rfl) (fun _ _ _ h => h) (Or.inr ⟨by rfl, rfl⟩) hS ?_
  (try simp only [Act.put, List.setIfInBounds_toArray, List.set_cons_zero, List.set_cons_succ])
  refine wpAnyH_take (i := 22) (oi := ({ dst := some 66, op := Op.convert 3 32 (Operand.tmp 65), type := 32, pos := "law.go:25", after := #[{ on := 21, ground := Ground.data }, { on := 16, ground := Ground.guard }], guard := some (16, true) } : Oper)) (v := undef) rfl (by kernel_rfl) (by kernel_rfl) (by kernel_rfl) (fun _ _ _ h => h) (Or.inr ⟨by rfl, rfl⟩) hS ?_
  (try simp only [Act.put, List.setIfInBounds_toArray, List.set_cons_zero, List.set_cons_succ])
  refine wpAnyH_take (i := 23) (oi := ({ dst := some 67, op := Op.binOp BinOp.eql 32 (Operand.tmp 63) (Operand.tmp 66) 32, type := 4, pos := "law.go:25", after := #[{ on := 19, ground := Ground.data }, { on := 22, ground := Ground.data }, { on := 16, ground := Ground.guard }], guard := some (16, true) } : Oper)) (v := undef) rfl (by kernel_rfl) (by kernel_rfl) (by kernel_rfl) (fun _ _ _ h => h) (Or.inr ⟨by rfl, rfl⟩) hS ?_
  (try simp only [Act.put, List.setIfInBounds_toArray, List.set_cons_zero, List.set_cons_succ])
  refine wpAnyH_take (i := 24) (oi := ({ dst := some 68, op := Op.pick (Operand.tmp 60) (Operand.tmp 67) (Operand.const (Value.bool false)), type := 4, pos := "law.go:25", after := #[{ on := 16, ground := Ground.data }, { on := 23, ground := Ground.data }, { on := 9, ground := Ground.guard }], guard := some (9, true) } : Oper)) (v := ?_) rfl (by kernel_rfl) (by kernel_rfl) (by kernel_rfl) (fun _ _ _ h => h) (Or.inl ⟨by rfl, ?_⟩) hS ?_
  rotate_left
  · (intro w hSw; (try dsimp only at hSw); go_simp; try with_reducible rfl)
  (try simp only [Act.put, List.setIfInBounds_toArray, List.set_cons_zero, List.set_cons_succ])
  refine wpAnyH_take (i := 25) (oi := ({ dst := some 69, op := Op.binOp BinOp.eql 4 (Operand.tmp 54) (Operand.tmp 68) 4, type := 4, pos := "law.go:25", after := #[{ on := 10, ground := Ground.data }, { on := 24, ground := Ground.data }, { on := 9, ground := Ground.guard }], guard := some (9, true) } : Oper)) (v := ?_) rfl (by kernel_rfl) (by kernel_rfl) (by kernel_rfl) (fun _ _ _ h => h) (Or.inl ⟨by rfl, ?_⟩) hS ?_
  rotate_left
  · (intro w hSw; (try dsimp only at hSw); go_simp; try with_reducible rfl)
  (try simp only [Act.put, List.setIfInBounds_toArray, List.set_cons_zero, List.set_cons_succ])
  refine wpAnyH_take (i := 26) (oi := ({ dst := some 70, op := Op.pick (Operand.tmp 53) (Operand.tmp 69) (Operand.const (Value.bool false)), type := 4, pos := "law.go:25", after := #[{ on := 9, ground := Ground.data }, { on := 25, ground := Ground.data }], guard := none } : Oper)) (v := ?_) rfl (by kernel_rfl) (by kernel_rfl) (by kernel_rfl) (fun _ _ _ h => h) (Or.inl ⟨by rfl, ?_⟩) hS ?_
  rotate_left
  · (intro w hSw; (try dsimp only at hSw); go_simp; try with_reducible rfl)
  (try simp only [Act.put, List.setIfInBounds_toArray, List.set_cons_zero, List.set_cons_succ])
  refine wpAnyH_take (i := 27) (oi := ({ dst := some 71, op := Op.move (Operand.tmp 70), type := 4, pos := "law.go:25", after := #[{ on := 26, ground := Ground.data }, { on := 16, ground := Ground.chain }], guard := none } : Oper)) (v := ?_) rfl (by kernel_rfl) (by kernel_rfl) (by kernel_rfl) (fun _ _ _ h => h) (Or.inl ⟨by rfl, ?_⟩) hS ?_
  rotate_left
  · (intro w hSw; (try dsimp only at hSw); go_simp; try with_reducible rfl)
  (try simp only [Act.put, List.setIfInBounds_toArray, List.set_cons_zero, List.set_cons_succ])
  refine rg_one 28 ({ dst := some 72, op := Op.call { callee := Callee.value (Operand.func 10), args := #[], argTypes := #[] }, type := 4, pos := "law.go:25", after := #[{ on := 27, ground := Ground.chain }, { on := 27, ground := Ground.guard }], guard := some (27, true) } : Oper) (by kernel_rfl) rfl (fun K hK => ?_)
  go_simp
  (go_at_call 10; (with_reducible refine (awake_any _).mono ?_); rintro e w7 ⟨rfl, hb⟩)
  refine hK.out _ _ ?_ (fun hS1 => ?_)
  · (first | exact hS | exact QO.next hS hb)
  clear hK K hS; have hS := hS1; clear hS1
  (try simp only [Act.put, List.setIfInBounds_toArray, List.set_cons_zero, List.set_cons_succ])
  refine wpAnyH_take (i := 29) (oi := ({ dst := some 73, op := Op.pick (Operand.tmp 71) (Operand.tmp 72) (Operand.const (Value.bool false)), type := 4, pos := "law.go:25", after := #[{ on := 27, ground := Ground.data }, { on := 28, ground := Ground.data }], guard := none } : Oper)) (v := ?_) rfl (by kernel_rfl) (by kernel_rfl) (by kernel_rfl) (fun _ _ _ h => h) (Or.inl ⟨by rfl, ?_⟩) hS ?_
  rotate_left
  · (intro w hSw; (try dsimp only at hSw); go_simp; try with_reducible rfl)
  (try simp only [Act.put, List.setIfInBounds_toArray, List.set_cons_zero, List.set_cons_succ])
  refine wpAnyH_take (i := 30) (oi := ({ dst := some 6, op := Op.assign (Operand.tmp 73), type := 4, pos := "law.go:25", after := #[{ on := 29, ground := Ground.data }, { on := 28, ground := Ground.chain }, { on := 0, ground := Ground.phase }, { on := 1, ground := Ground.phase }, { on := 2, ground := Ground.phase }, { on := 3, ground := Ground.phase }, { on := 4, ground := Ground.phase }, { on := 5, ground := Ground.phase }, { on := 6, ground := Ground.phase }, { on := 7, ground := Ground.phase }, { on := 8, ground := Ground.phase }, { on := 9, ground := Ground.phase }, { on := 10, ground := Ground.phase }, { on := 11, ground := Ground.phase }, { on := 12, ground := Ground.phase }, { on := 13, ground := Ground.phase }, { on := 14, ground := Ground.phase }, { on := 15, ground := Ground.phase }, { on := 16, ground := Ground.phase }, { on := 17, ground := Ground.phase }, { on := 18, ground := Ground.phase }, { on := 19, ground := Ground.phase }, { on := 20, ground := Ground.phase }, { on := 21, ground := Ground.phase }, { on := 22, ground := Ground.phase }, { on := 23, ground := Ground.phase }, { on := 24, ground := Ground.phase }, { on := 25, ground := Ground.phase }, { on := 26, ground := Ground.phase }, { on := 27, ground := Ground.phase }, { on := 28, ground := Ground.phase }, { on := 29, ground := Ground.phase }], guard := none } : Oper)) (v := ?_) rfl (by kernel_rfl) (by kernel_rfl) (by kernel_rfl) (fun _ _ _ h => h) (Or.inl ⟨by rfl, ?_⟩) hS ?_
  rotate_left
  · (intro w hSw; (try dsimp only at hSw); go_simp; try with_reducible rfl)
  (try simp only [Act.put, List.setIfInBounds_toArray, List.set_cons_zero, List.set_cons_succ])
  refine wpAnyH_done (by kernel_rfl) ?_ _
  have HQ8 := Lib.hid hS
  go_wp2
  go_ret
  exact ⟨rfl, HQ8.out.q.q.below⟩
theorem seals_walk (x0 x1 i0 i1 : Int) (hx0 : U64 x0) (hx1 : U64 x1) (hi0 : I63 i0) (hi1 : I63 i1) (rm : Value) (len : Nat) (zs : List Int) (W : World) (hri : RI .u8 W rm len zs) (hzb : Bytes zs) :
    Calls Try.prog 3 #[.agg #[.int .u64 x0, .int .u64 x1], .agg #[.int .i64 i0, .int .i64 i1], rm] W fun e w' => e = .returned (.bool true) ∧ Below W.heap.size W w' := by
  by_cases hxx : x0 = x1
  · refine seals_same x0 x1 i0 i1 hx0 hx1 hi0 hi1 rm len zs W hri hzb hxx _ rfl ?_
    rw [Go.IntKind.wrap_u32, Go.IntKind.wrap_u32]
    rw [Bool.eq_iff_iff]; simp [hxx]
  · exact seals_other x0 x1 i0 i1 hx0 hx1 hi0 hi1 rm len zs W hri hzb hxx false rfl (decide_eq_false (fun h => hxx h.1))
end Go.Proofs.Ythomcemnkkbjoaa
