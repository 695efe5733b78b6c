/-
  WHAT THE PROGRAM'S OWN FUNCTIONS OF LAYER 6 (stamp) ANSWER (TRIAL: contracts alone).
-/
import Derived.Test.YthomcemnkkbjoaaStampRefB
import Derived.Lib.SliceRun
import Derived.Test.YthomcemnkkbjoaaSlices
namespace Go.Proofs.Ythomcemnkkbjoaa
open Go.RowKit
theorem put_ri (x : Int) (n : Nat) (hn : n ≤ 8) (w : World) :
    Calls Try.prog 18 #[.int .u64 x, .int .i64 n] w fun e w' => e = .returned (.slice (some ⟨w.heap.size, 0, none⟩) n n) ∧ RI .u8 w' (.slice (some ⟨w.heap.size, 0, none⟩) n n) n (putL x n) ∧ Below w.heap.size w w' :=
  (put_any x n n (by unfold I63; omega) (by unfold clampI; omega) w).mono fun _ _ ⟨he, ho, hb⟩ => ⟨he, RI.own ho, hb⟩
/-- where Seal stands: room for the result, the sector, the room that came in -/
structure TE (W : World) (l : List Int) (rm : Value) (len : Nat) (zs : List Int) (w : World) : Prop where
  below : Below W.heap.size W w
  old : Blk w W.heap.size z64
  new : Blk w (W.heap.size + 1) l
  arg : RI .u8 w rm len zs
theorem TE.next {W w w' : World} {l : List Int} {rm : Value} {len : Nat} {zs : List Int} (h : TE W l rm len zs w) (hb : Below w.heap.size w w') : TE W l rm len zs w' := ⟨chain h.below hb, h.old.keep hb, h.new.keep hb, h.arg.keep hb⟩
/-- behind a copy into the sector -/
theorem TE.copied {W w w' : World} {l l' : List Int} {rm : Value} {len : Nat} {zs : List Int} (h : TE W l rm len zs w) (hr : RI .u8 W rm len zs) (hk : Blk w' (W.heap.size + 1) l') (hb : Below (W.heap.size + 1) w w') : TE W l' rm len zs w' := by
  have h1 : Below W.heap.size W w' := h.below.trans (hb.mono (by omega))
  exact ⟨h1, h.old.keepB hb (by omega), hk, hr.keep h1⟩
set_option maxRecDepth 8000 in
set_option maxHeartbeats 1000000 in
theorem seal_any (x i : Int) (_hx : U64 x) (hi : I63 i) (v : Value) (len : Nat) (zs : List Int) (w : World) (hri : RI .u8 w v len zs) :
    Calls Try.prog 6 #[.int .u64 x, .int .i64 i, v] w fun e w' => e = .returned (.agg (sv (sealed x i zs))) ∧ Below w.heap.size w w' := by
  have HR := Lib.hid hri
  have hi' : -9223372036854775808 ≤ i ∧ i ≤ 9223372036854775807 := hi
  obtain ⟨a, c, rfl, hzl, _⟩ : ∃ a c, v = .slice a len c ∧ zs.length = len ∧ True := by obtain ⟨a, c, e, h, _⟩ := hri; exact ⟨a, c, e, h, trivial⟩
  obtain ⟨y, hy⟩ : ∃ y, IntKind.u64.wrap i = y := ⟨_, rfl⟩
  have HY := Lib.hid (show putL y 4 = putL i 4 from by rw [← hy, u64_wrap]; exact putL_wrap i)
  have HT0 : Hid (TE w z64 (.slice a len c) len zs ((w.alloc (.cells (sv z64) 27)).alloc (.cells (sv z64) 27))) := by
    have h := TS.start w (List.replicate 64 0)
    exact ⟨h.below, h.old, by have := h.new; rwa [part_zero] at this, hri.keep h.below⟩
  have HSP := Lib.hid (sealed_splice x i zs)
  have HSL := Lib.hid (sealed_length x i zs)
  rw [hzl] at HSP
  have HZ := Lib.hid z64_cells
  clear hri hzl
  go_enter Try.func6, Try.ntmps6
  go_wp2
  rw [← HZ.out]
  refine wp_region_held_drew (S := (fun w' => Below w.heap.size w w')) (by kernel_rfl) (HT0.out.below.drew) (fun hS => ?_)
  refine wpAnyH_take (i := 0) (oi := ({ dst := some 8, op := Op.slice 27 (Operand.tmp 7) none (some (Operand.const (Value.int IntKind.i64 8))) none, type := 25, pos := "stamp.go:15", after := #[], guard := none } : Oper)) (v := ?_) rfl (by kernel_rfl) (by kernel_rfl) (by kernel_rfl) (fun _ _ _ h => h) (Or.inl ⟨by rfl, ?_⟩) hS ?_
  rotate_left
  · (intro w hSw; (try dsimp only at hSw); go_simp; try with_reducible rfl)
  (try simp only [Act.put, List.setIfInBounds_toArray, List.set_cons_zero, List.set_cons_succ])
  refine wpAnyH_take (i := 1) (oi := ({ dst := some 9, op := Op.move (Operand.tmp 0), type := 22, pos := "stamp.go:15", after := #[], guard := none } : Oper)) (v := ?_) rfl (by kernel_rfl) (by kernel_rfl) (by kernel_rfl) (fun _ _ _ h => h) (Or.inl ⟨by rfl, ?_⟩) hS ?_
  rotate_left
  · (intro w hSw; (try dsimp only at hSw); go_simp; try with_reducible rfl)
  (try simp only [Act.put, List.setIfInBounds_toArray, List.set_cons_zero, List.set_cons_succ])
  refine rg_one 2 ({ dst := some 10, op := Op.call { callee := Callee.value (Operand.func 18), args := #[Operand.tmp 9, Operand.const (Value.int IntKind.i64 8)], argTypes := #[22, 3] }, type := 25, pos := "stamp.go:15", after := #[{ on := 1, ground := Ground.data }], guard := none } : Oper) (by kernel_rfl) rfl (fun K hK => ?_)
  go_simp
  (go_at_call 18; (refine (put_ri x 8 (by omega) _).mono ?_); rintro e w2 ⟨rfl, hr2, hb⟩; have HT2 := Lib.hid ((HT0.out.next ((Below.refl _ _).drew)).next hb); have hN := HT2.out.below)
  refine hK.out _ _ ?_ (fun hS1 => ?_)
  · (exact hN)
  clear hK K hS; have hS := hS1; clear hS1
  (try simp only [Act.put, List.setIfInBounds_toArray, List.set_cons_zero, List.set_cons_succ])
  refine rg_one 3 ({ dst := some 11, op := Op.call { callee := Callee.builtin Builtin.copy, args := #[Operand.tmp 8, Operand.tmp 10], argTypes := #[25, 25] }, type := 3, pos := "stamp.go:15", after := #[{ on := 0, ground := Ground.data }, { on := 2, ground := Ground.data }, { on := 2, ground := Ground.chain }], guard := none } : Oper) (by kernel_rfl) rfl (fun K hK => ?_)
  refine step_copy_sec rfl (.tmp 8) (.tmp 10) rfl (w.heap.size + 1) 0 8 64 z64 HT2.out.new rfl _ 8 (putL x 8) rfl hr2 (by omega) ?_; intro w3 HK3 hb3; rw [show (putL x 8).take (min 8 8) = putL x 8 from List.take_of_length_le (by rw [putL_length]; omega)] at HK3; have HT3 := Lib.hid (HT2.out.copied HR.out HK3.out hb3); clear hN; have hN := HT3.out.below
  refine hK.out _ _ ?_ (fun hS1 => ?_)
  · (exact hN)
  clear hK K hS; have hS := hS1; clear hS1
  (try simp only [Act.put, List.setIfInBounds_toArray, List.set_cons_zero, List.set_cons_succ])
  refine wpAnyH_done (by kernel_rfl) ?_ _
  clear hS hb3 hb hr2 HT2 HK3 hN
  go_wp2
  refine wp_region_held_drew (S := (fun w' => Below w.heap.size w w')) (by kernel_rfl) (HT3.out.below.drew) (fun hS => ?_)
  refine wpAnyH_take (i := 0) (oi := ({ dst := some 12, op := Op.slice 27 (Operand.tmp 7) (some (Operand.const (Value.int IntKind.i64 8))) (some (Operand.const (Value.int IntKind.i64 12))) none, type := 25, pos := "stamp.go:16", after := #[], guard := none } : Oper)) (v := ?_) rfl (by kernel_rfl) (by kernel_rfl) (by kernel_rfl) (fun _ _ _ h => h) (Or.inl ⟨by rfl, ?_⟩) hS ?_
  rotate_left
  · (intro w hSw; (try dsimp only at hSw); go_simp; try with_reducible rfl)
  (try simp only [Act.put, List.setIfInBounds_toArray, List.set_cons_zero, List.set_cons_succ])
  refine wpAnyH_take (i := 1) (oi := ({ dst := some 13, op := Op.move (Operand.tmp 1), type := 3, pos := "stamp.go:16", after := #[], guard := none } : Oper)) (v := ?_) rfl (by kernel_rfl) (by kernel_rfl) (by kernel_rfl) (fun _ _ _ h => h) (Or.inl ⟨by rfl, ?_⟩) hS ?_
  rotate_left
  · (intro w hSw; (try dsimp only at hSw); go_simp; try with_reducible rfl)
  (try simp only [Act.put, List.setIfInBounds_toArray, List.set_cons_zero, List.set_cons_succ])
  refine wpAnyH_take (i := 2) (oi := ({ dst := some 14, op := Op.convert 3 22 (Operand.tmp 13), type := 22, pos := "stamp.go:16", after := #[{ on := 1, ground := Ground.data }], guard := none } : Oper)) (v := ?_) rfl (by kernel_rfl) (by kernel_rfl) (by kernel_rfl) (fun _ _ _ h => h) (Or.inl ⟨by rfl, ?_⟩) hS ?_
  rotate_left
  · (intro w hSw; (try dsimp only at hSw); go_simp; try with_reducible rfl)
  (try simp only [Act.put, List.setIfInBounds_toArray, List.set_cons_zero, List.set_cons_succ])
  refine rg_one 3 ({ dst := some 15, op := Op.call { callee := Callee.value (Operand.func 18), args := #[Operand.tmp 14, Operand.const (Value.int IntKind.i64 4)], argTypes := #[22, 3] }, type := 25, pos := "stamp.go:16", after := #[{ on := 2, ground := Ground.data }], guard := none } : Oper) (by kernel_rfl) rfl (fun K hK => ?_)
  go_simp
  (go_at_call 18; (refine (put_ri y 4 (by omega) _).mono ?_); rintro e w4 ⟨rfl, hr4, hb⟩; rw [HY.out] at hr4; have HT4 := Lib.hid ((HT3.out.next ((Below.refl _ _).drew)).next hb); have hN := HT4.out.below)
  refine hK.out _ _ ?_ (fun hS1 => ?_)
  · (exact hN)
  clear hK K hS; have hS := hS1; clear hS1
  (try simp only [Act.put, List.setIfInBounds_toArray, List.set_cons_zero, List.set_cons_succ])
  refine rg_one 4 ({ dst := some 16, op := Op.call { callee := Callee.builtin Builtin.copy, args := #[Operand.tmp 12, Operand.tmp 15], argTypes := #[25, 25] }, type := 3, pos := "stamp.go:16", after := #[{ on := 0, ground := Ground.data }, { on := 3, ground := Ground.data }, { on := 3, ground := Ground.chain }], guard := none } : Oper) (by kernel_rfl) rfl (fun K hK => ?_)
  refine step_copy_sec rfl (.tmp 12) (.tmp 15) rfl (w.heap.size + 1) 8 4 56 _ HT4.out.new rfl _ 4 (putL i 4) rfl hr4 (by omega) ?_; intro w5 HK5 hb5; rw [show (putL i 4).take (min 4 4) = putL i 4 from List.take_of_length_le (by rw [putL_length]; omega)] at HK5; have HT5 := Lib.hid (HT4.out.copied HR.out HK5.out hb5); clear hN; have hN := HT5.out.below
  refine hK.out _ _ ?_ (fun hS1 => ?_)
  · (exact hN)
  clear hK K hS; have hS := hS1; clear hS1
  (try simp only [Act.put, List.setIfInBounds_toArray, List.set_cons_zero, List.set_cons_succ])
  refine wpAnyH_done (by kernel_rfl) ?_ _
  clear hS hb5 hb hr4 HT4 HK5 hN
  go_wp2_with (first
    | ((refine wpl_copy_sec rfl (.tmp 17) (.tmp 18) rfl (w.heap.size + 1) 12 52 52 _ HT5.out.new rfl _ len zs rfl HT5.out.arg (by omega) ?_; intro w6 HK6 hb6; rw [show z64 = List.replicate 64 0 from rfl, HSP.out] at HK6; have HT6 := Lib.hid (HT5.out.copied HR.out HK6.out hb6); clear hb6))
    | (refine wpList_load_row rfl 27 _ rfl (w.heap.size + 1) rfl _ (sv (sealed x i zs)) (0, 0) _ HT6.out.new.1 Try.underlying27 rfl (sv_info _ HSL.out) ?_)
    | (refine wpList_store_row rfl 27 _ _ rfl w.heap.size (sv (sealed x i zs)) rfl rfl _ (sv z64) HT6.out.old.1 (sv_info _ HSL.out) (by rw [sv_size, sv_size, HSL.out, z64_length]) (sv_one _) ?_))
  refine bodyPost_ret_by (v := .agg (sv (sealed x i zs))) (results_cell_row rfl _ _ w.heap.size _ (sv (sealed x i zs)) (0, 0) _ rfl (HT6.out.old.row HSL.out).1 Try.underlying27 rfl (sv_info _ HSL.out)) rfl ⟨rfl, below_row HT6.out.below (Nat.le_refl _) _⟩
theorem get_ri (b off len cap : Nat) (zs : List Int) (w : World) (hr : RI .u8 w (.slice (some ⟨b, off, none⟩) len cap) len zs) (hz : Bytes zs) (h0 : 0 < len) :
    Calls Try.prog 20 #[.slice (some ⟨b, off, none⟩) len cap] w fun e w' => e = .returned (.int .u64 (getI zs (min len 8))) ∧ w = w' := by
  obtain ⟨b2, off2, c2, e, _, _, hcell⟩ := hr.open_ h0
  simp only [Value.slice.injEq, Option.some.injEq, Addr.mk.injEq, and_true, true_and] at e
  obtain ⟨⟨rfl, rfl⟩, rfl⟩ := e
  exact get_some b off len cap zs w hz h0 hr.le hcell
set_option maxRecDepth 8000 in
set_option maxHeartbeats 1000000 in
theorem read_any (l : List Int) (hl : l.length = 64) (hb : Bytes l) (w : World) :
    Calls Try.prog 11 #[.agg (sv l)] w fun e w' => ∃ x i v, e = .returned (.tuple #[.int .u64 x, .int .i64 i, v]) ∧ RI .u8 w' v 52 (l.drop 12) ∧ U64 x ∧ 0 ≤ i ∧ i ≤ 4294967295 ∧ sealed x i (l.drop 12) = l ∧ Below w.heap.size w w' := by
  have HK0 := Lib.hid (Blk.new w l hl)
  have HB := Lib.hid hb
  have HL := Lib.hid hl
  obtain ⟨x, hx⟩ : ∃ x, getI (l.take 8) 8 = x := ⟨_, rfl⟩
  obtain ⟨i, hi⟩ : ∃ i, getI ((l.drop 8).take 4) 4 = i := ⟨_, rfl⟩
  have hxb := getI_bd (l.take 8) (bytes_take hb 8) 8
  have hib := getI_bd ((l.drop 8).take 4) (bytes_take (bytes_drop hb 8) 4) 4
  have HSE := Lib.hid (sealed_read l hl hb)
  rw [hx, hi] at HSE
  rw [hx] at hxb
  rw [hi] at hib
  simp only [Nat.reduceMul, Int.reducePow] at hxb hib
  have HX := Lib.hid hx
  have HI := Lib.hid hi
  have hwr : IntKind.i64.wrap i = i := IntWalk.i64_in _ (by omega)
  clear hb hl hx hi
  go_enter Try.func11, Try.ntmps11
  go_wp2
  refine wp_region_held_drew (S := (fun w' => Blk w' w.heap.size l ∧ Below w.heap.size w w')) (by kernel_rfl) ⟨HK0.out, (below_alloc w _).drew⟩ (fun hS => ?_)
  refine wpAnyH_take (i := 0) (oi := ({ dst := some 7, op := Op.slice 27 (Operand.tmp 1) none (some (Operand.const (Value.int IntKind.i64 8))) none, type := 25, pos := "stamp.go:33", after := #[], guard := none } : Oper)) (v := ?_) rfl (by kernel_rfl) (by kernel_rfl) (by kernel_rfl) (fun _ _ _ h => h) (Or.inl ⟨by rfl, ?_⟩) hS ?_
  rotate_left
  · (intro w hSw; (try dsimp only at hSw); go_simp; try with_reducible rfl)
  (try simp only [Act.put, List.setIfInBounds_toArray, List.set_cons_zero, List.set_cons_succ])
  refine wpAnyH_take (i := 2) (oi := ({ dst := some 9, op := Op.slice 27 (Operand.tmp 1) (some (Operand.const (Value.int IntKind.i64 8))) (some (Operand.const (Value.int IntKind.i64 12))) none, type := 25, pos := "stamp.go:33", after := #[], guard := none } : Oper)) (v := ?_) rfl (by kernel_rfl) (by kernel_rfl) (by kernel_rfl) (fun _ _ _ h => h) (Or.inl ⟨by rfl, ?_⟩) hS ?_
  rotate_left
  · (intro w hSw; (try dsimp only at hSw); go_simp; try with_reducible rfl)
  (try simp only [Act.put, List.setIfInBounds_toArray, List.set_cons_zero, List.set_cons_succ])
  refine rg_one 1 ({ dst := some 8, op := Op.call { callee := Callee.value (Operand.func 20), args := #[Operand.tmp 7], argTypes := #[25] }, type := 22, pos := "stamp.go:33", after := #[{ on := 0, ground := Ground.data }], guard := none } : Oper) (by kernel_rfl) rfl (fun K hK => ?_)
  go_simp
  (go_at_call 20; (refine (get_ri w.heap.size 0 8 64 ((l.drop 0).take 8) _ (hS.1.ri 0 8 64 (by omega) (by omega) (by omega)) (bytes_take (bytes_drop HB.out 0) 8) (by omega)).mono ?_); rintro e w2 ⟨rfl, rfl⟩; rw [List.drop_zero, show min 8 8 = 8 from rfl, HX.out])
  refine hK.out _ _ ?_ (fun hS1 => ?_)
  · (first | exact hS | exact ⟨hS.1.keep hb, chain hS.2 hb⟩)
  clear hK K hS; have hS := hS1; clear hS1
  (try simp only [Act.put, List.setIfInBounds_toArray, List.set_cons_zero, List.set_cons_succ])
  refine rg_one 3 ({ dst := some 10, op := Op.call { callee := Callee.value (Operand.func 20), args := #[Operand.tmp 9], argTypes := #[25] }, type := 22, pos := "stamp.go:33", after := #[{ on := 2, ground := Ground.data }, { on := 1, ground := Ground.chain }], guard := none } : Oper) (by kernel_rfl) rfl (fun K hK => ?_)
  go_simp
  (go_at_call 20; (refine (get_ri w.heap.size 8 4 56 ((l.drop 8).take 4) _ (hS.1.ri 8 4 56 (by omega) (by omega) (by omega)) (bytes_take (bytes_drop HB.out 8) 4) (by omega)).mono ?_); rintro e w3 ⟨rfl, rfl⟩; rw [show min 4 8 = 4 from rfl, HI.out])
  refine hK.out _ _ ?_ (fun hS1 => ?_)
  · (first | exact hS | exact ⟨hS.1.keep hb, chain hS.2 hb⟩)
  clear hK K hS; have hS := hS1; clear hS1
  (try simp only [Act.put, List.setIfInBounds_toArray, List.set_cons_zero, List.set_cons_succ])
  refine wpAnyH_take (i := 4) (oi := ({ dst := some 5, op := Op.assign (Operand.tmp 8), type := 22, pos := "stamp.go:33", after := #[{ on := 1, ground := Ground.data }, { on := 3, ground := Ground.chain }, { on := 0, ground := Ground.phase }, { on := 1, ground := Ground.phase }, { on := 2, ground := Ground.textOnly Departure.lateStoresUnsure }, { on := 3, ground := Ground.textOnly Departure.lateStoresUnsure }], guard := none } : Oper)) (v := ?_) rfl (by kernel_rfl) (by kernel_rfl) (by kernel_rfl) (fun _ _ _ h => h) (Or.inl ⟨by rfl, ?_⟩) hS ?_
  rotate_left
  · (intro w hSw; (try dsimp only at hSw); go_simp; try with_reducible rfl)
  (try simp only [Act.put, List.setIfInBounds_toArray, List.set_cons_zero, List.set_cons_succ])
  refine wpAnyH_take (i := 5) (oi := ({ dst := some 6, op := Op.assign (Operand.tmp 10), type := 22, pos := "stamp.go:33", after := #[{ on := 3, ground := Ground.data }, { on := 4, ground := Ground.chain }, { on := 0, ground := Ground.phase }, { on := 1, ground := Ground.phase }, { on := 2, ground := Ground.phase }, { on := 3, ground := Ground.phase }, { on := 4, ground := Ground.phase }], guard := none } : Oper)) (v := ?_) rfl (by kernel_rfl) (by kernel_rfl) (by kernel_rfl) (fun _ _ _ h => h) (Or.inl ⟨by rfl, ?_⟩) hS ?_
  rotate_left
  · (intro w hSw; (try dsimp only at hSw); go_simp; try with_reducible rfl)
  (try simp only [Act.put, List.setIfInBounds_toArray, List.set_cons_zero, List.set_cons_succ])
  refine wpAnyH_done (by kernel_rfl) ?_ _
  have hr0 := hS.1.ri 12 52 52 (by omega) (by omega) (by omega)
  rw [List.take_of_length_le (by simp [HL.out])] at hr0
  have HR0 := Lib.hid hr0
  have HS := Lib.hid hS.2
  clear hr0 hS
  go_wp2
  refine wp_region_held_drew (S := (fun w' => RI .u8 w' (.slice (some ⟨w.heap.size, 12, none⟩) 52 52) 52 (l.drop 12) ∧ Below w.heap.size w w')) (by kernel_rfl) ⟨HR0.out.keep (Below.refl _ _).drew, HS.out.drew⟩ (fun hS => ?_)
  refine wpAnyH_take (i := 0) (oi := ({ dst := some 11, op := Op.move (Operand.tmp 5), type := 22, pos := "stamp.go:35", after := #[], guard := none } : Oper)) (v := ?_) rfl (by kernel_rfl) (by kernel_rfl) (by kernel_rfl) (fun _ _ _ h => h) (Or.inl ⟨by rfl, ?_⟩) hS ?_
  rotate_left
  · (intro w hSw; (try dsimp only at hSw); go_simp; try with_reducible rfl)
  (try simp only [Act.put, List.setIfInBounds_toArray, List.set_cons_zero, List.set_cons_succ])
  refine wpAnyH_take (i := 1) (oi := ({ dst := some 12, op := Op.move (Operand.tmp 6), type := 22, pos := "stamp.go:35", after := #[{ on := 4, ground := Ground.gcOnly Departure.lateStores }], guard := none } : Oper)) (v := ?_) rfl (by kernel_rfl) (by kernel_rfl) (by kernel_rfl) (fun _ _ _ h => h) (Or.inl ⟨by rfl, ?_⟩) hS ?_
  rotate_left
  · (intro w hSw; (try dsimp only at hSw); go_simp; try with_reducible rfl)
  (try simp only [Act.put, List.setIfInBounds_toArray, List.set_cons_zero, List.set_cons_succ])
  refine wpAnyH_take (i := 2) (oi := ({ dst := some 13, op := Op.convert 22 3 (Operand.tmp 12), type := 3, pos := "stamp.go:35", after := #[{ on := 1, ground := Ground.data }, { on := 4, ground := Ground.gcOnly Departure.lateStores }], guard := none } : Oper)) (v := ?_) rfl (by kernel_rfl) (by kernel_rfl) (by kernel_rfl) (fun _ _ _ h => h) (Or.inl ⟨by rfl, ?_⟩) hS ?_
  rotate_left
  · (intro w hSw; (try dsimp only at hSw); go_simp; try with_reducible rfl)
  (try simp only [Act.put, List.setIfInBounds_toArray, List.set_cons_zero, List.set_cons_succ])
  refine wpAnyH_take (i := 3) (oi := ({ dst := some 14, op := Op.slice 27 (Operand.tmp 1) (some (Operand.const (Value.int IntKind.i64 12))) none none, type := 25, pos := "stamp.go:35", after := #[], guard := none } : Oper)) (v := ?_) rfl (by kernel_rfl) (by kernel_rfl) (by kernel_rfl) (fun _ _ _ h => h) (Or.inl ⟨by rfl, ?_⟩) hS ?_
  rotate_left
  · (intro w hSw; (try dsimp only at hSw); go_simp; try with_reducible rfl)
  (try simp only [Act.put, List.setIfInBounds_toArray, List.set_cons_zero, List.set_cons_succ])
  refine wpAnyH_take (i := 4) (oi := ({ dst := some 2, op := Op.assign (Operand.tmp 11), type := 22, pos := "stamp.go:35", after := #[{ on := 0, ground := Ground.data }, { on := 0, ground := Ground.phase }, { on := 1, ground := Ground.textOnly Departure.lateStores }, { on := 2, ground := Ground.textOnly Departure.lateStores }, { on := 3, ground := Ground.textOnly Departure.lateStoresUnsure }], guard := none } : Oper)) (v := ?_) rfl (by kernel_rfl) (by kernel_rfl) (by kernel_rfl) (fun _ _ _ h => h) (Or.inl ⟨by rfl, ?_⟩) hS ?_
  rotate_left
  · (intro w hSw; (try dsimp only at hSw); go_simp; try with_reducible rfl)
  (try simp only [Act.put, List.setIfInBounds_toArray, List.set_cons_zero, List.set_cons_succ])
  refine wpAnyH_take (i := 5) (oi := ({ dst := some 3, op := Op.assign (Operand.tmp 13), type := 3, pos := "stamp.go:35", after := #[{ on := 2, ground := Ground.data }, { on := 4, ground := Ground.chain }, { on := 0, ground := Ground.phase }, { on := 1, ground := Ground.phase }, { on := 2, ground := Ground.phase }, { on := 3, ground := Ground.textOnly Departure.lateStoresUnsure }, { on := 4, ground := Ground.phase }], guard := none } : Oper)) (v := ?_) rfl (by kernel_rfl) (by kernel_rfl) (by kernel_rfl) (fun _ _ _ h => h) (Or.inl ⟨by rfl, ?_⟩) hS ?_
  rotate_left
  · (intro w hSw; (try dsimp only at hSw); go_simp; try with_reducible rfl)
  (try simp only [Act.put, List.setIfInBounds_toArray, List.set_cons_zero, List.set_cons_succ])
  refine wpAnyH_take (i := 6) (oi := ({ dst := some 4, op := Op.assign (Operand.tmp 14), type := 25, pos := "stamp.go:35", after := #[{ on := 3, ground := Ground.data }, { on := 5, ground := Ground.chain }, { on := 0, ground := Ground.phase }, { on := 1, ground := Ground.phase }, { on := 2, ground := Ground.phase }, { on := 3, ground := Ground.phase }, { on := 4, ground := Ground.phase }, { on := 5, ground := Ground.phase }], guard := none } : Oper)) (v := ?_) rfl (by kernel_rfl) (by kernel_rfl) (by kernel_rfl) (fun _ _ _ h => h) (Or.inl ⟨by rfl, ?_⟩) hS ?_
  rotate_left
  · (intro w hSw; (try dsimp only at hSw); go_simp; try with_reducible rfl)
  (try simp only [Act.put, List.setIfInBounds_toArray, List.set_cons_zero, List.set_cons_succ])
  refine wpAnyH_done (by kernel_rfl) ?_ _
  have HS2 := Lib.hid hS
  clear hS
  go_wp2
  go_ret3
  exact ⟨_, _, _, rfl, HS2.out.1, by unfold U64; omega, by omega, by omega, HSE.out, HS2.out.2⟩
set_option maxRecDepth 8000 in
set_option maxHeartbeats 1000000 in
theorem open_any (l : List Int) (hl : l.length = 64) (hbl : Bytes l) (x i : Int) (hx : U64 x) (hi : I63 i) (w : World) (y : Bool) (hy : decide (sealed x i (l.drop 12) = l) = y) :
    Calls Try.prog 8 #[.agg (sv l), .int .u64 x, .int .i64 i] w fun e w' => ∃ v, e = .returned (.tuple #[v, .bool y]) ∧ RI .u8 w' v (if y then 52 else 0) (if y then l.drop 12 else []) ∧ Below w.heap.size w w' := by
  have HK0 := Lib.hid (Blk.new w l hl)
  have HQ := Lib.hid (run_eq_sec (sealed x i (l.drop 12)) l (sealed_length _ _ _) hl)
  rw [hy] at HQ
  have HX := Lib.hid hx
  have HI := Lib.hid hi
  have HL := Lib.hid hl
  have HBL := Lib.hid hbl
  clear hl hx hi hy hbl
  go_enter Try.func8, Try.ntmps8
  go_wp2_with (first
    | (refine wpl_load_sec (by rfl) _ rfl w.heap.size rfl l HK0.out ?_)
    | (go_at_call 11; (refine (read_any l HL.out HBL.out _).mono ?_); rintro e w1 ⟨x1, i1, v1, rfl, hr, _, _, _, _, hb⟩; have HR1 := Lib.hid hr; have HK1 := Lib.hid (HK0.out.keep hb); have HB1 := Lib.hid (chain (below_alloc w _) hb); clear hr hb))
  refine wp_region_held_drew (S := (fun w' => Blk w' w.heap.size l ∧ RI .u8 w' v1 52 (l.drop 12) ∧ Below w.heap.size w w')) (by kernel_rfl) ⟨HK1.out, HR1.out.keep ((Below.refl _ _).drew), HB1.out.drew⟩ (fun hS => ?_)
  refine wpAnyH_take (i := 0) (oi := ({ dst := some 17, op := Op.move (Operand.tmp 1), type := 22, pos := "stamp.go:25", after := #[], guard := none } : Oper)) (v := ?_) rfl (by kernel_rfl) (by kernel_rfl) (by kernel_rfl) (fun _ _ _ h => h) (Or.inl ⟨by rfl, ?_⟩) hS ?_
  rotate_left
  · (intro w hSw; (try dsimp only at hSw); go_simp; try with_reducible rfl)
  (try simp only [Act.put, List.setIfInBounds_toArray, List.set_cons_zero, List.set_cons_succ])
  refine wpAnyH_take (i := 1) (oi := ({ dst := some 18, op := Op.move (Operand.tmp 2), type := 3, pos := "stamp.go:25", after := #[], guard := none } : Oper)) (v := ?_) rfl (by kernel_rfl) (by kernel_rfl) (by kernel_rfl) (fun _ _ _ h => h) (Or.inl ⟨by rfl, ?_⟩) hS ?_
  rotate_left
  · (intro w hSw; (try dsimp only at hSw); go_simp; try with_reducible rfl)
  (try simp only [Act.put, List.setIfInBounds_toArray, List.set_cons_zero, List.set_cons_succ])
  refine wpAnyH_take (i := 2) (oi := ({ dst := some 19, op := Op.move (Operand.tmp 10), type := 25, pos := "stamp.go:25", after := #[], guard := none } : Oper)) (v := ?_) rfl (by kernel_rfl) (by kernel_rfl) (by kernel_rfl) (fun _ _ _ h => h) (Or.inl ⟨by rfl, ?_⟩) hS ?_
  rotate_left
  · (intro w hSw; (try dsimp only at hSw); go_simp; try with_reducible rfl)
  (try simp only [Act.put, List.setIfInBounds_toArray, List.set_cons_zero, List.set_cons_succ])
  refine wpAnyH_take (i := 4) (oi := ({ dst := some 21, op := Op.load 27 (Operand.tmp 3), type := 27, pos := "stamp.go:25", after := #[], guard := none } : Oper)) (v := ?_) rfl (by kernel_rfl) (by kernel_rfl) (by kernel_rfl) (fun _ _ _ h => h) (Or.inl ⟨by rfl, ?_⟩) hS ?_
  rotate_left
  · (intro w hSw; (try dsimp only at hSw); refine exec_load_sec (.tmp 3) ?_ ?_ hSw.1 <;> rfl)
  (try simp only [Act.put, List.setIfInBounds_toArray, List.set_cons_zero, List.set_cons_succ])
  refine rg_one 3 ({ dst := some 20, op := Op.call { callee := Callee.value (Operand.func 6), args := #[Operand.tmp 17, Operand.tmp 18, Operand.tmp 19], argTypes := #[22, 3, 25] }, type := 27, pos := "stamp.go:25", after := #[{ on := 0, ground := Ground.data }, { on := 1, ground := Ground.data }, { on := 2, ground := Ground.data }], guard := none } : Oper) (by kernel_rfl) rfl (fun K hK => ?_)
  go_simp
  (go_at_call 6; (with_reducible refine (seal_any x i HX.out HI.out v1 52 (l.drop 12) _ hS.2.1).mono ?_); rintro e w2 ⟨rfl, hb⟩)
  refine hK.out _ _ ?_ (fun hS1 => ?_)
  · (first | exact hS | exact ⟨hS.1.keep hb, hS.2.1.keep hb, chain hS.2.2 hb⟩)
  clear hK K hS; have hS := hS1; clear hS1
  (try simp only [Act.put, List.setIfInBounds_toArray, List.set_cons_zero, List.set_cons_succ])
  refine wpAnyH_take (i := 5) (oi := ({ dst := some 22, op := Op.binOp BinOp.neq 27 (Operand.tmp 20) (Operand.tmp 21) 27, type := 4, pos := "stamp.go:25", after := #[{ on := 3, ground := Ground.data }, { on := 4, ground := Ground.data }], guard := none } : Oper)) (v := ?_) rfl (by kernel_rfl) (by kernel_rfl) (by kernel_rfl) (fun _ _ _ h => h) (Or.inl ⟨by rfl, ?_⟩) hS ?_
  rotate_left
  · (intro w hSw; (try dsimp only at hSw); have hq := HQ.out w; go_simp; try with_reducible rfl)
  (try simp only [Act.put, List.setIfInBounds_toArray, List.set_cons_zero, List.set_cons_succ])
  refine wpAnyH_done (by kernel_rfl) ?_ _
  have HS := Lib.hid hS
  cases y with
  | false =>
    go_wp2
    go_ret2
    exact ⟨_, rfl, RI.nil _ _, HS.out.2.2⟩
  | true =>
    go_wp2
    go_ret2
    exact ⟨_, rfl, HS.out.2.1, HS.out.2.2⟩
set_option maxRecDepth 8000 in
theorem empty_any (l : List Int) (hl : l.length = 64) (w : World) :
    Calls Try.prog 13 #[.agg (sv l)] w fun e w' => e = .returned (.bool (decide (l = z64))) ∧ Below w.heap.size w w' := by
  obtain ⟨z, hz⟩ : ∃ z, decide (l = z64) = z := ⟨_, rfl⟩
  have HQ := Lib.hid (run_eq_sec l z64 hl z64_length)
  rw [hz] at HQ
  rw [hz]
  have HK0 := Lib.hid (Blk.new w l hl)
  have HZ := Lib.hid z64_cells
  have hq := HQ.out (w.alloc (.cells (sv l) 27))
  rw [HZ.out] at hq
  clear hl hz
  go_enter Try.func13, Try.ntmps13
  go_wp2_with (first
    | (refine wpl_load_sec (by rfl) _ rfl w.heap.size rfl l HK0.out ?_))
  go_ret
  exact ⟨rfl, below_alloc _ _⟩
/-- an empty row, with room -/
theorem own_room {w : World} {B g c : Nat} {e : TypeId} {k : IntKind} (hg : w.heap[g]? = some (.cells (List.replicate c (Value.int k 0)).toArray e (0, 0))) (hB : B ≤ g) (hc : c ≤ maxLen) : w.ownsRow B e 1 (.slice (some ⟨g, 0, none⟩) 0 c) 0 (il k []) :=
  ⟨rfl, .inr ⟨g, c, _, rfl, hB, hg, Nat.zero_le _, hc, by simp, rfl⟩⟩
set_option maxRecDepth 8000 in
set_option maxHeartbeats 1000000 in
theorem bytes_any (v : Value) (n : Nat) (fs : List Int) (w : World) (h : FS w v n fs) (hn : (n : Int) ≤ 1000000000) :
    Calls Try.prog 15 #[v] w fun e w' => ∃ v', e = .returned v' ∧ RI .u8 w' v' (n * 64) fs ∧ Below w.heap.size w w' := by
  have HF := Lib.hid h
  have HL := Lib.hid h.length
  obtain ⟨a, c, rfl, _⟩ : ∃ a c, v = .slice a n c ∧ True := by obtain ⟨a, c, e, _⟩ := h; exact ⟨a, c, e, trivial⟩
  obtain ⟨t, ht⟩ : ∃ t, n * 64 = t := ⟨_, rfl⟩
  have HT := Lib.hid ht
  have htn : (n : Int) * 64 = (t : Int) := by omega
  have hw1 : IntKind.i64.wrap (t : Int) = (t : Int) := IntWalk.i64_in _ (by omega)
  have HZ := Lib.hid z64_cells
  clear h
  rw [ht]
  go_enter Try.func15, Try.ntmps15
  go_wp2_with (first
    | (at_make; refine wpl_make rfl (.tmp 8) (.tmp 8) 25 rfl 5 .u8 1 Try.underlying25 Try.info_u8 .i64 .i64 t t t t rfl rfl rfl rfl (by omega) (by omega) (by omega) w.heap.size w (Below.refl _ _) (Nat.le_refl _) ?_; intro w1 HG1 HB1))
  have HO0 : Hid (w1.heap[w.heap.size]? = some (.cells (il .u8 (laidN fs t 0)).toArray 5 (0, 0))) := by
    have h1 := HG1.out
    rw [laidN_zero]
    exact Lib.hid (by simpa [il] using h1)
  clear HG1 ht
  go_loopw [12] (fun iv wr => ∃ i : Nat, iv = .int .i64 i ∧ i ≤ n ∧ Hid (wr.heap[w.heap.size]? = some (.cells (il .u8 (laidN fs t (i * 64))).toArray 5 (0, 0))) ∧ Hid (Below w.heap.size w wr)) (fun iv _ => n - (intOf iv).toNat)
  case atStart => exact ⟨0, rfl, by omega, by simpa using HO0, HB1⟩
  case round =>
    obtain ⟨i, rfl, hi, HO, HB⟩ := hrel
    by_cases hlt : (i : Int) < (n : Int)
    · have hin : i < n := by omega
      obtain ⟨b, off, rfl, hat⟩ := (HF.out.keep HB.out).at_ i hin
      obtain ⟨z, hz⟩ : ∃ z, (fs.drop (i * 64)).take 64 = z := ⟨_, rfl⟩
      rw [hz] at hat
      obtain ⟨m, hm⟩ : ∃ m, i * 64 = m := ⟨_, rfl⟩
      rw [hm] at hat
      have HA := Lib.hid hat
      have hmi : (i : Int) * 64 = (m : Int) := by omega
      have hw2 : IntKind.i64.wrap (m : Int) = (m : Int) := IntWalk.i64_in _ (by omega)
      have hmt : m + 64 ≤ t := by have := HT.out; omega
      have hci : ¬ t = m := by omega
      have hg1 : (m : Int) ≤ (t : Int) := by omega
      have HMT := Lib.hid hmt
      have HM := Lib.hid hm
      have HZL := Lib.hid hz
      rw [hm] at HO
      clear hat hz hin
      go_wp2_with (first
        | (refine wpl_load_at rfl _ rfl b (off + m) rfl z HA.out ?_)
        | (rw [← HZ.out]; refine wpl_store_new rfl _ _ rfl rfl wr.heap.size rfl z HA.out.1 rfl rfl w HB ?_; intro w2 HK2 HB2 HW2; have HO2 := Lib.hid ((HW2.out.block w.heap.size (Array.getElem?_eq_some_iff.1 HO.out).1).trans HO.out); have HR2 := Lib.hid (HK2.out.ri 0 64 64 (by omega) (by omega) (by omega))))
      have hzl : z.length = 64 := HA.out.1
      have HCL : Hid ((il .u8 z).length = Nat.min 64 (t - m)) := Lib.hid (by rw [il_length, hzl]; exact (Nat.min_eq_left (by omega)).symm)
      have HFIT : Hid (m + (il .u8 z).length ≤ (il .u8 (laidN fs t m)).length) := Lib.hid (by rw [il_length, il_length, laidN_length, hzl]; exact hmt)
      have HCE : Hid (∀ (j : Nat) (v : Value), (il .u8 z)[j]? = some v → w2.cell? ((⟨wr.heap.size, 0, none⟩ : Addr).add j) = some v) := Lib.hid (by
        intro j v hv
        have hj := (List.getElem?_eq_some_iff.1 hv).1
        rw [il_length] at hj
        rw [il_get _ _ _ hj] at hv
        have h1 := HK2.out.cell j (by omega)
        rw [← hv]
        by_cases h0 : j = 0
        · subst h0; simpa [Addr.add] using h1
        · simpa [Addr.add, h0] using h1)
      clear hzl HR2
      go_wp2
      refine wp_region_held_drew (S := (fun w' => Below w.heap.size w w')) (by kernel_rfl) HB2.out.drew (fun hS => ?_)
      refine wpAnyH_take (i := 0) (oi := ({ dst := some 17, op := Op.move (Operand.tmp 3), type := 25, pos := "stamp.go:47", after := #[], guard := none } : Oper)) (v := ?_) rfl (by kernel_rfl) (by kernel_rfl) (by kernel_rfl) (fun _ _ _ h => h) (Or.inl ⟨by rfl, ?_⟩) hS ?_
      rotate_left
      · (intro w hSw; (try dsimp only at hSw); go_simp; try with_reducible rfl)
      (try simp only [Act.put, List.setIfInBounds_toArray, List.set_cons_zero, List.set_cons_succ])
      refine wpAnyH_take (i := 1) (oi := ({ dst := some 18, op := Op.move (Operand.tmp 4), type := 3, pos := "stamp.go:47", after := #[], guard := none } : Oper)) (v := ?_) rfl (by kernel_rfl) (by kernel_rfl) (by kernel_rfl) (fun _ _ _ h => h) (Or.inl ⟨by rfl, ?_⟩) hS ?_
      rotate_left
      · (intro w hSw; (try dsimp only at hSw); go_simp; try with_reducible rfl)
      (try simp only [Act.put, List.setIfInBounds_toArray, List.set_cons_zero, List.set_cons_succ])
      refine wpAnyH_take (i := 2) (oi := ({ dst := some 19, op := Op.binOp BinOp.mul 3 (Operand.tmp 18) (Operand.const (Value.int IntKind.i64 64)) 3, type := 3, pos := "stamp.go:47", after := #[{ on := 1, ground := Ground.data }], guard := none } : Oper)) (v := ?_) rfl (by kernel_rfl) (by kernel_rfl) (by kernel_rfl) (fun _ _ _ h => h) (Or.inl ⟨by rfl, ?_⟩) hS ?_
      rotate_left
      · (intro w hSw; (try dsimp only at hSw); go_simp; try with_reducible rfl)
      (try simp only [Act.put, List.setIfInBounds_toArray, List.set_cons_zero, List.set_cons_succ])
      refine wpAnyH_take (i := 3) (oi := ({ dst := some 20, op := Op.slice 25 (Operand.tmp 17) (some (Operand.tmp 19)) none none, type := 25, pos := "stamp.go:47", after := #[{ on := 0, ground := Ground.data }, { on := 2, ground := Ground.data }], guard := none } : Oper)) (v := ?_) rfl (by kernel_rfl) (by kernel_rfl) (by kernel_rfl) (fun _ _ _ h => h) (Or.inl ⟨by rfl, ?_⟩) hS ?_
      rotate_left
      · (intro w hSw; (try dsimp only at hSw); go_simp; try with_reducible rfl)
      (try simp only [Act.put, List.setIfInBounds_toArray, List.set_cons_zero, List.set_cons_succ])
      refine wpAnyH_take (i := 4) (oi := ({ dst := some 21, op := Op.slice 27 (Operand.tmp 5) none none none, type := 25, pos := "stamp.go:47", after := #[], guard := none } : Oper)) (v := ?_) rfl (by kernel_rfl) (by kernel_rfl) (by kernel_rfl) (fun _ _ _ h => h) (Or.inl ⟨by rfl, ?_⟩) hS ?_
      rotate_left
      · (intro w hSw; (try dsimp only at hSw); go_simp; try with_reducible rfl)
      (try simp only [Act.put, List.setIfInBounds_toArray, List.set_cons_zero, List.set_cons_succ])
      refine rg_one 5 ({ dst := some 22, op := Op.call { callee := Callee.builtin Builtin.copy, args := #[Operand.tmp 20, Operand.tmp 21], argTypes := #[25, 25] }, type := 3, pos := "stamp.go:47", after := #[{ on := 3, ground := Ground.data }, { on := 4, ground := Ground.data }], guard := none } : Oper) (by kernel_rfl) rfl (fun K hK => ?_)
      refine step_copy_splice rfl (.tmp 20) (.tmp 21) 25 25 rfl 5 Try.underlying25 u8_size1 (some ⟨w.heap.size, m, none⟩) (some ⟨wr.heap.size, 0, none⟩) (t - m) (t - m) 64 64 rfl rfl w.heap.size m (il .u8 (laidN fs t m)) 5 HO2 (il .u8 z) HCL.out (fun _ => ⟨rfl, _, rfl, HCE.out⟩) HFIT.out (il_one _ _) w.heap.size w HB2.out.drew (Nat.le_refl _) ?_; intro w3 HG3 hb3; have HB3 := Lib.hid hb3; have hN := hb3; rw [il_splice] at HG3
      refine hK.out _ _ ?_ (fun hS1 => ?_)
      · (exact hN)
      clear hK K hS; have hS := hS1; clear hS1
      (try simp only [Act.put, List.setIfInBounds_toArray, List.set_cons_zero, List.set_cons_succ])
      refine wpAnyH_done (by kernel_rfl) ?_ _
      have HG4 : Hid (w3.heap[w.heap.size]? = some (.cells (il .u8 (laidN fs t ((i + 1) * 64))).toArray 5 (0, 0))) := by
        have h1 := laidN_splice fs t m HMT.out (by rw [HL.out, HT.out]; have := HMT.out; omega)
        rw [show min (fs.length - m) 64 = 64 from by rw [HL.out, HT.out]; have := HMT.out; omega, ← HM.out, HZL.out, HM.out] at h1
        have h2 := HG3.out
        rw [h1, ← HM.out, show i * 64 + 64 = (i + 1) * 64 from by omega] at h2
        exact Lib.hid h2
      clear HG3
      go_wp2
      go_roundw
      case rel => exact ⟨i + 1, by go_num, by omega, HG4, HB3⟩
      case measure => simp [intOf]; omega
    · have hq : i = n := by omega
      subst hq
      have HO2 := Lib.hid (show RI .u8 wr (.slice (some ⟨w.heap.size, 0, none⟩) t t) t fs from by
        refine RI.own (base := w.heap.size) ⟨?_, .inr ⟨w.heap.size, t, _, rfl, Nat.le_refl _, HO.out, Nat.le_refl _, by unfold maxLen; omega, ?_, ?_⟩⟩
        · rw [il_length, HL.out, HT.out]; omega
        · rw [List.size_toArray, il_length, laidN_length]; omega
        · rw [HT.out, laidN_full fs t (by rw [HL.out, HT.out])]
          exact List.take_of_length_le (by rw [il_length, HL.out, HT.out]; omega))
      go_wp2
      go_ret
      exact ⟨_, rfl, HO2.out, HB.out⟩
/-- a row that was just made, as it lies -/
theorem row_of {w : World} {B g : Nat} {e : TypeId} {n : Nat} {xs : List Value} (h : w.ownsRow B e 64 (.slice (some ⟨g, 0, none⟩) n n) n xs) : w.heap[g]? = some (.cells xs.toArray e (0, 0)) := by
  rcases h.2 with ⟨h', _⟩ | ⟨g', cap', cur, h', _, hg, _, _, hcs, htake⟩
  · simp at h'
  · simp only [Value.slice.injEq, Option.some.injEq, Addr.mk.injEq, and_true, true_and] at h'
    obtain ⟨rfl, rfl⟩ := h'
    rw [hg, ← htake, List.take_of_length_le (by simp [hcs])]
set_option maxRecDepth 8000 in
set_option maxHeartbeats 1000000 in
theorem secs_any (v : Value) (len : Nat) (zs : List Int) (w : World) (hri : RI .u8 w v len zs) (hlen : (len : Int) ≤ 100000000000) :
    Calls Try.prog 14 #[v] w fun e w' => ∃ v', e = .returned v' ∧ FS w' v' ((len + 63) / 64) (padn zs) ∧ Below w.heap.size w w' := by
  have HR := Lib.hid hri
  have HL := Lib.hid hri.length
  obtain ⟨a, c, rfl, _⟩ : ∃ a c, v = .slice a len c ∧ True := by obtain ⟨a, c, e, _⟩ := hri; exact ⟨a, c, e, trivial⟩
  obtain ⟨k, hk⟩ : ∃ k, (len + 63) / 64 = k := ⟨_, rfl⟩
  have HK := Lib.hid hk
  have hq : ((len : Int) + 64 - 1).tdiv 64 = (k : Int) := by rw [Int.tdiv_eq_ediv_of_nonneg (by omega)]; omega
  have hwk : wrap64 (k : Int) = (k : Int) := by unfold wrap64; omega
  have hk63 : (k : Int) ≤ 9223372036854775807 := by omega
  obtain ⟨i0, hi, hz0, hz1, hz2⟩ := info_parts sec_parts
  have HI := Lib.hid hi
  have HZ0 := Lib.hid hz0
  have HZ1 := Lib.hid hz1
  have hby : i0.bytes * k ≤ 281474976710656 := by rw [hz2]; omega
  rw [hk]
  clear hri hk hi hz0 hz1 hz2
  go_enter Try.func14, Try.ntmps14
  go_wp2_with (first
    | (at_make; refine wpList_make_full _ rfl (.tmp 9) (.tmp 9) 39 rfl w.heap.size 27 i0 (.agg (sv z64)) 64 Try.underlying39 HI.out HZ0.out HZ1.out .i64 .i64 k k k rfl rfl rfl rfl hby (by unfold maxLen; omega) (Nat.le_refl _) ?_; intro w1 hown hgrow; rw [made_secs, ← laidN_zero zs] at hown; have HO1 := Lib.hid (row_of hown); have HB1 := Lib.hid ((Below.refl w.heap.size w).grown hgrow (Nat.le_refl _) (by simp)); clear hown hgrow))
  go_loopw [13] (fun iv wr => ∃ i : Nat, iv = .int .i64 i ∧ i ≤ k ∧ Hid (wr.heap[w.heap.size]? = some (.cells (il .u8 (laidN zs (k * 64) (i * 64))).toArray 27 (0, 0))) ∧ Hid (Below w.heap.size w wr)) (fun iv _ => k - (intOf iv).toNat)
  case atStart => exact ⟨0, rfl, by omega, by simpa using HO1, HB1⟩
  case round =>
    obtain ⟨i, rfl, hi, HO, HB⟩ := hrel
    by_cases hlt : (i : Int) < (k : Int)
    · have hik : i < k := by omega
      have hil : i * 64 < len := by have := HK.out; omega
      obtain ⟨b, off, cp, e, hcp, hcp2, _⟩ := HR.out.open_ (by omega)
      simp only [Value.slice.injEq, true_and] at e
      obtain ⟨rfl, rfl⟩ := e
      obtain ⟨m, hm⟩ : ∃ m, i * 64 = m := ⟨_, rfl⟩
      have hmi : (i : Int) * 64 = (m : Int) := by omega
      have hw2 : IntKind.i64.wrap (m : Int) = (m : Int) := IntWalk.i64_in _ (by omega)
      have hci : ¬ c = m := by omega
      rw [hm] at HO
      have HRI := Lib.hid (HR.out.from' m (by omega) hci)
      have hg1 : (m : Int) ≤ (len : Int) := by omega
      have HIK := Lib.hid hik
      have HMK := Lib.hid (show m + 64 ≤ k * 64 from by omega)
      have HML := Lib.hid (show m < len from by omega)
      have HM := Lib.hid hm
      obtain ⟨q, hq2⟩ : ∃ q, len - m = q := ⟨_, rfl⟩
      have HQ := Lib.hid hq2
      have HCL : Hid ((il .u8 ((zs.drop m).take (min q 64))).length = Nat.min q 64) := by
        have h1 := HL.out
        show (il .u8 ((zs.drop m).take (min q 64))).length = min q 64
        rw [il_length, List.length_take, List.length_drop]; omega
      have HFIT : Hid (m + (il .u8 ((zs.drop m).take (min q 64))).length ≤ (il .u8 (laidN zs (k * 64) m)).length) := by
        have h1 := HMK.out
        show m + (il .u8 ((zs.drop m).take (min q 64))).length ≤ _
        rw [HCL.out, il_length, laidN_length]
        have h2 : Nat.min q 64 ≤ 64 := Nat.min_le_right _ _
        omega
      have HCE : Hid (∀ (j : Nat) (v : Value), (il .u8 ((zs.drop m).take (min q 64)))[j]? = some v → wr.cell? ((⟨b, off + m, none⟩ : Addr).add j) = some v) := by
        have hr := HRI.out.keep HB.out
        obtain ⟨ad, had, hce⟩ := hr.cells (by have := HML.out; omega)
        have e : ad = (⟨b, off + m, none⟩ : Addr) := by
          have h1 : some ((⟨b, off, none⟩ : Addr).add m) = some ad := had
          rw [← Option.some.inj h1]; unfold Addr.add; split <;> simp_all
        rw [e] at hce
        intro j v hv
        refine hce j v ?_
        have hj := (List.getElem?_eq_some_iff.1 hv).1
        rw [HCL.out] at hj
        have hj2 : j < min q 64 := hj
        rw [← hv]
        simp only [il, List.getElem?_map, List.getElem?_take, hj2, if_true]
      clear hik hil
      go_wp2
      refine wp_region_held_drew (S := (fun w' => Below w.heap.size w w')) (by kernel_rfl) HB.out.drew (fun hS => ?_)
      refine wpAnyH_take (i := 0) (oi := ({ dst := some 16, op := Op.move (Operand.tmp 3), type := 39, pos := "stamp.go:56", after := #[], guard := none } : Oper)) (v := ?_) rfl (by kernel_rfl) (by kernel_rfl) (by kernel_rfl) (fun _ _ _ h => h) (Or.inl ⟨by rfl, ?_⟩) hS ?_
      rotate_left
      · (intro w hSw; (try dsimp only at hSw); go_simp; try with_reducible rfl)
      (try simp only [Act.put, List.setIfInBounds_toArray, List.set_cons_zero, List.set_cons_succ])
      refine wpAnyH_take (i := 1) (oi := ({ dst := some 17, op := Op.move (Operand.tmp 4), type := 3, pos := "stamp.go:56", after := #[], guard := none } : Oper)) (v := ?_) rfl (by kernel_rfl) (by kernel_rfl) (by kernel_rfl) (fun _ _ _ h => h) (Or.inl ⟨by rfl, ?_⟩) hS ?_
      rotate_left
      · (intro w hSw; (try dsimp only at hSw); go_simp; try with_reducible rfl)
      (try simp only [Act.put, List.setIfInBounds_toArray, List.set_cons_zero, List.set_cons_succ])
      refine wpAnyH_take (i := 2) (oi := ({ dst := some 18, op := Op.indexAddr 39 (Operand.tmp 16) (Operand.tmp 17), type := 0, pos := "stamp.go:56", after := #[{ on := 0, ground := Ground.data }, { on := 1, ground := Ground.data }], guard := none } : Oper)) (v := ?_) rfl (by kernel_rfl) (by kernel_rfl) (by kernel_rfl) (fun _ _ _ h => h) (Or.inl ⟨by rfl, ?_⟩) hS ?_
      rotate_left
      · (intro w hSw; (try dsimp only at hSw); go_simp; try with_reducible rfl)
      (try simp only [Act.put, List.setIfInBounds_toArray, List.set_cons_zero, List.set_cons_succ])
      refine wpAnyH_take (i := 3) (oi := ({ dst := some 19, op := Op.slice 27 (Operand.tmp 18) none none none, type := 25, pos := "stamp.go:56", after := #[{ on := 2, ground := Ground.data }], guard := none } : Oper)) (v := ?_) rfl (by kernel_rfl) (by kernel_rfl) (by kernel_rfl) (fun _ _ _ h => h) (Or.inl ⟨by rfl, ?_⟩) hS ?_
      rotate_left
      · (intro w hSw; (try dsimp only at hSw); go_simp; try with_reducible rfl)
      (try simp only [Act.put, List.setIfInBounds_toArray, List.set_cons_zero, List.set_cons_succ])
      refine wpAnyH_take (i := 4) (oi := ({ dst := some 20, op := Op.move (Operand.tmp 0), type := 25, pos := "stamp.go:56", after := #[], guard := none } : Oper)) (v := ?_) rfl (by kernel_rfl) (by kernel_rfl) (by kernel_rfl) (fun _ _ _ h => h) (Or.inl ⟨by rfl, ?_⟩) hS ?_
      rotate_left
      · (intro w hSw; (try dsimp only at hSw); go_simp; try with_reducible rfl)
      (try simp only [Act.put, List.setIfInBounds_toArray, List.set_cons_zero, List.set_cons_succ])
      refine wpAnyH_take (i := 5) (oi := ({ dst := some 21, op := Op.move (Operand.tmp 4), type := 3, pos := "stamp.go:56", after := #[], guard := none } : Oper)) (v := ?_) rfl (by kernel_rfl) (by kernel_rfl) (by kernel_rfl) (fun _ _ _ h => h) (Or.inl ⟨by rfl, ?_⟩) hS ?_
      rotate_left
      · (intro w hSw; (try dsimp only at hSw); go_simp; try with_reducible rfl)
      (try simp only [Act.put, List.setIfInBounds_toArray, List.set_cons_zero, List.set_cons_succ])
      refine wpAnyH_take (i := 6) (oi := ({ dst := some 22, op := Op.binOp BinOp.mul 3 (Operand.tmp 21) (Operand.const (Value.int IntKind.i64 64)) 3, type := 3, pos := "stamp.go:56", after := #[{ on := 5, ground := Ground.data }], guard := none } : Oper)) (v := ?_) rfl (by kernel_rfl) (by kernel_rfl) (by kernel_rfl) (fun _ _ _ h => h) (Or.inl ⟨by rfl, ?_⟩) hS ?_
      rotate_left
      · (intro w hSw; (try dsimp only at hSw); go_simp; try with_reducible rfl)
      (try simp only [Act.put, List.setIfInBounds_toArray, List.set_cons_zero, List.set_cons_succ])
      refine wpAnyH_take (i := 7) (oi := ({ dst := some 23, op := Op.slice 25 (Operand.tmp 20) (some (Operand.tmp 22)) none none, type := 25, pos := "stamp.go:56", after := #[{ on := 4, ground := Ground.data }, { on := 6, ground := Ground.data }], guard := none } : Oper)) (v := ?_) rfl (by kernel_rfl) (by kernel_rfl) (by kernel_rfl) (fun _ _ _ h => h) (Or.inl ⟨by rfl, ?_⟩) hS ?_
      rotate_left
      · (intro w hSw; (try dsimp only at hSw); go_simp; try with_reducible rfl)
      (try simp only [Act.put, List.setIfInBounds_toArray, List.set_cons_zero, List.set_cons_succ])
      refine rg_one 8 ({ dst := some 24, op := Op.call { callee := Callee.builtin Builtin.copy, args := #[Operand.tmp 19, Operand.tmp 23], argTypes := #[25, 25] }, type := 3, pos := "stamp.go:56", after := #[{ on := 3, ground := Ground.data }, { on := 7, ground := Ground.data }], guard := none } : Oper) (by kernel_rfl) rfl (fun K hK => ?_)
      refine step_copy_splice rfl (.tmp 19) (.tmp 23) 25 25 rfl 5 Try.underlying25 u8_size1 (some ⟨w.heap.size, m, none⟩) (some ⟨b, off + m, none⟩) 64 64 q (c - m) rfl rfl w.heap.size m (il .u8 (laidN zs (k * 64) m)) 27 HO (il .u8 ((zs.drop m).take (min q 64))) HCL.out (fun _ => ⟨rfl, _, rfl, HCE.out⟩) HFIT.out (il_one _ _) w.heap.size w HB.out.drew (Nat.le_refl _) ?_; intro w3 HG3 hb3; have HB3 := Lib.hid hb3; have hN := hb3; rw [il_splice] at HG3
      refine hK.out _ _ ?_ (fun hS1 => ?_)
      · (exact hN)
      clear hK K hS; have hS := hS1; clear hS1
      (try simp only [Act.put, List.setIfInBounds_toArray, List.set_cons_zero, List.set_cons_succ])
      refine wpAnyH_done (by kernel_rfl) ?_ _
      have HG4 : Hid (w3.heap[w.heap.size]? = some (.cells (il .u8 (laidN zs (k * 64) ((i + 1) * 64))).toArray 27 (0, 0))) := by
        have h1 := laidN_splice zs (k * 64) m HMK.out (by rw [HL.out]; exact HML.out)
        rw [HL.out, HQ.out] at h1
        have h2 := HG3.out
        rw [h1, ← HM.out, show i * 64 + 64 = (i + 1) * 64 from by omega] at h2
        exact h2
      clear HG3
      go_wp2
      go_roundw
      case rel => exact ⟨i + 1, by go_num, by omega, HG4, HB3⟩
      case measure => simp [intOf]; omega
    · have hq2 : i = k := by omega
      subst hq2
      have HO2 := Lib.hid (show FS wr (.slice (some ⟨w.heap.size, 0, none⟩) i i) i (padn zs) from by
        refine FS.own (base := w.heap.size) ⟨?_, .inr ⟨w.heap.size, i, _, rfl, Nat.le_refl _, HO.out, Nat.le_refl _, by unfold maxLen; omega, ?_, ?_⟩⟩
        · rw [il_length, padn_length, HL.out, HK.out]
        · rw [List.size_toArray, il_length, laidN_length]
        · rw [laidN_all zs i (by rw [HL.out]; exact HK.out)]
          exact List.take_of_length_le (by rw [il_length, padn_length, HL.out, HK.out]; exact Nat.le_refl _))
      go_wp2
      go_ret
      exact ⟨_, rfl, HO2.out, HB.out⟩
end Go.Proofs.Ythomcemnkkbjoaa
