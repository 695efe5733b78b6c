/-
  WHAT THE PROGRAM'S OWN Put OF LAYER 10 (op) ANSWERS. No condition but a bound on the length of what is put behind.
-/
import Derived.Test.YtmcfnlfaclkbhaaOpRight
import Derived.Test.YtmcfnlfaclkbhaaConcat
import Derived.Test.YtmcfnlfaclkbhaaFieldPack
namespace Go.Proofs.Ytmcfnlfaclkbhaa
open Go.RowKit
set_option maxRecDepth 8000 in
set_option maxHeartbeats 1000000 in
theorem oput_wrong (v : Value) (len : Nat) (zs : List Int) (k : Int) (s t : ByteArray) (w : World) (_hri : RI .u8 w v len zs) (_hlen : (len : Int) ≤ 150000000000000) (hr : opRight k s t = false) :
    Calls Try.prog 16 #[v, .agg (oA k s t)] w fun e w' => e = .returned (.tuple #[.slice none 0 0, .int .i64 13]) ∧ Below w.heap.size w w' := by
  have hA0 : OB (w.alloc (.cells (oA k s t) 36)) w.heap.size k s t := heap_alloc_last w _
  have HA0 := Lib.hid hA0
  have HB0 := Lib.hid (balloc w (.cells (oA k s t) 36))
  have HR : Hid (∀ w, Calls Try.prog 17 #[.agg (oA k s t)] w fun e w' => e = .returned (.bool false) ∧ Below w.heap.size w w') := Lib.hid fun w => by rw [← hr]; exact oright_any k s t w
  clear hA0 hr
  go_enter Try.func16, Try.ntmps16
  go_wp2_with (first
    | (go_at_call 17; (with_reducible refine (HR.out _).mono ?_); rintro e w1 ⟨rfl, hb⟩; have HB1 := Lib.hid (bch HB0.out hb); clear hb))
  go_ret2
  exact ⟨rfl, HB1.out⟩
theorem Try.info_sl : (Try.prog.info? 24).map (fun i => (i.zero, i.size, i.bytes)) = some (some (.slice none 0 0), 1, 24) := by kernel_rfl
/-- a list of one field, as a row of the call's own -/
theorem UL_one {w : World} {fv : Value} {fl base : Nat} {fs : List Int} (h : RI .u8 w fv fl fs) (hb : base ≤ w.heap.size) (hap : ∀ g, fv.ownBlock = some g → ∃ c fr, w.heap[g]? = some (.cells c 5 fr)) :
    UL .u8 (w.alloc (.cells #[fv] 24)) base 24 (.slice (some ⟨w.heap.size, 0, none⟩) 1 1) 1 [fs] := by
  refine ⟨[fv], World.ownsRow_lit w #[fv] 1 hb (by unfold maxLen; omega) rfl, rfl, fun j e l he hl => ?_⟩
  match j, he, hl with
  | 0, he, hl =>
    simp at he hl
    subst he hl
    refine ⟨by rw [h.length]; exact h.keep (balloc _ _), fun _ g hg => ?_⟩
    obtain ⟨c, fr, hc⟩ := hap g hg
    exact .inr ⟨c, 5, fr, by rw [(balloc w _).block g (Array.getElem?_eq_some_iff.1 hc).1]; exact hc, by decide⟩
  | j + 1, he, _ => simp at he
/-- a list of three fields -/
theorem RL_three {w : World} {va vb vc : Value} {la lb lc : Nat} {xa xb xc : List Int} (ha : RI .u8 w va la xa) (hb : RI .u8 w vb lb xb) (hc : RI .u8 w vc lc xc) :
    RL .u8 (w.alloc (.cells #[va, vb, vc] 24)) (.slice (some ⟨w.heap.size, 0, none⟩) 3 3) 3 [xa, xb, xc] := by
  refine ⟨[va, vb, vc], ⟨_, 3, rfl, rfl, by omega, by omega, fun h => by simp at h, fun _ => ⟨_, 0, rfl, fun j hj => ?_⟩⟩, rfl, fun j e l he hl => ?_⟩
  · rw [Nat.zero_add]
    match j, hj with
    | 0, _ => exact cell_of_row _ _ 0 _ _ _ (heap_alloc_last w _)
    | 1, _ => exact cell_of_row _ _ 1 _ _ _ (heap_alloc_last w _)
    | 2, _ => exact cell_of_row _ _ 2 _ _ _ (heap_alloc_last w _)
  · match j, he, hl with
    | 0, he, hl => simp at he hl; subst he hl; rw [ha.length]; exact ha.keep (balloc _ _)
    | 1, he, hl => simp at he hl; subst he hl; rw [hb.length]; exact hb.keep (balloc _ _)
    | 2, he, hl => simp at he hl; subst he hl; rw [hc.length]; exact hc.keep (balloc _ _)
    | j + 3, he, _ => simp at he
set_option maxRecDepth 8000 in
set_option maxHeartbeats 4000000 in
theorem oput_right (v : Value) (len : Nat) (zs : List Int) (k : Int) (s t : ByteArray) (w : World) (hri : RI .u8 w v len zs) (hlen : (len : Int) ≤ 150000000000000) (hr : opRight k s t = true) :
    Calls Try.prog 16 #[v, .agg (oA k s t)] w fun e w' => ∃ v', e = .returned (.tuple #[v', .int .i64 0]) ∧ w'.ownsRow w.heap.size 5 1 v' (zs ++ opB k s t).length (il .u8 (zs ++ opB k s t)) ∧ Below w.heap.size w w' := by
  have hA0 : OB (w.alloc (.cells (oA k s t) 36)) w.heap.size k s t := heap_alloc_last w _
  have HA0 := Lib.hid hA0
  have HB0 := Lib.hid (balloc w (.cells (oA k s t) 36))
  have HR : Hid (∀ w, Calls Try.prog 17 #[.agg (oA k s t)] w fun e w' => e = .returned (.bool true) ∧ Below w.heap.size w w') := Lib.hid fun w => by rw [← hr]; exact oright_any k s t w
  have HRI := Lib.hid hri
  obtain ⟨h1, h2, h3, h4⟩ := right_parts hr
  obtain ⟨p0, c0, rfl⟩ : ∃ a c, v = .slice a len c := by obtain ⟨a, c, e, _⟩ := hri; exact ⟨a, c, e⟩
  have hbk : ∀ (w : World) (c n m : Nat), (∃ cur fr, w.heap[n]? = some (.cells cur 5 fr)) → ∀ g, (Value.slice (some ⟨n, 0, none⟩) m c).ownBlock = some g → ∃ c fr, w.heap[g]? = some (.cells c 5 fr) := fun w c n m h g hg => by
    simp only [Value.ownBlock, Option.some.injEq] at hg; subst hg; exact h
  have HBK := Lib.hid hbk
  clear hbk
  have hwk : IntKind.u8.wrap k = k := by rcases h4 with rfl | ⟨rfl, _⟩ <;> rfl
  obtain ⟨m12, hm12⟩ : ∃ m, (zs ++ opB k s t).length = m := ⟨_, rfl⟩
  have hm13 : (m12 : Int) ≤ 200000000000000 := by have h5 := (opB_len hr).1; rw [List.length_append, hri.length] at hm12; omega
  have HM12 := Lib.hid hm12
  clear hA0 hr hri
  rcases h4 with hk | ⟨hk, h4⟩
  focus
    have HOP : Hid (opB k s t = [k] ++ pk [sl s, sl t]) := Lib.hid (by unfold opB; rw [if_pos hk, List.append_assoc, ← pk_append]; rfl)
    have hb1 : (k == 1) = true := by simp [hk]
    clear hk
    go_enter Try.func16, Try.ntmps16
    go_wp2_with (first
      | (go_at_call 17; (with_reducible refine (HR.out _).mono ?_); rintro e w1 ⟨rfl, hb⟩; obtain ⟨z0, z1, z2⟩ := (HA0.out.keep hb).cells; have HA1 := Lib.hid (HA0.out.keep hb); have HB1 := Lib.hid (bch HB0.out hb); clear hb)
      | (refine wpl_bytes_ty rfl (.tmp 11) rfl s (by omega) rfl ?_; rintro v6 w6 hr6 hb6 ⟨c6, rfl⟩ hty6; have HU6 := Lib.hid (UL_one (base := w.heap.size) hr6 (Nat.le_trans HB1.out.size hb6.size) (HBK.out _ _ _ _ hty6)); have HB6 := Lib.hid (bch HB1.out (bch hb6 (balloc w6 (.cells #[.slice (some ⟨w1.heap.size, 0, none⟩) s.size c6] 24)))); have HA6 := HA1.out.keep (bch hb6 (balloc w6 (.cells #[.slice (some ⟨w1.heap.size, 0, none⟩) s.size c6] 24))); obtain ⟨y0, y1, y2⟩ := HA6.cells; replace HA6 := Lib.hid HA6; have HS6 := Lib.hid hb6; clear hr6 hb6 hty6)
      | (refine wpl_bytes_ty rfl (.tmp 19) rfl t (by omega) rfl ?_; rintro v7 w7 hr7 hb7 ⟨c7, rfl⟩ hty7; rw [show (w6.alloc (.cells #[.slice (some ⟨w1.heap.size, 0, none⟩) s.size c6] 24)).heap.size = w6.heap.size + 1 from by simp] at hr7 hty7; have hb8 := bch hb7 (balloc w7 (.cells #[.slice (some ⟨w6.heap.size + 1, 0, none⟩) t.size c7] 24)); have HU7 := Lib.hid (HU6.out.keep hb8); have HA7 := Lib.hid (HA6.out.keep hb8); have HB7 := Lib.hid (bch HB6.out hb8); have HR7 := Lib.hid (hr7.keep (balloc w7 (.cells #[.slice (some ⟨w6.heap.size + 1, 0, none⟩) t.size c7] 24))); have HT7 := Lib.hid hty7; have HS7 := Lib.hid hb7; clear hr7 hb7 hty7 hb8)
      | (at_builtin; go_loud (refine wpl_app1g rfl (.tmp 17) (.tmp 21) 45 rfl 24 .u8 24 Try.underlying45 Try.info_sl w.heap.size _ 1 [sl s] rfl HU7 ⟨w7.heap.size, 0, none⟩ (.slice (some ⟨w6.heap.size + 1, 0, none⟩) t.size c7) (sl t) rfl (alloc_cell _ _ _) (by rw [sl_length]; exact HR7.out) (fun _ g hg => (by obtain ⟨c, fr, hc⟩ := HBK.out _ _ _ _ HT7.out g hg; exact .inr ⟨c, 5, fr, by rw [(balloc w7 _).block g (Array.getElem?_eq_some_iff.1 hc).1]; exact hc, by decide⟩)) (by omega) (by omega) w.heap.size w HB7 (Nat.le_refl _) HB7.out.size ?_); intro v8 w8 HU8 HB8 HG8; replace HG8 : Hid (World.grownBy (w7.alloc (.cells #[.slice (some ⟨w6.heap.size + 1, 0, none⟩) t.size c7] 24)) w8 (some w6.heap.size)) := HG8))
    have HA8 : Hid (OB w8 w.heap.size k s t) := Lib.hid ((HG8.out.block _ HA7.out.lt (fun e => by have e2 := Option.some.inj e; have := HA1.out.lt; have := HS6.out.size; omega)).trans HA7.out)
    have HZ8 := Lib.hid HA8.out.cells.1
    have HR8 := Lib.hid (HRI.out.keep HB8.out)
    obtain ⟨fs, nf, hnf, HF8, HOQ⟩ : ∃ fs nf, nf ≤ 2 ∧ Hid (RL .u8 w8 v8 nf fs) ∧ Hid (opB k s t = [k] ++ pk fs) := ⟨_, _, by omega, Lib.hid HU8.out.rl, HOP⟩
    obtain ⟨p8, c8, rfl, _⟩ := HF8.out.form
    clear z0 z1 z2 y0 y1 y2 HOP HU6 HU7 HU8 HG8 HA8 HA7 HA6 HA1 HR7 HT7 HS7 HS6 HB7 HB6 HB1 HBK HR HA0 HB0 hb1
  rotate_left
  focus
    have HOP : Hid (opB k s t = [k] ++ pk [sl s]) := Lib.hid (by unfold opB; rw [if_neg (by omega), List.append_nil])
    have hb1 : (k == 1) = false := by simp [hk]
    clear hk
    go_enter Try.func16, Try.ntmps16
    go_wp2_with (first
      | (go_at_call 17; (with_reducible refine (HR.out _).mono ?_); rintro e w1 ⟨rfl, hb⟩; obtain ⟨z0, z1, z2⟩ := (HA0.out.keep hb).cells; have HA1 := Lib.hid (HA0.out.keep hb); have HB1 := Lib.hid (bch HB0.out hb); clear hb)
      | (refine wpl_bytes_ty rfl (.tmp 11) rfl s (by omega) rfl ?_; rintro v6 w6 hr6 hb6 ⟨c6, rfl⟩ hty6; have HU6 := Lib.hid (UL_one (base := w.heap.size) hr6 (Nat.le_trans HB1.out.size hb6.size) (HBK.out _ _ _ _ hty6)); have HB6 := Lib.hid (bch HB1.out (bch hb6 (balloc w6 (.cells #[.slice (some ⟨w1.heap.size, 0, none⟩) s.size c6] 24)))); have HA6 := HA1.out.keep (bch hb6 (balloc w6 (.cells #[.slice (some ⟨w1.heap.size, 0, none⟩) s.size c6] 24))); obtain ⟨y0, y1, y2⟩ := HA6.cells; replace HA6 := Lib.hid HA6; clear hr6 hb6 hty6))
    clear z0 z1 z2 y0 y1 y2
    obtain ⟨w8, hw8⟩ : ∃ x, w6.alloc (.cells #[.slice (some ⟨w1.heap.size, 0, none⟩) s.size c6] 24) = x := ⟨_, rfl⟩
    rw [hw8] at HU6 HB6 HA6 ⊢
    have HB8 := HB6
    have HZ8 := Lib.hid HA6.out.cells.1
    have HR8 := Lib.hid (HRI.out.keep HB8.out)
    obtain ⟨fs, nf, hnf, HF8, HOQ⟩ : ∃ fs nf, nf ≤ 2 ∧ Hid (RL .u8 w8 (.slice (some ⟨w6.heap.size, 0, none⟩) 1 1) nf fs) ∧ Hid (opB k s t = [k] ++ pk fs) := ⟨_, _, by omega, Lib.hid HU6.out.rl, HOP⟩
    clear HOP HU6 HA6 HA1 HB6 HB1 HBK HR HA0 HB0 hb1 hw8
  all_goals
    have HFL : Hid ([zs, [k], pk fs].flatten = zs ++ opB k s t) := Lib.hid (by rw [HOQ.out]; simp)
    refine wp_region_held_drew (S := (fun W' => Below w8.heap.size w8 W')) (by kernel_rfl) ((Below.refl _ _).drew) (fun hS => ?_)
    refine wpAnyH_take (i := 0) (oi := ({ dst := some 23, op := Op.move (Operand.tmp 0), type := 24, pos := "op.go:34", after := #[], guard := none } : Oper)) (v := ?_) rfl (by kernel_rfl) (by kernel_rfl) (by kernel_rfl) (fun _ _ _ h => h) (Or.inl ⟨by rfl, ?_⟩) hS ?_
    rotate_left
    · (intro w hSw; (try dsimp only at hSw); go_simp; try with_reducible rfl)
    (try simp only [Act.put, List.setIfInBounds_toArray, List.set_cons_zero, List.set_cons_succ])
    refine wpAnyH_take (i := 1) (oi := ({ dst := some 24, op := Op.fieldAddr 36 (Operand.tmp 3) 0, type := 0, pos := "op.go:34", after := #[], guard := none } : Oper)) (v := ?_) rfl (by kernel_rfl) (by kernel_rfl) (by kernel_rfl) (fun _ _ _ h => h) (Or.inl ⟨by rfl, ?_⟩) hS ?_
    rotate_left
    · (intro w hSw; (try dsimp only at hSw); go_simp; try with_reducible rfl)
    (try simp only [Act.put, List.setIfInBounds_toArray, List.set_cons_zero, List.set_cons_succ])
    refine wpAnyH_take (i := 2) (oi := ({ dst := some 25, op := Op.load 3 (Operand.tmp 24), type := 3, pos := "op.go:34", after := #[{ on := 1, ground := Ground.data }], guard := none } : Oper)) (v := ?_) rfl (by kernel_rfl) (by kernel_rfl) (by kernel_rfl) (fun _ _ _ h => h) (Or.inl ⟨by rfl, ?_⟩) hS ?_
    rotate_left
    · (intro w hSw; (try dsimp only at hSw); have z := cell_keep hSw HZ8.out; go_simp; try with_reducible rfl)
    (try simp only [Act.put, List.setIfInBounds_toArray, List.set_cons_zero, List.set_cons_succ])
    refine wpAnyH_take (i := 3) (oi := ({ dst := some 26, op := Op.convert 3 5 (Operand.tmp 25), type := 5, pos := "op.go:34", after := #[{ on := 2, ground := Ground.data }], guard := none } : Oper)) (v := ?_) rfl (by kernel_rfl) (by kernel_rfl) (by kernel_rfl) (fun _ _ _ h => h) (Or.inl ⟨by rfl, ?_⟩) hS ?_
    rotate_left
    · (intro w hSw; (try dsimp only at hSw); go_simp; try with_reducible rfl)
    (try simp only [Act.put, List.setIfInBounds_toArray, List.set_cons_zero, List.set_cons_succ])
    refine wpAnyH_take (i := 5) (oi := ({ dst := some 28, op := Op.move (Operand.tmp 6), type := 45, pos := "op.go:34", after := #[], guard := none } : Oper)) (v := ?_) rfl (by kernel_rfl) (by kernel_rfl) (by kernel_rfl) (fun _ _ _ h => h) (Or.inl ⟨by rfl, ?_⟩) hS ?_
    rotate_left
    · (intro w hSw; (try dsimp only at hSw); go_simp; try with_reducible rfl)
    (try simp only [Act.put, List.setIfInBounds_toArray, List.set_cons_zero, List.set_cons_succ])
    refine rg_both 4 6 ({ dst := some 27, op := Op.buildSlice 24 1 #[(0, Operand.tmp 26)], type := 24, pos := "op.go:34", after := #[{ on := 3, ground := Ground.data }], guard := none } : Oper) ({ dst := some 29, op := Op.call { callee := Callee.value (Operand.func 24), args := #[Operand.tmp 28], argTypes := #[45] }, type := 24, pos := "op.go:34", after := #[{ on := 5, ground := Ground.data }], guard := none } : Oper) (by kernel_rfl) rfl rfl (fun K hK => ?_) (fun K hK => ?_)
    · skip
      go_simp
      obtain ⟨w9, hw9⟩ : ∃ w9, (World.alloc w8 (.cells #[.int .u8 k] 5)).drew = w9 := ⟨_, rfl⟩; have hb9 : Below (World.heap w8.drew).size w8.drew w9 := (by rw [← hw9]; exact bdrew _ _); have HK9 := Lib.hid (own_lit1d (base := w8.heap.size) hw9 (Nat.le_refl _) rfl); rw [hw9]; (try clear hN); have hN := hS.trans (hb9.mono hS.size)
      refine hK.out _ _ ?_ (fun hS1 => ?_)
      · (first | exact hN | exact hS)
      clear hK K hS; have hS := hS1; clear hS1
      (try simp only [Act.put, List.setIfInBounds_toArray, List.set_cons_zero, List.set_cons_succ])
      refine rg_one 6 ({ dst := some 29, op := Op.call { callee := Callee.value (Operand.func 24), args := #[Operand.tmp 28], argTypes := #[45] }, type := 24, pos := "op.go:34", after := #[{ on := 5, ground := Ground.data }], guard := none } : Oper) (by kernel_rfl) rfl (fun K hK => ?_)
      go_simp
      (go_at_call 24; (with_reducible refine (fpack_any _ _ fs _ (HF8.out.keep hS) (by omega) _ rfl).mono ?_); rintro e w10 ⟨v10, rfl, hr10, hb10⟩; obtain ⟨p10, c10, rfl⟩ : ∃ a c, v10 = .slice a (pk fs).length c := (by obtain ⟨a, c, e, _⟩ := hr10; exact ⟨a, c, e⟩); have HR10 := Lib.hid hr10; have HK10 := Lib.hid ((RI.own HK9.out).keep hb10); clear hr10; (try clear hN); have hN := hS.trans (hb10.mono hS.size))
      refine hK.out _ _ ?_ (fun hS1 => ?_)
      · (first | exact hN | exact hS)
      clear hK K hS; have hS := hS1; clear hS1
      (try simp only [Act.put, List.setIfInBounds_toArray, List.set_cons_zero, List.set_cons_succ])
      refine rg_one 7 ({ dst := some 30, op := Op.buildSlice 45 3 #[(0, Operand.tmp 23), (1, Operand.tmp 27), (2, Operand.tmp 29)], type := 45, pos := "op.go:34", after := #[{ on := 0, ground := Ground.data }, { on := 4, ground := Ground.data }, { on := 6, ground := Ground.data }], guard := none } : Oper) (by kernel_rfl) rfl (fun K hK => ?_)
      go_simp
      have hl11 := RL_three (HR8.out.keep hS) HK10.out HR10.out; obtain ⟨w11, hw11⟩ : ∃ w11, World.alloc w10 (.cells #[.slice p0 len c0, .slice (some ⟨w8.heap.size, 0, none⟩) 1 1, .slice p10 (pk fs).length c10] 24) = w11 := ⟨_, rfl⟩; rw [hw11] at hl11; have hb11 : Below (World.heap w10).size w10 w11 := (by rw [← hw11]; exact balloc _ _); have HL11 := Lib.hid hl11; clear hl11; rw [hw11]; (try clear hN); have hN := hS.trans (hb11.mono hS.size)
      refine hK.out _ _ ?_ (fun hS1 => ?_)
      · (first | exact hN | exact hS)
      clear hK K hS; have hS := hS1; clear hS1
      (try simp only [Act.put, List.setIfInBounds_toArray, List.set_cons_zero, List.set_cons_succ])
      refine rg_one 8 ({ dst := some 31, op := Op.call { callee := Callee.value (Operand.func 23), args := #[Operand.tmp 30], argTypes := #[45] }, type := 24, pos := "op.go:34", after := #[{ on := 7, ground := Ground.data }, { on := 6, ground := Ground.chain }], guard := none } : Oper) (by kernel_rfl) rfl (fun K hK => ?_)
      go_simp
      (go_at_call 23; (with_reducible refine (concat_some _ 0 3 3 [zs, [k], pk fs] _ HL11.out (by omega) m12 (by rw [HFL.out]; exact HM12.out) hm13).mono ?_); rintro e w12 ⟨v12, rfl, ho12, hb12⟩; have HO12 := Lib.hid (own_mono ho12 (Nat.le_trans HB8.out.size hS.size)); clear ho12; (try clear hN); have hN := hS.trans (hb12.mono hS.size))
      refine hK.out _ _ ?_ (fun hS1 => ?_)
      · (first | exact hN | exact hS)
      clear hK K hS; have hS := hS1; clear hS1
      (try simp only [Act.put, List.setIfInBounds_toArray, List.set_cons_zero, List.set_cons_succ])
      refine wpAnyH_take (i := 9) (oi := ({ dst := some 4, op := Op.assign (Operand.tmp 31), type := 24, pos := "op.go:34", after := #[{ on := 8, ground := Ground.data }, { on := 8, ground := Ground.chain }, { on := 0, ground := Ground.phase }, { on := 1, ground := Ground.phase }, { on := 2, ground := Ground.phase }, { on := 3, ground := Ground.phase }, { on := 4, ground := Ground.phase }, { on := 5, ground := Ground.phase }, { on := 6, ground := Ground.phase }, { on := 7, ground := Ground.phase }, { on := 8, ground := Ground.phase }], guard := none } : Oper)) (v := ?_) rfl (by kernel_rfl) (by kernel_rfl) (by kernel_rfl) (fun _ _ _ h => h) (Or.inl ⟨by rfl, ?_⟩) hS ?_
      rotate_left
      · (intro w hSw; (try dsimp only at hSw); go_simp; try with_reducible rfl)
      (try simp only [Act.put, List.setIfInBounds_toArray, List.set_cons_zero, List.set_cons_succ])
      refine wpAnyH_take (i := 10) (oi := ({ dst := some 5, op := Op.assign (Operand.const (Value.int IntKind.i64 0)), type := 25, pos := "op.go:34", after := #[{ on := 9, ground := Ground.chain }, { on := 0, ground := Ground.phase }, { on := 1, ground := Ground.phase }, { on := 2, ground := Ground.phase }, { on := 3, ground := Ground.phase }, { on := 4, ground := Ground.phase }, { on := 5, ground := Ground.phase }, { on := 6, ground := Ground.phase }, { on := 7, ground := Ground.phase }, { on := 8, ground := Ground.phase }, { on := 9, ground := Ground.phase }], guard := none } : Oper)) (v := ?_) rfl (by kernel_rfl) (by kernel_rfl) (by kernel_rfl) (fun _ _ _ h => h) (Or.inl ⟨by rfl, ?_⟩) hS ?_
      rotate_left
      · (intro w hSw; (try dsimp only at hSw); go_simp; try with_reducible rfl)
      (try simp only [Act.put, List.setIfInBounds_toArray, List.set_cons_zero, List.set_cons_succ])
      refine wpAnyH_done (by kernel_rfl) ?_ _
      have HB12 := Lib.hid (bch HB8.out hS)
      clear hS hN
      go_wp2
      go_ret2
      have h5 := HO12.out
      rw [HFL.out] at h5
      rw [HM12.out]
      exact ⟨_, rfl, h5, HB12.out⟩
    · skip
      go_simp
      (go_at_call 24; (with_reducible refine (fpack_any _ _ fs _ (HF8.out.keep hS) (by omega) _ rfl).mono ?_); rintro e w9 ⟨v10, rfl, hr10, hb10⟩; obtain ⟨p10, c10, rfl⟩ : ∃ a c, v10 = .slice a (pk fs).length c := (by obtain ⟨a, c, e, _⟩ := hr10; exact ⟨a, c, e⟩); have HR9 := Lib.hid hr10; clear hr10; (try clear hN); have hN := hS.trans (hb10.mono hS.size))
      refine hK.out _ _ ?_ (fun hS1 => ?_)
      · (first | exact hN | exact hS)
      clear hK K hS; have hS := hS1; clear hS1
      (try simp only [Act.put, List.setIfInBounds_toArray, List.set_cons_zero, List.set_cons_succ])
      refine rg_one 4 ({ dst := some 27, op := Op.buildSlice 24 1 #[(0, Operand.tmp 26)], type := 24, pos := "op.go:34", after := #[{ on := 3, ground := Ground.data }], guard := none } : Oper) (by kernel_rfl) rfl (fun K hK => ?_)
      go_simp
      obtain ⟨w10, hw10⟩ : ∃ w10, World.alloc w9 (.cells #[.int .u8 k] 5) = w10 := ⟨_, rfl⟩; have hb10 : Below (World.heap w9).size w9 w10 := (by rw [← hw10]; exact balloc _ _); have HK10 := Lib.hid (RI.own (own_lit1 (base := w9.heap.size) hw10 (Nat.le_refl _))); have HR10 := Lib.hid (HR9.out.keep hb10); rw [hw10]; (try clear hN); have hN := hS.trans (hb10.mono hS.size)
      refine hK.out _ _ ?_ (fun hS1 => ?_)
      · (first | exact hN | exact hS)
      clear hK K hS; have hS := hS1; clear hS1
      (try simp only [Act.put, List.setIfInBounds_toArray, List.set_cons_zero, List.set_cons_succ])
      refine rg_one 7 ({ dst := some 30, op := Op.buildSlice 45 3 #[(0, Operand.tmp 23), (1, Operand.tmp 27), (2, Operand.tmp 29)], type := 45, pos := "op.go:34", after := #[{ on := 0, ground := Ground.data }, { on := 4, ground := Ground.data }, { on := 6, ground := Ground.data }], guard := none } : Oper) (by kernel_rfl) rfl (fun K hK => ?_)
      go_simp
      have hl11 := RL_three (HR8.out.keep hS) HK10.out HR10.out; obtain ⟨w11, hw11⟩ : ∃ w11, World.alloc w10 (.cells #[.slice p0 len c0, .slice (some ⟨w9.heap.size, 0, none⟩) 1 1, .slice p10 (pk fs).length c10] 24) = w11 := ⟨_, rfl⟩; rw [hw11] at hl11; have hb11 : Below (World.heap w10).size w10 w11 := (by rw [← hw11]; exact balloc _ _); have HL11 := Lib.hid hl11; clear hl11; rw [hw11]; (try clear hN); have hN := hS.trans (hb11.mono hS.size)
      refine hK.out _ _ ?_ (fun hS1 => ?_)
      · (first | exact hN | exact hS)
      clear hK K hS; have hS := hS1; clear hS1
      (try simp only [Act.put, List.setIfInBounds_toArray, List.set_cons_zero, List.set_cons_succ])
      refine rg_one 8 ({ dst := some 31, op := Op.call { callee := Callee.value (Operand.func 23), args := #[Operand.tmp 30], argTypes := #[45] }, type := 24, pos := "op.go:34", after := #[{ on := 7, ground := Ground.data }, { on := 6, ground := Ground.chain }], guard := none } : Oper) (by kernel_rfl) rfl (fun K hK => ?_)
      go_simp
      (go_at_call 23; (with_reducible refine (concat_some _ 0 3 3 [zs, [k], pk fs] _ HL11.out (by omega) m12 (by rw [HFL.out]; exact HM12.out) hm13).mono ?_); rintro e w12 ⟨v12, rfl, ho12, hb12⟩; have HO12 := Lib.hid (own_mono ho12 (Nat.le_trans HB8.out.size hS.size)); clear ho12; (try clear hN); have hN := hS.trans (hb12.mono hS.size))
      refine hK.out _ _ ?_ (fun hS1 => ?_)
      · (first | exact hN | exact hS)
      clear hK K hS; have hS := hS1; clear hS1
      (try simp only [Act.put, List.setIfInBounds_toArray, List.set_cons_zero, List.set_cons_succ])
      refine wpAnyH_take (i := 9) (oi := ({ dst := some 4, op := Op.assign (Operand.tmp 31), type := 24, pos := "op.go:34", after := #[{ on := 8, ground := Ground.data }, { on := 8, ground := Ground.chain }, { on := 0, ground := Ground.phase }, { on := 1, ground := Ground.phase }, { on := 2, ground := Ground.phase }, { on := 3, ground := Ground.phase }, { on := 4, ground := Ground.phase }, { on := 5, ground := Ground.phase }, { on := 6, ground := Ground.phase }, { on := 7, ground := Ground.phase }, { on := 8, ground := Ground.phase }], guard := none } : Oper)) (v := ?_) rfl (by kernel_rfl) (by kernel_rfl) (by kernel_rfl) (fun _ _ _ h => h) (Or.inl ⟨by rfl, ?_⟩) hS ?_
      rotate_left
      · (intro w hSw; (try dsimp only at hSw); go_simp; try with_reducible rfl)
      (try simp only [Act.put, List.setIfInBounds_toArray, List.set_cons_zero, List.set_cons_succ])
      refine wpAnyH_take (i := 10) (oi := ({ dst := some 5, op := Op.assign (Operand.const (Value.int IntKind.i64 0)), type := 25, pos := "op.go:34", after := #[{ on := 9, ground := Ground.chain }, { on := 0, ground := Ground.phase }, { on := 1, ground := Ground.phase }, { on := 2, ground := Ground.phase }, { on := 3, ground := Ground.phase }, { on := 4, ground := Ground.phase }, { on := 5, ground := Ground.phase }, { on := 6, ground := Ground.phase }, { on := 7, ground := Ground.phase }, { on := 8, ground := Ground.phase }, { on := 9, ground := Ground.phase }], guard := none } : Oper)) (v := ?_) rfl (by kernel_rfl) (by kernel_rfl) (by kernel_rfl) (fun _ _ _ h => h) (Or.inl ⟨by rfl, ?_⟩) hS ?_
      rotate_left
      · (intro w hSw; (try dsimp only at hSw); go_simp; try with_reducible rfl)
      (try simp only [Act.put, List.setIfInBounds_toArray, List.set_cons_zero, List.set_cons_succ])
      refine wpAnyH_done (by kernel_rfl) ?_ _
      have HB12 := Lib.hid (bch HB8.out hS)
      clear hS hN
      go_wp2
      go_ret2
      have h5 := HO12.out
      rw [HFL.out] at h5
      rw [HM12.out]
      exact ⟨_, rfl, h5, HB12.out⟩
end Go.Proofs.Ytmcfnlfaclkbhaa
