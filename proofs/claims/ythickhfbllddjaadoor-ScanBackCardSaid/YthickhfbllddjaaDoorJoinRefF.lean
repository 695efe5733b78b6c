/-
  WHAT Feed OF THE REFERENCE OF LAYER 15 (join) ANSWERS. Bytes must lie where the slices say; a bound on their number.
-/
import Derived.Test.YthickhfbllddjaaDoorJ4
import Derived.Test.YthickhfbllddjaaDoorJ1
import Derived.Test.YthickhfbllddjaaDoorJ5
namespace Go.Proofs.YthickhfbllddjaaDoor
open Go.RowKit
abbrev kA (o : Bool) (v : Value) : Array Value := #[.bool o, v]
theorem kj_info (o : Bool) (v : Value) : (Tryd.prog.info? 61).map (·.size) = some (kA o v).size := by
  rw [show (kA o v).size = 2 from rfl]; kernel_rfl
theorem kj_one (o : Bool) (a : Option Addr) (n m : Nat) : (kA o (.slice a n m)).all (·.oneCell') = true := by simp [kA, Value.oneCell']
theorem results_row_tmp3 {fn : Func} {p u x y : Tmp} {ty : TypeId} {P : Program} (h : fn.results = #[.cell p ty, .tmp u, .tmp x, .tmp y]) (tmps : Array Value) (w : World) (g : Nat) (v : Value)
    (hp : tmps.getD p undef = .pointer (some ⟨g, 0, none⟩)) (hl : (loadVar ty ⟨g, 0, none⟩).run P w = .ok v w) :
    (results fn tmps).run P w = .ok (.tuple #[v, tmps.getD u undef, tmps.getD x undef, tmps.getD y undef]) w := by
  have hp' : tmps[p]?.getD undef = .pointer (some ⟨g, 0, none⟩) := by simpa using hp
  simp [results, h, hp', asAddr, hl, Result.andThen]
/-- the block b holds a joiner of the reference -/
def KO (w : World) (b : Nat) (o : Bool) (v : Value) : Prop := w.heap[b]? = some (.cells (kA o v) 61 (0, 0))
section
variable {w w' : World} {b b' : Nat} {o : Bool} {v : Value}
theorem KO.lt (h : KO w b o v) : b < w.heap.size := (Array.getElem?_eq_some_iff.1 h).1
theorem KO.keep (h : KO w b o v) (hb : Below w.heap.size w w') : KO w' b o v := (hb.block b h.lt).trans h
theorem KO.row (h : KO w b o v) (o' : Bool) (v' : Value) : KO (w.setRow b (kA o' v')) b o' v' := setRow_heap w b _ _ _ _ h
theorem KO.cells (h : KO w b o v) : w.cell? ⟨b, 0, none⟩ = some (.bool o) ∧ w.cell? ⟨b, 1, none⟩ = some v := ⟨cell_of_row w b 0 _ _ _ h, cell_of_row w b 1 _ _ _ h⟩
theorem KO.load (h : KO w b o v) : (loadVar 61 ⟨b, 0, none⟩).run Tryd.prog w = .ok (.agg (kA o v)) w :=
  run_loadVar_row w b _ 61 (kA o v) (0, 0) _ h Tryd.underlying61 rfl (kj_info _ _)
theorem KO.ne_own (h : KO w b o v) {base n k : Nat} {t : TypeId} {u : Value} {xs : List Value} (ho : w.ownsRow base t k u n xs) (ht : t ≠ 61) : ∀ q, u.ownBlock = some q → q ≠ b := by
  intro q hq e
  subst e
  rcases ho.2 with ⟨rfl, _⟩ | ⟨q', cap, cur, rfl, _, hcur, _⟩
  · simp [Value.ownBlock] at hq
  · simp only [Value.ownBlock, Option.some.injEq] at hq
    subst hq
    rw [h] at hcur
    simp only [Option.some.injEq, Obj.cells.injEq] at hcur
    exact ht hcur.2.1.symm
theorem KO.row_own (h : KO w b o v) (x : Array Value) {base n k : Nat} {t : TypeId} {u : Value} {xs : List Value} (ho : w.ownsRow base t k u n xs) (ht : t ≠ 61) : (w.setRow b x).ownsRow base t k u n xs :=
  own_over ho ⟨rfl, rfl, rfl, by simp, fun i _ hne => setRow_other w b i x (fun e => hne (by rw [e]))⟩ (fun g hg e => h.ne_own ho ht g hg (Option.some.inj e))
theorem KO.grown (h : KO w b o v) {base n k : Nat} {t : TypeId} {u : Value} {xs : List Value} (ho : w.ownsRow base t k u n xs) (ht : t ≠ 61) (hg : w.grownBy w' u.ownBlock) : KO w' b o v :=
  (hg.block b h.lt (fun e => h.ne_own ho ht b e.symm rfl)).trans h
end
theorem alloc3 (w : World) (x y z : Obj) : (((w.alloc x).alloc y).alloc z).heap[w.heap.size]? = some x ∧ (((w.alloc x).alloc y).alloc z).heap[w.heap.size + 1]? = some y ∧ (((w.alloc x).alloc y).alloc z).heap[w.heap.size + 1 + 1]? = some z := by
  have h1 : (w.alloc x).heap.size = w.heap.size + 1 := by simp
  have h2 : ((w.alloc x).alloc y).heap.size = w.heap.size + 1 + 1 := by simp
  refine ⟨?_, ?_, ?_⟩
  · rw [(fbelow2 (w.alloc x) y z).block _ (by omega)]; exact heap_alloc_last w x
  · rw [(balloc ((w.alloc x).alloc y) z).block _ (by omega), ← h1]; exact heap_alloc_last _ y
  · rw [← h2]; exact heap_alloc_last _ z
theorem kbelow3 (w : World) (x y z : Obj) : Below w.heap.size w (((w.alloc x).alloc y).alloc z) := bch (fbelow2 w x y) (balloc _ z)
set_option maxRecDepth 8000 in
set_option maxHeartbeats 4000000 in
/-- a record's end -/
theorem rfeed_ends (o : Bool) (v : Value) (h : List Int) (k ep : Int) (dv : Value) (n : Nat) (d : List Int) (w : World) (hrh : RI .u8 w v h.length h) (hfew : h.length ≤ 512) (hri : RI .u8 w dv n d) (_hn1 : (n : Int) ≤ 140737488351232)
    (hk : (o = false ∧ k = 1) ∨ (o = true ∧ k = 4)) (hl : ¬ h.length + n > 512) :
    Calls Tryd.prog 22 #[.agg (kA o v), .agg (fA k ep dv)] w fun e w' =>
      ∃ u, e = .returned (.tuple #[.agg (kA false (.slice none 0 0)), u, .bool true, .int .i64 0]) ∧ w'.ownsRow w.heap.size 5 1 u (h ++ d).length (il .u8 (h ++ d)) ∧ Below w.heap.size w w' := by
  have hzl := hri.length
  have HR := Lib.hid hri
  obtain ⟨hn, hhn⟩ : ∃ m, h.length = m := ⟨_, rfl⟩
  rw [hhn] at hrh hl hfew
  have HH := Lib.hid hrh
  obtain ⟨va, vc, rfl⟩ : ∃ a c, v = .slice a hn c := by obtain ⟨a, c, e, _⟩ := hrh; exact ⟨a, c, e⟩
  obtain ⟨da, dc, rfl⟩ : ∃ a c, dv = .slice a n c := by obtain ⟨a, c, e, _⟩ := hri; exact ⟨a, c, e⟩
  have HN := Lib.hid hhn
  have HZ := Lib.hid hzl
  clear hri hrh hzl hhn
  rcases hk with ⟨rfl, rfl⟩ | ⟨rfl, rfl⟩
  · go_enter Tryd.func22, Tryd.ntmps22
    go_wp2_with fail
    obtain ⟨w1, hw1⟩ : ∃ q, ((w.alloc (.cells (kA false (.slice va hn vc)) 61)).alloc (.cells (fA 1 ep (.slice da n dc)) 64)).alloc (.cells (kA false (.slice none 0 0)) 61) = q := ⟨_, rfl⟩
    rw [hw1]
    obtain ⟨xb, hxb⟩ : ∃ q, w.heap.size = q := ⟨_, rfl⟩
    have hb1 : Below w.heap.size w w1 := hw1 ▸ kbelow3 w _ _ _
    have HX1 : Hid (KO w1 xb false (.slice va hn vc)) := Lib.hid (by rw [← hw1, ← hxb]; exact (alloc3 w _ _ _).1)
    have HF1 : Hid (FO w1 (xb + 1) 1 ep (.slice da n dc)) := Lib.hid (by rw [← hw1, ← hxb]; exact (alloc3 w _ _ _).2.1)
    have HK1 : Hid (KO w1 (xb + 1 + 1) false (.slice none 0 0)) := Lib.hid (by rw [← hw1, ← hxb]; exact (alloc3 w _ _ _).2.2)
    have HB1 := Lib.hid hb1
    have HXB := Lib.hid hxb
    rw [hxb]
    clear hb1 hw1 hxb
    refine wp_region_held_drew (S := (fun w' => KO w' xb false (.slice va hn vc) ∧ FO w' (xb + 1) 1 ep (.slice da n dc))) (by kernel_rfl) ⟨HX1.out.keep (Below.refl w1.heap.size w1).drew, HF1.out.keep (Below.refl w1.heap.size w1).drew⟩ (fun hS => ?_)
    refine wpAnyH_take (i := 1) (oi := ({ dst := some 38, op := Op.fieldAddr 61 (Operand.tmp 2) 1, type := 0, pos := "ref.go:17", after := #[], guard := none } : Oper)) (v := ?_) rfl (by kernel_rfl) (by kernel_rfl) (by kernel_rfl) (fun _ _ _ h => h) (Or.inl ⟨by rfl, ?_⟩) hS ?_
    rotate_left
    · (intro w hSw; (try dsimp only at hSw); go_simp; try with_reducible rfl)
    (try simp only [Act.put, List.setIfInBounds_toArray, List.set_cons_zero, List.set_cons_succ])
    refine wpAnyH_take (i := 2) (oi := ({ dst := some 39, op := Op.load 38 (Operand.tmp 38), type := 38, pos := "ref.go:17", after := #[{ on := 1, ground := Ground.data }], guard := none } : Oper)) (v := .slice va hn vc) rfl (by kernel_rfl) (by kernel_rfl) (by kernel_rfl) (fun _ _ _ h => h) (Or.inl ⟨by rfl, ?_⟩) hS ?_
    · (intro w hSw; (try dsimp only at hSw); have z := hSw.1.cells.2; go_simp)
    (try simp only [Act.put, List.setIfInBounds_toArray, List.set_cons_zero, List.set_cons_succ])
    refine wpAnyH_take (i := 4) (oi := ({ dst := some 41, op := Op.fieldAddr 64 (Operand.tmp 3) 2, type := 0, pos := "ref.go:17", after := #[], guard := none } : Oper)) (v := ?_) rfl (by kernel_rfl) (by kernel_rfl) (by kernel_rfl) (fun _ _ _ h => h) (Or.inl ⟨by rfl, ?_⟩) hS ?_
    rotate_left
    · (intro w hSw; (try dsimp only at hSw); go_simp; try with_reducible rfl)
    (try simp only [Act.put, List.setIfInBounds_toArray, List.set_cons_zero, List.set_cons_succ])
    refine wpAnyH_take (i := 5) (oi := ({ dst := some 42, op := Op.load 38 (Operand.tmp 41), type := 38, pos := "ref.go:17", after := #[{ on := 4, ground := Ground.data }], guard := none } : Oper)) (v := .slice da n dc) rfl (by kernel_rfl) (by kernel_rfl) (by kernel_rfl) (fun _ _ _ h => h) (Or.inl ⟨by rfl, ?_⟩) hS ?_
    · (intro w hSw; (try dsimp only at hSw); have z := hSw.2.cells.2.2; go_simp)
    (try simp only [Act.put, List.setIfInBounds_toArray, List.set_cons_zero, List.set_cons_succ])
    refine rg_one 0 ({ dst := some 37, op := Op.buildSlice 38 0 #[], type := 38, pos := "ref.go:17", after := #[], guard := none } : Oper) (by kernel_rfl) rfl (fun K hK => ?_)
    go_simp
    (obtain ⟨w4, hw4⟩ : ∃ q, w1.alloc (.cells #[] 5) = q := ⟨_, rfl⟩; simp only [hw4]; have hb4 : Below w1.heap.size w1 w4.drew := hw4 ▸ bdrew0 w1 _; have HO4 : Hid (w4.drew.ownsRow w.heap.size 5 1 (.slice (some ⟨w1.heap.size, 0, none⟩) 0 0) 0 (il .u8 [])) := Lib.hid (World.ownsRow.drew (hw4 ▸ (own_empty rfl HB1.out.size).out)); have HB4 := Lib.hid (bch HB1.out hb4); have HX4 := Lib.hid (HX1.out.keep hb4); have HF4 := Lib.hid (HF1.out.keep hb4); have HK4 := Lib.hid (HK1.out.keep hb4); have hN := And.intro HX4.out HF4.out; clear hb4 hw4)
    refine hK.out _ _ ?_ (fun hS1 => ?_)
    · (exact hN)
    clear hK K hS; have hS := hS1; clear hS1
    (try simp only [Act.put, List.setIfInBounds_toArray, List.set_cons_zero, List.set_cons_succ])
    refine rg_one 3 ({ dst := some 40, op := Op.call { callee := Callee.builtin Builtin.append, args := #[Operand.tmp 37, Operand.tmp 39], argTypes := #[38, 38] }, type := 38, pos := "ref.go:17", after := #[{ on := 0, ground := Ground.data }, { on := 2, ground := Ground.data }], guard := none } : Oper) (by kernel_rfl) rfl (fun K hK => ?_)
    (rw [if_pos (by rfl)]; refine wp_appn (.tmp 37) (.tmp 39) 38 rfl 5 .u8 1 Tryd.underlying38 Tryd.info_u8 w.heap.size (.slice (some ⟨w1.heap.size, 0, none⟩) 0 0) 0 [] rfl HO4.out (.slice va hn vc) hn h rfl (HH.out.keep HB4.out) (by omega) (by omega) HB4.out.size ?_; intro v5 w5 ho5 hg5 hl5; rw [Nat.zero_add, List.nil_append] at ho5; have HO5 := Lib.hid ho5; have HB5 := Lib.hid (HB4.out.grown hg5 HB4.out.size (fun q hq => (HO4.out.lt q hq).1)); have HX5 := Lib.hid (HX4.out.grown HO4.out (by decide) hg5); have HF5 := Lib.hid (HF4.out.grown HO4.out hg5); have HK5 := Lib.hid (HK4.out.grown HO4.out (by decide) hg5); clear hN; have hN := And.intro HX5.out HF5.out; clear ho5 hg5 hl5)
    refine hK.out _ _ ?_ (fun hS1 => ?_)
    · (exact hN)
    clear hK K hS; have hS := hS1; clear hS1
    (try simp only [Act.put, List.setIfInBounds_toArray, List.set_cons_zero, List.set_cons_succ])
    refine rg_one 6 ({ dst := some 43, op := Op.call { callee := Callee.builtin Builtin.append, args := #[Operand.tmp 40, Operand.tmp 42], argTypes := #[38, 38] }, type := 38, pos := "ref.go:17", after := #[{ on := 3, ground := Ground.data }, { on := 5, ground := Ground.data }, { on := 3, ground := Ground.chain }], guard := none } : Oper) (by kernel_rfl) rfl (fun K hK => ?_)
    (rw [if_pos (by rfl)]; refine wp_appn (.tmp 40) (.tmp 42) 38 rfl 5 .u8 1 Tryd.underlying38 Tryd.info_u8 w.heap.size v5 hn h rfl HO5.out (.slice da n dc) n d rfl (HR.out.keep HB5.out) (by omega) (by omega) HB5.out.size ?_; intro v6 w6 ho6 hg6 hl6; obtain ⟨a6, c6, rfl⟩ := own_form ho6; have HO6 := Lib.hid ho6; have HB6 := Lib.hid (HB5.out.grown hg6 HB5.out.size (fun q hq => (HO5.out.lt q hq).1)); have HX6 := Lib.hid (HX5.out.grown HO5.out (by decide) hg6); have HF6 := Lib.hid (HF5.out.grown HO5.out hg6); have HK6 := Lib.hid (HK5.out.grown HO5.out (by decide) hg6); clear hN; have hN := And.intro HX6.out HF6.out; clear ho6 hg6 hl6)
    refine hK.out _ _ ?_ (fun hS1 => ?_)
    · (exact hN)
    clear hK K hS; have hS := hS1; clear hS1
    (try simp only [Act.put, List.setIfInBounds_toArray, List.set_cons_zero, List.set_cons_succ])
    refine wpAnyH_take (i := 7) (oi := ({ dst := some 8, op := Op.assign (Operand.tmp 43), type := 38, pos := "ref.go:17", after := #[{ on := 6, ground := Ground.data }, { on := 6, ground := Ground.chain }, { on := 0, ground := Ground.phase }, { on := 1, ground := Ground.phase }, { on := 2, ground := Ground.phase }, { on := 3, ground := Ground.phase }, { on := 4, ground := Ground.phase }, { on := 5, ground := Ground.phase }, { on := 6, ground := Ground.phase }], guard := none } : Oper)) (v := ?_) rfl (by kernel_rfl) (by kernel_rfl) (by kernel_rfl) (fun _ _ _ h => h) (Or.inl ⟨by rfl, ?_⟩) hS ?_
    rotate_left
    · (intro w hSw; (try dsimp only at hSw); go_simp; try with_reducible rfl)
    (try simp only [Act.put, List.setIfInBounds_toArray, List.set_cons_zero, List.set_cons_succ])
    refine wpAnyH_done (by kernel_rfl) ?_ _
    obtain ⟨f60, f61, f62⟩ := HF6.out.cells
    clear hS hN
    go_wp2_with (first
      | (refine wpList_store_row rfl 61 _ _ rfl (xb + 1 + 1) (kA false (.slice none 0 0)) rfl rfl _ _ HK6.out (kj_info _ _) rfl (kj_one _ _ _ _) ?_))
    have HK7 := HK6.out.row false (.slice none 0 0)
    refine bodyPost_ret_by (results_row_tmp3 rfl _ _ (xb + 1 + 1) _ rfl HK7.load) rfl ?_
    refine ⟨.slice a6 (hn + n) c6, rfl, ?_, brow HB6.out (by have := HXB.out; omega) (Nat.le_refl _) _⟩
    rw [List.length_append, HN.out, HZ.out]; exact HK6.out.row_own _ HO6.out (by decide)
  · go_enter Tryd.func22, Tryd.ntmps22
    go_wp2_with fail
    obtain ⟨w1, hw1⟩ : ∃ q, ((w.alloc (.cells (kA true (.slice va hn vc)) 61)).alloc (.cells (fA 4 ep (.slice da n dc)) 64)).alloc (.cells (kA false (.slice none 0 0)) 61) = q := ⟨_, rfl⟩
    rw [hw1]
    obtain ⟨xb, hxb⟩ : ∃ q, w.heap.size = q := ⟨_, rfl⟩
    have hb1 : Below w.heap.size w w1 := hw1 ▸ kbelow3 w _ _ _
    have HX1 : Hid (KO w1 xb true (.slice va hn vc)) := Lib.hid (by rw [← hw1, ← hxb]; exact (alloc3 w _ _ _).1)
    have HF1 : Hid (FO w1 (xb + 1) 4 ep (.slice da n dc)) := Lib.hid (by rw [← hw1, ← hxb]; exact (alloc3 w _ _ _).2.1)
    have HK1 : Hid (KO w1 (xb + 1 + 1) false (.slice none 0 0)) := Lib.hid (by rw [← hw1, ← hxb]; exact (alloc3 w _ _ _).2.2)
    have HB1 := Lib.hid hb1
    have HXB := Lib.hid hxb
    rw [hxb]
    clear hb1 hw1 hxb
    refine wp_region_held_drew (S := (fun w' => KO w' xb true (.slice va hn vc) ∧ FO w' (xb + 1) 4 ep (.slice da n dc))) (by kernel_rfl) ⟨HX1.out.keep (Below.refl w1.heap.size w1).drew, HF1.out.keep (Below.refl w1.heap.size w1).drew⟩ (fun hS => ?_)
    refine wpAnyH_take (i := 1) (oi := ({ dst := some 38, op := Op.fieldAddr 61 (Operand.tmp 2) 1, type := 0, pos := "ref.go:17", after := #[], guard := none } : Oper)) (v := ?_) rfl (by kernel_rfl) (by kernel_rfl) (by kernel_rfl) (fun _ _ _ h => h) (Or.inl ⟨by rfl, ?_⟩) hS ?_
    rotate_left
    · (intro w hSw; (try dsimp only at hSw); go_simp; try with_reducible rfl)
    (try simp only [Act.put, List.setIfInBounds_toArray, List.set_cons_zero, List.set_cons_succ])
    refine wpAnyH_take (i := 2) (oi := ({ dst := some 39, op := Op.load 38 (Operand.tmp 38), type := 38, pos := "ref.go:17", after := #[{ on := 1, ground := Ground.data }], guard := none } : Oper)) (v := .slice va hn vc) rfl (by kernel_rfl) (by kernel_rfl) (by kernel_rfl) (fun _ _ _ h => h) (Or.inl ⟨by rfl, ?_⟩) hS ?_
    · (intro w hSw; (try dsimp only at hSw); have z := hSw.1.cells.2; go_simp)
    (try simp only [Act.put, List.setIfInBounds_toArray, List.set_cons_zero, List.set_cons_succ])
    refine wpAnyH_take (i := 4) (oi := ({ dst := some 41, op := Op.fieldAddr 64 (Operand.tmp 3) 2, type := 0, pos := "ref.go:17", after := #[], guard := none } : Oper)) (v := ?_) rfl (by kernel_rfl) (by kernel_rfl) (by kernel_rfl) (fun _ _ _ h => h) (Or.inl ⟨by rfl, ?_⟩) hS ?_
    rotate_left
    · (intro w hSw; (try dsimp only at hSw); go_simp; try with_reducible rfl)
    (try simp only [Act.put, List.setIfInBounds_toArray, List.set_cons_zero, List.set_cons_succ])
    refine wpAnyH_take (i := 5) (oi := ({ dst := some 42, op := Op.load 38 (Operand.tmp 41), type := 38, pos := "ref.go:17", after := #[{ on := 4, ground := Ground.data }], guard := none } : Oper)) (v := .slice da n dc) rfl (by kernel_rfl) (by kernel_rfl) (by kernel_rfl) (fun _ _ _ h => h) (Or.inl ⟨by rfl, ?_⟩) hS ?_
    · (intro w hSw; (try dsimp only at hSw); have z := hSw.2.cells.2.2; go_simp)
    (try simp only [Act.put, List.setIfInBounds_toArray, List.set_cons_zero, List.set_cons_succ])
    refine rg_one 0 ({ dst := some 37, op := Op.buildSlice 38 0 #[], type := 38, pos := "ref.go:17", after := #[], guard := none } : Oper) (by kernel_rfl) rfl (fun K hK => ?_)
    go_simp
    (obtain ⟨w4, hw4⟩ : ∃ q, w1.alloc (.cells #[] 5) = q := ⟨_, rfl⟩; simp only [hw4]; have hb4 : Below w1.heap.size w1 w4.drew := hw4 ▸ bdrew0 w1 _; have HO4 : Hid (w4.drew.ownsRow w.heap.size 5 1 (.slice (some ⟨w1.heap.size, 0, none⟩) 0 0) 0 (il .u8 [])) := Lib.hid (World.ownsRow.drew (hw4 ▸ (own_empty rfl HB1.out.size).out)); have HB4 := Lib.hid (bch HB1.out hb4); have HX4 := Lib.hid (HX1.out.keep hb4); have HF4 := Lib.hid (HF1.out.keep hb4); have HK4 := Lib.hid (HK1.out.keep hb4); have hN := And.intro HX4.out HF4.out; clear hb4 hw4)
    refine hK.out _ _ ?_ (fun hS1 => ?_)
    · (exact hN)
    clear hK K hS; have hS := hS1; clear hS1
    (try simp only [Act.put, List.setIfInBounds_toArray, List.set_cons_zero, List.set_cons_succ])
    refine rg_one 3 ({ dst := some 40, op := Op.call { callee := Callee.builtin Builtin.append, args := #[Operand.tmp 37, Operand.tmp 39], argTypes := #[38, 38] }, type := 38, pos := "ref.go:17", after := #[{ on := 0, ground := Ground.data }, { on := 2, ground := Ground.data }], guard := none } : Oper) (by kernel_rfl) rfl (fun K hK => ?_)
    (rw [if_pos (by rfl)]; refine wp_appn (.tmp 37) (.tmp 39) 38 rfl 5 .u8 1 Tryd.underlying38 Tryd.info_u8 w.heap.size (.slice (some ⟨w1.heap.size, 0, none⟩) 0 0) 0 [] rfl HO4.out (.slice va hn vc) hn h rfl (HH.out.keep HB4.out) (by omega) (by omega) HB4.out.size ?_; intro v5 w5 ho5 hg5 hl5; rw [Nat.zero_add, List.nil_append] at ho5; have HO5 := Lib.hid ho5; have HB5 := Lib.hid (HB4.out.grown hg5 HB4.out.size (fun q hq => (HO4.out.lt q hq).1)); have HX5 := Lib.hid (HX4.out.grown HO4.out (by decide) hg5); have HF5 := Lib.hid (HF4.out.grown HO4.out hg5); have HK5 := Lib.hid (HK4.out.grown HO4.out (by decide) hg5); clear hN; have hN := And.intro HX5.out HF5.out; clear ho5 hg5 hl5)
    refine hK.out _ _ ?_ (fun hS1 => ?_)
    · (exact hN)
    clear hK K hS; have hS := hS1; clear hS1
    (try simp only [Act.put, List.setIfInBounds_toArray, List.set_cons_zero, List.set_cons_succ])
    refine rg_one 6 ({ dst := some 43, op := Op.call { callee := Callee.builtin Builtin.append, args := #[Operand.tmp 40, Operand.tmp 42], argTypes := #[38, 38] }, type := 38, pos := "ref.go:17", after := #[{ on := 3, ground := Ground.data }, { on := 5, ground := Ground.data }, { on := 3, ground := Ground.chain }], guard := none } : Oper) (by kernel_rfl) rfl (fun K hK => ?_)
    (rw [if_pos (by rfl)]; refine wp_appn (.tmp 40) (.tmp 42) 38 rfl 5 .u8 1 Tryd.underlying38 Tryd.info_u8 w.heap.size v5 hn h rfl HO5.out (.slice da n dc) n d rfl (HR.out.keep HB5.out) (by omega) (by omega) HB5.out.size ?_; intro v6 w6 ho6 hg6 hl6; obtain ⟨a6, c6, rfl⟩ := own_form ho6; have HO6 := Lib.hid ho6; have HB6 := Lib.hid (HB5.out.grown hg6 HB5.out.size (fun q hq => (HO5.out.lt q hq).1)); have HX6 := Lib.hid (HX5.out.grown HO5.out (by decide) hg6); have HF6 := Lib.hid (HF5.out.grown HO5.out hg6); have HK6 := Lib.hid (HK5.out.grown HO5.out (by decide) hg6); clear hN; have hN := And.intro HX6.out HF6.out; clear ho6 hg6 hl6)
    refine hK.out _ _ ?_ (fun hS1 => ?_)
    · (exact hN)
    clear hK K hS; have hS := hS1; clear hS1
    (try simp only [Act.put, List.setIfInBounds_toArray, List.set_cons_zero, List.set_cons_succ])
    refine wpAnyH_take (i := 7) (oi := ({ dst := some 8, op := Op.assign (Operand.tmp 43), type := 38, pos := "ref.go:17", after := #[{ on := 6, ground := Ground.data }, { on := 6, ground := Ground.chain }, { on := 0, ground := Ground.phase }, { on := 1, ground := Ground.phase }, { on := 2, ground := Ground.phase }, { on := 3, ground := Ground.phase }, { on := 4, ground := Ground.phase }, { on := 5, ground := Ground.phase }, { on := 6, ground := Ground.phase }], guard := none } : Oper)) (v := ?_) rfl (by kernel_rfl) (by kernel_rfl) (by kernel_rfl) (fun _ _ _ h => h) (Or.inl ⟨by rfl, ?_⟩) hS ?_
    rotate_left
    · (intro w hSw; (try dsimp only at hSw); go_simp; try with_reducible rfl)
    (try simp only [Act.put, List.setIfInBounds_toArray, List.set_cons_zero, List.set_cons_succ])
    refine wpAnyH_done (by kernel_rfl) ?_ _
    obtain ⟨f60, f61, f62⟩ := HF6.out.cells
    clear hS hN
    go_wp2_with (first
      | (refine wpList_store_row rfl 61 _ _ rfl (xb + 1 + 1) (kA false (.slice none 0 0)) rfl rfl _ _ HK6.out (kj_info _ _) rfl (kj_one _ _ _ _) ?_))
    have HK7 := HK6.out.row false (.slice none 0 0)
    refine bodyPost_ret_by (results_row_tmp3 rfl _ _ (xb + 1 + 1) _ rfl HK7.load) rfl ?_
    refine ⟨.slice a6 (hn + n) c6, rfl, ?_, brow HB6.out (by have := HXB.out; omega) (Nat.le_refl _) _⟩
    rw [List.length_append, HN.out, HZ.out]; exact HK6.out.row_own _ HO6.out (by decide)
set_option maxRecDepth 8000 in
set_option maxHeartbeats 4000000 in
/-- a record goes on -/
theorem rfeed_goes (o : Bool) (v : Value) (h : List Int) (k ep : Int) (dv : Value) (n : Nat) (d : List Int) (w : World) (hrh : RI .u8 w v h.length h) (hfew : h.length ≤ 512) (hri : RI .u8 w dv n d) (_hn1 : (n : Int) ≤ 140737488351232)
    (hk : (o = false ∧ k = 2) ∨ (o = true ∧ k = 3)) (hl : ¬ h.length + n > 512) :
    Calls Tryd.prog 22 #[.agg (kA o v), .agg (fA k ep dv)] w fun e w' =>
      ∃ u, e = .returned (.tuple #[.agg (kA true u), .slice none 0 0, .bool false, .int .i64 0]) ∧ w'.ownsRow w.heap.size 5 1 u (h ++ d).length (il .u8 (h ++ d)) ∧ Below w.heap.size w w' := by
  have hzl := hri.length
  have HR := Lib.hid hri
  obtain ⟨hn, hhn⟩ : ∃ m, h.length = m := ⟨_, rfl⟩
  rw [hhn] at hrh hl hfew
  have HH := Lib.hid hrh
  obtain ⟨va, vc, rfl⟩ : ∃ a c, v = .slice a hn c := by obtain ⟨a, c, e, _⟩ := hrh; exact ⟨a, c, e⟩
  obtain ⟨da, dc, rfl⟩ : ∃ a c, dv = .slice a n c := by obtain ⟨a, c, e, _⟩ := hri; exact ⟨a, c, e⟩
  have HN := Lib.hid hhn
  have HZ := Lib.hid hzl
  clear hri hrh hzl hhn
  rcases hk with ⟨rfl, rfl⟩ | ⟨rfl, rfl⟩
  · go_enter Tryd.func22, Tryd.ntmps22
    go_wp2_with fail
    obtain ⟨w1, hw1⟩ : ∃ q, ((w.alloc (.cells (kA false (.slice va hn vc)) 61)).alloc (.cells (fA 2 ep (.slice da n dc)) 64)).alloc (.cells (kA false (.slice none 0 0)) 61) = q := ⟨_, rfl⟩
    rw [hw1]
    obtain ⟨xb, hxb⟩ : ∃ q, w.heap.size = q := ⟨_, rfl⟩
    have hb1 : Below w.heap.size w w1 := hw1 ▸ kbelow3 w _ _ _
    have HX1 : Hid (KO w1 xb false (.slice va hn vc)) := Lib.hid (by rw [← hw1, ← hxb]; exact (alloc3 w _ _ _).1)
    have HF1 : Hid (FO w1 (xb + 1) 2 ep (.slice da n dc)) := Lib.hid (by rw [← hw1, ← hxb]; exact (alloc3 w _ _ _).2.1)
    have HK1 : Hid (KO w1 (xb + 1 + 1) false (.slice none 0 0)) := Lib.hid (by rw [← hw1, ← hxb]; exact (alloc3 w _ _ _).2.2)
    have HB1 := Lib.hid hb1
    have HXB := Lib.hid hxb
    rw [hxb]
    clear hb1 hw1 hxb
    refine wp_region_held_drew (S := (fun w' => KO w' xb false (.slice va hn vc) ∧ FO w' (xb + 1) 2 ep (.slice da n dc))) (by kernel_rfl) ⟨HX1.out.keep (Below.refl w1.heap.size w1).drew, HF1.out.keep (Below.refl w1.heap.size w1).drew⟩ (fun hS => ?_)
    refine wpAnyH_take (i := 1) (oi := ({ dst := some 38, op := Op.fieldAddr 61 (Operand.tmp 2) 1, type := 0, pos := "ref.go:17", after := #[], guard := none } : Oper)) (v := ?_) rfl (by kernel_rfl) (by kernel_rfl) (by kernel_rfl) (fun _ _ _ h => h) (Or.inl ⟨by rfl, ?_⟩) hS ?_
    rotate_left
    · (intro w hSw; (try dsimp only at hSw); go_simp; try with_reducible rfl)
    (try simp only [Act.put, List.setIfInBounds_toArray, List.set_cons_zero, List.set_cons_succ])
    refine wpAnyH_take (i := 2) (oi := ({ dst := some 39, op := Op.load 38 (Operand.tmp 38), type := 38, pos := "ref.go:17", after := #[{ on := 1, ground := Ground.data }], guard := none } : Oper)) (v := .slice va hn vc) rfl (by kernel_rfl) (by kernel_rfl) (by kernel_rfl) (fun _ _ _ h => h) (Or.inl ⟨by rfl, ?_⟩) hS ?_
    · (intro w hSw; (try dsimp only at hSw); have z := hSw.1.cells.2; go_simp)
    (try simp only [Act.put, List.setIfInBounds_toArray, List.set_cons_zero, List.set_cons_succ])
    refine wpAnyH_take (i := 4) (oi := ({ dst := some 41, op := Op.fieldAddr 64 (Operand.tmp 3) 2, type := 0, pos := "ref.go:17", after := #[], guard := none } : Oper)) (v := ?_) rfl (by kernel_rfl) (by kernel_rfl) (by kernel_rfl) (fun _ _ _ h => h) (Or.inl ⟨by rfl, ?_⟩) hS ?_
    rotate_left
    · (intro w hSw; (try dsimp only at hSw); go_simp; try with_reducible rfl)
    (try simp only [Act.put, List.setIfInBounds_toArray, List.set_cons_zero, List.set_cons_succ])
    refine wpAnyH_take (i := 5) (oi := ({ dst := some 42, op := Op.load 38 (Operand.tmp 41), type := 38, pos := "ref.go:17", after := #[{ on := 4, ground := Ground.data }], guard := none } : Oper)) (v := .slice da n dc) rfl (by kernel_rfl) (by kernel_rfl) (by kernel_rfl) (fun _ _ _ h => h) (Or.inl ⟨by rfl, ?_⟩) hS ?_
    · (intro w hSw; (try dsimp only at hSw); have z := hSw.2.cells.2.2; go_simp)
    (try simp only [Act.put, List.setIfInBounds_toArray, List.set_cons_zero, List.set_cons_succ])
    refine rg_one 0 ({ dst := some 37, op := Op.buildSlice 38 0 #[], type := 38, pos := "ref.go:17", after := #[], guard := none } : Oper) (by kernel_rfl) rfl (fun K hK => ?_)
    go_simp
    (obtain ⟨w4, hw4⟩ : ∃ q, w1.alloc (.cells #[] 5) = q := ⟨_, rfl⟩; simp only [hw4]; have hb4 : Below w1.heap.size w1 w4.drew := hw4 ▸ bdrew0 w1 _; have HO4 : Hid (w4.drew.ownsRow w.heap.size 5 1 (.slice (some ⟨w1.heap.size, 0, none⟩) 0 0) 0 (il .u8 [])) := Lib.hid (World.ownsRow.drew (hw4 ▸ (own_empty rfl HB1.out.size).out)); have HB4 := Lib.hid (bch HB1.out hb4); have HX4 := Lib.hid (HX1.out.keep hb4); have HF4 := Lib.hid (HF1.out.keep hb4); have HK4 := Lib.hid (HK1.out.keep hb4); have hN := And.intro HX4.out HF4.out; clear hb4 hw4)
    refine hK.out _ _ ?_ (fun hS1 => ?_)
    · (exact hN)
    clear hK K hS; have hS := hS1; clear hS1
    (try simp only [Act.put, List.setIfInBounds_toArray, List.set_cons_zero, List.set_cons_succ])
    refine rg_one 3 ({ dst := some 40, op := Op.call { callee := Callee.builtin Builtin.append, args := #[Operand.tmp 37, Operand.tmp 39], argTypes := #[38, 38] }, type := 38, pos := "ref.go:17", after := #[{ on := 0, ground := Ground.data }, { on := 2, ground := Ground.data }], guard := none } : Oper) (by kernel_rfl) rfl (fun K hK => ?_)
    (rw [if_pos (by rfl)]; refine wp_appn (.tmp 37) (.tmp 39) 38 rfl 5 .u8 1 Tryd.underlying38 Tryd.info_u8 w.heap.size (.slice (some ⟨w1.heap.size, 0, none⟩) 0 0) 0 [] rfl HO4.out (.slice va hn vc) hn h rfl (HH.out.keep HB4.out) (by omega) (by omega) HB4.out.size ?_; intro v5 w5 ho5 hg5 hl5; rw [Nat.zero_add, List.nil_append] at ho5; have HO5 := Lib.hid ho5; have HB5 := Lib.hid (HB4.out.grown hg5 HB4.out.size (fun q hq => (HO4.out.lt q hq).1)); have HX5 := Lib.hid (HX4.out.grown HO4.out (by decide) hg5); have HF5 := Lib.hid (HF4.out.grown HO4.out hg5); have HK5 := Lib.hid (HK4.out.grown HO4.out (by decide) hg5); clear hN; have hN := And.intro HX5.out HF5.out; clear ho5 hg5 hl5)
    refine hK.out _ _ ?_ (fun hS1 => ?_)
    · (exact hN)
    clear hK K hS; have hS := hS1; clear hS1
    (try simp only [Act.put, List.setIfInBounds_toArray, List.set_cons_zero, List.set_cons_succ])
    refine rg_one 6 ({ dst := some 43, op := Op.call { callee := Callee.builtin Builtin.append, args := #[Operand.tmp 40, Operand.tmp 42], argTypes := #[38, 38] }, type := 38, pos := "ref.go:17", after := #[{ on := 3, ground := Ground.data }, { on := 5, ground := Ground.data }, { on := 3, ground := Ground.chain }], guard := none } : Oper) (by kernel_rfl) rfl (fun K hK => ?_)
    (rw [if_pos (by rfl)]; refine wp_appn (.tmp 40) (.tmp 42) 38 rfl 5 .u8 1 Tryd.underlying38 Tryd.info_u8 w.heap.size v5 hn h rfl HO5.out (.slice da n dc) n d rfl (HR.out.keep HB5.out) (by omega) (by omega) HB5.out.size ?_; intro v6 w6 ho6 hg6 hl6; obtain ⟨a6, c6, rfl⟩ := own_form ho6; have HO6 := Lib.hid ho6; have HB6 := Lib.hid (HB5.out.grown hg6 HB5.out.size (fun q hq => (HO5.out.lt q hq).1)); have HX6 := Lib.hid (HX5.out.grown HO5.out (by decide) hg6); have HF6 := Lib.hid (HF5.out.grown HO5.out hg6); have HK6 := Lib.hid (HK5.out.grown HO5.out (by decide) hg6); clear hN; have hN := And.intro HX6.out HF6.out; clear ho6 hg6 hl6)
    refine hK.out _ _ ?_ (fun hS1 => ?_)
    · (exact hN)
    clear hK K hS; have hS := hS1; clear hS1
    (try simp only [Act.put, List.setIfInBounds_toArray, List.set_cons_zero, List.set_cons_succ])
    refine wpAnyH_take (i := 7) (oi := ({ dst := some 8, op := Op.assign (Operand.tmp 43), type := 38, pos := "ref.go:17", after := #[{ on := 6, ground := Ground.data }, { on := 6, ground := Ground.chain }, { on := 0, ground := Ground.phase }, { on := 1, ground := Ground.phase }, { on := 2, ground := Ground.phase }, { on := 3, ground := Ground.phase }, { on := 4, ground := Ground.phase }, { on := 5, ground := Ground.phase }, { on := 6, ground := Ground.phase }], guard := none } : Oper)) (v := ?_) rfl (by kernel_rfl) (by kernel_rfl) (by kernel_rfl) (fun _ _ _ h => h) (Or.inl ⟨by rfl, ?_⟩) hS ?_
    rotate_left
    · (intro w hSw; (try dsimp only at hSw); go_simp; try with_reducible rfl)
    (try simp only [Act.put, List.setIfInBounds_toArray, List.set_cons_zero, List.set_cons_succ])
    refine wpAnyH_done (by kernel_rfl) ?_ _
    obtain ⟨f60, f61, f62⟩ := HF6.out.cells
    clear hS hN
    go_wp2_with (first
      | (refine wpList_store_row rfl 61 _ _ rfl (xb + 1 + 1) (kA true (.slice a6 (hn + n) c6)) rfl rfl _ _ HK6.out (kj_info _ _) rfl (kj_one _ _ _ _) ?_))
    have HK7 := HK6.out.row true (.slice a6 (hn + n) c6)
    refine bodyPost_ret_by (results_row_tmp3 rfl _ _ (xb + 1 + 1) _ rfl HK7.load) rfl ?_
    refine ⟨.slice a6 (hn + n) c6, rfl, ?_, brow HB6.out (by have := HXB.out; omega) (Nat.le_refl _) _⟩
    rw [List.length_append, HN.out, HZ.out]; exact HK6.out.row_own _ HO6.out (by decide)
  · go_enter Tryd.func22, Tryd.ntmps22
    go_wp2_with fail
    obtain ⟨w1, hw1⟩ : ∃ q, ((w.alloc (.cells (kA true (.slice va hn vc)) 61)).alloc (.cells (fA 3 ep (.slice da n dc)) 64)).alloc (.cells (kA false (.slice none 0 0)) 61) = q := ⟨_, rfl⟩
    rw [hw1]
    obtain ⟨xb, hxb⟩ : ∃ q, w.heap.size = q := ⟨_, rfl⟩
    have hb1 : Below w.heap.size w w1 := hw1 ▸ kbelow3 w _ _ _
    have HX1 : Hid (KO w1 xb true (.slice va hn vc)) := Lib.hid (by rw [← hw1, ← hxb]; exact (alloc3 w _ _ _).1)
    have HF1 : Hid (FO w1 (xb + 1) 3 ep (.slice da n dc)) := Lib.hid (by rw [← hw1, ← hxb]; exact (alloc3 w _ _ _).2.1)
    have HK1 : Hid (KO w1 (xb + 1 + 1) false (.slice none 0 0)) := Lib.hid (by rw [← hw1, ← hxb]; exact (alloc3 w _ _ _).2.2)
    have HB1 := Lib.hid hb1
    have HXB := Lib.hid hxb
    rw [hxb]
    clear hb1 hw1 hxb
    refine wp_region_held_drew (S := (fun w' => KO w' xb true (.slice va hn vc) ∧ FO w' (xb + 1) 3 ep (.slice da n dc))) (by kernel_rfl) ⟨HX1.out.keep (Below.refl w1.heap.size w1).drew, HF1.out.keep (Below.refl w1.heap.size w1).drew⟩ (fun hS => ?_)
    refine wpAnyH_take (i := 1) (oi := ({ dst := some 38, op := Op.fieldAddr 61 (Operand.tmp 2) 1, type := 0, pos := "ref.go:17", after := #[], guard := none } : Oper)) (v := ?_) rfl (by kernel_rfl) (by kernel_rfl) (by kernel_rfl) (fun _ _ _ h => h) (Or.inl ⟨by rfl, ?_⟩) hS ?_
    rotate_left
    · (intro w hSw; (try dsimp only at hSw); go_simp; try with_reducible rfl)
    (try simp only [Act.put, List.setIfInBounds_toArray, List.set_cons_zero, List.set_cons_succ])
    refine wpAnyH_take (i := 2) (oi := ({ dst := some 39, op := Op.load 38 (Operand.tmp 38), type := 38, pos := "ref.go:17", after := #[{ on := 1, ground := Ground.data }], guard := none } : Oper)) (v := .slice va hn vc) rfl (by kernel_rfl) (by kernel_rfl) (by kernel_rfl) (fun _ _ _ h => h) (Or.inl ⟨by rfl, ?_⟩) hS ?_
    · (intro w hSw; (try dsimp only at hSw); have z := hSw.1.cells.2; go_simp)
    (try simp only [Act.put, List.setIfInBounds_toArray, List.set_cons_zero, List.set_cons_succ])
    refine wpAnyH_take (i := 4) (oi := ({ dst := some 41, op := Op.fieldAddr 64 (Operand.tmp 3) 2, type := 0, pos := "ref.go:17", after := #[], guard := none } : Oper)) (v := ?_) rfl (by kernel_rfl) (by kernel_rfl) (by kernel_rfl) (fun _ _ _ h => h) (Or.inl ⟨by rfl, ?_⟩) hS ?_
    rotate_left
    · (intro w hSw; (try dsimp only at hSw); go_simp; try with_reducible rfl)
    (try simp only [Act.put, List.setIfInBounds_toArray, List.set_cons_zero, List.set_cons_succ])
    refine wpAnyH_take (i := 5) (oi := ({ dst := some 42, op := Op.load 38 (Operand.tmp 41), type := 38, pos := "ref.go:17", after := #[{ on := 4, ground := Ground.data }], guard := none } : Oper)) (v := .slice da n dc) rfl (by kernel_rfl) (by kernel_rfl) (by kernel_rfl) (fun _ _ _ h => h) (Or.inl ⟨by rfl, ?_⟩) hS ?_
    · (intro w hSw; (try dsimp only at hSw); have z := hSw.2.cells.2.2; go_simp)
    (try simp only [Act.put, List.setIfInBounds_toArray, List.set_cons_zero, List.set_cons_succ])
    refine rg_one 0 ({ dst := some 37, op := Op.buildSlice 38 0 #[], type := 38, pos := "ref.go:17", after := #[], guard := none } : Oper) (by kernel_rfl) rfl (fun K hK => ?_)
    go_simp
    (obtain ⟨w4, hw4⟩ : ∃ q, w1.alloc (.cells #[] 5) = q := ⟨_, rfl⟩; simp only [hw4]; have hb4 : Below w1.heap.size w1 w4.drew := hw4 ▸ bdrew0 w1 _; have HO4 : Hid (w4.drew.ownsRow w.heap.size 5 1 (.slice (some ⟨w1.heap.size, 0, none⟩) 0 0) 0 (il .u8 [])) := Lib.hid (World.ownsRow.drew (hw4 ▸ (own_empty rfl HB1.out.size).out)); have HB4 := Lib.hid (bch HB1.out hb4); have HX4 := Lib.hid (HX1.out.keep hb4); have HF4 := Lib.hid (HF1.out.keep hb4); have HK4 := Lib.hid (HK1.out.keep hb4); have hN := And.intro HX4.out HF4.out; clear hb4 hw4)
    refine hK.out _ _ ?_ (fun hS1 => ?_)
    · (exact hN)
    clear hK K hS; have hS := hS1; clear hS1
    (try simp only [Act.put, List.setIfInBounds_toArray, List.set_cons_zero, List.set_cons_succ])
    refine rg_one 3 ({ dst := some 40, op := Op.call { callee := Callee.builtin Builtin.append, args := #[Operand.tmp 37, Operand.tmp 39], argTypes := #[38, 38] }, type := 38, pos := "ref.go:17", after := #[{ on := 0, ground := Ground.data }, { on := 2, ground := Ground.data }], guard := none } : Oper) (by kernel_rfl) rfl (fun K hK => ?_)
    (rw [if_pos (by rfl)]; refine wp_appn (.tmp 37) (.tmp 39) 38 rfl 5 .u8 1 Tryd.underlying38 Tryd.info_u8 w.heap.size (.slice (some ⟨w1.heap.size, 0, none⟩) 0 0) 0 [] rfl HO4.out (.slice va hn vc) hn h rfl (HH.out.keep HB4.out) (by omega) (by omega) HB4.out.size ?_; intro v5 w5 ho5 hg5 hl5; rw [Nat.zero_add, List.nil_append] at ho5; have HO5 := Lib.hid ho5; have HB5 := Lib.hid (HB4.out.grown hg5 HB4.out.size (fun q hq => (HO4.out.lt q hq).1)); have HX5 := Lib.hid (HX4.out.grown HO4.out (by decide) hg5); have HF5 := Lib.hid (HF4.out.grown HO4.out hg5); have HK5 := Lib.hid (HK4.out.grown HO4.out (by decide) hg5); clear hN; have hN := And.intro HX5.out HF5.out; clear ho5 hg5 hl5)
    refine hK.out _ _ ?_ (fun hS1 => ?_)
    · (exact hN)
    clear hK K hS; have hS := hS1; clear hS1
    (try simp only [Act.put, List.setIfInBounds_toArray, List.set_cons_zero, List.set_cons_succ])
    refine rg_one 6 ({ dst := some 43, op := Op.call { callee := Callee.builtin Builtin.append, args := #[Operand.tmp 40, Operand.tmp 42], argTypes := #[38, 38] }, type := 38, pos := "ref.go:17", after := #[{ on := 3, ground := Ground.data }, { on := 5, ground := Ground.data }, { on := 3, ground := Ground.chain }], guard := none } : Oper) (by kernel_rfl) rfl (fun K hK => ?_)
    (rw [if_pos (by rfl)]; refine wp_appn (.tmp 40) (.tmp 42) 38 rfl 5 .u8 1 Tryd.underlying38 Tryd.info_u8 w.heap.size v5 hn h rfl HO5.out (.slice da n dc) n d rfl (HR.out.keep HB5.out) (by omega) (by omega) HB5.out.size ?_; intro v6 w6 ho6 hg6 hl6; obtain ⟨a6, c6, rfl⟩ := own_form ho6; have HO6 := Lib.hid ho6; have HB6 := Lib.hid (HB5.out.grown hg6 HB5.out.size (fun q hq => (HO5.out.lt q hq).1)); have HX6 := Lib.hid (HX5.out.grown HO5.out (by decide) hg6); have HF6 := Lib.hid (HF5.out.grown HO5.out hg6); have HK6 := Lib.hid (HK5.out.grown HO5.out (by decide) hg6); clear hN; have hN := And.intro HX6.out HF6.out; clear ho6 hg6 hl6)
    refine hK.out _ _ ?_ (fun hS1 => ?_)
    · (exact hN)
    clear hK K hS; have hS := hS1; clear hS1
    (try simp only [Act.put, List.setIfInBounds_toArray, List.set_cons_zero, List.set_cons_succ])
    refine wpAnyH_take (i := 7) (oi := ({ dst := some 8, op := Op.assign (Operand.tmp 43), type := 38, pos := "ref.go:17", after := #[{ on := 6, ground := Ground.data }, { on := 6, ground := Ground.chain }, { on := 0, ground := Ground.phase }, { on := 1, ground := Ground.phase }, { on := 2, ground := Ground.phase }, { on := 3, ground := Ground.phase }, { on := 4, ground := Ground.phase }, { on := 5, ground := Ground.phase }, { on := 6, ground := Ground.phase }], guard := none } : Oper)) (v := ?_) rfl (by kernel_rfl) (by kernel_rfl) (by kernel_rfl) (fun _ _ _ h => h) (Or.inl ⟨by rfl, ?_⟩) hS ?_
    rotate_left
    · (intro w hSw; (try dsimp only at hSw); go_simp; try with_reducible rfl)
    (try simp only [Act.put, List.setIfInBounds_toArray, List.set_cons_zero, List.set_cons_succ])
    refine wpAnyH_done (by kernel_rfl) ?_ _
    obtain ⟨f60, f61, f62⟩ := HF6.out.cells
    clear hS hN
    go_wp2_with (first
      | (refine wpList_store_row rfl 61 _ _ rfl (xb + 1 + 1) (kA true (.slice a6 (hn + n) c6)) rfl rfl _ _ HK6.out (kj_info _ _) rfl (kj_one _ _ _ _) ?_))
    have HK7 := HK6.out.row true (.slice a6 (hn + n) c6)
    refine bodyPost_ret_by (results_row_tmp3 rfl _ _ (xb + 1 + 1) _ rfl HK7.load) rfl ?_
    refine ⟨.slice a6 (hn + n) c6, rfl, ?_, brow HB6.out (by have := HXB.out; omega) (Nat.le_refl _) _⟩
    rw [List.length_append, HN.out, HZ.out]; exact HK6.out.row_own _ HO6.out (by decide)
set_option maxRecDepth 8000 in
set_option maxHeartbeats 4000000 in
/-- too many bytes -/
theorem rfeed_long (o : Bool) (v : Value) (h : List Int) (k ep : Int) (dv : Value) (n : Nat) (d : List Int) (w : World) (hrh : RI .u8 w v h.length h) (hfew : h.length ≤ 512) (hri : RI .u8 w dv n d) (hn1 : (n : Int) ≤ 140737488351232)
    (hk : jFit o k = true) (hl : h.length + n > 512) :
    Calls Tryd.prog 22 #[.agg (kA o v), .agg (fA k ep dv)] w fun e w' =>
      e = .returned (.tuple #[.agg (kA false (.slice none 0 0)), .slice none 0 0, .bool false, .int .i64 5]) ∧ Below w.heap.size w w' := by
  have hc : (o = false ∧ k = 1) ∨ (o = false ∧ k = 2) ∨ (o = true ∧ k = 3) ∨ (o = true ∧ k = 4) := by
    unfold jFit at hk
    cases o <;> simp at hk ⊢ <;> exact hk
  clear hk
  have hzl := hri.length
  have HR := Lib.hid hri
  obtain ⟨hn, hhn⟩ : ∃ m, h.length = m := ⟨_, rfl⟩
  rw [hhn] at hrh hl hfew
  have HH := Lib.hid hrh
  obtain ⟨va, vc, rfl⟩ : ∃ a c, v = .slice a hn c := by obtain ⟨a, c, e, _⟩ := hrh; exact ⟨a, c, e⟩
  obtain ⟨da, dc, rfl⟩ : ∃ a c, dv = .slice a n c := by obtain ⟨a, c, e, _⟩ := hri; exact ⟨a, c, e⟩
  have HN := Lib.hid hhn
  have HZ := Lib.hid hzl
  clear hri hrh hzl hhn
  rcases hc with ⟨rfl, rfl⟩ | ⟨rfl, rfl⟩ | ⟨rfl, rfl⟩ | ⟨rfl, rfl⟩
  · go_enter Tryd.func22, Tryd.ntmps22
    go_wp2_with fail
    obtain ⟨w1, hw1⟩ : ∃ q, ((w.alloc (.cells (kA false (.slice va hn vc)) 61)).alloc (.cells (fA 1 ep (.slice da n dc)) 64)).alloc (.cells (kA false (.slice none 0 0)) 61) = q := ⟨_, rfl⟩
    rw [hw1]
    obtain ⟨xb, hxb⟩ : ∃ q, w.heap.size = q := ⟨_, rfl⟩
    have hb1 : Below w.heap.size w w1 := hw1 ▸ kbelow3 w _ _ _
    have HX1 : Hid (KO w1 xb false (.slice va hn vc)) := Lib.hid (by rw [← hw1, ← hxb]; exact (alloc3 w _ _ _).1)
    have HF1 : Hid (FO w1 (xb + 1) 1 ep (.slice da n dc)) := Lib.hid (by rw [← hw1, ← hxb]; exact (alloc3 w _ _ _).2.1)
    have HK1 : Hid (KO w1 (xb + 1 + 1) false (.slice none 0 0)) := Lib.hid (by rw [← hw1, ← hxb]; exact (alloc3 w _ _ _).2.2)
    have HB1 := Lib.hid hb1
    have HXB := Lib.hid hxb
    rw [hxb]
    clear hb1 hw1 hxb
    refine wp_region_held_drew (S := (fun w' => KO w' xb false (.slice va hn vc) ∧ FO w' (xb + 1) 1 ep (.slice da n dc))) (by kernel_rfl) ⟨HX1.out.keep (Below.refl w1.heap.size w1).drew, HF1.out.keep (Below.refl w1.heap.size w1).drew⟩ (fun hS => ?_)
    refine wpAnyH_take (i := 1) (oi := ({ dst := some 38, op := Op.fieldAddr 61 (Operand.tmp 2) 1, type := 0, pos := "ref.go:17", after := #[], guard := none } : Oper)) (v := ?_) rfl (by kernel_rfl) (by kernel_rfl) (by kernel_rfl) (fun _ _ _ h => h) (Or.inl ⟨by rfl, ?_⟩) hS ?_
    rotate_left
    · (intro w hSw; (try dsimp only at hSw); go_simp; try with_reducible rfl)
    (try simp only [Act.put, List.setIfInBounds_toArray, List.set_cons_zero, List.set_cons_succ])
    refine wpAnyH_take (i := 2) (oi := ({ dst := some 39, op := Op.load 38 (Operand.tmp 38), type := 38, pos := "ref.go:17", after := #[{ on := 1, ground := Ground.data }], guard := none } : Oper)) (v := .slice va hn vc) rfl (by kernel_rfl) (by kernel_rfl) (by kernel_rfl) (fun _ _ _ h => h) (Or.inl ⟨by rfl, ?_⟩) hS ?_
    · (intro w hSw; (try dsimp only at hSw); have z := hSw.1.cells.2; go_simp)
    (try simp only [Act.put, List.setIfInBounds_toArray, List.set_cons_zero, List.set_cons_succ])
    refine wpAnyH_take (i := 4) (oi := ({ dst := some 41, op := Op.fieldAddr 64 (Operand.tmp 3) 2, type := 0, pos := "ref.go:17", after := #[], guard := none } : Oper)) (v := ?_) rfl (by kernel_rfl) (by kernel_rfl) (by kernel_rfl) (fun _ _ _ h => h) (Or.inl ⟨by rfl, ?_⟩) hS ?_
    rotate_left
    · (intro w hSw; (try dsimp only at hSw); go_simp; try with_reducible rfl)
    (try simp only [Act.put, List.setIfInBounds_toArray, List.set_cons_zero, List.set_cons_succ])
    refine wpAnyH_take (i := 5) (oi := ({ dst := some 42, op := Op.load 38 (Operand.tmp 41), type := 38, pos := "ref.go:17", after := #[{ on := 4, ground := Ground.data }], guard := none } : Oper)) (v := .slice da n dc) rfl (by kernel_rfl) (by kernel_rfl) (by kernel_rfl) (fun _ _ _ h => h) (Or.inl ⟨by rfl, ?_⟩) hS ?_
    · (intro w hSw; (try dsimp only at hSw); have z := hSw.2.cells.2.2; go_simp)
    (try simp only [Act.put, List.setIfInBounds_toArray, List.set_cons_zero, List.set_cons_succ])
    refine rg_one 0 ({ dst := some 37, op := Op.buildSlice 38 0 #[], type := 38, pos := "ref.go:17", after := #[], guard := none } : Oper) (by kernel_rfl) rfl (fun K hK => ?_)
    go_simp
    (obtain ⟨w4, hw4⟩ : ∃ q, w1.alloc (.cells #[] 5) = q := ⟨_, rfl⟩; simp only [hw4]; have hb4 : Below w1.heap.size w1 w4.drew := hw4 ▸ bdrew0 w1 _; have HO4 : Hid (w4.drew.ownsRow w.heap.size 5 1 (.slice (some ⟨w1.heap.size, 0, none⟩) 0 0) 0 (il .u8 [])) := Lib.hid (World.ownsRow.drew (hw4 ▸ (own_empty rfl HB1.out.size).out)); have HB4 := Lib.hid (bch HB1.out hb4); have HX4 := Lib.hid (HX1.out.keep hb4); have HF4 := Lib.hid (HF1.out.keep hb4); have HK4 := Lib.hid (HK1.out.keep hb4); have hN := And.intro HX4.out HF4.out; clear hb4 hw4)
    refine hK.out _ _ ?_ (fun hS1 => ?_)
    · (exact hN)
    clear hK K hS; have hS := hS1; clear hS1
    (try simp only [Act.put, List.setIfInBounds_toArray, List.set_cons_zero, List.set_cons_succ])
    refine rg_one 3 ({ dst := some 40, op := Op.call { callee := Callee.builtin Builtin.append, args := #[Operand.tmp 37, Operand.tmp 39], argTypes := #[38, 38] }, type := 38, pos := "ref.go:17", after := #[{ on := 0, ground := Ground.data }, { on := 2, ground := Ground.data }], guard := none } : Oper) (by kernel_rfl) rfl (fun K hK => ?_)
    (rw [if_pos (by rfl)]; refine wp_appn (.tmp 37) (.tmp 39) 38 rfl 5 .u8 1 Tryd.underlying38 Tryd.info_u8 w.heap.size (.slice (some ⟨w1.heap.size, 0, none⟩) 0 0) 0 [] rfl HO4.out (.slice va hn vc) hn h rfl (HH.out.keep HB4.out) (by omega) (by omega) HB4.out.size ?_; intro v5 w5 ho5 hg5 hl5; rw [Nat.zero_add, List.nil_append] at ho5; have HO5 := Lib.hid ho5; have HB5 := Lib.hid (HB4.out.grown hg5 HB4.out.size (fun q hq => (HO4.out.lt q hq).1)); have HX5 := Lib.hid (HX4.out.grown HO4.out (by decide) hg5); have HF5 := Lib.hid (HF4.out.grown HO4.out hg5); have HK5 := Lib.hid (HK4.out.grown HO4.out (by decide) hg5); clear hN; have hN := And.intro HX5.out HF5.out; clear ho5 hg5 hl5)
    refine hK.out _ _ ?_ (fun hS1 => ?_)
    · (exact hN)
    clear hK K hS; have hS := hS1; clear hS1
    (try simp only [Act.put, List.setIfInBounds_toArray, List.set_cons_zero, List.set_cons_succ])
    refine rg_one 6 ({ dst := some 43, op := Op.call { callee := Callee.builtin Builtin.append, args := #[Operand.tmp 40, Operand.tmp 42], argTypes := #[38, 38] }, type := 38, pos := "ref.go:17", after := #[{ on := 3, ground := Ground.data }, { on := 5, ground := Ground.data }, { on := 3, ground := Ground.chain }], guard := none } : Oper) (by kernel_rfl) rfl (fun K hK => ?_)
    (rw [if_pos (by rfl)]; refine wp_appn (.tmp 40) (.tmp 42) 38 rfl 5 .u8 1 Tryd.underlying38 Tryd.info_u8 w.heap.size v5 hn h rfl HO5.out (.slice da n dc) n d rfl (HR.out.keep HB5.out) (by omega) (by omega) HB5.out.size ?_; intro v6 w6 ho6 hg6 hl6; obtain ⟨a6, c6, rfl⟩ := own_form ho6; have HO6 := Lib.hid ho6; have HB6 := Lib.hid (HB5.out.grown hg6 HB5.out.size (fun q hq => (HO5.out.lt q hq).1)); have HX6 := Lib.hid (HX5.out.grown HO5.out (by decide) hg6); have HF6 := Lib.hid (HF5.out.grown HO5.out hg6); have HK6 := Lib.hid (HK5.out.grown HO5.out (by decide) hg6); clear hN; have hN := And.intro HX6.out HF6.out; clear ho6 hg6 hl6)
    refine hK.out _ _ ?_ (fun hS1 => ?_)
    · (exact hN)
    clear hK K hS; have hS := hS1; clear hS1
    (try simp only [Act.put, List.setIfInBounds_toArray, List.set_cons_zero, List.set_cons_succ])
    refine wpAnyH_take (i := 7) (oi := ({ dst := some 8, op := Op.assign (Operand.tmp 43), type := 38, pos := "ref.go:17", after := #[{ on := 6, ground := Ground.data }, { on := 6, ground := Ground.chain }, { on := 0, ground := Ground.phase }, { on := 1, ground := Ground.phase }, { on := 2, ground := Ground.phase }, { on := 3, ground := Ground.phase }, { on := 4, ground := Ground.phase }, { on := 5, ground := Ground.phase }, { on := 6, ground := Ground.phase }], guard := none } : Oper)) (v := ?_) rfl (by kernel_rfl) (by kernel_rfl) (by kernel_rfl) (fun _ _ _ h => h) (Or.inl ⟨by rfl, ?_⟩) hS ?_
    rotate_left
    · (intro w hSw; (try dsimp only at hSw); go_simp; try with_reducible rfl)
    (try simp only [Act.put, List.setIfInBounds_toArray, List.set_cons_zero, List.set_cons_succ])
    refine wpAnyH_done (by kernel_rfl) ?_ _
    obtain ⟨f60, f61, f62⟩ := HF6.out.cells
    clear hS hN
    go_wp2_with (first
      | (refine wpList_store_row rfl 61 _ _ rfl (xb + 1 + 1) (kA false (.slice none 0 0)) rfl rfl _ _ HK6.out (kj_info _ _) rfl (kj_one _ _ _ _) ?_))
    have HK7 := HK6.out.row false (.slice none 0 0)
    refine bodyPost_ret_by (results_row_tmp3 rfl _ _ (xb + 1 + 1) _ rfl HK7.load) rfl ?_
    exact ⟨rfl, brow HB6.out (by have := HXB.out; omega) (Nat.le_refl _) _⟩
  · go_enter Tryd.func22, Tryd.ntmps22
    go_wp2_with fail
    obtain ⟨w1, hw1⟩ : ∃ q, ((w.alloc (.cells (kA false (.slice va hn vc)) 61)).alloc (.cells (fA 2 ep (.slice da n dc)) 64)).alloc (.cells (kA false (.slice none 0 0)) 61) = q := ⟨_, rfl⟩
    rw [hw1]
    obtain ⟨xb, hxb⟩ : ∃ q, w.heap.size = q := ⟨_, rfl⟩
    have hb1 : Below w.heap.size w w1 := hw1 ▸ kbelow3 w _ _ _
    have HX1 : Hid (KO w1 xb false (.slice va hn vc)) := Lib.hid (by rw [← hw1, ← hxb]; exact (alloc3 w _ _ _).1)
    have HF1 : Hid (FO w1 (xb + 1) 2 ep (.slice da n dc)) := Lib.hid (by rw [← hw1, ← hxb]; exact (alloc3 w _ _ _).2.1)
    have HK1 : Hid (KO w1 (xb + 1 + 1) false (.slice none 0 0)) := Lib.hid (by rw [← hw1, ← hxb]; exact (alloc3 w _ _ _).2.2)
    have HB1 := Lib.hid hb1
    have HXB := Lib.hid hxb
    rw [hxb]
    clear hb1 hw1 hxb
    refine wp_region_held_drew (S := (fun w' => KO w' xb false (.slice va hn vc) ∧ FO w' (xb + 1) 2 ep (.slice da n dc))) (by kernel_rfl) ⟨HX1.out.keep (Below.refl w1.heap.size w1).drew, HF1.out.keep (Below.refl w1.heap.size w1).drew⟩ (fun hS => ?_)
    refine wpAnyH_take (i := 1) (oi := ({ dst := some 38, op := Op.fieldAddr 61 (Operand.tmp 2) 1, type := 0, pos := "ref.go:17", after := #[], guard := none } : Oper)) (v := ?_) rfl (by kernel_rfl) (by kernel_rfl) (by kernel_rfl) (fun _ _ _ h => h) (Or.inl ⟨by rfl, ?_⟩) hS ?_
    rotate_left
    · (intro w hSw; (try dsimp only at hSw); go_simp; try with_reducible rfl)
    (try simp only [Act.put, List.setIfInBounds_toArray, List.set_cons_zero, List.set_cons_succ])
    refine wpAnyH_take (i := 2) (oi := ({ dst := some 39, op := Op.load 38 (Operand.tmp 38), type := 38, pos := "ref.go:17", after := #[{ on := 1, ground := Ground.data }], guard := none } : Oper)) (v := .slice va hn vc) rfl (by kernel_rfl) (by kernel_rfl) (by kernel_rfl) (fun _ _ _ h => h) (Or.inl ⟨by rfl, ?_⟩) hS ?_
    · (intro w hSw; (try dsimp only at hSw); have z := hSw.1.cells.2; go_simp)
    (try simp only [Act.put, List.setIfInBounds_toArray, List.set_cons_zero, List.set_cons_succ])
    refine wpAnyH_take (i := 4) (oi := ({ dst := some 41, op := Op.fieldAddr 64 (Operand.tmp 3) 2, type := 0, pos := "ref.go:17", after := #[], guard := none } : Oper)) (v := ?_) rfl (by kernel_rfl) (by kernel_rfl) (by kernel_rfl) (fun _ _ _ h => h) (Or.inl ⟨by rfl, ?_⟩) hS ?_
    rotate_left
    · (intro w hSw; (try dsimp only at hSw); go_simp; try with_reducible rfl)
    (try simp only [Act.put, List.setIfInBounds_toArray, List.set_cons_zero, List.set_cons_succ])
    refine wpAnyH_take (i := 5) (oi := ({ dst := some 42, op := Op.load 38 (Operand.tmp 41), type := 38, pos := "ref.go:17", after := #[{ on := 4, ground := Ground.data }], guard := none } : Oper)) (v := .slice da n dc) rfl (by kernel_rfl) (by kernel_rfl) (by kernel_rfl) (fun _ _ _ h => h) (Or.inl ⟨by rfl, ?_⟩) hS ?_
    · (intro w hSw; (try dsimp only at hSw); have z := hSw.2.cells.2.2; go_simp)
    (try simp only [Act.put, List.setIfInBounds_toArray, List.set_cons_zero, List.set_cons_succ])
    refine rg_one 0 ({ dst := some 37, op := Op.buildSlice 38 0 #[], type := 38, pos := "ref.go:17", after := #[], guard := none } : Oper) (by kernel_rfl) rfl (fun K hK => ?_)
    go_simp
    (obtain ⟨w4, hw4⟩ : ∃ q, w1.alloc (.cells #[] 5) = q := ⟨_, rfl⟩; simp only [hw4]; have hb4 : Below w1.heap.size w1 w4.drew := hw4 ▸ bdrew0 w1 _; have HO4 : Hid (w4.drew.ownsRow w.heap.size 5 1 (.slice (some ⟨w1.heap.size, 0, none⟩) 0 0) 0 (il .u8 [])) := Lib.hid (World.ownsRow.drew (hw4 ▸ (own_empty rfl HB1.out.size).out)); have HB4 := Lib.hid (bch HB1.out hb4); have HX4 := Lib.hid (HX1.out.keep hb4); have HF4 := Lib.hid (HF1.out.keep hb4); have HK4 := Lib.hid (HK1.out.keep hb4); have hN := And.intro HX4.out HF4.out; clear hb4 hw4)
    refine hK.out _ _ ?_ (fun hS1 => ?_)
    · (exact hN)
    clear hK K hS; have hS := hS1; clear hS1
    (try simp only [Act.put, List.setIfInBounds_toArray, List.set_cons_zero, List.set_cons_succ])
    refine rg_one 3 ({ dst := some 40, op := Op.call { callee := Callee.builtin Builtin.append, args := #[Operand.tmp 37, Operand.tmp 39], argTypes := #[38, 38] }, type := 38, pos := "ref.go:17", after := #[{ on := 0, ground := Ground.data }, { on := 2, ground := Ground.data }], guard := none } : Oper) (by kernel_rfl) rfl (fun K hK => ?_)
    (rw [if_pos (by rfl)]; refine wp_appn (.tmp 37) (.tmp 39) 38 rfl 5 .u8 1 Tryd.underlying38 Tryd.info_u8 w.heap.size (.slice (some ⟨w1.heap.size, 0, none⟩) 0 0) 0 [] rfl HO4.out (.slice va hn vc) hn h rfl (HH.out.keep HB4.out) (by omega) (by omega) HB4.out.size ?_; intro v5 w5 ho5 hg5 hl5; rw [Nat.zero_add, List.nil_append] at ho5; have HO5 := Lib.hid ho5; have HB5 := Lib.hid (HB4.out.grown hg5 HB4.out.size (fun q hq => (HO4.out.lt q hq).1)); have HX5 := Lib.hid (HX4.out.grown HO4.out (by decide) hg5); have HF5 := Lib.hid (HF4.out.grown HO4.out hg5); have HK5 := Lib.hid (HK4.out.grown HO4.out (by decide) hg5); clear hN; have hN := And.intro HX5.out HF5.out; clear ho5 hg5 hl5)
    refine hK.out _ _ ?_ (fun hS1 => ?_)
    · (exact hN)
    clear hK K hS; have hS := hS1; clear hS1
    (try simp only [Act.put, List.setIfInBounds_toArray, List.set_cons_zero, List.set_cons_succ])
    refine rg_one 6 ({ dst := some 43, op := Op.call { callee := Callee.builtin Builtin.append, args := #[Operand.tmp 40, Operand.tmp 42], argTypes := #[38, 38] }, type := 38, pos := "ref.go:17", after := #[{ on := 3, ground := Ground.data }, { on := 5, ground := Ground.data }, { on := 3, ground := Ground.chain }], guard := none } : Oper) (by kernel_rfl) rfl (fun K hK => ?_)
    (rw [if_pos (by rfl)]; refine wp_appn (.tmp 40) (.tmp 42) 38 rfl 5 .u8 1 Tryd.underlying38 Tryd.info_u8 w.heap.size v5 hn h rfl HO5.out (.slice da n dc) n d rfl (HR.out.keep HB5.out) (by omega) (by omega) HB5.out.size ?_; intro v6 w6 ho6 hg6 hl6; obtain ⟨a6, c6, rfl⟩ := own_form ho6; have HO6 := Lib.hid ho6; have HB6 := Lib.hid (HB5.out.grown hg6 HB5.out.size (fun q hq => (HO5.out.lt q hq).1)); have HX6 := Lib.hid (HX5.out.grown HO5.out (by decide) hg6); have HF6 := Lib.hid (HF5.out.grown HO5.out hg6); have HK6 := Lib.hid (HK5.out.grown HO5.out (by decide) hg6); clear hN; have hN := And.intro HX6.out HF6.out; clear ho6 hg6 hl6)
    refine hK.out _ _ ?_ (fun hS1 => ?_)
    · (exact hN)
    clear hK K hS; have hS := hS1; clear hS1
    (try simp only [Act.put, List.setIfInBounds_toArray, List.set_cons_zero, List.set_cons_succ])
    refine wpAnyH_take (i := 7) (oi := ({ dst := some 8, op := Op.assign (Operand.tmp 43), type := 38, pos := "ref.go:17", after := #[{ on := 6, ground := Ground.data }, { on := 6, ground := Ground.chain }, { on := 0, ground := Ground.phase }, { on := 1, ground := Ground.phase }, { on := 2, ground := Ground.phase }, { on := 3, ground := Ground.phase }, { on := 4, ground := Ground.phase }, { on := 5, ground := Ground.phase }, { on := 6, ground := Ground.phase }], guard := none } : Oper)) (v := ?_) rfl (by kernel_rfl) (by kernel_rfl) (by kernel_rfl) (fun _ _ _ h => h) (Or.inl ⟨by rfl, ?_⟩) hS ?_
    rotate_left
    · (intro w hSw; (try dsimp only at hSw); go_simp; try with_reducible rfl)
    (try simp only [Act.put, List.setIfInBounds_toArray, List.set_cons_zero, List.set_cons_succ])
    refine wpAnyH_done (by kernel_rfl) ?_ _
    obtain ⟨f60, f61, f62⟩ := HF6.out.cells
    clear hS hN
    go_wp2_with (first
      | (refine wpList_store_row rfl 61 _ _ rfl (xb + 1 + 1) (kA false (.slice none 0 0)) rfl rfl _ _ HK6.out (kj_info _ _) rfl (kj_one _ _ _ _) ?_))
    have HK7 := HK6.out.row false (.slice none 0 0)
    refine bodyPost_ret_by (results_row_tmp3 rfl _ _ (xb + 1 + 1) _ rfl HK7.load) rfl ?_
    exact ⟨rfl, brow HB6.out (by have := HXB.out; omega) (Nat.le_refl _) _⟩
  · go_enter Tryd.func22, Tryd.ntmps22
    go_wp2_with fail
    obtain ⟨w1, hw1⟩ : ∃ q, ((w.alloc (.cells (kA true (.slice va hn vc)) 61)).alloc (.cells (fA 3 ep (.slice da n dc)) 64)).alloc (.cells (kA false (.slice none 0 0)) 61) = q := ⟨_, rfl⟩
    rw [hw1]
    obtain ⟨xb, hxb⟩ : ∃ q, w.heap.size = q := ⟨_, rfl⟩
    have hb1 : Below w.heap.size w w1 := hw1 ▸ kbelow3 w _ _ _
    have HX1 : Hid (KO w1 xb true (.slice va hn vc)) := Lib.hid (by rw [← hw1, ← hxb]; exact (alloc3 w _ _ _).1)
    have HF1 : Hid (FO w1 (xb + 1) 3 ep (.slice da n dc)) := Lib.hid (by rw [← hw1, ← hxb]; exact (alloc3 w _ _ _).2.1)
    have HK1 : Hid (KO w1 (xb + 1 + 1) false (.slice none 0 0)) := Lib.hid (by rw [← hw1, ← hxb]; exact (alloc3 w _ _ _).2.2)
    have HB1 := Lib.hid hb1
    have HXB := Lib.hid hxb
    rw [hxb]
    clear hb1 hw1 hxb
    refine wp_region_held_drew (S := (fun w' => KO w' xb true (.slice va hn vc) ∧ FO w' (xb + 1) 3 ep (.slice da n dc))) (by kernel_rfl) ⟨HX1.out.keep (Below.refl w1.heap.size w1).drew, HF1.out.keep (Below.refl w1.heap.size w1).drew⟩ (fun hS => ?_)
    refine wpAnyH_take (i := 1) (oi := ({ dst := some 38, op := Op.fieldAddr 61 (Operand.tmp 2) 1, type := 0, pos := "ref.go:17", after := #[], guard := none } : Oper)) (v := ?_) rfl (by kernel_rfl) (by kernel_rfl) (by kernel_rfl) (fun _ _ _ h => h) (Or.inl ⟨by rfl, ?_⟩) hS ?_
    rotate_left
    · (intro w hSw; (try dsimp only at hSw); go_simp; try with_reducible rfl)
    (try simp only [Act.put, List.setIfInBounds_toArray, List.set_cons_zero, List.set_cons_succ])
    refine wpAnyH_take (i := 2) (oi := ({ dst := some 39, op := Op.load 38 (Operand.tmp 38), type := 38, pos := "ref.go:17", after := #[{ on := 1, ground := Ground.data }], guard := none } : Oper)) (v := .slice va hn vc) rfl (by kernel_rfl) (by kernel_rfl) (by kernel_rfl) (fun _ _ _ h => h) (Or.inl ⟨by rfl, ?_⟩) hS ?_
    · (intro w hSw; (try dsimp only at hSw); have z := hSw.1.cells.2; go_simp)
    (try simp only [Act.put, List.setIfInBounds_toArray, List.set_cons_zero, List.set_cons_succ])
    refine wpAnyH_take (i := 4) (oi := ({ dst := some 41, op := Op.fieldAddr 64 (Operand.tmp 3) 2, type := 0, pos := "ref.go:17", after := #[], guard := none } : Oper)) (v := ?_) rfl (by kernel_rfl) (by kernel_rfl) (by kernel_rfl) (fun _ _ _ h => h) (Or.inl ⟨by rfl, ?_⟩) hS ?_
    rotate_left
    · (intro w hSw; (try dsimp only at hSw); go_simp; try with_reducible rfl)
    (try simp only [Act.put, List.setIfInBounds_toArray, List.set_cons_zero, List.set_cons_succ])
    refine wpAnyH_take (i := 5) (oi := ({ dst := some 42, op := Op.load 38 (Operand.tmp 41), type := 38, pos := "ref.go:17", after := #[{ on := 4, ground := Ground.data }], guard := none } : Oper)) (v := .slice da n dc) rfl (by kernel_rfl) (by kernel_rfl) (by kernel_rfl) (fun _ _ _ h => h) (Or.inl ⟨by rfl, ?_⟩) hS ?_
    · (intro w hSw; (try dsimp only at hSw); have z := hSw.2.cells.2.2; go_simp)
    (try simp only [Act.put, List.setIfInBounds_toArray, List.set_cons_zero, List.set_cons_succ])
    refine rg_one 0 ({ dst := some 37, op := Op.buildSlice 38 0 #[], type := 38, pos := "ref.go:17", after := #[], guard := none } : Oper) (by kernel_rfl) rfl (fun K hK => ?_)
    go_simp
    (obtain ⟨w4, hw4⟩ : ∃ q, w1.alloc (.cells #[] 5) = q := ⟨_, rfl⟩; simp only [hw4]; have hb4 : Below w1.heap.size w1 w4.drew := hw4 ▸ bdrew0 w1 _; have HO4 : Hid (w4.drew.ownsRow w.heap.size 5 1 (.slice (some ⟨w1.heap.size, 0, none⟩) 0 0) 0 (il .u8 [])) := Lib.hid (World.ownsRow.drew (hw4 ▸ (own_empty rfl HB1.out.size).out)); have HB4 := Lib.hid (bch HB1.out hb4); have HX4 := Lib.hid (HX1.out.keep hb4); have HF4 := Lib.hid (HF1.out.keep hb4); have HK4 := Lib.hid (HK1.out.keep hb4); have hN := And.intro HX4.out HF4.out; clear hb4 hw4)
    refine hK.out _ _ ?_ (fun hS1 => ?_)
    · (exact hN)
    clear hK K hS; have hS := hS1; clear hS1
    (try simp only [Act.put, List.setIfInBounds_toArray, List.set_cons_zero, List.set_cons_succ])
    refine rg_one 3 ({ dst := some 40, op := Op.call { callee := Callee.builtin Builtin.append, args := #[Operand.tmp 37, Operand.tmp 39], argTypes := #[38, 38] }, type := 38, pos := "ref.go:17", after := #[{ on := 0, ground := Ground.data }, { on := 2, ground := Ground.data }], guard := none } : Oper) (by kernel_rfl) rfl (fun K hK => ?_)
    (rw [if_pos (by rfl)]; refine wp_appn (.tmp 37) (.tmp 39) 38 rfl 5 .u8 1 Tryd.underlying38 Tryd.info_u8 w.heap.size (.slice (some ⟨w1.heap.size, 0, none⟩) 0 0) 0 [] rfl HO4.out (.slice va hn vc) hn h rfl (HH.out.keep HB4.out) (by omega) (by omega) HB4.out.size ?_; intro v5 w5 ho5 hg5 hl5; rw [Nat.zero_add, List.nil_append] at ho5; have HO5 := Lib.hid ho5; have HB5 := Lib.hid (HB4.out.grown hg5 HB4.out.size (fun q hq => (HO4.out.lt q hq).1)); have HX5 := Lib.hid (HX4.out.grown HO4.out (by decide) hg5); have HF5 := Lib.hid (HF4.out.grown HO4.out hg5); have HK5 := Lib.hid (HK4.out.grown HO4.out (by decide) hg5); clear hN; have hN := And.intro HX5.out HF5.out; clear ho5 hg5 hl5)
    refine hK.out _ _ ?_ (fun hS1 => ?_)
    · (exact hN)
    clear hK K hS; have hS := hS1; clear hS1
    (try simp only [Act.put, List.setIfInBounds_toArray, List.set_cons_zero, List.set_cons_succ])
    refine rg_one 6 ({ dst := some 43, op := Op.call { callee := Callee.builtin Builtin.append, args := #[Operand.tmp 40, Operand.tmp 42], argTypes := #[38, 38] }, type := 38, pos := "ref.go:17", after := #[{ on := 3, ground := Ground.data }, { on := 5, ground := Ground.data }, { on := 3, ground := Ground.chain }], guard := none } : Oper) (by kernel_rfl) rfl (fun K hK => ?_)
    (rw [if_pos (by rfl)]; refine wp_appn (.tmp 40) (.tmp 42) 38 rfl 5 .u8 1 Tryd.underlying38 Tryd.info_u8 w.heap.size v5 hn h rfl HO5.out (.slice da n dc) n d rfl (HR.out.keep HB5.out) (by omega) (by omega) HB5.out.size ?_; intro v6 w6 ho6 hg6 hl6; obtain ⟨a6, c6, rfl⟩ := own_form ho6; have HO6 := Lib.hid ho6; have HB6 := Lib.hid (HB5.out.grown hg6 HB5.out.size (fun q hq => (HO5.out.lt q hq).1)); have HX6 := Lib.hid (HX5.out.grown HO5.out (by decide) hg6); have HF6 := Lib.hid (HF5.out.grown HO5.out hg6); have HK6 := Lib.hid (HK5.out.grown HO5.out (by decide) hg6); clear hN; have hN := And.intro HX6.out HF6.out; clear ho6 hg6 hl6)
    refine hK.out _ _ ?_ (fun hS1 => ?_)
    · (exact hN)
    clear hK K hS; have hS := hS1; clear hS1
    (try simp only [Act.put, List.setIfInBounds_toArray, List.set_cons_zero, List.set_cons_succ])
    refine wpAnyH_take (i := 7) (oi := ({ dst := some 8, op := Op.assign (Operand.tmp 43), type := 38, pos := "ref.go:17", after := #[{ on := 6, ground := Ground.data }, { on := 6, ground := Ground.chain }, { on := 0, ground := Ground.phase }, { on := 1, ground := Ground.phase }, { on := 2, ground := Ground.phase }, { on := 3, ground := Ground.phase }, { on := 4, ground := Ground.phase }, { on := 5, ground := Ground.phase }, { on := 6, ground := Ground.phase }], guard := none } : Oper)) (v := ?_) rfl (by kernel_rfl) (by kernel_rfl) (by kernel_rfl) (fun _ _ _ h => h) (Or.inl ⟨by rfl, ?_⟩) hS ?_
    rotate_left
    · (intro w hSw; (try dsimp only at hSw); go_simp; try with_reducible rfl)
    (try simp only [Act.put, List.setIfInBounds_toArray, List.set_cons_zero, List.set_cons_succ])
    refine wpAnyH_done (by kernel_rfl) ?_ _
    obtain ⟨f60, f61, f62⟩ := HF6.out.cells
    clear hS hN
    go_wp2_with (first
      | (refine wpList_store_row rfl 61 _ _ rfl (xb + 1 + 1) (kA false (.slice none 0 0)) rfl rfl _ _ HK6.out (kj_info _ _) rfl (kj_one _ _ _ _) ?_))
    have HK7 := HK6.out.row false (.slice none 0 0)
    refine bodyPost_ret_by (results_row_tmp3 rfl _ _ (xb + 1 + 1) _ rfl HK7.load) rfl ?_
    exact ⟨rfl, brow HB6.out (by have := HXB.out; omega) (Nat.le_refl _) _⟩
  · go_enter Tryd.func22, Tryd.ntmps22
    go_wp2_with fail
    obtain ⟨w1, hw1⟩ : ∃ q, ((w.alloc (.cells (kA true (.slice va hn vc)) 61)).alloc (.cells (fA 4 ep (.slice da n dc)) 64)).alloc (.cells (kA false (.slice none 0 0)) 61) = q := ⟨_, rfl⟩
    rw [hw1]
    obtain ⟨xb, hxb⟩ : ∃ q, w.heap.size = q := ⟨_, rfl⟩
    have hb1 : Below w.heap.size w w1 := hw1 ▸ kbelow3 w _ _ _
    have HX1 : Hid (KO w1 xb true (.slice va hn vc)) := Lib.hid (by rw [← hw1, ← hxb]; exact (alloc3 w _ _ _).1)
    have HF1 : Hid (FO w1 (xb + 1) 4 ep (.slice da n dc)) := Lib.hid (by rw [← hw1, ← hxb]; exact (alloc3 w _ _ _).2.1)
    have HK1 : Hid (KO w1 (xb + 1 + 1) false (.slice none 0 0)) := Lib.hid (by rw [← hw1, ← hxb]; exact (alloc3 w _ _ _).2.2)
    have HB1 := Lib.hid hb1
    have HXB := Lib.hid hxb
    rw [hxb]
    clear hb1 hw1 hxb
    refine wp_region_held_drew (S := (fun w' => KO w' xb true (.slice va hn vc) ∧ FO w' (xb + 1) 4 ep (.slice da n dc))) (by kernel_rfl) ⟨HX1.out.keep (Below.refl w1.heap.size w1).drew, HF1.out.keep (Below.refl w1.heap.size w1).drew⟩ (fun hS => ?_)
    refine wpAnyH_take (i := 1) (oi := ({ dst := some 38, op := Op.fieldAddr 61 (Operand.tmp 2) 1, type := 0, pos := "ref.go:17", after := #[], guard := none } : Oper)) (v := ?_) rfl (by kernel_rfl) (by kernel_rfl) (by kernel_rfl) (fun _ _ _ h => h) (Or.inl ⟨by rfl, ?_⟩) hS ?_
    rotate_left
    · (intro w hSw; (try dsimp only at hSw); go_simp; try with_reducible rfl)
    (try simp only [Act.put, List.setIfInBounds_toArray, List.set_cons_zero, List.set_cons_succ])
    refine wpAnyH_take (i := 2) (oi := ({ dst := some 39, op := Op.load 38 (Operand.tmp 38), type := 38, pos := "ref.go:17", after := #[{ on := 1, ground := Ground.data }], guard := none } : Oper)) (v := .slice va hn vc) rfl (by kernel_rfl) (by kernel_rfl) (by kernel_rfl) (fun _ _ _ h => h) (Or.inl ⟨by rfl, ?_⟩) hS ?_
    · (intro w hSw; (try dsimp only at hSw); have z := hSw.1.cells.2; go_simp)
    (try simp only [Act.put, List.setIfInBounds_toArray, List.set_cons_zero, List.set_cons_succ])
    refine wpAnyH_take (i := 4) (oi := ({ dst := some 41, op := Op.fieldAddr 64 (Operand.tmp 3) 2, type := 0, pos := "ref.go:17", after := #[], guard := none } : Oper)) (v := ?_) rfl (by kernel_rfl) (by kernel_rfl) (by kernel_rfl) (fun _ _ _ h => h) (Or.inl ⟨by rfl, ?_⟩) hS ?_
    rotate_left
    · (intro w hSw; (try dsimp only at hSw); go_simp; try with_reducible rfl)
    (try simp only [Act.put, List.setIfInBounds_toArray, List.set_cons_zero, List.set_cons_succ])
    refine wpAnyH_take (i := 5) (oi := ({ dst := some 42, op := Op.load 38 (Operand.tmp 41), type := 38, pos := "ref.go:17", after := #[{ on := 4, ground := Ground.data }], guard := none } : Oper)) (v := .slice da n dc) rfl (by kernel_rfl) (by kernel_rfl) (by kernel_rfl) (fun _ _ _ h => h) (Or.inl ⟨by rfl, ?_⟩) hS ?_
    · (intro w hSw; (try dsimp only at hSw); have z := hSw.2.cells.2.2; go_simp)
    (try simp only [Act.put, List.setIfInBounds_toArray, List.set_cons_zero, List.set_cons_succ])
    refine rg_one 0 ({ dst := some 37, op := Op.buildSlice 38 0 #[], type := 38, pos := "ref.go:17", after := #[], guard := none } : Oper) (by kernel_rfl) rfl (fun K hK => ?_)
    go_simp
    (obtain ⟨w4, hw4⟩ : ∃ q, w1.alloc (.cells #[] 5) = q := ⟨_, rfl⟩; simp only [hw4]; have hb4 : Below w1.heap.size w1 w4.drew := hw4 ▸ bdrew0 w1 _; have HO4 : Hid (w4.drew.ownsRow w.heap.size 5 1 (.slice (some ⟨w1.heap.size, 0, none⟩) 0 0) 0 (il .u8 [])) := Lib.hid (World.ownsRow.drew (hw4 ▸ (own_empty rfl HB1.out.size).out)); have HB4 := Lib.hid (bch HB1.out hb4); have HX4 := Lib.hid (HX1.out.keep hb4); have HF4 := Lib.hid (HF1.out.keep hb4); have HK4 := Lib.hid (HK1.out.keep hb4); have hN := And.intro HX4.out HF4.out; clear hb4 hw4)
    refine hK.out _ _ ?_ (fun hS1 => ?_)
    · (exact hN)
    clear hK K hS; have hS := hS1; clear hS1
    (try simp only [Act.put, List.setIfInBounds_toArray, List.set_cons_zero, List.set_cons_succ])
    refine rg_one 3 ({ dst := some 40, op := Op.call { callee := Callee.builtin Builtin.append, args := #[Operand.tmp 37, Operand.tmp 39], argTypes := #[38, 38] }, type := 38, pos := "ref.go:17", after := #[{ on := 0, ground := Ground.data }, { on := 2, ground := Ground.data }], guard := none } : Oper) (by kernel_rfl) rfl (fun K hK => ?_)
    (rw [if_pos (by rfl)]; refine wp_appn (.tmp 37) (.tmp 39) 38 rfl 5 .u8 1 Tryd.underlying38 Tryd.info_u8 w.heap.size (.slice (some ⟨w1.heap.size, 0, none⟩) 0 0) 0 [] rfl HO4.out (.slice va hn vc) hn h rfl (HH.out.keep HB4.out) (by omega) (by omega) HB4.out.size ?_; intro v5 w5 ho5 hg5 hl5; rw [Nat.zero_add, List.nil_append] at ho5; have HO5 := Lib.hid ho5; have HB5 := Lib.hid (HB4.out.grown hg5 HB4.out.size (fun q hq => (HO4.out.lt q hq).1)); have HX5 := Lib.hid (HX4.out.grown HO4.out (by decide) hg5); have HF5 := Lib.hid (HF4.out.grown HO4.out hg5); have HK5 := Lib.hid (HK4.out.grown HO4.out (by decide) hg5); clear hN; have hN := And.intro HX5.out HF5.out; clear ho5 hg5 hl5)
    refine hK.out _ _ ?_ (fun hS1 => ?_)
    · (exact hN)
    clear hK K hS; have hS := hS1; clear hS1
    (try simp only [Act.put, List.setIfInBounds_toArray, List.set_cons_zero, List.set_cons_succ])
    refine rg_one 6 ({ dst := some 43, op := Op.call { callee := Callee.builtin Builtin.append, args := #[Operand.tmp 40, Operand.tmp 42], argTypes := #[38, 38] }, type := 38, pos := "ref.go:17", after := #[{ on := 3, ground := Ground.data }, { on := 5, ground := Ground.data }, { on := 3, ground := Ground.chain }], guard := none } : Oper) (by kernel_rfl) rfl (fun K hK => ?_)
    (rw [if_pos (by rfl)]; refine wp_appn (.tmp 40) (.tmp 42) 38 rfl 5 .u8 1 Tryd.underlying38 Tryd.info_u8 w.heap.size v5 hn h rfl HO5.out (.slice da n dc) n d rfl (HR.out.keep HB5.out) (by omega) (by omega) HB5.out.size ?_; intro v6 w6 ho6 hg6 hl6; obtain ⟨a6, c6, rfl⟩ := own_form ho6; have HO6 := Lib.hid ho6; have HB6 := Lib.hid (HB5.out.grown hg6 HB5.out.size (fun q hq => (HO5.out.lt q hq).1)); have HX6 := Lib.hid (HX5.out.grown HO5.out (by decide) hg6); have HF6 := Lib.hid (HF5.out.grown HO5.out hg6); have HK6 := Lib.hid (HK5.out.grown HO5.out (by decide) hg6); clear hN; have hN := And.intro HX6.out HF6.out; clear ho6 hg6 hl6)
    refine hK.out _ _ ?_ (fun hS1 => ?_)
    · (exact hN)
    clear hK K hS; have hS := hS1; clear hS1
    (try simp only [Act.put, List.setIfInBounds_toArray, List.set_cons_zero, List.set_cons_succ])
    refine wpAnyH_take (i := 7) (oi := ({ dst := some 8, op := Op.assign (Operand.tmp 43), type := 38, pos := "ref.go:17", after := #[{ on := 6, ground := Ground.data }, { on := 6, ground := Ground.chain }, { on := 0, ground := Ground.phase }, { on := 1, ground := Ground.phase }, { on := 2, ground := Ground.phase }, { on := 3, ground := Ground.phase }, { on := 4, ground := Ground.phase }, { on := 5, ground := Ground.phase }, { on := 6, ground := Ground.phase }], guard := none } : Oper)) (v := ?_) rfl (by kernel_rfl) (by kernel_rfl) (by kernel_rfl) (fun _ _ _ h => h) (Or.inl ⟨by rfl, ?_⟩) hS ?_
    rotate_left
    · (intro w hSw; (try dsimp only at hSw); go_simp; try with_reducible rfl)
    (try simp only [Act.put, List.setIfInBounds_toArray, List.set_cons_zero, List.set_cons_succ])
    refine wpAnyH_done (by kernel_rfl) ?_ _
    obtain ⟨f60, f61, f62⟩ := HF6.out.cells
    clear hS hN
    go_wp2_with (first
      | (refine wpList_store_row rfl 61 _ _ rfl (xb + 1 + 1) (kA false (.slice none 0 0)) rfl rfl _ _ HK6.out (kj_info _ _) rfl (kj_one _ _ _ _) ?_))
    have HK7 := HK6.out.row false (.slice none 0 0)
    refine bodyPost_ret_by (results_row_tmp3 rfl _ _ (xb + 1 + 1) _ rfl HK7.load) rfl ?_
    exact ⟨rfl, brow HB6.out (by have := HXB.out; omega) (Nat.le_refl _) _⟩
set_option maxRecDepth 8000 in
set_option maxHeartbeats 4000000 in
/-- a kind that may not come -/
theorem rfeed_wrong (o : Bool) (v : Value) (h : List Int) (k ep : Int) (dv : Value) (n : Nat) (d : List Int) (w : World) (hrh : RI .u8 w v h.length h) (_hfew : h.length ≤ 512) (hri : RI .u8 w dv n d) (_hn1 : (n : Int) ≤ 140737488351232)
    (hk : jFit o k = false) :
    Calls Tryd.prog 22 #[.agg (kA o v), .agg (fA k ep dv)] w fun e w' =>
      e = .returned (.tuple #[.agg (kA false (.slice none 0 0)), .slice none 0 0, .bool false, .int .i64 2]) ∧ Below w.heap.size w w' := by
  have hzl := hri.length
  have HR := Lib.hid hri
  obtain ⟨hn, hhn⟩ : ∃ m, h.length = m := ⟨_, rfl⟩
  rw [hhn] at hrh _hfew
  have HH := Lib.hid hrh
  obtain ⟨va, vc, rfl⟩ : ∃ a c, v = .slice a hn c := by obtain ⟨a, c, e, _⟩ := hrh; exact ⟨a, c, e⟩
  obtain ⟨da, dc, rfl⟩ : ∃ a c, dv = .slice a n c := by obtain ⟨a, c, e, _⟩ := hri; exact ⟨a, c, e⟩
  have HN := Lib.hid hhn
  have HZ := Lib.hid hzl
  clear hri hrh hzl hhn
  cases o
  all_goals (unfold jFit at hk; simp only [Bool.false_eq_true, if_false, if_true, decide_eq_false_iff_not, not_or] at hk; obtain ⟨k1, k2⟩ := hk)
  · have e1 : (k != 1) = true := by simpa using k1
    have e2 : (k != 2) = true := by simpa using k2
    go_enter Tryd.func22, Tryd.ntmps22
    go_wp2
    have HK7 : KO (((w.alloc (.cells (kA false (.slice va hn vc)) 61)).alloc (.cells (fA k ep (.slice da n dc)) 64)).alloc (.cells (kA false (.slice none 0 0)) 61)) (w.heap.size + 1 + 1) false (.slice none 0 0) := (alloc3 w _ _ _).2.2
    refine bodyPost_ret_by (results_row_tmp3 rfl _ _ (w.heap.size + 1 + 1) _ rfl HK7.load) rfl ?_
    exact ⟨rfl, kbelow3 w _ _ _⟩
  · have e1 : (k != 3) = true := by simpa using k1
    have e2 : (k != 4) = true := by simpa using k2
    go_enter Tryd.func22, Tryd.ntmps22
    go_wp2
    have HK7 : KO (((w.alloc (.cells (kA true (.slice va hn vc)) 61)).alloc (.cells (fA k ep (.slice da n dc)) 64)).alloc (.cells (kA false (.slice none 0 0)) 61)) (w.heap.size + 1 + 1) false (.slice none 0 0) := (alloc3 w _ _ _).2.2
    refine bodyPost_ret_by (results_row_tmp3 rfl _ _ (w.heap.size + 1 + 1) _ rfl HK7.load) rfl ?_
    exact ⟨rfl, kbelow3 w _ _ _⟩
/-- all of it -/
theorem rfeed_any (o : Bool) (v : Value) (h : List Int) (k ep : Int) (dv : Value) (n : Nat) (d : List Int) (w : World) (hrh : RI .u8 w v h.length h) (hfew : h.length ≤ 512) (hri : RI .u8 w dv n d) (hn1 : (n : Int) ≤ 140737488351232) :
    Calls Tryd.prog 22 #[.agg (kA o v), .agg (fA k ep dv)] w fun e w' =>
      ∃ u v', e = .returned (.tuple #[.agg (kA (jGoes o h k d) v'), u, .bool (jEnds o h k d), .int .i64 (jErr o h k d)]) ∧ w'.ownsRow w.heap.size 5 1 v' (jHad o h k d).length (il .u8 (jHad o h k d)) ∧ w'.ownsRow w.heap.size 5 1 u (jTell o h k d).length (il .u8 (jTell o h k d)) ∧ Below w.heap.size w w' := by
  have hz := hri.length
  cases hf : jFit o k with
  | false =>
    obtain ⟨e1, e2, e3, e4, e5⟩ := j_wrong (h := h) (d := d) hf
    rw [e1, e2, e3, e4, e5]
    exact (rfeed_wrong o v h k ep dv n d w hrh hfew hri hn1 hf).mono fun e w' ⟨h1, h2⟩ => ⟨_, _, h1, World.ownsRow_nil _ _ _ _, World.ownsRow_nil _ _ _ _, h2⟩
  | true =>
    by_cases hl : h.length + n > 512
    · obtain ⟨e1, e2, e3, e4, e5⟩ := j_long (h := h) (d := d) hf (by rw [hz]; exact hl)
      rw [e1, e2, e3, e4, e5]
      exact (rfeed_long o v h k ep dv n d w hrh hfew hri hn1 hf hl).mono fun e w' ⟨h1, h2⟩ => ⟨_, _, h1, World.ownsRow_nil _ _ _ _, World.ownsRow_nil _ _ _ _, h2⟩
    · cases hk : jLast k with
      | true =>
        obtain ⟨e1, e2, e3, e4, e5⟩ := j_ends (h := h) (d := d) hf (by rw [hz]; exact hl) hk
        rw [e1, e2, e3, e4, e5]
        exact (rfeed_ends o v h k ep dv n d w hrh hfew hri hn1 (by unfold jFit at hf; unfold jLast at hk; cases o <;> simp at hf hk ⊢ <;> omega) hl).mono fun e w' ⟨u, h1, h2, h3⟩ => ⟨u, _, h1, World.ownsRow_nil _ _ _ _, h2, h3⟩
      | false =>
        obtain ⟨e1, e2, e3, e4, e5⟩ := j_goes (h := h) (d := d) hf (by rw [hz]; exact hl) hk
        rw [e1, e2, e3, e4, e5]
        exact (rfeed_goes o v h k ep dv n d w hrh hfew hri hn1 (by unfold jFit at hf; unfold jLast at hk; cases o <;> simp at hf hk ⊢ <;> omega) hl).mono fun e w' ⟨u, h1, h2, h3⟩ => ⟨_, u, h1, h2, World.ownsRow_nil _ _ _ _, h3⟩
end Go.Proofs.YthickhfbllddjaaDoor
