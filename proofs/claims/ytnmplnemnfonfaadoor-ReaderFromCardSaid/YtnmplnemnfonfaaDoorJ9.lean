/-
  TEXTS JOINED: JoinBlk, Appw, JoinCode, JoinFeed, RdFrom, ScanRecs, ScanBlk. Each one's own words stand at its head.
-/
import Derived.Test.YtnmplnemnfonfaaDoorJ1
import Derived.Test.YtnmplnemnfonfaaDoorJ0
import Derived.Test.YtnmplnemnfonfaaDoorJ6
import Derived.Test.YtnmplnemnfonfaaDoorJ5
import Derived.WalkMore
import Derived.Test.YtnmplnemnfonfaaDoorJ8
namespace Go.Proofs.YtnmplnemnfonfaaDoor
open Go.RowKit
abbrev jA (o : Bool) (v : Value) : Array Value := #[.bool o, v]
theorem jo_info (o : Bool) (v : Value) : (Tryd.prog.info? 62).map (·.size) = some (jA o v).size := by
  rw [show (jA o v).size = 2 from rfl]; kernel_rfl
theorem jo_one (o : Bool) (a : Option Addr) (n m : Nat) : (jA o (.slice a n m)).all (·.oneCell') = true := by simp [jA, Value.oneCell']
def JO (w : World) (b : Nat) (o : Bool) (v : Value) : Prop := w.heap[b]? = some (.cells (jA o v) 62 (0, 0))
section
variable {w w' : World} {b b' : Nat} {o : Bool} {v : Value}
theorem JO.lt (h : JO w b o v) : b < w.heap.size := (Array.getElem?_eq_some_iff.1 h).1
theorem JO.keep (h : JO w b o v) (hb : Below w.heap.size w w') : JO w' b o v := (hb.block b h.lt).trans h
theorem JO.row (h : JO w b o v) (o' : Bool) (v' : Value) : JO (w.setRow b (jA o' v')) b o' v' := setRow_heap w b _ _ _ _ h
theorem JO.cells (h : JO w b o v) : w.cell? ⟨b, 0, none⟩ = some (.bool o) ∧ w.cell? ⟨b, 1, none⟩ = some v := ⟨cell_of_row w b 0 _ _ _ h, cell_of_row w b 1 _ _ _ h⟩
theorem JO.ne (h : JO w b o v) {g : Nat} {c : Array Value} {t : TypeId} {q : Nat × Nat} (hg : w.heap[g]? = some (.cells c t q)) (ht : t ≠ 62) : g ≠ b := by
  intro e; subst e
  rw [h] at hg
  simp only [Option.some.injEq, Obj.cells.injEq] at hg
  exact ht hg.2.1.symm
theorem JO.ne_own (h : JO w b o v) {base n k : Nat} {t : TypeId} {u : Value} {xs : List Value} (ho : w.ownsRow base t k u n xs) (ht : t ≠ 62) : ∀ q, u.ownBlock = some q → q ≠ b := by
  intro q hq
  rcases ho.2 with ⟨rfl, _⟩ | ⟨q', cap, cur, rfl, _, hcur, _⟩
  · simp [Value.ownBlock] at hq
  · simp only [Value.ownBlock, Option.some.injEq] at hq
    subst hq
    exact h.ne hcur ht
theorem JO.row_own (h : JO w b o v) (x : Array Value) {base n k : Nat} {t : TypeId} {u : Value} {xs : List Value} (ho : w.ownsRow base t k u n xs) (ht : t ≠ 62) : (w.setRow b x).ownsRow base t k u n xs :=
  own_over ho ⟨rfl, rfl, rfl, by simp, fun i _ hne => setRow_other w b i x (fun e => hne (by rw [e]))⟩ (fun g hg e => h.ne_own ho ht g hg (Option.some.inj e))
theorem JO.grown (h : JO w b o v) {base n k : Nat} {t : TypeId} {u : Value} {xs : List Value} (ho : w.ownsRow base t k u n xs) (ht : t ≠ 62) (hg : w.grownBy w' u.ownBlock) : JO w' b o v :=
  (hg.block b h.lt (fun e => h.ne_own ho ht b e.symm rfl)).trans h
end
structure JB (w : World) (base jb : Nat) (o : Bool) (v : Value) (h : List Int) : Prop where
  blk : JO w jb o v
  row : w.ownsRow base 5 1 v h.length (il .u8 h)
  idle : o = false → v = .slice none 0 0 ∧ h = []
  few : h.length ≤ 512
  low : base ≤ jb
theorem JB.keep {w w' : World} {base jb : Nat} {o : Bool} {v : Value} {h : List Int} (j : JB w base jb o v h) (hb : Below w.heap.size w w') : JB w' base jb o v h :=
  ⟨j.blk.keep hb, own_keep j.row hb, j.idle, j.few, j.low⟩
structure Oth (w w' : World) (jb : Nat) (v : Value) : Prop where
  os : w'.os = w.os
  tape : w'.tape = w.tape
  output : w'.output = w.output
  size : w.heap.size ≤ w'.heap.size
  block : ∀ g, g < w.heap.size → g ≠ jb → some g ≠ v.ownBlock → w'.heap[g]? = w.heap[g]?
theorem Oth.refl (w : World) (jb : Nat) (v : Value) : Oth w w jb v := ⟨rfl, rfl, rfl, Nat.le_refl _, fun _ _ _ _ => rfl⟩
theorem Oth.of_below {w w' : World} {jb : Nat} {v : Value} (h : Below w.heap.size w w') : Oth w w' jb v := ⟨h.os, h.tape, h.output, h.size, fun g hg _ _ => h.block g hg⟩
theorem Oth.trans {a b c : World} {jb : Nat} {v : Value} (h : Oth a b jb v) (k : Oth b c jb v) : Oth a c jb v :=
  ⟨k.os.trans h.os, k.tape.trans h.tape, k.output.trans h.output, Nat.le_trans h.size k.size, fun g hg h1 h2 => (k.block g (Nat.lt_of_lt_of_le hg h.size) h1 h2).trans (h.block g hg h1 h2)⟩
theorem Oth.row (w : World) (jb : Nat) (v : Value) (x : Array Value) : Oth w (w.setRow jb x) jb v := ⟨rfl, rfl, rfl, by simp, fun i _ hne _ => setRow_other w jb i x hne⟩
theorem Oth.grown {w w' : World} {jb : Nat} {v : Value} (h : w.grownBy w' v.ownBlock) : Oth w w' jb v := ⟨h.os, h.tape, h.output, h.size, fun g hg _ hn => h.block g hg hn⟩
theorem JB.below {w w' : World} {base jb : Nat} {o : Bool} {v : Value} {h : List Int} (j : JB w base jb o v h) (k : Oth w w' jb v) : Below base w w' :=
  ⟨k.os, k.tape, k.output, k.size, fun g hg => k.block g (Nat.lt_trans (Nat.lt_of_lt_of_le hg j.low) j.blk.lt) (fun e => by have := j.low; omega) (fun e => by have := (j.row.lt g e.symm).1; omega)⟩
theorem JB.oth {w w' : World} {base jb : Nat} {o : Bool} {v : Value} {h : List Int} (j : JB w base jb o v h) (k : Oth w w' jb v) {base' s n : Nat} {t : TypeId} {u : Value} {xs : List Value} (ho : w.ownsRow base' t s u n xs) (ht : t ≠ 62)
    (hne : ∀ g, u.ownBlock = some g → some g ≠ v.ownBlock) : w'.ownsRow base' t s u n xs := by
  refine ⟨ho.1, ?_⟩
  rcases id ho.2 with h2 | ⟨g, cap, cur, hv, hb, hcur, h3⟩
  · exact .inl h2
  · refine .inr ⟨g, cap, cur, hv, hb, ?_, h3⟩
    rw [k.block g (Array.getElem?_eq_some_iff.1 hcur).1 (j.blk.ne_own ho ht g (by rw [hv]; rfl)) (hne g (by rw [hv]; rfl))]; exact hcur
theorem JB.oth_blk {w w' : World} {base jb : Nat} {o : Bool} {v : Value} {h : List Int} (j : JB w base jb o v h) (k : Oth w w' jb v) {g : Nat} {c : Array Value} {t : TypeId} {q : Nat × Nat} (hg : w.heap[g]? = some (.cells c t q))
    (h1 : t ≠ 62) (h2 : t ≠ 5) : w'.heap[g]? = some (.cells c t q) := by
  refine (k.block g (Array.getElem?_eq_some_iff.1 hg).1 (j.blk.ne hg h1) (fun e => ?_)).trans hg
  rcases j.row.2 with ⟨rfl, _⟩ | ⟨q', cap, cur, rfl, _, hcur, _⟩
  · simp [Value.ownBlock] at e
  · simp only [Value.ownBlock, Option.some.injEq] at e
    subst e
    rw [hg] at hcur
    simp only [Option.some.injEq, Obj.cells.injEq] at hcur
    exact h2 hcur.2.1
def Lies (w : World) (v u : Value) : Prop := ∀ g, u.ownBlock = some g → some g = v.ownBlock ∨ w.heap.size ≤ g
theorem Lies.nil (w : World) (v : Value) (n c : Nat) : Lies w v (.slice none n c) := fun g hg => by simp [Value.ownBlock] at hg
end Go.Proofs.YtnmplnemnfonfaaDoor
namespace Go.Proofs.YtnmplnemnfonfaaDoor
open Go.RowKit
section
variable {P : Program} {w : World} {ops : Array Oper} {rest : List Oper} {o : Oper} {a : Act} {Q : Exit → Act → World → Prop}
theorem wpl_appw (hgd : o.guard = none) (s x : Operand) (t : TypeId) (ho : o.op = .call { callee := .builtin .append, args := #[s, x], argTypes := #[t, t] })
    (e : TypeId) (k : IntKind) (bytes : Nat) (ht : P.underlying t = some (.slice e)) (hinfo : (P.info? e).map (fun i => (i.zero, i.size, i.bytes)) = some (some (.int k 0), 1, bytes))
    (base : Nat) (v : Value) (n : Nat) (xs : List Int) (hs : a.eval s = v) (hown : w.ownsRow base e 1 v n (il k xs))
    (v2 : Value) (m : Nat) (ys : List Int) (hx : a.eval x = v2) (hri : RI k w v2 m ys) (hbytes : ((n + m) + (n + m) / 4 + 192) * bytes ≤ 281474976710656) (h63 : n + m ≤ 9223372036854775807) (hbase : base ≤ w.heap.size)
    (h : ∀ v' w', Hid (w'.ownsRow base e 1 v' (n + m) (il k (xs ++ ys))) → Hid (w.grownBy w' v.ownBlock) → Hid (v'.ownBlock = v.ownBlock ∨ v'.ownBlock = some w.heap.size) → wpList P ops Q rest (a.put o.dst v') w') : wpList P ops Q (o :: rest) a w :=
  wpList_plain hgd fun _ hK => wp_appn s x t ho e k bytes ht hinfo base v n xs hs hown v2 m ys hx hri hbytes h63 hbase fun v' w' h1 h2 h3 => hK _ _ (h v' w' h1 h2 h3)
end
end Go.Proofs.YtnmplnemnfonfaaDoor
namespace Go.Proofs.YtnmplnemnfonfaaDoor
open Go.RowKit
set_option maxRecDepth 8000 in
theorem new_any (w : World) : Calls Tryd.prog 9 #[] w fun e w' => e = .returned (.pointer (some ⟨w.heap.size, 0, none⟩)) ∧ JB w' w.heap.size w.heap.size false (.slice none 0 0) [] ∧ Below w.heap.size w w' := by
  go_enter Tryd.func9, Tryd.ntmps9
  go_wp2
  go_ret
  exact ⟨rfl, ⟨heap_alloc_last w _, World.ownsRow_nil _ _ _ _, fun _ => ⟨rfl, rfl⟩, by simp, Nat.le_refl _⟩, balloc w _⟩
set_option maxRecDepth 8000 in
theorem idle_any (o : Bool) (v : Value) (jb : Nat) (w : World) (h : JO w jb o v) : Calls Tryd.prog 23 #[.pointer (some ⟨jb, 0, none⟩)] w fun e w' => e = .returned (.bool (!o)) ∧ w = w' := by
  obtain ⟨h0, h1⟩ := h.cells
  clear h
  go_enter Tryd.func23, Tryd.ntmps23
  go_wp2
  go_ret
  exact ⟨rfl, rfl⟩
end Go.Proofs.YtnmplnemnfonfaaDoor
namespace Go.Proofs.YtnmplnemnfonfaaDoor
open Go.RowKit
set_option maxRecDepth 8000 in
set_option maxHeartbeats 2000000 in
theorem feed_ends (W : World) (o : Bool) (jb : Nat) (v : Value) (h : List Int) (k ep : Int) (dv : Value) (n : Nat) (d : List Int) (w : World) (hW : Below W.heap.size W w) (hj : JB w W.heap.size jb o v h) (hri : ∀ w', Oth w w' jb v → RI .u8 w' dv n d)
    (hk : (o = false ∧ k = 1) ∨ (o = true ∧ k = 4)) (hl : ¬ h.length + n > 512) :
    Calls Tryd.prog 11 #[.pointer (some ⟨jb, 0, none⟩), .agg (fA k ep dv)] w fun e w' =>
      ∃ u, e = .returned (.tuple #[u, .bool true, .int .i64 0]) ∧ JB w' W.heap.size jb false (.slice none 0 0) [] ∧ w'.ownsRow W.heap.size 5 1 u (h ++ d).length (il .u8 (h ++ d)) ∧ Lies w v u ∧ Oth w w' jb v := by
  have hzl := (hri w (Oth.refl _ _ _)).length
  have HR := Lib.hid hri
  have HW := Lib.hid hW
  obtain ⟨hn, hhn⟩ : ∃ m, h.length = m := ⟨_, rfl⟩
  have hr := hj.row
  rw [hhn] at hr hl
  have hfew := hj.few
  rw [hhn] at hfew
  obtain ⟨va, vc, rfl⟩ := own_form hr
  have HJ := Lib.hid hj
  obtain ⟨da, dc, rfl, _, hdc, hdm, _⟩ := hri w (Oth.refl _ _ _)
  have HN := Lib.hid hhn
  have HZ := Lib.hid hzl
  clear hj hW hzl hhn hr
  rcases hk with ⟨rfl, rfl⟩ | ⟨rfl, rfl⟩
  · go_enter Tryd.func11, Tryd.ntmps11
    go_wp2
    go_step3
    go_wp2_with fail
    obtain ⟨w1, hw1⟩ : ∃ q, w.alloc (.cells (fA 1 ep (.slice da n dc)) 43) = q := ⟨_, rfl⟩
    rw [hw1]
    obtain ⟨fb, hfb⟩ : ∃ q, w.heap.size = q := ⟨_, rfl⟩
    have hb1 : Below w.heap.size w w1 := hw1 ▸ balloc w _
    have HF1 : Hid (FO w1 fb 1 ep (.slice da n dc)) := Lib.hid (by rw [← hw1, ← hfb]; exact FO.alloc w)
    have HB1 := Lib.hid hb1
    have HJ1 := Lib.hid (HJ.out.keep hb1)
    rw [hfb]
    clear hb1 hw1 hfb
    refine wp_region_held_drew (S := (fun w' => Below w1.heap.size w1 w')) (by kernel_rfl) ((Below.refl w1.heap.size w1).drew) (fun hS => ?_)
    refine rgw 0 ⟨some 11, .move (.tmp 0), 36, _, _, none⟩ hS ?_
    refine rgw 2 ⟨some 13, .move (.tmp 0), 36, _, _, none⟩ hS ?_
    refine rgw 3 ⟨some 14, .nilCheck (.tmp 13), 0, _, _, none⟩ hS ?_
    refine rgw 4 ⟨some 15, .fieldAddr 62 (.tmp 14) 1, 0, _, _, none⟩ hS ?_
    refine rgw 5 ⟨some 16, .load 25 (.tmp 15), 25, _, _, none⟩ hS ?_ (v := .slice va hn vc) (hy := by intro w hSw; (try dsimp only at hSw); have z := (HJ1.out.blk.keep hSw).cells.2; go_simp)
    refine rg_one 1 ⟨some 12, .call { callee := .value (.func 23), args := #[.tmp 11], argTypes := #[36] }, 4, _, _, none⟩ (by kernel_rfl) rfl (fun K hK => ?_)
    go_simp
    (go_at_call 23; (with_reducible refine (idle_any false (.slice va hn vc) jb _ (HJ1.out.blk.keep hS)).mono ?_); rintro e w6 ⟨rfl, rfl⟩)
    refine hK.out _ _ ?_ (fun hS1 => ?_)
    · (exact hS)
    clear hK K hS; have hS := hS1; clear hS1
    (try simp only [rgp])
    refine rgw 6 ⟨some 7, .assign (.tmp 12), 4, _, _, none⟩ hS ?_
    refine rgw 7 ⟨some 8, .assign (.tmp 16), 25, _, _, none⟩ hS ?_
    refine wpAnyH_done (by kernel_rfl) ?_ _
    obtain ⟨w2, hw2⟩ : ∃ q, World.drew w1 = q := ⟨_, rfl⟩
    rw [hw2] at hS
    simp only [hw2]
    have HB2 := Lib.hid (bch HB1.out hS)
    have HF2 := Lib.hid (HF1.out.keep hS)
    have HJ2 := Lib.hid (HJ1.out.keep hS)
    clear hS hw2
    go_wp2_with (first
      | (refine wpList_store_row rfl 62 _ _ rfl jb (jA false (.slice none 0 0)) rfl rfl _ _ HJ2.out.blk (jo_info _ _) rfl (jo_one _ _ _ _) ?_))
    obtain ⟨w3, hw3⟩ : ∃ q, w2.setRow jb (jA false (.slice none 0 0)) = q := ⟨_, rfl⟩
    rw [hw3]
    have HO3 : Hid (Oth w w3 jb (.slice va hn vc)) := Lib.hid (hw3 ▸ (Oth.of_below HB2.out).trans (Oth.row w2 jb _ _))
    have HF3 : Hid (FO w3 fb 1 ep (.slice da n dc)) := Lib.hid (hw3 ▸ HF2.out.apart (HJ2.out.blk.ne HF2.out (by decide)) _)
    have HR3 : Hid (w3.ownsRow W.heap.size 5 1 (.slice va hn vc) hn (il .u8 h)) := Lib.hid (by rw [← hw3]; have z := HJ2.out.blk.row_own (jA false (.slice none 0 0)) HJ2.out.row (by decide); rw [HN.out] at z; exact z)
    have HJ3 : Hid (JO w3 jb false (.slice none 0 0)) := Lib.hid (hw3 ▸ HJ2.out.blk.row _ _)
    obtain ⟨f30, f31, f32⟩ := HF3.out.cells
    have hlow := HJ.out.low
    clear hw3
    go_step3
    go_wp2_with (first
      | (at_builtin; go_loud (refine wpl_appw rfl (.tmp 39) (.tmp 41) 25 rfl 5 .u8 1 Tryd.underlying25 Tryd.info_u8 W.heap.size (.slice va hn vc) hn h rfl HR3.out _ n d rfl (HR.out _ HO3.out) (by omega) (by omega) (HW.out.trans (HJ.out.below HO3.out)).size ?_); intro v4 w4 HR4 HG4 HL4; have HO4 := Lib.hid (HO3.out.trans (Oth.grown HG4.out)); have HJ4 := Lib.hid (HJ3.out.grown HR3.out (by decide) HG4.out); obtain ⟨a4, c4, rfl⟩ := own_form HR4.out; obtain ⟨g0, g1, g2⟩ := (HF3.out.grown HR3.out HG4.out).cells))
    try rw [Exit.noGoto_ret]
    go_ret3
    refine ⟨.slice a4 (hn + n) c4, rfl, ⟨HJ4.out, World.ownsRow_nil _ _ _ _, fun _ => ⟨rfl, rfl⟩, by simp, hlow⟩, ?_, ?_, HO4.out⟩
    · rw [List.length_append, HN.out, HZ.out]; exact HR4.out
    · intro g hg
      rcases HL4.out with e | e
      · exact .inl (by rw [← e]; exact hg.symm)
      · rw [hg] at e; obtain rfl := Option.some.inj e; exact .inr HO3.out.size
  · go_enter Tryd.func11, Tryd.ntmps11
    go_wp2
    go_step3
    go_wp2_with fail
    obtain ⟨w1, hw1⟩ : ∃ q, w.alloc (.cells (fA 4 ep (.slice da n dc)) 43) = q := ⟨_, rfl⟩
    rw [hw1]
    obtain ⟨fb, hfb⟩ : ∃ q, w.heap.size = q := ⟨_, rfl⟩
    have hb1 : Below w.heap.size w w1 := hw1 ▸ balloc w _
    have HF1 : Hid (FO w1 fb 4 ep (.slice da n dc)) := Lib.hid (by rw [← hw1, ← hfb]; exact FO.alloc w)
    have HB1 := Lib.hid hb1
    have HJ1 := Lib.hid (HJ.out.keep hb1)
    rw [hfb]
    clear hb1 hw1 hfb
    refine wp_region_held_drew (S := (fun w' => Below w1.heap.size w1 w')) (by kernel_rfl) ((Below.refl w1.heap.size w1).drew) (fun hS => ?_)
    refine rgw 0 ⟨some 11, .move (.tmp 0), 36, _, _, none⟩ hS ?_
    refine rgw 2 ⟨some 13, .move (.tmp 0), 36, _, _, none⟩ hS ?_
    refine rgw 3 ⟨some 14, .nilCheck (.tmp 13), 0, _, _, none⟩ hS ?_
    refine rgw 4 ⟨some 15, .fieldAddr 62 (.tmp 14) 1, 0, _, _, none⟩ hS ?_
    refine rgw 5 ⟨some 16, .load 25 (.tmp 15), 25, _, _, none⟩ hS ?_ (v := .slice va hn vc) (hy := by intro w hSw; (try dsimp only at hSw); have z := (HJ1.out.blk.keep hSw).cells.2; go_simp)
    refine rg_one 1 ⟨some 12, .call { callee := .value (.func 23), args := #[.tmp 11], argTypes := #[36] }, 4, _, _, none⟩ (by kernel_rfl) rfl (fun K hK => ?_)
    go_simp
    (go_at_call 23; (with_reducible refine (idle_any true (.slice va hn vc) jb _ (HJ1.out.blk.keep hS)).mono ?_); rintro e w6 ⟨rfl, rfl⟩)
    refine hK.out _ _ ?_ (fun hS1 => ?_)
    · (exact hS)
    clear hK K hS; have hS := hS1; clear hS1
    (try simp only [rgp])
    refine rgw 6 ⟨some 7, .assign (.tmp 12), 4, _, _, none⟩ hS ?_
    refine rgw 7 ⟨some 8, .assign (.tmp 16), 25, _, _, none⟩ hS ?_
    refine wpAnyH_done (by kernel_rfl) ?_ _
    obtain ⟨w2, hw2⟩ : ∃ q, World.drew w1 = q := ⟨_, rfl⟩
    rw [hw2] at hS
    simp only [hw2]
    have HB2 := Lib.hid (bch HB1.out hS)
    have HF2 := Lib.hid (HF1.out.keep hS)
    have HJ2 := Lib.hid (HJ1.out.keep hS)
    clear hS hw2
    go_wp2_with (first
      | (refine wpList_store_row rfl 62 _ _ rfl jb (jA false (.slice none 0 0)) rfl rfl _ _ HJ2.out.blk (jo_info _ _) rfl (jo_one _ _ _ _) ?_))
    obtain ⟨w3, hw3⟩ : ∃ q, w2.setRow jb (jA false (.slice none 0 0)) = q := ⟨_, rfl⟩
    rw [hw3]
    have HO3 : Hid (Oth w w3 jb (.slice va hn vc)) := Lib.hid (hw3 ▸ (Oth.of_below HB2.out).trans (Oth.row w2 jb _ _))
    have HF3 : Hid (FO w3 fb 4 ep (.slice da n dc)) := Lib.hid (hw3 ▸ HF2.out.apart (HJ2.out.blk.ne HF2.out (by decide)) _)
    have HR3 : Hid (w3.ownsRow W.heap.size 5 1 (.slice va hn vc) hn (il .u8 h)) := Lib.hid (by rw [← hw3]; have z := HJ2.out.blk.row_own (jA false (.slice none 0 0)) HJ2.out.row (by decide); rw [HN.out] at z; exact z)
    have HJ3 : Hid (JO w3 jb false (.slice none 0 0)) := Lib.hid (hw3 ▸ HJ2.out.blk.row _ _)
    obtain ⟨f30, f31, f32⟩ := HF3.out.cells
    have hlow := HJ.out.low
    clear hw3
    go_step3
    go_wp2_with (first
      | (at_builtin; go_loud (refine wpl_appw rfl (.tmp 39) (.tmp 41) 25 rfl 5 .u8 1 Tryd.underlying25 Tryd.info_u8 W.heap.size (.slice va hn vc) hn h rfl HR3.out _ n d rfl (HR.out _ HO3.out) (by omega) (by omega) (HW.out.trans (HJ.out.below HO3.out)).size ?_); intro v4 w4 HR4 HG4 HL4; have HO4 := Lib.hid (HO3.out.trans (Oth.grown HG4.out)); have HJ4 := Lib.hid (HJ3.out.grown HR3.out (by decide) HG4.out); obtain ⟨a4, c4, rfl⟩ := own_form HR4.out; obtain ⟨g0, g1, g2⟩ := (HF3.out.grown HR3.out HG4.out).cells))
    try rw [Exit.noGoto_ret]
    go_ret3
    refine ⟨.slice a4 (hn + n) c4, rfl, ⟨HJ4.out, World.ownsRow_nil _ _ _ _, fun _ => ⟨rfl, rfl⟩, by simp, hlow⟩, ?_, ?_, HO4.out⟩
    · rw [List.length_append, HN.out, HZ.out]; exact HR4.out
    · intro g hg
      rcases HL4.out with e | e
      · exact .inl (by rw [← e]; exact hg.symm)
      · rw [hg] at e; obtain rfl := Option.some.inj e; exact .inr HO3.out.size
set_option maxRecDepth 8000 in
set_option maxHeartbeats 2000000 in
theorem feed_goes (W : World) (o : Bool) (jb : Nat) (v : Value) (h : List Int) (k ep : Int) (dv : Value) (n : Nat) (d : List Int) (w : World) (hW : Below W.heap.size W w) (hj : JB w W.heap.size jb o v h) (hri : ∀ w', Oth w w' jb v → RI .u8 w' dv n d)
    (hk : (o = false ∧ k = 2) ∨ (o = true ∧ k = 3)) (hl : ¬ h.length + n > 512) :
    Calls Tryd.prog 11 #[.pointer (some ⟨jb, 0, none⟩), .agg (fA k ep dv)] w fun e w' =>
      ∃ u, e = .returned (.tuple #[.slice none 0 0, .bool false, .int .i64 0]) ∧ JB w' W.heap.size jb true u (h ++ d) ∧ Lies w v u ∧ Oth w w' jb v := by
  have hzl := (hri w (Oth.refl _ _ _)).length
  have HR := Lib.hid hri
  have HW := Lib.hid hW
  obtain ⟨hn, hhn⟩ : ∃ m, h.length = m := ⟨_, rfl⟩
  have hr := hj.row
  rw [hhn] at hr hl
  have hfew := hj.few
  rw [hhn] at hfew
  obtain ⟨va, vc, rfl⟩ := own_form hr
  have HJ := Lib.hid hj
  obtain ⟨da, dc, rfl, _, hdc, hdm, _⟩ := hri w (Oth.refl _ _ _)
  have HN := Lib.hid hhn
  have HZ := Lib.hid hzl
  clear hj hW hzl hhn hr
  rcases hk with ⟨rfl, rfl⟩ | ⟨rfl, rfl⟩
  · go_enter Tryd.func11, Tryd.ntmps11
    go_wp2
    go_step3
    go_wp2_with fail
    obtain ⟨w1, hw1⟩ : ∃ q, w.alloc (.cells (fA 2 ep (.slice da n dc)) 43) = q := ⟨_, rfl⟩
    rw [hw1]
    obtain ⟨fb, hfb⟩ : ∃ q, w.heap.size = q := ⟨_, rfl⟩
    have hb1 : Below w.heap.size w w1 := hw1 ▸ balloc w _
    have HF1 : Hid (FO w1 fb 2 ep (.slice da n dc)) := Lib.hid (by rw [← hw1, ← hfb]; exact FO.alloc w)
    have HB1 := Lib.hid hb1
    have HJ1 := Lib.hid (HJ.out.keep hb1)
    rw [hfb]
    clear hb1 hw1 hfb
    refine wp_region_held_drew (S := (fun w' => Below w1.heap.size w1 w')) (by kernel_rfl) ((Below.refl w1.heap.size w1).drew) (fun hS => ?_)
    refine rgw 0 ⟨some 11, .move (.tmp 0), 36, _, _, none⟩ hS ?_
    refine rgw 2 ⟨some 13, .move (.tmp 0), 36, _, _, none⟩ hS ?_
    refine rgw 3 ⟨some 14, .nilCheck (.tmp 13), 0, _, _, none⟩ hS ?_
    refine rgw 4 ⟨some 15, .fieldAddr 62 (.tmp 14) 1, 0, _, _, none⟩ hS ?_
    refine rgw 5 ⟨some 16, .load 25 (.tmp 15), 25, _, _, none⟩ hS ?_ (v := .slice va hn vc) (hy := by intro w hSw; (try dsimp only at hSw); have z := (HJ1.out.blk.keep hSw).cells.2; go_simp)
    refine rg_one 1 ⟨some 12, .call { callee := .value (.func 23), args := #[.tmp 11], argTypes := #[36] }, 4, _, _, none⟩ (by kernel_rfl) rfl (fun K hK => ?_)
    go_simp
    (go_at_call 23; (with_reducible refine (idle_any false (.slice va hn vc) jb _ (HJ1.out.blk.keep hS)).mono ?_); rintro e w6 ⟨rfl, rfl⟩)
    refine hK.out _ _ ?_ (fun hS1 => ?_)
    · (exact hS)
    clear hK K hS; have hS := hS1; clear hS1
    (try simp only [rgp])
    refine rgw 6 ⟨some 7, .assign (.tmp 12), 4, _, _, none⟩ hS ?_
    refine rgw 7 ⟨some 8, .assign (.tmp 16), 25, _, _, none⟩ hS ?_
    refine wpAnyH_done (by kernel_rfl) ?_ _
    obtain ⟨w2, hw2⟩ : ∃ q, World.drew w1 = q := ⟨_, rfl⟩
    rw [hw2] at hS
    simp only [hw2]
    have HB2 := Lib.hid (bch HB1.out hS)
    have HF2 := Lib.hid (HF1.out.keep hS)
    have HJ2 := Lib.hid (HJ1.out.keep hS)
    clear hS hw2
    go_wp2_with (first
      | (refine wpList_store_row rfl 62 _ _ rfl jb (jA false (.slice none 0 0)) rfl rfl _ _ HJ2.out.blk (jo_info _ _) rfl (jo_one _ _ _ _) ?_))
    obtain ⟨w3, hw3⟩ : ∃ q, w2.setRow jb (jA false (.slice none 0 0)) = q := ⟨_, rfl⟩
    rw [hw3]
    have HO3 : Hid (Oth w w3 jb (.slice va hn vc)) := Lib.hid (hw3 ▸ (Oth.of_below HB2.out).trans (Oth.row w2 jb _ _))
    have HF3 : Hid (FO w3 fb 2 ep (.slice da n dc)) := Lib.hid (hw3 ▸ HF2.out.apart (HJ2.out.blk.ne HF2.out (by decide)) _)
    have HR3 : Hid (w3.ownsRow W.heap.size 5 1 (.slice va hn vc) hn (il .u8 h)) := Lib.hid (by rw [← hw3]; have z := HJ2.out.blk.row_own (jA false (.slice none 0 0)) HJ2.out.row (by decide); rw [HN.out] at z; exact z)
    have HJ3 : Hid (JO w3 jb false (.slice none 0 0)) := Lib.hid (hw3 ▸ HJ2.out.blk.row _ _)
    obtain ⟨f30, f31, f32⟩ := HF3.out.cells
    have hlow := HJ.out.low
    clear hw3
    go_step3
    go_wp2_with (first
      | (at_builtin; go_loud (refine wpl_appw rfl (.tmp 39) (.tmp 41) 25 rfl 5 .u8 1 Tryd.underlying25 Tryd.info_u8 W.heap.size (.slice va hn vc) hn h rfl HR3.out _ n d rfl (HR.out _ HO3.out) (by omega) (by omega) (HW.out.trans (HJ.out.below HO3.out)).size ?_); intro v4 w4 HR4 HG4 HL4; have HO4 := Lib.hid (HO3.out.trans (Oth.grown HG4.out)); have HJ4 := Lib.hid (HJ3.out.grown HR3.out (by decide) HG4.out); obtain ⟨a4, c4, rfl⟩ := own_form HR4.out; obtain ⟨g0, g1, g2⟩ := (HF3.out.grown HR3.out HG4.out).cells)
      | (refine wpList_store_row rfl 62 _ _ rfl jb (jA true (.slice a4 (hn + n) c4)) rfl rfl _ _ HJ4.out (jo_info _ _) rfl (jo_one _ _ _ _) ?_))
    try rw [Exit.noGoto_ret]
    go_ret3
    refine ⟨.slice a4 (hn + n) c4, rfl, ⟨HJ4.out.row _ _, ?_, fun e => by simp at e, by rw [List.length_append, HN.out, HZ.out]; omega, hlow⟩, ?_, HO4.out.trans (Oth.row _ _ _ _)⟩
    · rw [List.length_append, HN.out, HZ.out]; exact HJ4.out.row_own _ HR4.out (by decide)
    · intro g hg
      rcases HL4.out with e | e
      · exact .inl (by rw [← e]; exact hg.symm)
      · rw [hg] at e; obtain rfl := Option.some.inj e; exact .inr HO3.out.size
  · go_enter Tryd.func11, Tryd.ntmps11
    go_wp2
    go_step3
    go_wp2_with fail
    obtain ⟨w1, hw1⟩ : ∃ q, w.alloc (.cells (fA 3 ep (.slice da n dc)) 43) = q := ⟨_, rfl⟩
    rw [hw1]
    obtain ⟨fb, hfb⟩ : ∃ q, w.heap.size = q := ⟨_, rfl⟩
    have hb1 : Below w.heap.size w w1 := hw1 ▸ balloc w _
    have HF1 : Hid (FO w1 fb 3 ep (.slice da n dc)) := Lib.hid (by rw [← hw1, ← hfb]; exact FO.alloc w)
    have HB1 := Lib.hid hb1
    have HJ1 := Lib.hid (HJ.out.keep hb1)
    rw [hfb]
    clear hb1 hw1 hfb
    refine wp_region_held_drew (S := (fun w' => Below w1.heap.size w1 w')) (by kernel_rfl) ((Below.refl w1.heap.size w1).drew) (fun hS => ?_)
    refine rgw 0 ⟨some 11, .move (.tmp 0), 36, _, _, none⟩ hS ?_
    refine rgw 2 ⟨some 13, .move (.tmp 0), 36, _, _, none⟩ hS ?_
    refine rgw 3 ⟨some 14, .nilCheck (.tmp 13), 0, _, _, none⟩ hS ?_
    refine rgw 4 ⟨some 15, .fieldAddr 62 (.tmp 14) 1, 0, _, _, none⟩ hS ?_
    refine rgw 5 ⟨some 16, .load 25 (.tmp 15), 25, _, _, none⟩ hS ?_ (v := .slice va hn vc) (hy := by intro w hSw; (try dsimp only at hSw); have z := (HJ1.out.blk.keep hSw).cells.2; go_simp)
    refine rg_one 1 ⟨some 12, .call { callee := .value (.func 23), args := #[.tmp 11], argTypes := #[36] }, 4, _, _, none⟩ (by kernel_rfl) rfl (fun K hK => ?_)
    go_simp
    (go_at_call 23; (with_reducible refine (idle_any true (.slice va hn vc) jb _ (HJ1.out.blk.keep hS)).mono ?_); rintro e w6 ⟨rfl, rfl⟩)
    refine hK.out _ _ ?_ (fun hS1 => ?_)
    · (exact hS)
    clear hK K hS; have hS := hS1; clear hS1
    (try simp only [rgp])
    refine rgw 6 ⟨some 7, .assign (.tmp 12), 4, _, _, none⟩ hS ?_
    refine rgw 7 ⟨some 8, .assign (.tmp 16), 25, _, _, none⟩ hS ?_
    refine wpAnyH_done (by kernel_rfl) ?_ _
    obtain ⟨w2, hw2⟩ : ∃ q, World.drew w1 = q := ⟨_, rfl⟩
    rw [hw2] at hS
    simp only [hw2]
    have HB2 := Lib.hid (bch HB1.out hS)
    have HF2 := Lib.hid (HF1.out.keep hS)
    have HJ2 := Lib.hid (HJ1.out.keep hS)
    clear hS hw2
    go_wp2_with (first
      | (refine wpList_store_row rfl 62 _ _ rfl jb (jA false (.slice none 0 0)) rfl rfl _ _ HJ2.out.blk (jo_info _ _) rfl (jo_one _ _ _ _) ?_))
    obtain ⟨w3, hw3⟩ : ∃ q, w2.setRow jb (jA false (.slice none 0 0)) = q := ⟨_, rfl⟩
    rw [hw3]
    have HO3 : Hid (Oth w w3 jb (.slice va hn vc)) := Lib.hid (hw3 ▸ (Oth.of_below HB2.out).trans (Oth.row w2 jb _ _))
    have HF3 : Hid (FO w3 fb 3 ep (.slice da n dc)) := Lib.hid (hw3 ▸ HF2.out.apart (HJ2.out.blk.ne HF2.out (by decide)) _)
    have HR3 : Hid (w3.ownsRow W.heap.size 5 1 (.slice va hn vc) hn (il .u8 h)) := Lib.hid (by rw [← hw3]; have z := HJ2.out.blk.row_own (jA false (.slice none 0 0)) HJ2.out.row (by decide); rw [HN.out] at z; exact z)
    have HJ3 : Hid (JO w3 jb false (.slice none 0 0)) := Lib.hid (hw3 ▸ HJ2.out.blk.row _ _)
    obtain ⟨f30, f31, f32⟩ := HF3.out.cells
    have hlow := HJ.out.low
    clear hw3
    go_step3
    go_wp2_with (first
      | (at_builtin; go_loud (refine wpl_appw rfl (.tmp 39) (.tmp 41) 25 rfl 5 .u8 1 Tryd.underlying25 Tryd.info_u8 W.heap.size (.slice va hn vc) hn h rfl HR3.out _ n d rfl (HR.out _ HO3.out) (by omega) (by omega) (HW.out.trans (HJ.out.below HO3.out)).size ?_); intro v4 w4 HR4 HG4 HL4; have HO4 := Lib.hid (HO3.out.trans (Oth.grown HG4.out)); have HJ4 := Lib.hid (HJ3.out.grown HR3.out (by decide) HG4.out); obtain ⟨a4, c4, rfl⟩ := own_form HR4.out; obtain ⟨g0, g1, g2⟩ := (HF3.out.grown HR3.out HG4.out).cells)
      | (refine wpList_store_row rfl 62 _ _ rfl jb (jA true (.slice a4 (hn + n) c4)) rfl rfl _ _ HJ4.out (jo_info _ _) rfl (jo_one _ _ _ _) ?_))
    try rw [Exit.noGoto_ret]
    go_ret3
    refine ⟨.slice a4 (hn + n) c4, rfl, ⟨HJ4.out.row _ _, ?_, fun e => by simp at e, by rw [List.length_append, HN.out, HZ.out]; omega, hlow⟩, ?_, HO4.out.trans (Oth.row _ _ _ _)⟩
    · rw [List.length_append, HN.out, HZ.out]; exact HJ4.out.row_own _ HR4.out (by decide)
    · intro g hg
      rcases HL4.out with e | e
      · exact .inl (by rw [← e]; exact hg.symm)
      · rw [hg] at e; obtain rfl := Option.some.inj e; exact .inr HO3.out.size
set_option maxRecDepth 8000 in
set_option maxHeartbeats 2000000 in
theorem feed_long (W : World) (o : Bool) (jb : Nat) (v : Value) (h : List Int) (k ep : Int) (dv : Value) (n : Nat) (d : List Int) (w : World) (hW : Below W.heap.size W w) (hj : JB w W.heap.size jb o v h) (hri : ∀ w', Oth w w' jb v → RI .u8 w' dv n d)
    (hk : jFit o k = true) (hl : h.length + n > 512) :
    Calls Tryd.prog 11 #[.pointer (some ⟨jb, 0, none⟩), .agg (fA k ep dv)] w fun e w' =>
      e = .returned (.tuple #[.slice none 0 0, .bool false, .int .i64 5]) ∧ JB w' W.heap.size jb false (.slice none 0 0) [] ∧ Oth w w' jb v := by
  have hc : (o = false ∧ k = 1) ∨ (o = false ∧ k = 2) ∨ (o = true ∧ k = 3) ∨ (o = true ∧ k = 4) := by
    unfold jFit at hk
    cases o <;> simp at hk ⊢ <;> exact hk
  clear hk
  have hzl := (hri w (Oth.refl _ _ _)).length
  have HR := Lib.hid hri
  have HW := Lib.hid hW
  obtain ⟨hn, hhn⟩ : ∃ m, h.length = m := ⟨_, rfl⟩
  have hr := hj.row
  rw [hhn] at hr hl
  have hfew := hj.few
  rw [hhn] at hfew
  obtain ⟨va, vc, rfl⟩ := own_form hr
  have HJ := Lib.hid hj
  obtain ⟨da, dc, rfl, _, hdc, hdm, _⟩ := hri w (Oth.refl _ _ _)
  have HN := Lib.hid hhn
  have HZ := Lib.hid hzl
  clear hj hW hzl hhn hr
  rcases hc with ⟨rfl, rfl⟩ | ⟨rfl, rfl⟩ | ⟨rfl, rfl⟩ | ⟨rfl, rfl⟩
  · go_enter Tryd.func11, Tryd.ntmps11
    go_wp2
    go_step3
    go_wp2_with fail
    obtain ⟨w1, hw1⟩ : ∃ q, w.alloc (.cells (fA 1 ep (.slice da n dc)) 43) = q := ⟨_, rfl⟩
    rw [hw1]
    obtain ⟨fb, hfb⟩ : ∃ q, w.heap.size = q := ⟨_, rfl⟩
    have hb1 : Below w.heap.size w w1 := hw1 ▸ balloc w _
    have HF1 : Hid (FO w1 fb 1 ep (.slice da n dc)) := Lib.hid (by rw [← hw1, ← hfb]; exact FO.alloc w)
    have HB1 := Lib.hid hb1
    have HJ1 := Lib.hid (HJ.out.keep hb1)
    rw [hfb]
    clear hb1 hw1 hfb
    refine wp_region_held_drew (S := (fun w' => Below w1.heap.size w1 w')) (by kernel_rfl) ((Below.refl w1.heap.size w1).drew) (fun hS => ?_)
    refine rgw 0 ⟨some 11, .move (.tmp 0), 36, _, _, none⟩ hS ?_
    refine rgw 2 ⟨some 13, .move (.tmp 0), 36, _, _, none⟩ hS ?_
    refine rgw 3 ⟨some 14, .nilCheck (.tmp 13), 0, _, _, none⟩ hS ?_
    refine rgw 4 ⟨some 15, .fieldAddr 62 (.tmp 14) 1, 0, _, _, none⟩ hS ?_
    refine rgw 5 ⟨some 16, .load 25 (.tmp 15), 25, _, _, none⟩ hS ?_ (v := .slice va hn vc) (hy := by intro w hSw; (try dsimp only at hSw); have z := (HJ1.out.blk.keep hSw).cells.2; go_simp)
    refine rg_one 1 ⟨some 12, .call { callee := .value (.func 23), args := #[.tmp 11], argTypes := #[36] }, 4, _, _, none⟩ (by kernel_rfl) rfl (fun K hK => ?_)
    go_simp
    (go_at_call 23; (with_reducible refine (idle_any false (.slice va hn vc) jb _ (HJ1.out.blk.keep hS)).mono ?_); rintro e w6 ⟨rfl, rfl⟩)
    refine hK.out _ _ ?_ (fun hS1 => ?_)
    · (exact hS)
    clear hK K hS; have hS := hS1; clear hS1
    (try simp only [rgp])
    refine rgw 6 ⟨some 7, .assign (.tmp 12), 4, _, _, none⟩ hS ?_
    refine rgw 7 ⟨some 8, .assign (.tmp 16), 25, _, _, none⟩ hS ?_
    refine wpAnyH_done (by kernel_rfl) ?_ _
    obtain ⟨w2, hw2⟩ : ∃ q, World.drew w1 = q := ⟨_, rfl⟩
    rw [hw2] at hS
    simp only [hw2]
    have HB2 := Lib.hid (bch HB1.out hS)
    have HF2 := Lib.hid (HF1.out.keep hS)
    have HJ2 := Lib.hid (HJ1.out.keep hS)
    clear hS hw2
    go_wp2_with (first
      | (refine wpList_store_row rfl 62 _ _ rfl jb (jA false (.slice none 0 0)) rfl rfl _ _ HJ2.out.blk (jo_info _ _) rfl (jo_one _ _ _ _) ?_))
    obtain ⟨w3, hw3⟩ : ∃ q, w2.setRow jb (jA false (.slice none 0 0)) = q := ⟨_, rfl⟩
    rw [hw3]
    have HO3 : Hid (Oth w w3 jb (.slice va hn vc)) := Lib.hid (hw3 ▸ (Oth.of_below HB2.out).trans (Oth.row w2 jb _ _))
    have HF3 : Hid (FO w3 fb 1 ep (.slice da n dc)) := Lib.hid (hw3 ▸ HF2.out.apart (HJ2.out.blk.ne HF2.out (by decide)) _)
    have HR3 : Hid (w3.ownsRow W.heap.size 5 1 (.slice va hn vc) hn (il .u8 h)) := Lib.hid (by rw [← hw3]; have z := HJ2.out.blk.row_own (jA false (.slice none 0 0)) HJ2.out.row (by decide); rw [HN.out] at z; exact z)
    have HJ3 : Hid (JO w3 jb false (.slice none 0 0)) := Lib.hid (hw3 ▸ HJ2.out.blk.row _ _)
    obtain ⟨f30, f31, f32⟩ := HF3.out.cells
    have hlow := HJ.out.low
    clear hw3
    go_step3
    go_wp2
    try rw [Exit.noGoto_ret]
    go_ret3
    exact ⟨rfl, ⟨HJ3.out, World.ownsRow_nil _ _ _ _, fun _ => ⟨rfl, rfl⟩, by simp, hlow⟩, HO3.out⟩
  · go_enter Tryd.func11, Tryd.ntmps11
    go_wp2
    go_step3
    go_wp2_with fail
    obtain ⟨w1, hw1⟩ : ∃ q, w.alloc (.cells (fA 2 ep (.slice da n dc)) 43) = q := ⟨_, rfl⟩
    rw [hw1]
    obtain ⟨fb, hfb⟩ : ∃ q, w.heap.size = q := ⟨_, rfl⟩
    have hb1 : Below w.heap.size w w1 := hw1 ▸ balloc w _
    have HF1 : Hid (FO w1 fb 2 ep (.slice da n dc)) := Lib.hid (by rw [← hw1, ← hfb]; exact FO.alloc w)
    have HB1 := Lib.hid hb1
    have HJ1 := Lib.hid (HJ.out.keep hb1)
    rw [hfb]
    clear hb1 hw1 hfb
    refine wp_region_held_drew (S := (fun w' => Below w1.heap.size w1 w')) (by kernel_rfl) ((Below.refl w1.heap.size w1).drew) (fun hS => ?_)
    refine rgw 0 ⟨some 11, .move (.tmp 0), 36, _, _, none⟩ hS ?_
    refine rgw 2 ⟨some 13, .move (.tmp 0), 36, _, _, none⟩ hS ?_
    refine rgw 3 ⟨some 14, .nilCheck (.tmp 13), 0, _, _, none⟩ hS ?_
    refine rgw 4 ⟨some 15, .fieldAddr 62 (.tmp 14) 1, 0, _, _, none⟩ hS ?_
    refine rgw 5 ⟨some 16, .load 25 (.tmp 15), 25, _, _, none⟩ hS ?_ (v := .slice va hn vc) (hy := by intro w hSw; (try dsimp only at hSw); have z := (HJ1.out.blk.keep hSw).cells.2; go_simp)
    refine rg_one 1 ⟨some 12, .call { callee := .value (.func 23), args := #[.tmp 11], argTypes := #[36] }, 4, _, _, none⟩ (by kernel_rfl) rfl (fun K hK => ?_)
    go_simp
    (go_at_call 23; (with_reducible refine (idle_any false (.slice va hn vc) jb _ (HJ1.out.blk.keep hS)).mono ?_); rintro e w6 ⟨rfl, rfl⟩)
    refine hK.out _ _ ?_ (fun hS1 => ?_)
    · (exact hS)
    clear hK K hS; have hS := hS1; clear hS1
    (try simp only [rgp])
    refine rgw 6 ⟨some 7, .assign (.tmp 12), 4, _, _, none⟩ hS ?_
    refine rgw 7 ⟨some 8, .assign (.tmp 16), 25, _, _, none⟩ hS ?_
    refine wpAnyH_done (by kernel_rfl) ?_ _
    obtain ⟨w2, hw2⟩ : ∃ q, World.drew w1 = q := ⟨_, rfl⟩
    rw [hw2] at hS
    simp only [hw2]
    have HB2 := Lib.hid (bch HB1.out hS)
    have HF2 := Lib.hid (HF1.out.keep hS)
    have HJ2 := Lib.hid (HJ1.out.keep hS)
    clear hS hw2
    go_wp2_with (first
      | (refine wpList_store_row rfl 62 _ _ rfl jb (jA false (.slice none 0 0)) rfl rfl _ _ HJ2.out.blk (jo_info _ _) rfl (jo_one _ _ _ _) ?_))
    obtain ⟨w3, hw3⟩ : ∃ q, w2.setRow jb (jA false (.slice none 0 0)) = q := ⟨_, rfl⟩
    rw [hw3]
    have HO3 : Hid (Oth w w3 jb (.slice va hn vc)) := Lib.hid (hw3 ▸ (Oth.of_below HB2.out).trans (Oth.row w2 jb _ _))
    have HF3 : Hid (FO w3 fb 2 ep (.slice da n dc)) := Lib.hid (hw3 ▸ HF2.out.apart (HJ2.out.blk.ne HF2.out (by decide)) _)
    have HR3 : Hid (w3.ownsRow W.heap.size 5 1 (.slice va hn vc) hn (il .u8 h)) := Lib.hid (by rw [← hw3]; have z := HJ2.out.blk.row_own (jA false (.slice none 0 0)) HJ2.out.row (by decide); rw [HN.out] at z; exact z)
    have HJ3 : Hid (JO w3 jb false (.slice none 0 0)) := Lib.hid (hw3 ▸ HJ2.out.blk.row _ _)
    obtain ⟨f30, f31, f32⟩ := HF3.out.cells
    have hlow := HJ.out.low
    clear hw3
    go_step3
    go_wp2
    try rw [Exit.noGoto_ret]
    go_ret3
    exact ⟨rfl, ⟨HJ3.out, World.ownsRow_nil _ _ _ _, fun _ => ⟨rfl, rfl⟩, by simp, hlow⟩, HO3.out⟩
  · go_enter Tryd.func11, Tryd.ntmps11
    go_wp2
    go_step3
    go_wp2_with fail
    obtain ⟨w1, hw1⟩ : ∃ q, w.alloc (.cells (fA 3 ep (.slice da n dc)) 43) = q := ⟨_, rfl⟩
    rw [hw1]
    obtain ⟨fb, hfb⟩ : ∃ q, w.heap.size = q := ⟨_, rfl⟩
    have hb1 : Below w.heap.size w w1 := hw1 ▸ balloc w _
    have HF1 : Hid (FO w1 fb 3 ep (.slice da n dc)) := Lib.hid (by rw [← hw1, ← hfb]; exact FO.alloc w)
    have HB1 := Lib.hid hb1
    have HJ1 := Lib.hid (HJ.out.keep hb1)
    rw [hfb]
    clear hb1 hw1 hfb
    refine wp_region_held_drew (S := (fun w' => Below w1.heap.size w1 w')) (by kernel_rfl) ((Below.refl w1.heap.size w1).drew) (fun hS => ?_)
    refine rgw 0 ⟨some 11, .move (.tmp 0), 36, _, _, none⟩ hS ?_
    refine rgw 2 ⟨some 13, .move (.tmp 0), 36, _, _, none⟩ hS ?_
    refine rgw 3 ⟨some 14, .nilCheck (.tmp 13), 0, _, _, none⟩ hS ?_
    refine rgw 4 ⟨some 15, .fieldAddr 62 (.tmp 14) 1, 0, _, _, none⟩ hS ?_
    refine rgw 5 ⟨some 16, .load 25 (.tmp 15), 25, _, _, none⟩ hS ?_ (v := .slice va hn vc) (hy := by intro w hSw; (try dsimp only at hSw); have z := (HJ1.out.blk.keep hSw).cells.2; go_simp)
    refine rg_one 1 ⟨some 12, .call { callee := .value (.func 23), args := #[.tmp 11], argTypes := #[36] }, 4, _, _, none⟩ (by kernel_rfl) rfl (fun K hK => ?_)
    go_simp
    (go_at_call 23; (with_reducible refine (idle_any true (.slice va hn vc) jb _ (HJ1.out.blk.keep hS)).mono ?_); rintro e w6 ⟨rfl, rfl⟩)
    refine hK.out _ _ ?_ (fun hS1 => ?_)
    · (exact hS)
    clear hK K hS; have hS := hS1; clear hS1
    (try simp only [rgp])
    refine rgw 6 ⟨some 7, .assign (.tmp 12), 4, _, _, none⟩ hS ?_
    refine rgw 7 ⟨some 8, .assign (.tmp 16), 25, _, _, none⟩ hS ?_
    refine wpAnyH_done (by kernel_rfl) ?_ _
    obtain ⟨w2, hw2⟩ : ∃ q, World.drew w1 = q := ⟨_, rfl⟩
    rw [hw2] at hS
    simp only [hw2]
    have HB2 := Lib.hid (bch HB1.out hS)
    have HF2 := Lib.hid (HF1.out.keep hS)
    have HJ2 := Lib.hid (HJ1.out.keep hS)
    clear hS hw2
    go_wp2_with (first
      | (refine wpList_store_row rfl 62 _ _ rfl jb (jA false (.slice none 0 0)) rfl rfl _ _ HJ2.out.blk (jo_info _ _) rfl (jo_one _ _ _ _) ?_))
    obtain ⟨w3, hw3⟩ : ∃ q, w2.setRow jb (jA false (.slice none 0 0)) = q := ⟨_, rfl⟩
    rw [hw3]
    have HO3 : Hid (Oth w w3 jb (.slice va hn vc)) := Lib.hid (hw3 ▸ (Oth.of_below HB2.out).trans (Oth.row w2 jb _ _))
    have HF3 : Hid (FO w3 fb 3 ep (.slice da n dc)) := Lib.hid (hw3 ▸ HF2.out.apart (HJ2.out.blk.ne HF2.out (by decide)) _)
    have HR3 : Hid (w3.ownsRow W.heap.size 5 1 (.slice va hn vc) hn (il .u8 h)) := Lib.hid (by rw [← hw3]; have z := HJ2.out.blk.row_own (jA false (.slice none 0 0)) HJ2.out.row (by decide); rw [HN.out] at z; exact z)
    have HJ3 : Hid (JO w3 jb false (.slice none 0 0)) := Lib.hid (hw3 ▸ HJ2.out.blk.row _ _)
    obtain ⟨f30, f31, f32⟩ := HF3.out.cells
    have hlow := HJ.out.low
    clear hw3
    go_step3
    go_wp2
    try rw [Exit.noGoto_ret]
    go_ret3
    exact ⟨rfl, ⟨HJ3.out, World.ownsRow_nil _ _ _ _, fun _ => ⟨rfl, rfl⟩, by simp, hlow⟩, HO3.out⟩
  · go_enter Tryd.func11, Tryd.ntmps11
    go_wp2
    go_step3
    go_wp2_with fail
    obtain ⟨w1, hw1⟩ : ∃ q, w.alloc (.cells (fA 4 ep (.slice da n dc)) 43) = q := ⟨_, rfl⟩
    rw [hw1]
    obtain ⟨fb, hfb⟩ : ∃ q, w.heap.size = q := ⟨_, rfl⟩
    have hb1 : Below w.heap.size w w1 := hw1 ▸ balloc w _
    have HF1 : Hid (FO w1 fb 4 ep (.slice da n dc)) := Lib.hid (by rw [← hw1, ← hfb]; exact FO.alloc w)
    have HB1 := Lib.hid hb1
    have HJ1 := Lib.hid (HJ.out.keep hb1)
    rw [hfb]
    clear hb1 hw1 hfb
    refine wp_region_held_drew (S := (fun w' => Below w1.heap.size w1 w')) (by kernel_rfl) ((Below.refl w1.heap.size w1).drew) (fun hS => ?_)
    refine rgw 0 ⟨some 11, .move (.tmp 0), 36, _, _, none⟩ hS ?_
    refine rgw 2 ⟨some 13, .move (.tmp 0), 36, _, _, none⟩ hS ?_
    refine rgw 3 ⟨some 14, .nilCheck (.tmp 13), 0, _, _, none⟩ hS ?_
    refine rgw 4 ⟨some 15, .fieldAddr 62 (.tmp 14) 1, 0, _, _, none⟩ hS ?_
    refine rgw 5 ⟨some 16, .load 25 (.tmp 15), 25, _, _, none⟩ hS ?_ (v := .slice va hn vc) (hy := by intro w hSw; (try dsimp only at hSw); have z := (HJ1.out.blk.keep hSw).cells.2; go_simp)
    refine rg_one 1 ⟨some 12, .call { callee := .value (.func 23), args := #[.tmp 11], argTypes := #[36] }, 4, _, _, none⟩ (by kernel_rfl) rfl (fun K hK => ?_)
    go_simp
    (go_at_call 23; (with_reducible refine (idle_any true (.slice va hn vc) jb _ (HJ1.out.blk.keep hS)).mono ?_); rintro e w6 ⟨rfl, rfl⟩)
    refine hK.out _ _ ?_ (fun hS1 => ?_)
    · (exact hS)
    clear hK K hS; have hS := hS1; clear hS1
    (try simp only [rgp])
    refine rgw 6 ⟨some 7, .assign (.tmp 12), 4, _, _, none⟩ hS ?_
    refine rgw 7 ⟨some 8, .assign (.tmp 16), 25, _, _, none⟩ hS ?_
    refine wpAnyH_done (by kernel_rfl) ?_ _
    obtain ⟨w2, hw2⟩ : ∃ q, World.drew w1 = q := ⟨_, rfl⟩
    rw [hw2] at hS
    simp only [hw2]
    have HB2 := Lib.hid (bch HB1.out hS)
    have HF2 := Lib.hid (HF1.out.keep hS)
    have HJ2 := Lib.hid (HJ1.out.keep hS)
    clear hS hw2
    go_wp2_with (first
      | (refine wpList_store_row rfl 62 _ _ rfl jb (jA false (.slice none 0 0)) rfl rfl _ _ HJ2.out.blk (jo_info _ _) rfl (jo_one _ _ _ _) ?_))
    obtain ⟨w3, hw3⟩ : ∃ q, w2.setRow jb (jA false (.slice none 0 0)) = q := ⟨_, rfl⟩
    rw [hw3]
    have HO3 : Hid (Oth w w3 jb (.slice va hn vc)) := Lib.hid (hw3 ▸ (Oth.of_below HB2.out).trans (Oth.row w2 jb _ _))
    have HF3 : Hid (FO w3 fb 4 ep (.slice da n dc)) := Lib.hid (hw3 ▸ HF2.out.apart (HJ2.out.blk.ne HF2.out (by decide)) _)
    have HR3 : Hid (w3.ownsRow W.heap.size 5 1 (.slice va hn vc) hn (il .u8 h)) := Lib.hid (by rw [← hw3]; have z := HJ2.out.blk.row_own (jA false (.slice none 0 0)) HJ2.out.row (by decide); rw [HN.out] at z; exact z)
    have HJ3 : Hid (JO w3 jb false (.slice none 0 0)) := Lib.hid (hw3 ▸ HJ2.out.blk.row _ _)
    obtain ⟨f30, f31, f32⟩ := HF3.out.cells
    have hlow := HJ.out.low
    clear hw3
    go_step3
    go_wp2
    try rw [Exit.noGoto_ret]
    go_ret3
    exact ⟨rfl, ⟨HJ3.out, World.ownsRow_nil _ _ _ _, fun _ => ⟨rfl, rfl⟩, by simp, hlow⟩, HO3.out⟩
set_option maxRecDepth 8000 in
set_option maxHeartbeats 2000000 in
theorem feed_wrong (W : World) (o : Bool) (jb : Nat) (v : Value) (h : List Int) (k ep : Int) (dv : Value) (n : Nat) (d : List Int) (w : World) (hW : Below W.heap.size W w) (hj : JB w W.heap.size jb o v h) (hri : ∀ w', Oth w w' jb v → RI .u8 w' dv n d)
    (hk : jFit o k = false) :
    Calls Tryd.prog 11 #[.pointer (some ⟨jb, 0, none⟩), .agg (fA k ep dv)] w fun e w' =>
      e = .returned (.tuple #[.slice none 0 0, .bool false, .int .i64 2]) ∧ JB w' W.heap.size jb false (.slice none 0 0) [] ∧ Oth w w' jb v := by
  have hzl := (hri w (Oth.refl _ _ _)).length
  have HR := Lib.hid hri
  have HW := Lib.hid hW
  obtain ⟨hn, hhn⟩ : ∃ m, h.length = m := ⟨_, rfl⟩
  have hr := hj.row
  rw [hhn] at hr
  have hfew := hj.few
  rw [hhn] at hfew
  obtain ⟨va, vc, rfl⟩ := own_form hr
  have HJ := Lib.hid hj
  obtain ⟨da, dc, rfl, _, hdc, hdm, _⟩ := hri w (Oth.refl _ _ _)
  have HN := Lib.hid hhn
  have HZ := Lib.hid hzl
  clear hj hW hzl hhn hr
  cases o
  all_goals (unfold jFit at hk; simp only [Bool.false_eq_true, if_false, if_true, decide_eq_false_iff_not, not_or] at hk; obtain ⟨k1, k2⟩ := hk)
  · have e1 : (k == 1) = false := by simpa using k1
    have e2 : (k == 2) = false := by simpa using k2
    go_enter Tryd.func11, Tryd.ntmps11
    go_wp2
    go_step3
    go_wp2_with fail
    obtain ⟨w1, hw1⟩ : ∃ q, w.alloc (.cells (fA k ep (.slice da n dc)) 43) = q := ⟨_, rfl⟩
    rw [hw1]
    obtain ⟨fb, hfb⟩ : ∃ q, w.heap.size = q := ⟨_, rfl⟩
    have hb1 : Below w.heap.size w w1 := hw1 ▸ balloc w _
    have HF1 : Hid (FO w1 fb k ep (.slice da n dc)) := Lib.hid (by rw [← hw1, ← hfb]; exact FO.alloc w)
    have HB1 := Lib.hid hb1
    have HJ1 := Lib.hid (HJ.out.keep hb1)
    rw [hfb]
    clear hb1 hw1 hfb
    refine wp_region_held_drew (S := (fun w' => Below w1.heap.size w1 w')) (by kernel_rfl) ((Below.refl w1.heap.size w1).drew) (fun hS => ?_)
    refine rgw 0 ⟨some 11, .move (.tmp 0), 36, _, _, none⟩ hS ?_
    refine rgw 2 ⟨some 13, .move (.tmp 0), 36, _, _, none⟩ hS ?_
    refine rgw 3 ⟨some 14, .nilCheck (.tmp 13), 0, _, _, none⟩ hS ?_
    refine rgw 4 ⟨some 15, .fieldAddr 62 (.tmp 14) 1, 0, _, _, none⟩ hS ?_
    refine rgw 5 ⟨some 16, .load 25 (.tmp 15), 25, _, _, none⟩ hS ?_ (v := .slice va hn vc) (hy := by intro w hSw; (try dsimp only at hSw); have z := (HJ1.out.blk.keep hSw).cells.2; go_simp)
    refine rg_one 1 ⟨some 12, .call { callee := .value (.func 23), args := #[.tmp 11], argTypes := #[36] }, 4, _, _, none⟩ (by kernel_rfl) rfl (fun K hK => ?_)
    go_simp
    (go_at_call 23; (with_reducible refine (idle_any false (.slice va hn vc) jb _ (HJ1.out.blk.keep hS)).mono ?_); rintro e w6 ⟨rfl, rfl⟩)
    refine hK.out _ _ ?_ (fun hS1 => ?_)
    · (exact hS)
    clear hK K hS; have hS := hS1; clear hS1
    (try simp only [rgp])
    refine rgw 6 ⟨some 7, .assign (.tmp 12), 4, _, _, none⟩ hS ?_
    refine rgw 7 ⟨some 8, .assign (.tmp 16), 25, _, _, none⟩ hS ?_
    refine wpAnyH_done (by kernel_rfl) ?_ _
    obtain ⟨w2, hw2⟩ : ∃ q, World.drew w1 = q := ⟨_, rfl⟩
    rw [hw2] at hS
    simp only [hw2]
    have HB2 := Lib.hid (bch HB1.out hS)
    have HF2 := Lib.hid (HF1.out.keep hS)
    have HJ2 := Lib.hid (HJ1.out.keep hS)
    clear hS hw2
    go_wp2_with (first
      | (refine wpList_store_row rfl 62 _ _ rfl jb (jA false (.slice none 0 0)) rfl rfl _ _ HJ2.out.blk (jo_info _ _) rfl (jo_one _ _ _ _) ?_))
    obtain ⟨w3, hw3⟩ : ∃ q, w2.setRow jb (jA false (.slice none 0 0)) = q := ⟨_, rfl⟩
    rw [hw3]
    have HO3 : Hid (Oth w w3 jb (.slice va hn vc)) := Lib.hid (hw3 ▸ (Oth.of_below HB2.out).trans (Oth.row w2 jb _ _))
    have HF3 : Hid (FO w3 fb k ep (.slice da n dc)) := Lib.hid (hw3 ▸ HF2.out.apart (HJ2.out.blk.ne HF2.out (by decide)) _)
    have HR3 : Hid (w3.ownsRow W.heap.size 5 1 (.slice va hn vc) hn (il .u8 h)) := Lib.hid (by rw [← hw3]; have z := HJ2.out.blk.row_own (jA false (.slice none 0 0)) HJ2.out.row (by decide); rw [HN.out] at z; exact z)
    have HJ3 : Hid (JO w3 jb false (.slice none 0 0)) := Lib.hid (hw3 ▸ HJ2.out.blk.row _ _)
    obtain ⟨f30, f31, f32⟩ := HF3.out.cells
    have hlow := HJ.out.low
    clear hw3
    go_step3
    go_wp2
    try rw [Exit.noGoto_ret]
    go_ret3
    exact ⟨rfl, ⟨HJ3.out, World.ownsRow_nil _ _ _ _, fun _ => ⟨rfl, rfl⟩, by simp, hlow⟩, HO3.out⟩
  · have e1 : (k == 3) = false := by simpa using k1
    have e2 : (k == 4) = false := by simpa using k2
    go_enter Tryd.func11, Tryd.ntmps11
    go_wp2
    go_step3
    go_wp2_with fail
    obtain ⟨w1, hw1⟩ : ∃ q, w.alloc (.cells (fA k ep (.slice da n dc)) 43) = q := ⟨_, rfl⟩
    rw [hw1]
    obtain ⟨fb, hfb⟩ : ∃ q, w.heap.size = q := ⟨_, rfl⟩
    have hb1 : Below w.heap.size w w1 := hw1 ▸ balloc w _
    have HF1 : Hid (FO w1 fb k ep (.slice da n dc)) := Lib.hid (by rw [← hw1, ← hfb]; exact FO.alloc w)
    have HB1 := Lib.hid hb1
    have HJ1 := Lib.hid (HJ.out.keep hb1)
    rw [hfb]
    clear hb1 hw1 hfb
    refine wp_region_held_drew (S := (fun w' => Below w1.heap.size w1 w')) (by kernel_rfl) ((Below.refl w1.heap.size w1).drew) (fun hS => ?_)
    refine rgw 0 ⟨some 11, .move (.tmp 0), 36, _, _, none⟩ hS ?_
    refine rgw 2 ⟨some 13, .move (.tmp 0), 36, _, _, none⟩ hS ?_
    refine rgw 3 ⟨some 14, .nilCheck (.tmp 13), 0, _, _, none⟩ hS ?_
    refine rgw 4 ⟨some 15, .fieldAddr 62 (.tmp 14) 1, 0, _, _, none⟩ hS ?_
    refine rgw 5 ⟨some 16, .load 25 (.tmp 15), 25, _, _, none⟩ hS ?_ (v := .slice va hn vc) (hy := by intro w hSw; (try dsimp only at hSw); have z := (HJ1.out.blk.keep hSw).cells.2; go_simp)
    refine rg_one 1 ⟨some 12, .call { callee := .value (.func 23), args := #[.tmp 11], argTypes := #[36] }, 4, _, _, none⟩ (by kernel_rfl) rfl (fun K hK => ?_)
    go_simp
    (go_at_call 23; (with_reducible refine (idle_any true (.slice va hn vc) jb _ (HJ1.out.blk.keep hS)).mono ?_); rintro e w6 ⟨rfl, rfl⟩)
    refine hK.out _ _ ?_ (fun hS1 => ?_)
    · (exact hS)
    clear hK K hS; have hS := hS1; clear hS1
    (try simp only [rgp])
    refine rgw 6 ⟨some 7, .assign (.tmp 12), 4, _, _, none⟩ hS ?_
    refine rgw 7 ⟨some 8, .assign (.tmp 16), 25, _, _, none⟩ hS ?_
    refine wpAnyH_done (by kernel_rfl) ?_ _
    obtain ⟨w2, hw2⟩ : ∃ q, World.drew w1 = q := ⟨_, rfl⟩
    rw [hw2] at hS
    simp only [hw2]
    have HB2 := Lib.hid (bch HB1.out hS)
    have HF2 := Lib.hid (HF1.out.keep hS)
    have HJ2 := Lib.hid (HJ1.out.keep hS)
    clear hS hw2
    go_wp2_with (first
      | (refine wpList_store_row rfl 62 _ _ rfl jb (jA false (.slice none 0 0)) rfl rfl _ _ HJ2.out.blk (jo_info _ _) rfl (jo_one _ _ _ _) ?_))
    obtain ⟨w3, hw3⟩ : ∃ q, w2.setRow jb (jA false (.slice none 0 0)) = q := ⟨_, rfl⟩
    rw [hw3]
    have HO3 : Hid (Oth w w3 jb (.slice va hn vc)) := Lib.hid (hw3 ▸ (Oth.of_below HB2.out).trans (Oth.row w2 jb _ _))
    have HF3 : Hid (FO w3 fb k ep (.slice da n dc)) := Lib.hid (hw3 ▸ HF2.out.apart (HJ2.out.blk.ne HF2.out (by decide)) _)
    have HR3 : Hid (w3.ownsRow W.heap.size 5 1 (.slice va hn vc) hn (il .u8 h)) := Lib.hid (by rw [← hw3]; have z := HJ2.out.blk.row_own (jA false (.slice none 0 0)) HJ2.out.row (by decide); rw [HN.out] at z; exact z)
    have HJ3 : Hid (JO w3 jb false (.slice none 0 0)) := Lib.hid (hw3 ▸ HJ2.out.blk.row _ _)
    obtain ⟨f30, f31, f32⟩ := HF3.out.cells
    have hlow := HJ.out.low
    clear hw3
    go_step3
    go_wp2
    try rw [Exit.noGoto_ret]
    go_ret3
    exact ⟨rfl, ⟨HJ3.out, World.ownsRow_nil _ _ _ _, fun _ => ⟨rfl, rfl⟩, by simp, hlow⟩, HO3.out⟩
theorem feed_own (W : World) (o : Bool) (jb : Nat) (v : Value) (h : List Int) (k ep : Int) (dv : Value) (n : Nat) (d : List Int) (w : World) (hW : Below W.heap.size W w) (hj : JB w W.heap.size jb o v h) (hri : ∀ w', Oth w w' jb v → RI .u8 w' dv n d) :
    Calls Tryd.prog 11 #[.pointer (some ⟨jb, 0, none⟩), .agg (fA k ep dv)] w fun e w' =>
      ∃ u v', e = .returned (.tuple #[u, .bool (jEnds o h k d), .int .i64 (jErr o h k d)]) ∧ JB w' W.heap.size jb (jGoes o h k d) v' (jHad o h k d) ∧ w'.ownsRow W.heap.size 5 1 u (jTell o h k d).length (il .u8 (jTell o h k d)) ∧ Lies w v u ∧ Lies w v v' ∧ Oth w w' jb v := by
  have hz := (hri w (Oth.refl _ _ _)).length
  cases hf : jFit o k with
  | false =>
    obtain ⟨e1, e2, e3, e4, e5⟩ := j_wrong (h := h) (d := d) hf
    rw [e1, e2, e3, e4, e5]
    exact (feed_wrong W o jb v h k ep dv n d w hW hj hri hf).mono fun e w' ⟨h1, h2, h3⟩ => ⟨_, _, h1, h2, World.ownsRow_nil _ _ _ _, Lies.nil _ _ _ _, Lies.nil _ _ _ _, h3⟩
  | true =>
    by_cases hl : h.length + n > 512
    · obtain ⟨e1, e2, e3, e4, e5⟩ := j_long (h := h) (d := d) hf (by rw [hz]; exact hl)
      rw [e1, e2, e3, e4, e5]
      exact (feed_long W o jb v h k ep dv n d w hW hj hri hf hl).mono fun e w' ⟨h1, h2, h3⟩ => ⟨_, _, h1, h2, World.ownsRow_nil _ _ _ _, Lies.nil _ _ _ _, Lies.nil _ _ _ _, h3⟩
    · cases hk : jLast k with
      | true =>
        obtain ⟨e1, e2, e3, e4, e5⟩ := j_ends (h := h) (d := d) hf (by rw [hz]; exact hl) hk
        rw [e1, e2, e3, e4, e5]
        exact (feed_ends W o jb v h k ep dv n d w hW hj hri (by unfold jFit at hf; unfold jLast at hk; cases o <;> simp at hf hk ⊢ <;> omega) hl).mono fun e w' ⟨u, h1, h2, h3, h4, h5⟩ => ⟨u, _, h1, h2, h3, h4, Lies.nil _ _ _ _, h5⟩
      | false =>
        obtain ⟨e1, e2, e3, e4, e5⟩ := j_goes (h := h) (d := d) hf (by rw [hz]; exact hl) hk
        rw [e1, e2, e3, e4, e5]
        exact (feed_goes W o jb v h k ep dv n d w hW hj hri (by unfold jFit at hf; unfold jLast at hk; cases o <;> simp at hf hk ⊢ <;> omega) hl).mono fun e w' ⟨u, h1, h2, h4, h5⟩ => ⟨_, u, h1, h2, World.ownsRow_nil _ _ _ _, Lies.nil _ _ _ _, h4, h5⟩
end Go.Proofs.YtnmplnemnfonfaaDoor
namespace Go.Proofs.YtnmplnemnfonfaaDoor
open Go.RowKit
attribute [local go_sem] Oper.semAt_some
def FromF (R : Option (List Int × Nat)) (w : World) (r : Ending) (w' : World) : Prop :=
  Below w.heap.size w w' ∧ match R with
  | none => r = .returned (.tuple #[.slice none 0 0, .int .i64 0, .bool false])
  | some (z, e) => ∃ y c, r = .returned (.tuple #[.slice y z.length c, .int .i64 (e : Nat), .bool true]) ∧ w'.ownsRow w.heap.size 5 1 (.slice y z.length c) z.length (il .u8 z)
structure FI (w : World) (jb p9 Ba : Nat) (jo : Nat → Bool) (jh : Nat → List Int) (f : Nat → Bool) (k : Nat) (W : World) : Prop where
  r1 : W.heap[w.heap.size]? = some (.cells #[.slice none 0 0] 25 (0, 0))
  r2 : W.heap[w.heap.size + 1]? = some (.cells #[.int .i64 0] 3 (0, 0))
  r3 : W.heap[w.heap.size + 1 + 1]? = some (.cells #[.bool false] 4 (0, 0))
  pj : W.heap[p9]? = some (.cells #[.pointer (some ⟨jb, 0, none⟩)] 36 (0, 0))
  j : ∃ v, JB W w.heap.size jb (jo k) v (jh k) ∧ ∀ g, v.ownBlock = some g → f g = true
  fj : f jb = true
  fa : f Ba = false
  below : Below w.heap.size w W
  ba : w.heap.size ≤ Ba
  big : Ba < W.heap.size
  ne : Ba ≠ w.heap.size ∧ Ba ≠ w.heap.size + 1 ∧ Ba ≠ w.heap.size + 1 + 1 ∧ Ba ≠ p9 ∧ Ba ≠ jb
theorem JB.freeG {Ba b base jb : Nat} {o : Bool} {v : Value} {h : List Int} {A B : World} (j : JB A base jb o v h) (hf : FreeG Ba b A B) (h1 : Ba ≠ jb) (h2 : ∀ g, v.ownBlock = some g → g ≠ Ba) : JB B base jb o v h := by
  refine ⟨hf.cells _ _ (Ne.symm h1) j.blk rfl, ⟨j.row.1, ?_⟩, j.idle, j.few, j.low⟩
  rcases j.row.2 with h3 | ⟨g, cap, cur, hv, hg, hcur, h4⟩
  · exact .inl h3
  · exact .inr ⟨g, cap, cur, hv, hg, hf.cells _ _ (h2 g (by rw [hv]; rfl)) hcur rfl, h4⟩
theorem FI.free {w : World} {jb p9 Ba : Nat} {jo : Nat → Bool} {jh : Nat → List Int} {f : Nat → Bool} {k : Nat} {A B : World} {b : Nat} (h : FI w jb p9 Ba jo jh f k A) (hf : FreeG Ba b A B) (hb : w.heap.size ≤ b) : FI w jb p9 Ba jo jh f k B := by
  obtain ⟨n1, n2, n3, n4, n5⟩ := h.ne
  refine ⟨hf.cells _ _ (Ne.symm n1) h.r1 rfl, hf.cells _ _ (Ne.symm n2) h.r2 rfl, hf.cells _ _ (Ne.symm n3) h.r3 rfl, hf.cells _ _ (Ne.symm n4) h.pj rfl, ?_, h.fj, h.fa, h.below.trans (hf.below hb h.ba), h.ba, Nat.lt_of_lt_of_le h.big hf.size, h.ne⟩
  obtain ⟨v, hj, hv⟩ := h.j
  exact ⟨v, hj.freeG hf n5 (fun g hg e => by have := hv g hg; rw [e, h.fa] at this; cases this), hv⟩
structure FX (w : World) (Ba : Nat) (R : Option (List Int × Nat)) (W : World) : Prop where
  cells : match R with
    | none => W.heap[w.heap.size]? = some (.cells #[.slice none 0 0] 25 (0, 0)) ∧ W.heap[w.heap.size + 1]? = some (.cells #[.int .i64 0] 3 (0, 0)) ∧ W.heap[w.heap.size + 1 + 1]? = some (.cells #[.bool false] 4 (0, 0))
    | some (z, e) => ∃ y c, W.heap[w.heap.size]? = some (.cells #[.slice y z.length c] 25 (0, 0)) ∧ W.heap[w.heap.size + 1]? = some (.cells #[.int .i64 (e : Nat)] 3 (0, 0)) ∧ W.heap[w.heap.size + 1 + 1]? = some (.cells #[.bool true] 4 (0, 0)) ∧
        W.ownsRow w.heap.size 5 1 (.slice y z.length c) z.length (il .u8 z) ∧ ∀ g, (Value.slice y z.length c).ownBlock = some g → g ≠ Ba
  below : Below w.heap.size w W
  ba : w.heap.size ≤ Ba
  ne : Ba ≠ w.heap.size ∧ Ba ≠ w.heap.size + 1 ∧ Ba ≠ w.heap.size + 1 + 1
theorem FX.free {w : World} {Ba : Nat} {R : Option (List Int × Nat)} {A B : World} {b : Nat} (h : FX w Ba R A) (hf : FreeG Ba b A B) (hb : w.heap.size ≤ b) : FX w Ba R B := by
  obtain ⟨n1, n2, n3⟩ := h.ne
  refine ⟨?_, h.below.trans (hf.below hb h.ba), h.ba, h.ne⟩
  have hc := h.cells
  cases R with
  | none => exact ⟨hf.cells _ _ (Ne.symm n1) hc.1 rfl, hf.cells _ _ (Ne.symm n2) hc.2.1 rfl, hf.cells _ _ (Ne.symm n3) hc.2.2 rfl⟩
  | some q =>
    obtain ⟨z, e⟩ := q
    obtain ⟨y, c, h1, h2, h3, h4, h5⟩ := hc
    refine ⟨y, c, hf.cells _ _ (Ne.symm n1) h1 rfl, hf.cells _ _ (Ne.symm n2) h2 rfl, hf.cells _ _ (Ne.symm n3) h3 rfl, ⟨h4.1, ?_⟩, h5⟩
    rcases h4.2 with h6 | ⟨g, cap, cur, hv, hg, hcur, h7⟩
    · exact .inl h6
    · exact .inr ⟨g, cap, cur, hv, hg, hf.cells _ _ (h5 g (by rw [hv]; rfl)) hcur rfl, h7⟩
def pxF (R : Option (List Int × Nat)) : Option Nat := match R with
  | none => some 0
  | some _ => none
theorem JB.base {w : World} {base base' jb : Nat} {o : Bool} {v : Value} {h : List Int} (j : JB w base jb o v h) (hb : base' ≤ base) : JB w base' jb o v h := ⟨j.blk, own_mono j.row hb, j.idle, j.few, Nat.le_trans hb j.low⟩
theorem rd_alloc3 (w : World) (a b c : Obj) : (((w.alloc a).alloc b).alloc c).heap[w.heap.size]? = some a ∧ (((w.alloc a).alloc b).alloc c).heap[w.heap.size + 1]? = some b ∧ (((w.alloc a).alloc b).alloc c).heap[w.heap.size + 1 + 1]? = some c ∧ Below w.heap.size w (((w.alloc a).alloc b).alloc c) ∧ (((w.alloc a).alloc b).alloc c).heap.size = w.heap.size + 1 + 1 + 1 := by
  obtain ⟨h1, h2, h3, h4⟩ := alloc2 w a b
  have h5 := balloc ((w.alloc a).alloc b) c
  have h6 := heap_alloc_last ((w.alloc a).alloc b) c
  rw [h4] at h6
  exact ⟨(h5.block _ (by omega)).trans h1, (h5.block _ (by omega)).trans h2, h6, bch h3 h5, by rw [alloc_size, h4]⟩
theorem own_oth {w w' : World} {base base' jb s n : Nat} {v u : Value} {o : Bool} {h : List Int} {t : TypeId} {xs : List Value} (j : JB w base' jb o v h) (k : Oth w w' jb v) (ho : w.ownsRow base t s u n xs) (ht : t ≠ 62) (hv : ∀ g, v.ownBlock = some g → g < base) : w'.ownsRow base t s u n xs :=
  j.oth k ho ht fun g hg e => by
    have h1 := (ho.lt g hg).1
    have h2 := hv g e.symm
    omega
theorem noc_oth {W W2 : World} {q base jb : Nat} {o : Bool} {v : Value} {h : List Int} (hq : NoC W q) (j : JB W base jb o v h) (k : Oth W W2 jb v) : W2.heap[q]? = W.heap[q]? := by
  refine k.block q ?_ (hq.ne j.blk) fun e => ?_
  · obtain ⟨o, ho, _⟩ := hq
    exact (Array.getElem?_eq_some_iff.1 ho).1
  · rcases j.row.2 with ⟨rfl, _⟩ | ⟨g, cap, cur, rfl, _, hcur, _⟩
    · simp [Value.ownBlock] at e
    · simp only [Value.ownBlock, Option.some.injEq] at e
      exact hq.ne hcur e
theorem FI.fed {w : World} {jb p9 Ba : Nat} {jo : Nat → Bool} {jh : Nat → List Int} {f : Nat → Bool} {k : Nat} {W W2 : World} {v v' : Value} (h : FI w jb p9 Ba jo jh f k W) (j : JB W w.heap.size jb (jo k) v (jh k)) (hv : ∀ g, v.ownBlock = some g → f g = true) (hk : Oth W W2 jb v)
    (j2 : JB W2 w.heap.size jb (jo (k + 1)) v' (jh (k + 1))) (hl : Lies W v v') : ∃ f', KpI w.heap.size f W f' W2 ∧ FI w jb p9 Ba jo jh f' (k + 1) W2 := by
  refine ⟨fun q => f q || decide (v'.ownBlock = some q), ⟨hk.size, fun _ => j.below hk, fun q o hf ho _ => ?_, fun hf q hq => ?_, fun q hq => ?_⟩, ?_⟩
  · refine (hk.block q (Array.getElem?_eq_some_iff.1 ho).1 (fun e => ?_) (fun e => ?_)).trans ho
    · rw [e, h.fj] at hf; cases hf
    · rw [hv q e.symm] at hf; cases hf
  · simp only [Bool.or_eq_true, decide_eq_true_eq] at hq
    rcases hq with hq | hq
    · exact Nat.lt_of_lt_of_le (hf q hq) hk.size
    · exact (j2.row.lt q hq).2
  · show (f q || decide (v'.ownBlock = some q)) = f q
    by_cases e : v'.ownBlock = some q
    · rcases hl q e with h1 | h1
      · rw [hv q h1.symm]; rfl
      · omega
    · rw [decide_eq_false e, Bool.or_false]
  · refine ⟨j.oth_blk hk h.r1 (by decide) (by decide), j.oth_blk hk h.r2 (by decide) (by decide), j.oth_blk hk h.r3 (by decide) (by decide), j.oth_blk hk h.pj (by decide) (by decide), ⟨v', j2, fun g hg => by simp [hg]⟩, by simp [h.fj], ?_, h.below.trans (j.below hk), h.ba, Nat.lt_of_lt_of_le h.big hk.size, h.ne⟩
    show (f Ba || decide (v'.ownBlock = some Ba)) = false
    rw [h.fa, Bool.false_or, decide_eq_false]
    intro e
    rcases hl Ba e with h1 | h1
    · have := hv Ba h1.symm
      rw [h.fa] at this; cases this
    · have := h.big; omega
set_option maxRecDepth 100000 in
set_option maxHeartbeats 4000000 in
theorem from_gen (x : Int) (hx : U64 x) (w : World) (v : Value) (m : Nat) (fs : List Int) (hbf : Bytes fs) (hfs : FS w v m fs) (pl : Nat → Int) (fr : Nat → FR × Nat) (jo : Nat → Bool) (jh : Nat → List Int) (k0 : Nat) (st : Bool) (oc : Option (List Int × Nat))
    (hfr : ∀ k, k ≤ k0 → ∀ (w' : World) (bv kv : Value), Below w.heap.size w w' → RI .u8 w' bv 832 (flatB x m fs 16) → BS w' kv 16 (flatK x m fs 16) → Calls Tryd.prog 21 #[.agg (rbA (x % 4294967296) bv kv), .int .i64 (pl k)] w' (BFragT (fr k) (pl k) w'))
    (hst : (fr k0).2 = 0 ↔ st = true) (hgo : ∀ k, k < k0 → (fr k).2 ≠ 0)
    (hpl : ∀ k, k < k0 → pl (k + 1) = (beginN (nr (pl k + ((fr k).2 : Nat))) : Nat) ∧ I63 (pl k + ((fr k).2 : Nat)) ∧ pl k < pl (k + 1) ∧ pl (k + 1) ≤ 832)
    (hj0 : jo 0 = false ∧ jh 0 = [])
    (hjn : ∀ k, k < k0 → jErr (jo k) (jh k) (fr k).1.kind (fr k).1.data = 0 ∧ jEnds (jo k) (jh k) (fr k).1.kind (fr k).1.data = false ∧ jo (k + 1) = jGoes (jo k) (jh k) (fr k).1.kind (fr k).1.data ∧ jh (k + 1) = jHad (jo k) (jh k) (fr k).1.kind (fr k).1.data)
    (hen : st = false → (jErr (jo k0) (jh k0) (fr k0).1.kind (fr k0).1.data ≠ 0 ∧ oc = none) ∨ (jErr (jo k0) (jh k0) (fr k0).1.kind (fr k0).1.data = 0 ∧ jEnds (jo k0) (jh k0) (fr k0).1.kind (fr k0).1.data = true ∧ ∃ e : Nat, pl k0 + ((fr k0).2 : Nat) = (e : Int) ∧ oc = some (jTell (jo k0) (jh k0) (fr k0).1.kind (fr k0).1.data, e)))
    (hno : st = true → oc = none) :
    Calls Tryd.prog 5 #[.int .u64 x, v, .int .i64 (pl 0)] w (FromF oc w) := by
  have HS : Hid (∀ n, 1 ≤ n → ∀ (w1 : World) (Be Bl Ba : Nat), Below w.heap.size w w1 → Be < w1.heap.size → Bl < w1.heap.size → Ba < w1.heap.size → w.heap.size ≤ Ba → w1.heap[Be]? = some (.cells #[.int .u64 x] 22 (0, 0)) → w1.heap[Bl]? = some (.cells #[v] 23 (0, 0)) → w1.heap[Ba]? = some (.cells #[.int .i64 (pl 0)] 3 (0, 0)) →
      SeqG Fence.wide n Tryd.prog 19 #[.pointer (some ⟨Be, 0, none⟩), .pointer (some ⟨Bl, 0, none⟩), .pointer (some ⟨Ba, 0, none⟩)] Ba (encG pl fr) (TG fr) (badG k0 st) (KpI w.heap.size) (OkG Ba) (st = true) (st = false) (numG k0 st) w1) :=
    Lib.hid fun n hn w1 Be Bl Ba h1 h2 h3 h4 h5 h6 h7 h8 => frags_told n hn x hx w v m fs hbf hfs pl fr k0 st hfr hst hgo hpl w1 Be Bl Ba h1 h2 h3 h4 h5 h6 h7 h8
  obtain ⟨va, vc, rfl⟩ : ∃ a c, v = .slice a m c := by obtain ⟨a, c, q, _⟩ := hfs; exact ⟨a, c, q⟩
  have HJ0 := Lib.hid hj0
  have HJN := Lib.hid hjn
  have HEN := Lib.hid hen
  have HNO := Lib.hid hno
  obtain ⟨p0, hp0⟩ : ∃ p, pl 0 = p := ⟨_, rfl⟩
  rw [hp0] at HS
  rw [hp0]
  have HP0 := Lib.hid hp0
  clear hbf hfs hfr hst hgo hpl hj0 hjn hen hno hx hp0
  refine (callsIn_wide (n := 8)).1 ?_
  refine callsIn_of_wp_marks Tryd.func5 rfl trivial ?_ rfl
  simp only [Tryd.ntmps5, List.size_toArray, List.length_cons, List.length_nil, Nat.reduceAdd, Nat.reduceSub, Array.replicate_succ, Array.replicate_zero, List.push_toArray, List.append_toArray, List.nil_append, List.cons_append]
  gi_wp2_with (first
    | (refine ⟨trivial, ?_⟩; gi_at_call 9; refine (callsIn_wide.2 (new_any _)).mono ?_; rintro e w1 ⟨rfl, hj1, hb1⟩; have HJB1 := Lib.hid hj1; have HB1 := Lib.hid hb1; clear hj1 hb1)
    | (refine ⟨trivial, ?_⟩; gi_at_call 10; refine (callsIn_wide.2 (callsIn_wide.1 (frags_any x va m vc p0 _))).mono ?_; rintro e w2 ⟨rfl, rfl⟩))
  obtain ⟨q1, q2, q3, q4, q5⟩ := rd_alloc3 w (.cells #[.slice none 0 0] 25) (.cells #[.int .i64 0] 3) (.cells #[.bool false] 4)
  have hbs := HB1.out
  have hjb := HJB1.out
  generalize ((w.alloc (.cells #[.slice none 0 0] 25)).alloc (.cells #[.int .i64 0] 3)).alloc (.cells #[.bool false] 4) = w0 at *
  rw [q5] at hjb
  obtain ⟨jb, hjbe⟩ : ∃ q, w.heap.size + 1 + 1 + 1 = q := ⟨_, rfl⟩
  rw [hjbe] at hjb q5
  have p1 := (hbs.block _ (by omega)).trans q1
  have p2 := (hbs.block _ (by omega)).trans q2
  have p3 := (hbs.block _ (by omega)).trans q3
  have hb1 := bch q4 hbs
  have hjl := hjb.blk.lt
  have hjb1 : JB w1 w.heap.size jb false (.slice none 0 0) [] := hjb.base (by omega)
  clear HB1 HJB1 hbs q1 q2 q3 q4 hjb
  obtain ⟨s1, s2, s3, s4, s5, s6⟩ := alloc4 w1 (.cells #[.pointer (some ⟨jb, 0, none⟩)] 36) (.cells #[.int .u64 x] 22) (.cells #[.slice va m vc] 23) (.cells #[.int .i64 p0] 3)
  simp only [hjbe]
  obtain ⟨w3, hw3⟩ : ∃ q, (((w1.alloc (.cells #[.pointer (some ⟨jb, 0, none⟩)] 36)).alloc (.cells #[.int .u64 x] 22)).alloc (.cells #[.slice va m vc] 23)).alloc (.cells #[.int .i64 p0] 3) = q := ⟨_, rfl⟩
  rw [hw3] at s1 s2 s3 s4 s5 s6
  rw [hw3]
  have k1 : ∀ (q : Nat) (o : Obj), w1.heap[q]? = some o → w3.heap[q]? = some o := fun q o h => (s5.block q (Array.getElem?_eq_some_iff.1 h).1).trans h
  have hb3 : Below w.heap.size w w3 := bch hb1 s5
  obtain ⟨p9, hp9⟩ : ∃ q, w1.heap.size = q := ⟨_, rfl⟩
  rw [hp9] at s1 s2 s3 s4 s6 hjl
  rw [hp9]
  obtain ⟨Ba, hBa⟩ : ∃ q, p9 + 1 + 1 + 1 = q := ⟨_, rfl⟩
  rw [hBa] at s4
  rw [hBa]
  have hn3 : Ba < w3.heap.size := by omega
  have HI0 : FI w jb p9 Ba jo jh (fun q => q == jb) 0 w3 := ⟨k1 _ _ p1, k1 _ _ p2, k1 _ _ p3, s1, ⟨.slice none 0 0, by rw [HJ0.out.1, HJ0.out.2]; exact hjb1.keep s5, fun g hg => by simp [Value.ownBlock] at hg⟩, by simp, by simp; omega, hb3, by omega, hn3, by omega, by omega, by omega, by omega, by omega⟩
  have HB3 := Lib.hid hb3
  have HNB := Lib.hid (show p9 + 1 < w3.heap.size ∧ p9 + 1 + 1 < w3.heap.size ∧ w.heap.size + 1 + 1 < jb ∧ jb < p9 ∧ p9 + 1 + 1 < Ba ∧ Ba < w3.heap.size from ⟨by omega, by omega, by omega, by omega, by omega, hn3⟩)
  have HI0 := Lib.hid HI0
  have HSEQ := Lib.hid (HS.out 7 (by omega) w3 (p9 + 1) (p9 + 1 + 1) Ba hb3 (by omega) (by omega) hn3 (by omega) s2 s3 s4)
  clear p1 p2 p3 hb1 hjl hjb1 s1 s2 s3 s4 s5 s6 k1 hb3 hn3 hw3 hp9 hBa hjbe q5
  refine wpIn_rangeFunc_exit (pxF oc) rfl (by omega) (gf := 19) (lb := #[.pointer (some ⟨p9 + 1, 0, none⟩), .pointer (some ⟨p9 + 1 + 1, 0, none⟩), .pointer (some ⟨Ba, 0, none⟩)]) rfl trivial (enters_of Tryd.func19 (by kernel_rfl) rfl)
    HNB.out.2.2.2.2.2 HSEQ.out (Below.refl _ _) (fun _ _ => rfl) (fun q => q == jb)
    ?ok KpI.trans KpI.of
    (FI w jb p9 Ba jo jh) (FX w Ba oc) (fun f s A B h hf => h.free hf HB3.out.size) (fun A B h hf => h.free hf HB3.out.size) (fun f k x A B h hf => h.free hf) ?kb ?start
    (fun _ k y a' W => ∃ Bx, Ba < Bx ∧ FO W Bx (fr k).1.kind (fr k).1.epoch (.slice y.1 (fr k).1.data.length y.2) ∧ a' = { tmps := #[.int .u64 x, .slice va m vc, .int .i64 p0, undef, undef, undef, .pointer (some ⟨w.heap.size, 0, none⟩), .pointer (some ⟨w.heap.size + 1, 0, none⟩), .pointer (some ⟨w.heap.size + 1 + 1, 0, none⟩), .pointer (some ⟨p9, 0, none⟩), .pointer (some ⟨Bx, 0, none⟩), .int .i64 (pl k + ((fr k).2 : Nat)), undef, undef, undef, .pointer (some ⟨jb, 0, none⟩), .int .u64 x, .slice va m vc, .int .i64 p0, .func (.func 19) #[] #[.pointer (some ⟨p9 + 1, 0, none⟩), .pointer (some ⟨p9 + 1 + 1, 0, none⟩), .pointer (some ⟨Ba, 0, none⟩)], .agg (fA (fr k).1.kind (fr k).1.epoch (.slice y.1 (fr k).1.data.length y.2)), .int .i64 (pl k + ((fr k).2 : Nat)), undef, undef, undef, undef, undef, undef, undef, undef, undef, undef, undef, undef], defers := [] })
    (fun _ k y a' A B h hf => by obtain ⟨Bx, h1, h2, h3⟩ := h; exact ⟨Bx, h1, hf.2 _ _ h2 rfl, h3⟩) ?assign ?body ?done ?stop
  case ok =>
    intro o o'
    refine ⟨fun q hq => ?_, ?_⟩
    · simp only [beq_iff_eq] at hq
      have := HNB.out
      simp only [alloc_size]; omega
    · have := HNB.out
      simp only [beq_eq_false_iff_ne]; omega
  case kb =>
    intro f s W o o' h ho hc
    have hlt := (Array.getElem?_eq_some_iff.1 ho).1
    have hpf := Free.put (b := w.heap.size) o' (by have := HB3.out.size; omega) ho hc
    exact ⟨hpf.1.size, fun _ => hpf.1, fun i c _ hi hcc => hpf.2 i c hi hcc, fun hf => hf.mono hpf.1.size, fun _ _ => rfl⟩
  case start =>
    intro o o'
    exact HI0.out.free (.of (Free.of (bch (balloc w3 o) (balloc _ o')) (Nat.le_refl _))) HB3.out.size
  case assign =>
    rintro l f k ⟨da, dc⟩ W K hI ht hK
    simp only [encG]
    have hbl := hI.big
    generalize fr k = F at *
    obtain ⟨⟨fk, fe, fd⟩, m1⟩ := F
    obtain ⟨t, ht⟩ : ∃ t, pl k + (m1 : Nat) = t := ⟨_, rfl⟩
    simp only [ht]
    gi_wp2_with (refine wplIn_store_row rfl 43 _ _ rfl W.heap.size (fA fk fe (.slice da fd.length dc)) rfl rfl _ _ (heap_alloc_last W _) (fr_info _ rfl) rfl (fr_one _ _ _ _ _) ?_)
    subst ht
    exact hK _ _ (bnew W _ _) ⟨W.heap.size, hbl, setRow_heap _ _ _ _ _ _ (heap_alloc_last W _), rfl⟩
  case body =>
    rintro l f k ⟨da, dc⟩ a' W hD hL hI ht ⟨Bx, hBx, hM, rfl⟩ hkN
    obtain ⟨v, hj, hv⟩ := hI.j
    obtain ⟨base, hown, hbase⟩ := ht
    have HFD0 : Calls Tryd.prog 11 #[.pointer (some ⟨jb, 0, none⟩), .agg (fA (fr k).1.kind (fr k).1.epoch (.slice da (fr k).1.data.length dc))] W fun e w' =>
        ∃ u v', e = .returned (.tuple #[u, .bool (jEnds (jo k) (jh k) (fr k).1.kind (fr k).1.data), .int .i64 (jErr (jo k) (jh k) (fr k).1.kind (fr k).1.data)]) ∧ JB w' w.heap.size jb (jGoes (jo k) (jh k) (fr k).1.kind (fr k).1.data) v' (jHad (jo k) (jh k) (fr k).1.kind (fr k).1.data) ∧
          w'.ownsRow w.heap.size 5 1 u (jTell (jo k) (jh k) (fr k).1.kind (fr k).1.data).length (il .u8 (jTell (jo k) (jh k) (fr k).1.kind (fr k).1.data)) ∧ Lies W v u ∧ Lies W v v' ∧ Oth W w' jb v :=
      feed_own w (jo k) jb v (jh k) (fr k).1.kind (fr k).1.epoch (.slice da (fr k).1.data.length dc) (fr k).1.data.length (fr k).1.data W hI.below hj fun w' hk => RI.own (own_oth hj hk hown (by decide) fun g hg => hbase g (hv g hg))
    have c9 := cell1 hI.pj
    have HI := Lib.hid hI
    have HM := Lib.hid hM
    have HJ := Lib.hid (show JB W w.heap.size jb (jo k) v (jh k) ∧ (∀ g, v.ownBlock = some g → f g = true) from ⟨hj, hv⟩)
    have HD := Lib.hid hD
    have HL := Lib.hid hL
    have HJK := Lib.hid (HJN.out k)
    have HEK := Lib.hid HEN.out
    have HKN : Hid (k < numG k0 st) := Lib.hid hkN
    clear hj hv hown hbase hI hM hD hL hkN
    by_cases hlt : k < k0
    · have hbad : badG k0 st k = false := by unfold badG; rw [decide_eq_false (by omega)]; rfl
      obtain ⟨h1, h2, h3, h4⟩ := HJK.out hlt
      rw [h1, h2, ← h3, ← h4] at HFD0
      have HFD := Lib.hid HFD0
      rw [hbad]
      clear HFD0 h1 h2 h3 h4 hbad
      generalize (fr k).1.kind = fk at *
      generalize (fr k).1.epoch = fe at *
      generalize (fr k).1.data = fd at *
      gi_wp2_with (first
        | (refine wplIn_load_row rfl 43 _ rfl Bx rfl HM.out.load ?_)
        | (refine ⟨trivial, ?_⟩; gi_at_call 11; refine (CallsIn.inRound l (callsIn_wide.2 HFD.out)).mono ?_; rintro e W2 ⟨u, v', rfl, hj2, hu2, hl2, hl3, ho2⟩; have HF2 := Lib.hid (HI.out.fed HJ.out.1 HJ.out.2 ho2 hj2 hl3); have HO2 := Lib.hid ho2; clear hj2 hu2 hl2 hl3 ho2))
      obtain ⟨f', hk2, hi2⟩ := HF2.out
      exact ⟨rfl, f', noc_oth HD.out HJ.out.1 HO2.out, noc_oth HL.out HJ.out.1 HO2.out, hk2, hi2⟩
    · have hk0 : k = k0 ∧ st = false := by
        have := HKN.out
        unfold numG at this
        cases st with
        | false => exact ⟨by rw [if_neg (by decide)] at this; omega, rfl⟩
        | true => rw [if_pos rfl] at this; omega
      obtain ⟨rfl, hst⟩ := hk0
      have hbad : badG k st k = true := by unfold badG; rw [hst]; simp
      rw [hbad]
      obtain ⟨e1, e2, e3, e4, e5⟩ := HI.out.ne
      rcases HEK.out hst with ⟨h1, rfl⟩ | ⟨h1, h2, en, h3, rfl⟩
      · generalize jErr (jo k) (jh k) (fr k).1.kind (fr k).1.data = er at *
        have hx1 : (er == 0) = false := by simpa using h1
        generalize jEnds (jo k) (jh k) (fr k).1.kind (fr k).1.data = ed at *
        generalize jGoes (jo k) (jh k) (fr k).1.kind (fr k).1.data = eg at *
        generalize jHad (jo k) (jh k) (fr k).1.kind (fr k).1.data = eh at *
        generalize jTell (jo k) (jh k) (fr k).1.kind (fr k).1.data = et at *
        have HFD := Lib.hid HFD0
        clear HFD0 hbad hlt hst
        generalize (fr k).1.kind = fk at *
        generalize (fr k).1.epoch = fe at *
        generalize (fr k).1.data = fd at *
        gi_wp2_with (first
          | (refine wplIn_load_row rfl 43 _ rfl Bx rfl HM.out.load ?_)
          | (refine ⟨trivial, ?_⟩; gi_at_call 11; refine (CallsIn.inRound l (callsIn_wide.2 HFD.out)).mono ?_; rintro e W2 ⟨u, v', rfl, hj2, hu2, hl2, hl3, ho2⟩; have HO2 := Lib.hid ho2; clear hj2 hu2 hl2 hl3 ho2))
        have hj := HJ.out.1
        have hk := HO2.out
        exact ⟨rfl, rfl, noc_oth HD.out hj hk, noc_oth HL.out hj hk, ⟨⟨hj.oth_blk hk HI.out.r1 (by decide) (by decide), hj.oth_blk hk HI.out.r2 (by decide) (by decide), hj.oth_blk hk HI.out.r3 (by decide) (by decide)⟩, HI.out.below.trans (hj.below hk), HI.out.ba, e1, e2, e3⟩⟩
      · rw [h1, h2] at HFD0
        generalize jGoes (jo k) (jh k) (fr k).1.kind (fr k).1.data = eg at *
        generalize jHad (jo k) (jh k) (fr k).1.kind (fr k).1.data = eh at *
        generalize jTell (jo k) (jh k) (fr k).1.kind (fr k).1.data = et at *
        have HFD := Lib.hid HFD0
        rw [h3]
        have HH3 := Lib.hid h3
        clear HFD0 hbad hlt hst h1 h2 h3
        generalize (fr k).1.kind = fk at *
        generalize (fr k).1.epoch = fe at *
        generalize (fr k).1.data = fd at *
        gi_wp2_with (first
          | (refine wplIn_load_row rfl 43 _ rfl Bx rfl HM.out.load ?_)
          | (refine ⟨trivial, ?_⟩; gi_at_call 11; refine (CallsIn.inRound l (callsIn_wide.2 HFD.out)).mono ?_; rintro e W2 ⟨u, v', rfl, hj2, hu2, hl2, hl3, ho2⟩; obtain ⟨ua, uc, rfl⟩ := own_form hu2; have HU2 := Lib.hid (show W2.ownsRow w.heap.size 5 1 (.slice ua et.length uc) et.length (il .u8 et) ∧ Lies W v (.slice ua et.length uc) from ⟨hu2, hl2⟩); have HO2 := Lib.hid ho2; have HJ2 := Lib.hid hj2; have R1 := Lib.hid (HJ.out.1.oth_blk ho2 HI.out.r1 (by decide) (by decide)); have R2 := Lib.hid (HJ.out.1.oth_blk ho2 HI.out.r2 (by decide) (by decide)); have R3 := Lib.hid (HJ.out.1.oth_blk ho2 HI.out.r3 (by decide) (by decide)); have c1 := cell1 R1.out; have c2 := cell1 R2.out; have c3 := cell1 R3.out; have f1 := frozen1 R1.out; have f2 := frozen1 R2.out; have f3 := frozen1 R3.out; clear hj2 hu2 hl2 hl3 ho2))
        have hj := HJ.out.1
        have hk := HO2.out
        have hD2 : NoC W2 w3.heap.size := by obtain ⟨o, ho, hc⟩ := HD.out; exact ⟨o, (noc_oth HD.out hj hk).trans ho, hc⟩
        have hL2 : NoC W2 (w3.heap.size + 1) := by obtain ⟨o, ho, hc⟩ := HL.out; exact ⟨o, (noc_oth HL.out hj hk).trans ho, hc⟩
        have hu := HU2.out.1
        have hne : ∀ g, (Value.slice ua et.length uc).ownBlock = some g → g ≠ w.heap.size ∧ g ≠ w.heap.size + 1 ∧ g ≠ w.heap.size + 1 + 1 ∧ g ≠ Ba := fun g hg => by
          have hcur : ∃ cur : Array Value, W2.heap[g]? = some (.cells cur 5 (0, 0)) := by
            rcases hu.2 with ⟨h, _⟩ | ⟨g', cap, cur, h, _, hcur, _⟩
            · rw [h] at hg; simp [Value.ownBlock] at hg
            · rw [h] at hg; simp only [Value.ownBlock, Option.some.injEq] at hg; subst hg; exact ⟨cur, hcur⟩
          obtain ⟨cur, hcur⟩ := hcur
          refine ⟨fun e => ?_, fun e => ?_, fun e => ?_, fun e => ?_⟩
          · rw [e, R1.out] at hcur; simp only [Option.some.injEq, Obj.cells.injEq] at hcur; exact absurd hcur.2.1 (by decide)
          · rw [e, R2.out] at hcur; simp only [Option.some.injEq, Obj.cells.injEq] at hcur; exact absurd hcur.2.1 (by decide)
          · rw [e, R3.out] at hcur; simp only [Option.some.injEq, Obj.cells.injEq] at hcur; exact absurd hcur.2.1 (by decide)
          · subst e
            rcases HU2.out.2 g hg with h1 | h1
            · have := HJ.out.2 g h1.symm
              rw [HI.out.fa] at this; cases this
            · have := HI.out.big; omega
        refine ⟨rfl, rfl, ?_, ?_, ?_⟩
        · rw [set_other (hD2.ne R3.out), set_other (hD2.ne R2.out), set_other (hD2.ne R1.out)]; exact noc_oth HD.out hj hk
        · rw [set_other (hL2.ne R3.out), set_other (hL2.ne R2.out), set_other (hL2.ne R1.out)]; exact noc_oth HL.out hj hk
        · refine ⟨⟨ua, uc, ?_, ?_, ?_, ?_, fun g hg => (hne g hg).2.2.2⟩, ?_, HI.out.ba, e1, e2, e3⟩
          · rw [set_other (by omega), set_other (by omega)]; exact set1 R1.out _
          · rw [set_other (by omega)]; exact set1 (by rw [set_other (by omega)]; exact R2.out) _
          · exact set1 (by rw [set_other (by omega), set_other (by omega)]; exact R3.out) _
          · refine own_over (own_over (own_over hu (grownBy_setCell' _ _ _) fun g hg e => ?_) (grownBy_setCell' _ _ _) fun g hg e => ?_) (grownBy_setCell' _ _ _) fun g hg e => ?_
            · exact (hne g hg).1 (Option.some.inj e)
            · exact (hne g hg).2.1 (Option.some.inj e)
            · exact (hne g hg).2.2.1 (Option.some.inj e)
          · exact bset (bset (bset (HI.out.below.trans (hj.below hk)) (Nat.le_refl _) (Nat.le_refl _) 0 _) (by omega) (Nat.le_refl _) 0 _) (by omega) (Nat.le_refl _) 0 _
  case stop =>
    intro W hB hX hK
    have hbw := hX.below
    cases oc with
    | none =>
      obtain ⟨r1, r2, r3⟩ := hX.cells
      have c1 := cell1 r1
      have c2 := cell1 r2
      have c3 := cell1 r3
      have f1 := frozen1 r1
      have f2 := frozen1 r2
      have f3 := frozen1 r3
      show (Code.exit 0).wpIn _ _ _ _ _ _
      have hD : NoC W w3.heap.size := ⟨_, hK, rfl⟩
      gi_wp2
      obtain ⟨W5, hW5⟩ : ∃ q, ((W.setCell ⟨w.heap.size, 0, none⟩ (.slice none 0 0)).setCell ⟨w.heap.size + 1, 0, none⟩ (.int .i64 0)).setCell ⟨w.heap.size + 1 + 1, 0, none⟩ (.bool false) = q := ⟨_, rfl⟩
      rw [hW5]
      have hK5 : W5.heap[w3.heap.size]? = some (.deferred (some [])) := by rw [← hW5, set_other (hD.ne r3), set_other (hD.ne r2), set_other (hD.ne r1)]; exact hK
      have s1 : W5.heap[w.heap.size]? = some (.cells #[.slice none 0 0] 25 (0, 0)) := by rw [← hW5, set_other (by omega), set_other (by omega)]; exact set1 r1 _
      have s2 : W5.heap[w.heap.size + 1]? = some (.cells #[.int .i64 0] 3 (0, 0)) := by rw [← hW5, set_other (by omega)]; exact set1 (by rw [set_other (by omega)]; exact r2) _
      have s3 : W5.heap[w.heap.size + 1 + 1]? = some (.cells #[.bool false] 4 (0, 0)) := by rw [← hW5]; exact set1 (by rw [set_other (by omega), set_other (by omega)]; exact r3) _
      have hb5 : Below w.heap.size w W5 := by rw [← hW5]; exact bset (bset (bset hbw (Nat.le_refl _) (Nat.le_refl _) 0 _) (by omega) (Nat.le_refl _) 0 _) (by omega) (Nat.le_refl _) 0 _
      have hf := Free.put (b := w.heap.size) (.deferred none) HB3.out.size hK5 rfl
      have d1 := cell1 (hf.2 _ _ s1 rfl)
      have d2 := cell1 (hf.2 _ _ s2 rfl)
      have d3 := cell1 (hf.2 _ _ s3 rfl)
      refine ⟨by simp, .inl ⟨_, _, rfl, run_takeDeferred hK5, ?_⟩⟩
      refine ⟨.tuple #[.slice none 0 0, .int .i64 0, .bool false], ?_, ⟨hb5.trans hf.1, rfl⟩⟩
      simp [results, Tryd.f5, go_sem, d1, d2, d3]
    | some q =>
      obtain ⟨z, e⟩ := q
      obtain ⟨y, c, r1, r2, r3, hu, hn⟩ := hX.cells
      show Code.ret.wpIn _ _ _ _ _ _
      gi_wp2
      have hf := Free.put (b := w.heap.size) (.deferred none) HB3.out.size hK rfl
      have d1 := cell1 (hf.2 _ _ r1 rfl)
      have d2 := cell1 (hf.2 _ _ r2 rfl)
      have d3 := cell1 (hf.2 _ _ r3 rfl)
      refine ⟨by simp, .inl ⟨_, _, rfl, run_takeDeferred hK, ?_⟩⟩
      refine ⟨.tuple #[.slice y z.length c, .int .i64 (e : Nat), .bool true], ?_, ⟨hbw.trans hf.1, y, c, rfl, own_free' hu hf⟩⟩
      simp [results, Tryd.f5, go_sem, d1, d2, d3]
  case done =>
    intro f W hS hI hK
    have hbw := hI.below
    have hoc := HNO.out hS
    have r1 := hI.r1
    have r2 := hI.r2
    have r3 := hI.r3
    subst hoc
    focus
      have c1 := cell1 r1
      have c2 := cell1 r2
      have c3 := cell1 r3
      have f1 := frozen1 r1
      have f2 := frozen1 r2
      have f3 := frozen1 r3
      have hD : NoC W w3.heap.size := ⟨_, hK, rfl⟩
      gi_wp2
      obtain ⟨W5, hW5⟩ : ∃ q, ((W.setCell ⟨w.heap.size, 0, none⟩ (.slice none 0 0)).setCell ⟨w.heap.size + 1, 0, none⟩ (.int .i64 0)).setCell ⟨w.heap.size + 1 + 1, 0, none⟩ (.bool false) = q := ⟨_, rfl⟩
      rw [hW5]
      have hK5 : W5.heap[w3.heap.size]? = some (.deferred (some [])) := by rw [← hW5, set_other (hD.ne r3), set_other (hD.ne r2), set_other (hD.ne r1)]; exact hK
      have s1 : W5.heap[w.heap.size]? = some (.cells #[.slice none 0 0] 25 (0, 0)) := by rw [← hW5, set_other (by omega), set_other (by omega)]; exact set1 r1 _
      have s2 : W5.heap[w.heap.size + 1]? = some (.cells #[.int .i64 0] 3 (0, 0)) := by rw [← hW5, set_other (by omega)]; exact set1 (by rw [set_other (by omega)]; exact r2) _
      have s3 : W5.heap[w.heap.size + 1 + 1]? = some (.cells #[.bool false] 4 (0, 0)) := by rw [← hW5]; exact set1 (by rw [set_other (by omega), set_other (by omega)]; exact r3) _
      have hb5 : Below w.heap.size w W5 := by rw [← hW5]; exact bset (bset (bset hbw (Nat.le_refl _) (Nat.le_refl _) 0 _) (by omega) (Nat.le_refl _) 0 _) (by omega) (Nat.le_refl _) 0 _
      have hf := Free.put (b := w.heap.size) (.deferred none) HB3.out.size hK5 rfl
      have d1 := cell1 (hf.2 _ _ s1 rfl)
      have d2 := cell1 (hf.2 _ _ s2 rfl)
      have d3 := cell1 (hf.2 _ _ s3 rfl)
      refine ⟨by simp, .inl ⟨_, _, rfl, run_takeDeferred hK5, ?_⟩⟩
      refine ⟨.tuple #[.slice none 0 0, .int .i64 0, .bool false], ?_, ⟨hb5.trans hf.1, rfl⟩⟩
      simp [results, Tryd.f5, go_sem, d1, d2, d3]
end Go.Proofs.YtnmplnemnfonfaaDoor
namespace Go.Proofs.YtnmplnemnfonfaaDoor
open Go.RowKit
theorem Tryd.info_sl : (Tryd.prog.info? 25).map (fun i => (i.zero, i.size, i.bytes)) = some (some (.slice none 0 0), 1, 24) := by kernel_rfl
structure SR (base : Nat) (w : World) (v : Value) (m : Nat) (es : List (List Int × Value)) (bl : Value) : Prop where
  row : w.ownsRow base 25 1 v m (es.map Prod.snd)
  data : ∀ e ∈ es, w.ownsRow base 5 1 e.2 e.1.length (il .u8 e.1)
  apart : ∀ e ∈ es, ∀ g, e.2.ownBlock = some g → some g ≠ bl.ownBlock
section
variable {base jb : Nat} {w w' : World} {v v' bl bl' hv hv' : Value} {m : Nat} {es : List (List Int × Value)} {o : Bool} {h : List Int}
theorem SR.len (r : SR base w v m es bl) : es.length = m := by have := r.row.1; simpa using this
theorem SR.nil (base : Nat) (w : World) (bl : Value) : SR base w (.slice none 0 0) 0 [] bl := ⟨World.ownsRow_nil _ _ _ _, fun e he => by simp at he, fun e he => by simp at he⟩
theorem SR.keep (r : SR base w v m es bl) (hb : Below w.heap.size w w') : SR base w' v m es bl := ⟨own_keep r.row hb, fun e he => own_keep (r.data e he) hb, r.apart⟩
theorem SR.rl (r : SR base w v m es bl) : RL .u8 w v m (es.map Prod.fst) := by
  have hl := r.len
  refine ⟨es.map Prod.snd, RV.own r.row, by simpa using hl, fun j e l he hl => ?_⟩
  have hj : j < es.length := by have := (List.getElem?_eq_some_iff.1 he).1; simpa using this
  simp [hj] at he hl
  subst he hl
  exact RI.own (r.data _ (List.getElem_mem hj))
theorem SR.snoc (r : SR base w v m es bl) (hg : w.grownBy w' v.ownBlock) (e : List Int × Value) (hd : w.ownsRow base 5 1 e.2 e.1.length (il .u8 e.1)) (ha : ∀ g, e.2.ownBlock = some g → some g ≠ bl.ownBlock)
    (ho : w'.ownsRow base 25 1 v' (m + 1) (es.map Prod.snd ++ [e.2])) : SR base w' v' (m + 1) (es ++ [e]) bl := by
  refine ⟨by rw [List.map_append]; exact ho, fun x hx => ?_, fun x hx => ?_⟩
  · rcases List.mem_append.1 hx with hx | hx
    · exact own_over (r.data x hx) hg (own_types (r.data x hx) r.row (by decide))
    · obtain rfl : x = e := by simpa using hx
      exact own_over hd hg (own_types hd r.row (by decide))
  · rcases List.mem_append.1 hx with hx | hx
    · exact r.apart x hx
    · obtain rfl : x = e := by simpa using hx
      exact ha
theorem SR.other (r : SR base w v m es bl) (hg : w.grownBy w' v.ownBlock) {t : TypeId} {k n base' : Nat} {u : Value} {xs : List Value} (ho : w.ownsRow base' t k u n xs) (ht : t ≠ 25) : w'.ownsRow base' t k u n xs :=
  own_over ho hg (own_types ho r.row ht)
theorem SR.blk (r : SR base w v m es bl) (hg : w.grownBy w' v.ownBlock) {g : Nat} {c : Array Value} {t : TypeId} (hk : w.heap[g]? = some (.cells c t (0, 0))) (ht : t ≠ 25) : w'.heap[g]? = some (.cells c t (0, 0)) := by
  refine (hg.block g (Array.getElem?_eq_some_iff.1 hk).1 (fun e => ?_)).trans hk
  rcases r.row.2 with ⟨rfl, _⟩ | ⟨q, cap, cur, rfl, _, hcur, _⟩
  · simp [Value.ownBlock] at e
  · simp only [Value.ownBlock, Option.some.injEq] at e
    subst e
    rw [hk] at hcur
    simp only [Option.some.injEq, Obj.cells.injEq] at hcur
    exact ht hcur.2.1
theorem wpl_app_sr {ops : Array Oper} {rest : List Oper} {o : Oper} {a : Act} {Q : Exit → Act → World → Prop} (hgd : o.guard = none) (s x : Operand)
    (ho : o.op = .call { callee := .builtin .append, args := #[s, x], argTypes := #[28, 28] }) (hs : a.eval s = v) (r : SR base w v m es bl)
    (g : Nat) (e : List Int × Value) (hx : a.eval x = .slice (some ⟨g, 0, none⟩) 1 1) (hblk : w.heap[g]? = some (.cells #[e.2] 25 (0, 0)))
    (hd : w.ownsRow base 5 1 e.2 e.1.length (il .u8 e.1)) (ha : ∀ g, e.2.ownBlock = some g → some g ≠ bl.ownBlock) (hm : m ≤ 1000000) (hbase : base ≤ w.heap.size)
    (hq : ∀ v' w', Hid (SR base w' v' (m + 1) (es ++ [e]) bl) → Hid (w.grownBy w' v.ownBlock) → wpList Tryd.prog ops Q rest (a.put o.dst v') w') : wpList Tryd.prog ops Q (o :: rest) a w := by
  obtain ⟨i, hi, hz0, hz1, hz2⟩ := info_parts Tryd.info_sl
  obtain ⟨p, c, hv⟩ := own_form hd
  refine wpList_append_own_wide w hgd s x 28 ho base 25 i (.slice none 0 0) 1 24 Tryd.underlying28 hi hz0 hz1 hz2 rfl (by omega) v m (es.map Prod.snd) hs r.row ⟨g, 0, none⟩ 1 1 [e.2] hx rfl ?_ (by simp [Value.oneCell', hv]) (by unfold maxLen; omega) (by omega) hbase ?_
  · intro j u hj
    match j, hj with
    | 0, hj => simp at hj; subst hj; simpa [Addr.add] using cell_of_row w g 0 _ _ _ hblk
  · intro v' w' ho' hg _
    exact hq v' w' (r.snoc hg e hd ha ho') hg
end
end Go.Proofs.YtnmplnemnfonfaaDoor
namespace Go.Proofs.YtnmplnemnfonfaaDoor
open Go.RowKit
end Go.Proofs.YtnmplnemnfonfaaDoor
