/-
  TEXTS JOINED: DiskLawSame, DiskPlaySt, PoolSame, PoolSt. Each one's own words stand at its head.
-/
import Derived.Test.YtoempaagpgoilaaDoorJ12
import Derived.Test.YtoempaagpgoilaaDoorJ11
import Derived.Test.YtoempaagpgoilaaDoorJ3
/-
  LAYER 8 (disk): the law's own same, over DiskSays. No condition.
-/
namespace Go.Proofs.YtoempaagpgoilaaDoor
open Go.RowKit
/-- the file at a place is the one of its name -/
theorem Good.at_ {d : AD} (h : Good d) {i : Nat} {f : AF} (hf : d.L[i]? = some f) : d.has f.name ∧ d.get f.name = f := by
  obtain ⟨hi, rfl⟩ := List.getElem?_eq_some_iff.1 hf
  have hh : d.has (d.L[i]).name := by
    rcases Decidable.em (d.has (d.L[i]).name) with h1 | h1
    · exact h1
    · exact absurd rfl (has_mem h1 _ (List.getElem_mem hi))
  refine ⟨hh, ?_⟩
  have h1 := d.get_at _ hh
  have h2 := d.get_name _ hh
  obtain ⟨hj, e⟩ := List.getElem?_eq_some_iff.1 h1
  have hp := List.pairwise_iff_getElem.1 h.asc
  rcases Nat.lt_trichotomy (idxN d.L (d.L[i]).name) i with hlt | heq | hgt
  · have := gtN_ne (hp _ _ hj hi hlt); rw [e, h2] at this; exact absurd rfl this
  · rw [← e]; simp only [heq]
  · have := gtN_ne (hp _ _ hi hj hgt); rw [e, h2] at this; exact absurd rfl this
theorem RD.below {w w' : World} {v : Value} {d : AD} (h : RD w v d) (hb : Below w.heap.size w w') : RD w' v d := h.kin (Kin.below hb)
theorem LA.below {w w' : World} {v : Value} {l : List LFile} (h : LA w v l) (hb : Below w.heap.size w w') : LA w' v l := h.kin (Kin.below hb)
/-- where same stands: w is where it began; the box has the document's disk -/
structure SaS (DK : World → Addr → (Nat → Bool) → AD → Prop) (w : World) (p : Addr) (F : Nat → Bool) (cs : Array Value) (d : AD) (W : World) : Prop where
  dk : DK W p F d
  rd : RD W (.agg cs) d
  below : Below w.heap.size w W
  d0 : DB W w.heap.size cs
theorem SaS.next {DK : World → Addr → (Nat → Bool) → AD → Prop} (H : DiskSays DK) {w W W' : World} {p : Addr} {F : Nat → Bool} {cs : Array Value} {d : AD} (h : SaS DK w p F cs d W) (hb : Below W.heap.size W W') : SaS DK w p F cs d W' :=
  ⟨H.below h.dk hb, h.rd.below hb, chain h.below hb, h.d0.next hb⟩
theorem SaS.start {DK : World → Addr → (Nat → Bool) → AD → Prop} (H : DiskSays DK) {w : World} {p : Addr} {F : Nat → Bool} {cs : Array Value} {d : AD} (hk : DK w p F d) (hr : RD w (.agg cs) d) (h6 : cs.size = 6) :
    SaS DK w p F cs d (w.alloc (.cells cs 28)) :=
  have hb := below_alloc w (.cells cs 28)
  ⟨H.below hk hb, hr.below hb, hb, ⟨heap_alloc_last w _, h6⟩⟩
end Go.Proofs.YtoempaagpgoilaaDoor
/-
  LAYER 8 (disk): where a law stands that plays calls on the program's disk and on the document's: the pointer, and a box for the document's disk, both made by the law. Nothing here speaks of the program's functions but DiskSays.
-/
namespace Go.Proofs.YtoempaagpgoilaaDoor
open Go.RowKit
variable {DK : World → Addr → (Nat → Bool) → AD → Prop}
/-- W: where the law began; g: the box; cb: what lies in it; cr: the document's disk, now -/
structure PS (DK : World → Addr → (Nat → Bool) → AD → Prop) (W : World) (p : Addr) (g : Nat) (d : AD) (cb cr : Array Value) (F M : Nat → Bool) (w : World) : Prop where
  dk : DK w p F d
  good : Good d
  rd : RD (mask M w) (.agg cr) d
  sub : ∀ k, F k = true → M k = true
  foot : Foot M w.heap.size
  mg : M g = true
  fg : F g = false
  old : W.heap.size ≤ g
  db : DB w g cb
  ex : Ext noF W w F
  exm : Ext noF W w M
theorem PS.glt {W w : World} {p : Addr} {g : Nat} {d : AD} {cb cr : Array Value} {F M : Nat → Bool} (h : PS DK W p g d cb cr F M w) : g < w.heap.size := (Array.getElem?_eq_some_iff.1 h.db.1).1
theorem PS.next (H : DiskSays DK) {W w w' : World} {p : Addr} {g : Nat} {d : AD} {cb cr : Array Value} {F M : Nat → Bool} (h : PS DK W p g d cb cr F M w) (hb : Below w.heap.size w w') : PS DK W p g d cb cr F M w' :=
  ⟨H.below h.dk hb, h.good, h.rd.kin (kin_mask hb), h.sub, h.foot.mono hb.size, h.mg, h.fg, h.old, h.db.next hb, h.ex.trans (Ext.below hb), h.exm.trans (Ext.below hb)⟩
/-- a block more, set aside -/
theorem PS.alloc (H : DiskSays DK) {W w : World} {p : Addr} {g : Nat} {d : AD} {cb cr : Array Value} {F M : Nat → Bool} (h : PS DK W p g d cb cr F M w) (o : Obj) :
    PS DK W p g d cb cr F (plusF M w.heap.size (w.heap.size + 1)) (w.alloc o) ∧ plusF M w.heap.size (w.heap.size + 1) w.heap.size = true ∧ F w.heap.size = false := by
  have hb := below_alloc w o
  have hs := alloc_size w o
  have hx := plusF_ext (F := M) hb
  rw [hs] at hx
  refine ⟨⟨H.below h.dk hb, h.good, h.rd.kin hx.kin, fun k hk => plusF_mono _ _ _ _ (h.sub k hk), by rw [hs]; exact plusF_foot h.foot (by omega), plusF_mono _ _ _ _ h.mg, h.fg, h.old, h.db.next hb, h.ex.trans (Ext.below hb), h.exm.trans hx⟩, plusF_in _ _ _ _ (Nat.le_refl _) (by omega), ?_⟩
  cases hf : F w.heap.size with
  | false => rfl
  | true => have := H.foot h.dk _ hf; omega
/-- what is stored into a block that is set aside -/
theorem PS.over (H : DiskSays DK) {W w : World} {p : Addr} {g : Nat} {d : AD} {cb cr : Array Value} {F M : Nat → Bool} (h : PS DK W p g d cb cr F M w) (q : Nat) (hq : q ≠ g) (hm : M q = true) (hf : F q = false) (ho : W.heap.size ≤ q) (cs : Array Value) :
    PS DK W p g d cb cr F M (w.setRow q cs) := by
  have hn : ∀ k, k ≠ q → (w.setRow q cs).heap[k]? = w.heap[k]? := fun k hk => setRow_other w q k cs hk
  have hs : (w.setRow q cs).heap.size = w.heap.size := by simp
  exact ⟨H.keep h.dk (Nat.le_of_eq hs.symm) fun k hk => hn k (by rintro rfl; rw [hf] at hk; simp at hk), h.good, h.rd.kin ((Ext.refl M w).setRow _ hm _).kin, h.sub, by rw [hs]; exact h.foot, h.mg, h.fg, h.old, h.db.over q (Ne.symm hq) cs, h.ex.newRow _ ho _, h.exm.newRow _ ho _⟩
/-- the document's disk is put into the box -/
theorem PS.store (H : DiskSays DK) {W w : World} {p : Addr} {g : Nat} {d : AD} {cb cr : Array Value} {F M : Nat → Bool} (h : PS DK W p g d cb cr F M w) (h6 : cr.size = 6) : PS DK W p g d cr cr F M (w.setRow g cr) := by
  have hn : ∀ k, k ≠ g → (w.setRow g cr).heap[k]? = w.heap[k]? := fun k hk => setRow_other w g k cr hk
  have hs : (w.setRow g cr).heap.size = w.heap.size := by simp
  exact ⟨H.keep h.dk (Nat.le_of_eq hs.symm) fun k hk => hn k (by rintro rfl; rw [h.fg] at hk; simp at hk), h.good, h.rd.kin ((Ext.refl M w).setRow _ h.mg _).kin, h.sub, by rw [hs]; exact h.foot, h.mg, h.fg, h.old, h.db.row h6, h.ex.newRow _ h.old _, h.exm.newRow _ h.old _⟩
/-- the box is made -/
theorem PS.start (H : DiskSays DK) {W w : World} {p : Addr} {d : AD} {cr : Array Value} {F : Nat → Bool} (hk : DK w p F d) (hg : Good d) (hr : RD (mask F w) (.agg cr) d) (hx : Ext noF W w F) :
    PS DK W p w.heap.size d dz cr F (plusF F w.heap.size (w.heap.size + 1)) (w.alloc (.cells dz 28)) := by
  have hb := below_alloc w (.cells dz 28)
  have hs := alloc_size w (.cells dz 28)
  have hx2 := plusF_ext (F := F) hb
  rw [hs] at hx2
  have hF := H.foot hk
  refine ⟨H.below hk hb, hg, hr.kin hx2.kin, fun k hk => plusF_mono _ _ _ _ hk, by rw [hs]; exact plusF_foot hF (by omega), plusF_in _ _ _ _ (Nat.le_refl _) (by omega), ?_, hx.size, ⟨heap_alloc_last w _, rfl⟩, hx.trans (Ext.below hb), hx.trans hx2⟩
  cases hf : F w.heap.size with
  | false => rfl
  | true => have := hF _ hf; omega
/-- what was there when the law began is there -/
theorem PS.kin {W w : World} {p : Addr} {g : Nat} {d : AD} {cb cr : Array Value} {F M : Nat → Bool} (h : PS DK W p g d cb cr F M w) : Kin W (mask M w) := by
  have := h.exm.kin; rwa [mask_none] at this
theorem PS.kinw {W w : World} {p : Addr} {g : Nat} {d : AD} {cb cr : Array Value} {F M : Nat → Bool} (h : PS DK W p g d cb cr F M w) : Kin W w := h.kin.trans (unmask M w)
theorem Ext.none {F' : Nat → Bool} {w w' : World} (h : Ext noF w w' F') : Below w.heap.size w w' := ⟨h.os, h.tape, h.output, h.size, fun k hk => h.block k hk rfl⟩
/-- a disk is loaded out of its block, guarded or not -/
theorem wpl_load_dbG {w : World} {ops : Array Oper} {rest : List Oper} {o : Oper} {a : Act} {Q : Exit → Act → World → Prop} (hw : Region.wanted o (yielded ops a.tmps) = true) (x : Operand) (ho : o.op = .load 28 x)
    (g : Nat) (hx : a.eval x = .pointer (some ⟨g, 0, none⟩)) (cs : Array Value) (hk : DB w g cs) (h : wpList Tryd.prog ops Q rest (a.put o.dst (.agg cs)) w) : wpList Tryd.prog ops Q (o :: rest) a w := by
  unfold wpList
  rw [if_pos hw]
  exact Or.inl (wp_load_row 28 x ho g hx _ cs (0, 0) _ hk.1 Tryd.underlying28 rfl hk.info h)
end Go.Proofs.YtoempaagpgoilaaDoor
/-
  LAYER 21 (pool): the law's own same and awake, over DiskSays. The library's table lies as the form says.
-/
namespace Go.Proofs.YtoempaagpgoilaaDoor
open Go.RowKit
variable {DK : World → Addr → (Nat → Bool) → AD → Prop}
set_option maxRecDepth 8000 in
set_option maxHeartbeats 8000000 in
theorem psame_any (H : DiskSays DK) (F : Nat → Bool) (w : World) (p : Addr) (vd : Value) (d : AD) (hdk : DK w p F d) (hg : Good d) (hrd : RD w vd d) (hp : Pow w) :
    Calls Tryd.prog 20 #[ptr p, vd] w fun e w' => e = .returned (.bool true) ∧ Below w.heap.size w w' := by
  obtain ⟨a, n, c, rfl, hn, hc1, hc2⟩ := hrd.agg
  have hH := Lib.hid H
  have HG := Lib.hid hg
  have HN := Lib.hid hn
  have HP := Lib.hid hp
  have HS0 := Lib.hid (SaS.start H hdk hrd rfl)
  have hfew := hg.few
  have hn63 : (n : Int) ≤ 64 := by omega
  clear hfew hn hdk hg hrd hp
  go_enter Tryd.func20, Tryd.ntmps20
  go_wp2_with (first
    | (go_at_call 44; (with_reducible refine (hH.out.files _ _ _ _ HS0.out.dk HG.out).mono ?_); rintro e w2 ⟨v2, rfl, hs2, hb⟩; have HS2 := Lib.hid (HS0.out.next hH.out hb); have HF2 := Lib.hid hs2; clear hb hs2))
  obtain ⟨a2, c2, rfl, hc21, hc22, _⟩ := HF2.out.form
  rw [show d.files.length = n from by rw [← HN.out]; simp [AD.files]] at HF2 hc21 ⊢
  have HS2D := Lib.hid (HS2.out.next hH.out (Below.refl _ _).drew)
  have HB2 : Hid (Below w2.heap.size w2 w2.drew) := Lib.hid (Below.refl _ _).drew
  refine wp_region_held_drew (S := (fun W' => DB W' w.heap.size #[.slice a n c, .int .i64 d.cap, .int .i64 d.ops, .bool d.down, .bool d.told, .int .i64 d.after])) (by kernel_rfl) HS2D.out.d0 (fun hS => ?_)
  refine wpAnyH_take (i := 0) (oi := ({ dst := some 9, op := Op.move (Operand.tmp 0), type := 24, pos := "law.go:30", after := #[], guard := none } : Oper)) (v := ?_) rfl (by kernel_rfl) (by kernel_rfl) (by kernel_rfl) (fun _ _ _ h => h) (Or.inl ⟨by rfl, ?_⟩) hS ?_
  rotate_left
  · (intro w hSw; (try dsimp only at hSw); go_simp; try with_reducible rfl)
  (try simp only [Act.put, List.setIfInBounds_toArray, List.set_cons_zero, List.set_cons_succ])
  refine wpAnyH_take (i := 2) (oi := ({ dst := some 11, op := Op.fieldAddr 28 (Operand.tmp 3) 2, type := 0, pos := "law.go:30", after := #[], guard := none } : Oper)) (v := ?_) rfl (by kernel_rfl) (by kernel_rfl) (by kernel_rfl) (fun _ _ _ h => h) (Or.inl ⟨by rfl, ?_⟩) hS ?_
  rotate_left
  · (intro w hSw; (try dsimp only at hSw); go_simp; try with_reducible rfl)
  (try simp only [Act.put, List.setIfInBounds_toArray, List.set_cons_zero, List.set_cons_succ])
  refine wpAnyH_take (i := 3) (oi := ({ dst := some 12, op := Op.load 3 (Operand.tmp 11), type := 3, pos := "law.go:30", after := #[{ on := 2, ground := Ground.data }], guard := none } : Oper)) (v := ?_) rfl (by kernel_rfl) (by kernel_rfl) (by kernel_rfl) (fun _ _ _ h => h) (Or.inl ⟨by rfl, ?_⟩) hS ?_
  rotate_left
  · (intro w hSw; (try dsimp only at hSw); obtain ⟨z0, z1, z2, z3, z4, z5⟩ := hSw.six; go_simp; try with_reducible rfl)
  (try simp only [Act.put, List.setIfInBounds_toArray, List.set_cons_zero, List.set_cons_succ])
  refine rg_one 1 ({ dst := some 10, op := Op.call { callee := Callee.value (Operand.func 45), args := #[Operand.tmp 9], argTypes := #[24] }, type := 3, pos := "law.go:30", after := #[{ on := 0, ground := Ground.data }], guard := none } : Oper) (by kernel_rfl) rfl (fun K hK => ?_)
  go_simp
  (go_at_call 45; (with_reducible refine (hH.out.ops _ _ _ _ HS2D.out.dk HG.out).mono ?_); rintro e w3 ⟨rfl, hb⟩; have HS3 := Lib.hid (HS2D.out.next hH.out hb); have HB3 := Lib.hid (chain HB2.out hb))
  refine hK.out _ _ ?_ (fun hS1 => ?_)
  · (first | exact hS | exact hS.next hb)
  clear hK K hS; have hS := hS1; clear hS1
  (try simp only [Act.put, List.setIfInBounds_toArray, List.set_cons_zero, List.set_cons_succ])
  refine wpAnyH_take (i := 4) (oi := ({ dst := some 13, op := Op.binOp BinOp.neq 3 (Operand.tmp 10) (Operand.tmp 12) 3, type := 4, pos := "law.go:30", after := #[{ on := 1, ground := Ground.data }, { on := 3, ground := Ground.data }], guard := none } : Oper)) (v := ?_) rfl (by kernel_rfl) (by kernel_rfl) (by kernel_rfl) (fun _ _ _ h => h) (Or.inl ⟨by rfl, ?_⟩) hS ?_
  rotate_left
  · (intro w hSw; (try dsimp only at hSw); go_simp; try with_reducible rfl)
  (try simp only [Act.put, List.setIfInBounds_toArray, List.set_cons_zero, List.set_cons_succ])
  refine wpAnyH_take (i := 5) (oi := ({ dst := some 14, op := Op.move (Operand.tmp 13), type := 4, pos := "law.go:30", after := #[{ on := 4, ground := Ground.data }, { on := 1, ground := Ground.chain }], guard := none } : Oper)) (v := ?_) rfl (by kernel_rfl) (by kernel_rfl) (by kernel_rfl) (fun _ _ _ h => h) (Or.inl ⟨by rfl, ?_⟩) hS ?_
  rotate_left
  · (intro w hSw; (try dsimp only at hSw); go_simp; try with_reducible rfl)
  (try simp only [Act.put, List.setIfInBounds_toArray, List.set_cons_zero, List.set_cons_succ])
  refine wpAnyH_take (i := 6) (oi := ({ dst := some 15, op := Op.move (Operand.tmp 0), type := 24, pos := "law.go:30", after := #[{ on := 5, ground := Ground.guard }], guard := some (5, false) } : Oper)) (v := ?_) rfl (by kernel_rfl) (by kernel_rfl) (by kernel_rfl) (fun _ _ _ h => h) (Or.inl ⟨by rfl, ?_⟩) hS ?_
  rotate_left
  · (intro w hSw; (try dsimp only at hSw); go_simp; try with_reducible rfl)
  (try simp only [Act.put, List.setIfInBounds_toArray, List.set_cons_zero, List.set_cons_succ])
  refine wpAnyH_take (i := 8) (oi := ({ dst := some 17, op := Op.fieldAddr 28 (Operand.tmp 3) 3, type := 0, pos := "law.go:30", after := #[{ on := 5, ground := Ground.guard }], guard := some (5, false) } : Oper)) (v := ?_) rfl (by kernel_rfl) (by kernel_rfl) (by kernel_rfl) (fun _ _ _ h => h) (Or.inl ⟨by rfl, ?_⟩) hS ?_
  rotate_left
  · (intro w hSw; (try dsimp only at hSw); go_simp; try with_reducible rfl)
  (try simp only [Act.put, List.setIfInBounds_toArray, List.set_cons_zero, List.set_cons_succ])
  refine wpAnyH_take (i := 9) (oi := ({ dst := some 18, op := Op.load 4 (Operand.tmp 17), type := 4, pos := "law.go:30", after := #[{ on := 8, ground := Ground.data }, { on := 5, ground := Ground.guard }], guard := some (5, false) } : Oper)) (v := ?_) rfl (by kernel_rfl) (by kernel_rfl) (by kernel_rfl) (fun _ _ _ h => h) (Or.inl ⟨by rfl, ?_⟩) hS ?_
  rotate_left
  · (intro w hSw; (try dsimp only at hSw); obtain ⟨z0, z1, z2, z3, z4, z5⟩ := hSw.six; go_simp; try with_reducible rfl)
  (try simp only [Act.put, List.setIfInBounds_toArray, List.set_cons_zero, List.set_cons_succ])
  refine rg_one 7 ({ dst := some 16, op := Op.call { callee := Callee.value (Operand.func 46), args := #[Operand.tmp 15], argTypes := #[24] }, type := 4, pos := "law.go:30", after := #[{ on := 6, ground := Ground.data }, { on := 5, ground := Ground.chain }, { on := 5, ground := Ground.guard }], guard := some (5, false) } : Oper) (by kernel_rfl) rfl (fun K hK => ?_)
  go_simp
  (go_at_call 46; (with_reducible refine (hH.out.down _ _ _ _ HS3.out.dk HG.out).mono ?_); rintro e w4 ⟨rfl, hb⟩; have HS4 := Lib.hid (HS3.out.next hH.out hb); have HB4 := Lib.hid (chain HB3.out hb))
  refine hK.out _ _ ?_ (fun hS1 => ?_)
  · (first | exact hS | exact hS.next hb)
  clear hK K hS; have hS := hS1; clear hS1
  (try simp only [Act.put, List.setIfInBounds_toArray, List.set_cons_zero, List.set_cons_succ])
  refine wpAnyH_take (i := 10) (oi := ({ dst := some 19, op := Op.binOp BinOp.neq 4 (Operand.tmp 16) (Operand.tmp 18) 4, type := 4, pos := "law.go:30", after := #[{ on := 7, ground := Ground.data }, { on := 9, ground := Ground.data }, { on := 5, ground := Ground.guard }], guard := some (5, false) } : Oper)) (v := ?_) rfl (by kernel_rfl) (by kernel_rfl) (by kernel_rfl) (fun _ _ _ h => h) (Or.inl ⟨by rfl, ?_⟩) hS ?_
  rotate_left
  · (intro w hSw; (try dsimp only at hSw); go_simp; try with_reducible rfl)
  (try simp only [Act.put, List.setIfInBounds_toArray, List.set_cons_zero, List.set_cons_succ])
  refine wpAnyH_take (i := 11) (oi := ({ dst := some 20, op := Op.pick (Operand.tmp 14) (Operand.const (Value.bool true)) (Operand.tmp 19), type := 4, pos := "law.go:30", after := #[{ on := 5, ground := Ground.data }, { on := 10, ground := Ground.data }], guard := none } : Oper)) (v := ?_) rfl (by kernel_rfl) (by kernel_rfl) (by kernel_rfl) (fun _ _ _ h => h) (Or.inl ⟨by rfl, ?_⟩) hS ?_
  rotate_left
  · (intro w hSw; (try dsimp only at hSw); go_simp; try with_reducible rfl)
  (try simp only [Act.put, List.setIfInBounds_toArray, List.set_cons_zero, List.set_cons_succ])
  refine wpAnyH_take (i := 12) (oi := ({ dst := some 21, op := Op.move (Operand.tmp 20), type := 4, pos := "law.go:30", after := #[{ on := 11, ground := Ground.data }, { on := 7, ground := Ground.chain }], guard := none } : Oper)) (v := ?_) rfl (by kernel_rfl) (by kernel_rfl) (by kernel_rfl) (fun _ _ _ h => h) (Or.inl ⟨by rfl, ?_⟩) hS ?_
  rotate_left
  · (intro w hSw; (try dsimp only at hSw); go_simp; try with_reducible rfl)
  (try simp only [Act.put, List.setIfInBounds_toArray, List.set_cons_zero, List.set_cons_succ])
  refine wpAnyH_take (i := 13) (oi := ({ dst := some 22, op := Op.move (Operand.tmp 5), type := 77, pos := "law.go:30", after := #[{ on := 12, ground := Ground.guard }], guard := some (12, false) } : Oper)) (v := ?_) rfl (by kernel_rfl) (by kernel_rfl) (by kernel_rfl) (fun _ _ _ h => h) (Or.inl ⟨by rfl, ?_⟩) hS ?_
  rotate_left
  · (intro w hSw; (try dsimp only at hSw); go_simp; try with_reducible rfl)
  (try simp only [Act.put, List.setIfInBounds_toArray, List.set_cons_zero, List.set_cons_succ])
  refine wpAnyH_take (i := 14) (oi := ({ dst := some 23, op := Op.call { callee := Callee.builtin Builtin.len, args := #[Operand.tmp 22], argTypes := #[77] }, type := 3, pos := "law.go:30", after := #[{ on := 13, ground := Ground.data }, { on := 12, ground := Ground.guard }], guard := some (12, false) } : Oper)) (v := ?_) rfl (by kernel_rfl) (by kernel_rfl) (by kernel_rfl) (fun _ _ _ h => h) (Or.inl ⟨by rfl, ?_⟩) hS ?_
  rotate_left
  · (intro w hSw; (try dsimp only at hSw); go_simp; try with_reducible rfl)
  (try simp only [Act.put, List.setIfInBounds_toArray, List.set_cons_zero, List.set_cons_succ])
  refine wpAnyH_take (i := 15) (oi := ({ dst := some 24, op := Op.fieldAddr 28 (Operand.tmp 3) 0, type := 0, pos := "law.go:30", after := #[{ on := 12, ground := Ground.guard }], guard := some (12, false) } : Oper)) (v := ?_) rfl (by kernel_rfl) (by kernel_rfl) (by kernel_rfl) (fun _ _ _ h => h) (Or.inl ⟨by rfl, ?_⟩) hS ?_
  rotate_left
  · (intro w hSw; (try dsimp only at hSw); go_simp; try with_reducible rfl)
  (try simp only [Act.put, List.setIfInBounds_toArray, List.set_cons_zero, List.set_cons_succ])
  refine wpAnyH_take (i := 16) (oi := ({ dst := some 25, op := Op.load 26 (Operand.tmp 24), type := 26, pos := "law.go:30", after := #[{ on := 15, ground := Ground.data }, { on := 12, ground := Ground.guard }], guard := some (12, false) } : Oper)) (v := ?_) rfl (by kernel_rfl) (by kernel_rfl) (by kernel_rfl) (fun _ _ _ h => h) (Or.inl ⟨by rfl, ?_⟩) hS ?_
  rotate_left
  · (intro w hSw; (try dsimp only at hSw); obtain ⟨z0, z1, z2, z3, z4, z5⟩ := hSw.six; go_simp; try with_reducible rfl)
  (try simp only [Act.put, List.setIfInBounds_toArray, List.set_cons_zero, List.set_cons_succ])
  refine wpAnyH_take (i := 17) (oi := ({ dst := some 26, op := Op.call { callee := Callee.builtin Builtin.len, args := #[Operand.tmp 25], argTypes := #[26] }, type := 3, pos := "law.go:30", after := #[{ on := 16, ground := Ground.data }, { on := 12, ground := Ground.guard }], guard := some (12, false) } : Oper)) (v := ?_) rfl (by kernel_rfl) (by kernel_rfl) (by kernel_rfl) (fun _ _ _ h => h) (Or.inl ⟨by rfl, ?_⟩) hS ?_
  rotate_left
  · (intro w hSw; (try dsimp only at hSw); go_simp; try with_reducible rfl)
  (try simp only [Act.put, List.setIfInBounds_toArray, List.set_cons_zero, List.set_cons_succ])
  refine wpAnyH_take (i := 18) (oi := ({ dst := some 27, op := Op.binOp BinOp.neq 3 (Operand.tmp 23) (Operand.tmp 26) 3, type := 4, pos := "law.go:30", after := #[{ on := 14, ground := Ground.data }, { on := 17, ground := Ground.data }, { on := 12, ground := Ground.guard }], guard := some (12, false) } : Oper)) (v := ?_) rfl (by kernel_rfl) (by kernel_rfl) (by kernel_rfl) (fun _ _ _ h => h) (Or.inl ⟨by rfl, ?_⟩) hS ?_
  rotate_left
  · (intro w hSw; (try dsimp only at hSw); go_simp; try with_reducible rfl)
  (try simp only [Act.put, List.setIfInBounds_toArray, List.set_cons_zero, List.set_cons_succ])
  refine wpAnyH_take (i := 19) (oi := ({ dst := some 28, op := Op.pick (Operand.tmp 21) (Operand.const (Value.bool true)) (Operand.tmp 27), type := 4, pos := "law.go:30", after := #[{ on := 12, ground := Ground.data }, { on := 18, ground := Ground.data }], guard := none } : Oper)) (v := ?_) rfl (by kernel_rfl) (by kernel_rfl) (by kernel_rfl) (fun _ _ _ h => h) (Or.inl ⟨by rfl, ?_⟩) hS ?_
  rotate_left
  · (intro w hSw; (try dsimp only at hSw); go_simp; try with_reducible rfl)
  (try simp only [Act.put, List.setIfInBounds_toArray, List.set_cons_zero, List.set_cons_succ])
  refine wpAnyH_done (by kernel_rfl) ?_ _
  have HF4 := Lib.hid (HF2.out.below HB4.out)
  clear hS
  go_wp2
  go_loopw [6] (fun iv wr => ∃ i : Nat, iv = .int .i64 i ∧ i ≤ n ∧ Hid (SaS DK w p F #[.slice a n c, .int .i64 d.cap, .int .i64 d.ops, .bool d.down, .bool d.told, .int .i64 d.after] d wr) ∧ Hid (LA wr (.slice a2 n c2) d.files)) (fun iv _ => n - (intOf iv).toNat)
  case atStart => exact ⟨0, rfl, by omega, HS4, HF4⟩
  case round =>
    obtain ⟨i, rfl, hi, HS, HF⟩ := hrel
    by_cases hlt : (i : Int) < (n : Int)
    · obtain ⟨f, hf⟩ : ∃ f, d.L[i]? = some f := row_some (by rw [HN.out]; omega)
      obtain ⟨b, off, x1, y1, x2, y2, x3, y3, rfl, k0, k1, k2, k3, f1, f2, f3⟩ := HS.out.rd.fls.form4 i f hf
      obtain ⟨b2, off2, u1, v1, rfl, m0, m1, m2⟩ := HF.out.at_ i (f.name, f.n, f.las) (by simp [AD.files, hf])
      have HF1 := Lib.hid f1
      have HF2' := Lib.hid m2
      simp only at HF2' m0 m1
      have HCX := Lib.hid (And.intro k0 (And.intro k1 (And.intro m0 m1)))
      have HSD := Lib.hid (HS.out.next hH.out (Below.refl _ _).drew)
      have HBD : Hid (Below wr.heap.size wr wr.drew) := Lib.hid (Below.refl _ _).drew
      clear f1 f2 f3 m2 hf k0 k1 k2 k3 m0 m1
      go_wp2_with fail
      refine wp_region_held_drew (S := (fun W' => Below wr.heap.size wr W')) (by kernel_rfl) HBD.out (fun hS => ?_)
      refine wpAnyH_take (i := 0) (oi := ({ dst := some 35, op := Op.move (Operand.tmp 5), type := 77, pos := "law.go:34", after := #[], guard := none } : Oper)) (v := ?_) rfl (by kernel_rfl) (by kernel_rfl) (by kernel_rfl) (fun _ _ _ h => h) (Or.inl ⟨by rfl, ?_⟩) hS ?_
      rotate_left
      · (intro w hSw; (try dsimp only at hSw); go_simp; try with_reducible rfl)
      (try simp only [Act.put, List.setIfInBounds_toArray, List.set_cons_zero, List.set_cons_succ])
      refine wpAnyH_take (i := 1) (oi := ({ dst := some 36, op := Op.move (Operand.tmp 6), type := 3, pos := "law.go:34", after := #[], guard := none } : Oper)) (v := ?_) rfl (by kernel_rfl) (by kernel_rfl) (by kernel_rfl) (fun _ _ _ h => h) (Or.inl ⟨by rfl, ?_⟩) hS ?_
      rotate_left
      · (intro w hSw; (try dsimp only at hSw); go_simp; try with_reducible rfl)
      (try simp only [Act.put, List.setIfInBounds_toArray, List.set_cons_zero, List.set_cons_succ])
      refine wpAnyH_take (i := 2) (oi := ({ dst := some 37, op := Op.indexAddr 77 (Operand.tmp 35) (Operand.tmp 36), type := 0, pos := "law.go:34", after := #[{ on := 0, ground := Ground.data }, { on := 1, ground := Ground.data }], guard := none } : Oper)) (v := ?_) rfl (by kernel_rfl) (by kernel_rfl) (by kernel_rfl) (fun _ _ _ h => h) (Or.inl ⟨by rfl, ?_⟩) hS ?_
      rotate_left
      · (intro w hSw; (try dsimp only at hSw); go_simp; try with_reducible rfl)
      (try simp only [Act.put, List.setIfInBounds_toArray, List.set_cons_zero, List.set_cons_succ])
      refine wpAnyH_take (i := 3) (oi := ({ dst := some 38, op := Op.fieldAddr 80 (Operand.tmp 37) 0, type := 0, pos := "law.go:34", after := #[{ on := 2, ground := Ground.data }], guard := none } : Oper)) (v := ?_) rfl (by kernel_rfl) (by kernel_rfl) (by kernel_rfl) (fun _ _ _ h => h) (Or.inl ⟨by rfl, ?_⟩) hS ?_
      rotate_left
      · (intro w hSw; (try dsimp only at hSw); go_simp; try with_reducible rfl)
      (try simp only [Act.put, List.setIfInBounds_toArray, List.set_cons_zero, List.set_cons_succ])
      refine wpAnyH_take (i := 4) (oi := ({ dst := some 39, op := Op.load 9 (Operand.tmp 38), type := 9, pos := "law.go:34", after := #[{ on := 3, ground := Ground.data }], guard := none } : Oper)) (v := ?_) rfl (by kernel_rfl) (by kernel_rfl) (by kernel_rfl) (fun _ _ _ h => h) (Or.inl ⟨by rfl, ?_⟩) hS ?_
      rotate_left
      · (intro w hSw; (try dsimp only at hSw); obtain ⟨y0, y1, y2, y3⟩ := HCX.out; have y0' := cell_keep hSw y0; have y1' := cell_keep hSw y1; have y2' := cell_keep hSw y2; have y3' := cell_keep hSw y3; obtain ⟨z0, z1, z2, z3, z4, z5⟩ := (HS.out.d0.next hSw).six; go_simp; try with_reducible rfl)
      (try simp only [Act.put, List.setIfInBounds_toArray, List.set_cons_zero, List.set_cons_succ])
      refine wpAnyH_take (i := 5) (oi := ({ dst := some 40, op := Op.fieldAddr 28 (Operand.tmp 3) 0, type := 0, pos := "law.go:34", after := #[], guard := none } : Oper)) (v := ?_) rfl (by kernel_rfl) (by kernel_rfl) (by kernel_rfl) (fun _ _ _ h => h) (Or.inl ⟨by rfl, ?_⟩) hS ?_
      rotate_left
      · (intro w hSw; (try dsimp only at hSw); go_simp; try with_reducible rfl)
      (try simp only [Act.put, List.setIfInBounds_toArray, List.set_cons_zero, List.set_cons_succ])
      refine wpAnyH_take (i := 6) (oi := ({ dst := some 41, op := Op.load 26 (Operand.tmp 40), type := 26, pos := "law.go:34", after := #[{ on := 5, ground := Ground.data }], guard := none } : Oper)) (v := ?_) rfl (by kernel_rfl) (by kernel_rfl) (by kernel_rfl) (fun _ _ _ h => h) (Or.inl ⟨by rfl, ?_⟩) hS ?_
      rotate_left
      · (intro w hSw; (try dsimp only at hSw); obtain ⟨y0, y1, y2, y3⟩ := HCX.out; have y0' := cell_keep hSw y0; have y1' := cell_keep hSw y1; have y2' := cell_keep hSw y2; have y3' := cell_keep hSw y3; obtain ⟨z0, z1, z2, z3, z4, z5⟩ := (HS.out.d0.next hSw).six; go_simp; try with_reducible rfl)
      (try simp only [Act.put, List.setIfInBounds_toArray, List.set_cons_zero, List.set_cons_succ])
      refine wpAnyH_take (i := 7) (oi := ({ dst := some 42, op := Op.move (Operand.tmp 6), type := 3, pos := "law.go:34", after := #[], guard := none } : Oper)) (v := ?_) rfl (by kernel_rfl) (by kernel_rfl) (by kernel_rfl) (fun _ _ _ h => h) (Or.inl ⟨by rfl, ?_⟩) hS ?_
      rotate_left
      · (intro w hSw; (try dsimp only at hSw); go_simp; try with_reducible rfl)
      (try simp only [Act.put, List.setIfInBounds_toArray, List.set_cons_zero, List.set_cons_succ])
      refine wpAnyH_take (i := 8) (oi := ({ dst := some 43, op := Op.indexAddr 26 (Operand.tmp 41) (Operand.tmp 42), type := 0, pos := "law.go:34", after := #[{ on := 6, ground := Ground.data }, { on := 7, ground := Ground.data }], guard := none } : Oper)) (v := ?_) rfl (by kernel_rfl) (by kernel_rfl) (by kernel_rfl) (fun _ _ _ h => h) (Or.inl ⟨by rfl, ?_⟩) hS ?_
      rotate_left
      · (intro w hSw; (try dsimp only at hSw); go_simp; try with_reducible rfl)
      (try simp only [Act.put, List.setIfInBounds_toArray, List.set_cons_zero, List.set_cons_succ])
      refine wpAnyH_take (i := 9) (oi := ({ dst := some 44, op := Op.fieldAddr 75 (Operand.tmp 43) 0, type := 0, pos := "law.go:34", after := #[{ on := 8, ground := Ground.data }], guard := none } : Oper)) (v := ?_) rfl (by kernel_rfl) (by kernel_rfl) (by kernel_rfl) (fun _ _ _ h => h) (Or.inl ⟨by rfl, ?_⟩) hS ?_
      rotate_left
      · (intro w hSw; (try dsimp only at hSw); go_simp; try with_reducible rfl)
      (try simp only [Act.put, List.setIfInBounds_toArray, List.set_cons_zero, List.set_cons_succ])
      refine wpAnyH_take (i := 10) (oi := ({ dst := some 45, op := Op.load 9 (Operand.tmp 44), type := 9, pos := "law.go:34", after := #[{ on := 9, ground := Ground.data }], guard := none } : Oper)) (v := ?_) rfl (by kernel_rfl) (by kernel_rfl) (by kernel_rfl) (fun _ _ _ h => h) (Or.inl ⟨by rfl, ?_⟩) hS ?_
      rotate_left
      · (intro w hSw; (try dsimp only at hSw); obtain ⟨y0, y1, y2, y3⟩ := HCX.out; have y0' := cell_keep hSw y0; have y1' := cell_keep hSw y1; have y2' := cell_keep hSw y2; have y3' := cell_keep hSw y3; obtain ⟨z0, z1, z2, z3, z4, z5⟩ := (HS.out.d0.next hSw).six; go_simp; try with_reducible rfl)
      (try simp only [Act.put, List.setIfInBounds_toArray, List.set_cons_zero, List.set_cons_succ])
      refine wpAnyH_take (i := 11) (oi := ({ dst := some 46, op := Op.binOp BinOp.neq 9 (Operand.tmp 39) (Operand.tmp 45) 9, type := 4, pos := "law.go:34", after := #[{ on := 4, ground := Ground.data }, { on := 10, ground := Ground.data }], guard := none } : Oper)) (v := ?_) rfl (by kernel_rfl) (by kernel_rfl) (by kernel_rfl) (fun _ _ _ h => h) (Or.inl ⟨by rfl, ?_⟩) hS ?_
      rotate_left
      · (intro w hSw; (try dsimp only at hSw); go_simp; try with_reducible rfl)
      (try simp only [Act.put, List.setIfInBounds_toArray, List.set_cons_zero, List.set_cons_succ])
      refine wpAnyH_take (i := 12) (oi := ({ dst := some 47, op := Op.move (Operand.tmp 46), type := 4, pos := "law.go:34", after := #[{ on := 11, ground := Ground.data }], guard := none } : Oper)) (v := ?_) rfl (by kernel_rfl) (by kernel_rfl) (by kernel_rfl) (fun _ _ _ h => h) (Or.inl ⟨by rfl, ?_⟩) hS ?_
      rotate_left
      · (intro w hSw; (try dsimp only at hSw); go_simp; try with_reducible rfl)
      (try simp only [Act.put, List.setIfInBounds_toArray, List.set_cons_zero, List.set_cons_succ])
      refine wpAnyH_take (i := 13) (oi := ({ dst := some 48, op := Op.move (Operand.tmp 5), type := 77, pos := "law.go:34", after := #[{ on := 12, ground := Ground.guard }], guard := some (12, false) } : Oper)) (v := ?_) rfl (by kernel_rfl) (by kernel_rfl) (by kernel_rfl) (fun _ _ _ h => h) (Or.inl ⟨by rfl, ?_⟩) hS ?_
      rotate_left
      · (intro w hSw; (try dsimp only at hSw); go_simp; try with_reducible rfl)
      (try simp only [Act.put, List.setIfInBounds_toArray, List.set_cons_zero, List.set_cons_succ])
      refine wpAnyH_take (i := 14) (oi := ({ dst := some 49, op := Op.move (Operand.tmp 6), type := 3, pos := "law.go:34", after := #[{ on := 12, ground := Ground.guard }], guard := some (12, false) } : Oper)) (v := ?_) rfl (by kernel_rfl) (by kernel_rfl) (by kernel_rfl) (fun _ _ _ h => h) (Or.inl ⟨by rfl, ?_⟩) hS ?_
      rotate_left
      · (intro w hSw; (try dsimp only at hSw); go_simp; try with_reducible rfl)
      (try simp only [Act.put, List.setIfInBounds_toArray, List.set_cons_zero, List.set_cons_succ])
      refine wpAnyH_take (i := 15) (oi := ({ dst := some 50, op := Op.indexAddr 77 (Operand.tmp 48) (Operand.tmp 49), type := 0, pos := "law.go:34", after := #[{ on := 13, ground := Ground.data }, { on := 14, ground := Ground.data }, { on := 12, ground := Ground.guard }], guard := some (12, false) } : Oper)) (v := ?_) rfl (by kernel_rfl) (by kernel_rfl) (by kernel_rfl) (fun _ _ _ h => h) (Or.inl ⟨by rfl, ?_⟩) hS ?_
      rotate_left
      · (intro w hSw; (try dsimp only at hSw); go_simp; try with_reducible rfl)
      (try simp only [Act.put, List.setIfInBounds_toArray, List.set_cons_zero, List.set_cons_succ])
      refine wpAnyH_take (i := 16) (oi := ({ dst := some 51, op := Op.fieldAddr 80 (Operand.tmp 50) 1, type := 0, pos := "law.go:34", after := #[{ on := 15, ground := Ground.data }, { on := 12, ground := Ground.guard }], guard := some (12, false) } : Oper)) (v := ?_) rfl (by kernel_rfl) (by kernel_rfl) (by kernel_rfl) (fun _ _ _ h => h) (Or.inl ⟨by rfl, ?_⟩) hS ?_
      rotate_left
      · (intro w hSw; (try dsimp only at hSw); go_simp; try with_reducible rfl)
      (try simp only [Act.put, List.setIfInBounds_toArray, List.set_cons_zero, List.set_cons_succ])
      refine wpAnyH_take (i := 17) (oi := ({ dst := some 52, op := Op.load 65 (Operand.tmp 51), type := 65, pos := "law.go:34", after := #[{ on := 16, ground := Ground.data }, { on := 12, ground := Ground.guard }], guard := some (12, false) } : Oper)) (v := ?_) rfl (by kernel_rfl) (by kernel_rfl) (by kernel_rfl) (fun _ _ _ h => h) (Or.inl ⟨by rfl, ?_⟩) hS ?_
      rotate_left
      · (intro w hSw; (try dsimp only at hSw); obtain ⟨y0, y1, y2, y3⟩ := HCX.out; have y0' := cell_keep hSw y0; have y1' := cell_keep hSw y1; have y2' := cell_keep hSw y2; have y3' := cell_keep hSw y3; obtain ⟨z0, z1, z2, z3, z4, z5⟩ := (HS.out.d0.next hSw).six; go_simp; try with_reducible rfl)
      (try simp only [Act.put, List.setIfInBounds_toArray, List.set_cons_zero, List.set_cons_succ])
      refine wpAnyH_take (i := 18) (oi := ({ dst := some 53, op := Op.fieldAddr 28 (Operand.tmp 3) 0, type := 0, pos := "law.go:34", after := #[{ on := 12, ground := Ground.guard }], guard := some (12, false) } : Oper)) (v := ?_) rfl (by kernel_rfl) (by kernel_rfl) (by kernel_rfl) (fun _ _ _ h => h) (Or.inl ⟨by rfl, ?_⟩) hS ?_
      rotate_left
      · (intro w hSw; (try dsimp only at hSw); go_simp; try with_reducible rfl)
      (try simp only [Act.put, List.setIfInBounds_toArray, List.set_cons_zero, List.set_cons_succ])
      refine wpAnyH_take (i := 19) (oi := ({ dst := some 54, op := Op.load 26 (Operand.tmp 53), type := 26, pos := "law.go:34", after := #[{ on := 18, ground := Ground.data }, { on := 12, ground := Ground.guard }], guard := some (12, false) } : Oper)) (v := ?_) rfl (by kernel_rfl) (by kernel_rfl) (by kernel_rfl) (fun _ _ _ h => h) (Or.inl ⟨by rfl, ?_⟩) hS ?_
      rotate_left
      · (intro w hSw; (try dsimp only at hSw); obtain ⟨y0, y1, y2, y3⟩ := HCX.out; have y0' := cell_keep hSw y0; have y1' := cell_keep hSw y1; have y2' := cell_keep hSw y2; have y3' := cell_keep hSw y3; obtain ⟨z0, z1, z2, z3, z4, z5⟩ := (HS.out.d0.next hSw).six; go_simp; try with_reducible rfl)
      (try simp only [Act.put, List.setIfInBounds_toArray, List.set_cons_zero, List.set_cons_succ])
      refine wpAnyH_take (i := 20) (oi := ({ dst := some 55, op := Op.move (Operand.tmp 6), type := 3, pos := "law.go:34", after := #[{ on := 12, ground := Ground.guard }], guard := some (12, false) } : Oper)) (v := ?_) rfl (by kernel_rfl) (by kernel_rfl) (by kernel_rfl) (fun _ _ _ h => h) (Or.inl ⟨by rfl, ?_⟩) hS ?_
      rotate_left
      · (intro w hSw; (try dsimp only at hSw); go_simp; try with_reducible rfl)
      (try simp only [Act.put, List.setIfInBounds_toArray, List.set_cons_zero, List.set_cons_succ])
      refine wpAnyH_take (i := 21) (oi := ({ dst := some 56, op := Op.indexAddr 26 (Operand.tmp 54) (Operand.tmp 55), type := 0, pos := "law.go:34", after := #[{ on := 19, ground := Ground.data }, { on := 20, ground := Ground.data }, { on := 12, ground := Ground.guard }], guard := some (12, false) } : Oper)) (v := ?_) rfl (by kernel_rfl) (by kernel_rfl) (by kernel_rfl) (fun _ _ _ h => h) (Or.inl ⟨by rfl, ?_⟩) hS ?_
      rotate_left
      · (intro w hSw; (try dsimp only at hSw); go_simp; try with_reducible rfl)
      (try simp only [Act.put, List.setIfInBounds_toArray, List.set_cons_zero, List.set_cons_succ])
      refine wpAnyH_take (i := 22) (oi := ({ dst := some 57, op := Op.fieldAddr 75 (Operand.tmp 56) 1, type := 0, pos := "law.go:34", after := #[{ on := 21, ground := Ground.data }, { on := 12, ground := Ground.guard }], guard := some (12, false) } : Oper)) (v := ?_) rfl (by kernel_rfl) (by kernel_rfl) (by kernel_rfl) (fun _ _ _ h => h) (Or.inl ⟨by rfl, ?_⟩) hS ?_
      rotate_left
      · (intro w hSw; (try dsimp only at hSw); go_simp; try with_reducible rfl)
      (try simp only [Act.put, List.setIfInBounds_toArray, List.set_cons_zero, List.set_cons_succ])
      refine wpAnyH_take (i := 23) (oi := ({ dst := some 58, op := Op.load 65 (Operand.tmp 57), type := 65, pos := "law.go:34", after := #[{ on := 22, ground := Ground.data }, { on := 12, ground := Ground.guard }], guard := some (12, false) } : Oper)) (v := ?_) rfl (by kernel_rfl) (by kernel_rfl) (by kernel_rfl) (fun _ _ _ h => h) (Or.inl ⟨by rfl, ?_⟩) hS ?_
      rotate_left
      · (intro w hSw; (try dsimp only at hSw); obtain ⟨y0, y1, y2, y3⟩ := HCX.out; have y0' := cell_keep hSw y0; have y1' := cell_keep hSw y1; have y2' := cell_keep hSw y2; have y3' := cell_keep hSw y3; obtain ⟨z0, z1, z2, z3, z4, z5⟩ := (HS.out.d0.next hSw).six; go_simp; try with_reducible rfl)
      (try simp only [Act.put, List.setIfInBounds_toArray, List.set_cons_zero, List.set_cons_succ])
      refine rg_one 24 ({ dst := some 59, op := Op.call { callee := Callee.value (Operand.func 47), args := #[Operand.tmp 52, Operand.tmp 58], argTypes := #[65, 65] }, type := 4, pos := "law.go:34", after := #[{ on := 17, ground := Ground.data }, { on := 23, ground := Ground.data }, { on := 12, ground := Ground.chain }, { on := 12, ground := Ground.guard }], guard := some (12, false) } : Oper) (by kernel_rfl) rfl (fun K hK => ?_)
      go_simp
      (go_at_call 47; (with_reducible refine (same_true _ _ f.n f.las _ (HF2'.out.keep HBD.out) (HF1.out.keep HBD.out)).mono ?_); rintro e w3 ⟨rfl, hb⟩; have HS3 := Lib.hid (HSD.out.next hH.out hb))
      refine hK.out _ _ ?_ (fun hS1 => ?_)
      · (first | exact hS | exact chain hS hb)
      clear hK K hS; have hS := hS1; clear hS1
      (try simp only [Act.put, List.setIfInBounds_toArray, List.set_cons_zero, List.set_cons_succ])
      refine wpAnyH_take (i := 25) (oi := ({ dst := some 60, op := Op.unOp UnOp.not 4 (Operand.tmp 59), type := 4, pos := "law.go:34", after := #[{ on := 24, ground := Ground.data }, { on := 12, ground := Ground.guard }], guard := some (12, false) } : Oper)) (v := ?_) rfl (by kernel_rfl) (by kernel_rfl) (by kernel_rfl) (fun _ _ _ h => h) (Or.inl ⟨by rfl, ?_⟩) hS ?_
      rotate_left
      · (intro w hSw; (try dsimp only at hSw); go_simp; try with_reducible rfl)
      (try simp only [Act.put, List.setIfInBounds_toArray, List.set_cons_zero, List.set_cons_succ])
      refine wpAnyH_take (i := 26) (oi := ({ dst := some 61, op := Op.pick (Operand.tmp 47) (Operand.const (Value.bool true)) (Operand.tmp 60), type := 4, pos := "law.go:34", after := #[{ on := 12, ground := Ground.data }, { on := 25, ground := Ground.data }], guard := none } : Oper)) (v := ?_) rfl (by kernel_rfl) (by kernel_rfl) (by kernel_rfl) (fun _ _ _ h => h) (Or.inl ⟨by rfl, ?_⟩) hS ?_
      rotate_left
      · (intro w hSw; (try dsimp only at hSw); go_simp; try with_reducible rfl)
      (try simp only [Act.put, List.setIfInBounds_toArray, List.set_cons_zero, List.set_cons_succ])
      refine wpAnyH_done (by kernel_rfl) ?_ _
      have HBR := Lib.hid hS
      clear hS
      go_wp2_with fail
      exact ⟨⟨i + 1, by go_num, by omega, HS3, Lib.hid (HF.out.below HBR.out)⟩, by simp [intOf]; omega⟩
    · have hq : i = n := by omega
      subst hq
      have HSD := Lib.hid (HS.out.next hH.out (Below.refl _ _).drew)
      go_wp2_with fail
      refine wp_region_held_drew (S := (fun W' => DB W' w.heap.size #[.slice a i c, .int .i64 d.cap, .int .i64 d.ops, .bool d.down, .bool d.told, .int .i64 d.after])) (by kernel_rfl) HSD.out.d0 (fun hS => ?_)
      refine wpAnyH_take (i := 0) (oi := ({ dst := some 62, op := Op.move (Operand.tmp 0), type := 24, pos := "law.go:38", after := #[], guard := none } : Oper)) (v := ?_) rfl (by kernel_rfl) (by kernel_rfl) (by kernel_rfl) (fun _ _ _ h => h) (Or.inl ⟨by rfl, ?_⟩) hS ?_
      rotate_left
      · (intro w hSw; (try dsimp only at hSw); go_simp; try with_reducible rfl)
      (try simp only [Act.put, List.setIfInBounds_toArray, List.set_cons_zero, List.set_cons_succ])
      refine wpAnyH_take (i := 2) (oi := ({ dst := some 64, op := Op.load 28 (Operand.tmp 3), type := 28, pos := "law.go:38", after := #[], guard := none } : Oper)) (v := ?_) rfl (by kernel_rfl) (by kernel_rfl) (by kernel_rfl) (fun _ _ _ h => h) (Or.inl ⟨by rfl, ?_⟩) hS ?_
      rotate_left
      · (intro w hSw; (try dsimp only at hSw); refine exec_load_db (.tmp 3) ?_ ?_ hSw <;> rfl)
      (try simp only [Act.put, List.setIfInBounds_toArray, List.set_cons_zero, List.set_cons_succ])
      refine rg_one 1 ({ dst := some 63, op := Op.call { callee := Callee.value (Operand.func 21), args := #[Operand.tmp 62], argTypes := #[24] }, type := 3, pos := "law.go:38", after := #[{ on := 0, ground := Ground.data }], guard := none } : Oper) (by kernel_rfl) rfl (fun K hK => ?_)
      go_simp
      (go_at_call 21; (with_reducible refine (pcount_any hH.out _ _ _ d HSD.out.dk HG.out (HP.out.on HSD.out.below)).mono ?_); rintro e w3 ⟨rfl, hb⟩; have HS3 := Lib.hid (HSD.out.next hH.out hb))
      refine hK.out _ _ ?_ (fun hS1 => ?_)
      · (first | exact hS | exact hS.next hb)
      clear hK K hS; have hS := hS1; clear hS1
      (try simp only [Act.put, List.setIfInBounds_toArray, List.set_cons_zero, List.set_cons_succ])
      refine rg_one 3 ({ dst := some 65, op := Op.call { callee := Callee.value (Operand.func 48), args := #[Operand.tmp 64], argTypes := #[28] }, type := 3, pos := "law.go:38", after := #[{ on := 2, ground := Ground.data }, { on := 1, ground := Ground.chain }], guard := none } : Oper) (by kernel_rfl) rfl (fun K hK => ?_)
      go_simp
      (go_at_call 48; (with_reducible refine (rcount_any _ d _ HS3.out.rd).mono ?_); rintro e w4 ⟨rfl, hb⟩; have HS4 := Lib.hid (HS3.out.next hH.out hb))
      refine hK.out _ _ ?_ (fun hS1 => ?_)
      · (first | exact hS | exact hS.next hb)
      clear hK K hS; have hS := hS1; clear hS1
      (try simp only [Act.put, List.setIfInBounds_toArray, List.set_cons_zero, List.set_cons_succ])
      refine wpAnyH_take (i := 4) (oi := ({ dst := some 66, op := Op.binOp BinOp.eql 3 (Operand.tmp 63) (Operand.tmp 65) 3, type := 4, pos := "law.go:38", after := #[{ on := 1, ground := Ground.data }, { on := 3, ground := Ground.data }], guard := none } : Oper)) (v := ?_) rfl (by kernel_rfl) (by kernel_rfl) (by kernel_rfl) (fun _ _ _ h => h) (Or.inl ⟨by rfl, ?_⟩) hS ?_
      rotate_left
      · (intro w hSw; (try dsimp only at hSw); go_simp; try with_reducible rfl)
      (try simp only [Act.put, List.setIfInBounds_toArray, List.set_cons_zero, List.set_cons_succ])
      refine wpAnyH_take (i := 5) (oi := ({ dst := some 4, op := Op.assign (Operand.tmp 66), type := 4, pos := "law.go:38", after := #[{ on := 4, ground := Ground.data }, { on := 3, ground := Ground.chain }, { on := 0, ground := Ground.phase }, { on := 1, ground := Ground.phase }, { on := 2, ground := Ground.phase }, { on := 3, ground := Ground.phase }, { on := 4, ground := Ground.phase }], guard := none } : Oper)) (v := ?_) rfl (by kernel_rfl) (by kernel_rfl) (by kernel_rfl) (fun _ _ _ h => h) (Or.inl ⟨by rfl, ?_⟩) hS ?_
      rotate_left
      · (intro w hSw; (try dsimp only at hSw); go_simp; try with_reducible rfl)
      (try simp only [Act.put, List.setIfInBounds_toArray, List.set_cons_zero, List.set_cons_succ])
      refine wpAnyH_done (by kernel_rfl) ?_ _
      go_wp2_with fail
      go_ret
      exact ⟨rfl, HS4.out.below⟩
end Go.Proofs.YtoempaagpgoilaaDoor
/-
  LAYER 21 (pool): where the law stands that plays calls on both disks' pools; its own awake, over DiskSays. The library's table lies as the form says.
-/
namespace Go.Proofs.YtoempaagpgoilaaDoor
open Go.RowKit
variable {DK : World → Addr → (Nat → Bool) → AD → Prop}
/-- W: where the law began; g: the box; cs: what lies in it; dp: the program's disk, dr: the document's -/
structure PT (DK : World → Addr → (Nat → Bool) → AD → Prop) (W : World) (p : Addr) (g : Nat) (dp dr : AD) (cs : Array Value) (F M : Nat → Bool) (w : World) : Prop where
  dk : DK w p F dp
  rd : RD (mask M w) (.agg cs) dr
  sub : ∀ k, F k = true → M k = true
  foot : Foot M w.heap.size
  mg : M g = true
  fg : F g = false
  old : W.heap.size ≤ g
  db : DB w g cs
  ex : Ext noF W w F
  exm : Ext noF W w M
theorem PS.pt {W w : World} {p : Addr} {g : Nat} {d : AD} {cs : Array Value} {F M : Nat → Bool} (h : PS DK W p g d cs cs F M w) : PT DK W p g d d cs F M w :=
  ⟨h.dk, h.rd, h.sub, h.foot, h.mg, h.fg, h.old, h.db, h.ex, h.exm⟩
theorem PT.glt {W w : World} {p : Addr} {g : Nat} {dp dr : AD} {cs : Array Value} {F M : Nat → Bool} (h : PT DK W p g dp dr cs F M w) : g < w.heap.size := (Array.getElem?_eq_some_iff.1 h.db.1).1
theorem PT.next (H : DiskSays DK) {W w w' : World} {p : Addr} {g : Nat} {dp dr : AD} {cs : Array Value} {F M : Nat → Bool} (h : PT DK W p g dp dr cs F M w) (hb : Below w.heap.size w w') : PT DK W p g dp dr cs F M w' :=
  ⟨H.below h.dk hb, h.rd.kin (kin_mask hb), h.sub, h.foot.mono hb.size, h.mg, h.fg, h.old, h.db.next hb, h.ex.trans (Ext.below hb), h.exm.trans (Ext.below hb)⟩
theorem PT.prog (H : DiskSays DK) {W w w' : World} {p : Addr} {g : Nat} {dp dp' dr : AD} {cs : Array Value} {F M F2 : Nat → Bool} (h : PT DK W p g dp dr cs F M w) (hk : DK w' p F2 dp') (hx : Ext F w w' F2) : PT DK W p g dp' dr cs F2 (orF M F2) w' :=
  ⟨hk, h.rd.kin (hx.sub h.sub).kin, fun k hf => orF_r hf, orF_foot (h.foot.mono hx.size) (H.foot hk), orF_l h.mg, by rw [hx.foot g h.glt]; exact h.fg, h.old, ⟨kept hx h.db.1 h.fg, h.db.2⟩, h.ex.trans hx, h.exm.trans (hx.sub h.sub)⟩
theorem PT.put (H : DiskSays DK) {W w : World} {p : Addr} {g : Nat} {dp dr dr' : AD} {cs cs' : Array Value} {F M : Nat → Bool} (h : PT DK W p g dp dr cs F M w) (hr : RD (mask M w) (.agg cs') dr') (h6 : cs'.size = 6) : PT DK W p g dp dr' cs' F M (w.setRow g cs') := by
  have hn : ∀ k, k ≠ g → (w.setRow g cs').heap[k]? = w.heap[k]? := fun k hk => setRow_other w g k cs' hk
  have hs : (w.setRow g cs').heap.size = w.heap.size := by simp
  exact ⟨H.keep h.dk (Nat.le_of_eq hs.symm) fun k hk => hn k (by rintro rfl; rw [h.fg] at hk; simp at hk), hr.kin ((Ext.refl M w).setRow _ h.mg _).kin, h.sub, by rw [hs]; exact h.foot, h.mg, h.fg, h.old, h.db.row h6, h.ex.newRow _ h.old _, h.exm.newRow _ h.old _⟩
theorem PT.kinw {W w : World} {p : Addr} {g : Nat} {dp dr : AD} {cs : Array Value} {F M : Nat → Bool} (h : PT DK W p g dp dr cs F M w) : Kin W w := by
  have := h.exm.kin; rw [mask_none] at this; exact this.trans (unmask M w)
/-- a call, as the law is handed it -/
structure PAct where
  kind : Int
  name : ByteArray
  n : Int
structure GPA (a : PAct) : Prop where
  k0 : 0 ≤ a.kind
  k1 : a.kind ≤ 18446744073709551615
  name : a.name.size ≤ 281474976710656
  n : I63 a.n
def PAct.cells (a : PAct) : List Value := [.int .u64 a.kind, .string a.name, .int .i64 a.n]
/-- a slice of calls -/
def PAS (w : World) (v : Value) (l : List PAct) : Prop := CS 3 w v l.length (l.map PAct.cells).flatten
theorem PAS.form {w : World} {v : Value} {l : List PAct} (h : PAS w v l) : ∃ a cap, v = .slice a l.length cap ∧ l.length ≤ cap ∧ cap ≤ 9223372036854775807 ∧ (a = none → cap = 0) := CS.form h
theorem PAS.at_ {w : World} {a : Option Addr} {n cap : Nat} {l : List PAct} (h : PAS w (.slice a n cap) l) (i : Nat) (c : PAct) (hc : l[i]? = some c) :
    ∃ b off, a = some ⟨b, off, none⟩ ∧ w.cell? ⟨b, off + i * 3, none⟩ = some (.int .u64 c.kind) ∧ w.cell? ⟨b, off + i * 3 + 1, none⟩ = some (.string c.name) ∧ w.cell? ⟨b, off + i * 3 + 2, none⟩ = some (.int .i64 c.n) := by
  obtain ⟨hi, _⟩ := List.getElem?_eq_some_iff.1 hc
  have hn : n = l.length := by obtain ⟨_, _, hv, _⟩ := h; simp at hv; exact hv.2.1
  subst hn
  obtain ⟨b, off, rfl, hcc⟩ := CS.at_ h i hi
  have hl3 : ∀ e ∈ l.map PAct.cells, e.length = 3 := by
    intro e he
    obtain ⟨x, _, rfl⟩ := List.mem_map.1 he
    rfl
  have hg := fun j hj => (hcc j hj).trans (flat_get 3 (l.map PAct.cells) i j hl3 hj c.cells (by rw [List.getElem?_map, hc]; rfl))
  exact ⟨b, off, rfl, by simpa [PAct.cells] using hg 0 (by omega), by simpa [PAct.cells] using hg 1 (by omega), by simpa [PAct.cells] using hg 2 (by omega)⟩
def pw1 : AD := (AD.newD 40).takeR.1
theorem pw_facts : (AD.newD 40).takeR.2.1 = fr1 ∧ (AD.newD 40).takeR.2.2 = 0 ∧ szI pw1 fr1 = 17 ∧ countI pw1 = 1 := by
  decide +kernel
set_option maxRecDepth 8000 in
theorem pawake_any (H : DiskSays DK) (w : World) (hp : Pow w) :
    Calls Tryd.prog 5 #[] w fun e w' => e = .returned (.bool true) ∧ Below w.heap.size w w' := by
  obtain ⟨e1, e2, e3, e4⟩ := pw_facts
  have hH := Lib.hid H
  have HP := Lib.hid hp
  have g0 := Good.new 40 (by unfold I63; omega)
  have g1 : Good pw1 := g0.take
  have H1 : Hid (∀ w, Calls Tryd.prog 6 #[.int .i64 40] w fun e w' => ∃ p F, e = .returned (ptr p) ∧ DK w' p F (AD.newD 40) ∧ Ext noF w w' F) := Lib.hid fun w => H.new 40 w (by unfold I63; omega)
  have H2 : Hid (∀ w1 p F, DK w1 p F (AD.newD 40) → Ext noF w w1 F → Calls Tryd.prog 8 #[ptr p] w1 fun e w' => ∃ F', e = .returned (.tuple #[.string ⟨#[102, 114, 101, 101, 45, 49]⟩, .int .i64 0]) ∧ DK w' p F' pw1 ∧ Ext F w1 w' F') := Lib.hid fun w1 p F h hx => by
    have := ptake_any H w w1 p F _ h g0 hp hx; rwa [e1, e2] at this
  have H3 := psize_of H g1 (by decide) e3
  have H4 : Hid (∀ w p F, DK w p F pw1 → Pow w → Calls Tryd.prog 21 #[ptr p] w fun e w' => e = .returned (.int .i64 1) ∧ Below w.heap.size w w') := Lib.hid fun w p F h hp => by
    have := pcount_any H w p F pw1 h g1 hp; rwa [e4] at this
  clear g0 g1 e1 e2 e3 e4 hp
  go_enter Tryd.func5, Tryd.ntmps5
  go_wp2_with (first
    | (go_at_call 6; (with_reducible refine (H1.out _).mono ?_); rintro e w1 ⟨p, F1, rfl, k1, x1⟩; have K1 := Lib.hid k1; have X1 := Lib.hid x1; clear k1 x1)
    | (go_at_call 8; (with_reducible refine (H2.out _ _ _ K1.out X1.out).mono ?_); rintro e w2 ⟨F2, rfl, k2, x2⟩; have K2 := Lib.hid k2; have X2 := Lib.hid (X1.out.trans x2); clear k2 x2)
    | (go_at_call 22; (with_reducible refine (H3.out _ _ _ K2.out).mono ?_); rintro e w3 ⟨rfl, b3⟩; have K3 := Lib.hid (hH.out.below K2.out b3); have X3 := Lib.hid (X2.out.trans (Ext.below b3)); clear b3)
    | (go_at_call 21; (with_reducible refine (H4.out _ _ _ K3.out (HP.out.ext X3.out)).mono ?_); rintro e w4 ⟨rfl, b4⟩; have X4 := Lib.hid (X3.out.trans (Ext.below b4)); clear b4))
  go_ret
  exact ⟨rfl, X4.out.none⟩
end Go.Proofs.YtoempaagpgoilaaDoor
