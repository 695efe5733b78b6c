/-
  LAYER 8 (disk): where a law stands that plays calls on the program's disk and on the document's: the pointer, and a box for the document's disk, both made by the law. Nothing here speaks of the program's functions but DiskSays.
-/
import Derived.Test.YtpnialanmidekaaDiskDoSt
namespace Go.Proofs.Ytpnialanmidekaa
open Go.RowKit
variable {DK : World → Addr → (Nat → Bool) → AD → Prop}
theorem kin_row {w : World} {b : Nat} {cs : Array Value} {W : World} (h : Kin W w) (hb : W.heap.size ≤ b) : Kin W (w.setRow b cs) := by
  intro a v hx
  have h1 := h a v hx
  have hlt : a.block < W.heap.size := by
    unfold World.cell? at hx
    rcases Nat.lt_or_ge a.block W.heap.size with hl | hl
    · exact hl
    · simp [Array.getElem?_eq_none hl] at hx
  unfold World.cell? at h1 ⊢
  rw [setRow_other w b a.block cs (by omega)]; exact h1
/-- W: where the law began; g: the box; cb: what lies in it; cr: the document's disk, now -/
structure PS (DK : World → Addr → (Nat → Bool) → AD → Prop) (W : World) (p : Addr) (g : Nat) (d : AD) (cb cr : Array Value) (F M : Nat → Bool) (w : World) : Prop where
  dk : DK w p F d
  good : Good d
  rd : RD (mask M w) (.agg cr) d
  sub : ∀ k, F k = true → M k = true
  foot : Foot M w.heap.size
  mg : M g = true
  fg : F g = false
  old : W.heap.size ≤ g
  db : DB w g cb
  ex : Ext noF W w F
  exm : Ext noF W w M
theorem PS.glt {W w : World} {p : Addr} {g : Nat} {d : AD} {cb cr : Array Value} {F M : Nat → Bool} (h : PS DK W p g d cb cr F M w) : g < w.heap.size := (Array.getElem?_eq_some_iff.1 h.db.1).1
theorem PS.next (H : DiskSays DK) {W w w' : World} {p : Addr} {g : Nat} {d : AD} {cb cr : Array Value} {F M : Nat → Bool} (h : PS DK W p g d cb cr F M w) (hb : Below w.heap.size w w') : PS DK W p g d cb cr F M w' :=
  ⟨H.below h.dk hb, h.good, h.rd.kin (kin_mask hb), h.sub, h.foot.mono hb.size, h.mg, h.fg, h.old, h.db.next hb, h.ex.trans (Ext.below hb), h.exm.trans (Ext.below hb)⟩
theorem PS.do {W w w' : World} {p : Addr} {g : Nat} {d d' : AD} {cb cr cr' : Array Value} {F M F' M' : Nat → Bool} (h : PS DK W p g d cb cr F M w) (hd : Good d') (hE : DoE DK F M w p (.agg cr') d' F' M' w') : PS DK W p g d' cb cr' F' M' w' :=
  ⟨hE.dk, hd, hE.rd, hE.sub, hE.foot, by rw [hE.exm.foot g h.glt]; exact h.mg, by rw [hE.ex.foot g h.glt]; exact h.fg, h.old, ⟨kept hE.ex h.db.1 h.fg, h.db.2⟩, h.ex.trans hE.ex, h.exm.trans hE.exm⟩
/-- a block more, set aside -/
theorem PS.alloc (H : DiskSays DK) {W w : World} {p : Addr} {g : Nat} {d : AD} {cb cr : Array Value} {F M : Nat → Bool} (h : PS DK W p g d cb cr F M w) (o : Obj) :
    PS DK W p g d cb cr F (plusF M w.heap.size (w.heap.size + 1)) (w.alloc o) ∧ plusF M w.heap.size (w.heap.size + 1) w.heap.size = true ∧ F w.heap.size = false := by
  have hb := below_alloc w o
  have hs := alloc_size w o
  have hx := plusF_ext (F := M) hb
  rw [hs] at hx
  refine ⟨⟨H.below h.dk hb, h.good, h.rd.kin hx.kin, fun k hk => plusF_mono _ _ _ _ (h.sub k hk), by rw [hs]; exact plusF_foot h.foot (by omega), plusF_mono _ _ _ _ h.mg, h.fg, h.old, h.db.next hb, h.ex.trans (Ext.below hb), h.exm.trans hx⟩, plusF_in _ _ _ _ (Nat.le_refl _) (by omega), ?_⟩
  cases hf : F w.heap.size with
  | false => rfl
  | true => have := H.foot h.dk _ hf; omega
/-- what is stored into a block that is set aside -/
theorem PS.over (H : DiskSays DK) {W w : World} {p : Addr} {g : Nat} {d : AD} {cb cr : Array Value} {F M : Nat → Bool} (h : PS DK W p g d cb cr F M w) (q : Nat) (hq : q ≠ g) (hm : M q = true) (hf : F q = false) (ho : W.heap.size ≤ q) (cs : Array Value) :
    PS DK W p g d cb cr F M (w.setRow q cs) := by
  have hn : ∀ k, k ≠ q → (w.setRow q cs).heap[k]? = w.heap[k]? := fun k hk => setRow_other w q k cs hk
  have hs : (w.setRow q cs).heap.size = w.heap.size := by simp
  exact ⟨H.keep h.dk (Nat.le_of_eq hs.symm) fun k hk => hn k (by rintro rfl; rw [hf] at hk; simp at hk), h.good, h.rd.kin ((Ext.refl M w).setRow _ hm _).kin, h.sub, by rw [hs]; exact h.foot, h.mg, h.fg, h.old, h.db.over q (Ne.symm hq) cs, h.ex.newRow _ ho _, h.exm.newRow _ ho _⟩
/-- the document's disk is put into the box -/
theorem PS.store (H : DiskSays DK) {W w : World} {p : Addr} {g : Nat} {d : AD} {cb cr : Array Value} {F M : Nat → Bool} (h : PS DK W p g d cb cr F M w) (h6 : cr.size = 6) : PS DK W p g d cr cr F M (w.setRow g cr) := by
  have hn : ∀ k, k ≠ g → (w.setRow g cr).heap[k]? = w.heap[k]? := fun k hk => setRow_other w g k cr hk
  have hs : (w.setRow g cr).heap.size = w.heap.size := by simp
  exact ⟨H.keep h.dk (Nat.le_of_eq hs.symm) fun k hk => hn k (by rintro rfl; rw [h.fg] at hk; simp at hk), h.good, h.rd.kin ((Ext.refl M w).setRow _ h.mg _).kin, h.sub, by rw [hs]; exact h.foot, h.mg, h.fg, h.old, h.db.row h6, h.ex.newRow _ h.old _, h.exm.newRow _ h.old _⟩
/-- the box is made -/
theorem PS.start (H : DiskSays DK) {W w : World} {p : Addr} {d : AD} {cr : Array Value} {F : Nat → Bool} (hk : DK w p F d) (hg : Good d) (hr : RD (mask F w) (.agg cr) d) (hx : Ext noF W w F) :
    PS DK W p w.heap.size d dz cr F (plusF F w.heap.size (w.heap.size + 1)) (w.alloc (.cells dz 29)) := by
  have hb := below_alloc w (.cells dz 29)
  have hs := alloc_size w (.cells dz 29)
  have hx2 := plusF_ext (F := F) hb
  rw [hs] at hx2
  have hF := H.foot hk
  refine ⟨H.below hk hb, hg, hr.kin hx2.kin, fun k hk => plusF_mono _ _ _ _ hk, by rw [hs]; exact plusF_foot hF (by omega), plusF_in _ _ _ _ (Nat.le_refl _) (by omega), ?_, hx.size, ⟨heap_alloc_last w _, rfl⟩, hx.trans (Ext.below hb), hx.trans hx2⟩
  cases hf : F w.heap.size with
  | false => rfl
  | true => have := hF _ hf; omega
/-- what was there when the law began is there -/
theorem PS.kin {W w : World} {p : Addr} {g : Nat} {d : AD} {cb cr : Array Value} {F M : Nat → Bool} (h : PS DK W p g d cb cr F M w) : Kin W (mask M w) := by
  have := h.exm.kin; rwa [mask_none] at this
theorem PS.kinw {W w : World} {p : Addr} {g : Nat} {d : AD} {cb cr : Array Value} {F M : Nat → Bool} (h : PS DK W p g d cb cr F M w) : Kin W w := h.kin.trans (unmask M w)
theorem Ext.none {F' : Nat → Bool} {w w' : World} (h : Ext noF w w' F') : Below w.heap.size w w' := ⟨h.os, h.tape, h.output, h.size, fun k hk => h.block k hk rfl⟩
/-- a disk is loaded out of its block, guarded or not -/
theorem wpl_load_dbG {w : World} {ops : Array Oper} {rest : List Oper} {o : Oper} {a : Act} {Q : Exit → Act → World → Prop} (hw : Region.wanted o (yielded ops a.tmps) = true) (x : Operand) (ho : o.op = .load 29 x)
    (g : Nat) (hx : a.eval x = .pointer (some ⟨g, 0, none⟩)) (cs : Array Value) (hk : DB w g cs) (h : wpList Try.prog ops Q rest (a.put o.dst (.agg cs)) w) : wpList Try.prog ops Q (o :: rest) a w := by
  unfold wpList
  rw [if_pos hw]
  exact Or.inl (wp_load_row 29 x ho g hx _ cs (0, 0) _ hk.1 Try.underlying29 rfl hk.info h)
end Go.Proofs.Ytpnialanmidekaa
