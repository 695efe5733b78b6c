/-
  LAYER 8 (disk): where the law stands that plays calls on a clone, beside the disk that it was made of. Nothing here speaks of the program's functions but DiskSays.
-/
import Derived.Test.YtpnialanmidekaaDiskPlaySt
namespace Go.Proofs.Ytpnialanmidekaa
open Go.RowKit
variable {DK : World → Addr → (Nat → Bool) → AD → Prop}
/-- the disk that the clone was made of, and the box of the document's, beside a clone of blocks G and its box g2 -/
structure SD (DK : World → Addr → (Nat → Bool) → AD → Prop) (p : Addr) (g1 : Nat) (d : AD) (c1 : Array Value) (F : Nat → Bool) (g2 : Nat) (G M : Nat → Bool) (w : World) : Prop where
  dk : DK w p F d
  dis : ∀ k, F k = true → G k = false
  rd : RD (mask M w) (.agg c1) d
  db : DB w g1 c1
  gg : G g1 = false
  ne : g1 ≠ g2
  f2 : F g2 = false
theorem SD.next (H : DiskSays DK) {w w' : World} {p : Addr} {g1 g2 : Nat} {d : AD} {c1 : Array Value} {F G M : Nat → Bool} (h : SD DK p g1 d c1 F g2 G M w) (hb : Below w.heap.size w w') : SD DK p g1 d c1 F g2 G M w' :=
  ⟨H.below h.dk hb, h.dis, h.rd.kin (kin_mask hb), h.db.next hb, h.gg, h.ne, h.f2⟩
theorem SD.do (H : DiskSays DK) {w w' : World} {p : Addr} {g1 g2 : Nat} {d : AD} {c1 : Array Value} {F G M G' M' : Nat → Bool} (h : SD DK p g1 d c1 F g2 G M w) (hx : Ext G w w' G') (hm : Ext M w w' M') : SD DK p g1 d c1 F g2 G' M' w' :=
  ⟨H.apart h.dk hx h.dis, fun k hk => by rw [hx.foot k (H.foot h.dk k hk)]; exact h.dis k hk, h.rd.kin hm.kin, ⟨kept hx h.db.1 h.gg, h.db.2⟩, by rw [hx.foot g1 (Array.getElem?_eq_some_iff.1 h.db.1).1]; exact h.gg, h.ne, h.f2⟩
theorem SD.over (H : DiskSays DK) {w : World} {p : Addr} {g1 g2 : Nat} {d : AD} {c1 : Array Value} {F G M : Nat → Bool} (h : SD DK p g1 d c1 F g2 G M w) (q : Nat) (hq : q ≠ g1) (hf : F q = false) (hm : M q = true) (cs : Array Value) : SD DK p g1 d c1 F g2 G M (w.setRow q cs) :=
  ⟨H.keep h.dk (by simp) fun k hk => setRow_other w q k cs (by rintro rfl; rw [hf] at hk; simp at hk), h.dis, h.rd.kin ((Ext.refl M w).setRow _ hm _).kin, h.db.over q (Ne.symm hq) cs, h.gg, h.ne, h.f2⟩
structure P2 (DK : World → Addr → (Nat → Bool) → AD → Prop) (W : World) (p : Addr) (g1 : Nat) (d : AD) (c1 : Array Value) (F : Nat → Bool) (q : Addr) (g2 : Nat) (d2 : AD) (cb cr : Array Value) (G M : Nat → Bool) (w : World) : Prop where
  ps : PS DK W q g2 d2 cb cr G M w
  sd : SD DK p g1 d c1 F g2 G M w
variable {W : World} {p q : Addr} {g1 g2 : Nat} {d d2 : AD} {c1 cb cr : Array Value} {F G M : Nat → Bool} {w : World}
theorem P2.next (H : DiskSays DK) {w' : World} (h : P2 DK W p g1 d c1 F q g2 d2 cb cr G M w) (hb : Below w.heap.size w w') : P2 DK W p g1 d c1 F q g2 d2 cb cr G M w' := ⟨h.ps.next H hb, h.sd.next H hb⟩
theorem P2.do (H : DiskSays DK) {w' : World} {d' : AD} {cr' : Array Value} {G' M' : Nat → Bool} (h : P2 DK W p g1 d c1 F q g2 d2 cb cr G M w) (hd : Good d') (hE : DoE DK G M w q (.agg cr') d' G' M' w') : P2 DK W p g1 d c1 F q g2 d' cb cr' G' M' w' :=
  ⟨h.ps.do hd hE, h.sd.do H hE.ex hE.exm⟩
theorem P2.alloc (H : DiskSays DK) (h : P2 DK W p g1 d c1 F q g2 d2 cb cr G M w) (o : Obj) :
    P2 DK W p g1 d c1 F q g2 d2 cb cr G (plusF M w.heap.size (w.heap.size + 1)) (w.alloc o) ∧ plusF M w.heap.size (w.heap.size + 1) w.heap.size = true ∧ G w.heap.size = false ∧ F w.heap.size = false := by
  obtain ⟨h1, h2, h3⟩ := h.ps.alloc H o
  have hb := below_alloc w o
  have hx := plusF_ext (F := M) hb
  rw [alloc_size w o] at hx
  refine ⟨⟨h1, ⟨H.below h.sd.dk hb, h.sd.dis, h.sd.rd.kin hx.kin, h.sd.db.next hb, h.sd.gg, h.sd.ne, h.sd.f2⟩⟩, h2, h3, ?_⟩
  cases hf : F w.heap.size with
  | false => rfl
  | true => have := H.foot h.sd.dk _ hf; omega
theorem P2.over (H : DiskSays DK) (h : P2 DK W p g1 d c1 F q g2 d2 cb cr G M w) (k : Nat) (hk : k ≠ g2) (hk1 : k ≠ g1) (hm : M k = true) (hg : G k = false) (hf : F k = false) (ho : W.heap.size ≤ k) (cs : Array Value) : P2 DK W p g1 d c1 F q g2 d2 cb cr G M (w.setRow k cs) :=
  ⟨h.ps.over H k hk hm hg ho cs, h.sd.over H k hk1 hf hm cs⟩
theorem P2.store (H : DiskSays DK) (h : P2 DK W p g1 d c1 F q g2 d2 cb cr G M w) (h6 : cr.size = 6) : P2 DK W p g1 d c1 F q g2 d2 cr cr G M (w.setRow g2 cr) :=
  ⟨h.ps.store H h6, h.sd.over H g2 (Ne.symm h.sd.ne) h.sd.f2 h.ps.mg cr⟩
/-- what makes new blocks alone -/
theorem Ext.plus {w w' : World} {G M : Nat → Bool} (h : Ext noF w w' G) : Ext M w w' (orF M G) :=
  ⟨h.os, h.tape, h.output, h.size, fun k hk _ => h.block k hk rfl, fun k hk => by show (M k || G k) = M k; rw [h.foot k hk]; simp⟩
theorem Ext.over {W w w' : World} {F G : Nat → Bool} (h : Ext noF W w F) (k : Ext noF w w' G) : Ext noF W w' G :=
  ⟨k.os.trans h.os, k.tape.trans h.tape, k.output.trans h.output, Nat.le_trans h.size k.size, fun i hi _ => (k.block i (Nat.lt_of_lt_of_le hi h.size) rfl).trans (h.block i hi rfl), fun i hi => k.foot i (Nat.lt_of_lt_of_le hi h.size)⟩
/-- the clone is made: first it, then its box -/
theorem cloneA (H : DiskSays DK) (h : PS DK W p g1 d c1 c1 F M w) {w1 : World} (hk : DK w1 q G d) (hx : Ext noF w w1 G) :
    ∃ M2, P2 DK W p g1 d c1 F q w1.heap.size d dz c1 G M2 (w1.alloc (.cells dz 29)) := by
  have hb := below_alloc w1 (.cells dz 29)
  have hs := alloc_size w1 (.cells dz 29)
  have hx1 : Ext M w w1 (orF M G) := hx.plus
  have hf1 : Foot (orF M G) w1.heap.size := orF_foot (h.foot.mono hx.size) (H.foot hk)
  have hx2 := plusF_ext (F := orF M G) hb
  rw [hs] at hx2
  have hg := h.glt
  have hw := hx.size
  have hdk1 : DK w1 p F d := H.keep h.dk hx.size fun k hk => hx.block k (H.foot h.dk k hk) rfl
  refine ⟨plusF (orF M G) w1.heap.size (w1.heap.size + 1), ⟨H.below hk hb, h.good, (h.rd.kin hx1.kin).kin hx2.kin, fun k hk => plusF_mono _ _ _ _ (orF_r hk), by rw [hs]; exact plusF_foot hf1 (by omega), plusF_in _ _ _ _ (Nat.le_refl _) (by omega), ?_, Nat.le_trans h.ex.size hx.size, ⟨heap_alloc_last w1 _, rfl⟩, (h.ex.over hx).trans (Ext.below hb), (h.exm.trans hx1).trans hx2⟩,
    ⟨H.below hdk1 hb, fun k hk => by rw [hx.foot k (H.foot h.dk k hk)], (h.rd.kin hx1.kin).kin hx2.kin, DB.next (W := w1) ⟨kept hx h.db.1 rfl, h.db.2⟩ hb, by rw [hx.foot g1 hg], by omega, ?_⟩⟩
  · cases hf : G w1.heap.size with
    | false => rfl
    | true => have := H.foot hk _ hf; omega
  · cases hf : F w1.heap.size with
    | false => rfl
    | true => have := H.foot h.dk _ hf; omega
/-- .. first its box, then it -/
theorem cloneB (H : DiskSays DK) (h : PS DK W p g1 d c1 c1 F M w) {w2 : World} (hk : DK w2 q G d) (hx : Ext noF (w.alloc (.cells dz 29)) w2 G) :
    ∃ M2, P2 DK W p g1 d c1 F q w.heap.size d dz c1 G M2 w2 := by
  obtain ⟨h1, h2, h3⟩ := h.alloc H (.cells dz 29)
  have hb := below_alloc w (.cells dz 29)
  have hs := alloc_size w (.cells dz 29)
  have hl : (w.alloc (.cells dz 29)).heap[w.heap.size]? = some (.cells dz 29 (0, 0)) := heap_alloc_last w _
  generalize w.alloc (.cells dz 29) = w1 at *
  generalize plusF M w.heap.size (w.heap.size + 1) = M1 at *
  have hx1 : Ext M1 w1 w2 (orF M1 G) := hx.plus
  have hg := h.glt
  have hdk1 : DK w2 p F d := H.keep h1.dk hx.size fun k hk => hx.block k (H.foot h1.dk k hk) rfl
  refine ⟨orF M1 G, ⟨hk, h.good, h1.rd.kin hx1.kin, fun k hk => orF_r hk, orF_foot (h1.foot.mono hx.size) (H.foot hk), orF_l h2, by rw [hx.foot _ (by omega)], h.ex.size, ⟨kept hx hl rfl, rfl⟩, h1.ex.over hx, h1.exm.trans hx1⟩,
    ⟨hdk1, fun k hk => by rw [hx.foot k (H.foot h1.dk k hk)], h1.rd.kin hx1.kin, ⟨kept hx h1.db.1 rfl, h.db.2⟩, by rw [hx.foot g1 (by omega)], by omega, h3⟩⟩
end Go.Proofs.Ytpnialanmidekaa
