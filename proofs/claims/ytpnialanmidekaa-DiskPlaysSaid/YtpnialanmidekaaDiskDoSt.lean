/-
  LAYER 8 (disk): the law's own do: where it stands (boxes for the document's disk and for the call, a cell for the result), and what a call comes to (plain mathematics). Nothing here speaks of the program's functions but DiskSays.
-/
import Derived.Test.YtpnialanmidekaaDiskLawSecs
import Derived.Test.YtpnialanmidekaaSame
namespace Go.Proofs.Ytpnialanmidekaa
open Go.RowKit
/-- what a call makes of a disk -/
def AD.doR (d : AD) (a : AAct) : AD :=
  if a.kind.tmod 10 = 0 ∨ a.kind.tmod 10 = 1 then (d.makeR a.name a.n).1
  else if a.kind.tmod 10 = 2 ∨ a.kind.tmod 10 = 3 then (d.writeR a.name a.at_ a.len (secsL a.l a.len)).1
  else if a.kind.tmod 10 = 4 then (d.syncR a.name).1
  else if a.kind.tmod 10 = 5 then (d.renameR a.name a.to).1
  else if a.kind.tmod 10 = 6 then (d.removeR a.name).1
  else if a.kind.tmod 10 = 7 then (d.failR a.n).1
  else if a.kind.tmod 10 = 8 then d.crashR a.keep a.torn a.cut
  else d
theorem Good.do {d : AD} (h : Good d) {a : AAct} (ha : GA a) : Good (d.doR a) := by
  unfold AD.doR
  split
  · exact h.make _ _
  split
  · exact h.write _ _ _ _ (secsL_length _ _) (secsL_bytes _ _)
  split
  · exact h.sync _
  split
  · exact h.rename _ _
  split
  · exact h.remove _
  split
  · exact h.fail _ ha.n
  split
  · exact h.crash _ _ _
  · exact h
theorem RD.cells {w : World} {v : Value} {d : AD} (h : RD w v d) : ∃ cs, v = .agg cs ∧ cs.size = 6 ∧ cs.all (·.oneCell') = true := by
  obtain ⟨a, n, c, rfl, _⟩ := h.agg
  exact ⟨_, rfl, rfl, by simp [Value.oneCell']⟩
/-- the blocks of both -/
def orF (M F : Nat → Bool) : Nat → Bool := fun k => M k || F k
theorem orF_l {M F : Nat → Bool} {k : Nat} (h : M k = true) : orF M F k = true := by simp [orF, h]
theorem orF_r {M F : Nat → Bool} {k : Nat} (h : F k = true) : orF M F k = true := by simp [orF, h]
theorem orF_foot {M F : Nat → Bool} {n : Nat} (h : Foot M n) (k : Foot F n) : Foot (orF M F) n := fun i hi => by
  simp only [orF, Bool.or_eq_true] at hi
  rcases hi with hi | hi
  · exact h i hi
  · exact k i hi
/-- what changes F alone changes no more than M, if M has all of F -/
theorem Ext.sub {F F' M : Nat → Bool} {w w' : World} (h : Ext F w w' F') (hs : ∀ k, F k = true → M k = true) : Ext M w w' (orF M F') :=
  ⟨h.os, h.tape, h.output, h.size, fun k hk hm => h.block k hk (by
    cases hf : F k with
    | false => rfl
    | true => rw [hs k hf] at hm; simp at hm), fun k hk => by
    show (M k || F' k) = M k
    rw [h.foot k hk]
    cases hf : F k with
    | false => simp
    | true => rw [hs k hf]; simp⟩
/-- .. and with more that nobody changes -/
theorem Ext.wide {F F' M : Nat → Bool} {w w' : World} (h : Ext F w w' F') : Ext (orF M F) w w' (orF M F') :=
  ⟨h.os, h.tape, h.output, h.size, fun k hk hm => h.block k hk (by simp only [orF, Bool.or_eq_false_iff] at hm; exact hm.2), fun k hk => by
    show (M k || F' k) = (M k || F k); rw [h.foot k hk]⟩
def actC (k : Int) (s t : ByteArray) (x y : Int) (vl vk : Value) (g h : Int) : Array Value := #[.int .u64 k, .string s, .string t, .int .i64 x, .int .i64 y, vl, vk, .int .i64 g, .int .i64 h]
/-- a call in a block of its own -/
def AB (w : World) (b : Nat) (cs : Array Value) : Prop := w.heap[b]? = some (.cells cs 38 (0, 0)) ∧ cs.size = 9
theorem AB.nine {w : World} {b : Nat} {v0 v1 v2 v3 v4 v5 v6 v7 v8 : Value} (h : AB w b #[v0, v1, v2, v3, v4, v5, v6, v7, v8]) :
    w.cell? ⟨b, 0, none⟩ = some v0 ∧ w.cell? ⟨b, 1, none⟩ = some v1 ∧ w.cell? ⟨b, 2, none⟩ = some v2 ∧ w.cell? ⟨b, 3, none⟩ = some v3 ∧ w.cell? ⟨b, 4, none⟩ = some v4 ∧ w.cell? ⟨b, 5, none⟩ = some v5 ∧ w.cell? ⟨b, 6, none⟩ = some v6 ∧ w.cell? ⟨b, 7, none⟩ = some v7 ∧ w.cell? ⟨b, 8, none⟩ = some v8 := by
  have hc := fun j => Joins.cell_of_block (w := w) h.1 j
  exact ⟨hc 0, hc 1, hc 2, hc 3, hc 4, hc 5, hc 6, hc 7, hc 8⟩
theorem Ext.setRow' {F F' : Nat → Bool} {w w' : World} (h : Ext F w w' F') (b : Nat) (hb : F' b = true) (cs : Array Value) : Ext F w (w'.setRow b cs) F' :=
  h.trans ((Ext.refl F' w').setRow b hb cs)
theorem Ext.newRow {F F' : Nat → Bool} {w w' : World} (h : Ext F w w' F') (b : Nat) (hb : w.heap.size ≤ b) (cs : Array Value) : Ext F w (w'.setRow b cs) F' :=
  ⟨h.os, h.tape, h.output, by simpa using h.size, fun k hk hf => by rw [setRow_other w' b k cs (by omega)]; exact h.block k hk hf, h.foot⟩
variable {DK : World → Addr → (Nat → Bool) → AD → Prop}
/-- where do stands: w is where it began -/
structure DoS (DK : World → Addr → (Nat → Bool) → AD → Prop) (F M : Nat → Bool) (w : World) (p : Addr) (ac cs : Array Value) (dp dr : AD) (F1 M1 : Nat → Bool) (W : World) : Prop where
  dk : DK W p F1 dp
  rd : RD (mask M1 W) (.agg cs) dr
  ex : Ext F w W F1
  exm : Ext M w W M1
  sub : ∀ k, F1 k = true → M1 k = true
  foot : Foot M1 W.heap.size
  size : w.heap.size + 3 ≤ W.heap.size
  box : ∀ k, w.heap.size ≤ k → k < w.heap.size + 3 → M1 k = true ∧ F1 k = false
  d0 : DB W w.heap.size cs
  act : AB W (w.heap.size + 1) ac
  d2 : DB W (w.heap.size + 2) dz
theorem kept {W W' : World} {F1 F2 : Nat → Bool} (hx : Ext F1 W W' F2) {k : Nat} {o : Obj} (h : W.heap[k]? = some o) (hf : F1 k = false) : W'.heap[k]? = some o := by
  rw [hx.block k (Array.getElem?_eq_some_iff.1 h).1 hf]; exact h
/-- the program's call -/
theorem DoS.prog (H : DiskSays DK) {F M F1 M1 F2 : Nat → Bool} {w W W' : World} {p : Addr} {ac cs : Array Value} {dp dr dp' : AD} (h : DoS DK F M w p ac cs dp dr F1 M1 W) (hk : DK W' p F2 dp') (hx : Ext F1 W W' F2) :
    DoS DK F M w p ac cs dp' dr F2 (orF M1 F2) W' :=
  ⟨hk, h.rd.kin (hx.sub h.sub).kin, h.ex.trans hx, h.exm.trans (hx.sub h.sub), fun k hf => orF_r hf, orF_foot (h.foot.mono hx.size) (H.foot hk), Nat.le_trans h.size hx.size, fun k h1 h2 => by
    have h3 := h.box k h1 h2
    have h4 := h.size
    exact ⟨orF_l h3.1, by rw [hx.foot k (by omega)]; exact h3.2⟩,
    ⟨kept hx h.d0.1 (h.box _ (by omega) (by omega)).2, h.d0.2⟩, ⟨kept hx h.act.1 (h.box _ (by omega) (by omega)).2, h.act.2⟩, ⟨kept hx h.d2.1 (h.box _ (by omega) (by omega)).2, h.d2.2⟩⟩
/-- what only makes memory -/
theorem DoS.next (H : DiskSays DK) {F M F1 M1 : Nat → Bool} {w W W' : World} {p : Addr} {ac cs : Array Value} {dp dr : AD} (h : DoS DK F M w p ac cs dp dr F1 M1 W) (hb : Below W.heap.size W W') :
    DoS DK F M w p ac cs dp dr F1 M1 W' :=
  ⟨H.below h.dk hb, h.rd.kin (kin_mask hb), h.ex.trans (Ext.below hb), h.exm.trans (Ext.below hb), h.sub, h.foot.mono hb.size, Nat.le_trans h.size hb.size, h.box, h.d0.next hb,
    ⟨by rw [hb.block _ (Array.getElem?_eq_some_iff.1 h.act.1).1]; exact h.act.1, h.act.2⟩, h.d2.next hb⟩
/-- the document's disk takes the elder one's place -/
theorem DoS.put (H : DiskSays DK) {F M F1 M1 : Nat → Bool} {w W : World} {p : Addr} {ac cs cs' : Array Value} {dp dr dr' : AD} (h : DoS DK F M w p ac cs dp dr F1 M1 W) (hr : RD (mask M1 W) (.agg cs') dr') (h6 : cs'.size = 6) :
    DoS DK F M w p ac cs' dp dr' F1 M1 (W.setRow w.heap.size cs') := by
  have hb := h.box w.heap.size (by omega) (by omega)
  have hn : ∀ k, k ≠ w.heap.size → (W.setRow w.heap.size cs').heap[k]? = W.heap[k]? := fun k hk => setRow_other W w.heap.size k cs' hk
  have hs : (W.setRow w.heap.size cs').heap.size = W.heap.size := by simp
  refine ⟨H.keep h.dk (Nat.le_of_eq hs.symm) fun k hk => hn k (by rintro rfl; rw [hb.2] at hk; simp at hk), hr.kin ((Ext.refl M1 W).setRow _ hb.1 _).kin, ?_, h.exm.setRow' _ hb.1 _, h.sub, by rw [hs]; exact h.foot, by rw [hs]; exact h.size, h.box, h.d0.row h6,
    ⟨by rw [hn _ (by omega)]; exact h.act.1, h.act.2⟩, ⟨by rw [hn _ (by omega)]; exact h.d2.1, h.d2.2⟩⟩
  exact h.ex.newRow _ (Nat.le_refl _) _
theorem DoS.start (H : DiskSays DK) {F M : Nat → Bool} {w : World} {p : Addr} {ac cs : Array Value} {d : AD} (hk : DK w p F d) (hr : RD (mask M w) (.agg cs) d) (hs : ∀ k, F k = true → M k = true) (hM : Foot M w.heap.size) (h6 : cs.size = 6) (h9 : ac.size = 9) :
    DoS DK F M w p ac cs d d F (plusF M w.heap.size (w.heap.size + 3)) (((w.alloc (.cells cs 29)).alloc (.cells ac 38)).alloc (.cells dz 29)) := by
  have s0 := alloc_size w (.cells cs 29)
  have b0 := below_alloc w (.cells cs 29)
  have k0 := heap_alloc_last w (.cells cs 29)
  generalize w.alloc (.cells cs 29) = w0 at *
  have s1 := alloc_size w0 (.cells ac 38)
  have b1 := below_alloc w0 (.cells ac 38)
  have k1 := heap_alloc_last w0 (.cells ac 38)
  generalize w0.alloc (.cells ac 38) = w1 at *
  have s2 := alloc_size w1 (.cells dz 29)
  have b2 := below_alloc w1 (.cells dz 29)
  have k2 := heap_alloc_last w1 (.cells dz 29)
  generalize w1.alloc (.cells dz 29) = w2 at *
  have hs2 : w2.heap.size = w.heap.size + 3 := by omega
  have hb := chain (chain b0 b1) b2
  have hx : Ext M w w2 (plusF M w.heap.size (w.heap.size + 3)) := by have := plusF_ext (F := M) hb; rwa [hs2] at this
  have e1 : w1.heap[w.heap.size]? = some (.cells cs 29 (0, 0)) := by rw [b1.block _ (by omega)]; exact k0
  rw [s0] at k1
  rw [s1, s0] at k2
  refine ⟨H.below hk hb, hr.kin hx.kin, Ext.below hb, hx, fun k hf => plusF_mono _ _ _ _ (hs k hf), by rw [hs2]; exact plusF_foot hM (by omega), by omega, fun k h1 h2 => ⟨plusF_in _ _ _ _ h1 h2, ?_⟩, ⟨by rw [b2.block _ (by omega)]; exact e1, h6⟩, ⟨by rw [b2.block _ (by omega)]; exact k1, h9⟩, ⟨k2, rfl⟩⟩
  cases hf : F k with
  | false => rfl
  | true => have := H.foot hk k hf; omega
/-- what do ends with -/
structure DoE (DK : World → Addr → (Nat → Bool) → AD → Prop) (F M : Nat → Bool) (w : World) (p : Addr) (v' : Value) (d' : AD) (F' M' : Nat → Bool) (w' : World) : Prop where
  dk : DK w' p F' d'
  rd : RD (mask M' w') v' d'
  ex : Ext F w w' F'
  exm : Ext M w w' M'
  sub : ∀ k, F' k = true → M' k = true
  foot : Foot M' w'.heap.size
theorem DoS.done (H : DiskSays DK) {F M F1 M1 : Nat → Bool} {w W : World} {p : Addr} {ac cs : Array Value} {d : AD} (h : DoS DK F M w p ac cs d d F1 M1 W) :
    DoE DK F M w p (.agg cs) d F1 M1 (W.setRow (w.heap.size + 2) cs) ∧ DB (W.setRow (w.heap.size + 2) cs) (w.heap.size + 2) cs := by
  have hb := h.box (w.heap.size + 2) (by omega) (by omega)
  have hn : ∀ k, k ≠ w.heap.size + 2 → (W.setRow (w.heap.size + 2) cs).heap[k]? = W.heap[k]? := fun k hk => setRow_other W (w.heap.size + 2) k cs hk
  have hs : (W.setRow (w.heap.size + 2) cs).heap.size = W.heap.size := by simp
  exact ⟨⟨H.keep h.dk (Nat.le_of_eq hs.symm) fun k hk => hn k (by rintro rfl; rw [hb.2] at hk; simp at hk), h.rd.kin ((Ext.refl M1 W).setRow _ hb.1 _).kin, h.ex.newRow _ (by omega) _, h.exm.setRow' _ hb.1 _, h.sub, by rw [hs]; exact h.foot⟩, h.d2.row h.d0.2⟩
/-- what is said of w aside from M holds aside from M1, then -/
theorem DoS.kin {F M F1 M1 : Nat → Bool} {w W : World} {p : Addr} {ac cs : Array Value} {dp dr : AD} (h : DoS DK F M w p ac cs dp dr F1 M1 W) : Kin (mask M w) (mask M1 W) := h.exm.kin
theorem DoS.kinF {F M F1 M1 : Nat → Bool} {w W : World} {p : Addr} {ac cs : Array Value} {dp dr : AD} (h : DoS DK F M w p ac cs dp dr F1 M1 W) : Kin (mask M w) (mask F1 W) := h.kin.trans (mask_mono h.sub W)
theorem DoS.kinW {F M F1 M1 : Nat → Bool} {w W : World} {p : Addr} {ac cs : Array Value} {dp dr : AD} (h : DoS DK F M w p ac cs dp dr F1 M1 W) : Kin (mask M w) W := h.kin.trans (unmask M1 W)
end Go.Proofs.Ytpnialanmidekaa
