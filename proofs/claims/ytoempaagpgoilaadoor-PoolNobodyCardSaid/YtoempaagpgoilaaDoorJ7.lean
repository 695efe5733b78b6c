/-
  TEXTS JOINED: DkRead, DkJobs, DkMove, DkTurn, DkWrite, DkTell, DkApi. Each one's own words stand at its head.
-/
import Derived.Test.YtoempaagpgoilaaDoorJ6
/-
  LAYER 8 (disk), the program's own disk: what is seen of a file's sectors, read into a row of the call's own. No condition.
-/
namespace Go.Proofs.YtoempaagpgoilaaDoor
open Go.RowKit
/-- a row of sectors that is being filled -/
def RW (w : World) (g : Nat) (zs : List Int) : Prop := w.heap[g]? = some (.cells (il .u8 zs).toArray 88 (0, 0))
theorem RW.keep {w w' : World} {g : Nat} {zs : List Int} (h : RW w g zs) (hb : Below w.heap.size w w') : RW w' g zs := by
  unfold RW at *; rw [hb.block g (Array.getElem?_eq_some_iff.1 h).1]; exact h
theorem RW.fs {w : World} {g n : Nat} {zs : List Int} (h : RW w g zs) (hz : zs.length = n * 64) (hn : n ≤ 1000000) : FS w (.slice (some ⟨g, 0, none⟩) n n) n zs := by
  refine ⟨_, n, rfl, hz, Nat.le_refl _, by omega, fun h => by simp at h, fun _ => ⟨g, 0, rfl, fun j hj => ?_⟩⟩
  rw [Nat.zero_add, cell_of_row w g j _ _ _ h]
  simpa using il_get .u8 zs j (by omega)
/-- what a read looks up -/
theorem Jd.look {w w1 : World} {b bm : Nat} {l : List MF} {d : AD} {s t : ByteArray} {x n : Int} {v : Value} (h : Jd w b bm l d s t x n v w1) :
    w1.cell? ⟨w.heap.size, 0, none⟩ = some (ptr ⟨b, 0, none⟩) ∧ w1.cell? ⟨w.heap.size, 1, none⟩ = some (.string s) ∧ w1.cell? ⟨w.heap.size, 3, none⟩ = some (.int .i64 x) ∧ w1.cell? ⟨w.heap.size, 4, none⟩ = some (.int .i64 n) ∧ w1.cell? ⟨b, 1, none⟩ = some (.map (some bm)) ∧ Jd w b bm l d s t x n v w1 := by
  obtain ⟨c0, c1, _, c3, c4, _⟩ := h.jb.cells
  obtain ⟨fl, lf, hb, _⟩ := h.dk.blk
  obtain ⟨_, e1, _⟩ := hb.cells
  exact ⟨c0, c1, c3, c4, e1, h⟩
end Go.Proofs.YtoempaagpgoilaaDoor
/-
  LAYER 8 (disk), the program's own disk: what a job does to it: create, remove, rename (the map is turned). No condition.
-/
namespace Go.Proofs.YtoempaagpgoilaaDoor
open Go.RowKit
def zSc : Sc := ⟨z64, z64, false⟩
set_option maxRecDepth 20000 in
theorem zc_eq : Tryd.zeroCells90 = zSc.cells.toArray := by kernel_rfl
set_option maxRecDepth 20000 in
theorem sct_parts : (Tryd.prog.info? 90).map (fun i => (i.zero, i.size, i.bytes)) = some (some (.agg Tryd.zeroCells90), 129, 129) := by kernel_rfl
theorem zSc_ok : zSc.ok := ⟨z64_length, z64_length⟩
/-- a row that was just made -/
theorem SR.made (w : World) (n : Nat) (hn : n ≤ 1000000) : SR (w.alloc (.cells (madeCells (Value.agg Tryd.zeroCells90).cells (n * 129)) 90)) w.heap.size n (List.replicate n zSc) := by
  have hs : (Value.agg Tryd.zeroCells90).cells = Tryd.zeroCells90 := rfl
  refine ⟨(madeCells (Value.agg Tryd.zeroCells90).cells (n * 129)).toList, heap_alloc_last w _, by simp [size_madeCells], by simp, by unfold maxLen; omega, fun i s hi => ?_⟩
  obtain ⟨hin, e⟩ := List.getElem?_eq_some_iff.1 hi
  rw [List.getElem_replicate] at e
  subst e
  rw [List.length_replicate] at hin
  refine ⟨zSc_ok, fun j v hv => ?_⟩
  have hj : j < 129 := by have := (List.getElem?_eq_some_iff.1 hv).1; rw [zSc_ok.len] at this; exact this
  have hm : (i * 129 + j) % 129 = j := by omega
  have hlt : i * 129 + j < n * 129 := by have : (i + 1) * 129 ≤ n * 129 := Nat.mul_le_mul_right _ hin; omega
  have hz : zSc.cells.toArray.size = 129 := by simp [zSc_ok.len]
  have hv2 : zSc.cells.toArray[j]? = some v := by simpa using hv
  rw [Array.getElem?_toList, hs, zc_eq]
  unfold madeCells
  rw [Array.getElem?_map, Array.getElem?_range, if_pos hlt]
  simp only [Option.map_some, hz, hm]
  rw [getElem!_def, hv2]
theorem secsOf_new (s : ByteArray) (n : Nat) : secsOf (newF s n) = List.replicate n zSc := by
  refine List.ext_getElem? fun i => ?_
  by_cases hi : i < n
  · rw [secsOf_get _ _ hi, List.getElem?_replicate, if_pos hi]
    have hc : chunk (List.replicate (n * 64) 0) i = z64 := by
      have : (i + 1) * 64 ≤ n * 64 := Nat.mul_le_mul_right _ hi
      unfold chunk z64
      rw [List.drop_replicate, List.take_replicate]; congr 1; omega
    simp only [newF, hc]
    congr 2
    simp only [List.getD, List.getElem?_replicate, if_pos hi]; rfl
  · rw [List.getElem?_eq_none (by rw [secsOf_length]; exact Nat.not_lt.1 hi), List.getElem?_eq_none (by simpa using Nat.not_lt.1 hi)]
/-- make: n sectors, as one operation -/
theorem wp_make_scs {w : World} {o : Oper} {a : Act} {K : Act → World → Prop} {Q : Exit → Act → World → Prop} (x y : Operand) (ho : o.op = Op.makeSlice 83 x y) (n : Nat) (hx : a.eval x = .int .i64 (n : Int)) (hy : a.eval y = .int .i64 (n : Int)) (hn : n ≤ 1000000)
    (h : ∀ w', Hid (SR w' w.heap.size n (List.replicate n zSc)) → Hid (Below w.heap.size w w') → K (a.put o.dst (.slice (some ⟨w.heap.size, 0, none⟩) n n)) w') : o.wp Tryd.prog a w K Q := by
  obtain ⟨i, hi, hz0, hz1, hz2⟩ := info_parts sct_parts
  have hrun := run_make (P := Tryd.prog) w 83 90 i _ Tryd.underlying83 hi hz0 .i64 .i64 n n (by omega) (by omega) (by rw [hz2]; omega) (by omega)
  simp only [Int.toNat_natCast, hz1] at hrun
  unfold Oper.wp
  simp [execOp, ho, hx, hy, hrun, Result.andThen]
  exact h _ (SR.made w n hn) (below_alloc w _)
/-- behind a job that was done to the disk -/
def Done (F : Nat → Bool) (w : World) (b bm : Nat) (l : List MF) (d' : AD) (w' : World) : Prop :=
  ∃ l', Dk w' b bm l' d' ∧ Ext F w w' F ∧ ∀ k, own b bm l' k → k < w.heap.size → own b bm l k
/-- the map is turned -/
theorem Dk.turn {w w' : World} {b bm : Nat} {l l' : List MF} {d d' : AD} (h : Dk w b bm l d) (hc : d'.cap = d.cap ∧ d'.ops = d.ops ∧ d'.down = d.down ∧ d'.told = d.told ∧ d'.after = d.after) (hg : w.grownBy w' (some bm)) (hm : MapOf w' bm l')
    (hr : ∀ x ∈ l', SR w x.g x.c (secsOf x.f)) (hn : (l'.map MF.g).Nodup) (hf : d'.L = l'.map MF.f) : Dk w' b bm l' d' := by
  obtain ⟨h1, h2, h3, h4, h5⟩ := hc
  obtain ⟨fl, lf, hb, ht⟩ := h.blk
  obtain ⟨es, clock, hmo⟩ := h.map.obj
  refine ⟨⟨fl, lf, ?_, by rw [h3, h4, h5]; exact ht⟩, hm, fun x hx => (hr x hx).keep (hg.block _ (hr x hx).lt (fun e => ?_)), hn, hf⟩
  · unfold DBk dCells at *
    rw [h1, h2, h3, hg.block b (Array.getElem?_eq_some_iff.1 hb).1 (fun e => h.ne.1 (Option.some.inj e))]
    exact hb
  · obtain ⟨cur, h6, _⟩ := hr x hx
    rw [Option.some.inj e, hmo] at h6; cases h6
theorem grown_cell {w w' : World} {g : Nat} {a : Addr} {v : Value} (hg : w.grownBy w' (some g)) (ha : a.block ≠ g) (h : w.cell? a = some v) : w'.cell? a = some v := by
  have hlt := World.block_lt_of_cell? w _ h
  have hb := hg.block a.block hlt (fun e => ha (Option.some.inj e))
  unfold World.cell? at h ⊢
  rw [hb]; exact h
theorem Jd.ne {w w1 : World} {b bm : Nat} {l : List MF} {d : AD} {s t : ByteArray} {x n : Int} {v : Value} (h : Jd w b bm l d s t x n v w1) : w.heap.size ≠ bm ∧ b ≠ bm := by
  refine ⟨fun e => ?_, h.dk.ne.1⟩
  obtain ⟨es, clock, h2⟩ := h.dk.map.obj
  have h1 := h.jb
  unfold JB at h1
  rw [e, h2] at h1; cases h1
/-- what a job reads, behind a turn of the map -/
theorem Jd.turned {w w1 w2 : World} {b bm : Nat} {l : List MF} {d : AD} {s t : ByteArray} {x n : Int} {v : Value} (h : Jd w b bm l d s t x n v w1) (hg : w1.grownBy w2 (some bm)) :
    w2.cell? ⟨w.heap.size, 0, none⟩ = some (ptr ⟨b, 0, none⟩) ∧ w2.cell? ⟨w.heap.size, 1, none⟩ = some (.string s) ∧ w2.cell? ⟨w.heap.size, 4, none⟩ = some (.int .i64 n) ∧ w2.cell? ⟨b, 1, none⟩ = some (.map (some bm)) := by
  obtain ⟨c0, c1, _, c4, e1, _⟩ := h.look
  exact ⟨grown_cell hg h.ne.1 c0, grown_cell hg h.ne.1 c1, grown_cell hg h.ne.1 c4, grown_cell hg h.ne.2 e1⟩
theorem Jd.four {w w1 : World} {b bm : Nat} {l : List MF} {d : AD} {s t : ByteArray} {x n : Int} {v : Value} (h : Jd w b bm l d s t x n v w1) :
    w1.cell? ⟨w.heap.size, 0, none⟩ = some (ptr ⟨b, 0, none⟩) ∧ w1.cell? ⟨w.heap.size, 1, none⟩ = some (.string s) ∧ w1.cell? ⟨w.heap.size, 4, none⟩ = some (.int .i64 n) ∧ w1.cell? ⟨b, 1, none⟩ = some (.map (some bm)) := by
  obtain ⟨c0, c1, _, c4, e1, _⟩ := h.look
  exact ⟨c0, c1, c4, e1⟩
/-- behind create -/
theorem Dk.created {F : Nat → Bool} {w w1 w2 : World} {b bm : Nat} {l : List MF} {d : AD} (s : ByteArray) (n g : Nat) (hF : ∀ k, own b bm l k → F k = true) (h : Dk w1 b bm l d) (hb : Below w.heap.size w w1) (hr : SR w1 g n (List.replicate n zSc)) (hg : w.heap.size ≤ g) (hne : ∀ k, own b bm l k → k < g)
    (hm : MapOf w2 bm (inBy MF.nm (outBy MF.nm l s) ⟨newF s n, g, n⟩)) (hx : w1.grownBy w2 (some bm)) : Done F w b bm l (d.withF (newF s n)) w2 := by
  have hap : ∀ y ∈ outBy MF.nm l s, y.g ≠ g := fun y hy e => by
    have := hne _ (.inr (.inr ⟨y, (mem_out.1 hy).1, rfl⟩)); omega
  refine ⟨_, h.turn ⟨rfl, rfl, rfl, rfl, rfl⟩ hx hm ?_ (nodup_in (nodup_out h.nodup s) _ hap) ?_, (Ext.below hb).grown hx (.inl (hF _ (.inr (.inl rfl)))), ?_⟩
  · intro y hy
    rcases mem_in.1 hy with rfl | hy
    · rw [secsOf_new]; exact hr
    · exact h.row y (mem_out.1 hy).1
  · rw [map_in, map_out, ← h.files]; rfl
  · rintro k (rfl | rfl | ⟨y, hy, rfl⟩) hlt
    · exact .inl rfl
    · exact .inr (.inl rfl)
    · rcases mem_in.1 hy with rfl | hy
      · simp only at hlt; omega
      · exact .inr (.inr ⟨y, (mem_out.1 hy).1, rfl⟩)
set_option maxRecDepth 8000 in
set_option maxHeartbeats 1000000 in
theorem pcreate_any (F : Nat → Bool) (w : World) (b bm : Nat) (l : List MF) (d : AD) (s t : ByteArray) (x : Int) (n : Nat) (va : Option Addr) (vm vc : Nat) (h : Dk w b bm l d) (hF : ∀ k, own b bm l k → F k = true) (hs : s.size ≤ 281474976710656) (hl : l.length ≤ 64) (hn : n ≤ 64) :
    Calls Tryd.prog 36 #[jobV ⟨b, 0, none⟩ s t x (n : Int) (.slice va vm vc)] w fun e w' => e = .returned (.tuple #[]) ∧ Done F w b bm l (d.withF (newF s n)) w' := by
  have HJ := Lib.hid (Jd.start h s t x (n : Int) (.slice va vm vc))
  have HZ := Lib.hid (size_le hs)
  have HL := Lib.hid (show l.length < maxLen by unfold maxLen; omega)
  have HN := Lib.hid (show n ≤ 1000000 by omega)
  have HH := Lib.hid h
  clear hs hl
  go_enter Tryd.func36, Tryd.ntmps36
  go_wp2
  refine wp_region_held_drew (S := (fun w' => w'.cell? ⟨w.heap.size, 0, none⟩ = some (ptr ⟨b, 0, none⟩) ∧ w'.cell? ⟨w.heap.size, 1, none⟩ = some (.string s) ∧ w'.cell? ⟨w.heap.size, 4, none⟩ = some (.int .i64 (n : Int)) ∧ w'.cell? ⟨b, 1, none⟩ = some (.map (some bm)))) (by kernel_rfl) HJ.out.drew.four (fun hS => ?_)
  refine wpAnyH_take (i := 0) (oi := ({ dst := some 2, op := Op.fieldAddr 67 (Operand.tmp 1) 0, type := 0, pos := "job.go:83", after := #[], guard := none } : Oper)) (v := ?_) rfl (by kernel_rfl) (by kernel_rfl) (by kernel_rfl) (fun _ _ _ h => h) (Or.inl ⟨by rfl, ?_⟩) hS ?_
  rotate_left
  · (intro w hSw; (try dsimp only at hSw); go_simp; try with_reducible rfl)
  (try simp only [Act.put, List.setIfInBounds_toArray, List.set_cons_zero, List.set_cons_succ])
  refine wpAnyH_take (i := 1) (oi := ({ dst := some 3, op := Op.load 24 (Operand.tmp 2), type := 24, pos := "job.go:83", after := #[{ on := 0, ground := Ground.data }], guard := none } : Oper)) (v := ?_) rfl (by kernel_rfl) (by kernel_rfl) (by kernel_rfl) (fun _ _ _ h => h) (Or.inl ⟨by rfl, ?_⟩) hS ?_
  rotate_left
  · (intro w hSw; (try dsimp only at hSw); go_simp; try with_reducible rfl)
  (try simp only [Act.put, List.setIfInBounds_toArray, List.set_cons_zero, List.set_cons_succ])
  refine wpAnyH_take (i := 2) (oi := ({ dst := some 4, op := Op.nilCheck (Operand.tmp 3), type := 0, pos := "job.go:83", after := #[{ on := 1, ground := Ground.data }], guard := none } : Oper)) (v := ?_) rfl (by kernel_rfl) (by kernel_rfl) (by kernel_rfl) (fun _ _ _ h => h) (Or.inl ⟨by rfl, ?_⟩) hS ?_
  rotate_left
  · (intro w hSw; (try dsimp only at hSw); go_simp; try with_reducible rfl)
  (try simp only [Act.put, List.setIfInBounds_toArray, List.set_cons_zero, List.set_cons_succ])
  refine wpAnyH_take (i := 3) (oi := ({ dst := some 5, op := Op.fieldAddr 55 (Operand.tmp 4) 1, type := 0, pos := "job.go:83", after := #[{ on := 2, ground := Ground.data }], guard := none } : Oper)) (v := ?_) rfl (by kernel_rfl) (by kernel_rfl) (by kernel_rfl) (fun _ _ _ h => h) (Or.inl ⟨by rfl, ?_⟩) hS ?_
  rotate_left
  · (intro w hSw; (try dsimp only at hSw); go_simp; try with_reducible rfl)
  (try simp only [Act.put, List.setIfInBounds_toArray, List.set_cons_zero, List.set_cons_succ])
  refine wpAnyH_take (i := 4) (oi := ({ dst := some 6, op := Op.load 53 (Operand.tmp 5), type := 53, pos := "job.go:83", after := #[{ on := 3, ground := Ground.data }], guard := none } : Oper)) (v := ?_) rfl (by kernel_rfl) (by kernel_rfl) (by kernel_rfl) (fun _ _ _ h => h) (Or.inl ⟨by rfl, ?_⟩) hS ?_
  rotate_left
  · (intro w hSw; (try dsimp only at hSw); go_simp; try with_reducible rfl)
  (try simp only [Act.put, List.setIfInBounds_toArray, List.set_cons_zero, List.set_cons_succ])
  refine wpAnyH_take (i := 5) (oi := ({ dst := some 7, op := Op.fieldAddr 67 (Operand.tmp 1) 1, type := 0, pos := "job.go:83", after := #[], guard := none } : Oper)) (v := ?_) rfl (by kernel_rfl) (by kernel_rfl) (by kernel_rfl) (fun _ _ _ h => h) (Or.inl ⟨by rfl, ?_⟩) hS ?_
  rotate_left
  · (intro w hSw; (try dsimp only at hSw); go_simp; try with_reducible rfl)
  (try simp only [Act.put, List.setIfInBounds_toArray, List.set_cons_zero, List.set_cons_succ])
  refine wpAnyH_take (i := 6) (oi := ({ dst := some 8, op := Op.load 9 (Operand.tmp 7), type := 9, pos := "job.go:83", after := #[{ on := 5, ground := Ground.data }], guard := none } : Oper)) (v := ?_) rfl (by kernel_rfl) (by kernel_rfl) (by kernel_rfl) (fun _ _ _ h => h) (Or.inl ⟨by rfl, ?_⟩) hS ?_
  rotate_left
  · (intro w hSw; (try dsimp only at hSw); go_simp; try with_reducible rfl)
  (try simp only [Act.put, List.setIfInBounds_toArray, List.set_cons_zero, List.set_cons_succ])
  refine wpAnyH_take (i := 7) (oi := ({ dst := some 9, op := Op.fieldAddr 67 (Operand.tmp 1) 4, type := 0, pos := "job.go:83", after := #[], guard := none } : Oper)) (v := ?_) rfl (by kernel_rfl) (by kernel_rfl) (by kernel_rfl) (fun _ _ _ h => h) (Or.inl ⟨by rfl, ?_⟩) hS ?_
  rotate_left
  · (intro w hSw; (try dsimp only at hSw); go_simp; try with_reducible rfl)
  (try simp only [Act.put, List.setIfInBounds_toArray, List.set_cons_zero, List.set_cons_succ])
  refine wpAnyH_take (i := 8) (oi := ({ dst := some 10, op := Op.load 3 (Operand.tmp 9), type := 3, pos := "job.go:83", after := #[{ on := 7, ground := Ground.data }], guard := none } : Oper)) (v := ?_) rfl (by kernel_rfl) (by kernel_rfl) (by kernel_rfl) (fun _ _ _ h => h) (Or.inl ⟨by rfl, ?_⟩) hS ?_
  rotate_left
  · (intro w hSw; (try dsimp only at hSw); go_simp; try with_reducible rfl)
  (try simp only [Act.put, List.setIfInBounds_toArray, List.set_cons_zero, List.set_cons_succ])
  refine rg_one 9 ({ dst := some 11, op := Op.makeSlice 83 (Operand.tmp 10) (Operand.tmp 10), type := 83, pos := "job.go:83", after := #[{ on := 8, ground := Ground.data }, { on := 8, ground := Ground.data }], guard := none } : Oper) (by kernel_rfl) rfl (fun K hK => ?_)
  rw [if_pos (by rfl)]; refine wp_make_scs (.tmp 10) (.tmp 10) rfl n rfl rfl HN.out ?_; intro w1 HR1 HB1; have HJ1 := Lib.hid (HJ.out.drew.next HB1.out); have hN := HJ1.out.four
  refine hK.out _ _ ?_ (fun hS1 => ?_)
  · (exact hN)
  clear hK K hS; have hS := hS1; clear hS1
  (try simp only [Act.put, List.setIfInBounds_toArray, List.set_cons_zero, List.set_cons_succ])
  refine rg_one 10 ({ dst := none, op := Op.mapUpdate 53 (Operand.tmp 6) (Operand.tmp 8) (Operand.tmp 11), type := 0, pos := "job.go:83", after := #[{ on := 4, ground := Ground.data }, { on := 6, ground := Ground.data }, { on := 9, ground := Ground.data }, { on := 0, ground := Ground.phase }, { on := 1, ground := Ground.phase }, { on := 2, ground := Ground.phase }, { on := 3, ground := Ground.phase }, { on := 4, ground := Ground.phase }, { on := 5, ground := Ground.phase }, { on := 6, ground := Ground.phase }, { on := 7, ground := Ground.phase }, { on := 8, ground := Ground.phase }, { on := 9, ground := Ground.phase }], guard := none } : Oper) (by kernel_rfl) rfl (fun K hK => ?_)
  rw [if_pos (by rfl)]; refine wp_put secE (.tmp 6) (.tmp 8) (.tmp 11) 53 rfl 9 83 Tryd.underlying9 Tryd.underlying53 bm l rfl HJ1.out.dk.map HL.out ⟨newF s n, _, n⟩ rfl HZ.out rfl ?_; intro w2 HM2 hG2; have HDN := Lib.hid (Dk.created s n _ hF HJ1.out.dk HJ1.out.below HR1.out (Nat.le_of_lt HJ.out.drew.size) HJ.out.drew.dk.lt HM2.out hG2.out); clear hN; have hN := HJ1.out.turned hG2.out
  refine hK.out _ _ ?_ (fun hS1 => ?_)
  · (exact hN)
  clear hK K hS; have hS := hS1; clear hS1
  (try simp only [Act.put])
  refine wpAnyH_done (by kernel_rfl) ?_ _
  clear hS
  go_wp2
  go_end0
  exact ⟨rfl, HDN.out⟩
end Go.Proofs.YtoempaagpgoilaaDoor
/-
  LAYER 8 (disk), the program's own disk: remove and rename. No condition.
-/
namespace Go.Proofs.YtoempaagpgoilaaDoor
open Go.RowKit
section
variable {α : Type} {nm : α → ByteArray}
theorem in_cons (z y : α) (r : List α) : inBy nm (z :: r) y = if gtN (nm z) (nm y) = true then y :: z :: r else z :: inBy nm r y := by
  unfold inBy
  rw [List.findIdx_cons]
  by_cases h : gtN (nm z) (nm y) = true
  · rw [if_pos h, h]; simp
  · rw [if_neg h]
    rw [Bool.not_eq_true] at h
    rw [h]; simp
theorem in_nil (y : α) : inBy nm ([] : List α) y = [y] := by simp [inBy]
theorem in_first {l : List α} {y : α} (h : ∀ z ∈ l, gtN (nm z) (nm y) = true) : inBy nm l y = y :: l := by
  cases l with
  | nil => rw [in_nil]
  | cons z r => rw [in_cons, if_pos (h z (List.mem_cons_self ..))]
theorem out_cons (z : α) (r : List α) (s : ByteArray) : outBy nm (z :: r) s = if nm z = s then outBy nm r s else z :: outBy nm r s := by
  unfold outBy
  rw [List.filter_cons]
  by_cases h : nm z = s
  · rw [if_pos h, if_neg (by rw [decide_eq_true h]; simp)]
  · rw [if_neg h, if_pos (by rw [decide_eq_false h]; rfl)]
/-- what is put in and another thing that is taken out -/
theorem out_in : ∀ {l : List α}, l.Pairwise (fun x y => gtN (nm y) (nm x) = true) → ∀ (y : α) (s : ByteArray), nm y ≠ s → outBy nm (inBy nm l y) s = inBy nm (outBy nm l s) y
  | [], _, y, s, h => by rw [in_nil, out_cons, if_neg h]; simp [outBy, in_nil]
  | z :: r, hs, y, s, h => by
    rw [List.pairwise_cons] at hs
    rw [in_cons, out_cons]
    by_cases h1 : gtN (nm z) (nm y) = true
    · rw [if_pos h1, out_cons, if_neg h, out_cons]
      by_cases h2 : nm z = s
      · rw [if_pos h2, in_first]
        intro q hq
        exact gtN_trans (hs.1 q (List.mem_filter.1 hq).1) h1
      · rw [if_neg h2, in_cons, if_pos h1]
    · rw [if_neg h1, out_cons, out_in hs.2 y s h]
      by_cases h2 : nm z = s
      · simp only [if_pos h2]
      · simp only [if_neg h2]; rw [in_cons, if_neg h1]
theorem nodup_inj {β : Type} {f : α → β} : ∀ {l : List α}, (l.map f).Nodup → ∀ {x y : α}, x ∈ l → y ∈ l → f x = f y → x = y
  | [], _, x, _, hx, _, _ => by simp at hx
  | z :: r, h, x, y, hx, hy, e => by
    rw [List.map_cons, List.nodup_cons] at h
    rcases List.mem_cons.1 hx with h1 | h1 <;> rcases List.mem_cons.1 hy with h2 | h2
    · rw [h1, h2]
    · exact absurd (by rw [← h1, e]; exact List.mem_map_of_mem h2) h.1
    · exact absurd (by rw [← h2, ← e]; exact List.mem_map_of_mem h1) h.1
    · exact nodup_inj h.2 h1 h2 e
theorem out_comm (l : List α) (s t : ByteArray) : outBy nm (outBy nm l s) t = outBy nm (outBy nm l t) s := by
  unfold outBy
  rw [List.filter_filter, List.filter_filter]
  refine List.filter_congr fun x _ => ?_
  rw [Bool.and_comm]
end
theorem Dk.asc {w : World} {b bm : Nat} {l : List MF} {d : AD} (h : Dk w b bm l d) (hg : Good d) : l.Pairwise fun x y => gtN (MF.nm y) (MF.nm x) = true := by
  have := hg.asc
  rw [h.files] at this
  unfold Asc at this
  rw [List.pairwise_map] at this
  exact this
set_option maxRecDepth 8000 in
set_option maxHeartbeats 1000000 in
theorem premove_any (F : Nat → Bool) (w : World) (b bm : Nat) (l : List MF) (d : AD) (s t : ByteArray) (x n : Int) (va : Option Addr) (vm vc : Nat) (h : Dk w b bm l d) (hF : ∀ k, own b bm l k → F k = true) (hs : s.size ≤ 281474976710656) :
    Calls Tryd.prog 52 #[jobV ⟨b, 0, none⟩ s t x n (.slice va vm vc)] w fun e w' => e = .returned (.tuple #[]) ∧ Done F w b bm l (d.without s) w' := by
  have HJ := Lib.hid (Jd.start h s t x n (.slice va vm vc))
  have HZ := Lib.hid (size_le hs)
  have HDN : Hid (∀ w1 w2, Jd w b bm l d s t x n (.slice va vm vc) w1 → MapOf w2 bm (outBy MF.nm l s) → w1.grownBy w2 (some bm) → Done F w b bm l (d.without s) w2) := Lib.hid fun w1 w2 h1 h2 h3 => by
    refine ⟨_, h1.dk.turn ⟨rfl, rfl, rfl, rfl, rfl⟩ h3 h2 (fun y hy => h1.dk.row y (mem_out.1 hy).1) (nodup_out h1.dk.nodup s) ?_, (Ext.below h1.below).grown h3 (.inl (hF _ (.inr (.inl rfl)))), ?_⟩
    · rw [map_out, ← h1.dk.files]; rfl
    · rintro k (rfl | rfl | ⟨y, hy, rfl⟩) _
      · exact .inl rfl
      · exact .inr (.inl rfl)
      · exact .inr (.inr ⟨y, (mem_out.1 hy).1, rfl⟩)
  clear h hs
  go_enter Tryd.func52, Tryd.ntmps52
  go_wp2
  refine wp_region_held_drew (S := (fun w' => w'.cell? ⟨w.heap.size, 0, none⟩ = some (ptr ⟨b, 0, none⟩) ∧ w'.cell? ⟨w.heap.size, 1, none⟩ = some (.string s) ∧ w'.cell? ⟨w.heap.size, 4, none⟩ = some (.int .i64 n) ∧ w'.cell? ⟨b, 1, none⟩ = some (.map (some bm)))) (by kernel_rfl) HJ.out.drew.four (fun hS => ?_)
  refine wpAnyH_take (i := 0) (oi := ({ dst := some 2, op := Op.fieldAddr 67 (Operand.tmp 1) 0, type := 0, pos := "job.go:114", after := #[], guard := none } : Oper)) (v := ?_) rfl (by kernel_rfl) (by kernel_rfl) (by kernel_rfl) (fun _ _ _ h => h) (Or.inl ⟨by rfl, ?_⟩) hS ?_
  rotate_left
  · (intro w hSw; (try dsimp only at hSw); go_simp; try with_reducible rfl)
  (try simp only [Act.put, List.setIfInBounds_toArray, List.set_cons_zero, List.set_cons_succ])
  refine wpAnyH_take (i := 1) (oi := ({ dst := some 3, op := Op.load 24 (Operand.tmp 2), type := 24, pos := "job.go:114", after := #[{ on := 0, ground := Ground.data }], guard := none } : Oper)) (v := ?_) rfl (by kernel_rfl) (by kernel_rfl) (by kernel_rfl) (fun _ _ _ h => h) (Or.inl ⟨by rfl, ?_⟩) hS ?_
  rotate_left
  · (intro w hSw; (try dsimp only at hSw); go_simp; try with_reducible rfl)
  (try simp only [Act.put, List.setIfInBounds_toArray, List.set_cons_zero, List.set_cons_succ])
  refine wpAnyH_take (i := 2) (oi := ({ dst := some 4, op := Op.nilCheck (Operand.tmp 3), type := 0, pos := "job.go:114", after := #[{ on := 1, ground := Ground.data }], guard := none } : Oper)) (v := ?_) rfl (by kernel_rfl) (by kernel_rfl) (by kernel_rfl) (fun _ _ _ h => h) (Or.inl ⟨by rfl, ?_⟩) hS ?_
  rotate_left
  · (intro w hSw; (try dsimp only at hSw); go_simp; try with_reducible rfl)
  (try simp only [Act.put, List.setIfInBounds_toArray, List.set_cons_zero, List.set_cons_succ])
  refine wpAnyH_take (i := 3) (oi := ({ dst := some 5, op := Op.fieldAddr 55 (Operand.tmp 4) 1, type := 0, pos := "job.go:114", after := #[{ on := 2, ground := Ground.data }], guard := none } : Oper)) (v := ?_) rfl (by kernel_rfl) (by kernel_rfl) (by kernel_rfl) (fun _ _ _ h => h) (Or.inl ⟨by rfl, ?_⟩) hS ?_
  rotate_left
  · (intro w hSw; (try dsimp only at hSw); go_simp; try with_reducible rfl)
  (try simp only [Act.put, List.setIfInBounds_toArray, List.set_cons_zero, List.set_cons_succ])
  refine wpAnyH_take (i := 4) (oi := ({ dst := some 6, op := Op.load 53 (Operand.tmp 5), type := 53, pos := "job.go:114", after := #[{ on := 3, ground := Ground.data }], guard := none } : Oper)) (v := ?_) rfl (by kernel_rfl) (by kernel_rfl) (by kernel_rfl) (fun _ _ _ h => h) (Or.inl ⟨by rfl, ?_⟩) hS ?_
  rotate_left
  · (intro w hSw; (try dsimp only at hSw); go_simp; try with_reducible rfl)
  (try simp only [Act.put, List.setIfInBounds_toArray, List.set_cons_zero, List.set_cons_succ])
  refine wpAnyH_take (i := 5) (oi := ({ dst := some 7, op := Op.fieldAddr 67 (Operand.tmp 1) 1, type := 0, pos := "job.go:114", after := #[], guard := none } : Oper)) (v := ?_) rfl (by kernel_rfl) (by kernel_rfl) (by kernel_rfl) (fun _ _ _ h => h) (Or.inl ⟨by rfl, ?_⟩) hS ?_
  rotate_left
  · (intro w hSw; (try dsimp only at hSw); go_simp; try with_reducible rfl)
  (try simp only [Act.put, List.setIfInBounds_toArray, List.set_cons_zero, List.set_cons_succ])
  refine wpAnyH_take (i := 6) (oi := ({ dst := some 8, op := Op.load 9 (Operand.tmp 7), type := 9, pos := "job.go:114", after := #[{ on := 5, ground := Ground.data }], guard := none } : Oper)) (v := ?_) rfl (by kernel_rfl) (by kernel_rfl) (by kernel_rfl) (fun _ _ _ h => h) (Or.inl ⟨by rfl, ?_⟩) hS ?_
  rotate_left
  · (intro w hSw; (try dsimp only at hSw); go_simp; try with_reducible rfl)
  (try simp only [Act.put, List.setIfInBounds_toArray, List.set_cons_zero, List.set_cons_succ])
  refine rg_one 7 ({ dst := none, op := Op.call { callee := Callee.builtin Builtin.delete, args := #[Operand.tmp 6, Operand.tmp 8], argTypes := #[53, 9] }, type := 0, pos := "job.go:114", after := #[{ on := 4, ground := Ground.data }, { on := 6, ground := Ground.data }], guard := none } : Oper) (by kernel_rfl) rfl (fun K hK => ?_)
  rw [if_pos (by rfl)]; refine wp_drop (.tmp 6) (.tmp 8) 53 9 rfl 83 Tryd.underlying9 Tryd.underlying53 bm l rfl HJ.out.drew.dk.map s rfl HZ.out ?_; intro w2 HM2 hG2; have HD2 := Lib.hid (HDN.out _ _ HJ.out.drew HM2.out hG2.out); have hN := HJ.out.drew.turned hG2.out
  refine hK.out _ _ ?_ (fun hS1 => ?_)
  · (exact hN)
  clear hK K hS; have hS := hS1; clear hS1
  (try simp only [Act.put])
  refine wpAnyH_done (by kernel_rfl) ?_ _
  clear hS
  go_wp2
  go_end0
  exact ⟨rfl, HD2.out⟩
theorem Jd.ren {w w1 : World} {b bm : Nat} {l : List MF} {d : AD} {s t : ByteArray} {x n : Int} {v : Value} (h : Jd w b bm l d s t x n v w1) :
    w1.cell? ⟨w.heap.size, 0, none⟩ = some (ptr ⟨b, 0, none⟩) ∧ w1.cell? ⟨w.heap.size, 1, none⟩ = some (.string s) ∧ w1.cell? ⟨w.heap.size, 2, none⟩ = some (.string t) ∧ w1.cell? ⟨b, 1, none⟩ = some (.map (some bm)) := by
  obtain ⟨c0, c1, _, _, e1, _⟩ := h.look
  obtain ⟨_, _, c2, _⟩ := h.jb.cells
  exact ⟨c0, c1, c2, e1⟩
theorem rent2 {w1 w2 : World} {b bm g : Nat} {s t : ByteArray} (hg : w1.grownBy w2 (some bm)) (h1 : g ≠ bm) (h2 : b ≠ bm)
    (h : w1.cell? ⟨g, 0, none⟩ = some (ptr ⟨b, 0, none⟩) ∧ w1.cell? ⟨g, 1, none⟩ = some (.string s) ∧ w1.cell? ⟨g, 2, none⟩ = some (.string t) ∧ w1.cell? ⟨b, 1, none⟩ = some (.map (some bm))) :
    w2.cell? ⟨g, 0, none⟩ = some (ptr ⟨b, 0, none⟩) ∧ w2.cell? ⟨g, 1, none⟩ = some (.string s) ∧ w2.cell? ⟨g, 2, none⟩ = some (.string t) ∧ w2.cell? ⟨b, 1, none⟩ = some (.map (some bm)) :=
  ⟨grown_cell hg h1 h.1, grown_cell hg h1 h.2.1, grown_cell hg h1 h.2.2.1, grown_cell hg h2 h.2.2.2⟩
theorem Jd.rent {w w1 w2 : World} {b bm : Nat} {l : List MF} {d : AD} {s t : ByteArray} {x n : Int} {v : Value} (h : Jd w b bm l d s t x n v w1) (hg : w1.grownBy w2 (some bm)) :
    w2.cell? ⟨w.heap.size, 0, none⟩ = some (ptr ⟨b, 0, none⟩) ∧ w2.cell? ⟨w.heap.size, 1, none⟩ = some (.string s) ∧ w2.cell? ⟨w.heap.size, 2, none⟩ = some (.string t) ∧ w2.cell? ⟨b, 1, none⟩ = some (.map (some bm)) := rent2 hg h.ne.1 h.ne.2 h.ren
set_option maxRecDepth 8000 in
set_option maxHeartbeats 1000000 in
theorem prename_any (F : Nat → Bool) (w : World) (b bm : Nat) (l : List MF) (d : AD) (s t : ByteArray) (x n : Int) (va : Option Addr) (vm vc : Nat) (h : Dk w b bm l d) (hg : Good d) (hF : ∀ k, own b bm l k → F k = true) (hs : s.size ≤ 281474976710656) (ht : t.size ≤ 281474976710656) (hst : t ≠ s) (hh : d.has s) :
    Calls Tryd.prog 50 #[jobV ⟨b, 0, none⟩ s t x n (.slice va vm vc)] w fun e w' => e = .returned (.tuple #[]) ∧ Done F w b bm l ((d.without s).withF { d.get s with name := t }) w' := by
  have HJ := Lib.hid (Jd.start h s t x n (.slice va vm vc))
  have HZ := Lib.hid (size_le hs)
  have HT := Lib.hid (size_le ht)
  have HL := Lib.hid (show l.length < maxLen by have := hg.few; rw [h.files, List.length_map] at this; unfold maxLen; omega)
  obtain ⟨y, hy, hf, hym, hl⟩ := h.has s hh
  have hname := d.get_name s hh
  rw [← hf] at hname
  have HLK := Lib.hid hl
  obtain ⟨z, hz⟩ : ∃ z : MF, z = ⟨{ y.f with name := t }, y.g, y.c⟩ := ⟨_, rfl⟩
  have HZV : Hid (y.v = z.v ∧ MF.nm z = t) := Lib.hid (by rw [hz]; exact ⟨rfl, rfl⟩)
  have HDN : Hid (∀ w1 w2 w3, Jd w b bm l d s t x n (.slice va vm vc) w1 → MapOf w3 bm (outBy MF.nm (inBy MF.nm (outBy MF.nm l t) z) s) → w1.grownBy w2 (some bm) → w2.grownBy w3 (some bm) → Done F w b bm l ((d.without s).withF { d.get s with name := t }) w3) := Lib.hid fun w1 w2 w3 h1 h2 h3 h4 => by
    have hG := grown_trans h3 h4
    have hsub : (outBy MF.nm l t).Sublist l := List.filter_sublist
    rw [out_in ((h1.dk.asc hg).sublist hsub) z s (by rw [HZV.out.2]; exact hst), out_comm] at h2
    have hap : ∀ u ∈ outBy MF.nm (outBy MF.nm l s) t, u.g ≠ z.g := fun u hu e => by
      obtain ⟨hu1, _⟩ := mem_out.1 hu
      obtain ⟨hu2, hu3⟩ := mem_out.1 hu1
      have hgz : z.g = y.g := by rw [hz]
      rw [hgz] at e
      have hinj := nodup_inj h1.dk.nodup hu2 hym e
      exact hu3 (by rw [hinj]; exact hname)
    refine ⟨_, h1.dk.turn ⟨rfl, rfl, rfl, rfl, rfl⟩ hG h2 ?_ (nodup_in (nodup_out (nodup_out h1.dk.nodup s) t) z hap) ?_, (Ext.below h1.below).grown hG (.inl (hF _ (.inr (.inl rfl)))), ?_⟩
    · intro u hu
      rcases mem_in.1 hu with rfl | hu
      · rw [hz]; exact h1.dk.row y hym
      · exact h1.dk.row u (mem_out.1 (mem_out.1 hu).1).1
    · rw [map_in, map_out, map_out, ← h1.dk.files, hz, ← hf]; rfl
    · rintro k (rfl | rfl | ⟨u, hu, rfl⟩) _
      · exact .inl rfl
      · exact .inr (.inl rfl)
      · rcases mem_in.1 hu with rfl | hu
        · exact .inr (.inr ⟨y, hym, by rw [hz]⟩)
        · exact .inr (.inr ⟨u, (mem_out.1 (mem_out.1 hu).1).1, rfl⟩)
  clear h hs ht hg hy hf hym hl hname hz hh hst
  go_enter Tryd.func50, Tryd.ntmps50
  go_wp2
  refine wp_region_held_drew (S := (fun w' => w'.cell? ⟨w.heap.size, 0, none⟩ = some (ptr ⟨b, 0, none⟩) ∧ w'.cell? ⟨w.heap.size, 1, none⟩ = some (.string s) ∧ w'.cell? ⟨w.heap.size, 2, none⟩ = some (.string t) ∧ w'.cell? ⟨b, 1, none⟩ = some (.map (some bm)))) (by kernel_rfl) HJ.out.drew.ren (fun hS => ?_)
  refine wpAnyH_take (i := 0) (oi := ({ dst := some 2, op := Op.fieldAddr 67 (Operand.tmp 1) 0, type := 0, pos := "job.go:109", after := #[], guard := none } : Oper)) (v := ?_) rfl (by kernel_rfl) (by kernel_rfl) (by kernel_rfl) (fun _ _ _ h => h) (Or.inl ⟨by rfl, ?_⟩) hS ?_
  rotate_left
  · (intro w hSw; (try dsimp only at hSw); go_simp; try with_reducible rfl)
  (try simp only [Act.put, List.setIfInBounds_toArray, List.set_cons_zero, List.set_cons_succ])
  refine wpAnyH_take (i := 1) (oi := ({ dst := some 3, op := Op.load 24 (Operand.tmp 2), type := 24, pos := "job.go:109", after := #[{ on := 0, ground := Ground.data }], guard := none } : Oper)) (v := ?_) rfl (by kernel_rfl) (by kernel_rfl) (by kernel_rfl) (fun _ _ _ h => h) (Or.inl ⟨by rfl, ?_⟩) hS ?_
  rotate_left
  · (intro w hSw; (try dsimp only at hSw); go_simp; try with_reducible rfl)
  (try simp only [Act.put, List.setIfInBounds_toArray, List.set_cons_zero, List.set_cons_succ])
  refine wpAnyH_take (i := 2) (oi := ({ dst := some 4, op := Op.nilCheck (Operand.tmp 3), type := 0, pos := "job.go:109", after := #[{ on := 1, ground := Ground.data }], guard := none } : Oper)) (v := ?_) rfl (by kernel_rfl) (by kernel_rfl) (by kernel_rfl) (fun _ _ _ h => h) (Or.inl ⟨by rfl, ?_⟩) hS ?_
  rotate_left
  · (intro w hSw; (try dsimp only at hSw); go_simp; try with_reducible rfl)
  (try simp only [Act.put, List.setIfInBounds_toArray, List.set_cons_zero, List.set_cons_succ])
  refine wpAnyH_take (i := 3) (oi := ({ dst := some 5, op := Op.fieldAddr 55 (Operand.tmp 4) 1, type := 0, pos := "job.go:109", after := #[{ on := 2, ground := Ground.data }], guard := none } : Oper)) (v := ?_) rfl (by kernel_rfl) (by kernel_rfl) (by kernel_rfl) (fun _ _ _ h => h) (Or.inl ⟨by rfl, ?_⟩) hS ?_
  rotate_left
  · (intro w hSw; (try dsimp only at hSw); go_simp; try with_reducible rfl)
  (try simp only [Act.put, List.setIfInBounds_toArray, List.set_cons_zero, List.set_cons_succ])
  refine wpAnyH_take (i := 4) (oi := ({ dst := some 6, op := Op.load 53 (Operand.tmp 5), type := 53, pos := "job.go:109", after := #[{ on := 3, ground := Ground.data }], guard := none } : Oper)) (v := ?_) rfl (by kernel_rfl) (by kernel_rfl) (by kernel_rfl) (fun _ _ _ h => h) (Or.inl ⟨by rfl, ?_⟩) hS ?_
  rotate_left
  · (intro w hSw; (try dsimp only at hSw); go_simp; try with_reducible rfl)
  (try simp only [Act.put, List.setIfInBounds_toArray, List.set_cons_zero, List.set_cons_succ])
  refine wpAnyH_take (i := 5) (oi := ({ dst := some 7, op := Op.fieldAddr 67 (Operand.tmp 1) 2, type := 0, pos := "job.go:109", after := #[], guard := none } : Oper)) (v := ?_) rfl (by kernel_rfl) (by kernel_rfl) (by kernel_rfl) (fun _ _ _ h => h) (Or.inl ⟨by rfl, ?_⟩) hS ?_
  rotate_left
  · (intro w hSw; (try dsimp only at hSw); go_simp; try with_reducible rfl)
  (try simp only [Act.put, List.setIfInBounds_toArray, List.set_cons_zero, List.set_cons_succ])
  refine wpAnyH_take (i := 6) (oi := ({ dst := some 8, op := Op.load 9 (Operand.tmp 7), type := 9, pos := "job.go:109", after := #[{ on := 5, ground := Ground.data }], guard := none } : Oper)) (v := ?_) rfl (by kernel_rfl) (by kernel_rfl) (by kernel_rfl) (fun _ _ _ h => h) (Or.inl ⟨by rfl, ?_⟩) hS ?_
  rotate_left
  · (intro w hSw; (try dsimp only at hSw); go_simp; try with_reducible rfl)
  (try simp only [Act.put, List.setIfInBounds_toArray, List.set_cons_zero, List.set_cons_succ])
  refine wpAnyH_take (i := 7) (oi := ({ dst := some 9, op := Op.fieldAddr 67 (Operand.tmp 1) 0, type := 0, pos := "job.go:109", after := #[], guard := none } : Oper)) (v := ?_) rfl (by kernel_rfl) (by kernel_rfl) (by kernel_rfl) (fun _ _ _ h => h) (Or.inl ⟨by rfl, ?_⟩) hS ?_
  rotate_left
  · (intro w hSw; (try dsimp only at hSw); go_simp; try with_reducible rfl)
  (try simp only [Act.put, List.setIfInBounds_toArray, List.set_cons_zero, List.set_cons_succ])
  refine wpAnyH_take (i := 8) (oi := ({ dst := some 10, op := Op.load 24 (Operand.tmp 9), type := 24, pos := "job.go:109", after := #[{ on := 7, ground := Ground.data }], guard := none } : Oper)) (v := ?_) rfl (by kernel_rfl) (by kernel_rfl) (by kernel_rfl) (fun _ _ _ h => h) (Or.inl ⟨by rfl, ?_⟩) hS ?_
  rotate_left
  · (intro w hSw; (try dsimp only at hSw); go_simp; try with_reducible rfl)
  (try simp only [Act.put, List.setIfInBounds_toArray, List.set_cons_zero, List.set_cons_succ])
  refine wpAnyH_take (i := 9) (oi := ({ dst := some 11, op := Op.nilCheck (Operand.tmp 10), type := 0, pos := "job.go:109", after := #[{ on := 8, ground := Ground.data }], guard := none } : Oper)) (v := ?_) rfl (by kernel_rfl) (by kernel_rfl) (by kernel_rfl) (fun _ _ _ h => h) (Or.inl ⟨by rfl, ?_⟩) hS ?_
  rotate_left
  · (intro w hSw; (try dsimp only at hSw); go_simp; try with_reducible rfl)
  (try simp only [Act.put, List.setIfInBounds_toArray, List.set_cons_zero, List.set_cons_succ])
  refine wpAnyH_take (i := 10) (oi := ({ dst := some 12, op := Op.fieldAddr 55 (Operand.tmp 11) 1, type := 0, pos := "job.go:109", after := #[{ on := 9, ground := Ground.data }], guard := none } : Oper)) (v := ?_) rfl (by kernel_rfl) (by kernel_rfl) (by kernel_rfl) (fun _ _ _ h => h) (Or.inl ⟨by rfl, ?_⟩) hS ?_
  rotate_left
  · (intro w hSw; (try dsimp only at hSw); go_simp; try with_reducible rfl)
  (try simp only [Act.put, List.setIfInBounds_toArray, List.set_cons_zero, List.set_cons_succ])
  refine wpAnyH_take (i := 11) (oi := ({ dst := some 13, op := Op.load 53 (Operand.tmp 12), type := 53, pos := "job.go:109", after := #[{ on := 10, ground := Ground.data }], guard := none } : Oper)) (v := ?_) rfl (by kernel_rfl) (by kernel_rfl) (by kernel_rfl) (fun _ _ _ h => h) (Or.inl ⟨by rfl, ?_⟩) hS ?_
  rotate_left
  · (intro w hSw; (try dsimp only at hSw); go_simp; try with_reducible rfl)
  (try simp only [Act.put, List.setIfInBounds_toArray, List.set_cons_zero, List.set_cons_succ])
  refine wpAnyH_take (i := 12) (oi := ({ dst := some 14, op := Op.fieldAddr 67 (Operand.tmp 1) 1, type := 0, pos := "job.go:109", after := #[], guard := none } : Oper)) (v := ?_) rfl (by kernel_rfl) (by kernel_rfl) (by kernel_rfl) (fun _ _ _ h => h) (Or.inl ⟨by rfl, ?_⟩) hS ?_
  rotate_left
  · (intro w hSw; (try dsimp only at hSw); go_simp; try with_reducible rfl)
  (try simp only [Act.put, List.setIfInBounds_toArray, List.set_cons_zero, List.set_cons_succ])
  refine wpAnyH_take (i := 13) (oi := ({ dst := some 15, op := Op.load 9 (Operand.tmp 14), type := 9, pos := "job.go:109", after := #[{ on := 12, ground := Ground.data }], guard := none } : Oper)) (v := ?_) rfl (by kernel_rfl) (by kernel_rfl) (by kernel_rfl) (fun _ _ _ h => h) (Or.inl ⟨by rfl, ?_⟩) hS ?_
  rotate_left
  · (intro w hSw; (try dsimp only at hSw); go_simp; try with_reducible rfl)
  (try simp only [Act.put, List.setIfInBounds_toArray, List.set_cons_zero, List.set_cons_succ])
  refine rg_one 14 ({ dst := some 16, op := Op.lookup 53 (Operand.tmp 13) (Operand.tmp 15) false, type := 83, pos := "job.go:109", after := #[{ on := 11, ground := Ground.data }, { on := 13, ground := Ground.data }], guard := none } : Oper) (by kernel_rfl) rfl (fun K hK => ?_)
  rw [if_pos (by rfl)]; refine wp_look secE (.tmp 13) (.tmp 15) 53 rfl 9 83 Tryd.underlying9 Tryd.underlying53 (zeroS _) bm l rfl HJ.out.drew.dk.map s rfl HZ.out ?_; rw [HLK.out, HZV.out.1]
  refine hK.out _ _ ?_ (fun hS1 => ?_)
  · (first | exact hN | exact hS)
  clear hK K hS; have hS := hS1; clear hS1
  (try simp only [Act.put, List.setIfInBounds_toArray, List.set_cons_zero, List.set_cons_succ])
  refine rg_one 15 ({ dst := none, op := Op.mapUpdate 53 (Operand.tmp 6) (Operand.tmp 8) (Operand.tmp 16), type := 0, pos := "job.go:109", after := #[{ on := 4, ground := Ground.data }, { on := 6, ground := Ground.data }, { on := 14, ground := Ground.data }, { on := 0, ground := Ground.phase }, { on := 1, ground := Ground.phase }, { on := 2, ground := Ground.phase }, { on := 3, ground := Ground.phase }, { on := 4, ground := Ground.phase }, { on := 5, ground := Ground.phase }, { on := 6, ground := Ground.phase }, { on := 7, ground := Ground.phase }, { on := 8, ground := Ground.phase }, { on := 9, ground := Ground.phase }, { on := 10, ground := Ground.phase }, { on := 11, ground := Ground.phase }, { on := 12, ground := Ground.phase }, { on := 13, ground := Ground.phase }, { on := 14, ground := Ground.phase }], guard := none } : Oper) (by kernel_rfl) rfl (fun K hK => ?_)
  rw [if_pos (by rfl)]; refine wp_put secE (.tmp 6) (.tmp 8) (.tmp 16) 53 rfl 9 83 Tryd.underlying9 Tryd.underlying53 bm l rfl HJ.out.drew.dk.map HL.out z (by rw [HZV.out.2]; rfl) (by rw [HZV.out.2]; exact HT.out) rfl ?_; intro w2 HM2 hG2; rw [HZV.out.2] at HM2; have HG2 := Lib.hid (grown_drew hG2.out); have hN := HJ.out.drew.rent hG2.out
  refine hK.out _ _ ?_ (fun hS1 => ?_)
  · (first | exact hN | exact hS)
  clear hK K hS; have hS := hS1; clear hS1
  (try simp only [Act.put])
  refine wpAnyH_done (by kernel_rfl) ?_ _
  have HS2 := Lib.hid hS
  clear hS hN hG2
  go_wp2
  refine wp_region_held_drew (S := (fun w' => w'.cell? ⟨w.heap.size, 0, none⟩ = some (ptr ⟨b, 0, none⟩) ∧ w'.cell? ⟨w.heap.size, 1, none⟩ = some (.string s) ∧ w'.cell? ⟨w.heap.size, 2, none⟩ = some (.string t) ∧ w'.cell? ⟨b, 1, none⟩ = some (.map (some bm)))) (by kernel_rfl) HS2.out (fun hS => ?_)
  refine wpAnyH_take (i := 0) (oi := ({ dst := some 17, op := Op.fieldAddr 67 (Operand.tmp 1) 0, type := 0, pos := "job.go:110", after := #[], guard := none } : Oper)) (v := ?_) rfl (by kernel_rfl) (by kernel_rfl) (by kernel_rfl) (fun _ _ _ h => h) (Or.inl ⟨by rfl, ?_⟩) hS ?_
  rotate_left
  · (intro w hSw; (try dsimp only at hSw); go_simp; try with_reducible rfl)
  (try simp only [Act.put, List.setIfInBounds_toArray, List.set_cons_zero, List.set_cons_succ])
  refine wpAnyH_take (i := 1) (oi := ({ dst := some 18, op := Op.load 24 (Operand.tmp 17), type := 24, pos := "job.go:110", after := #[{ on := 0, ground := Ground.data }], guard := none } : Oper)) (v := ?_) rfl (by kernel_rfl) (by kernel_rfl) (by kernel_rfl) (fun _ _ _ h => h) (Or.inl ⟨by rfl, ?_⟩) hS ?_
  rotate_left
  · (intro w hSw; (try dsimp only at hSw); go_simp; try with_reducible rfl)
  (try simp only [Act.put, List.setIfInBounds_toArray, List.set_cons_zero, List.set_cons_succ])
  refine wpAnyH_take (i := 2) (oi := ({ dst := some 19, op := Op.nilCheck (Operand.tmp 18), type := 0, pos := "job.go:110", after := #[{ on := 1, ground := Ground.data }], guard := none } : Oper)) (v := ?_) rfl (by kernel_rfl) (by kernel_rfl) (by kernel_rfl) (fun _ _ _ h => h) (Or.inl ⟨by rfl, ?_⟩) hS ?_
  rotate_left
  · (intro w hSw; (try dsimp only at hSw); go_simp; try with_reducible rfl)
  (try simp only [Act.put, List.setIfInBounds_toArray, List.set_cons_zero, List.set_cons_succ])
  refine wpAnyH_take (i := 3) (oi := ({ dst := some 20, op := Op.fieldAddr 55 (Operand.tmp 19) 1, type := 0, pos := "job.go:110", after := #[{ on := 2, ground := Ground.data }], guard := none } : Oper)) (v := ?_) rfl (by kernel_rfl) (by kernel_rfl) (by kernel_rfl) (fun _ _ _ h => h) (Or.inl ⟨by rfl, ?_⟩) hS ?_
  rotate_left
  · (intro w hSw; (try dsimp only at hSw); go_simp; try with_reducible rfl)
  (try simp only [Act.put, List.setIfInBounds_toArray, List.set_cons_zero, List.set_cons_succ])
  refine wpAnyH_take (i := 4) (oi := ({ dst := some 21, op := Op.load 53 (Operand.tmp 20), type := 53, pos := "job.go:110", after := #[{ on := 3, ground := Ground.data }], guard := none } : Oper)) (v := ?_) rfl (by kernel_rfl) (by kernel_rfl) (by kernel_rfl) (fun _ _ _ h => h) (Or.inl ⟨by rfl, ?_⟩) hS ?_
  rotate_left
  · (intro w hSw; (try dsimp only at hSw); go_simp; try with_reducible rfl)
  (try simp only [Act.put, List.setIfInBounds_toArray, List.set_cons_zero, List.set_cons_succ])
  refine wpAnyH_take (i := 5) (oi := ({ dst := some 22, op := Op.fieldAddr 67 (Operand.tmp 1) 1, type := 0, pos := "job.go:110", after := #[], guard := none } : Oper)) (v := ?_) rfl (by kernel_rfl) (by kernel_rfl) (by kernel_rfl) (fun _ _ _ h => h) (Or.inl ⟨by rfl, ?_⟩) hS ?_
  rotate_left
  · (intro w hSw; (try dsimp only at hSw); go_simp; try with_reducible rfl)
  (try simp only [Act.put, List.setIfInBounds_toArray, List.set_cons_zero, List.set_cons_succ])
  refine wpAnyH_take (i := 6) (oi := ({ dst := some 23, op := Op.load 9 (Operand.tmp 22), type := 9, pos := "job.go:110", after := #[{ on := 5, ground := Ground.data }], guard := none } : Oper)) (v := ?_) rfl (by kernel_rfl) (by kernel_rfl) (by kernel_rfl) (fun _ _ _ h => h) (Or.inl ⟨by rfl, ?_⟩) hS ?_
  rotate_left
  · (intro w hSw; (try dsimp only at hSw); go_simp; try with_reducible rfl)
  (try simp only [Act.put, List.setIfInBounds_toArray, List.set_cons_zero, List.set_cons_succ])
  refine rg_one 7 ({ dst := none, op := Op.call { callee := Callee.builtin Builtin.delete, args := #[Operand.tmp 21, Operand.tmp 23], argTypes := #[53, 9] }, type := 0, pos := "job.go:110", after := #[{ on := 4, ground := Ground.data }, { on := 6, ground := Ground.data }], guard := none } : Oper) (by kernel_rfl) rfl (fun K hK => ?_)
  rw [if_pos (by rfl)]; refine wp_drop (.tmp 21) (.tmp 23) 53 9 rfl 83 Tryd.underlying9 Tryd.underlying53 bm _ rfl (show MapOf w2.drew bm _ from HM2.out) s rfl HZ.out ?_; intro w3 HM3 hG3; have HD3 := Lib.hid (HDN.out _ _ _ HJ.out.drew HM3.out HG2.out hG3.out); have hN := rent2 hG3.out HJ.out.drew.ne.1 HJ.out.drew.ne.2 hS
  refine hK.out _ _ ?_ (fun hS1 => ?_)
  · (exact hN)
  clear hK K hS; have hS := hS1; clear hS1
  (try simp only [Act.put])
  refine wpAnyH_done (by kernel_rfl) ?_ _
  clear hS
  go_wp2
  go_end0
  exact ⟨rfl, HD3.out⟩
end Go.Proofs.YtoempaagpgoilaaDoor
/-
  LAYER 8 (disk), the program's own disk: a file whose sectors are turned (its row alone changes); sync. No condition.
-/
namespace Go.Proofs.YtoempaagpgoilaaDoor
open Go.RowKit
theorem mixN_all (a b : List Int) (ha : a.length = 64) (hb : b.length = 64) : mixN a b 64 = b := by
  unfold mixN; rw [List.take_of_length_le (by omega), List.drop_eq_nil_of_le (by omega), List.append_nil]
end Go.Proofs.YtoempaagpgoilaaDoor
/-
  LAYER 8 (disk), the program's own disk: write: sectors that came in are what is seen from some place on. No condition.
-/
namespace Go.Proofs.YtoempaagpgoilaaDoor
open Go.RowKit
theorem chunk_get (l : List Int) (j q : Nat) (hq : q < 64) : (chunk l j)[q]? = l[j * 64 + q]? := by
  unfold chunk
  rw [List.getElem?_take_of_lt hq, List.getElem?_drop]
theorem chunk_out (l : List Int) (j q : Nat) (hq : ¬ q < 64) : (chunk l j)[q]? = none := by
  unfold chunk
  exact List.getElem?_eq_none (by rw [List.length_take]; omega)
theorem Blk.grown {w w' : World} {b g : Nat} {c : List Int} (h : Blk w b c) (hg : w.grownBy w' (some g)) (hne : b ≠ g) : Blk w' b c :=
  ⟨by rw [hg.block b (Array.getElem?_eq_some_iff.1 h.1).1 (fun e => hne (Option.some.inj e))]; exact h.1, h.2⟩
end Go.Proofs.YtoempaagpgoilaaDoor
/-
  LAYER 8 (disk), the program's own disk: ask and tell, of whatever function they are handed. No condition.
-/
namespace Go.Proofs.YtoempaagpgoilaaDoor
open Go.RowKit
abbrev fnV (fn : Nat) (cs : Array Value) : Value := .func (.func fn) cs #[]
theorem ask_down (w : World) (b bm : Nat) (l : List MF) (d : AD) (h : Dk w b bm l d) (hd : d.down = true) (v : Value) :
    Calls Tryd.prog 42 #[ptr ⟨b, 0, none⟩, v] w fun e w' => e = .returned (.int .i64 9) ∧ w = w' := by
  obtain ⟨fl, lf, hb, _⟩ := h.blk
  obtain ⟨_, _, _, c3, _⟩ := hb.cells
  rw [hd] at c3
  clear hb h hd
  go_enter Tryd.func42, Tryd.ntmps42
  go_wp2
  go_ret
  exact ⟨rfl, rfl⟩
theorem ask_up (w : World) (b bm : Nat) (l : List MF) (d : AD) (h : Dk w b bm l d) (hd : d.down = false) (fn : Nat) (eg : ∀ args w, (callFunc fn args).run Tryd.prog w = .ok (.enter fn args) w) (cs : Array Value) (y : Int)
    (hmay : Calls Tryd.prog fn cs w fun e w' => e = .returned (.int .i64 y) ∧ Below w.heap.size w w') :
    Calls Tryd.prog 42 #[ptr ⟨b, 0, none⟩, fnV fn cs] w fun e w' => e = .returned (.int .i64 y) ∧ Below w.heap.size w w' := by
  obtain ⟨fl, lf, hb, _⟩ := h.blk
  obtain ⟨_, _, _, c3, _⟩ := hb.cells
  rw [hd] at c3
  have HM := Lib.hid hmay
  clear hb h hd hmay
  go_enter Tryd.func42, Tryd.ntmps42
  go_wp2_with (first
    | (with_reducible refine HM.out.mono ?_; rintro e w1 ⟨rfl, hb⟩; have HB := Lib.hid hb; clear hb))
  go_ret
  exact ⟨rfl, HB.out⟩
theorem tell_down (w : World) (b bm : Nat) (l : List MF) (d : AD) (h : Dk w b bm l d) (hd : d.down = true) (v u : Value) :
    Calls Tryd.prog 34 #[ptr ⟨b, 0, none⟩, v, u] w fun e w' => e = .returned (.int .i64 9) ∧ w = w' := by
  have HD := Lib.hid h
  have HDN := Lib.hid hd
  clear h hd
  go_enter Tryd.func34, Tryd.ntmps34
  go_wp2_with (first
    | (go_at_call 42; (with_reducible refine (ask_down _ b bm l d HD.out HDN.out v).mono ?_); rintro e w1 ⟨rfl, rfl⟩))
  go_ret
  exact ⟨rfl, rfl⟩
theorem tell_not (w : World) (b bm : Nat) (l : List MF) (d : AD) (h : Dk w b bm l d) (hd : d.down = false) (fn : Nat) (eg : ∀ args w, (callFunc fn args).run Tryd.prog w = .ok (.enter fn args) w) (cs : Array Value) (y : Int) (hy : ¬ y = 0)
    (hmay : Calls Tryd.prog fn cs w fun e w' => e = .returned (.int .i64 y) ∧ Below w.heap.size w w') (u : Value) :
    Calls Tryd.prog 34 #[ptr ⟨b, 0, none⟩, fnV fn cs, u] w fun e w' => e = .returned (.int .i64 y) ∧ Below w.heap.size w w' := by
  have HA := Lib.hid (ask_up w b bm l d h hd fn eg cs y hmay)
  clear h hd hmay eg
  go_enter Tryd.func34, Tryd.ntmps34
  go_wp2_with (first
    | (go_at_call 42; (with_reducible refine HA.out.mono ?_); rintro e w1 ⟨rfl, hb⟩; have HB := Lib.hid hb; clear hb))
  go_ret
  exact ⟨rfl, HB.out⟩
/-- a cell of the disk's block is turned -/
theorem Dk.cellset {w : World} {b bm : Nat} {l : List MF} {d d' : AD} {fl fl' : Bool} {lf lf' : Int} (h : Dk w b bm l d) (hb : DBk w b bm d fl lf) (j : Nat) (v : Value) (hc : (dCells bm d fl lf).setIfInBounds j v = dCells bm d' fl' lf') (hL : d'.L = d.L) (ht : d'.down = false → fl' = d'.told ∧ lf' = d'.after) :
    Dk (w.setCell ⟨b, j, none⟩ v) b bm l d' ∧ DBk (w.setCell ⟨b, j, none⟩ v) b bm d' fl' lf' := by
  have h1 : DBk (w.setCell ⟨b, j, none⟩ v) b bm d' fl' lf' := by
    have := hb.set j v
    rw [hc] at this; exact this
  have hne := h.ne
  have hk : ∀ k, k ≠ b → (w.setCell ⟨b, j, none⟩ v).heap[k]? = w.heap[k]? := fun k hk => Below.heap_setCell w ⟨b, j, none⟩ v k hk
  exact ⟨⟨⟨fl', lf', h1, ht⟩, h.map.keep (hk _ (fun e => hne.1 e.symm)), fun x hx => (h.row x hx).keep (hk _ (hne.2 x hx).1), h.nodup, by rw [hL, h.files]⟩, h1⟩
theorem Ext.cellset {F : Nat → Bool} {w w' : World} (h : Ext F w w' F) {b : Nat} (hb : F b = true) (j : Nat) (v : Value) : Ext F w (w'.setCell ⟨b, j, none⟩ v) F := h.grown (grown_setCell b j v w') (.inl hb)
theorem Done.trans {F : Nat → Bool} {w w1 w2 : World} {b bm : Nat} {l : List MF} {d : AD} (hx : Ext F w w1 F) (h : Done F w1 b bm l d w2) : Done F w b bm l d w2 := by
  obtain ⟨l', h1, h2, h3⟩ := h
  exact ⟨l', h1, hx.trans h2, fun k hk hl => h3 k hk (Nat.lt_of_lt_of_le hl hx.size)⟩
set_option maxRecDepth 8000 in
theorem tell_dies (F : Nat → Bool) (w : World) (b bm : Nat) (l : List MF) (d : AD) (h : Dk w b bm l d) (hF : ∀ k, own b bm l k → F k = true) (hd : d.down = false) (hto : d.told = true ∧ d.after = 0) (fn : Nat) (eg : ∀ args w, (callFunc fn args).run Tryd.prog w = .ok (.enter fn args) w) (cs : Array Value)
    (hmay : Calls Tryd.prog fn cs w fun e w' => e = .returned (.int .i64 0) ∧ Below w.heap.size w w') (u : Value) :
    Calls Tryd.prog 34 #[ptr ⟨b, 0, none⟩, fnV fn cs, u] w fun e w' => e = .returned (.int .i64 9) ∧ Done F w b bm l d.opd w' := by
  have HA := Lib.hid (ask_up w b bm l d h hd fn eg cs 0 hmay)
  obtain ⟨fl, lf, hb, ht⟩ := h.blk
  obtain ⟨h1, h2⟩ := ht hd
  rw [hto.1] at h1
  rw [hto.2] at h2
  subst h1; subst h2
  have HDN : Hid (∀ w1, Below w.heap.size w w1 → DBk w1 b bm d true 0 ∧ Done F w b bm l d.opd (w1.setCell ⟨b, 3, none⟩ (.bool true))) := Lib.hid fun w1 hb1 => by
    have hk := h.lt b (.inl rfl)
    have h1 : DBk w1 b bm d true 0 := (hb1.block b hk).trans hb
    have h2 := (h.below hb1).cellset (d' := d.opd) (fl' := true) (lf' := 0) h1 3 (.bool true) (by unfold AD.opd; rw [if_pos hto]; rfl) d.opd_L (by unfold AD.opd; rw [if_pos hto]; intro h; simp at h)
    exact ⟨h1, l, h2.1, (Ext.below hb1).cellset (hF b (.inl rfl)) _ _, fun k hk _ => hk⟩
  clear h hd hmay eg hto ht hb
  go_enter Tryd.func34, Tryd.ntmps34
  go_wp2_with (first
    | (go_at_call 42; (with_reducible refine HA.out.mono ?_); rintro e w1 ⟨rfl, hb⟩; obtain ⟨hdb, hdn⟩ := HDN.out w1 hb; have HDD := Lib.hid hdn; obtain ⟨c0, c1, c2, c3, c4, c5⟩ := hdb.cells; have z3 := hdb.frozen 3; clear hb hdb hdn))
  go_ret
  exact ⟨rfl, HDD.out⟩
set_option maxRecDepth 8000 in
theorem tell_does (F : Nat → Bool) (w : World) (b bm : Nat) (l : List MF) (d d2 : AD) (h : Dk w b bm l d) (hF : ∀ k, own b bm l k → F k = true) (hd : d.down = false) (hto : ¬ (d.told = true ∧ d.after = 0)) (fn : Nat) (eg : ∀ args w, (callFunc fn args).run Tryd.prog w = .ok (.enter fn args) w) (cs : Array Value)
    (hmay : Calls Tryd.prog fn cs w fun e w' => e = .returned (.int .i64 0) ∧ Below w.heap.size w w') (fn2 : Nat) (eg2 : ∀ args w, (callFunc fn2 args).run Tryd.prog w = .ok (.enter fn2 args) w) (cs2 : Array Value)
    (hdo : ∀ w1, Ext F w w1 F → Dk w1 b bm l d.opd → Calls Tryd.prog fn2 cs2 w1 fun e w' => e = .returned (.tuple #[]) ∧ Done F w1 b bm l d2 w') :
    Calls Tryd.prog 34 #[ptr ⟨b, 0, none⟩, fnV fn cs, fnV fn2 cs2] w fun e w' => e = .returned (.int .i64 0) ∧ Done F w b bm l d2 w' := by
  have HA := Lib.hid (ask_up w b bm l d h hd fn eg cs 0 hmay)
  have HDO := Lib.hid hdo
  obtain ⟨fl, lf, hb, ht⟩ := h.blk
  obtain ⟨h1, h2⟩ := ht hd
  subst h1; subst h2
  have hbF := hF b (.inl rfl)
  cases hT : d.told with
  | false =>
    have HDN : Hid (∀ w1, Below w.heap.size w w1 → DBk w1 b bm d false d.after ∧ Ext F w (w1.setCell ⟨b, 2, none⟩ (.int .i64 (wrap64 (d.ops + 1)))) F ∧ Dk (w1.setCell ⟨b, 2, none⟩ (.int .i64 (wrap64 (d.ops + 1)))) b bm l d.opd) := Lib.hid fun w1 hb1 => by
      have hk := h.lt b (.inl rfl)
      have h1 : DBk w1 b bm d d.told d.after := (hb1.block b hk).trans hb
      have ho : d.opd = { d with ops := wrap64 (d.ops + 1) } := by unfold AD.opd; rw [if_neg hto, hT]; simp
      have h2 := (h.below hb1).cellset (d' := d.opd) (fl' := d.told) (lf' := d.after) h1 2 (.int .i64 (wrap64 (d.ops + 1))) (by rw [ho]; rfl) d.opd_L (by rw [ho]; intro _; exact ⟨rfl, rfl⟩)
      rw [hT] at h1
      exact ⟨h1, (Ext.below hb1).cellset hbF _ _, h2.1⟩
    clear h hd hmay eg hto ht hb hdo
    go_enter Tryd.func34, Tryd.ntmps34
    go_wp2_with (first
      | (go_at_call 42; (with_reducible refine HA.out.mono ?_); rintro e w1 ⟨rfl, hb⟩; obtain ⟨hdb, hx, hdk⟩ := HDN.out w1 hb; have HX := Lib.hid hx; have HK := Lib.hid hdk; obtain ⟨c0, c1, c2, c3, c4, c5⟩ := hdb.cells; have z2 := hdb.frozen 2; clear hb hdb hx hdk)
      | (with_reducible refine (HDO.out _ HX.out HK.out).mono ?_; rintro e w2 ⟨rfl, hdn⟩; have HDD := Lib.hid (hdn.trans HX.out); clear hdn))
    go_ret
    exact ⟨rfl, HDD.out⟩
  | true =>
    have hne : ¬ d.after = 0 := fun e => hto ⟨hT, e⟩
    have HDN : Hid (∀ w1, Below w.heap.size w w1 → DBk w1 b bm d true d.after ∧ Ext F w ((w1.setCell ⟨b, 5, none⟩ (.int .i64 (wrap64 (d.after - 1)))).setCell ⟨b, 2, none⟩ (.int .i64 (wrap64 (d.ops + 1)))) F ∧ Dk ((w1.setCell ⟨b, 5, none⟩ (.int .i64 (wrap64 (d.after - 1)))).setCell ⟨b, 2, none⟩ (.int .i64 (wrap64 (d.ops + 1)))) b bm l d.opd) := Lib.hid fun w1 hb1 => by
      have hk := h.lt b (.inl rfl)
      have h1 : DBk w1 b bm d d.told d.after := (hb1.block b hk).trans hb
      have ho : d.opd = { d with after := wrap64 (d.after - 1), ops := wrap64 (d.ops + 1) } := by unfold AD.opd; rw [if_neg hto, hT]; simp
      have h2 := (h.below hb1).cellset (d' := { d with after := wrap64 (d.after - 1) }) (fl' := d.told) (lf' := wrap64 (d.after - 1)) h1 5 (.int .i64 (wrap64 (d.after - 1))) (rfl) rfl (fun _ => ⟨rfl, rfl⟩)
      have h3 := h2.1.cellset (d' := d.opd) (fl' := d.told) (lf' := wrap64 (d.after - 1)) h2.2 2 (.int .i64 (wrap64 (d.ops + 1))) (by rw [ho]; rfl) (by rw [d.opd_L]) (by rw [ho]; intro _; exact ⟨rfl, rfl⟩)
      rw [hT] at h1
      exact ⟨h1, ((Ext.below hb1).cellset hbF _ _).cellset hbF _ _, h3.1⟩
    clear h hd hmay eg hto ht hb hdo
    go_enter Tryd.func34, Tryd.ntmps34
    go_wp2_with (first
      | (go_at_call 42; (with_reducible refine HA.out.mono ?_); rintro e w1 ⟨rfl, hb⟩; obtain ⟨hdb, hx, hdk⟩ := HDN.out w1 hb; have HX := Lib.hid hx; have HK := Lib.hid hdk; obtain ⟨c0, c1, c2, c3, c4, c5⟩ := hdb.cells; have z2 := hdb.frozen 2; have z5 := hdb.frozen 5; clear hb hdb hx hdk)
      | (with_reducible refine (HDO.out _ HX.out HK.out).mono ?_; rintro e w2 ⟨rfl, hdn⟩; have HDD := Lib.hid (hdn.trans HX.out); clear hdn))
    go_ret
    exact ⟨rfl, HDD.out⟩
end Go.Proofs.YtoempaagpgoilaaDoor
/-
  LAYER 8 (disk), the program's own disk: Make, Write, Read, Sync, Rename, Remove, Fail, as the laws' walks ask for them. No condition.
-/
namespace Go.Proofs.YtoempaagpgoilaaDoor
open Go.RowKit
abbrev eS : ByteArray := ⟨#[]⟩
/-- what a told op comes to -/
def AD.tellR (d : AD) (y : Int) (g : AD → AD) : AD × Int := if d.down = true then (d, 9) else if y ≠ 0 then (d, y) else d.opR g
theorem Done.same {F : Nat → Bool} {w w' : World} {b bm : Nat} {l : List MF} {d : AD} (h : Dk w b bm l d) (hb : Below w.heap.size w w') : Done F w b bm l d w' := ⟨l, h.below hb, Ext.below hb, fun _ hk _ => hk⟩
theorem tell_any (F : Nat → Bool) (w : World) (b bm : Nat) (l : List MF) (d : AD) (h : Dk w b bm l d) (hF : ∀ k, own b bm l k → F k = true) (fn : Nat) (eg : ∀ args w, (callFunc fn args).run Tryd.prog w = .ok (.enter fn args) w) (cs : Array Value) (y : Int)
    (hmay : Calls Tryd.prog fn cs w fun e w' => e = .returned (.int .i64 y) ∧ Below w.heap.size w w') (fn2 : Nat) (eg2 : ∀ args w, (callFunc fn2 args).run Tryd.prog w = .ok (.enter fn2 args) w) (cs2 : Array Value) (g : AD → AD)
    (hdo : y = 0 → ∀ w1, Ext F w w1 F → Dk w1 b bm l d.opd → Calls Tryd.prog fn2 cs2 w1 fun e w' => e = .returned (.tuple #[]) ∧ Done F w1 b bm l (g d.opd) w') :
    Calls Tryd.prog 34 #[ptr ⟨b, 0, none⟩, fnV fn cs, fnV fn2 cs2] w fun e w' => e = .returned (.int .i64 (d.tellR y g).2) ∧ Done F w b bm l (d.tellR y g).1 w' := by
  unfold AD.tellR
  cases hd : d.down with
  | true =>
    rw [if_pos rfl]
    exact (tell_down w b bm l d h hd _ _).mono (by rintro e w' ⟨rfl, rfl⟩; exact ⟨rfl, .same h (Below.refl _ _)⟩)
  | false =>
    rw [if_neg (by simp)]
    by_cases hy : y = 0
    · subst hy
      rw [if_neg (by simp)]
      by_cases hto : d.told = true ∧ d.after = 0
      · rw [d.opR_not g (by unfold AD.ope; rw [if_pos hto]; simp)]
        exact tell_dies F w b bm l d h hF hd hto fn eg cs hmay _
      · rw [d.opR_done g (by unfold AD.ope; rw [if_neg hto])]
        exact tell_does F w b bm l d _ h hF hd hto fn eg cs hmay fn2 eg2 cs2 (hdo rfl)
    · rw [if_pos hy]
      exact (tell_not w b bm l d h hd fn eg cs y hy hmay _).mono (by rintro e w' ⟨rfl, hb⟩; exact ⟨rfl, .same h hb⟩)
theorem eg43 : ∀ args w, (callFunc 35 args).run Tryd.prog w = .ok (.enter 35 args) w := fun _ _ => by kernel_rfl
theorem eg44 : ∀ args w, (callFunc 36 args).run Tryd.prog w = .ok (.enter 36 args) w := fun _ _ => by kernel_rfl
theorem eg56 : ∀ args w, (callFunc 51 args).run Tryd.prog w = .ok (.enter 51 args) w := fun _ _ => by kernel_rfl
theorem eg57 : ∀ args w, (callFunc 49 args).run Tryd.prog w = .ok (.enter 49 args) w := fun _ _ => by kernel_rfl
theorem eg58 : ∀ args w, (callFunc 50 args).run Tryd.prog w = .ok (.enter 50 args) w := fun _ _ => by kernel_rfl
theorem eg59 : ∀ args w, (callFunc 52 args).run Tryd.prog w = .ok (.enter 52 args) w := fun _ _ => by kernel_rfl
theorem eg60 : ∀ args w, (callFunc 43 args).run Tryd.prog w = .ok (.enter 43 args) w := fun _ _ => by kernel_rfl
theorem mf_run (fn : Fn) (first cap : Array Value) (w : World) : (Instr.makeFunc fn first cap).run Tryd.prog w = .ok (.func fn first cap) w := rfl
theorem Done.dkp {F : Nat → Bool} {w w' : World} {b bm : Nat} {l : List MF} {d : AD} (hF : Foot F w.heap.size) (ho : ∀ k, own b bm l k → F k = true) (h : Done F w b bm l d w') : ∃ F', DKp w' ⟨b, 0, none⟩ F' d ∧ Ext F w w' F' := by
  obtain ⟨l', h1, h2, h3⟩ := h
  exact DKp.done hF h2 h1 fun k hk hl => ho k (h3 k hk hl)
/-- behind a box -/
theorem boxed {F : Nat → Bool} {w w0 : World} {b bm : Nat} {l : List MF} (hF : Foot F w.heap.size) (ho : ∀ k, own b bm l k → F k = true) (hb : Below w.heap.size w w0) (d : AD) : Hid (∀ w', Done F w0 b bm l d w' → ∃ F', DKp w' ⟨b, 0, none⟩ F' d ∧ Ext F w w' F') :=
  Lib.hid fun _ hx => (Done.trans (Ext.below hb) hx).dkp hF ho
set_option maxRecDepth 8000 in
theorem kmake_any (w : World) (p : Addr) (F : Nat → Bool) (d : AD) (s : ByteArray) (n : Int) (h : DKp w p F d) (hg : Good d) (hs : s.size ≤ 281474976710656) (hn : I63 n) :
    Calls Tryd.prog 16 #[ptr p, .string s, .int .i64 n] w fun e w' => ∃ F', e = .returned (.int .i64 (d.makeR s n).2) ∧ DKp w' p F' (d.makeR s n).1 ∧ Ext F w w' F' := by
  obtain ⟨hF, b, bm, l, rfl, hd, ho⟩ := h
  obtain ⟨y, hy⟩ : ∃ y : Int, (if rightB s = false then 10 else if d.has s then 8 else if n < 1 ∨ 64 < n then 4 else if d.cap < (usedN d.L : Int) + n ∨ 64 ≤ d.L.length then 6 else 0) = y := ⟨_, rfl⟩
  have hb0 := below_alloc w (.cells (jobC ⟨b, 0, none⟩ s eS 0 n zS) 67)
  have HK := Lib.hid (hd.below hb0)
  have hmk : d.makeR s n = d.tellR y fun x => x.withF (newF s n.toNat) := by
    unfold AD.makeR AD.tellR
    subst hy
    split
    · rfl
    split
    · rfl
    split
    · rfl
    split
    · rfl
    split <;> rfl
  rw [hmk]
  have HT := Lib.hid (tell_any F _ b bm l d HK.out ho _ eg43 #[jobV ⟨b, 0, none⟩ s eS 0 n zS] y (mayMake_any _ b bm l d s eS 0 n none 0 0 HK.out hg hs hn y hy) _ eg44 #[jobV ⟨b, 0, none⟩ s eS 0 n zS] (fun x => x.withF (newF s n.toNat)) (fun hy0 w1 hx1 hk1 => by
    have hn2 : 1 ≤ n ∧ n ≤ 64 := by
      rw [hy0] at hy
      by_cases h1 : n < 1 ∨ 64 < n
      · exfalso; revert hy
        rw [if_pos h1]
        split
        · simp
        split <;> simp
      · omega
    have hl : l.length ≤ 64 := by have := hg.few; rwa [hd.files, List.length_map] at this
    have := pcreate_any F w1 b bm l d.opd s eS 0 n.toNat none 0 0 hk1 ho hs hl (by omega)
    rwa [show ((n.toNat : Nat) : Int) = n by omega] at this))
  have HD := boxed hF ho hb0 (d.tellR y fun x => x.withF (newF s n.toNat)).1
  obtain ⟨r, hr⟩ : ∃ r, (d.tellR y fun x => x.withF (newF s n.toNat)) = r := ⟨_, rfl⟩
  rw [hr] at HT HD ⊢
  clear hr
  clear hd hy hmk hb0 hg hs hn
  go_enter Tryd.func16, Tryd.ntmps16
  have hmf := mf_run
  go_wp2_with (first
    | (go_at_call 34; (with_reducible refine HT.out.mono ?_); rintro e w1 ⟨rfl, hdn⟩; obtain ⟨F', hk, hx⟩ := HD.out w1 hdn; have HK2 := Lib.hid hk; have HX2 := Lib.hid hx; clear hdn hk hx))
  go_ret
  exact ⟨F', rfl, HK2.out, HX2.out⟩
theorem opd_has (d : AD) (s : ByteArray) : d.opd.has s ↔ d.has s := by unfold AD.has; rw [AD.opd_L]
theorem opd_get (d : AD) (s : ByteArray) : d.opd.get s = d.get s := by unfold AD.get; rw [AD.opd_L]
set_option maxRecDepth 8000 in
theorem kremove_any (w : World) (p : Addr) (F : Nat → Bool) (d : AD) (s : ByteArray) (h : DKp w p F d) (hg : Good d) (hs : s.size ≤ 281474976710656) :
    Calls Tryd.prog 29 #[ptr p, .string s] w fun e w' => ∃ F', e = .returned (.int .i64 (d.removeR s).2) ∧ DKp w' p F' (d.removeR s).1 ∧ Ext F w w' F' := by
  obtain ⟨hF, b, bm, l, rfl, hd, ho⟩ := h
  have hb0 := below_alloc w (.cells (jobC ⟨b, 0, none⟩ s eS 0 0 zS) 67)
  have HK := Lib.hid (hd.below hb0)
  have hmk : d.removeR s = d.tellR (if d.has s then 0 else 7) fun x => x.without s := by
    unfold AD.removeR AD.tellR
    by_cases hh : d.has s
    · rw [if_neg (Decidable.not_not.2 hh), if_pos hh]; rfl
    · rw [if_pos hh, if_neg hh]; rfl
  rw [hmk]
  have HT := Lib.hid (tell_any F _ b bm l d HK.out ho _ eg56 #[jobV ⟨b, 0, none⟩ s eS 0 0 zS] _ (mayFind_any _ b bm l d s eS 0 0 none 0 0 HK.out hg hs) _ eg59 #[jobV ⟨b, 0, none⟩ s eS 0 0 zS] (fun x => x.without s) (fun hy0 w1 hx1 hk1 =>
    premove_any F w1 b bm l d.opd s eS 0 0 none 0 0 hk1 ho hs))
  have HD := boxed hF ho hb0 (d.tellR (if d.has s then 0 else 7) fun x => x.without s).1
  obtain ⟨r, hr⟩ : ∃ r, (d.tellR (if d.has s then 0 else 7) fun x => x.without s) = r := ⟨_, rfl⟩
  rw [hr] at HT HD ⊢
  clear hr
  clear hd hmk hb0 hg hs
  go_enter Tryd.func29, Tryd.ntmps29
  have hmf := mf_run
  go_wp2_with (first
    | (go_at_call 34; (with_reducible refine HT.out.mono ?_); rintro e w1 ⟨rfl, hdn⟩; obtain ⟨F', hk, hx⟩ := HD.out w1 hdn; have HK2 := Lib.hid hk; have HX2 := Lib.hid hx; clear hdn hk hx))
  go_ret
  exact ⟨F', rfl, HK2.out, HX2.out⟩
end Go.Proofs.YtoempaagpgoilaaDoor
