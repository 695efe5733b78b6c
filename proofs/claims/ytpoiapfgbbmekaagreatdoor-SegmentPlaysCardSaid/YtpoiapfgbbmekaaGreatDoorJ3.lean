/-
  TEXTS JOINED: SecsA, SecsB, DiskSecs, Mix, DiskMix, DiskLay, PutMath. Each one's own words stand at its head.
-/
import Derived.Test.YtpoiapfgbbmekaaGreatDoorJ0
import Derived.Test.YtpoiapfgbbmekaaGreatDoorJ1
import Derived.Great.BuildSlice
import Derived.Test.YtpoiapfgbbmekaaGreatDoorJ2
namespace Go.Proofs.YtpoiapfgbbmekaaGreatDoor
open Go.RowKit
end Go.Proofs.YtpoiapfgbbmekaaGreatDoor
namespace Go.Proofs.YtpoiapfgbbmekaaGreatDoor
open Go.RowKit
section
variable {w : World} {ops : Array Oper} {rest : List Oper} {o : Oper} {a : Act} {Q : Exit → Act → World → Prop}
theorem wpl_app_fs (hgd : o.guard = none) (s x : Operand)
    (ho : o.op = .call { callee := .builtin .append, args := #[s, x], argTypes := #[35, 35] })
    (base : Nat) (v : Value) (n : Nat) (fs : List Int) (hs : a.eval s = v) (hown : Hid (w.ownsRow base 63 64 v n (il .u8 fs)))
    (v2 : Value) (m : Nat) (gs : List Int) (hx : a.eval x = v2) (hfs : Hid (FS w v2 m gs)) (hn : n + m ≤ 1000000000000)
    (B : Nat) (W : World) (hb : Hid (Below B W w)) (hB : B ≤ base) (hbase : base ≤ w.heap.size)
    (h : ∀ v' w', Hid (w'.ownsRow base 63 64 v' (n + m) (il .u8 (fs ++ gs))) → Hid (Below B W w') → Hid (w.grownBy w' v.ownBlock) → wpList Tryz.prog ops Q rest (a.put o.dst v') w') : wpList Tryz.prog ops Q (o :: rest) a w := by
  obtain ⟨i, hi, hz0, hz1, hz2⟩ := info_parts sec_parts
  obtain ⟨ad, cap, rfl, hl, hlc, hc63, hnil, hc⟩ := hfs.out
  cases ad with
  | none =>
    obtain rfl : cap = 0 := hnil rfl
    obtain rfl : m = 0 := by omega
    obtain rfl : gs = [] := List.length_eq_zero_iff.1 (by omega)
    refine wpList_append_own_none hgd s x 35 ho base 63 i 64 Tryz.underlying35 hi v n (il .u8 fs) hs hown.out hx ?_
    exact h v w (by rw [List.append_nil]; exact hown) hb (Lib.hid ⟨rfl, rfl, rfl, Nat.le_refl _, fun _ _ _ => rfl⟩)
  | some ad =>
    refine wpList_append_own_wide w hgd s x 35 ho base 63 i (.agg (sv z64)) 64 64 Tryz.underlying35 hi hz0 hz1 hz2 rfl (by omega) v n (il .u8 fs) hs hown.out ad m cap (il .u8 gs) hx (by rw [il_length]; omega) ?_ (il_one _ _) (by unfold maxLen; omega) (by omega) hbase ?_
    · intro j u hj
      have hjl : j < gs.length := by have := (List.getElem?_eq_some_iff.1 hj).1; rwa [il_length] at this
      obtain ⟨b, off, e1, hcell⟩ := hc (by omega)
      obtain rfl := Option.some.inj e1
      rw [il_get _ _ _ hjl] at hj
      obtain rfl := Option.some.inj hj
      have := hcell j (by omega)
      by_cases h0 : j = 0
      · subst h0; simpa [Addr.add] using this
      · simpa [Addr.add, h0] using this
    · intro v' w' h1 h2 _
      exact h v' w' (by rw [il_append]; exact h1) (hb.out.grown h2 (by omega) (fun q hq => by have := (hown.out.lt q hq).1; omega)) h2
end
theorem fold_set (l : List Value) : ∀ (k : Nat) (cs : Array Value) (i : Nat), ((l.zipIdx k).foldl (fun cs (p : Value × Nat) => cs.setIfInBounds (0 + p.2) p.1) cs)[i]? = if k ≤ i ∧ i < k + l.length ∧ i < cs.size then l[i - k]? else cs[i]? := by
  induction l with
  | nil => intro k cs i; simp; intro h1 h2; omega
  | cons x l ih =>
    intro k cs i
    rw [List.zipIdx_cons, List.foldl_cons, ih (k + 1)]
    simp only [Array.size_setIfInBounds, List.length_cons, Nat.zero_add]
    by_cases h1 : k + 1 ≤ i ∧ i < k + 1 + l.length ∧ i < cs.size
    · rw [if_pos h1, if_pos (by omega), show i - k = (i - (k + 1)) + 1 from by omega, List.getElem?_cons_succ]
    · rw [if_neg h1]
      by_cases h2 : i = k
      · subst h2
        by_cases h3 : i < cs.size
        · rw [if_pos (by omega)]; simp [h3]
        · rw [if_neg (by omega)]; simp [h3]
      · rw [if_neg (by omega), Array.getElem?_setIfInBounds_ne (Ne.symm h2)]
theorem fill_sec (z : List Int) (hz : z.length = 64) (cs : Array Value) (hc : cs.size = 64) : Instr.fill (fun i => some (i * 64, 64)) cs [(0, .agg (sv z))] = some (sv z) := by
  have h0 : (Value.agg (sv z)).cells = sv z := rfl
  have hs : (sv z).size = 64 := by rw [sv_size, hz]
  simp only [Instr.fill, h0, hs, Nat.zero_mul, Nat.zero_add, hc]
  rw [if_neg (by simp)]
  refine congrArg some ?_
  refine Array.ext_getElem? fun i => ?_
  rw [← Array.foldl_toList, Array.toList_zipIdx]
  have := fold_set (sv z).toList 0 cs i
  simp only [Nat.zero_add] at this
  rw [this]
  by_cases hi : i < 64
  · rw [if_pos (by simp [hs, hc]; omega)]; simp
  · rw [if_neg (by omega), Array.getElem?_eq_none (by omega), Array.getElem?_eq_none (by omega)]
theorem wpl_build_sec {w : World} {ops : Array Oper} {rest : List Oper} {o : Oper} {a : Act} {Q : Exit → Act → World → Prop} (hgd : o.guard = none) (x : Operand) (ho : o.op = .buildSlice 35 1 #[(0, x)]) (z : List Int) (hz : z.length = 64) (hx : a.eval x = .agg (sv z))
    (h : wpList Tryz.prog ops Q rest (a.put o.dst (.slice (some ⟨w.heap.size, 0, none⟩) 1 1)) (w.alloc (.cells (sv z) 63))) : wpList Tryz.prog ops Q (o :: rest) a w := by
  obtain ⟨i, hi, hz0, hz1, hz2⟩ := info_parts sec_parts
  refine wpList_buildSlice hgd 35 63 1 _ ho (sv z) i (.agg (sv z64)) Tryz.underlying35 hi hz0 (by rw [hz1]; omega) (by rw [hz1]; omega) ?_ h
  rw [hz1]
  simpa [hx] using fill_sec z hz _ (by simp)
theorem FS.blk {w : World} {g : Nat} {z : List Int} (h : Blk w g z) : FS w (.slice (some ⟨g, 0, none⟩) 1 1) 1 z :=
  ⟨_, 1, rfl, by rw [h.2], Nat.le_refl _, by omega, fun h => by simp at h, fun _ => ⟨g, 0, rfl, fun j hj => by rw [Nat.zero_add]; exact h.cell j (by omega)⟩⟩
theorem FS.mid {w : World} {a : Option Addr} {n cap : Nat} {fs : List Int} (h : FS w (.slice a n cap) n fs) (m d : Nat) (hm : m + d ≤ n) : FS w (sliced a m (m + d) cap 64) d ((fs.drop (m * 64)).take (d * 64)) := by
  obtain ⟨a', cap', e, h1, h2, h3, h4, hcell⟩ := h
  simp only [Value.slice.injEq, true_and] at e
  obtain ⟨rfl, rfl⟩ := e
  have hl : ((fs.drop (m * 64)).take (d * 64)).length = d * 64 := by simp; omega
  unfold sliced
  rw [show m + d - m = d from by omega]
  by_cases h0 : cap = m
  · rw [if_pos h0]
    exact ⟨a, cap - m, rfl, hl, by omega, by omega, fun _ => by omega, fun h => absurd h (by omega)⟩
  · rw [if_neg h0]
    cases a with
    | none => have := h4 rfl; omega
    | some x =>
      refine ⟨some (x.add (m * 64)), cap - m, rfl, hl, by omega, by omega, fun h => by simp at h, fun hp => ?_⟩
      obtain ⟨b, off, hx, hcl⟩ := hcell (by omega)
      obtain rfl := Option.some.inj hx
      refine ⟨b, off + m * 64, by simp [Addr.add], fun j hj => ?_⟩
      have := hcl (m * 64 + j) (by omega)
      rw [Nat.add_assoc, this]
      simp only [List.getD, List.getElem?_take, hj, if_true, List.getElem?_drop]
end Go.Proofs.YtpoiapfgbbmekaaGreatDoor
namespace Go.Proofs.YtpoiapfgbbmekaaGreatDoor
open Go.RowKit
section
variable {w : World} {ops : Array Oper} {rest : List Oper} {o : Oper} {a : Act} {Q : Exit → Act → World → Prop}
theorem wpl_app_bool (hgd : o.guard = none) (s x : Operand)
    (ho : o.op = .call { callee := .builtin .append, args := #[s, x], argTypes := #[83, 83] })
    (base : Nat) (v : Value) (n : Nat) (bs : List Bool) (hs : a.eval s = v) (hown : Hid (w.ownsRow base 4 1 v n (bs.map .bool)))
    (g : Nat) (y : Bool) (hx : a.eval x = .slice (some ⟨g, 0, none⟩) 1 1) (hcell : w.cell? ⟨g, 0, none⟩ = some (.bool y)) (hn : n ≤ 1000000000000)
    (B : Nat) (W : World) (hb : Hid (Below B W w)) (hB : B ≤ base) (hbase : base ≤ w.heap.size)
    (h : ∀ v' w', Hid (w'.ownsRow base 4 1 v' (n + 1) ((bs ++ [y]).map .bool)) → Hid (Below B W w') → Hid (w.grownBy w' v.ownBlock) → wpList Tryz.prog ops Q rest (a.put o.dst v') w') : wpList Tryz.prog ops Q (o :: rest) a w := by
  obtain ⟨i, hi, hz0, hz1, hz2⟩ := info_parts bool_parts
  refine wpList_append_own_wide w hgd s x 83 ho base 4 i (.bool false) 1 1 Tryz.underlying83 hi hz0 hz1 hz2 rfl (by omega) v n (bs.map .bool) hs hown.out ⟨g, 0, none⟩ 1 1 [.bool y] hx rfl ?_ (by simp [Value.oneCell']) (by unfold maxLen; omega) (by omega) hbase ?_
  · intro j u hj
    match j, hj with
    | 0, hj => simp at hj; subst hj; simpa [Addr.add] using hcell
  · intro v' w' h1 h2 _
    exact h v' w' (by rw [List.map_append]; exact h1) (hb.out.grown h2 (by omega) (fun q hq => by have := (hown.out.lt q hq).1; omega)) h2
end
end Go.Proofs.YtpoiapfgbbmekaaGreatDoor
namespace Go.Proofs.YtpoiapfgbbmekaaGreatDoor
open Go.RowKit
def mixN (old nx : List Int) (k : Nat) : List Int := nx.take k ++ old.drop k
def cutN (cut : Int) : Nat := (min (max cut 0) 64).toNat
theorem mixN_length (old nx : List Int) (k : Nat) (ho : old.length = 64) (hn : nx.length = 64) (hk : k ≤ 64) : (mixN old nx k).length = 64 := by simp [mixN]; omega
theorem mixN_zero (old nx : List Int) : mixN old nx 0 = old := by simp [mixN]
theorem mixN_set (old nx : List Int) (k : Nat) (ho : old.length = 64) (hn : nx.length = 64) (hk : k < 64) : (mixN old nx k).set k (nx.getD k 0) = mixN old nx (k + 1) := by
  refine List.ext_getElem? fun i => ?_
  rw [List.getElem?_set]
  have hl := mixN_length old nx k ho hn (by omega)
  by_cases hik : k = i
  · subst hik
    rw [if_pos rfl, if_pos (by omega)]
    unfold mixN
    rw [List.getElem?_append_left (by simp; omega), List.getElem?_take_of_lt (by omega)]
    simp [List.getD, hn, hk]
  · rw [if_neg hik]
    unfold mixN
    by_cases hi : i < k
    · rw [List.getElem?_append_left (by simp; omega), List.getElem?_append_left (by simp; omega), List.getElem?_take_of_lt hi, List.getElem?_take_of_lt (by omega)]
    · rw [List.getElem?_append_right (by simp; omega), List.getElem?_append_right (by simp; omega), List.getElem?_drop, List.getElem?_drop]
      congr 1; simp; omega
structure Mx (W : World) (l nx : List Int) (w : World) : Prop where
  below : Below W.heap.size W w
  nxt : Blk w (W.heap.size + 1) nx
  res : Blk w (W.heap.size + 2) z64
  out : Blk w (W.heap.size + 3) l
theorem Mx.start (W : World) (l nx : List Int) (hl : l.length = 64) (hn : nx.length = 64) : Mx W z64 nx ((((W.alloc (.cells (sv l) 63)).alloc (.cells (sv nx) 63)).alloc (.cells (sv z64) 63)).alloc (.cells (sv z64) 63)) ∧ Blk ((((W.alloc (.cells (sv l) 63)).alloc (.cells (sv nx) 63)).alloc (.cells (sv z64) 63)).alloc (.cells (sv z64) 63)) W.heap.size l := by
  have s0 := alloc_size W (.cells (sv l) 63)
  have b0 := below_alloc W (.cells (sv l) 63)
  have k0 := Blk.new W l hl
  generalize W.alloc (.cells (sv l) 63) = w0 at *
  have s1 := alloc_size w0 (.cells (sv nx) 63)
  have b1 := below_alloc w0 (.cells (sv nx) 63)
  have k1 := Blk.new w0 nx hn
  generalize w0.alloc (.cells (sv nx) 63) = w1 at *
  have s2 := alloc_size w1 (.cells (sv z64) 63)
  have b2 := below_alloc w1 (.cells (sv z64) 63)
  have k2 := Blk.new w1 z64 z64_length
  generalize w1.alloc (.cells (sv z64) 63) = w2 at *
  have b3 := below_alloc w2 (.cells (sv z64) 63)
  have k3 := Blk.new w2 z64 z64_length
  generalize w2.alloc (.cells (sv z64) 63) = w3 at *
  rw [s0] at k1
  rw [s1, s0] at k2
  rw [s2, s1, s0] at k3
  exact ⟨⟨chain (chain (chain b0 b1) b2) b3, (k1.keep b2).keep b3, k2.keep b3, k3⟩, ((k0.keep b1).keep b2).keep b3⟩
theorem Mx.row {W w : World} {l l' nx : List Int} (h : Mx W l nx w) (hl : l'.length = 64) : Mx W l' nx (w.setRow (W.heap.size + 3) (sv l')) :=
  ⟨below_row h.below (by omega) _, h.nxt.row_apart (by omega) _, h.res.row_apart (by omega) _, h.out.row hl⟩
theorem Mx.stored {W w : World} {l nx : List Int} (h : Mx W l nx w) (k : Nat) (z : Int) : Mx W (l.set k z) nx (w.setCell ⟨W.heap.size + 3, k, none⟩ (.int .u8 z)) :=
  ⟨h.below.setCell (by show W.heap.size ≤ W.heap.size + 3; omega) _, h.nxt.apart (by omega) _ _, h.res.apart (by omega) _ _, h.out.stored k z⟩
set_option maxRecDepth 8000 in
set_option maxHeartbeats 1000000 in
theorem rmix_any (old nx : List Int) (cut : Int) (ho : old.length = 64) (hn : nx.length = 64) (hc : I63 cut) (w : World) :
    Calls Tryz.prog 57 #[.agg (sv old), .agg (sv nx), .int .i64 cut] w fun e w' => e = .returned (.agg (sv (mixN old nx (cutN cut)))) ∧ Below w.heap.size w w' := by
  unfold I63 at hc
  obtain ⟨hM, hO⟩ := Mx.start w old nx ho hn
  have HM := Lib.hid hM
  have HO := Lib.hid (((Blk.new w old ho).keep (below_alloc _ (.cells (sv nx) 63))).keep (below_alloc _ (.cells (sv z64) 63)))
  have HOL := Lib.hid ho
  have HNL := Lib.hid hn
  have HZ := Lib.hid z64_cells
  obtain ⟨kc, hkc⟩ : ∃ kc, cutN cut = kc := ⟨_, rfl⟩
  have hkc1 : (kc : Int) = min (max cut 0) 64 := by rw [← hkc]; unfold cutN; omega
  rw [hkc]
  clear hM hO ho hn hkc
  go_enter Tryz.func57, Tryz.ntmps57
  go_wp2_with (first
    | (rw [← HZ.out])
    | (refine wpl_load_sec (by rfl) _ rfl w.heap.size rfl old HO.out ?_)
    | (refine wpList_store_row rfl 63 _ _ rfl (w.heap.size + 3) (sv old) rfl rfl _ (sv z64) HM.out.out.1 (sv_info _ HOL.out) (by rw [sv_size, sv_size, HOL.out, z64_length]) (sv_one _) ?_; generalize hW4 : World.setRow _ _ _ = W4))
  have HM4 : Hid (Mx w (mixN old nx 0) nx W4) := Lib.hid (by rw [← hW4, mixN_zero]; exact HM.out.row HOL.out)
  clear hW4
  go_loopw [8] (fun iv wr => ∃ i : Nat, iv = .int .i64 i ∧ i ≤ kc ∧ Hid (Mx w (mixN old nx i) nx wr)) (fun iv _ => kc - (intOf iv).toNat)
  case atStart => exact ⟨0, rfl, by omega, HM4⟩
  case round =>
    obtain ⟨i, rfl, hi, HI⟩ := hrel
    by_cases hlt : i < kc
    · have h1 : (i : Int) < cut := by omega
      have h2 : (i : Int) < 64 := by omega
      have hcn := HI.out.nxt.cell i (by omega)
      have hco := HI.out.out.cell i (by omega)
      have hfo := HI.out.out.frozen i
      have HST := Lib.hid (mixN_set old nx i HOL.out HNL.out (by omega))
      obtain ⟨z, hz⟩ : ∃ z, nx.getD i 0 = z := ⟨_, rfl⟩
      rw [hz] at hcn HST
      clear hz
      go_wp2
      go_roundw
      case rel => exact ⟨i + 1, by go_num, by omega, Lib.hid (by rw [← HST.out]; exact HI.out.stored i z)⟩
      case measure => simp [intOf]; omega
    · have hq : i = kc := by omega
      subst hq
      have hml := mixN_length old nx i HOL.out HNL.out (by omega)
      have HML := Lib.hid hml
      by_cases h1 : (i : Int) < cut
      · have h2 : ¬ (i : Int) < 64 := by omega
        clear hml
        go_wp2_with (first
          | (refine wpl_load_sec (by rfl) _ rfl (w.heap.size + 3) rfl (mixN old nx i) HI.out.out ?_)
          | (refine wpList_store_row rfl 63 _ _ rfl (w.heap.size + 2) (sv (mixN old nx i)) rfl rfl _ (sv z64) HI.out.res.1 (sv_info _ HML.out) (by rw [sv_size, sv_size, HML.out, z64_length]) (sv_one _) ?_))
        refine bodyPost_ret_by (v := .agg (sv (mixN old nx i))) (results_cell_row rfl _ _ (w.heap.size + 2) _ (sv (mixN old nx i)) (0, 0) _ rfl (HI.out.res.row HML.out).1 Tryz.underlying63 rfl (sv_info _ HML.out)) rfl ⟨rfl, below_row HI.out.below (by omega) _⟩
      · clear hml
        go_wp2_with (first
          | (refine wpl_load_sec (by rfl) _ rfl (w.heap.size + 3) rfl (mixN old nx i) HI.out.out ?_)
          | (refine wpList_store_row rfl 63 _ _ rfl (w.heap.size + 2) (sv (mixN old nx i)) rfl rfl _ (sv z64) HI.out.res.1 (sv_info _ HML.out) (by rw [sv_size, sv_size, HML.out, z64_length]) (sv_one _) ?_))
        refine bodyPost_ret_by (v := .agg (sv (mixN old nx i))) (results_cell_row rfl _ _ (w.heap.size + 2) _ (sv (mixN old nx i)) (0, 0) _ rfl (HI.out.res.row HML.out).1 Tryz.underlying63 rfl (sv_info _ HML.out)) rfl ⟨rfl, below_row HI.out.below (by omega) _⟩
end Go.Proofs.YtpoiapfgbbmekaaGreatDoor
namespace Go.Proofs.YtpoiapfgbbmekaaGreatDoor
open Go.RowKit
theorem newD_run (c : Int) (hc : I63 c) (F : Nat → Bool) (w : World) :
    Calls Tryz.prog 8 #[.int .i64 c] w fun e w' => ∃ v', e = .returned v' ∧ RD (mask F w') v' (AD.newD c) ∧ Below w.heap.size w w' := by
  unfold I63 at hc
  obtain ⟨k, hk⟩ : ∃ k, min (max c 0) 1048576 = k := ⟨_, rfl⟩
  have HK := Lib.hid hk
  clear hk
  by_cases h1 : 1048576 < c
  · go_enter Tryz.func8, Tryz.ntmps8
    go_wp2
    refine bodyPost_ret_by (results_cell_row rfl _ _ w.heap.size _ _ (0, 0) _ rfl (heap_alloc_last w _) Tryz.underlying28 rfl disk_info) rfl ⟨_, rfl, ⟨.slice none 0 0, ?_, FLs.nil _⟩, below_alloc w _⟩
    have : (AD.newD c).cap = 1048576 := by show min (max c 0) 1048576 = 1048576; omega
    simp only [dv, this]; rfl
  · by_cases h2 : c < 0
    · go_enter Tryz.func8, Tryz.ntmps8
      go_wp2
      refine bodyPost_ret_by (results_cell_row rfl _ _ w.heap.size _ _ (0, 0) _ rfl (heap_alloc_last w _) Tryz.underlying28 rfl disk_info) rfl ⟨_, rfl, ⟨.slice none 0 0, ?_, FLs.nil _⟩, below_alloc w _⟩
      have : (AD.newD c).cap = 0 := by show min (max c 0) 1048576 = 0; omega
      simp only [dv, this]; rfl
    · go_enter Tryz.func8, Tryz.ntmps8
      go_wp2
      refine bodyPost_ret_by (results_cell_row rfl _ _ w.heap.size _ _ (0, 0) _ rfl (heap_alloc_last w _) Tryz.underlying28 rfl disk_info) rfl ⟨_, rfl, ⟨.slice none 0 0, ?_, FLs.nil _⟩, below_alloc w _⟩
      have : (AD.newD c).cap = c := by show min (max c 0) 1048576 = c; omega
      simp only [dv, this]; rfl
end Go.Proofs.YtpoiapfgbbmekaaGreatDoor
namespace Go.Proofs.YtpoiapfgbbmekaaGreatDoor
open Go.RowKit
abbrev LFile := ByteArray × Nat × List Int
def LA (w : World) (v : Value) (l : List LFile) : Prop :=
  ∃ es : List (List Value), CS 2 w v l.length es.flatten ∧ es.length = l.length ∧ (∀ e ∈ es, e.length = 2) ∧ ∀ (i : Nat) (e : List Value) (f : LFile), es[i]? = some e → l[i]? = some f → ∃ v1, e = [.string f.1, v1] ∧ FS w v1 f.2.1 f.2.2
theorem LA.kin {w w' : World} (hb : Kin w w') {v : Value} {l : List LFile} (h : LA w v l) : LA w' v l := by
  obtain ⟨es, h1, h2, h3, h4⟩ := h
  exact ⟨es, h1.kin hb, h2, h3, fun i e f he hf => by obtain ⟨v1, e1, e2⟩ := h4 i e f he hf; exact ⟨v1, e1, e2.kin hb⟩⟩
theorem LA.form {w : World} {v : Value} {l : List LFile} (h : LA w v l) : ∃ a cap, v = .slice a l.length cap ∧ l.length ≤ cap ∧ cap ≤ 9223372036854775807 ∧ (a = none → cap = 0) := by obtain ⟨_, h, _⟩ := h; exact h.form
theorem LA.at_ {w : World} {a : Option Addr} {n cap : Nat} {l : List LFile} (h : LA w (.slice a n cap) l) (i : Nat) (f : LFile) (hf : l[i]? = some f) :
    ∃ b off a1 c1, a = some ⟨b, off, none⟩ ∧ w.cell? ⟨b, off + i * 2, none⟩ = some (.string f.1) ∧ w.cell? ⟨b, off + i * 2 + 1, none⟩ = some (.slice a1 f.2.1 c1) ∧ FS w (.slice a1 f.2.1 c1) f.2.1 f.2.2 := by
  obtain ⟨es, h1, h2, h3, h4⟩ := h
  obtain ⟨hi, _⟩ := List.getElem?_eq_some_iff.1 hf
  have hi2 : i < es.length := by omega
  obtain ⟨v1, he, hfs⟩ := h4 i es[i] f (List.getElem?_eq_getElem hi2) hf
  have hn : n = l.length := by obtain ⟨_, _, hv, _⟩ := h1; simp at hv; exact hv.2.1
  subst hn
  obtain ⟨b, off, rfl, hc⟩ := h1.at_ i hi
  have hg := fun j hj => (hc j hj).trans (flat_get 2 es i j h3 hj _ (List.getElem?_eq_getElem hi2))
  rw [he] at hg
  obtain ⟨a1, c1, rfl, _⟩ := id hfs
  exact ⟨b, off, a1, c1, rfl, by simpa using hg 0 (by omega), by simpa using hg 1 (by omega), hfs⟩
theorem FLs.zero {w w' : World} {a : Option Addr} {c : Nat} (h : FLs w (.slice a 0 c) []) : FLs w' (.slice a 0 c) [] := by
  obtain ⟨a', cap, e, h1, h2, h3⟩ := h.form
  simp only [Value.slice.injEq] at e
  obtain ⟨rfl, _, rfl⟩ := e
  exact ⟨[], ⟨_, _, rfl, by simp, by simp, h2, h3, fun h => by simp at h⟩, RFs.nil _⟩
theorem usedN_insF (L : List AF) (f : AF) : usedN (insF L f) = usedN L + f.n := by
  unfold usedN insF
  have : (L.map AF.n).sum = ((L.take (insK L f)).map AF.n).sum + ((L.drop (insK L f)).map AF.n).sum := by rw [← List.sum_append, ← List.map_append, List.take_append_drop]
  rw [this]; simp; omega
theorem usedN_without (L : List AF) (s : ByteArray) : usedN (withoutF L s) ≤ usedN L := by
  unfold usedN withoutF
  induction L with
  | nil => simp
  | cons x t ih => simp only [List.filter_cons]; split <;> simp <;> omega
end Go.Proofs.YtpoiapfgbbmekaaGreatDoor
namespace Go.Proofs.YtpoiapfgbbmekaaGreatDoor
def two (k : Nat) : Int := 2 ^ k % 18446744073709551616
theorem two_succ (k : Nat) : IntKind.u64.wrap (two k * 2) = two (k + 1) := by
  rw [Go.IntKind.wrap_u64]; unfold two; rw [Int.pow_succ]; omega
theorem two_small (k : Nat) (h : k < 64) : two k = 2 ^ k := by
  unfold two
  have h1 := pow_split k 63 (by omega)
  have h2 := pow_pos' (63 - k)
  have h3 := pow_pos' k
  refine Int.emod_eq_of_lt (by omega) ?_
  have : (2 : Int) ^ k * 1 ≤ 2 ^ k * 2 ^ (63 - k) := Int.mul_le_mul_of_nonneg_left (by omega) (by omega)
  have e : (2 : Int) ^ 63 = 9223372036854775808 := by decide
  omega
theorem two_pos (k : Nat) (h : k < 64) : 1 ≤ two k := by rw [two_small k h]; have := pow_pos' k; omega
def clampI (n m : Int) : Int := min (max n 0) m
def putL (n : Int) (k : Nat) : List Int := (List.range k).map fun i => n / 2 ^ (8 * i) % 256
theorem putL_length (n : Int) (k : Nat) : (putL n k).length = k := by simp [putL]
theorem putL_succ (n : Int) (k : Nat) : putL n (k + 1) = putL n k ++ [n / 2 ^ (8 * k) % 256] := by simp [putL, List.range_succ]
theorem putL_get (n : Int) (k j : Nat) (h : j < k) : (putL n k).getD j 0 = n / 2 ^ (8 * j) % 256 := by simp [putL, List.getD, h]
def putP (n : Int) (j k : Nat) : List Int := (List.range k).map fun i => if i < j then n / 2 ^ (8 * i) % 256 else 0
theorem putP_zero (n : Int) (k : Nat) : putP n 0 k = List.replicate k 0 := by
  simp only [putP, Nat.not_lt_zero, if_false]
  exact List.ext_getElem (by simp) (by simp)
theorem putP_full (n : Int) (k : Nat) : putP n k k = putL n k := by
  unfold putP putL
  exact List.map_congr_left fun i hi => by simp [List.mem_range.1 hi]
theorem putP_succ (n : Int) (j k : Nat) : (putP n j k).set j (n / 2 ^ (8 * j) % 256) = putP n (j + 1) k := by
  apply List.ext_getElem
  · simp [putP]
  · intro i h1 h2
    simp only [putP, List.length_set, List.length_map, List.length_range] at h1
    rw [List.getElem_set]
    simp only [putP, List.getElem_map, List.getElem_range]
    split
    · subst_vars; simp
    · rename_i hne
      by_cases hlt : i < j
      · simp [hlt, Nat.lt_succ_of_lt hlt]
      · have : ¬ i < j + 1 := by omega
        simp [hlt, this]
def getI (l : List Int) : Nat → Int
  | 0 => 0
  | k + 1 => getI l k + l.getD k 0 * 2 ^ (8 * k)
theorem getI_bd (l : List Int) (hl : Bytes l) (k : Nat) : 0 ≤ getI l k ∧ getI l k < 2 ^ (8 * k) := by
  induction k with
  | zero => simp [getI]
  | succ k ih =>
    have hb := hl k
    have hp := pow_pos' (8 * k)
    have e : (2 : Int) ^ (8 * (k + 1)) = 2 ^ (8 * k) * 256 := by rw [show 8 * (k + 1) = 8 * k + 8 from by omega, Int.pow_add]; rfl
    simp only [getI]
    generalize (2 : Int) ^ (8 * k) = p at *
    generalize l.getD k 0 = c at *
    have h1 : 0 ≤ c * p := Int.mul_nonneg hb.1 (by omega)
    have h2 : c * p ≤ 255 * p := Int.mul_le_mul_of_nonneg_right hb.2 (by omega)
    omega
theorem getI_wrap (l : List Int) (hl : Bytes l) (k : Nat) (hk : k < 8) : IntKind.u64.wrap (l.getD k 0 * 2 ^ (8 * k)) = l.getD k 0 * 2 ^ (8 * k) := by
  rw [Go.IntKind.wrap_u64]
  have hb := hl k
  have hp := pow_pos' (8 * k)
  have hs := pow_split (8 * k) 56 (by omega)
  have h2 := pow_pos' (56 - 8 * k)
  have e : (2 : Int) ^ 56 = 72057594037927936 := by decide
  have h3 : (2 : Int) ^ (8 * k) * 1 ≤ 2 ^ (8 * k) * 2 ^ (56 - 8 * k) := Int.mul_le_mul_of_nonneg_left (by omega) (by omega)
  generalize (2 : Int) ^ (8 * k) = p at *
  generalize l.getD k 0 = c at *
  have h4 : 0 ≤ c * p := Int.mul_nonneg hb.1 (by omega)
  have h5 : c * p ≤ 255 * p := Int.mul_le_mul_of_nonneg_right hb.2 (by omega)
  omega
theorem or_join (i : Nat) (x y : Int) (h0 : 0 ≤ y) (h1 : y < 2 ^ i) (h2 : 0 ≤ x) (h3 : x % 2 ^ i = 0) (h4 : x < 18446744073709551616) (h5 : y < 18446744073709551616) : bits .or .u64 y x = y + x := by
  rw [Go.u64_or y x h0 h5 h2 h4]
  obtain ⟨a, rfl⟩ := Int.eq_ofNat_of_zero_le h2
  obtain ⟨b, rfl⟩ := Int.eq_ofNat_of_zero_le h0
  have e : a % 2 ^ i = 0 := by exact_mod_cast h3
  have f : b < 2 ^ i := by exact_mod_cast h1
  have := Go.nat_join i a b e f
  simp only [Int.toNat_natCast]
  rw [Nat.or_comm, this]
  simp; omega
theorem getI_or (l : List Int) (hl : Bytes l) (k : Nat) (hk : k < 8) : bits .or .u64 (getI l k) (IntKind.u64.wrap (l.getD k 0 * 2 ^ (8 * k))) = getI l (k + 1) := by
  have hw := getI_wrap l hl k hk
  rw [hw]
  have hb := getI_bd l hl k
  have hb1 := getI_bd l hl (k + 1)
  have hc := hl k
  have hp := pow_pos' (8 * k)
  have hbig : (2 : Int) ^ (8 * (k + 1)) ≤ 18446744073709551616 := by
    have hs := pow_split (8 * (k + 1)) 64 (by omega)
    have h2 := pow_pos' (64 - 8 * (k + 1))
    have h3 : (2 : Int) ^ (8 * (k + 1)) * 1 ≤ 2 ^ (8 * (k + 1)) * 2 ^ (64 - 8 * (k + 1)) := Int.mul_le_mul_of_nonneg_left (by omega) (Int.le_of_lt (pow_pos' _))
    have e : (2 : Int) ^ 64 = 18446744073709551616 := by decide
    omega
  have hx : 0 ≤ l.getD k 0 * 2 ^ (8 * k) := Int.mul_nonneg hc.1 (by omega)
  simp only [getI] at hb1
  rw [or_join (8 * k) _ _ hb.1 hb.2 hx (Int.mul_emod_left _ _) (by omega) (by omega)]
  rfl
theorem getI_ref (l : List Int) (hl : Bytes l) (k : Nat) (hk : k < 8) : IntKind.u64.wrap (getI l k + IntKind.u64.wrap (l.getD k 0 * two (8 * k))) = getI l (k + 1) := by
  rw [two_small _ (by omega), getI_wrap l hl k hk]
  have hb1 := getI_bd l hl (k + 1)
  simp only [getI] at hb1 ⊢
  have hs := pow_split (8 * (k + 1)) 64 (by omega)
  have h2 := pow_pos' (64 - 8 * (k + 1))
  have h3 : (2 : Int) ^ (8 * (k + 1)) * 1 ≤ 2 ^ (8 * (k + 1)) * 2 ^ (64 - 8 * (k + 1)) := Int.mul_le_mul_of_nonneg_left (by omega) (Int.le_of_lt (pow_pos' _))
  have e : (2 : Int) ^ 64 = 18446744073709551616 := by decide
  rw [Go.IntKind.wrap_u64]
  omega
theorem emod_mul256 (n p : Int) (hp : 0 < p) : n % (p * 256) = n % p + n / p % 256 * p := by
  rw [Int.emod_def n (p * 256), Int.emod_def n p, Int.emod_def (n / p) 256, ← Int.ediv_ediv_of_nonneg (by omega : 0 ≤ p), Int.sub_mul, Int.mul_assoc p 256, Int.mul_comm (n / p) p, Int.mul_assoc 256]
  have : p * (256 * (n / p / 256)) = 256 * (n / p / 256 * p) := by rw [Int.mul_comm p, Int.mul_assoc]
  omega
theorem getI_put (n : Int) (k j : Nat) (hj : j ≤ k) : getI (putL n k) j = n % 2 ^ (8 * j) := by
  induction j with
  | zero => simp [getI]
  | succ j ih =>
    rw [getI, ih (by omega), putL_get n k j (by omega)]
    have e : (2 : Int) ^ (8 * (j + 1)) = 2 ^ (8 * j) * 256 := by rw [show 8 * (j + 1) = 8 * j + 8 from by omega, Int.pow_add]; rfl
    rw [e]
    have hp := pow_pos' (8 * j)
    generalize (2 : Int) ^ (8 * j) = p at *
    exact (emod_mul256 n p (by omega)).symm
theorem putL_bytes (n : Int) (k : Nat) : Bytes (putL n k) := by
  intro j
  by_cases h : j < k
  · rw [putL_get n k j h]; omega
  · simp [putL, List.getD, h]
theorem getI_byte (l : List Int) (hl : Bytes l) (k : Nat) : ∀ j, j < k → getI l k / 2 ^ (8 * j) % 256 = l.getD j 0 := by
  induction k with
  | zero => intro j h; omega
  | succ k ih =>
    intro j hj
    have hb := hl k
    have hp := pow_pos' (8 * j)
    show (getI l k + l.getD k 0 * 2 ^ (8 * k)) / 2 ^ (8 * j) % 256 = l.getD j 0
    by_cases h : j = k
    · subst h
      have := getI_bd l hl j
      rw [Int.add_mul_ediv_right _ _ (by omega), Int.ediv_eq_zero_of_lt this.1 this.2]
      omega
    · have hs : (2 : Int) ^ (8 * k) = 2 ^ (8 * j) * (256 * 2 ^ (8 * (k - j - 1))) := by
        rw [show (256 : Int) = 2 ^ 8 from rfl, ← Int.pow_add, ← Int.pow_add]; congr 1; omega
      rw [hs, show l.getD k 0 * (2 ^ (8 * j) * (256 * 2 ^ (8 * (k - j - 1)))) = 2 ^ (8 * j) * (256 * (l.getD k 0 * 2 ^ (8 * (k - j - 1)))) from by
        rw [← Int.mul_assoc, Int.mul_comm (l.getD k 0), Int.mul_assoc, Int.mul_left_comm (l.getD k 0)],
        Int.add_mul_ediv_left _ _ (by omega), Int.add_mul_emod_self_left]
      exact ih j (by omega)
theorem putL_getI (l : List Int) (hl : Bytes l) (k : Nat) (hk : l.length = k) : putL (getI l k) k = l := by
  refine List.ext_getElem (by rw [putL_length, hk]) fun j h1 h2 => ?_
  have h3 := getI_byte l hl k j (by omega)
  have h4 := putL_get (getI l k) k j (by omega)
  rw [h3] at h4
  simpa [List.getD, h1, h2] using h4
end Go.Proofs.YtpoiapfgbbmekaaGreatDoor
