/-
  WHAT THE DOCUMENT'S ANSWERS OF LAYER 8 (disk) ANSWER: the reference's Mix (for the layers behind it, too). No condition.
-/
import Derived.Test.YtdadeloojblekaaSecs
namespace Go.Proofs.Ytdadeloojblekaa
open Go.RowKit
/-- the first k of next's bytes, and old's others -/
def mixN (old nx : List Int) (k : Nat) : List Int := nx.take k ++ old.drop k
def cutN (cut : Int) : Nat := (min (max cut 0) 64).toNat
theorem mixN_length (old nx : List Int) (k : Nat) (ho : old.length = 64) (hn : nx.length = 64) (hk : k ≤ 64) : (mixN old nx k).length = 64 := by simp [mixN]; omega
theorem mixN_zero (old nx : List Int) : mixN old nx 0 = old := by simp [mixN]
theorem mixN_set (old nx : List Int) (k : Nat) (ho : old.length = 64) (hn : nx.length = 64) (hk : k < 64) : (mixN old nx k).set k (nx.getD k 0) = mixN old nx (k + 1) := by
  refine List.ext_getElem? fun i => ?_
  rw [List.getElem?_set]
  have hl := mixN_length old nx k ho hn (by omega)
  by_cases hik : k = i
  · subst hik
    rw [if_pos rfl, if_pos (by omega)]
    unfold mixN
    rw [List.getElem?_append_left (by simp; omega), List.getElem?_take_of_lt (by omega)]
    simp [List.getD, hn, hk]
  · rw [if_neg hik]
    unfold mixN
    by_cases hi : i < k
    · rw [List.getElem?_append_left (by simp; omega), List.getElem?_append_left (by simp; omega), List.getElem?_take_of_lt hi, List.getElem?_take_of_lt (by omega)]
    · rw [List.getElem?_append_right (by simp; omega), List.getElem?_append_right (by simp; omega), List.getElem?_drop, List.getElem?_drop]
      congr 1; simp; omega
/-- where Mix stands -/
structure Mx (W : World) (l nx : List Int) (w : World) : Prop where
  below : Below W.heap.size W w
  nxt : Blk w (W.heap.size + 1) nx
  res : Blk w (W.heap.size + 2) z64
  out : Blk w (W.heap.size + 3) l
theorem Mx.start (W : World) (l nx : List Int) (hl : l.length = 64) (hn : nx.length = 64) : Mx W z64 nx ((((W.alloc (.cells (sv l) 31)).alloc (.cells (sv nx) 31)).alloc (.cells (sv z64) 31)).alloc (.cells (sv z64) 31)) ∧ Blk ((((W.alloc (.cells (sv l) 31)).alloc (.cells (sv nx) 31)).alloc (.cells (sv z64) 31)).alloc (.cells (sv z64) 31)) W.heap.size l := by
  have s0 := alloc_size W (.cells (sv l) 31)
  have b0 := below_alloc W (.cells (sv l) 31)
  have k0 := Blk.new W l hl
  generalize W.alloc (.cells (sv l) 31) = w0 at *
  have s1 := alloc_size w0 (.cells (sv nx) 31)
  have b1 := below_alloc w0 (.cells (sv nx) 31)
  have k1 := Blk.new w0 nx hn
  generalize w0.alloc (.cells (sv nx) 31) = w1 at *
  have s2 := alloc_size w1 (.cells (sv z64) 31)
  have b2 := below_alloc w1 (.cells (sv z64) 31)
  have k2 := Blk.new w1 z64 z64_length
  generalize w1.alloc (.cells (sv z64) 31) = w2 at *
  have b3 := below_alloc w2 (.cells (sv z64) 31)
  have k3 := Blk.new w2 z64 z64_length
  generalize w2.alloc (.cells (sv z64) 31) = w3 at *
  rw [s0] at k1
  rw [s1, s0] at k2
  rw [s2, s1, s0] at k3
  exact ⟨⟨chain (chain (chain b0 b1) b2) b3, (k1.keep b2).keep b3, k2.keep b3, k3⟩, ((k0.keep b1).keep b2).keep b3⟩
theorem Mx.row {W w : World} {l l' nx : List Int} (h : Mx W l nx w) (hl : l'.length = 64) : Mx W l' nx (w.setRow (W.heap.size + 3) (sv l')) :=
  ⟨below_row h.below (by omega) _, h.nxt.row_apart (by omega) _, h.res.row_apart (by omega) _, h.out.row hl⟩
theorem Mx.stored {W w : World} {l nx : List Int} (h : Mx W l nx w) (k : Nat) (z : Int) : Mx W (l.set k z) nx (w.setCell ⟨W.heap.size + 3, k, none⟩ (.int .u8 z)) :=
  ⟨h.below.setCell (by show W.heap.size ≤ W.heap.size + 3; omega) _, h.nxt.apart (by omega) _ _, h.res.apart (by omega) _ _, h.out.stored k z⟩
set_option maxRecDepth 8000 in
set_option maxHeartbeats 1000000 in
theorem rmix_any (old nx : List Int) (cut : Int) (ho : old.length = 64) (hn : nx.length = 64) (hc : I63 cut) (w : World) :
    Calls Try.prog 14 #[.agg (sv old), .agg (sv nx), .int .i64 cut] w fun e w' => e = .returned (.agg (sv (mixN old nx (cutN cut)))) ∧ Below w.heap.size w w' := by
  unfold I63 at hc
  obtain ⟨hM, hO⟩ := Mx.start w old nx ho hn
  have HM := Lib.hid hM
  have HO := Lib.hid (((Blk.new w old ho).keep (below_alloc _ (.cells (sv nx) 31))).keep (below_alloc _ (.cells (sv z64) 31)))
  have HOL := Lib.hid ho
  have HNL := Lib.hid hn
  have HZ := Lib.hid z64_cells
  obtain ⟨kc, hkc⟩ : ∃ kc, cutN cut = kc := ⟨_, rfl⟩
  have hkc1 : (kc : Int) = min (max cut 0) 64 := by rw [← hkc]; unfold cutN; omega
  rw [hkc]
  clear hM hO ho hn hkc
  go_enter Try.func14, Try.ntmps14
  go_wp2_with (first
    | (rw [← HZ.out])
    | (refine wpl_load_sec (by rfl) _ rfl w.heap.size rfl old HO.out ?_)
    | (refine wpList_store_row rfl 31 _ _ rfl (w.heap.size + 3) (sv old) rfl rfl _ (sv z64) HM.out.out.1 (sv_info _ HOL.out) (by rw [sv_size, sv_size, HOL.out, z64_length]) (sv_one _) ?_; generalize hW4 : World.setRow _ _ _ = W4))
  have HM4 : Hid (Mx w (mixN old nx 0) nx W4) := Lib.hid (by rw [← hW4, mixN_zero]; exact HM.out.row HOL.out)
  clear hW4
  go_loopw [8] (fun iv wr => ∃ i : Nat, iv = .int .i64 i ∧ i ≤ kc ∧ Hid (Mx w (mixN old nx i) nx wr)) (fun iv _ => kc - (intOf iv).toNat)
  case atStart => exact ⟨0, rfl, by omega, HM4⟩
  case round =>
    obtain ⟨i, rfl, hi, HI⟩ := hrel
    by_cases hlt : i < kc
    · have h1 : (i : Int) < cut := by omega
      have h2 : (i : Int) < 64 := by omega
      have hcn := HI.out.nxt.cell i (by omega)
      have hco := HI.out.out.cell i (by omega)
      have hfo := HI.out.out.frozen i
      have HST := Lib.hid (mixN_set old nx i HOL.out HNL.out (by omega))
      obtain ⟨z, hz⟩ : ∃ z, nx.getD i 0 = z := ⟨_, rfl⟩
      rw [hz] at hcn HST
      clear hz
      go_wp2
      go_roundw
      case rel => exact ⟨i + 1, by go_num, by omega, Lib.hid (by rw [← HST.out]; exact HI.out.stored i z)⟩
      case measure => simp [intOf]; omega
    · have hq : i = kc := by omega
      subst hq
      have hml := mixN_length old nx i HOL.out HNL.out (by omega)
      have HML := Lib.hid hml
      by_cases h1 : (i : Int) < cut
      · have h2 : ¬ (i : Int) < 64 := by omega
        clear hml
        go_wp2_with (first
          | (refine wpl_load_sec (by rfl) _ rfl (w.heap.size + 3) rfl (mixN old nx i) HI.out.out ?_)
          | (refine wpList_store_row rfl 31 _ _ rfl (w.heap.size + 2) (sv (mixN old nx i)) rfl rfl _ (sv z64) HI.out.res.1 (sv_info _ HML.out) (by rw [sv_size, sv_size, HML.out, z64_length]) (sv_one _) ?_))
        refine bodyPost_ret_by (v := .agg (sv (mixN old nx i))) (results_cell_row rfl _ _ (w.heap.size + 2) _ (sv (mixN old nx i)) (0, 0) _ rfl (HI.out.res.row HML.out).1 Try.underlying31 rfl (sv_info _ HML.out)) rfl ⟨rfl, below_row HI.out.below (by omega) _⟩
      · clear hml
        go_wp2_with (first
          | (refine wpl_load_sec (by rfl) _ rfl (w.heap.size + 3) rfl (mixN old nx i) HI.out.out ?_)
          | (refine wpList_store_row rfl 31 _ _ rfl (w.heap.size + 2) (sv (mixN old nx i)) rfl rfl _ (sv z64) HI.out.res.1 (sv_info _ HML.out) (by rw [sv_size, sv_size, HML.out, z64_length]) (sv_one _) ?_))
        refine bodyPost_ret_by (v := .agg (sv (mixN old nx i))) (results_cell_row rfl _ _ (w.heap.size + 2) _ (sv (mixN old nx i)) (0, 0) _ rfl (HI.out.res.row HML.out).1 Try.underlying31 rfl (sv_info _ HML.out)) rfl ⟨rfl, below_row HI.out.below (by omega) _⟩
end Go.Proofs.Ytdadeloojblekaa
