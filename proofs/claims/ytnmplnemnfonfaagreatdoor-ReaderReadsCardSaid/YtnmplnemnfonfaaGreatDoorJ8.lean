/-
  TEXTS JOINED: DkRead, DkJobs, DkMove, DkTurn, DkWrite, DkTell, DkApi. Each one's own words stand at its head.
-/
import Derived.Test.YtnmplnemnfonfaaGreatDoorJ7
namespace Go.Proofs.YtnmplnemnfonfaaGreatDoor
open Go.RowKit
def rdN (zs : List Int) (n i : Nat) : List Int := zs.take (i * 64) ++ List.replicate ((n - i) * 64) 0
theorem rdN_length (zs : List Int) (n i : Nat) (hz : zs.length = n * 64) (hi : i ≤ n) : (rdN zs n i).length = n * 64 := by
  unfold rdN
  rw [List.length_append, List.length_take, List.length_replicate, hz]; omega
theorem rdN_splice (zs : List Int) (n i : Nat) (hz : zs.length = n * 64) (hi : i < n) : splice (rdN zs n i) (i * 64) (chunk zs i) = rdN zs n (i + 1) := by
  have hc : (chunk zs i).length = 64 := chunk_length zs n i hz hi
  refine List.ext_getElem? fun q => ?_
  rw [splice_get _ _ _ (by rw [rdN_length _ _ _ hz (by omega), hc]; have : (i + 1) * 64 ≤ n * 64 := Nat.mul_le_mul_right _ hi; omega), hc]
  have e1 : ∀ k, k ≤ n → (rdN zs n k)[q]? = if q < k * 64 then zs[q]? else if q < n * 64 then some 0 else none := by
    intro k hk
    have hkl : (zs.take (k * 64)).length = k * 64 := by rw [List.length_take, hz]; have : k * 64 ≤ n * 64 := Nat.mul_le_mul_right _ hk; omega
    unfold rdN
    by_cases h1 : q < k * 64
    · rw [if_pos h1, List.getElem?_append_left (by omega), List.getElem?_take_of_lt h1]
    · rw [if_neg h1, List.getElem?_append_right (by omega), hkl, List.getElem?_replicate]
      by_cases h2 : q < n * 64
      · rw [if_pos h2, if_pos (by omega)]
      · rw [if_neg h2, if_neg (by omega)]
  rw [e1 i (by omega), e1 (i + 1) (by omega)]
  by_cases h1 : q < i * 64
  · rw [if_pos h1, if_pos h1, if_pos (by omega)]
  · rw [if_neg h1]
    by_cases h2 : q < i * 64 + 64
    · rw [if_pos h2, if_pos (by omega)]
      unfold chunk
      rw [List.getElem?_take_of_lt (by omega), List.getElem?_drop]; congr 1; omega
    · rw [if_neg h2, if_neg h1, if_neg (show ¬ q < (i + 1) * 64 by omega)]
theorem rdN_all (zs : List Int) (n : Nat) (hz : zs.length = n * 64) : rdN zs n n = zs := by
  unfold rdN; rw [Nat.sub_self, Nat.zero_mul, List.replicate_zero, List.append_nil, List.take_of_length_le (by omega)]
theorem chunk_cut (l : List Int) (a n i : Nat) (hi : i < n) : chunk ((l.drop (a * 64)).take (n * 64)) i = chunk l (a + i) := by
  unfold chunk
  refine List.ext_getElem? fun q => ?_
  by_cases hq : q < 64
  · rw [List.getElem?_take_of_lt hq, List.getElem?_take_of_lt hq, List.getElem?_drop, List.getElem?_drop, List.getElem?_take_of_lt (by have : (i + 1) * 64 ≤ n * 64 := Nat.mul_le_mul_right _ hi; omega), List.getElem?_drop]
    congr 1; omega
  · rw [List.getElem?_take_eq_none (by omega), List.getElem?_take_eq_none (by omega)]
theorem Jd.look {w w1 : World} {b bm : Nat} {l : List MF} {d : AD} {s t : ByteArray} {x n : Int} {v : Value} (h : Jd w b bm l d s t x n v w1) :
    w1.cell? ⟨w.heap.size, 0, none⟩ = some (ptr ⟨b, 0, none⟩) ∧ w1.cell? ⟨w.heap.size, 1, none⟩ = some (.string s) ∧ w1.cell? ⟨w.heap.size, 3, none⟩ = some (.int .i64 x) ∧ w1.cell? ⟨w.heap.size, 4, none⟩ = some (.int .i64 n) ∧ w1.cell? ⟨b, 1, none⟩ = some (.map (some bm)) ∧ Jd w b bm l d s t x n v w1 := by
  obtain ⟨c0, c1, _, c3, c4, _⟩ := h.jb.cells
  obtain ⟨fl, lf, hb, _⟩ := h.dk.blk
  obtain ⟨_, e1, _⟩ := hb.cells
  exact ⟨c0, c1, c3, c4, e1, h⟩
set_option maxRecDepth 20000 in
set_option maxHeartbeats 2000000 in
theorem pread_any (w : World) (b bm : Nat) (l : List MF) (d : AD) (s t : ByteArray) (p n : Nat) (va : Option Addr) (vm vc : Nat) (h : Dk w b bm l d) (hg : Good d) (hs : s.size ≤ 281474976710656) (hh : d.has s) (hp : p + n ≤ (d.get s).n) :
    Calls Tryz.prog 72 #[jobV ⟨b, 0, none⟩ s t (p : Int) (n : Int) (.slice va vm vc)] w fun e w' => ∃ v, e = .returned v ∧ FS w' v n (((d.get s).seen.drop (p * 64)).take (n * 64)) ∧ Below w.heap.size w w' := by
  have HJ := Lib.hid (Jd.start h s t (p : Int) (n : Int) (.slice va vm vc))
  have HD := Lib.hid h
  obtain ⟨x, hx, hf, hxm, hl⟩ := h.has s hh
  have HXF := hg.file _ (get_mem hh)
  rw [← hf] at hp HXF ⊢
  have HX := Lib.hid hxm
  have HLK := Lib.hid (hl.trans (show x.v = .slice (some ⟨x.g, 0, none⟩) x.f.n x.c from rfl))
  have HZ := Lib.hid (size_le hs)
  obtain ⟨zs, hzs⟩ : ∃ zs, (x.f.seen.drop (p * 64)).take (n * 64) = zs := ⟨_, rfl⟩
  have HZS := Lib.hid hzs
  have HZL : Hid (zs.length = n * 64) := Lib.hid (by
    rw [← hzs, List.length_take, List.length_drop, HXF.seen]
    have : (p + n) * 64 ≤ x.f.n * 64 := Nat.mul_le_mul_right _ hp
    omega)
  obtain ⟨k, hk⟩ : ∃ k, x.f.n = k := ⟨_, rfl⟩
  have HK := Lib.hid hk
  have hk64 : k ≤ 64 := by have := HXF.n64; omega
  rw [hk] at HLK hp
  have hn64 : (n : Int) ≤ 64 := by omega
  have hp64 : (p : Int) ≤ 64 := by omega
  rw [hzs]
  obtain ⟨q, hq⟩ : ∃ q, p + n = q := ⟨_, rfl⟩
  have hw1 : IntKind.i64.wrap ((p : Int) + (n : Int)) = (q : Int) := by rw [IntWalk.i64_in _ (by omega)]; omega
  obtain ⟨c0, c1, c2, c3, c4, c5⟩ := HJ.out.jb.cells
  obtain ⟨i0, hi0, hz0, hz1, hz2⟩ := info_parts sec_parts
  have HI := Lib.hid hi0
  have HZ0 := Lib.hid hz0
  have HZ1 := Lib.hid hz1
  have hby : i0.bytes * n ≤ 281474976710656 := by rw [hz2]; omega
  clear h hg hs hh hx hf hxm hl hzs hk hi0 hz0 hz1 hz2
  go_enter Tryz.func72, Tryz.ntmps72
  go_wp2_with (first
    | (at_make; refine wpList_make_full _ rfl (.tmp 7) (.tmp 7) 29 rfl w.heap.size 92 i0 (.agg (sv z64)) 64 Tryz.underlying29 HI.out HZ0.out HZ1.out .i64 .i64 n n n rfl rfl rfl rfl hby (by unfold maxLen; omega) (Nat.le_of_lt HJ.out.size) ?_; intro w1 hown hgrow; simp only [alloc_size] at hown ⊢; rw [made_secs] at hown; have HR1 : Hid (RW w1 (w.heap.size + 1) (rdN zs n 0)) := Lib.hid (by unfold rdN; rw [Nat.zero_mul, List.take_zero, List.nil_append, Nat.sub_zero]; exact row_of64 hown); have HJ1 := Lib.hid (HJ.out.next ((Below.refl _ _).grown hgrow (Nat.le_refl _) (by simp))); clear hown hgrow))
  have hkc : k ≤ x.c := by
    obtain ⟨cur, _, _, h3, _⟩ := HJ1.out.dk.row x HX.out
    rwa [secsOf_length, HK.out] at h3
  have hqc : (q : Int) ≤ (x.c : Int) := by omega
  have hpq : p ≤ q := by omega
  have hq0 : (0 : Int) ≤ (q : Int) := by omega
  by_cases hcp : x.c = p
  · skip
    have hn0 : n = 0 := by omega
    have hqp : q = p := by omega
    refine wp_region_held_drew (S := (fun w' => w'.cell? ⟨w.heap.size, 0, none⟩ = some (ptr ⟨b, 0, none⟩) ∧ w'.cell? ⟨w.heap.size, 1, none⟩ = some (.string s) ∧ w'.cell? ⟨w.heap.size, 3, none⟩ = some (.int .i64 (p : Int)) ∧ w'.cell? ⟨w.heap.size, 4, none⟩ = some (.int .i64 (n : Int)) ∧ w'.cell? ⟨b, 1, none⟩ = some (.map (some bm)) ∧ Jd w b bm l d s t p n (.slice va vm vc) w')) (by kernel_rfl) (Jd.look HJ1.out.drew) (fun hS => ?_)
    refine rgw 0 ⟨some 9, .fieldAddr 63 (.tmp 1) 0, 0, _, _, none⟩ hS ?_
    refine rgw 1 ⟨some 10, .load 34 (.tmp 9), 34, _, _, none⟩ hS ?_
    refine rgw 2 ⟨some 11, .nilCheck (.tmp 10), 0, _, _, none⟩ hS ?_
    refine rgw 3 ⟨some 12, .fieldAddr 61 (.tmp 11) 1, 0, _, _, none⟩ hS ?_
    refine rgw 4 ⟨some 13, .load 59 (.tmp 12), 59, _, _, none⟩ hS ?_
    refine rgw 5 ⟨some 14, .fieldAddr 63 (.tmp 1) 1, 0, _, _, none⟩ hS ?_
    refine rgw 6 ⟨some 15, .load 9 (.tmp 14), 9, _, _, none⟩ hS ?_
    refine rgw 7 ⟨some 16, .lookup 59 (.tmp 13) (.tmp 15) false, 104, _, _, none⟩ hS ?_ (v := .slice (some ⟨x.g, 0, none⟩) k x.c) (hy := by intro w hSw; (try dsimp only at hSw); rw [← HLK.out]; exact exec_look secE (.tmp 13) (.tmp 15) 59 rfl 9 104 Tryz.underlying9 Tryz.underlying59 (zeroS _) bm l rfl hSw.2.2.2.2.2.dk.map s rfl HZ.out)
    refine rgw 8 ⟨some 17, .fieldAddr 63 (.tmp 1) 3, 0, _, _, none⟩ hS ?_
    refine rgw 9 ⟨some 18, .load 3 (.tmp 17), 3, _, _, none⟩ hS ?_
    refine rgw 10 ⟨some 19, .fieldAddr 63 (.tmp 1) 3, 0, _, _, none⟩ hS ?_
    refine rgw 11 ⟨some 20, .load 3 (.tmp 19), 3, _, _, none⟩ hS ?_
    refine rgw 12 ⟨some 21, .fieldAddr 63 (.tmp 1) 4, 0, _, _, none⟩ hS ?_
    refine rgw 13 ⟨some 22, .load 3 (.tmp 21), 3, _, _, none⟩ hS ?_
    refine rgw 14 ⟨some 23, .binOp .add 3 (.tmp 20) (.tmp 22) 3, 3, _, _, none⟩ hS ?_ (v := .int .i64 (q : Int)) (hy := by intro w hSw; (try dsimp only at hSw); go_simp; exact IntWalk.i64_in _ (by omega))
    refine rgw 15 ⟨some 24, .slice 104 (.tmp 16) (some (.tmp 18)) (some (.tmp 23)) none, 104, _, _, none⟩ hS ?_
    refine rgw 16 ⟨some 25, .call { callee := .builtin Builtin.len, args := #[.tmp 24], argTypes := #[104] }, 3, _, _, none⟩ hS ?_
    refine rgw 17 ⟨some 26, .move (.const (.int .i64 0)), 3, _, _, none⟩ hS ?_
    refine wpAnyH_done (by kernel_rfl) ?_ _
    have HB1 := Lib.hid hS.2.2.2.2.2.below
    have HR2 : Hid (RW w1.drew (w.heap.size + 1) zs) := by
      have h1 := HR1
      rw [hn0] at h1
      have h2 := HZL.out
      rw [hn0, Nat.zero_mul] at h2
      rw [List.length_eq_zero_iff.1 h2] at h1 ⊢
      exact h1
    clear hS
    go_wp2
    go_loopw [26] (fun iv wr => iv = .int .i64 0 ∧ Hid (RW wr (w.heap.size + 1) zs) ∧ Hid (Below w.heap.size w wr)) (fun _ _ => 0)
    case atStart => exact ⟨rfl, HR2, HB1⟩
    case round =>
      obtain ⟨rfl, HR, HB⟩ := hrel
      go_wp2
      go_ret
      exact ⟨_, rfl, HR.out.fs HZL.out (by omega), HB.out⟩
  · skip
    refine wp_region_held_drew (S := (fun w' => w'.cell? ⟨w.heap.size, 0, none⟩ = some (ptr ⟨b, 0, none⟩) ∧ w'.cell? ⟨w.heap.size, 1, none⟩ = some (.string s) ∧ w'.cell? ⟨w.heap.size, 3, none⟩ = some (.int .i64 (p : Int)) ∧ w'.cell? ⟨w.heap.size, 4, none⟩ = some (.int .i64 (n : Int)) ∧ w'.cell? ⟨b, 1, none⟩ = some (.map (some bm)) ∧ Jd w b bm l d s t p n (.slice va vm vc) w')) (by kernel_rfl) (Jd.look HJ1.out.drew) (fun hS => ?_)
    refine rgw 0 ⟨some 9, .fieldAddr 63 (.tmp 1) 0, 0, _, _, none⟩ hS ?_
    refine rgw 1 ⟨some 10, .load 34 (.tmp 9), 34, _, _, none⟩ hS ?_
    refine rgw 2 ⟨some 11, .nilCheck (.tmp 10), 0, _, _, none⟩ hS ?_
    refine rgw 3 ⟨some 12, .fieldAddr 61 (.tmp 11) 1, 0, _, _, none⟩ hS ?_
    refine rgw 4 ⟨some 13, .load 59 (.tmp 12), 59, _, _, none⟩ hS ?_
    refine rgw 5 ⟨some 14, .fieldAddr 63 (.tmp 1) 1, 0, _, _, none⟩ hS ?_
    refine rgw 6 ⟨some 15, .load 9 (.tmp 14), 9, _, _, none⟩ hS ?_
    refine rgw 7 ⟨some 16, .lookup 59 (.tmp 13) (.tmp 15) false, 104, _, _, none⟩ hS ?_ (v := .slice (some ⟨x.g, 0, none⟩) k x.c) (hy := by intro w hSw; (try dsimp only at hSw); rw [← HLK.out]; exact exec_look secE (.tmp 13) (.tmp 15) 59 rfl 9 104 Tryz.underlying9 Tryz.underlying59 (zeroS _) bm l rfl hSw.2.2.2.2.2.dk.map s rfl HZ.out)
    refine rgw 8 ⟨some 17, .fieldAddr 63 (.tmp 1) 3, 0, _, _, none⟩ hS ?_
    refine rgw 9 ⟨some 18, .load 3 (.tmp 17), 3, _, _, none⟩ hS ?_
    refine rgw 10 ⟨some 19, .fieldAddr 63 (.tmp 1) 3, 0, _, _, none⟩ hS ?_
    refine rgw 11 ⟨some 20, .load 3 (.tmp 19), 3, _, _, none⟩ hS ?_
    refine rgw 12 ⟨some 21, .fieldAddr 63 (.tmp 1) 4, 0, _, _, none⟩ hS ?_
    refine rgw 13 ⟨some 22, .load 3 (.tmp 21), 3, _, _, none⟩ hS ?_
    refine rgw 14 ⟨some 23, .binOp .add 3 (.tmp 20) (.tmp 22) 3, 3, _, _, none⟩ hS ?_ (v := .int .i64 (q : Int)) (hy := by intro w hSw; (try dsimp only at hSw); go_simp)
    refine rgw 15 ⟨some 24, .slice 104 (.tmp 16) (some (.tmp 18)) (some (.tmp 23)) none, 104, _, _, none⟩ hS ?_
    refine rgw 16 ⟨some 25, .call { callee := .builtin Builtin.len, args := #[.tmp 24], argTypes := #[104] }, 3, _, _, none⟩ hS ?_
    refine rgw 17 ⟨some 26, .move (.const (.int .i64 0)), 3, _, _, none⟩ hS ?_
    refine wpAnyH_done (by kernel_rfl) ?_ _
    have HB1 := Lib.hid hS.2.2.2.2.2.below
    have hqn : q - p = n := by omega
    rw [hqn]
    have HSZ1 := Lib.hid (show w.heap.size + 1 < w1.drew.heap.size from (Array.getElem?_eq_some_iff.1 HR1.out).1)
    have HR2 : Hid (RW w1.drew (w.heap.size + 1) (rdN zs n 0)) := HR1
    have HNP := Lib.hid hp
    clear hS hqn
    go_wp2
    go_loopw [26] (fun iv wr => ∃ i : Nat, iv = .int .i64 i ∧ i ≤ n ∧ Hid (RW wr (w.heap.size + 1) (rdN zs n i)) ∧ Hid (Below w.heap.size w wr)) (fun iv _ => n - (intOf iv).toNat)
    case atStart => exact ⟨0, rfl, by omega, HR2, HB1⟩
    case round =>
      obtain ⟨i, rfl, hi, HR, HB⟩ := hrel
      by_cases hlt : (i : Int) < (n : Int)
      · have hin : i < n := by omega
        have HDW := Lib.hid (HD.out.below HB.out)
        have HSR := Lib.hid (HDW.out.row x HX.out)
        have hsc := secsOf_get x.f (p + i) (by rw [HK.out]; have := HNP.out; omega)
        obtain ⟨sc, hs⟩ : ∃ sc : Sc, sc = ⟨chunk x.f.las (p + i), chunk x.f.seen (p + i), x.f.ws.getD (p + i) false⟩ := ⟨_, rfl⟩
        rw [← hs] at hsc
        have HSC := Lib.hid hsc
        have HSOK := Lib.hid (HSR.out.ok hsc)
        have HSE : Hid (sc.se = chunk zs i) := Lib.hid (by rw [hs, ← HZS.out, chunk_cut _ _ _ _ hin])
        have HRL : Hid ((rdN zs n i).length = n * 64) := Lib.hid (rdN_length zs n i HZL.out hi)
        have HIN := Lib.hid hin
        have hxcp : (i : Int) < (x.c : Int) := by omega
        clear hsc hs hin
        go_wp2_with (first
          | (refine wpl_load_sc rfl (.tmp 29) rfl x.g x.c _ HSR.out (p + i) sc HSC.out (p * 129 + i * 129) (Nat.add_mul _ _ _) rfl ?_)
          | (refine wpl_store_sc rfl (.tmp 5) (.tmp 30) rfl rfl wr.heap.size rfl sc HSOK.out rfl rfl ?_; intro w3 HX3 hb3; have HR3 := Lib.hid (HR.out.keep hb3.out); have HB3 := Lib.hid (chain HB.out hb3.out); clear hb3)
          | (refine wpl_load_at rfl (.tmp 33) rfl wr.heap.size 64 rfl sc.se HX3.out.se ?_)
          | (refine wpl_put_row rfl (.tmp 35) (.tmp 34) rfl (w.heap.size + 1) n i _ sc.se HR3.out HRL.out HIN.out HSOK.out.se (i * 64) rfl rfl rfl ?_; intro w4 HR4 hG4; rw [HSE.out, rdN_splice zs n i HZL.out HIN.out] at HR4; have HB4 := Lib.hid (HB3.out.grown hG4.out HB3.out.size (fun j hj => by cases hj; omega)); clear hG4))
        go_roundw
        case rel => exact ⟨i + 1, by go_num, by omega, HR4, HB4⟩
        case measure => simp [intOf]; omega
      · obtain rfl : i = n := by omega
        rw [rdN_all zs i HZL.out] at HR
        go_wp2
        go_ret
        exact ⟨_, rfl, HR.out.fs HZL.out (by omega), HB.out⟩
end Go.Proofs.YtnmplnemnfonfaaGreatDoor
namespace Go.Proofs.YtnmplnemnfonfaaGreatDoor
open Go.RowKit
def zSc : Sc := ⟨z64, z64, false⟩
set_option maxRecDepth 20000 in
theorem zc_eq : Tryz.zeroCells142 = zSc.cells.toArray := by kernel_rfl
set_option maxRecDepth 20000 in
theorem sct_parts : (Tryz.prog.info? 142).map (fun i => (i.zero, i.size, i.bytes)) = some (some (.agg Tryz.zeroCells142), 129, 129) := by kernel_rfl
theorem zSc_ok : zSc.ok := ⟨z64_length, z64_length⟩
theorem SrK.made (w : World) (n : Nat) (hn : n ≤ 1000000) : SrK (w.alloc (.cells (madeCells (Value.agg Tryz.zeroCells142).cells (n * 129)) 142)) w.heap.size n (List.replicate n zSc) := by
  have hs : (Value.agg Tryz.zeroCells142).cells = Tryz.zeroCells142 := rfl
  refine ⟨(madeCells (Value.agg Tryz.zeroCells142).cells (n * 129)).toList, heap_alloc_last w _, by simp [size_madeCells], by simp, by unfold maxLen; omega, fun i s hi => ?_⟩
  obtain ⟨hin, e⟩ := List.getElem?_eq_some_iff.1 hi
  rw [List.getElem_replicate] at e
  subst e
  rw [List.length_replicate] at hin
  refine ⟨zSc_ok, fun j v hv => ?_⟩
  have hj : j < 129 := by have := (List.getElem?_eq_some_iff.1 hv).1; rw [zSc_ok.len] at this; exact this
  have hm : (i * 129 + j) % 129 = j := by omega
  have hlt : i * 129 + j < n * 129 := by have : (i + 1) * 129 ≤ n * 129 := Nat.mul_le_mul_right _ hin; omega
  have hz : zSc.cells.toArray.size = 129 := by simp [zSc_ok.len]
  have hv2 : zSc.cells.toArray[j]? = some v := by simpa using hv
  rw [Array.getElem?_toList, hs, zc_eq]
  unfold madeCells
  rw [Array.getElem?_map, Array.getElem?_range, if_pos hlt]
  simp only [Option.map_some, hz, hm]
  rw [getElem!_def, hv2]
theorem secsOf_new (s : ByteArray) (n : Nat) : secsOf (newF s n) = List.replicate n zSc := by
  refine List.ext_getElem? fun i => ?_
  by_cases hi : i < n
  · rw [secsOf_get _ _ hi, List.getElem?_replicate, if_pos hi]
    have hc : chunk (List.replicate (n * 64) 0) i = z64 := by
      have : (i + 1) * 64 ≤ n * 64 := Nat.mul_le_mul_right _ hi
      unfold chunk z64
      rw [List.drop_replicate, List.take_replicate]; congr 1; omega
    simp only [newF, hc]
    congr 2
    simp only [List.getD, List.getElem?_replicate, if_pos hi]; rfl
  · rw [List.getElem?_eq_none (by rw [secsOf_length]; exact Nat.not_lt.1 hi), List.getElem?_eq_none (by simpa using Nat.not_lt.1 hi)]
theorem wp_make_scs {w : World} {o : Oper} {a : Act} {K : Act → World → Prop} {Q : Exit → Act → World → Prop} (x y : Operand) (ho : o.op = Op.makeSlice 104 x y) (n : Nat) (hx : a.eval x = .int .i64 (n : Int)) (hy : a.eval y = .int .i64 (n : Int)) (hn : n ≤ 1000000)
    (h : ∀ w', Hid (SrK w' w.heap.size n (List.replicate n zSc)) → Hid (Below w.heap.size w w') → K (a.put o.dst (.slice (some ⟨w.heap.size, 0, none⟩) n n)) w') : o.wp Tryz.prog a w K Q := by
  obtain ⟨i, hi, hz0, hz1, hz2⟩ := info_parts sct_parts
  have hrun := run_make (P := Tryz.prog) w 104 142 i _ Tryz.underlying104 hi hz0 .i64 .i64 n n (by omega) (by omega) (by rw [hz2]; omega) (by omega)
  simp only [Int.toNat_natCast, hz1] at hrun
  unfold Oper.wp
  simp [execOp, ho, hx, hy, hrun, Result.andThen]
  exact h _ (SrK.made w n hn) (below_alloc w _)
def Done (F : Nat → Bool) (w : World) (b bm : Nat) (l : List MF) (d' : AD) (w' : World) : Prop :=
  ∃ l', Dk w' b bm l' d' ∧ Ext F w w' F ∧ ∀ k, own b bm l' k → k < w.heap.size → own b bm l k
theorem Dk.turn {w w' : World} {b bm : Nat} {l l' : List MF} {d d' : AD} (h : Dk w b bm l d) (hc : d'.cap = d.cap ∧ d'.ops = d.ops ∧ d'.down = d.down ∧ d'.told = d.told ∧ d'.after = d.after) (hg : w.grownBy w' (some bm)) (hm : MapOf w' bm l')
    (hr : ∀ x ∈ l', SrK w x.g x.c (secsOf x.f)) (hn : (l'.map MF.g).Nodup) (hf : d'.L = l'.map MF.f) : Dk w' b bm l' d' := by
  obtain ⟨h1, h2, h3, h4, h5⟩ := hc
  obtain ⟨fl, lf, hb, ht⟩ := h.blk
  obtain ⟨es, clock, hmo⟩ := h.map.obj
  refine ⟨⟨fl, lf, ?_, by rw [h3, h4, h5]; exact ht⟩, hm, fun x hx => (hr x hx).keep (hg.block _ (hr x hx).lt (fun e => ?_)), hn, hf⟩
  · unfold DBk dCells at *
    rw [h1, h2, h3, hg.block b (Array.getElem?_eq_some_iff.1 hb).1 (fun e => h.ne.1 (Option.some.inj e))]
    exact hb
  · obtain ⟨cur, h6, _⟩ := hr x hx
    rw [Option.some.inj e, hmo] at h6; cases h6
theorem grown_cell {w w' : World} {g : Nat} {a : Addr} {v : Value} (hg : w.grownBy w' (some g)) (ha : a.block ≠ g) (h : w.cell? a = some v) : w'.cell? a = some v := by
  have hlt := World.block_lt_of_cell? w _ h
  have hb := hg.block a.block hlt (fun e => ha (Option.some.inj e))
  unfold World.cell? at h ⊢
  rw [hb]; exact h
theorem Jd.ne {w w1 : World} {b bm : Nat} {l : List MF} {d : AD} {s t : ByteArray} {x n : Int} {v : Value} (h : Jd w b bm l d s t x n v w1) : w.heap.size ≠ bm ∧ b ≠ bm := by
  refine ⟨fun e => ?_, h.dk.ne.1⟩
  obtain ⟨es, clock, h2⟩ := h.dk.map.obj
  have h1 := h.jb
  unfold JbK at h1
  rw [e, h2] at h1; cases h1
theorem Jd.turned {w w1 w2 : World} {b bm : Nat} {l : List MF} {d : AD} {s t : ByteArray} {x n : Int} {v : Value} (h : Jd w b bm l d s t x n v w1) (hg : w1.grownBy w2 (some bm)) :
    w2.cell? ⟨w.heap.size, 0, none⟩ = some (ptr ⟨b, 0, none⟩) ∧ w2.cell? ⟨w.heap.size, 1, none⟩ = some (.string s) ∧ w2.cell? ⟨w.heap.size, 4, none⟩ = some (.int .i64 n) ∧ w2.cell? ⟨b, 1, none⟩ = some (.map (some bm)) := by
  obtain ⟨c0, c1, _, c4, e1, _⟩ := h.look
  exact ⟨grown_cell hg h.ne.1 c0, grown_cell hg h.ne.1 c1, grown_cell hg h.ne.1 c4, grown_cell hg h.ne.2 e1⟩
theorem Jd.four {w w1 : World} {b bm : Nat} {l : List MF} {d : AD} {s t : ByteArray} {x n : Int} {v : Value} (h : Jd w b bm l d s t x n v w1) :
    w1.cell? ⟨w.heap.size, 0, none⟩ = some (ptr ⟨b, 0, none⟩) ∧ w1.cell? ⟨w.heap.size, 1, none⟩ = some (.string s) ∧ w1.cell? ⟨w.heap.size, 4, none⟩ = some (.int .i64 n) ∧ w1.cell? ⟨b, 1, none⟩ = some (.map (some bm)) := by
  obtain ⟨c0, c1, _, c4, e1, _⟩ := h.look
  exact ⟨c0, c1, c4, e1⟩
theorem Dk.created {F : Nat → Bool} {w w1 w2 : World} {b bm : Nat} {l : List MF} {d : AD} (s : ByteArray) (n g : Nat) (hF : ∀ k, own b bm l k → F k = true) (h : Dk w1 b bm l d) (hb : Below w.heap.size w w1) (hr : SrK w1 g n (List.replicate n zSc)) (hg : w.heap.size ≤ g) (hne : ∀ k, own b bm l k → k < g)
    (hm : MapOf w2 bm (inBy MF.nm (outBy MF.nm l s) ⟨newF s n, g, n⟩)) (hx : w1.grownBy w2 (some bm)) : Done F w b bm l (d.withF (newF s n)) w2 := by
  have hap : ∀ y ∈ outBy MF.nm l s, y.g ≠ g := fun y hy e => by
    have := hne _ (.inr (.inr ⟨y, (mem_out.1 hy).1, rfl⟩)); omega
  refine ⟨_, h.turn ⟨rfl, rfl, rfl, rfl, rfl⟩ hx hm ?_ (nodup_in (nodup_out h.nodup s) _ hap) ?_, (Ext.below hb).grown hx (.inl (hF _ (.inr (.inl rfl)))), ?_⟩
  · intro y hy
    rcases mem_in.1 hy with rfl | hy
    · rw [secsOf_new]; exact hr
    · exact h.row y (mem_out.1 hy).1
  · rw [map_in, map_out, ← h.files]; rfl
  · rintro k (rfl | rfl | ⟨y, hy, rfl⟩) hlt
    · exact .inl rfl
    · exact .inr (.inl rfl)
    · rcases mem_in.1 hy with rfl | hy
      · simp only at hlt; omega
      · exact .inr (.inr ⟨y, (mem_out.1 hy).1, rfl⟩)
set_option maxRecDepth 8000 in
set_option maxHeartbeats 1000000 in
theorem pcreate_any (F : Nat → Bool) (w : World) (b bm : Nat) (l : List MF) (d : AD) (s t : ByteArray) (x : Int) (n : Nat) (va : Option Addr) (vm vc : Nat) (h : Dk w b bm l d) (hF : ∀ k, own b bm l k → F k = true) (hs : s.size ≤ 281474976710656) (hl : l.length ≤ 64) (hn : n ≤ 64) :
    Calls Tryz.prog 21 #[jobV ⟨b, 0, none⟩ s t x (n : Int) (.slice va vm vc)] w fun e w' => e = .returned (.tuple #[]) ∧ Done F w b bm l (d.withF (newF s n)) w' := by
  have HJ := Lib.hid (Jd.start h s t x (n : Int) (.slice va vm vc))
  have HZ := Lib.hid (size_le hs)
  have HL := Lib.hid (show l.length < maxLen by unfold maxLen; omega)
  have HN := Lib.hid (show n ≤ 1000000 by omega)
  have HH := Lib.hid h
  clear hs hl
  go_enter Tryz.func21, Tryz.ntmps21
  go_wp2
  refine wp_region_held_drew (S := (fun w' => w'.cell? ⟨w.heap.size, 0, none⟩ = some (ptr ⟨b, 0, none⟩) ∧ w'.cell? ⟨w.heap.size, 1, none⟩ = some (.string s) ∧ w'.cell? ⟨w.heap.size, 4, none⟩ = some (.int .i64 (n : Int)) ∧ w'.cell? ⟨b, 1, none⟩ = some (.map (some bm)))) (by kernel_rfl) HJ.out.drew.four (fun hS => ?_)
  refine rgw 0 ⟨some 2, .fieldAddr 63 (.tmp 1) 0, 0, _, _, none⟩ hS ?_
  refine rgw 1 ⟨some 3, .load 34 (.tmp 2), 34, _, _, none⟩ hS ?_
  refine rgw 2 ⟨some 4, .nilCheck (.tmp 3), 0, _, _, none⟩ hS ?_
  refine rgw 3 ⟨some 5, .fieldAddr 61 (.tmp 4) 1, 0, _, _, none⟩ hS ?_
  refine rgw 4 ⟨some 6, .load 59 (.tmp 5), 59, _, _, none⟩ hS ?_
  refine rgw 5 ⟨some 7, .fieldAddr 63 (.tmp 1) 1, 0, _, _, none⟩ hS ?_
  refine rgw 6 ⟨some 8, .load 9 (.tmp 7), 9, _, _, none⟩ hS ?_
  refine rgw 7 ⟨some 9, .fieldAddr 63 (.tmp 1) 4, 0, _, _, none⟩ hS ?_
  refine rgw 8 ⟨some 10, .load 3 (.tmp 9), 3, _, _, none⟩ hS ?_
  refine rg_one 9 ⟨some 11, .makeSlice 104 (.tmp 10) (.tmp 10), 104, _, _, none⟩ (by kernel_rfl) rfl (fun K hK => ?_)
  rw [if_pos (by rfl)]; refine wp_make_scs (.tmp 10) (.tmp 10) rfl n rfl rfl HN.out ?_; intro w1 HR1 HB1; have HJ1 := Lib.hid (HJ.out.drew.next HB1.out); have hN := HJ1.out.four
  refine hK.out _ _ ?_ (fun hS1 => ?_)
  · (exact hN)
  clear hK K hS; have hS := hS1; clear hS1
  (try simp only [rgp])
  refine rg_one 10 ⟨none, .mapUpdate 59 (.tmp 6) (.tmp 8) (.tmp 11), 0, _, _, none⟩ (by kernel_rfl) rfl (fun K hK => ?_)
  rw [if_pos (by rfl)]; refine wp_put secE (.tmp 6) (.tmp 8) (.tmp 11) 59 rfl 9 104 Tryz.underlying9 Tryz.underlying59 bm l rfl HJ1.out.dk.map HL.out ⟨newF s n, _, n⟩ rfl HZ.out rfl ?_; intro w2 HM2 hG2; have HDN := Lib.hid (Dk.created s n _ hF HJ1.out.dk HJ1.out.below HR1.out (Nat.le_of_lt HJ.out.drew.size) HJ.out.drew.dk.lt HM2.out hG2.out); clear hN; have hN := HJ1.out.turned hG2.out
  refine hK.out _ _ ?_ (fun hS1 => ?_)
  · (exact hN)
  clear hK K hS; have hS := hS1; clear hS1
  (try simp only [Act.put])
  refine wpAnyH_done (by kernel_rfl) ?_ _
  clear hS
  go_wp2
  go_end0
  exact ⟨rfl, HDN.out⟩
end Go.Proofs.YtnmplnemnfonfaaGreatDoor
namespace Go.Proofs.YtnmplnemnfonfaaGreatDoor
open Go.RowKit
section
variable {α : Type} {nm : α → ByteArray}
theorem in_cons (z y : α) (r : List α) : inBy nm (z :: r) y = if gtN (nm z) (nm y) = true then y :: z :: r else z :: inBy nm r y := by
  unfold inBy
  rw [List.findIdx_cons]
  by_cases h : gtN (nm z) (nm y) = true
  · rw [if_pos h, h]; simp
  · rw [if_neg h]
    rw [Bool.not_eq_true] at h
    rw [h]; simp
theorem in_nil (y : α) : inBy nm ([] : List α) y = [y] := by simp [inBy]
theorem in_first {l : List α} {y : α} (h : ∀ z ∈ l, gtN (nm z) (nm y) = true) : inBy nm l y = y :: l := by
  cases l with
  | nil => rw [in_nil]
  | cons z r => rw [in_cons, if_pos (h z (List.mem_cons_self ..))]
theorem out_cons (z : α) (r : List α) (s : ByteArray) : outBy nm (z :: r) s = if nm z = s then outBy nm r s else z :: outBy nm r s := by
  unfold outBy
  rw [List.filter_cons]
  by_cases h : nm z = s
  · rw [if_pos h, if_neg (by rw [decide_eq_true h]; simp)]
  · rw [if_neg h, if_pos (by rw [decide_eq_false h]; rfl)]
end
theorem Dk.asc {w : World} {b bm : Nat} {l : List MF} {d : AD} (h : Dk w b bm l d) (hg : Good d) : l.Pairwise fun x y => gtN (MF.nm y) (MF.nm x) = true := by
  have := hg.asc
  rw [h.files] at this
  unfold Asc at this
  rw [List.pairwise_map] at this
  exact this
end Go.Proofs.YtnmplnemnfonfaaGreatDoor
namespace Go.Proofs.YtnmplnemnfonfaaGreatDoor
open Go.RowKit
theorem gtN_asymm {a b : ByteArray} (h : gtN a b = true) : ¬ gtN b a = true := fun k => gtN_ne (gtN_trans h k) rfl
theorem in_set {α : Type} {nm : α → ByteArray} : ∀ {l : List α}, l.Pairwise (fun x y => gtN (nm y) (nm x) = true) → ∀ (i : Nat) (x y : α), l[i]? = some x → nm y = nm x → inBy nm (outBy nm l (nm x)) y = l.set i y
  | [], _, i, x, y, hx, _ => by simp at hx
  | z :: r, h, 0, x, y, hx, hn => by
    simp at hx; subst hx
    rw [List.pairwise_cons] at h
    have h1 : outBy nm r (nm z) = r := by
      unfold outBy
      rw [List.filter_eq_self]
      intro q hq
      rw [Bool.not_eq_true', decide_eq_false_iff_not]
      exact gtN_ne (h.1 q hq)
    rw [out_cons, if_pos rfl, h1, in_first (fun q hq => by rw [hn]; exact h.1 q hq)]; rfl
  | z :: r, h, i + 1, x, y, hx, hn => by
    rw [List.pairwise_cons] at h
    have hx2 : r[i]? = some x := by simpa using hx
    have hg := h.1 x (List.mem_of_getElem? hx2)
    rw [out_cons, if_neg (fun e => gtN_ne hg e.symm), in_cons, if_neg (by rw [hn]; exact gtN_asymm hg), in_set h.2 i x y hx2 hn]; rfl
theorem withF_set {d : AD} (hg : Good d) (s : ByteArray) (hh : d.has s) (f : AF) (hf : f.name = s) : d.withF f = { d with L := d.L.set (idxN d.L s) f } := by
  have h1 := in_set (nm := AF.name) hg.asc (idxN d.L s) (d.get s) f (d.get_at s hh) (by rw [hf, d.get_name s hh])
  rw [d.get_name s hh] at h1
  unfold AD.withF
  rw [hf]
  exact congrArg (fun L => { d with L := L }) h1
theorem Dk.rowed {w w' : World} {b bm : Nat} {l : List MF} {d : AD} (h : Dk w b bm l d) {i : Nat} {x : MF} {f : AF} (hx : l[i]? = some x) (hn : f.name = x.f.name) (hk : f.n = x.f.n) (hg : w.grownBy w' (some x.g)) (hr : SrK w' x.g x.c (secsOf f)) :
    Dk w' b bm (l.set i ⟨f, x.g, x.c⟩) { d with L := d.L.set i f } := by
  obtain ⟨hi, hxe⟩ := List.getElem?_eq_some_iff.1 hx
  have hxm := List.mem_of_getElem? hx
  obtain ⟨fl, lf, hb, ht⟩ := h.blk
  have hne := h.ne
  have hgs : ((l.set i ⟨f, x.g, x.c⟩).map MF.g) = l.map MF.g := by
    rw [List.map_set]
    have : (l.map MF.g)[i]? = some x.g := by rw [List.getElem?_map, hx]; rfl
    obtain ⟨h1, h2⟩ := List.getElem?_eq_some_iff.1 this
    show (l.map MF.g).set i x.g = _
    rw [← h2, List.set_getElem_self]
  refine ⟨⟨fl, lf, ?_, ht⟩, ?_, ?_, by rw [hgs]; exact h.nodup, ?_⟩
  · exact (hg.block b (Array.getElem?_eq_some_iff.1 hb).1 (fun e => (hne.2 x hxm).1 (Option.some.inj e).symm)).trans hb
  · have he : ents MF.nm MF.dat (l.set i ⟨f, x.g, x.c⟩) = ents MF.nm MF.dat l := by
      unfold ents
      rw [List.map_set]
      have h0 : (l.map fun x => (keyL (MF.nm x), MF.dat x))[i]? = some (keyL (MF.nm x), MF.dat x) := by rw [List.getElem?_map, hx]; rfl
      obtain ⟨h1, h2⟩ := List.getElem?_eq_some_iff.1 h0
      have h3 : (keyL (MF.nm ⟨f, x.g, x.c⟩), MF.dat ⟨f, x.g, x.c⟩) = (keyL (MF.nm x), MF.dat x) := by
        unfold MF.nm MF.dat; rw [hn, hk]
      rw [h3, ← h2, List.set_getElem_self]
    have hm := h.map.keep (w' := w') (hg.block bm h.map.lt (fun e => (hne.2 x hxm).2 (Option.some.inj e).symm))
    unfold MapOf MO at hm ⊢
    rw [he, List.length_set]; exact hm
  · intro y hy
    obtain ⟨j, hj, rfl⟩ := List.getElem_of_mem hy
    rw [List.length_set] at hj
    by_cases hji : j = i
    · subst hji
      rw [List.getElem_set_self]; exact hr
    · rw [List.getElem_set_ne (Ne.symm hji)]
      have hrow := h.row _ (List.getElem_mem hj)
      refine hrow.keep (hg.block _ hrow.lt (fun e => ?_))
      have hnd := h.nodup
      have e2 : (l.map MF.g)[j]'(by simpa using hj) = (l.map MF.g)[i]'(by simpa using hi) := by
        simp only [List.getElem_map]
        rw [hxe]
        exact Option.some.inj e
      exact hji ((List.getElem_inj hnd).1 e2)
  · show d.L.set i f = _
    rw [List.map_set, ← h.files]
theorem own_set {b bm i : Nat} {l : List MF} {x : MF} {f : AF} (hx : l[i]? = some x) (k : Nat) (h : own b bm (l.set i ⟨f, x.g, x.c⟩) k) : own b bm l k := by
  rcases h with rfl | rfl | ⟨y, hy, rfl⟩
  · exact .inl rfl
  · exact .inr (.inl rfl)
  · rcases List.mem_or_eq_of_mem_set hy with hy | rfl
    · exact .inr (.inr ⟨y, hy, rfl⟩)
    · exact .inr (.inr ⟨x, List.mem_of_getElem? hx, rfl⟩)
def syS (f : AF) (i : Nat) : List Sc := (List.range f.n).map fun j => if j < i then ⟨chunk f.seen j, chunk f.seen j, false⟩ else ⟨chunk f.las j, chunk f.seen j, f.ws.getD j false⟩
theorem syS_get (f : AF) (i j : Nat) (h : j < f.n) : (syS f i)[j]? = some (if j < i then ⟨chunk f.seen j, chunk f.seen j, false⟩ else ⟨chunk f.las j, chunk f.seen j, f.ws.getD j false⟩) := by simp [syS, h]
theorem syS_len (f : AF) (i : Nat) : (syS f i).length = f.n := by simp [syS]
theorem syS_zero (f : AF) : syS f 0 = secsOf f := by simp [syS, secsOf]
theorem syS_succ (f : AF) (i : Nat) (h : i < f.n) : (syS f i).set i ⟨chunk f.seen i, chunk f.seen i, false⟩ = syS f (i + 1) := by
  refine List.ext_getElem? fun j => ?_
  by_cases hj : j < f.n
  · rw [syS_get _ _ _ hj]
    by_cases hji : j = i
    · subst hji
      rw [List.getElem?_set_self (by rw [syS_len]; exact hj), if_pos (by omega)]
    · rw [List.getElem?_set_ne (Ne.symm hji), syS_get _ _ _ hj]
      by_cases h1 : j < i
      · rw [if_pos h1, if_pos (by omega)]
      · rw [if_neg h1, if_neg (by omega)]
  · rw [List.getElem?_eq_none (by rw [List.length_set, syS_len]; omega), List.getElem?_eq_none (by rw [syS_len]; omega)]
def AF.synced (f : AF) : AF := ⟨f.name, f.n, f.seen, f.seen, List.replicate f.n false⟩
theorem syS_all (f : AF) : syS f f.n = secsOf f.synced := by
  refine List.ext_getElem? fun j => ?_
  by_cases hj : j < f.n
  · rw [syS_get _ _ _ hj, if_pos hj, secsOf_get f.synced j hj]
    simp [AF.synced, List.getD, hj]
  · rw [List.getElem?_eq_none (by rw [syS_len]; omega), List.getElem?_eq_none (by rw [secsOf_length]; exact Nat.not_lt.1 hj)]
theorem mixN_all (a b : List Int) (ha : a.length = 64) (hb : b.length = 64) : mixN a b 64 = b := by
  unfold mixN; rw [List.take_of_length_le (by omega), List.drop_eq_nil_of_le (by omega), List.append_nil]
set_option maxRecDepth 8000 in
set_option maxHeartbeats 1000000 in
theorem psync_any (F : Nat → Bool) (w : World) (b bm : Nat) (l : List MF) (d : AD) (s t : ByteArray) (x n : Int) (va : Option Addr) (vm vc : Nat) (h : Dk w b bm l d) (hg : Good d) (hF : ∀ k, own b bm l k → F k = true) (hs : s.size ≤ 281474976710656) (hh : d.has s) :
    Calls Tryz.prog 46 #[jobV ⟨b, 0, none⟩ s t x n (.slice va vm vc)] w fun e w' => e = .returned (.tuple #[]) ∧ Done F w b bm l (d.withF (d.get s).synced) w' := by
  have HJ := Lib.hid (Jd.start h s t x n (.slice va vm vc))
  have HZ := Lib.hid (size_le hs)
  obtain ⟨y, hy, hf, hym, hl⟩ := h.has s hh
  rw [withF_set hg s hh (d.get s).synced (d.get_name s hh), ← hf]
  have HY := Lib.hid hy
  have HXF := hg.file _ (get_mem hh)
  rw [← hf] at HXF
  have HFg := Lib.hid (hF _ (.inr (.inr ⟨y, hym, rfl⟩)))
  obtain ⟨k, hk⟩ : ∃ k, y.f.n = k := ⟨_, rfl⟩
  have HK := Lib.hid hk
  have hk64 : (k : Int) ≤ 64 := by have := HXF.n64; omega
  have HG2 := Lib.hid HXF
  have HLK := Lib.hid (hl.trans (show y.v = .slice (some ⟨y.g, 0, none⟩) k y.c by rw [← hk]; rfl))
  clear h hs hg hf hym hl hh hy hk HXF
  go_enter Tryz.func46, Tryz.ntmps46
  go_wp2
  refine wp_region_held_drew (S := (fun w' => w'.cell? ⟨w.heap.size, 0, none⟩ = some (ptr ⟨b, 0, none⟩) ∧ w'.cell? ⟨w.heap.size, 1, none⟩ = some (.string s) ∧ w'.cell? ⟨w.heap.size, 4, none⟩ = some (.int .i64 n) ∧ w'.cell? ⟨b, 1, none⟩ = some (.map (some bm)))) (by kernel_rfl) HJ.out.drew.four (fun hS => ?_)
  refine rgw 0 ⟨some 4, .fieldAddr 63 (.tmp 1) 0, 0, _, _, none⟩ hS ?_
  refine rgw 1 ⟨some 5, .load 34 (.tmp 4), 34, _, _, none⟩ hS ?_
  refine rgw 2 ⟨some 6, .nilCheck (.tmp 5), 0, _, _, none⟩ hS ?_
  refine rgw 3 ⟨some 7, .fieldAddr 61 (.tmp 6) 1, 0, _, _, none⟩ hS ?_
  refine rgw 4 ⟨some 8, .load 59 (.tmp 7), 59, _, _, none⟩ hS ?_
  refine rgw 5 ⟨some 9, .fieldAddr 63 (.tmp 1) 1, 0, _, _, none⟩ hS ?_
  refine rgw 6 ⟨some 10, .load 9 (.tmp 9), 9, _, _, none⟩ hS ?_
  refine rg_one 7 ⟨some 11, .lookup 59 (.tmp 8) (.tmp 10) false, 104, _, _, none⟩ (by kernel_rfl) rfl (fun K hK => ?_)
  rw [if_pos (by rfl)]; refine wp_look secE (.tmp 8) (.tmp 10) 59 rfl 9 104 Tryz.underlying9 Tryz.underlying59 (zeroS _) bm l rfl HJ.out.drew.dk.map s rfl HZ.out ?_; rw [HLK.out]
  refine hK.out _ _ ?_ (fun hS1 => ?_)
  · (exact hS)
  clear hK K hS; have hS := hS1; clear hS1
  (try simp only [rgp])
  refine rgw 8 ⟨some 2, .assign (.tmp 11), 104, _, _, none⟩ hS ?_
  refine wpAnyH_done (by kernel_rfl) ?_ _
  clear hS
  have HJ2 := Lib.hid HJ.out.drew
  have hsr := HJ2.out.dk.row y (List.mem_of_getElem? HY.out)
  rw [← syS_zero] at hsr
  have HS0 := Lib.hid hsr
  have HB0 := Lib.hid HJ2.out.below
  clear hsr HJ
  obtain ⟨w1, hw1⟩ : ∃ w1, w1 = (w.alloc (.cells (jobC ⟨b, 0, none⟩ s t x n (.slice va vm vc)) 63)).drew := ⟨_, rfl⟩
  rw [← hw1] at HS0 HB0 HJ2 ⊢
  clear hw1
  go_wp2
  go_loopw [14] (fun iv wr => ∃ i : Nat, iv = .int .i64 i ∧ i ≤ k ∧ Hid (SrK wr y.g y.c (syS y.f i)) ∧ Hid (w1.grownBy wr (some y.g))) (fun iv _ => k - (intOf iv).toNat)
  case atStart => exact ⟨0, rfl, by omega, HS0, grown_refl _ _⟩
  case round =>
    obtain ⟨i, rfl, hi, HS, HG⟩ := hrel
    by_cases hlt : (i : Int) < (k : Int)
    · have hik : i < y.f.n := by rw [HK.out]; omega
      have HGT := Lib.hid (syS_get y.f i i hik)
      rw [if_neg (by omega)] at HGT
      have HSU := Lib.hid (syS_succ y.f i hik)
      have HCL := Lib.hid (chunk_length y.f.las y.f.n i HG2.out.las hik)
      have HCS := Lib.hid (chunk_length y.f.seen y.f.n i HG2.out.seen hik)
      have HMX : Hid (mixN (chunk y.f.las i) (chunk y.f.seen i) 64 = chunk y.f.seen i) := Lib.hid (mixN_all _ _ HCL.out HCS.out)
      clear hik
      go_wp2_with (first
        | (go_at_call 73; (refine (settle_any _ y.g y.c i 64 _ _ HS.out HGT.out (Nat.le_refl _)).mono ?_); rintro e w2 ⟨rfl, hs2, hg2⟩; dsimp only at hs2; rw [HMX.out, HSU.out] at hs2; have HS2 := Lib.hid hs2; have HGG := Lib.hid (grown_trans HG.out hg2); clear hs2 hg2))
      go_roundw
      case rel => exact ⟨i + 1, by go_num, by omega, HS2, HGG⟩
      case measure => simp [intOf]; omega
    · obtain rfl : i = k := by omega
      have HDN : Hid (Done F w b bm l { d with L := d.L.set (idxN d.L s) y.f.synced } wr) := Lib.hid (by
        have hr := HS.out
        rw [← HK.out, syS_all] at hr
        exact ⟨_, HJ2.out.dk.rowed HY.out rfl rfl HG.out hr, (Ext.below HB0.out).grown HG.out (.inl HFg.out), fun k hk _ => own_set HY.out k hk⟩)
      go_wp2
      go_end0
      exact ⟨rfl, HDN.out⟩
end Go.Proofs.YtnmplnemnfonfaaGreatDoor
namespace Go.Proofs.YtnmplnemnfonfaaGreatDoor
open Go.RowKit
def AF.written (f : AF) (p m : Nat) (fs : List Int) : AF := ⟨f.name, f.n, f.las, f.seen.take (p * 64) ++ fs ++ f.seen.drop (p * 64 + m * 64), f.ws.take p ++ List.replicate m true ++ f.ws.drop (p + m)⟩
def wrS2 (f : AF) (p : Nat) (fs : List Int) (i : Nat) : List Sc := (List.range f.n).map fun j => if p ≤ j ∧ j < p + i then ⟨chunk f.las j, chunk fs (j - p), true⟩ else ⟨chunk f.las j, chunk f.seen j, f.ws.getD j false⟩
theorem wrS2_get (f : AF) (p : Nat) (fs : List Int) (i j : Nat) (h : j < f.n) : (wrS2 f p fs i)[j]? = some (if p ≤ j ∧ j < p + i then ⟨chunk f.las j, chunk fs (j - p), true⟩ else ⟨chunk f.las j, chunk f.seen j, f.ws.getD j false⟩) := by simp [wrS2, h]
theorem wrS2_len (f : AF) (p : Nat) (fs : List Int) (i : Nat) : (wrS2 f p fs i).length = f.n := by simp [wrS2]
theorem wrS2_zero (f : AF) (p : Nat) (fs : List Int) : wrS2 f p fs 0 = secsOf f := by
  refine List.ext_getElem? fun j => ?_
  by_cases hj : j < f.n
  · rw [wrS2_get _ _ _ _ _ hj, if_neg (by omega), secsOf_get _ _ hj]
  · rw [List.getElem?_eq_none (by rw [wrS2_len]; omega), List.getElem?_eq_none (by rw [secsOf_length]; omega)]
theorem wrS2_succ (f : AF) (p : Nat) (fs : List Int) (i : Nat) (_h : p + i < f.n) : (wrS2 f p fs i).set (p + i) ⟨chunk f.las (p + i), chunk fs i, true⟩ = wrS2 f p fs (i + 1) := by
  refine List.ext_getElem? fun j => ?_
  by_cases hj : j < f.n
  · rw [wrS2_get _ _ _ _ _ hj]
    by_cases hji : j = p + i
    · subst hji
      rw [List.getElem?_set_self (by rw [wrS2_len]; exact hj), if_pos (by omega), show p + i - p = i from by omega]
    · rw [List.getElem?_set_ne (Ne.symm hji), wrS2_get _ _ _ _ _ hj]
      by_cases h1 : p ≤ j ∧ j < p + i
      · rw [if_pos h1, if_pos (by omega)]
      · rw [if_neg h1, if_neg (by omega)]
  · rw [List.getElem?_eq_none (by rw [List.length_set, wrS2_len]; omega), List.getElem?_eq_none (by rw [wrS2_len]; omega)]
theorem chunk_get (l : List Int) (j q : Nat) (hq : q < 64) : (chunk l j)[q]? = l[j * 64 + q]? := by
  unfold chunk
  rw [List.getElem?_take_of_lt hq, List.getElem?_drop]
theorem chunk_out (l : List Int) (j q : Nat) (hq : ¬ q < 64) : (chunk l j)[q]? = none := by
  unfold chunk
  exact List.getElem?_eq_none (by rw [List.length_take]; omega)
theorem wrS2_all (f : AF) (p m : Nat) (fs : List Int) (hf : fs.length = m * 64) (hs : f.seen.length = f.n * 64) (hw : f.ws.length = f.n) (hp : p + m ≤ f.n) : wrS2 f p fs m = secsOf (f.written p m fs) := by
  have hpm : (p + m) * 64 ≤ f.n * 64 := Nat.mul_le_mul_right _ hp
  refine List.ext_getElem? fun j => ?_
  by_cases hj : j < f.n
  · rw [wrS2_get _ _ _ _ _ hj, secsOf_get (f.written p m fs) j hj]
    have hl1 : (f.seen.take (p * 64)).length = p * 64 := by rw [List.length_take]; omega
    have hl2 : (f.ws.take p).length = p := by rw [List.length_take]; omega
    by_cases h1 : p ≤ j ∧ j < p + m
    · rw [if_pos h1]
      have hjm : (j - p + 1) * 64 ≤ m * 64 := Nat.mul_le_mul_right _ (by omega)
      have e1 : chunk (f.written p m fs).seen j = chunk fs (j - p) := by
        refine List.ext_getElem? fun q => ?_
        by_cases hq : q < 64
        · rw [chunk_get _ _ _ hq, chunk_get _ _ _ hq]
          show (f.seen.take (p * 64) ++ fs ++ f.seen.drop (p * 64 + m * 64))[j * 64 + q]? = _
          have hpj : p * 64 ≤ j * 64 := Nat.mul_le_mul_right _ h1.1
          rw [List.append_assoc, List.getElem?_append_right (by omega), hl1, List.getElem?_append_left (by omega)]
          congr 1; omega
        · rw [chunk_out _ _ _ hq, chunk_out _ _ _ hq]
      have e2 : (f.written p m fs).ws.getD j false = true := by
        show (f.ws.take p ++ List.replicate m true ++ f.ws.drop (p + m)).getD j false = true
        unfold List.getD
        rw [List.append_assoc, List.getElem?_append_right (by omega), hl2, List.getElem?_append_left (by rw [List.length_replicate]; omega), List.getElem?_replicate, if_pos (by omega)]; rfl
      rw [e1, e2]; rfl
    · rw [if_neg h1]
      have e1 : chunk (f.written p m fs).seen j = chunk f.seen j := by
        refine List.ext_getElem? fun q => ?_
        by_cases hq : q < 64
        · rw [chunk_get _ _ _ hq, chunk_get _ _ _ hq]
          show (f.seen.take (p * 64) ++ fs ++ f.seen.drop (p * 64 + m * 64))[j * 64 + q]? = _
          by_cases h2 : j < p
          · have : (j + 1) * 64 ≤ p * 64 := Nat.mul_le_mul_right _ h2
            rw [List.append_assoc, List.getElem?_append_left (by omega), List.getElem?_take_of_lt (by omega)]
          · have : (p + m) * 64 ≤ j * 64 := Nat.mul_le_mul_right _ (by omega)
            rw [List.getElem?_append_right (by rw [List.length_append, hl1, hf]; omega), List.length_append, hl1, hf, List.getElem?_drop]
            congr 1; omega
        · rw [chunk_out _ _ _ hq, chunk_out _ _ _ hq]
      have e2 : (f.written p m fs).ws.getD j false = f.ws.getD j false := by
        show (f.ws.take p ++ List.replicate m true ++ f.ws.drop (p + m)).getD j false = _
        unfold List.getD
        by_cases h2 : j < p
        · rw [List.append_assoc, List.getElem?_append_left (by omega), List.getElem?_take_of_lt h2]
        · rw [List.getElem?_append_right (by rw [List.length_append, hl2, List.length_replicate]; omega), List.length_append, hl2, List.length_replicate, List.getElem?_drop]
          congr 2; omega
      rw [e1, e2]; rfl
  · rw [List.getElem?_eq_none (by rw [wrS2_len]; omega), List.getElem?_eq_none (by rw [secsOf_length]; exact Nat.not_lt.1 hj)]
theorem Blk.grown {w w' : World} {b g : Nat} {c : List Int} (h : Blk w b c) (hg : w.grownBy w' (some g)) (hne : b ≠ g) : Blk w' b c :=
  ⟨by rw [hg.block b (Array.getElem?_eq_some_iff.1 h.1).1 (fun e => hne (Option.some.inj e))]; exact h.1, h.2⟩
set_option maxRecDepth 8000 in
set_option maxHeartbeats 2000000 in
theorem pwrite_any (F : Nat → Bool) (w : World) (b bm : Nat) (l : List MF) (d : AD) (s t : ByteArray) (p m : Nat) (n : Int) (va : Option Addr) (vc : Nat) (fs : List Int) (h : Dk w b bm l d) (hg : Good d) (hF : ∀ k, own b bm l k → F k = true) (hs : s.size ≤ 281474976710656) (hh : d.has s)
    (hp : p + m ≤ (d.get s).n) (hfs : FS (mask F w) (.slice va m vc) m fs) :
    Calls Tryz.prog 48 #[jobV ⟨b, 0, none⟩ s t (p : Int) n (.slice va m vc)] w fun e w' => e = .returned (.tuple #[]) ∧ Done F w b bm l (d.withF ((d.get s).written p m fs)) w' := by
  have HJ := Lib.hid (Jd.start h s t (p : Int) n (.slice va m vc))
  have HZ := Lib.hid (size_le hs)
  obtain ⟨y, hy, hf, hym, hl⟩ := h.has s hh
  rw [withF_set hg s hh ((d.get s).written p m fs) (d.get_name s hh), ← hf]
  have HY := Lib.hid hy
  have HXF := hg.file _ (get_mem hh)
  rw [← hf] at HXF hp
  have HYL := Lib.hid (h.row y hym).lt
  have HFg := Lib.hid (hF _ (.inr (.inr ⟨y, hym, rfl⟩)))
  have HP := Lib.hid hp
  have HFS := Lib.hid hfs
  obtain ⟨k, hk⟩ : ∃ k, y.f.n = k := ⟨_, rfl⟩
  have HK := Lib.hid hk
  have hk64 : k ≤ 64 := by have := HXF.n64; omega
  have hpk : p + m ≤ k := by omega
  have hkc : k ≤ y.c := by
    obtain ⟨cur, _, _, h3, _⟩ := h.row y hym
    rwa [secsOf_length, hk] at h3
  have HG2 := Lib.hid HXF
  have HLK := Lib.hid (hl.trans (show y.v = .slice (some ⟨y.g, 0, none⟩) k y.c by rw [← hk]; rfl))
  clear h hs hg hf hym hl hh hy hk HXF hp hfs
  go_enter Tryz.func48, Tryz.ntmps48
  go_wp2
  refine wp_region_held_drew (S := (fun w' => w'.cell? ⟨w.heap.size, 0, none⟩ = some (ptr ⟨b, 0, none⟩) ∧ w'.cell? ⟨w.heap.size, 1, none⟩ = some (.string s) ∧ w'.cell? ⟨w.heap.size, 4, none⟩ = some (.int .i64 n) ∧ w'.cell? ⟨b, 1, none⟩ = some (.map (some bm)))) (by kernel_rfl) HJ.out.drew.four (fun hS => ?_)
  refine rgw 0 ⟨some 5, .fieldAddr 63 (.tmp 1) 0, 0, _, _, none⟩ hS ?_
  refine rgw 1 ⟨some 6, .load 34 (.tmp 5), 34, _, _, none⟩ hS ?_
  refine rgw 2 ⟨some 7, .nilCheck (.tmp 6), 0, _, _, none⟩ hS ?_
  refine rgw 3 ⟨some 8, .fieldAddr 61 (.tmp 7) 1, 0, _, _, none⟩ hS ?_
  refine rgw 4 ⟨some 9, .load 59 (.tmp 8), 59, _, _, none⟩ hS ?_
  refine rgw 5 ⟨some 10, .fieldAddr 63 (.tmp 1) 1, 0, _, _, none⟩ hS ?_
  refine rgw 6 ⟨some 11, .load 9 (.tmp 10), 9, _, _, none⟩ hS ?_
  refine rg_one 7 ⟨some 12, .lookup 59 (.tmp 9) (.tmp 11) false, 104, _, _, none⟩ (by kernel_rfl) rfl (fun K hK => ?_)
  rw [if_pos (by rfl)]; refine wp_look secE (.tmp 9) (.tmp 11) 59 rfl 9 104 Tryz.underlying9 Tryz.underlying59 (zeroS _) bm l rfl HJ.out.drew.dk.map s rfl HZ.out ?_; rw [HLK.out]
  refine hK.out _ _ ?_ (fun hS1 => ?_)
  · (exact hS)
  clear hK K hS; have hS := hS1; clear hS1
  (try simp only [rgp])
  refine rgw 8 ⟨some 2, .assign (.tmp 12), 104, _, _, none⟩ hS ?_
  refine wpAnyH_done (by kernel_rfl) ?_ _
  clear hS
  have HJ2 := Lib.hid HJ.out.drew
  have hsr := HJ2.out.dk.row y (List.mem_of_getElem? HY.out)
  rw [← wrS2_zero y.f p fs] at hsr
  have HS0 := Lib.hid hsr
  have HB0 := Lib.hid HJ2.out.below
  clear hsr HJ
  obtain ⟨w1, hw1⟩ : ∃ w1, w1 = (w.alloc (.cells (jobC ⟨b, 0, none⟩ s t (p : Int) n (.slice va m vc)) 63)).drew := ⟨_, rfl⟩
  rw [← hw1] at HS0 HB0 HJ2 ⊢
  obtain ⟨c0, c1, c2, c3, c4, c5⟩ := HJ2.out.jb.cells
  clear hw1
  go_wp2
  go_loopw [16] (fun iv wr => ∃ i : Nat, iv = .int .i64 i ∧ i ≤ m ∧ Hid (SrK wr y.g y.c (wrS2 y.f p fs i)) ∧ Hid (w1.grownBy wr (some y.g))) (fun iv _ => m - (intOf iv).toNat)
  case atStart => exact ⟨0, rfl, by omega, HS0, grown_refl _ _⟩
  case round =>
    obtain ⟨i, rfl, hi, HS, HG⟩ := hrel
    by_cases hlt : (i : Int) < (m : Int)
    · have him : i < m := by omega
      have hik : p + i < y.f.n := by rw [HK.out]; omega
      have HGT := Lib.hid (wrS2_get y.f p fs i (p + i) hik)
      rw [if_neg (by omega)] at HGT
      have HSU := Lib.hid (wrS2_succ y.f p fs i hik)
      have HEX := Lib.hid ((Ext.below (F := F) HB0.out).grown HG.out (.inl HFg.out))
      have HFW : Hid (FS wr (.slice va m vc) m fs) := Lib.hid ((HFS.out.kin HEX.out.kin).kin (unmask F wr))
      obtain ⟨sb, so, rfl, hat⟩ := HFW.out.at_ i him
      have HAT : Hid (At wr sb (so + i * 64) (chunk fs i)) := Lib.hid hat
      have HCL : Hid ((chunk fs i).length = 64) := Lib.hid hat.1
      have c3' : wr.cell? ⟨w.heap.size, 3, none⟩ = some (.int .i64 (p : Int)) := grown_cell HG.out (fun e => by have := HYL.out; simp only at e; omega) c3
      have hw2 : IntKind.i64.wrap ((p : Int) + (i : Int)) = ((p + i : Nat) : Int) := by rw [IntWalk.i64_in _ (by omega)]; omega
      obtain ⟨q, hq⟩ : ∃ q, p + i = q := ⟨_, rfl⟩
      rw [hq] at hw2 hik HGT HSU
      have hqk : q < k := by omega
      have hqc : (q : Int) < (k : Int) := by omega
      have HZ6 := Lib.hid z64_cells
      have HSZ := Lib.hid HG.out.size
      have HSZ2 := Lib.hid HJ2.out.size
      have HGT2 : Hid (((wrS2 y.f p fs i).set q ⟨chunk y.f.las q, chunk fs i, y.f.ws.getD q false⟩)[q]? = some ⟨chunk y.f.las q, chunk fs i, y.f.ws.getD q false⟩) := Lib.hid (List.getElem?_set_self (by rw [wrS2_len]; exact hik))
      have hny : w.heap.size ≠ y.g := fun e => by have := HYL.out; omega
      have hnr : wr.heap.size ≠ y.g := fun e => by have := HYL.out; have h1 := HSZ.out; have h2 := HSZ2.out; have h3 := HJ2.out.size; omega
      clear hat hik him
      go_wp2_with (first
        | (refine wpl_load_at rfl (.tmp 19) rfl sb (so + i * 64) rfl _ HAT.out ?_)
        | (rw [← HZ6.out]; refine wpl_store_new rfl _ _ rfl rfl wr.heap.size rfl _ HCL.out rfl rfl wr (Lib.hid (Below.refl _ _)) ?_; intro w2 HK2 HB2 HW2; have HS2 := Lib.hid (HS.out.keep (HB2.out.block _ HS.out.lt)); have HG3 := Lib.hid (grown_trans HG.out (show wr.grownBy w2 (some y.g) from ⟨HB2.out.os, HB2.out.tape, HB2.out.output, HB2.out.size, fun j hj _ => HB2.out.block j hj⟩)); have c3'' := cell_keep HB2.out c3'))
      refine wp_region_held_drew (S := (fun w' => w'.cell? ⟨w.heap.size, 3, none⟩ = some (.int .i64 (p : Int)) ∧ Blk w' wr.heap.size (chunk fs i))) (by kernel_rfl) ⟨c3'', HK2.out⟩ (fun hS => ?_)
      refine rgw 0 ⟨some 21, .move (.tmp 2), 104, _, _, none⟩ hS ?_
      refine rgw 1 ⟨some 22, .fieldAddr 63 (.tmp 1) 3, 0, _, _, none⟩ hS ?_
      refine rgw 2 ⟨some 23, .load 3 (.tmp 22), 3, _, _, none⟩ hS ?_
      refine rgw 3 ⟨some 24, .move (.tmp 3), 3, _, _, none⟩ hS ?_
      refine rgw 4 ⟨some 25, .binOp .add 3 (.tmp 23) (.tmp 24) 3, 3, _, _, none⟩ hS ?_ (v := .int .i64 (q : Int)) (hy := by intro w hSw; (try dsimp only at hSw); go_simp)
      refine rgw 5 ⟨some 26, .move (.tmp 2), 104, _, _, none⟩ hS ?_
      refine rgw 6 ⟨some 27, .fieldAddr 63 (.tmp 1) 3, 0, _, _, none⟩ hS ?_
      refine rgw 7 ⟨some 28, .load 3 (.tmp 27), 3, _, _, none⟩ hS ?_
      refine rgw 8 ⟨some 29, .move (.tmp 3), 3, _, _, none⟩ hS ?_
      refine rgw 9 ⟨some 30, .binOp .add 3 (.tmp 28) (.tmp 29) 3, 3, _, _, none⟩ hS ?_ (v := .int .i64 (q : Int)) (hy := by intro w hSw; (try dsimp only at hSw); go_simp)
      refine rgw 10 ⟨some 31, .load 92 (.tmp 4), 92, _, _, none⟩ hS ?_ (hy := by intro w hSw; (try dsimp only at hSw); refine exec_load_sec (.tmp 4) ?_ ?_ hSw.2 <;> rfl)
      refine rgw 11 ⟨some 32, .indexAddr 104 (.tmp 21) (.tmp 25), 0, _, _, none⟩ hS ?_
      refine rgw 12 ⟨some 33, .fieldAddr 142 (.tmp 32) 1, 0, _, _, none⟩ hS ?_
      refine rg_one 13 ⟨none, .store 92 (.tmp 33) (.tmp 31), 0, _, _, none⟩ (by kernel_rfl) rfl (fun K hK => ?_)
      rw [if_pos (by rfl)]; refine wp_put_se (.tmp 33) (.tmp 31) rfl y.g y.c _ (SrK.keep HS2.out rfl) q _ HGT.out (chunk fs i) HCL.out (q * 129 + 64) rfl rfl rfl ?_; intro w3 HS3 hG3; dsimp only at HS3; have HG4 := Lib.hid (grown_trans (grown_drew HG3.out) hG3.out); have hN := (⟨grown_cell hG3.out hny hS.1, hS.2.grown hG3.out hnr⟩ : w3.cell? ⟨w.heap.size, 3, none⟩ = some (.int .i64 (p : Int)) ∧ Blk w3 wr.heap.size (chunk fs i)); clear hG3
      refine hK.out _ _ ?_ (fun hS1 => ?_)
      · (exact hN)
      clear hK K hS; have hS := hS1; clear hS1
      (try simp only [Act.put])
      refine rgw 14 ⟨some 34, .indexAddr 104 (.tmp 26) (.tmp 30), 0, _, _, none⟩ hS ?_
      refine rgw 15 ⟨some 35, .fieldAddr 142 (.tmp 34) 2, 0, _, _, none⟩ hS ?_
      refine rg_one 16 ⟨none, .store 4 (.tmp 35) (.const (.bool true)), 0, _, _, none⟩ (by kernel_rfl) rfl (fun K hK => ?_)
      rw [if_pos (by rfl)]; refine wp_put_wt (.tmp 35) (.const (.bool true)) rfl y.g y.c _ HS3.out q _ HGT2.out true (q * 129 + 128) rfl rfl rfl ?_; intro w4 HS4 hG4; dsimp only at HS4; rw [List.set_set, HSU.out] at HS4; have HG5 := Lib.hid (grown_trans HG4.out hG4.out); clear hN; have hN := (⟨grown_cell hG4.out hny hS.1, hS.2.grown hG4.out hnr⟩ : w4.cell? ⟨w.heap.size, 3, none⟩ = some (.int .i64 (p : Int)) ∧ Blk w4 wr.heap.size (chunk fs i)); clear hG4
      refine hK.out _ _ ?_ (fun hS1 => ?_)
      · (exact hN)
      clear hK K hS; have hS := hS1; clear hS1
      (try simp only [Act.put])
      refine wpAnyH_done (by kernel_rfl) ?_ _
      clear hS hN
      go_wp2
      go_roundw
      case rel => exact ⟨i + 1, by go_num, by omega, HS4, HG5⟩
      case measure => simp [intOf]; omega
    · obtain rfl : i = m := by omega
      have HDN : Hid (Done F w b bm l { d with L := d.L.set (idxN d.L s) (y.f.written p i fs) } wr) := Lib.hid (by
        have hr := HS.out
        rw [wrS2_all y.f p i fs HFS.out.length HG2.out.seen HG2.out.ws HP.out] at hr
        exact ⟨_, HJ2.out.dk.rowed HY.out rfl rfl HG.out hr, (Ext.below HB0.out).grown HG.out (.inl HFg.out), fun k hk _ => own_set HY.out k hk⟩)
      go_wp2
      go_end0
      exact ⟨rfl, HDN.out⟩
end Go.Proofs.YtnmplnemnfonfaaGreatDoor
namespace Go.Proofs.YtnmplnemnfonfaaGreatDoor
open Go.RowKit
abbrev fnV (fn : Nat) (cs : Array Value) : Value := .func (.func fn) cs #[]
theorem ask_down (w : World) (b bm : Nat) (l : List MF) (d : AD) (h : Dk w b bm l d) (hd : d.down = true) (v : Value) :
    Calls Tryz.prog 40 #[ptr ⟨b, 0, none⟩, v] w fun e w' => e = .returned (.int .i64 9) ∧ w = w' := by
  obtain ⟨fl, lf, hb, _⟩ := h.blk
  obtain ⟨_, _, _, c3, _⟩ := hb.cells
  rw [hd] at c3
  clear hb h hd
  go_enter Tryz.func40, Tryz.ntmps40
  go_wp2
  go_ret
  exact ⟨rfl, rfl⟩
theorem ask_up (w : World) (b bm : Nat) (l : List MF) (d : AD) (h : Dk w b bm l d) (hd : d.down = false) (fn : Nat) (eg : ∀ args w, (callFunc fn args).run Tryz.prog w = .ok (.enter fn args) w) (cs : Array Value) (y : Int)
    (hmay : Calls Tryz.prog fn cs w fun e w' => e = .returned (.int .i64 y) ∧ Below w.heap.size w w') :
    Calls Tryz.prog 40 #[ptr ⟨b, 0, none⟩, fnV fn cs] w fun e w' => e = .returned (.int .i64 y) ∧ Below w.heap.size w w' := by
  obtain ⟨fl, lf, hb, _⟩ := h.blk
  obtain ⟨_, _, _, c3, _⟩ := hb.cells
  rw [hd] at c3
  have HM := Lib.hid hmay
  clear hb h hd hmay
  go_enter Tryz.func40, Tryz.ntmps40
  go_wp2_with (first
    | (with_reducible refine HM.out.mono ?_; rintro e w1 ⟨rfl, hb⟩; have HB := Lib.hid hb; clear hb))
  go_ret
  exact ⟨rfl, HB.out⟩
theorem tell_down (w : World) (b bm : Nat) (l : List MF) (d : AD) (h : Dk w b bm l d) (hd : d.down = true) (v u : Value) :
    Calls Tryz.prog 19 #[ptr ⟨b, 0, none⟩, v, u] w fun e w' => e = .returned (.int .i64 9) ∧ w = w' := by
  have HD := Lib.hid h
  have HDN := Lib.hid hd
  clear h hd
  go_enter Tryz.func19, Tryz.ntmps19
  go_wp2_with (first
    | (go_at_call 40; (with_reducible refine (ask_down _ b bm l d HD.out HDN.out v).mono ?_); rintro e w1 ⟨rfl, rfl⟩))
  go_ret
  exact ⟨rfl, rfl⟩
theorem tell_not (w : World) (b bm : Nat) (l : List MF) (d : AD) (h : Dk w b bm l d) (hd : d.down = false) (fn : Nat) (eg : ∀ args w, (callFunc fn args).run Tryz.prog w = .ok (.enter fn args) w) (cs : Array Value) (y : Int) (hy : ¬ y = 0)
    (hmay : Calls Tryz.prog fn cs w fun e w' => e = .returned (.int .i64 y) ∧ Below w.heap.size w w') (u : Value) :
    Calls Tryz.prog 19 #[ptr ⟨b, 0, none⟩, fnV fn cs, u] w fun e w' => e = .returned (.int .i64 y) ∧ Below w.heap.size w w' := by
  have HA := Lib.hid (ask_up w b bm l d h hd fn eg cs y hmay)
  clear h hd hmay eg
  go_enter Tryz.func19, Tryz.ntmps19
  go_wp2_with (first
    | (go_at_call 40; (with_reducible refine HA.out.mono ?_); rintro e w1 ⟨rfl, hb⟩; have HB := Lib.hid hb; clear hb))
  go_ret
  exact ⟨rfl, HB.out⟩
theorem Dk.cellset {w : World} {b bm : Nat} {l : List MF} {d d' : AD} {fl fl' : Bool} {lf lf' : Int} (h : Dk w b bm l d) (hb : DBk w b bm d fl lf) (j : Nat) (v : Value) (hc : (dCells bm d fl lf).setIfInBounds j v = dCells bm d' fl' lf') (hL : d'.L = d.L) (ht : d'.down = false → fl' = d'.told ∧ lf' = d'.after) :
    Dk (w.setCell ⟨b, j, none⟩ v) b bm l d' ∧ DBk (w.setCell ⟨b, j, none⟩ v) b bm d' fl' lf' := by
  have h1 : DBk (w.setCell ⟨b, j, none⟩ v) b bm d' fl' lf' := by
    have := hb.set j v
    rw [hc] at this; exact this
  have hne := h.ne
  have hk : ∀ k, k ≠ b → (w.setCell ⟨b, j, none⟩ v).heap[k]? = w.heap[k]? := fun k hk => Below.heap_setCell w ⟨b, j, none⟩ v k hk
  exact ⟨⟨⟨fl', lf', h1, ht⟩, h.map.keep (hk _ (fun e => hne.1 e.symm)), fun x hx => (h.row x hx).keep (hk _ (hne.2 x hx).1), h.nodup, by rw [hL, h.files]⟩, h1⟩
theorem Ext.cellset {F : Nat → Bool} {w w' : World} (h : Ext F w w' F) {b : Nat} (hb : F b = true) (j : Nat) (v : Value) : Ext F w (w'.setCell ⟨b, j, none⟩ v) F := h.grown (grown_setCell b j v w') (.inl hb)
theorem Done.trans {F : Nat → Bool} {w w1 w2 : World} {b bm : Nat} {l : List MF} {d : AD} (hx : Ext F w w1 F) (h : Done F w1 b bm l d w2) : Done F w b bm l d w2 := by
  obtain ⟨l', h1, h2, h3⟩ := h
  exact ⟨l', h1, hx.trans h2, fun k hk hl => h3 k hk (Nat.lt_of_lt_of_le hl hx.size)⟩
set_option maxRecDepth 8000 in
theorem tell_dies (F : Nat → Bool) (w : World) (b bm : Nat) (l : List MF) (d : AD) (h : Dk w b bm l d) (hF : ∀ k, own b bm l k → F k = true) (hd : d.down = false) (hto : d.told = true ∧ d.after = 0) (fn : Nat) (eg : ∀ args w, (callFunc fn args).run Tryz.prog w = .ok (.enter fn args) w) (cs : Array Value)
    (hmay : Calls Tryz.prog fn cs w fun e w' => e = .returned (.int .i64 0) ∧ Below w.heap.size w w') (u : Value) :
    Calls Tryz.prog 19 #[ptr ⟨b, 0, none⟩, fnV fn cs, u] w fun e w' => e = .returned (.int .i64 9) ∧ Done F w b bm l d.opd w' := by
  have HA := Lib.hid (ask_up w b bm l d h hd fn eg cs 0 hmay)
  obtain ⟨fl, lf, hb, ht⟩ := h.blk
  obtain ⟨h1, h2⟩ := ht hd
  rw [hto.1] at h1
  rw [hto.2] at h2
  subst h1; subst h2
  have HDN : Hid (∀ w1, Below w.heap.size w w1 → DBk w1 b bm d true 0 ∧ Done F w b bm l d.opd (w1.setCell ⟨b, 3, none⟩ (.bool true))) := Lib.hid fun w1 hb1 => by
    have hk := h.lt b (.inl rfl)
    have h1 : DBk w1 b bm d true 0 := (hb1.block b hk).trans hb
    have h2 := (h.below hb1).cellset (d' := d.opd) (fl' := true) (lf' := 0) h1 3 (.bool true) (by unfold AD.opd; rw [if_pos hto]; rfl) d.opd_L (by unfold AD.opd; rw [if_pos hto]; intro h; simp at h)
    exact ⟨h1, l, h2.1, (Ext.below hb1).cellset (hF b (.inl rfl)) _ _, fun k hk _ => hk⟩
  clear h hd hmay eg hto ht hb
  go_enter Tryz.func19, Tryz.ntmps19
  go_wp2_with (first
    | (go_at_call 40; (with_reducible refine HA.out.mono ?_); rintro e w1 ⟨rfl, hb⟩; obtain ⟨hdb, hdn⟩ := HDN.out w1 hb; have HDD := Lib.hid hdn; obtain ⟨c0, c1, c2, c3, c4, c5⟩ := hdb.cells; have z3 := hdb.frozen 3; clear hb hdb hdn))
  go_ret
  exact ⟨rfl, HDD.out⟩
set_option maxRecDepth 8000 in
theorem tell_does (F : Nat → Bool) (w : World) (b bm : Nat) (l : List MF) (d d2 : AD) (h : Dk w b bm l d) (hF : ∀ k, own b bm l k → F k = true) (hd : d.down = false) (hto : ¬ (d.told = true ∧ d.after = 0)) (fn : Nat) (eg : ∀ args w, (callFunc fn args).run Tryz.prog w = .ok (.enter fn args) w) (cs : Array Value)
    (hmay : Calls Tryz.prog fn cs w fun e w' => e = .returned (.int .i64 0) ∧ Below w.heap.size w w') (fn2 : Nat) (eg2 : ∀ args w, (callFunc fn2 args).run Tryz.prog w = .ok (.enter fn2 args) w) (cs2 : Array Value)
    (hdo : ∀ w1, Ext F w w1 F → Dk w1 b bm l d.opd → Calls Tryz.prog fn2 cs2 w1 fun e w' => e = .returned (.tuple #[]) ∧ Done F w1 b bm l d2 w') :
    Calls Tryz.prog 19 #[ptr ⟨b, 0, none⟩, fnV fn cs, fnV fn2 cs2] w fun e w' => e = .returned (.int .i64 0) ∧ Done F w b bm l d2 w' := by
  have HA := Lib.hid (ask_up w b bm l d h hd fn eg cs 0 hmay)
  have HDO := Lib.hid hdo
  obtain ⟨fl, lf, hb, ht⟩ := h.blk
  obtain ⟨h1, h2⟩ := ht hd
  subst h1; subst h2
  have hbF := hF b (.inl rfl)
  cases hT : d.told with
  | false =>
    have HDN : Hid (∀ w1, Below w.heap.size w w1 → DBk w1 b bm d false d.after ∧ Ext F w (w1.setCell ⟨b, 2, none⟩ (.int .i64 (wrap64 (d.ops + 1)))) F ∧ Dk (w1.setCell ⟨b, 2, none⟩ (.int .i64 (wrap64 (d.ops + 1)))) b bm l d.opd) := Lib.hid fun w1 hb1 => by
      have hk := h.lt b (.inl rfl)
      have h1 : DBk w1 b bm d d.told d.after := (hb1.block b hk).trans hb
      have ho : d.opd = { d with ops := wrap64 (d.ops + 1) } := by unfold AD.opd; rw [if_neg hto, hT]; simp
      have h2 := (h.below hb1).cellset (d' := d.opd) (fl' := d.told) (lf' := d.after) h1 2 (.int .i64 (wrap64 (d.ops + 1))) (by rw [ho]; rfl) d.opd_L (by rw [ho]; intro _; exact ⟨rfl, rfl⟩)
      rw [hT] at h1
      exact ⟨h1, (Ext.below hb1).cellset hbF _ _, h2.1⟩
    clear h hd hmay eg hto ht hb hdo
    go_enter Tryz.func19, Tryz.ntmps19
    go_wp2_with (first
      | (go_at_call 40; (with_reducible refine HA.out.mono ?_); rintro e w1 ⟨rfl, hb⟩; obtain ⟨hdb, hx, hdk⟩ := HDN.out w1 hb; have HX := Lib.hid hx; have HK := Lib.hid hdk; obtain ⟨c0, c1, c2, c3, c4, c5⟩ := hdb.cells; have z2 := hdb.frozen 2; clear hb hdb hx hdk)
      | (with_reducible refine (HDO.out _ HX.out HK.out).mono ?_; rintro e w2 ⟨rfl, hdn⟩; have HDD := Lib.hid (hdn.trans HX.out); clear hdn))
    go_ret
    exact ⟨rfl, HDD.out⟩
  | true =>
    have hne : ¬ d.after = 0 := fun e => hto ⟨hT, e⟩
    have HDN : Hid (∀ w1, Below w.heap.size w w1 → DBk w1 b bm d true d.after ∧ Ext F w ((w1.setCell ⟨b, 5, none⟩ (.int .i64 (wrap64 (d.after - 1)))).setCell ⟨b, 2, none⟩ (.int .i64 (wrap64 (d.ops + 1)))) F ∧ Dk ((w1.setCell ⟨b, 5, none⟩ (.int .i64 (wrap64 (d.after - 1)))).setCell ⟨b, 2, none⟩ (.int .i64 (wrap64 (d.ops + 1)))) b bm l d.opd) := Lib.hid fun w1 hb1 => by
      have hk := h.lt b (.inl rfl)
      have h1 : DBk w1 b bm d d.told d.after := (hb1.block b hk).trans hb
      have ho : d.opd = { d with after := wrap64 (d.after - 1), ops := wrap64 (d.ops + 1) } := by unfold AD.opd; rw [if_neg hto, hT]; simp
      have h2 := (h.below hb1).cellset (d' := { d with after := wrap64 (d.after - 1) }) (fl' := d.told) (lf' := wrap64 (d.after - 1)) h1 5 (.int .i64 (wrap64 (d.after - 1))) (rfl) rfl (fun _ => ⟨rfl, rfl⟩)
      have h3 := h2.1.cellset (d' := d.opd) (fl' := d.told) (lf' := wrap64 (d.after - 1)) h2.2 2 (.int .i64 (wrap64 (d.ops + 1))) (by rw [ho]; rfl) (by rw [d.opd_L]) (by rw [ho]; intro _; exact ⟨rfl, rfl⟩)
      rw [hT] at h1
      exact ⟨h1, ((Ext.below hb1).cellset hbF _ _).cellset hbF _ _, h3.1⟩
    clear h hd hmay eg hto ht hb hdo
    go_enter Tryz.func19, Tryz.ntmps19
    go_wp2_with (first
      | (go_at_call 40; (with_reducible refine HA.out.mono ?_); rintro e w1 ⟨rfl, hb⟩; obtain ⟨hdb, hx, hdk⟩ := HDN.out w1 hb; have HX := Lib.hid hx; have HK := Lib.hid hdk; obtain ⟨c0, c1, c2, c3, c4, c5⟩ := hdb.cells; have z2 := hdb.frozen 2; have z5 := hdb.frozen 5; clear hb hdb hx hdk)
      | (with_reducible refine (HDO.out _ HX.out HK.out).mono ?_; rintro e w2 ⟨rfl, hdn⟩; have HDD := Lib.hid (hdn.trans HX.out); clear hdn))
    go_ret
    exact ⟨rfl, HDD.out⟩
end Go.Proofs.YtnmplnemnfonfaaGreatDoor
namespace Go.Proofs.YtnmplnemnfonfaaGreatDoor
open Go.RowKit
abbrev eS : ByteArray := ⟨#[]⟩
def AD.tellR (d : AD) (y : Int) (g : AD → AD) : AD × Int := if d.down = true then (d, 9) else if y ≠ 0 then (d, y) else d.opR g
theorem Done.same {F : Nat → Bool} {w w' : World} {b bm : Nat} {l : List MF} {d : AD} (h : Dk w b bm l d) (hb : Below w.heap.size w w') : Done F w b bm l d w' := ⟨l, h.below hb, Ext.below hb, fun _ hk _ => hk⟩
theorem dk_tell_any (F : Nat → Bool) (w : World) (b bm : Nat) (l : List MF) (d : AD) (h : Dk w b bm l d) (hF : ∀ k, own b bm l k → F k = true) (fn : Nat) (eg : ∀ args w, (callFunc fn args).run Tryz.prog w = .ok (.enter fn args) w) (cs : Array Value) (y : Int)
    (hmay : Calls Tryz.prog fn cs w fun e w' => e = .returned (.int .i64 y) ∧ Below w.heap.size w w') (fn2 : Nat) (eg2 : ∀ args w, (callFunc fn2 args).run Tryz.prog w = .ok (.enter fn2 args) w) (cs2 : Array Value) (g : AD → AD)
    (hdo : y = 0 → ∀ w1, Ext F w w1 F → Dk w1 b bm l d.opd → Calls Tryz.prog fn2 cs2 w1 fun e w' => e = .returned (.tuple #[]) ∧ Done F w1 b bm l (g d.opd) w') :
    Calls Tryz.prog 19 #[ptr ⟨b, 0, none⟩, fnV fn cs, fnV fn2 cs2] w fun e w' => e = .returned (.int .i64 (d.tellR y g).2) ∧ Done F w b bm l (d.tellR y g).1 w' := by
  unfold AD.tellR
  cases hd : d.down with
  | true =>
    rw [if_pos rfl]
    exact (tell_down w b bm l d h hd _ _).mono (by rintro e w' ⟨rfl, rfl⟩; exact ⟨rfl, .same h (Below.refl _ _)⟩)
  | false =>
    rw [if_neg (by simp)]
    by_cases hy : y = 0
    · subst hy
      rw [if_neg (by simp)]
      by_cases hto : d.told = true ∧ d.after = 0
      · rw [d.opR_not g (by unfold AD.ope; rw [if_pos hto]; simp)]
        exact tell_dies F w b bm l d h hF hd hto fn eg cs hmay _
      · rw [d.opR_done g (by unfold AD.ope; rw [if_neg hto])]
        exact tell_does F w b bm l d _ h hF hd hto fn eg cs hmay fn2 eg2 cs2 (hdo rfl)
    · rw [if_pos hy]
      exact (tell_not w b bm l d h hd fn eg cs y hy hmay _).mono (by rintro e w' ⟨rfl, hb⟩; exact ⟨rfl, .same h hb⟩)
theorem eg43 : ∀ args w, (callFunc 20 args).run Tryz.prog w = .ok (.enter 20 args) w := fun _ _ => by kernel_rfl
theorem eg44 : ∀ args w, (callFunc 21 args).run Tryz.prog w = .ok (.enter 21 args) w := fun _ _ => by kernel_rfl
theorem eg45 : ∀ args w, (callFunc 48 args).run Tryz.prog w = .ok (.enter 48 args) w := fun _ _ => by kernel_rfl
theorem eg46 : ∀ args w, (callFunc 46 args).run Tryz.prog w = .ok (.enter 46 args) w := fun _ _ => by kernel_rfl
theorem eg53 : ∀ args w, (callFunc 47 args).run Tryz.prog w = .ok (.enter 47 args) w := fun _ _ => by kernel_rfl
theorem eg56 : ∀ args w, (callFunc 45 args).run Tryz.prog w = .ok (.enter 45 args) w := fun _ _ => by kernel_rfl
theorem mf_run (fn : Fn) (first cap : Array Value) (w : World) : (Instr.makeFunc fn first cap).run Tryz.prog w = .ok (.func fn first cap) w := rfl
theorem Done.dkp {F : Nat → Bool} {w w' : World} {b bm : Nat} {l : List MF} {d : AD} (hF : Foot F w.heap.size) (ho : ∀ k, own b bm l k → F k = true) (h : Done F w b bm l d w') : ∃ F', DKp w' ⟨b, 0, none⟩ F' d ∧ Ext F w w' F' := by
  obtain ⟨l', h1, h2, h3⟩ := h
  exact DKp.done hF h2 h1 fun k hk hl => ho k (h3 k hk hl)
theorem boxed {F : Nat → Bool} {w w0 : World} {b bm : Nat} {l : List MF} (hF : Foot F w.heap.size) (ho : ∀ k, own b bm l k → F k = true) (hb : Below w.heap.size w w0) (d : AD) : Hid (∀ w', Done F w0 b bm l d w' → ∃ F', DKp w' ⟨b, 0, none⟩ F' d ∧ Ext F w w' F') :=
  Lib.hid fun _ hx => (Done.trans (Ext.below hb) hx).dkp hF ho
set_option maxRecDepth 8000 in
theorem kmake_any (w : World) (p : Addr) (F : Nat → Bool) (d : AD) (s : ByteArray) (n : Int) (h : DKp w p F d) (hg : Good d) (hs : s.size ≤ 281474976710656) (hn : I63 n) :
    Calls Tryz.prog 8 #[ptr p, .string s, .int .i64 n] w fun e w' => ∃ F', e = .returned (.int .i64 (d.makeR s n).2) ∧ DKp w' p F' (d.makeR s n).1 ∧ Ext F w w' F' := by
  obtain ⟨hF, b, bm, l, rfl, hd, ho⟩ := h
  obtain ⟨y, hy⟩ : ∃ y : Int, (if rightB s = false then 10 else if d.has s then 8 else if n < 1 ∨ 64 < n then 4 else if d.cap < (usedN d.L : Int) + n ∨ 64 ≤ d.L.length then 6 else 0) = y := ⟨_, rfl⟩
  have hb0 := below_alloc w (.cells (jobC ⟨b, 0, none⟩ s eS 0 n zS) 63)
  have HK := Lib.hid (hd.below hb0)
  have hmk : d.makeR s n = d.tellR y fun x => x.withF (newF s n.toNat) := by
    unfold AD.makeR AD.tellR
    subst hy
    split
    · rfl
    split
    · rfl
    split
    · rfl
    split
    · rfl
    split <;> rfl
  rw [hmk]
  have HT := Lib.hid (dk_tell_any F _ b bm l d HK.out ho _ eg43 #[jobV ⟨b, 0, none⟩ s eS 0 n zS] y (mayMake_any _ b bm l d s eS 0 n none 0 0 HK.out hg hs hn y hy) _ eg44 #[jobV ⟨b, 0, none⟩ s eS 0 n zS] (fun x => x.withF (newF s n.toNat)) (fun hy0 w1 hx1 hk1 => by
    have hn2 : 1 ≤ n ∧ n ≤ 64 := by
      rw [hy0] at hy
      by_cases h1 : n < 1 ∨ 64 < n
      · exfalso; revert hy
        rw [if_pos h1]
        split
        · simp
        split <;> simp
      · omega
    have hl : l.length ≤ 64 := by have := hg.few; rwa [hd.files, List.length_map] at this
    have := pcreate_any F w1 b bm l d.opd s eS 0 n.toNat none 0 0 hk1 ho hs hl (by omega)
    rwa [show ((n.toNat : Nat) : Int) = n by omega] at this))
  have HD := boxed hF ho hb0 (d.tellR y fun x => x.withF (newF s n.toNat)).1
  obtain ⟨r, hr⟩ : ∃ r, (d.tellR y fun x => x.withF (newF s n.toNat)) = r := ⟨_, rfl⟩
  rw [hr] at HT HD ⊢
  clear hr
  clear hd hy hmk hb0 hg hs hn
  go_enter Tryz.func8, Tryz.ntmps8
  have hmf := mf_run
  go_wp2_with (first
    | (go_at_call 19; (with_reducible refine HT.out.mono ?_); rintro e w1 ⟨rfl, hdn⟩; obtain ⟨F', hk, hx⟩ := HD.out w1 hdn; have HK2 := Lib.hid hk; have HX2 := Lib.hid hx; clear hdn hk hx))
  go_ret
  exact ⟨F', rfl, HK2.out, HX2.out⟩
theorem opd_has (d : AD) (s : ByteArray) : d.opd.has s ↔ d.has s := by unfold AD.has; rw [AD.opd_L]
theorem opd_get (d : AD) (s : ByteArray) : d.opd.get s = d.get s := by unfold AD.get; rw [AD.opd_L]
set_option maxRecDepth 8000 in
theorem ksync_any (w : World) (p : Addr) (F : Nat → Bool) (d : AD) (s : ByteArray) (h : DKp w p F d) (hg : Good d) (hs : s.size ≤ 281474976710656) :
    Calls Tryz.prog 26 #[ptr p, .string s] w fun e w' => ∃ F', e = .returned (.int .i64 (d.syncR s).2) ∧ DKp w' p F' (d.syncR s).1 ∧ Ext F w w' F' := by
  obtain ⟨hF, b, bm, l, rfl, hd, ho⟩ := h
  have hb0 := below_alloc w (.cells (jobC ⟨b, 0, none⟩ s eS 0 0 zS) 63)
  have HK := Lib.hid (hd.below hb0)
  have hmk : d.syncR s = d.tellR (if d.has s then 0 else 7) fun x => x.withF (d.get s).synced := by
    unfold AD.syncR AD.tellR
    by_cases hh : d.has s
    · rw [if_neg (Decidable.not_not.2 hh), if_pos hh]; rfl
    · rw [if_pos hh, if_neg hh]; rfl
  rw [hmk]
  have HT := Lib.hid (dk_tell_any F _ b bm l d HK.out ho _ eg56 #[jobV ⟨b, 0, none⟩ s eS 0 0 zS] _ (mayFind_any _ b bm l d s eS 0 0 none 0 0 HK.out hg hs) _ eg46 #[jobV ⟨b, 0, none⟩ s eS 0 0 zS] (fun x => x.withF (d.get s).synced) (fun hy0 w1 hx1 hk1 => by
    have hh : d.has s := by
      by_cases hh : d.has s
      · exact hh
      · rw [if_neg hh] at hy0; simp at hy0
    have := psync_any F w1 b bm l d.opd s eS 0 0 none 0 0 hk1 hg.op ho hs ((opd_has d s).2 hh)
    rwa [opd_get] at this))
  have HD := boxed hF ho hb0 (d.tellR (if d.has s then 0 else 7) fun x => x.withF (d.get s).synced).1
  obtain ⟨r, hr⟩ : ∃ r, (d.tellR (if d.has s then 0 else 7) fun x => x.withF (d.get s).synced) = r := ⟨_, rfl⟩
  rw [hr] at HT HD ⊢
  clear hr
  clear hd hmk hb0 hg hs
  go_enter Tryz.func26, Tryz.ntmps26
  have hmf := mf_run
  go_wp2_with (first
    | (go_at_call 19; (with_reducible refine HT.out.mono ?_); rintro e w1 ⟨rfl, hdn⟩; obtain ⟨F', hk, hx⟩ := HD.out w1 hdn; have HK2 := Lib.hid hk; have HX2 := Lib.hid hx; clear hdn hk hx))
  go_ret
  exact ⟨F', rfl, HK2.out, HX2.out⟩
set_option maxRecDepth 8000 in
theorem kwrite_any (w : World) (p : Addr) (F : Nat → Bool) (d : AD) (s : ByteArray) (at_ : Int) (v : Value) (m : Nat) (fs : List Int) (h : DKp w p F d) (hg : Good d) (hs : s.size ≤ 281474976710656) (ha : I63 at_) (hfs : FS (mask F w) v m fs) (hm : m ≤ 1000000) :
    Calls Tryz.prog 27 #[ptr p, .string s, .int .i64 at_, v] w fun e w' => ∃ F', e = .returned (.int .i64 (d.writeR s at_ m fs).2) ∧ DKp w' p F' (d.writeR s at_ m fs).1 ∧ Ext F w w' F' := by
  obtain ⟨hF, b, bm, l, rfl, hd, ho⟩ := h
  obtain ⟨va, vc, rfl, _⟩ := id hfs
  have hb0 := below_alloc w (.cells (jobC ⟨b, 0, none⟩ s eS at_ (m : Int) (.slice va m vc)) 63)
  have HK := Lib.hid (hd.below hb0)
  obtain ⟨y, hy⟩ : ∃ y : Int, (if ¬ d.has s then 7 else if at_ < 0 ∨ (m : Int) < 0 ∨ ((d.get s).n : Int) - (m : Int) < at_ then 4 else 0) = y := ⟨_, rfl⟩
  have hmk : d.writeR s at_ m fs = d.tellR y fun x => x.withF ((d.get s).written at_.toNat m fs) := by
    unfold AD.writeR AD.tellR
    subst hy
    by_cases hh : d.has s
    · rw [if_neg (Decidable.not_not.2 hh), if_neg (Decidable.not_not.2 hh)]
      by_cases hc : at_ < 0 ∨ ((d.get s).n : Int) < at_ ∨ ((d.get s).n : Int) - at_ < m
      · rw [if_pos hc, if_pos (show at_ < 0 ∨ (m : Int) < 0 ∨ ((d.get s).n : Int) - (m : Int) < at_ by omega)]; rfl
      · rw [if_neg hc, if_neg (show ¬ (at_ < 0 ∨ (m : Int) < 0 ∨ ((d.get s).n : Int) - (m : Int) < at_) by omega)]; rfl
    · rw [if_pos hh, if_pos hh]; rfl
  rw [hmk]
  have HT := Lib.hid (dk_tell_any F _ b bm l d HK.out ho _ eg53 #[jobV ⟨b, 0, none⟩ s eS at_ (m : Int) (.slice va m vc)] y (mayReach_any _ b bm l d s eS at_ (m : Int) va m vc HK.out hg hs ha ⟨by omega, by omega⟩ y hy) _ eg45 #[jobV ⟨b, 0, none⟩ s eS at_ (m : Int) (.slice va m vc)] (fun x => x.withF ((d.get s).written at_.toNat m fs)) (fun hy0 w1 hx1 hk1 => by
    have hh : d.has s ∧ ¬ (at_ < 0 ∨ (m : Int) < 0 ∨ ((d.get s).n : Int) - (m : Int) < at_) := by
      rw [hy0] at hy
      by_cases hh : d.has s
      · rw [if_neg (Decidable.not_not.2 hh)] at hy
        refine ⟨hh, fun hc => ?_⟩
        rw [if_pos hc] at hy; simp at hy
      · rw [if_pos hh] at hy; simp at hy
    have hfs1 : FS (mask F w1) (.slice va m vc) m fs := (hfs.kin (kin_mask hb0)).kin hx1.kin
    have := pwrite_any F w1 b bm l d.opd s eS at_.toNat m (m : Int) va vc fs hk1 hg.op ho hs ((opd_has d s).2 hh.1) (by rw [opd_get]; omega) hfs1
    rwa [opd_get, show ((at_.toNat : Nat) : Int) = at_ by omega] at this))
  have HD := boxed hF ho hb0 (d.tellR y fun x => x.withF ((d.get s).written at_.toNat m fs)).1
  obtain ⟨r, hr⟩ : ∃ r, (d.tellR y fun x => x.withF ((d.get s).written at_.toNat m fs)) = r := ⟨_, rfl⟩
  rw [hr] at HT HD ⊢
  clear hr
  clear hd hmk hb0 hg hs hy hfs
  go_enter Tryz.func27, Tryz.ntmps27
  have hmf := mf_run
  go_wp2_with (first
    | (go_at_call 19; (with_reducible refine HT.out.mono ?_); rintro e w1 ⟨rfl, hdn⟩; obtain ⟨F', hk, hx⟩ := HD.out w1 hdn; have HK2 := Lib.hid hk; have HX2 := Lib.hid hx; clear hdn hk hx))
  go_ret
  exact ⟨F', rfl, HK2.out, HX2.out⟩
end Go.Proofs.YtnmplnemnfonfaaGreatDoor
