/-
  TEXTS JOINED: WrRow, Same. Each one's own words stand at its head.
-/
import Derived.Test.YtgegbpnmfpjdmaaGreatDoorJ5
import Derived.Test.YtgegbpnmfpjdmaaGreatDoorJ3
import Derived.Test.YtgegbpnmfpjdmaaGreatDoorJ22
import Derived.Test.YtgegbpnmfpjdmaaGreatDoorJ1
import Derived.Test.YtgegbpnmfpjdmaaGreatDoorJ0
namespace Go.Proofs.YtgegbpnmfpjdmaaGreatDoor
open Go.RowKit
def RQ (w : World) (g : Nat) (fs : List Int) : Prop := ∃ cur : Array Value, w.heap[g]? = some (.cells cur 60 (0, 0)) ∧ fs.length ≤ cur.size ∧ cur.toList.take fs.length = il .u8 fs
theorem RQ.own {w : World} {base n : Nat} {v : Value} {fs : List Int} (h : w.ownsRow base 60 64 v n (il .u8 fs)) (hl : fs.length = n * 64) (hn : 0 < n) : ∃ g cap, v = .slice (some ⟨g, 0, none⟩) n cap ∧ RQ w g fs ∧ base ≤ g ∧ n ≤ cap ∧ cap ≤ 9223372036854775807 := by
  rcases h.2 with ⟨rfl, h0⟩ | ⟨g, cap, cur, rfl, hb, hcur, h1, h2, hcs, htake⟩
  · omega
  · refine ⟨g, cap, rfl, ⟨cur, hcur, by rw [hcs, hl]; exact Nat.mul_le_mul_right _ (by omega), by rw [hl]; exact htake⟩, hb, h1, by unfold maxLen at h2; omega⟩
theorem RQ.keep {w w' : World} {g : Nat} {fs : List Int} (h : RQ w g fs) (hb : Below w.heap.size w w') : RQ w' g fs := by
  obtain ⟨cur, h1, h2⟩ := h
  exact ⟨cur, by rw [hb.block g (Array.getElem?_eq_some_iff.1 h1).1]; exact h1, h2⟩
theorem RQ.lt {w : World} {g : Nat} {fs : List Int} (h : RQ w g fs) : g < w.heap.size := (Array.getElem?_eq_some_iff.1 h.choose_spec.1).1
theorem RQ.cell {w : World} {g : Nat} {fs : List Int} (h : RQ w g fs) (j : Nat) (hj : j < fs.length) : w.cell? ⟨g, j, none⟩ = some (.int .u8 (fs.getD j 0)) := by
  obtain ⟨cur, h1, h2, h3⟩ := h
  rw [cell_of_row w g j _ _ _ h1]
  have e : cur.toList[j]? = (il .u8 fs)[j]? := by rw [← h3, List.getElem?_take, if_pos hj]
  rw [il_get .u8 fs j hj] at e
  simpa using e
theorem RQ.fs {w : World} {g n cap : Nat} {fs : List Int} (h : RQ w g fs) (hl : fs.length = n * 64) (hc : n ≤ cap) (hcm : cap ≤ 9223372036854775807) : FS w (.slice (some ⟨g, 0, none⟩) n cap) n fs :=
  ⟨_, cap, rfl, hl, hc, hcm, fun h => by simp at h, fun _ => ⟨g, 0, rfl, fun j hj => by rw [Nat.zero_add]; exact h.cell j (by omega)⟩⟩
theorem spl_upto {α : Type} (c : List α) (q n : Nat) (x : List α) (h : q + x.length ≤ n) (hn : n ≤ c.length) : (splice c q x).take n = splice (c.take n) q x := by
  have k2 : (c.take q).length = q := by rw [List.length_take]; omega
  unfold splice
  rw [List.take_append, k2, List.take_append, List.take_of_length_le (show (c.take q).length ≤ n by omega), List.take_of_length_le (show x.length ≤ n - q by omega), List.take_take, Nat.min_eq_left (by omega), List.drop_take, Nat.sub_sub]
theorem wpl_put_rq {w : World} {ops : Array Oper} {rest : List Oper} {o : Oper} {a : Act} {Q : Exit → Act → World → Prop} (hgd : o.guard = none) (x y : Operand) (ho : o.op = .store 60 x y)
    (g n i : Nat) (zs ss : List Int) (h : RQ w g zs) (hz : zs.length = n * 64) (hi : i < n) (hs : ss.length = 64) (off : Nat) (hoff : i * 64 = off) (hx : a.eval x = .pointer (some ⟨g, off, none⟩)) (hy : a.eval y = .agg (sv ss))
    (hK : ∀ w', Hid (RQ w' g (splice zs off ss)) → Hid (w.grownBy w' (some g)) → wpList Tryz.prog ops Q rest (a.put o.dst undef) w') : wpList Tryz.prog ops Q (o :: rest) a w := by
  subst hoff
  have hle : (i + 1) * 64 ≤ n * 64 := Nat.mul_le_mul_right _ hi
  obtain ⟨cur, h1, h2, h3⟩ := id h
  refine wpList_store_mid hgd 60 x y ho g (i * 64) (sv ss) hx hy ?_ (sv_info _ hs) (sv_one _) ?_
  · intro j hj
    rw [sv_size, hs] at hj
    refine ⟨?_, Joins.unfrozen_of_block h1 _⟩
    rw [h.cell _ (by omega)]
    rfl
  · have e : (sv ss).toList = il .u8 ss := by simp [sv]
    rw [e]
    refine hK _ ?_ (grown_setCells _ _ _ _)
    have hcl : i * 64 + (il .u8 ss).length ≤ cur.toList.length := by rw [il_length, hs]; simp; omega
    refine ⟨(splice cur.toList (i * 64) (il .u8 ss)).toArray, heap_setCells g _ _ _ _ _ cur.toList hcl (by simpa using h1), ?_, ?_⟩
    · have l1 : (splice zs (i * 64) ss).length = zs.length := by unfold splice; simp; omega
      have l2 : (splice cur.toList (i * 64) (il .u8 ss)).length = cur.toList.length := by unfold splice; simp [il_length]; simp [il_length] at hcl; omega
      rw [l1]
      simp only [List.size_toArray, l2, Array.length_toList]
      exact h2
    · have l1 : (splice zs (i * 64) ss).length = zs.length := by unfold splice; simp; omega
      have k1 : (il .u8 ss).length = 64 := by rw [il_length, hs]
      rw [l1, ← il_splice, ← h3]
      exact spl_upto cur.toList (i * 64) zs.length (il .u8 ss) (by omega) (by simpa using h2)
theorem wpl_app_secs {w : World} {ops : Array Oper} {rest : List Oper} {o : Oper} {a : Act} {Q : Exit → Act → World → Prop} (hgd : o.guard = none) (s x : Operand)
    (ho : o.op = .call { callee := .builtin .append, args := #[s, x], argTypes := #[48, 48] })
    (base : Nat) (v : Value) (n : Nat) (fs : List Int) (hs : a.eval s = v) (hown : w.ownsRow base 60 64 v n (il .u8 fs))
    (v2 : Value) (m : Nat) (gs : List Int) (hx : a.eval x = v2) (hfs : FS w v2 m gs) (hm : 0 < m) (hn : n + m ≤ 1000000) (hbase : base ≤ w.heap.size)
    (h : ∀ v' w', Hid (w'.ownsRow base 60 64 v' (n + m) (il .u8 (fs ++ gs))) → Hid (w.grownBy w' v.ownBlock) → wpList Tryz.prog ops Q rest (a.put o.dst v') w') : wpList Tryz.prog ops Q (o :: rest) a w := by
  obtain ⟨ad, cap, rfl, hl, hlc, _, hnil, hc⟩ := hfs
  obtain ⟨b, off, rfl, hcell⟩ := hc hm
  obtain ⟨i, hi, hz0, hz1, hz2⟩ := info_parts sec_parts
  refine wpList_append_own_wide w hgd s x 48 ho base 60 i (.agg (sv z64)) 64 64 Tryz.underlying48 hi hz0 hz1 hz2 rfl (by omega) v n (il .u8 fs) hs hown ⟨b, off, none⟩ m cap (il .u8 gs) hx (by rw [il_length, hl]) ?_ (il_one _ _) (by unfold maxLen; omega) (by omega) hbase ?_
  · intro j u hj
    have hjl : j < gs.length := by have := (List.getElem?_eq_some_iff.1 hj).1; rwa [il_length] at this
    rw [il_get _ _ _ hjl] at hj
    obtain rfl := Option.some.inj hj
    have := hcell j (by omega)
    have e2 : (⟨b, off, none⟩ : Addr).add j = ⟨b, off + j, none⟩ := by unfold Addr.add; split <;> simp_all
    rw [e2]; exact this
  · intro v' w' h1 h2 _
    exact h v' w' (Lib.hid (by rw [il_append]; exact h1)) (Lib.hid h2)
theorem wp_lit_none {w : World} {o : Oper} {a : Act} {K : Act → World → Prop} {Q : Exit → Act → World → Prop} (ho : o.op = .buildSlice 23 0 #[])
    (h : ∀ w', Hid (w'.ownsRow w.heap.size 43 1 (.slice (some ⟨w.heap.size, 0, none⟩) 0 0) 0 []) → Hid (Below w.heap.size w w') → K (a.put o.dst (.slice (some ⟨w.heap.size, 0, none⟩) 0 0)) w') : o.wp Tryz.prog a w K Q := by
  obtain ⟨i, hi, hz0, hz1, hz2⟩ := info_parts Tryz.info_sl
  have hr : (Instr.buildSlice 23 0 #[]).run Tryz.prog w = .ok (.slice (some ⟨w.heap.size, 0, none⟩) 0 0) (w.alloc (.cells #[] 43)) := by
    simp [Instr.buildSlice, run_underlying (P := Tryz.prog) Tryz.underlying23, sizeOf, typeInfo, hi, Instr.fill, newRow]
    rw [show Array.range 0 = #[] from by decide, Array.map_empty]
  unfold Oper.wp execOp
  simp only [ho, Sem.run_bind, List.map_toArray, List.map_nil, hr, Result.andThen_ok]
  exact h _ (own_none rfl (Nat.le_refl _)) (balloc w _)
end Go.Proofs.YtgegbpnmfpjdmaaGreatDoor
namespace Go.Proofs.YtgegbpnmfpjdmaaGreatDoor
open Go.RowKit
def RS (w : World) (v : Value) (n : Nat) (ss : List (List Int)) : Prop :=
  ∃ a cap, v = .slice a n cap ∧ ss.length = n ∧ n ≤ cap ∧ cap ≤ 9223372036854775807 ∧ (∀ s ∈ ss, s.length = 64) ∧
    (0 < n → ∃ b off, a = some ⟨b, off, none⟩ ∧ ∀ j, j < n → ∀ k, k < 64 → w.cell? ⟨b, off + j * 64 + k, none⟩ = some (.int .u8 ((ss.getD j []).getD k 0)))
theorem RS.keep {w w' : World} (hb : Below w.heap.size w w') {v : Value} {n : Nat} {ss : List (List Int)} (h : RS w v n ss) : RS w' v n ss := by
  obtain ⟨a, cap, rfl, h1, h2, h3, h4, hc⟩ := h
  refine ⟨a, cap, rfl, h1, h2, h3, h4, fun h0 => ?_⟩
  obtain ⟨b, off, rfl, hcell⟩ := hc h0
  exact ⟨b, off, rfl, fun j hj k hk => cell_keep hb (hcell j hj k hk)⟩
theorem getD_memL {α : Type} {l : List α} {k : Nat} {d : α} (h : k < l.length) : l.getD k d ∈ l := by
  simp [List.getD, h]
set_option maxRecDepth 8000 in
set_option maxHeartbeats 1000000 in
theorem same_any (v1 v2 : Value) (n m : Nat) (ss ts : List (List Int)) (w : World) (h1 : RS w v1 n ss) (h2 : RS w v2 m ts) :
    Calls Tryz.prog 21 #[v1, v2] w fun e w' => e = .returned (.bool (decide (ss = ts))) ∧ Below w.heap.size w w' := by
  obtain ⟨a1, c1, rfl, hl1, hc1, hm1, hs1, hx1⟩ := h1
  obtain ⟨a2, c2, rfl, hl2, hc2, hm2, hs2, hx2⟩ := h2
  by_cases hnm : n = m
  · subst hnm
    have HX1 : Hid (∀ j, j < n → ∃ b off, a1 = some ⟨b, off, none⟩ ∧ At w b (off + j * 64) (ss.getD j [])) := fun j hj => by
      obtain ⟨b, off, e, h⟩ := hx1 (by omega)
      exact ⟨b, off, e, hs1 _ (getD_memL (by omega)), h j hj⟩
    have HX2 : Hid (∀ j, j < n → ∃ b off, a2 = some ⟨b, off, none⟩ ∧ At w b (off + j * 64) (ts.getD j [])) := fun j hj => by
      obtain ⟨b, off, e, h⟩ := hx2 (by omega)
      exact ⟨b, off, e, hs2 _ (getD_memL (by omega)), h j hj⟩
    have HL1 := Lib.hid hl1
    have HL2 := Lib.hid hl2
    have hn63 : (n : Int) ≤ 9223372036854775807 := by omega
    clear hx1 hx2 hs1 hs2 hl1 hl2
    go_enter Tryz.func21, Tryz.ntmps21
    go_wp2
    go_loopw [5] (fun iv wr => ∃ i : Nat, iv = .int .i64 i ∧ i ≤ n ∧ Hid (∀ j, j < i → ss.getD j [] = ts.getD j []) ∧ Hid (Below w.heap.size w wr)) (fun iv _ => n - (intOf iv).toNat)
    case atStart => exact ⟨0, rfl, by omega, fun j hj => absurd hj (by omega), Below.refl _ _⟩
    case round =>
      obtain ⟨i, rfl, hi, HE, HB⟩ := hrel
      by_cases hlt : (i : Int) < (n : Int)
      · obtain ⟨b1, off1, rfl, hat1⟩ := HX1.out i (by omega)
        obtain ⟨b2, off2, rfl, hat2⟩ := HX2.out i (by omega)
        obtain ⟨s, hs⟩ : ∃ s, ss.getD i [] = s := ⟨_, rfl⟩
        obtain ⟨t, ht⟩ : ∃ t, ts.getD i [] = t := ⟨_, rfl⟩
        rw [hs] at hat1
        rw [ht] at hat2
        have HA1 := Lib.hid hat1
        have HA2 := Lib.hid hat2
        have HQ := Lib.hid (run_eq_sec s t hat1.1 hat2.1)
        have HS := Lib.hid hs
        have HT := Lib.hid ht
        obtain ⟨y, hy⟩ : ∃ y, decide (s = t) = y := ⟨_, rfl⟩
        rw [hy] at HQ
        have HY := Lib.hid hy
        clear hat1 hat2 hs ht hy
        go_wp2_with fail
        refine wp_region_held_drew (S := (fun w' => Below w.heap.size w w')) (by kernel_rfl) HB.out.drew (fun hS => ?_)
        refine rgw 0 ⟨some 17, .move (.tmp 0), 48, _, _, none⟩ hS ?_
        refine rgw 1 ⟨some 18, .move (.tmp 5), 3, _, _, none⟩ hS ?_
        refine rgw 2 ⟨some 19, .indexAddr 48 (.tmp 17) (.tmp 18), 0, _, _, none⟩ hS ?_
        refine rgw 3 ⟨some 20, .load 60 (.tmp 19), 60, _, _, none⟩ hS ?_ (hy := by intro w hSw; (try dsimp only at hSw); refine exec_load_at (.tmp 19) ?_ ?_ (HA1.out.keep hSw) <;> rfl)
        refine rgw 4 ⟨some 21, .move (.tmp 1), 48, _, _, none⟩ hS ?_
        refine rgw 5 ⟨some 22, .move (.tmp 5), 3, _, _, none⟩ hS ?_
        refine rgw 6 ⟨some 23, .indexAddr 48 (.tmp 21) (.tmp 22), 0, _, _, none⟩ hS ?_
        refine rgw 7 ⟨some 24, .load 60 (.tmp 23), 60, _, _, none⟩ hS ?_ (hy := by intro w hSw; (try dsimp only at hSw); refine exec_load_at (.tmp 23) ?_ ?_ (HA2.out.keep hSw) <;> rfl)
        refine rgw 8 ⟨some 25, .binOp .neq 60 (.tmp 20) (.tmp 24) 60, 4, _, _, none⟩ hS ?_ (hy := by intro w hSw; (try dsimp only at hSw); have hq := HQ.out w; go_simp; try with_reducible rfl)
        refine wpAnyH_done (by kernel_rfl) ?_ _
        have HB2 := Lib.hid hS
        clear hS
        cases y with
        | false =>
          go_wp2
          go_ret
          refine ⟨ret_bool ?_, HB2.out⟩
          rw [decide_eq_false]
          intro e
          have h1 := of_decide_eq_false HY.out
          exact h1 (by rw [← HS.out, ← HT.out, e])
        | true =>
          go_wp2
          go_roundw
          case rel =>
            refine ⟨i + 1, by go_num, by omega, Lib.hid (fun j hj => ?_), HB2⟩
            by_cases hji : j = i
            · subst hji; rw [HS.out, HT.out]; exact of_decide_eq_true HY.out
            · exact HE.out j (by omega)
          case measure => simp [intOf]; omega
      · have hq : i = n := by omega
        subst hq
        have HD := Lib.hid (show decide (ss = ts) = true from decide_eq_true (by
          have h1 := HL1.out
          have h2 := HL2.out
          refine List.ext_getElem (by omega) fun j h3 h4 => ?_
          have := HE.out j (by omega)
          simpa [List.getD, h3, h4] using this))
        go_wp2
        go_ret
        exact ⟨ret_bool (by rw [HD.out]), HB.out⟩
  · have hne : ¬ (n : Int) = (m : Int) := by omega
    have HN := Lib.hid (show decide (ss = ts) = false from decide_eq_false (fun h => hnm (by rw [← hl1, ← hl2, h])))
    clear hx1 hx2 hs1 hs2
    go_enter Tryz.func21, Tryz.ntmps21
    go_wp2
    go_ret
    exact ⟨ret_bool (by rw [HN.out]), Below.refl _ _⟩
theorem FS.rs {w : World} {v : Value} {n : Nat} {fs : List Int} (h : FS w v n fs) : RS w v n (chunks n fs) := by
  obtain ⟨a, cap, rfl, hl, h2, h3, _, hc⟩ := h
  refine ⟨a, cap, rfl, by simp [chunks], h2, h3, ?_, fun h0 => ?_⟩
  · intro s hs
    simp only [chunks, List.mem_map, List.mem_range] at hs
    obtain ⟨j, hj, rfl⟩ := hs
    simp; omega
  · obtain ⟨b, off, rfl, hcell⟩ := hc h0
    refine ⟨b, off, rfl, fun j hj k hk => ?_⟩
    rw [Nat.add_assoc, hcell (j * 64 + k) (by omega), chunks_get n fs j hj]
    simp only [List.getD, List.getElem?_take, hk, if_true, List.getElem?_drop]
theorem same_true (v1 v2 : Value) (n : Nat) (fs : List Int) (w : World) (h1 : FS w v1 n fs) (h2 : FS w v2 n fs) :
    Calls Tryz.prog 21 #[v1, v2] w fun e w' => e = .returned (.bool true) ∧ Below w.heap.size w w' := by
  have := same_any v1 v2 n n _ _ w h1.rs h2.rs
  rwa [decide_eq_true rfl] at this
end Go.Proofs.YtgegbpnmfpjdmaaGreatDoor
