/-
  WHAT THE PROGRAM'S OWN FUNCTIONS OF LAYER 9 (crash) ANSWER: nearer, Mix, left, Apply, Kept, Torn. No condition of ours but bounds on lengths.
-/
import Derived.Test.YtdadeloojblekaaCrashSays
import Derived.Test.YtdadeloojblekaaCrRow
import Derived.Lib.MinMax
namespace Go.Proofs.Ytdadeloojblekaa
open Go.RowKit
theorem nearer_any (n m : Int) (h : I63 n) (h2 : 0 ≤ m ∧ m ≤ 1000000) (w : World) : Calls Try.prog 22 #[.int .i64 n, .int .i64 m] w fun e w' => e = .returned (.int .i64 (lim n m : Int)) ∧ w = w' := by
  unfold I63 at h
  go_enter Try.func22, Try.ntmps22
  go_wp2
  all_goals (go_ret; refine ⟨ret_int ?_, rfl⟩; unfold lim; omega)
theorem lim_le (n m : Int) (h : 0 ≤ m) : (lim n m : Int) ≤ m := by unfold lim; omega
theorem cutN_lim (cut : Int) : cutN cut = lim cut 64 := rfl
theorem mixN_splice (a b : List Int) (k : Nat) (hb : k ≤ b.length) : splice a 0 (b.take k) = mixN a b k := by
  simp [splice, mixN, Nat.min_eq_left hb]
theorem grown_setRow (w : World) (g : Nat) (cs : Array Value) : w.grownBy (w.setRow g cs) (some g) :=
  ⟨rfl, rfl, rfl, by simp, fun i _ hne => setRow_other w g i cs (fun e => hne (by rw [e]))⟩
/-- copy into a sector that the call holds: every other block stays -/
theorem step_copy_secG {ops : Array Oper} {o : Oper} {a : Act} {w : World} {K : Act → World → Prop} {Q : Exit → Act → World → Prop} {E : Prop} (hgd : o.guard = none) (d s : Operand)
    (ho : o.op = .call { callee := .builtin .copy, args := #[d, s], argTypes := #[23, 23] }) (g g2 k : Nat) (l zs : List Int) (hblk : Blk w g l) (hblk2 : Blk w g2 zs) (hk : k ≤ 64)
    (hd : a.eval d = .slice (some ⟨g, 0, none⟩) k 64) (hs : a.eval s = .slice (some ⟨g2, 0, none⟩) 64 64)
    (h : ∀ w', Hid (Blk w' g (mixN l zs k)) → Hid (w.grownBy w' (some g)) → K (a.put o.dst (goInt (k : Int))) w') :
    if Region.wanted o (yielded ops a.tmps) = true then Oper.wp Try.prog o a w K Q else E := by
  have hw : Region.wanted o (yielded ops a.tmps) = true := by simp [Region.wanted, hgd]
  rw [if_pos hw]
  have hlen : (zs.take k).length = k := by simp [hblk2.2]; omega
  have hcl : (il .u8 (zs.take k)).length = k := by rw [il_length, hlen]
  have hll := mixN_length l zs k hblk.2 hblk2.2 hk
  have hcells : ∀ j v, (il .u8 (zs.take k))[j]? = some v → w.cell? ((⟨g2, 0, none⟩ : Addr).add j) = some v := fun j v hv => by
    have hj : j < k := by have := (List.getElem?_eq_some_iff.1 hv).1; rwa [hcl] at this
    rw [il_get _ _ _ (by rw [hlen]; exact hj)] at hv
    rw [Addr.add_mid, Nat.zero_add, hblk2.cell j (by omega), ← hv]
    congr 2
    simp [List.getD, hj]
  by_cases h0 : k = 0
  · subst h0
    have hrun := run_copy_none (P := Try.prog) w 23 23 o.type 5 (some ⟨g, 0, none⟩) (some ⟨g2, 0, none⟩) 0 64 64 64 Try.underlying23 u8_size1 rfl
    unfold Oper.wp
    simp [execOp, ho, resolve, invoke, builtin, hd, hs, hrun, Result.andThen]
    exact h w (by rw [mixN_zero]; exact hblk) (grown_refl _ _)
  · have hrun := run_copy_row (P := Try.prog) w 23 23 o.type 5 g 0 k 64 ⟨g2, 0, none⟩ 64 64 (il .u8 l).toArray 31 (il .u8 (zs.take k)) Try.underlying23 u8_size1 hblk.1 (by rw [hcl]; exact (Nat.min_eq_right hk).symm) hcells (by rw [hcl]; simp [il_length, hblk.2]; omega) (il_one _ _)
    unfold Oper.wp
    simp [execOp, ho, resolve, invoke, builtin, hd, hs, hrun, Result.andThen, hcl]
    refine h _ ⟨?_, hll⟩ (grown_setRow _ _ _)
    rw [setRow_heap w g _ _ _ _ hblk.1]
    have := il_splice .u8 l (zs.take k) 0
    rw [mixN_splice _ _ _ (by rw [hblk2.2]; exact hk)] at this
    simp only [splice, hcl] at this
    simp [sv, ← this]
/-- where Mix stands -/
structure MT (W : World) (o n : List Int) (w : World) : Prop where
  below : Below W.heap.size W w
  old : Blk w W.heap.size o
  nxt : Blk w (W.heap.size + 1) n
  res : Blk w (W.heap.size + 2) z64
theorem MT.start (W : World) (l nx : List Int) (hl : l.length = 64) (hn : nx.length = 64) : MT W l nx (((W.alloc (.cells (sv l) 31)).alloc (.cells (sv nx) 31)).alloc (.cells (sv z64) 31)) := by
  have s0 := alloc_size W (.cells (sv l) 31)
  have b0 := below_alloc W (.cells (sv l) 31)
  have k0 := Blk.new W l hl
  generalize W.alloc (.cells (sv l) 31) = w0 at *
  have s1 := alloc_size w0 (.cells (sv nx) 31)
  have b1 := below_alloc w0 (.cells (sv nx) 31)
  have k1 := Blk.new w0 nx hn
  generalize w0.alloc (.cells (sv nx) 31) = w1 at *
  have b2 := below_alloc w1 (.cells (sv z64) 31)
  have k2 := Blk.new w1 z64 z64_length
  generalize w1.alloc (.cells (sv z64) 31) = w2 at *
  rw [s0] at k1
  rw [s1, s0] at k2
  exact ⟨chain (chain b0 b1) b2, (k0.keep b1).keep b2, k1.keep b2, k2⟩
theorem MT.next {W w w' : World} {o n : List Int} (h : MT W o n w) (hb : Below w.heap.size w w') : MT W o n w' := ⟨chain h.below hb, h.old.keep hb, h.nxt.keep hb, h.res.keep hb⟩
theorem MT.turned {W w w' : World} {o o' n : List Int} (h : MT W o n w) (ho : Blk w' W.heap.size o') (hg : w.grownBy w' (some W.heap.size)) : MT W o' n w' :=
  ⟨h.below.grown hg h.below.size (fun k e => by cases e; exact Nat.le_refl _), ho, ⟨by rw [hg.block _ (Array.getElem?_eq_some_iff.1 h.nxt.1).1 (by simp)]; exact h.nxt.1, h.nxt.2⟩, ⟨by rw [hg.block _ (Array.getElem?_eq_some_iff.1 h.res.1).1 (by simp)]; exact h.res.1, h.res.2⟩⟩
set_option maxRecDepth 8000 in
set_option maxHeartbeats 1000000 in
theorem mix_any (old nx : List Int) (cut : Int) (w : World) (ho : old.length = 64) (hn : nx.length = 64) (hc : I63 cut) :
    Calls Try.prog 13 #[.agg (sv old), .agg (sv nx), .int .i64 cut] w fun e w' => e = .returned (.agg (sv (mixN old nx (cutN cut)))) ∧ Below w.heap.size w w' := by
  have HT0 := Lib.hid (MT.start w old nx ho hn)
  have HN := Lib.hid fun w => nearer_any cut 64 hc (by omega) w
  rw [cutN_lim]
  have hk := lim_le cut 64 (by omega)
  generalize lim cut 64 = k at *
  have HML : Hid ((mixN old nx k).length = 64) := Lib.hid (mixN_length _ _ _ ho hn (by omega))
  have HNX := Lib.hid hn
  have HZ := Lib.hid z64_cells
  obtain ⟨m, hm⟩ : ∃ m, mixN old nx k = m := ⟨_, rfl⟩
  have HM := Lib.hid hm
  rw [hm] at HML ⊢
  clear hm
  clear ho hn
  have hk0 : (0 : Int) ≤ (k : Int) := by omega
  go_enter Try.func13, Try.ntmps13
  go_wp2
  rw [← HZ.out]
  refine wp_region_held_drew (S := (fun w' => Below w.heap.size w w')) (by kernel_rfl) (HT0.out.below.drew) (fun hS => ?_)
  refine wpAnyH_take (i := 0) (oi := ({ dst := some 7, op := Op.move (Operand.tmp 2), type := 3, pos := "crash.go:21", after := #[], guard := none } : Oper)) (v := ?_) rfl (by kernel_rfl) (by kernel_rfl) (by kernel_rfl) (fun _ _ _ h => h) (Or.inl ⟨by rfl, ?_⟩) hS ?_
  rotate_left
  · (intro w hSw; (try dsimp only at hSw); go_simp; try with_reducible rfl)
  (try simp only [Act.put, List.setIfInBounds_toArray, List.set_cons_zero, List.set_cons_succ])
  refine wpAnyH_take (i := 3) (oi := ({ dst := some 10, op := Op.slice 31 (Operand.tmp 4) none none none, type := 23, pos := "crash.go:21", after := #[], guard := none } : Oper)) (v := ?_) rfl (by kernel_rfl) (by kernel_rfl) (by kernel_rfl) (fun _ _ _ h => h) (Or.inl ⟨by rfl, ?_⟩) hS ?_
  rotate_left
  · (intro w hSw; (try dsimp only at hSw); go_simp; try with_reducible rfl)
  (try simp only [Act.put, List.setIfInBounds_toArray, List.set_cons_zero, List.set_cons_succ])
  refine rg_one 1 ({ dst := some 8, op := Op.call { callee := Callee.value (Operand.func 22), args := #[Operand.tmp 7, Operand.const (Value.int IntKind.i64 64)], argTypes := #[3, 3] }, type := 3, pos := "crash.go:21", after := #[{ on := 0, ground := Ground.data }], guard := none } : Oper) (by kernel_rfl) rfl (fun K hK => ?_)
  go_simp
  (go_at_call 22; (with_reducible refine (HN.out _).mono ?_); rintro e w2 ⟨rfl, rfl⟩)
  refine hK.out _ _ ?_ (fun hS1 => ?_)
  · (first | exact hN | exact hS)
  clear hK K hS; have hS := hS1; clear hS1
  (try simp only [Act.put, List.setIfInBounds_toArray, List.set_cons_zero, List.set_cons_succ])
  refine wpAnyH_take (i := 2) (oi := ({ dst := some 9, op := Op.slice 31 (Operand.tmp 3) none (some (Operand.tmp 8)) none, type := 23, pos := "crash.go:21", after := #[{ on := 1, ground := Ground.data }], guard := none } : Oper)) (v := ?_) rfl (by kernel_rfl) (by kernel_rfl) (by kernel_rfl) (fun _ _ _ h => h) (Or.inl ⟨by rfl, ?_⟩) hS ?_
  rotate_left
  · (intro w hSw; (try dsimp only at hSw); go_simp; try with_reducible rfl)
  (try simp only [Act.put, List.setIfInBounds_toArray, List.set_cons_zero, List.set_cons_succ])
  refine rg_one 4 ({ dst := some 11, op := Op.call { callee := Callee.builtin Builtin.copy, args := #[Operand.tmp 9, Operand.tmp 10], argTypes := #[23, 23] }, type := 3, pos := "crash.go:21", after := #[{ on := 2, ground := Ground.data }, { on := 3, ground := Ground.data }, { on := 1, ground := Ground.chain }], guard := none } : Oper) (by kernel_rfl) rfl (fun K hK => ?_)
  refine step_copy_secG rfl (.tmp 9) (.tmp 10) rfl w.heap.size (w.heap.size + 1) k old nx (HT0.out.next ((Below.refl _ _).drew)).old (HT0.out.next ((Below.refl _ _).drew)).nxt (by omega) rfl rfl ?_; intro w5 HK5 hg5; rw [HM.out] at HK5; have HT5 := Lib.hid ((HT0.out.next ((Below.refl _ _).drew)).turned HK5.out hg5.out); have hN := HT5.out.below
  refine hK.out _ _ ?_ (fun hS1 => ?_)
  · (first | exact hN | exact hS)
  clear hK K hS; have hS := hS1; clear hS1
  (try simp only [Act.put, List.setIfInBounds_toArray, List.set_cons_zero, List.set_cons_succ])
  refine wpAnyH_done (by kernel_rfl) ?_ _
  clear hS hN hg5
  go_wp2_with (first
    | (refine wpl_load_sec rfl _ rfl w.heap.size rfl m HT5.out.old ?_)
    | (refine wpList_store_row rfl 31 _ _ rfl (w.heap.size + 2) (sv m) rfl rfl _ (sv z64) HT5.out.res.1 (sv_info _ HML.out) (by rw [sv_size, sv_size, HML.out, z64_length]) (sv_one _) ?_))
  refine bodyPost_ret_by (v := .agg (sv m)) (results_cell_row rfl _ _ (w.heap.size + 2) _ (sv m) (0, 0) _ rfl (HT5.out.res.row HML.out).1 Try.underlying31 rfl (sv_info _ HML.out)) rfl ⟨rfl, below_row HT5.out.below (by omega) _⟩
theorem bit_ri (v : Value) (len : Nat) (zs : List Int) (i : Int) (w : World) (h : RI .u8 w v len zs) (hz : Bytes zs) (hi : I63 i) :
    Calls Try.prog 23 #[v, .int .i64 i] w fun e w' => e = .returned (.bool (bitI zs i)) ∧ w = w' := by
  have hl := h.length
  have hle := h.le
  unfold I63 at hi
  by_cases h1 : 0 ≤ i ∧ i / 8 < (len : Int)
  · obtain ⟨k, rfl⟩ : ∃ k : Nat, i = (k : Int) := ⟨i.toNat, by omega⟩
    obtain ⟨b, off, cap, rfl, _, _, hc⟩ := h.open_ (by omega)
    refine (bit_some b off len cap zs k w hz (by omega) hle (by omega) hc).mono ?_
    rintro e w' ⟨rfl, rfl⟩
    refine ⟨?_, rfl⟩
    unfold bitI; rw [hl, decide_eq_true h1.1, decide_eq_true h1.2]; rfl
  · obtain ⟨a, cap, rfl, _⟩ := h
    refine (bit_no a len cap i w (by unfold I63; omega) (by omega)).mono ?_
    rintro e w' ⟨rfl, rfl⟩
    refine ⟨?_, rfl⟩
    unfold bitI
    rw [hl]
    by_cases h2 : 0 ≤ i
    · rw [decide_eq_false (p := i / 8 < (len : Int)) (by omega)]; simp
    · rw [decide_eq_false h2]; simp
/-- where left stands -/
structure LT (W : World) (o n : List Int) (vk : Value) (torn cut : Int) (w : World) : Prop where
  below : Below W.heap.size W w
  old : Blk w W.heap.size o
  nxt : Blk w (W.heap.size + 1) n
  cr : w.cell? ⟨W.heap.size + 2, 0, none⟩ = some vk ∧ w.cell? ⟨W.heap.size + 2, 1, none⟩ = some (.int .i64 torn) ∧ w.cell? ⟨W.heap.size + 2, 2, none⟩ = some (.int .i64 cut)
  res : Blk w (W.heap.size + 3) z64
theorem LT.next {W w w' : World} {o n : List Int} {vk : Value} {torn cut : Int} (h : LT W o n vk torn cut w) (hb : Below w.heap.size w w') : LT W o n vk torn cut w' :=
  ⟨chain h.below hb, h.old.keep hb, h.nxt.keep hb, ⟨cell_keep hb h.cr.1, cell_keep hb h.cr.2.1, cell_keep hb h.cr.2.2⟩, h.res.keep hb⟩
theorem LT.start (W : World) (l nx : List Int) (vk : Value) (torn cut : Int) (hl : l.length = 64) (hn : nx.length = 64) :
    LT W l nx vk torn cut ((((W.alloc (.cells (sv l) 31)).alloc (.cells (sv nx) 31)).alloc (.cells #[vk, .int .i64 torn, .int .i64 cut] 25)).alloc (.cells (sv z64) 31)) := by
  have s0 := alloc_size W (.cells (sv l) 31)
  have b0 := below_alloc W (.cells (sv l) 31)
  have k0 := Blk.new W l hl
  generalize W.alloc (.cells (sv l) 31) = w0 at *
  have s1 := alloc_size w0 (.cells (sv nx) 31)
  have b1 := below_alloc w0 (.cells (sv nx) 31)
  have k1 := Blk.new w0 nx hn
  generalize w0.alloc (.cells (sv nx) 31) = w1 at *
  have s2 := alloc_size w1 (.cells #[vk, .int .i64 torn, .int .i64 cut] 25)
  have b2 := below_alloc w1 (.cells #[vk, .int .i64 torn, .int .i64 cut] 25)
  have k2 := fun j => cell_of_row (w1.alloc (.cells #[vk, .int .i64 torn, .int .i64 cut] 25)) w1.heap.size j _ _ _ (heap_alloc_last w1 _)
  generalize w1.alloc (.cells #[vk, .int .i64 torn, .int .i64 cut] 25) = w2 at *
  have b3 := below_alloc w2 (.cells (sv z64) 31)
  have k3 := Blk.new w2 z64 z64_length
  generalize w2.alloc (.cells (sv z64) 31) = w3 at *
  rw [s0] at k1
  rw [s1, s0] at k2
  rw [s2, s1, s0] at k3
  exact ⟨chain (chain (chain b0 b1) b2) b3, ((k0.keep b1).keep b2).keep b3, (k1.keep b2).keep b3, ⟨cell_keep b3 (k2 0), cell_keep b3 (k2 1), cell_keep b3 (k2 2)⟩, k3⟩
set_option maxRecDepth 8000 in
set_option maxHeartbeats 2000000 in
theorem left_any (o n : List Int) (vk : Value) (klen : Nat) (kb : List Int) (torn cut : Int) (i : Nat) (w : World) (ho : o.length = 64) (hn : n.length = 64) (hk : RI .u8 w vk klen kb) (hkb : Bytes kb) (ht : I63 torn) (hc : I63 cut) (hi : i ≤ 1000000) :
    Calls Try.prog 20 #[.agg (sv o), .agg (sv n), .agg #[vk, .int .i64 torn, .int .i64 cut], .int .i64 (i : Int)] w fun e w' => e = .returned (.agg (sv (leaves kb torn cut o n i))) ∧ Below w.heap.size w w' := by
  have HT0 := Lib.hid (LT.start w o n vk torn cut ho hn)
  have HZ := Lib.hid z64_cells
  obtain ⟨ak, ck, rfl, _⟩ := id hk
  obtain ⟨c0, c1, c2⟩ := HT0.out.cr
  by_cases htt : (i : Int) = torn
  · have HM : Hid (∀ w, _) := Lib.hid fun w => mix_any o n cut w ho hn hc
    have HSC : leaves kb torn cut o n i = mixN o n (cutN cut) := by unfold leaves; rw [if_pos htt]
    rw [HSC]
    have HL : Hid ((mixN o n (cutN cut)).length = 64) := Lib.hid (mixN_length _ _ _ ho hn (by unfold cutN; omega))
    generalize mixN o n (cutN cut) = m at *
    subst htt
    clear hk hkb ht hc ho hn HSC
    go_enter Try.func20, Try.ntmps20
    go_wp2_with (first
      | (rw [← HZ.out])
      | (refine wpl_load_sec rfl _ rfl w.heap.size rfl o HT0.out.old ?_)
      | (refine wpl_load_sec rfl _ rfl (w.heap.size + 1) rfl n HT0.out.nxt ?_)
      | (go_at_call 13; (with_reducible refine (HM.out _).mono ?_); rintro e w2 ⟨rfl, hb⟩; have HT2 := Lib.hid (HT0.out.next hb); clear hb)
      | (refine wpList_store_row rfl 31 _ _ rfl (w.heap.size + 3) (sv m) rfl rfl _ (sv z64) HT2.out.res.1 (sv_info _ HL.out) (by rw [sv_size, sv_size, HL.out, z64_length]) (sv_one _) ?_))
    refine bodyPost_ret_by (v := .agg (sv m)) (results_cell_row rfl _ _ (w.heap.size + 3) _ (sv m) (0, 0) _ rfl (HT2.out.res.row HL.out).1 Try.underlying31 rfl (sv_info _ HL.out)) rfl ⟨rfl, below_row HT2.out.below (by omega) _⟩
  · have HBT := Lib.hid fun W (h : RI .u8 W (.slice ak klen ck) klen kb) => bit_ri _ klen kb (i : Int) W h hkb (by unfold I63; omega)
    have HK := Lib.hid (hk.keep HT0.out.below)
    obtain ⟨y, hy⟩ : ∃ y, bitI kb (i : Int) = y := ⟨_, rfl⟩
    have HSC : leaves kb torn cut o n i = if y = true then n else o := by unfold leaves; rw [if_neg htt, hy]
    rw [HSC]
    rw [hy] at HBT
    have HO := Lib.hid ho
    have HN := Lib.hid hn
    clear hk hkb ht hc ho hn HSC hy
    cases y with
    | true =>
      rw [if_pos rfl]
      go_enter Try.func20, Try.ntmps20
      go_wp2_with (first
        | (rw [← HZ.out])
        | (refine wpl_load_sec rfl _ rfl (w.heap.size + 1) rfl n HT0.out.nxt ?_)
        | (go_at_call 23; (with_reducible refine (HBT.out _ HK.out).mono ?_); rintro e w2 ⟨rfl, rfl⟩)
        | (refine wpList_store_row rfl 31 _ _ rfl (w.heap.size + 3) (sv n) rfl rfl _ (sv z64) HT0.out.res.1 (sv_info _ HN.out) (by rw [sv_size, sv_size, HN.out, z64_length]) (sv_one _) ?_))
      refine bodyPost_ret_by (v := .agg (sv n)) (results_cell_row rfl _ _ (w.heap.size + 3) _ (sv n) (0, 0) _ rfl (HT0.out.res.row HN.out).1 Try.underlying31 rfl (sv_info _ HN.out)) rfl ⟨rfl, below_row HT0.out.below (by omega) _⟩
    | false =>
      rw [if_neg (by simp)]
      go_enter Try.func20, Try.ntmps20
      go_wp2_with (first
        | (rw [← HZ.out])
        | (refine wpl_load_sec rfl _ rfl w.heap.size rfl o HT0.out.old ?_)
        | (go_at_call 23; (with_reducible refine (HBT.out _ HK.out).mono ?_); rintro e w2 ⟨rfl, rfl⟩)
        | (refine wpList_store_row rfl 31 _ _ rfl (w.heap.size + 3) (sv o) rfl rfl _ (sv z64) HT0.out.res.1 (sv_info _ HO.out) (by rw [sv_size, sv_size, HO.out, z64_length]) (sv_one _) ?_))
      refine bodyPost_ret_by (v := .agg (sv o)) (results_cell_row rfl _ _ (w.heap.size + 3) _ (sv o) (0, 0) _ rfl (HT0.out.res.row HO.out).1 Try.underlying31 rfl (sv_info _ HO.out)) rfl ⟨rfl, below_row HT0.out.below (by omega) _⟩
theorem torn_any (vk : Value) (klen : Nat) (kb : List Int) (torn cut n : Int) (w : World) (hk : RI .u8 w vk klen kb) (_ : I63 torn) (_ : I63 cut) (_ : I63 n) :
    Calls Try.prog 10 #[.agg #[vk, .int .i64 torn, .int .i64 cut], .int .i64 n] w fun e w' => e = .returned (.bool (decide (0 ≤ torn) && decide (torn < n))) ∧ Below w.heap.size w w' := by
  obtain ⟨ak, ck, rfl, _⟩ := id hk
  by_cases h0 : 0 ≤ torn
  · rw [decide_eq_true h0, Bool.true_and]
    go_enter Try.func10, Try.ntmps10
    go_wp2
    go_ret
    exact ⟨rfl, below_alloc _ _⟩
  · rw [decide_eq_false h0, Bool.false_and]
    go_enter Try.func10, Try.ntmps10
    go_wp2
    go_ret
    exact ⟨rfl, below_alloc _ _⟩
set_option maxRecDepth 8000 in
set_option maxHeartbeats 1000000 in
theorem kept_any (vk : Value) (klen : Nat) (kb : List Int) (torn cut n : Int) (w : World) (hk : RI .u8 w vk klen kb) (hkb : Bytes kb) (_ : I63 torn) (_ : I63 cut) (hn : I63 n) :
    Calls Try.prog 12 #[.agg #[vk, .int .i64 torn, .int .i64 cut], .int .i64 n] w fun e w' => e = .returned (.int .i64 (keptN kb torn (lim n 4096) : Int)) ∧ Below w.heap.size w w' := by
  have HN := Lib.hid fun w => nearer_any n 4096 hn (by omega) w
  have hm := lim_le n 4096 (by omega)
  generalize lim n 4096 = m at *
  have HBT := Lib.hid fun (i : Nat) (hi : i ≤ 1000000) W (h : RI .u8 W vk klen kb) => bit_ri _ klen kb (i : Int) W h hkb (by unfold I63; omega)
  obtain ⟨w0, hw0⟩ : ∃ w0, w.alloc (.cells #[vk, .int .i64 torn, .int .i64 cut] 25) = w0 := ⟨_, rfl⟩
  have HB0 : Hid (Below w.heap.size w w0) := Lib.hid (by rw [← hw0]; exact below_alloc _ _)
  have HK := Lib.hid (hk.keep HB0.out)
  have hcx := fun j => cell_of_row w0 w.heap.size j _ _ _ (by rw [← hw0]; exact heap_alloc_last w (.cells #[vk, .int .i64 torn, .int .i64 cut] 25))
  have z0 := hcx 0
  have z1 := hcx 1
  simp only [List.getElem?_toArray, List.getElem?_cons_zero, List.getElem?_cons_succ] at z0 z1
  obtain ⟨ak, ck, rfl, _⟩ := id hk
  clear hk hkb hn hcx
  go_enter Try.func12, Try.ntmps12
  go_wp2_with (first
    | (rw [hw0])
    | (go_at_call 22; (with_reducible refine (HN.out _).mono ?_); rintro e w2 ⟨rfl, rfl⟩))
  clear hw0
  go_loopw [5, 9] (fun kv iv wr => ∃ i : Nat, kv = .int .i64 (keptN kb torn i : Int) ∧ iv = .int .i64 i ∧ i ≤ m ∧ wr = w0) (fun _ iv _ => m - (intOf iv).toNat)
  case atStart => exact ⟨0, rfl, rfl, by omega, rfl⟩
  case round =>
    obtain ⟨i, rfl, rfl, hi, rfl⟩ := hrel
    have hle := keptN_le kb torn i
    by_cases hlt : i < m
    · obtain ⟨c, hc⟩ : ∃ c, keptN kb torn i = c := ⟨_, rfl⟩
      rw [hc] at hle ⊢
      have HC : Hid (keptN kb torn (i + 1) = c + (if (i : Int) ≠ torn ∧ bitI kb (i : Int) = true then 1 else 0)) := Lib.hid (by rw [← hc]; rfl)
      have HBI := Lib.hid (HBT.out i (by omega) wr HK.out)
      by_cases htt : (i : Int) = torn
      · have HE : Hid (keptN kb torn (i + 1) = c) := Lib.hid (by rw [HC.out, if_neg (fun h => h.1 htt)]; rfl)
        clear hc
        go_wp2
        go_roundw
        case rel => exact ⟨i + 1, by rw [HE.out], by go_num, by omega, trivial⟩
        case measure => simp [intOf]; omega
      · obtain ⟨y, hy⟩ : ∃ y, bitI kb (i : Int) = y := ⟨_, rfl⟩
        rw [hy] at HBI
        cases y with
        | true =>
          have HE : Hid (keptN kb torn (i + 1) = c + 1) := Lib.hid (by rw [HC.out, if_pos ⟨htt, hy⟩])
          clear hc
          go_wp2_with (go_at_call 23; (with_reducible refine HBI.out.mono ?_); rintro e w2 ⟨rfl, rfl⟩)
          go_roundw
          case rel => exact ⟨i + 1, by rw [HE.out]; go_num, by go_num, by omega, trivial⟩
          case measure => simp [intOf]; omega
        | false =>
          have HE : Hid (keptN kb torn (i + 1) = c) := Lib.hid (by rw [HC.out, if_neg (fun h => by rw [hy] at h; simp at h)]; rfl)
          clear hc
          go_wp2_with (go_at_call 23; (with_reducible refine HBI.out.mono ?_); rintro e w2 ⟨rfl, rfl⟩)
          go_roundw
          case rel => exact ⟨i + 1, by rw [HE.out], by go_num, by omega, trivial⟩
          case measure => simp [intOf]; omega
    · have hq : i = m := by omega
      subst hq
      go_wp2
      go_ret
      exact ⟨rfl, HB0.out⟩
/-- what is left of q sectors, the first i of which are told -/
def filN (l : List Int) (q i : Nat) : List Int := l ++ List.replicate ((q - i) * 64) 0
theorem filN_length (l : List Int) (q i : Nat) (hl : l.length = i * 64) (hi : i ≤ q) : (filN l q i).length = q * 64 := by
  unfold filN
  rw [List.length_append, List.length_replicate, hl]; omega
theorem filN_splice (l z : List Int) (q i : Nat) (hl : l.length = i * 64) (hz : z.length = 64) (hi : i < q) : splice (filN l q i) (i * 64) z = filN (l ++ z) q (i + 1) := by
  unfold splice filN
  rw [← hl, List.take_left, hl, List.append_assoc]
  congr 2
  rw [hz, List.drop_append, List.drop_eq_nil_of_le (by omega), List.nil_append, List.drop_replicate]
  congr 1
  omega
set_option maxRecDepth 8000 in
set_option maxHeartbeats 4000000 in
theorem apply_any (v1 v2 vk : Value) (n m klen : Nat) (os ns kb : List Int) (torn cut : Int) (w : World) (h1 : FS w v1 n os) (h2 : FS w v2 m ns) (hk : RI .u8 w vk klen kb) (_ : Bytes os) (_ : Bytes ns) (hkb : Bytes kb) (ht : I63 torn) (hc : I63 cut) (hn : n ≤ 1000000) (_ : m ≤ 1000000) :
    Calls Try.prog 7 #[v1, v2, .agg #[vk, .int .i64 torn, .int .i64 cut]] w fun e w' => ∃ v', e = .returned v' ∧ FS w' v' (min n m) (applyN kb torn cut os ns (min n m)) ∧ Below w.heap.size w w' := by
  have H1 := Lib.hid h1
  have H2 := Lib.hid h2
  have HLF := Lib.hid fun (o n : List Int) (i : Nat) W (ho : o.length = 64) (hn : n.length = 64) (hi : i ≤ 1000000) (h : RI .u8 W vk klen kb) => left_any o n vk klen kb torn cut i W ho hn h hkb ht hc hi
  have HAL := Lib.hid fun j => applyN_length kb torn cut os ns n m h1.length h2.length j
  obtain ⟨a1, c1, rfl, hl1, hc1, hm1, _⟩ := id h1
  obtain ⟨a2, c2, rfl, hl2, hc2, hm2, _⟩ := id h2
  obtain ⟨ak, ck, rfl, _⟩ := id hk
  obtain ⟨w0, hw0⟩ : ∃ w0, w.alloc (.cells #[.slice ak klen ck, .int .i64 torn, .int .i64 cut] 25) = w0 := ⟨_, rfl⟩
  have HB0 : Hid (Below w.heap.size w w0) := Lib.hid (by rw [← hw0]; exact below_alloc _ _)
  have HK := Lib.hid (hk.keep HB0.out)
  have hcx := fun j => cell_of_row w0 w.heap.size j _ _ _ (by rw [← hw0]; exact heap_alloc_last w (.cells #[.slice ak klen ck, .int .i64 torn, .int .i64 cut] 25))
  have HCX : Hid (w0.cell? ⟨w.heap.size, 0, none⟩ = some (.slice ak klen ck) ∧ w0.cell? ⟨w.heap.size, 1, none⟩ = some (.int .i64 torn) ∧ w0.cell? ⟨w.heap.size, 2, none⟩ = some (.int .i64 cut)) := Lib.hid (And.intro (hcx 0) (And.intro (hcx 1) (hcx 2)))
  obtain ⟨q, hq⟩ : ∃ q, min n m = q := ⟨_, rfl⟩
  rw [hq]
  have hqn : q ≤ n := by omega
  have hqm : q ≤ m := by omega
  have HQ : Hid (min (n : Int) (m : Int) = (q : Int)) := Lib.hid (by omega)
  obtain ⟨i0, hi0, hz0, hz1, hz2⟩ := info_parts sec_parts
  have HI := Lib.hid hi0
  have HZ0 := Lib.hid hz0
  have HZ1 := Lib.hid hz1
  have hby : i0.bytes * q ≤ 281474976710656 := by rw [hz2]; omega
  have H63 := Lib.hid ht
  have H63c := Lib.hid hc
  clear h1 h2 hk hkb ht hc hcx hl1 hl2 hq hi0 hz0 hz1 hz2
  go_enter Try.func7, Try.ntmps7
  go_wp2_with (first
    | (rw [hw0])
    | (rw [HQ.out])
    | (at_make; refine wpList_make_full _ rfl (.tmp 13) (.tmp 13) 22 rfl w0.heap.size 31 i0 (.agg (sv z64)) 64 Try.underlying22 HI.out HZ0.out HZ1.out .i64 .i64 q q q rfl rfl rfl rfl hby (by unfold maxLen; omega) (Nat.le_refl _) ?_; intro w1 hown hgrow; rw [made_secs] at hown; have HR1 : Hid (RW w1 w0.heap.size (filN [] q 0)) := Lib.hid (row_of64 hown); have HB1 := Lib.hid ((Below.refl w0.heap.size w0).grown hgrow (Nat.le_refl _) (by simp)); clear hown hgrow))
  go_loopw [17] (fun iv wr => ∃ i : Nat, iv = .int .i64 i ∧ i ≤ q ∧ Hid (RW wr w0.heap.size (filN (applyN kb torn cut os ns i) q i)) ∧ Hid (Below w0.heap.size w0 wr)) (fun iv _ => q - (intOf iv).toNat)
  case atStart => exact ⟨0, rfl, by omega, HR1, HB1⟩
  case round =>
    obtain ⟨i, rfl, hi, HR, HB⟩ := hrel
    by_cases hlt : i < q
    · have hlt1 : (i : Int) < (n : Int) := by omega
      have hlt2 : (i : Int) < (m : Int) := by omega
      obtain ⟨b1, o1, rfl, ha1⟩ := (H1.out.keep HB0.out).at_ i (by omega)
      obtain ⟨b2, o2, rfl, ha2⟩ := (H2.out.keep HB0.out).at_ i (by omega)
      obtain ⟨z1, hz1⟩ : ∃ z1, sct os i = z1 := ⟨_, rfl⟩
      obtain ⟨z2, hz2⟩ : ∃ z2, sct ns i = z2 := ⟨_, rfl⟩
      rw [show (os.drop (i * 64)).take 64 = z1 from hz1] at ha1
      rw [show (ns.drop (i * 64)).take 64 = z2 from hz2] at ha2
      have HA1 := Lib.hid ha1
      have HA2 := Lib.hid ha2
      obtain ⟨z3, hz3⟩ : ∃ z3, leaves kb torn cut z1 z2 i = z3 := ⟨_, rfl⟩
      have HLL : Hid (z3.length = 64) := Lib.hid (by rw [← hz3]; exact leaves_length _ _ _ _ _ _ ha1.1 ha2.1)
      have HST : Hid (applyN kb torn cut os ns (i + 1) = applyN kb torn cut os ns i ++ z3) := Lib.hid (by rw [← hz3, ← hz1, ← hz2]; rfl)
      have HLC : Hid (∀ W, RI .u8 W (.slice ak klen ck) klen kb → Calls Try.prog 20 #[.agg (sv z1), .agg (sv z2), .agg #[.slice ak klen ck, .int .i64 torn, .int .i64 cut], .int .i64 (i : Int)] W fun e w' => e = .returned (.agg (sv z3)) ∧ Below W.heap.size W w') :=
        Lib.hid fun W h => by have := HLF.out z1 z2 i W ha1.1 ha2.1 (by omega) h; rwa [hz3] at this
      have HSP : Hid (splice (filN (applyN kb torn cut os ns i) q i) (i * 64) z3 = filN (applyN kb torn cut os ns (i + 1)) q (i + 1)) := Lib.hid (by rw [HST.out]; exact filN_splice _ _ _ _ (HAL.out i (by omega) (by omega)) HLL.out hlt)
      have HFL : Hid ((filN (applyN kb torn cut os ns i) q i).length = q * 64) := Lib.hid (filN_length _ _ _ (HAL.out i (by omega) (by omega)) hi)
      clear ha1 ha2 hz1 hz2 hz3
      go_wp2_with fail
      refine wp_region_held_drew (S := (fun W' => Below w0.heap.size w0 W')) (by kernel_rfl) (HB.out.drew) (fun hS => ?_)
      refine wpAnyH_take (i := 0) (oi := ({ dst := some 20, op := Op.move (Operand.tmp 7), type := 22, pos := "crash.go:29", after := #[], guard := none } : Oper)) (v := ?_) rfl (by kernel_rfl) (by kernel_rfl) (by kernel_rfl) (fun _ _ _ h => h) (Or.inl ⟨by rfl, ?_⟩) hS ?_
      rotate_left
      · (intro w hSw; (try dsimp only at hSw); go_simp; try with_reducible rfl)
      (try simp only [Act.put, List.setIfInBounds_toArray, List.set_cons_zero, List.set_cons_succ])
      refine wpAnyH_take (i := 1) (oi := ({ dst := some 21, op := Op.move (Operand.tmp 8), type := 3, pos := "crash.go:29", after := #[], guard := none } : Oper)) (v := ?_) rfl (by kernel_rfl) (by kernel_rfl) (by kernel_rfl) (fun _ _ _ h => h) (Or.inl ⟨by rfl, ?_⟩) hS ?_
      rotate_left
      · (intro w hSw; (try dsimp only at hSw); go_simp; try with_reducible rfl)
      (try simp only [Act.put, List.setIfInBounds_toArray, List.set_cons_zero, List.set_cons_succ])
      refine wpAnyH_take (i := 2) (oi := ({ dst := some 22, op := Op.move (Operand.tmp 0), type := 22, pos := "crash.go:29", after := #[], guard := none } : Oper)) (v := ?_) rfl (by kernel_rfl) (by kernel_rfl) (by kernel_rfl) (fun _ _ _ h => h) (Or.inl ⟨by rfl, ?_⟩) hS ?_
      rotate_left
      · (intro w hSw; (try dsimp only at hSw); go_simp; try with_reducible rfl)
      (try simp only [Act.put, List.setIfInBounds_toArray, List.set_cons_zero, List.set_cons_succ])
      refine wpAnyH_take (i := 3) (oi := ({ dst := some 23, op := Op.move (Operand.tmp 8), type := 3, pos := "crash.go:29", after := #[], guard := none } : Oper)) (v := ?_) rfl (by kernel_rfl) (by kernel_rfl) (by kernel_rfl) (fun _ _ _ h => h) (Or.inl ⟨by rfl, ?_⟩) hS ?_
      rotate_left
      · (intro w hSw; (try dsimp only at hSw); go_simp; try with_reducible rfl)
      (try simp only [Act.put, List.setIfInBounds_toArray, List.set_cons_zero, List.set_cons_succ])
      refine wpAnyH_take (i := 4) (oi := ({ dst := some 24, op := Op.indexAddr 22 (Operand.tmp 22) (Operand.tmp 23), type := 0, pos := "crash.go:29", after := #[{ on := 2, ground := Ground.data }, { on := 3, ground := Ground.data }], guard := none } : Oper)) (v := ?_) rfl (by kernel_rfl) (by kernel_rfl) (by kernel_rfl) (fun _ _ _ h => h) (Or.inl ⟨by rfl, ?_⟩) hS ?_
      rotate_left
      · (intro w hSw; (try dsimp only at hSw); go_simp; try with_reducible rfl)
      (try simp only [Act.put, List.setIfInBounds_toArray, List.set_cons_zero, List.set_cons_succ])
      refine wpAnyH_take (i := 5) (oi := ({ dst := some 25, op := Op.load 31 (Operand.tmp 24), type := 31, pos := "crash.go:29", after := #[{ on := 4, ground := Ground.data }], guard := none } : Oper)) (v := ?_) rfl (by kernel_rfl) (by kernel_rfl) (by kernel_rfl) (fun _ _ _ h => h) (Or.inl ⟨by rfl, ?_⟩) hS ?_
      rotate_left
      · (intro w hSw; (try dsimp only at hSw); refine exec_load_at (.tmp 24) ?_ ?_ (HA1.out.keep hSw) <;> rfl)
      (try simp only [Act.put, List.setIfInBounds_toArray, List.set_cons_zero, List.set_cons_succ])
      refine wpAnyH_take (i := 6) (oi := ({ dst := some 26, op := Op.move (Operand.tmp 1), type := 22, pos := "crash.go:29", after := #[], guard := none } : Oper)) (v := ?_) rfl (by kernel_rfl) (by kernel_rfl) (by kernel_rfl) (fun _ _ _ h => h) (Or.inl ⟨by rfl, ?_⟩) hS ?_
      rotate_left
      · (intro w hSw; (try dsimp only at hSw); go_simp; try with_reducible rfl)
      (try simp only [Act.put, List.setIfInBounds_toArray, List.set_cons_zero, List.set_cons_succ])
      refine wpAnyH_take (i := 7) (oi := ({ dst := some 27, op := Op.move (Operand.tmp 8), type := 3, pos := "crash.go:29", after := #[], guard := none } : Oper)) (v := ?_) rfl (by kernel_rfl) (by kernel_rfl) (by kernel_rfl) (fun _ _ _ h => h) (Or.inl ⟨by rfl, ?_⟩) hS ?_
      rotate_left
      · (intro w hSw; (try dsimp only at hSw); go_simp; try with_reducible rfl)
      (try simp only [Act.put, List.setIfInBounds_toArray, List.set_cons_zero, List.set_cons_succ])
      refine wpAnyH_take (i := 8) (oi := ({ dst := some 28, op := Op.indexAddr 22 (Operand.tmp 26) (Operand.tmp 27), type := 0, pos := "crash.go:29", after := #[{ on := 6, ground := Ground.data }, { on := 7, ground := Ground.data }], guard := none } : Oper)) (v := ?_) rfl (by kernel_rfl) (by kernel_rfl) (by kernel_rfl) (fun _ _ _ h => h) (Or.inl ⟨by rfl, ?_⟩) hS ?_
      rotate_left
      · (intro w hSw; (try dsimp only at hSw); go_simp; try with_reducible rfl)
      (try simp only [Act.put, List.setIfInBounds_toArray, List.set_cons_zero, List.set_cons_succ])
      refine wpAnyH_take (i := 9) (oi := ({ dst := some 29, op := Op.load 31 (Operand.tmp 28), type := 31, pos := "crash.go:29", after := #[{ on := 8, ground := Ground.data }], guard := none } : Oper)) (v := ?_) rfl (by kernel_rfl) (by kernel_rfl) (by kernel_rfl) (fun _ _ _ h => h) (Or.inl ⟨by rfl, ?_⟩) hS ?_
      rotate_left
      · (intro w hSw; (try dsimp only at hSw); refine exec_load_at (.tmp 28) ?_ ?_ (HA2.out.keep hSw) <;> rfl)
      (try simp only [Act.put, List.setIfInBounds_toArray, List.set_cons_zero, List.set_cons_succ])
      refine wpAnyH_take (i := 10) (oi := ({ dst := some 30, op := Op.load 25 (Operand.tmp 5), type := 25, pos := "crash.go:29", after := #[], guard := none } : Oper)) (v := ?_) rfl (by kernel_rfl) (by kernel_rfl) (by kernel_rfl) (fun _ _ _ h => h) (Or.inl ⟨by rfl, ?_⟩) hS ?_
      rotate_left
      · (intro w hSw; (try dsimp only at hSw); have z5 := cell_keep hSw HCX.out.1; have z6 := cell_keep hSw HCX.out.2.1; have z7 := cell_keep hSw HCX.out.2.2; go_simp; try with_reducible rfl)
      (try simp only [Act.put, List.setIfInBounds_toArray, List.set_cons_zero, List.set_cons_succ])
      refine wpAnyH_take (i := 11) (oi := ({ dst := some 31, op := Op.move (Operand.tmp 8), type := 3, pos := "crash.go:29", after := #[], guard := none } : Oper)) (v := ?_) rfl (by kernel_rfl) (by kernel_rfl) (by kernel_rfl) (fun _ _ _ h => h) (Or.inl ⟨by rfl, ?_⟩) hS ?_
      rotate_left
      · (intro w hSw; (try dsimp only at hSw); go_simp; try with_reducible rfl)
      (try simp only [Act.put, List.setIfInBounds_toArray, List.set_cons_zero, List.set_cons_succ])
      refine rg_one 12 ({ dst := some 32, op := Op.call { callee := Callee.value (Operand.func 20), args := #[Operand.tmp 25, Operand.tmp 29, Operand.tmp 30, Operand.tmp 31], argTypes := #[31, 31, 25, 3] }, type := 31, pos := "crash.go:29", after := #[{ on := 5, ground := Ground.data }, { on := 9, ground := Ground.data }, { on := 10, ground := Ground.data }, { on := 11, ground := Ground.data }], guard := none } : Oper) (by kernel_rfl) rfl (fun K hK => ?_)
      go_simp
      (go_at_call 20; (with_reducible refine (HLC.out _ (HK.out.keep hS)).mono ?_); rintro e w8 ⟨rfl, hb⟩; have HR8 : Hid (RW w8 w0.heap.size (filN (applyN kb torn cut os ns i) q i)) := Lib.hid (HR.out.keep (chain ((Below.refl _ _).drew) hb)))
      refine hK.out _ _ ?_ (fun hS1 => ?_)
      · (first | exact hN | exact hS | exact chain hS hb)
      clear hK K hS; have hS := hS1; clear hS1
      (try simp only [Act.put, List.setIfInBounds_toArray, List.set_cons_zero, List.set_cons_succ])
      refine wpAnyH_take (i := 13) (oi := ({ dst := some 33, op := Op.indexAddr 22 (Operand.tmp 20) (Operand.tmp 21), type := 0, pos := "crash.go:29", after := #[{ on := 0, ground := Ground.data }, { on := 1, ground := Ground.data }, { on := 0, ground := Ground.phase }, { on := 1, ground := Ground.phase }, { on := 2, ground := Ground.phase }, { on := 3, ground := Ground.phase }, { on := 4, ground := Ground.phase }, { on := 5, ground := Ground.phase }, { on := 6, ground := Ground.phase }, { on := 7, ground := Ground.phase }, { on := 8, ground := Ground.phase }, { on := 9, ground := Ground.phase }, { on := 10, ground := Ground.phase }, { on := 11, ground := Ground.phase }, { on := 12, ground := Ground.phase }], guard := none } : Oper)) (v := ?_) rfl (by kernel_rfl) (by kernel_rfl) (by kernel_rfl) (fun _ _ _ h => h) (Or.inl ⟨by rfl, ?_⟩) hS ?_
      rotate_left
      · (intro w hSw; (try dsimp only at hSw); go_simp; try with_reducible rfl)
      (try simp only [Act.put, List.setIfInBounds_toArray, List.set_cons_zero, List.set_cons_succ])
      refine rg_one 14 ({ dst := none, op := Op.store 31 (Operand.tmp 33) (Operand.tmp 32), type := 0, pos := "crash.go:29", after := #[{ on := 13, ground := Ground.data }, { on := 12, ground := Ground.data }, { on := 12, ground := Ground.chain }, { on := 0, ground := Ground.phase }, { on := 1, ground := Ground.phase }, { on := 2, ground := Ground.phase }, { on := 3, ground := Ground.phase }, { on := 4, ground := Ground.phase }, { on := 5, ground := Ground.phase }, { on := 6, ground := Ground.phase }, { on := 7, ground := Ground.phase }, { on := 8, ground := Ground.phase }, { on := 9, ground := Ground.phase }, { on := 10, ground := Ground.phase }, { on := 11, ground := Ground.phase }, { on := 12, ground := Ground.phase }], guard := none } : Oper) (by kernel_rfl) rfl (fun K hK => ?_)
      rw [if_pos (by rfl)]; refine wp_put_row (.tmp 33) (.tmp 32) rfl w0.heap.size q i _ z3 HR8.out HFL.out hlt HLL.out (i * 64) rfl (by rfl) rfl ?_; intro w9 HR9 hg9; rw [HSP.out] at HR9; have hN := hS.grown hg9.out hS.size (fun k e => by cases e; exact Nat.le_refl _); have HB9 := Lib.hid hN
      refine hK.out _ _ ?_ (fun hS1 => ?_)
      · (first | exact hN | exact hS | exact chain hS hb)
      clear hK K hS; have hS := hS1; clear hS1
      (try simp only [Act.put])
      refine wpAnyH_done (by kernel_rfl) ?_ _
      clear hS
      go_wp2
      exact ⟨⟨i + 1, by go_num, by omega, HR9, HB9⟩, by simp [intOf]; omega⟩
    · have hq : i = q := by omega
      subst hq
      go_wp2
      go_ret
      have e : filN (applyN kb torn cut os ns i) i i = applyN kb torn cut os ns i := by simp [filN]
      have hr := HR.out
      rw [e] at hr
      exact ⟨_, rfl, hr.fs (HAL.out i (by omega) (by omega)) (by omega), chain HB0.out HB.out⟩
end Go.Proofs.Ytdadeloojblekaa
