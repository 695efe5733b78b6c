/-
  THE WALK OF JoinFeeds: whatever fragments come in: the call returns true and changes nothing that was there (written by wip/gen/g28.py).
-/
import Derived.Test.YtbnedcghbdphlaaJoinLaws
namespace Go.Proofs.Ytbnedcghbdphlaa
open Go.RowKit
theorem own_block_lt {w : World} {base n s : Nat} {t : TypeId} {v : Value} {xs : List Value} (h : w.ownsRow base t s v n xs) : ∀ g, v.ownBlock = some g → g < w.heap.size := fun g hg => (h.lt g hg).2
set_option maxRecDepth 8000 in
set_option maxHeartbeats 8000000 in
theorem feeds_walk (v : Value) (n : Nat) (es : List (FR × Value)) (W : World) (hif : IF W v n es) (hsz : ∀ e ∈ es, (e.1.data.length : Int) ≤ 140737488351232) :
    Calls Try.prog 3 #[v] W fun e w' => e = .returned (.bool true) ∧ Below W.heap.size W w' := by
  have HI := Lib.hid hif
  have HL := Lib.hid hif.len
  have HS := Lib.hid hsz
  obtain ⟨la, lc, rfl, _⟩ := hif.form
  by_cases hbig : (n : Int) > 200
  · clear hif hsz
    go_enter Try.func3, Try.ntmps3
    go_wp2_with (first
      | (go_at_call 6; (with_reducible refine (awake_any _).mono ?_); rintro e w5 ⟨rfl, hb⟩; have HB5 := Lib.hid hb; clear hb))
    go_ret
    exact ⟨rfl, HB5.out⟩
  · clear hif hsz
    go_enter Try.func3, Try.ntmps3
    go_wp2_with (first
      | (go_at_call 7; (with_reducible refine (new_any _).mono ?_); rintro e w1 ⟨rfl, hj, hb⟩; have HJ1 := Lib.hid hj; have HB1 := Lib.hid hb; clear hj hb))
    obtain ⟨w2, hw2⟩ : ∃ q, w1.alloc (.cells (kA false (.slice none 0 0)) 28) = q := ⟨_, rfl⟩
    rw [hw2]
    have hb2 : Below w1.heap.size w1 w2 := hw2 ▸ balloc w1 _
    have HX2 : Hid (KO w2 w1.heap.size false (.slice none 0 0)) := Lib.hid (hw2 ▸ KO.alloc w1)
    have HJ2 := Lib.hid (HJ1.out.keep hb2)
    have HB2 := Lib.hid (bch HB1.out hb2)
    obtain ⟨jb, hjb⟩ : ∃ q, W.heap.size = q := ⟨_, rfl⟩
    obtain ⟨xb, hxb⟩ : ∃ q, w1.heap.size = q := ⟨_, rfl⟩
    have HXB : Hid (W.heap.size ≤ xb) := Lib.hid (hxb ▸ HB1.out.size)
    rw [hjb, hxb]
    have HJ2 : Hid (JB w2 W.heap.size jb false (.slice none 0 0) []) := Lib.hid (hjb ▸ HJ2.out)
    rw [hxb] at HX2
    clear hb2 hw2 hjb hxb
    go_loopw [5] (fun iv wr => ∃ (i : Nat) (o : Bool) (ha : Option Addr) (hc : Nat) (h : List Int) (pa : Option Addr) (pc : Nat), iv = .int .i64 (i : Int) ∧ i ≤ n ∧ Hid (JB wr W.heap.size jb o (.slice ha h.length hc) h) ∧ Hid (KO wr xb o (.slice pa h.length pc)) ∧ Hid (wr.ownsRow W.heap.size 5 1 (.slice pa h.length pc) h.length (il .u8 h)) ∧ Hid (∀ g, (Value.slice pa h.length pc).ownBlock = some g → some g ≠ (Value.slice ha h.length hc).ownBlock) ∧ Hid (Below W.heap.size W wr)) (fun iv _ => n - (intOf iv).toNat)
    case atStart => exact ⟨0, false, none, 0, [], none, 0, rfl, by omega, HJ2, HX2, Lib.hid (World.ownsRow_nil _ _ _ _), Lib.hid (fun g hg => by simp [Value.ownBlock] at hg), HB2⟩
    case round =>
      obtain ⟨i, o, ha, hc, h, pa, pc, rfl, hin, HJ, HK, HV, HA, HB⟩ := hrel
      by_cases hlt : (i : Int) < (n : Int)
      · have hci : es[i]? = some (es[i]'(by have := HL.out; omega)) := List.getElem?_eq_getElem _
        obtain ⟨c, hcc⟩ : ∃ c, es[i]'(by have := HL.out; omega) = c := ⟨_, rfl⟩
        rw [hcc] at hci
        obtain ⟨b1, o1, rfl, r1⟩ := HI.out.at_ i c hci
        have HR1 := Lib.hid (el_keep HB.out r1)
        have HR0 := Lib.hid r1
        have hmem := List.mem_of_getElem? hci
        have hdt := HI.out.data c hmem
        have hds := HS.out c hmem
        obtain ⟨⟨k, ep, d⟩, dv⟩ := c
        simp only at hdt hds
        have HD := Lib.hid hdt
        have HDS := Lib.hid hds
        obtain ⟨da, dc, rfl⟩ : ∃ a c, dv = .slice a d.length c := by obtain ⟨a, c, e, _⟩ := hdt; exact ⟨a, c, e⟩
        clear hci hcc r1 hdt hds hmem
        have HF := Lib.hid HJ.out.few
        have HF1 : Hid (∀ W5, Below W.heap.size W W5 → JB W5 W.heap.size jb o (.slice ha h.length hc) h → Calls Try.prog 8 #[.pointer (some ⟨jb, 0, none⟩), .agg (fA k ep (.slice da d.length dc))] W5 fun e w' =>
            ∃ u v', e = .returned (.tuple #[u, .bool (jEnds o h k d), .int .i64 (jErr o h k d)]) ∧ JB w' W.heap.size jb (jGoes o h k d) v' (jHad o h k d) ∧ w'.ownsRow W.heap.size 5 1 u (jTell o h k d).length (il .u8 (jTell o h k d)) ∧ Lies W5 (.slice ha h.length hc) u ∧ Lies W5 (.slice ha h.length hc) v' ∧ Oth W5 w' jb (.slice ha h.length hc)) := Lib.hid fun W5 hb hj =>
          feed_any W o jb (.slice ha h.length hc) h k ep (.slice da d.length dc) d.length d W5 hb hj HD.out
        have HF2 : Hid (∀ W5, Below W.heap.size W W5 → W5.ownsRow W.heap.size 5 1 (.slice pa h.length pc) h.length (il .u8 h) → Calls Try.prog 9 #[.agg (kA o (.slice pa h.length pc)), .agg (fA k ep (.slice da d.length dc))] W5 fun e w' =>
            ∃ u v', e = .returned (.tuple #[.agg (kA (jGoes o h k d) v'), u, .bool (jEnds o h k d), .int .i64 (jErr o h k d)]) ∧ w'.ownsRow W5.heap.size 5 1 v' (jHad o h k d).length (il .u8 (jHad o h k d)) ∧ w'.ownsRow W5.heap.size 5 1 u (jTell o h k d).length (il .u8 (jTell o h k d)) ∧ Below W5.heap.size W5 w') := Lib.hid fun W5 hb hv =>
          rfeed_any o (.slice pa h.length pc) h k ep (.slice da d.length dc) d.length d W5 (RI.own hv) HF.out (HD.out.keep hb) HDS.out
        generalize jErr o h k d = er at HF1 HF2
        generalize jEnds o h k d = en at HF1 HF2
        generalize jGoes o h k d = g6 at HF1 HF2
        generalize jHad o h k d = h6 at HF1 HF2
        generalize jTell o h k d = t6 at HF1 HF2
        go_wp2_with (first
          | (refine wpl_load_el rfl (.tmp 33) rfl rfl HR1.out ?_)
          | (go_at_call 8; (with_reducible refine (HF1.out _ HB.out HJ.out).mono ?_); rintro e w5 ⟨u5, v5, rfl, hj5, ho5, hl5, hm5, hk5⟩; obtain ⟨ua, uc, rfl⟩ := own_form ho5; obtain ⟨ja, jc, rfl⟩ := own_form hj5.row; have HB5 := Lib.hid (HB.out.trans (HJ.out.below hk5)); have HK5 : Hid (KO w5 xb o (.slice pa h.length pc)) := Lib.hid (HJ.out.oth_blk hk5 HK.out (by decide) (by decide)); have HV5 := Lib.hid (HJ.out.oth hk5 HV.out (by decide) HA.out); have HJ5 := Lib.hid hj5; have HU5 := Lib.hid ho5; clear hj5 ho5 hl5 hm5 hk5))
        have HR5 := Lib.hid (el_keep HB5.out HR0.out)
        refine wp_region_held_drew (S := (fun w' => Below w5.heap.size w5 w')) (by kernel_rfl) ((Below.refl w5.heap.size w5).drew) (fun hS => ?_)
        refine wpAnyH_take (i := 0) (oi := ({ dst := some 40, op := Op.load 28 (Operand.tmp 4), type := 28, pos := "law.go:26", after := #[], guard := none } : Oper)) (v := .agg (kA o (.slice pa h.length pc))) rfl (by kernel_rfl) (by kernel_rfl) (by kernel_rfl) (fun _ _ _ h => h) (Or.inl ⟨by rfl, ?_⟩) hS ?_
        · (intro w hSw; (try dsimp only at hSw); exact exec_load_ko (.tmp 4) rfl rfl (HK5.out.keep hSw))
        (try simp only [Act.put, List.setIfInBounds_toArray, List.set_cons_zero, List.set_cons_succ])
        refine wpAnyH_take (i := 1) (oi := ({ dst := some 41, op := Op.move (Operand.tmp 0), type := 22, pos := "law.go:26", after := #[], guard := none } : Oper)) (v := ?_) rfl (by kernel_rfl) (by kernel_rfl) (by kernel_rfl) (fun _ _ _ h => h) (Or.inl ⟨by rfl, ?_⟩) hS ?_
        rotate_left
        · (intro w hSw; (try dsimp only at hSw); go_simp; try with_reducible rfl)
        (try simp only [Act.put, List.setIfInBounds_toArray, List.set_cons_zero, List.set_cons_succ])
        refine wpAnyH_take (i := 2) (oi := ({ dst := some 42, op := Op.move (Operand.tmp 5), type := 3, pos := "law.go:26", after := #[], guard := none } : Oper)) (v := ?_) rfl (by kernel_rfl) (by kernel_rfl) (by kernel_rfl) (fun _ _ _ h => h) (Or.inl ⟨by rfl, ?_⟩) hS ?_
        rotate_left
        · (intro w hSw; (try dsimp only at hSw); go_simp; try with_reducible rfl)
        (try simp only [Act.put, List.setIfInBounds_toArray, List.set_cons_zero, List.set_cons_succ])
        refine wpAnyH_take (i := 3) (oi := ({ dst := some 43, op := Op.indexAddr 22 (Operand.tmp 41) (Operand.tmp 42), type := 0, pos := "law.go:26", after := #[{ on := 1, ground := Ground.data }, { on := 2, ground := Ground.data }], guard := none } : Oper)) (v := ?_) rfl (by kernel_rfl) (by kernel_rfl) (by kernel_rfl) (fun _ _ _ h => h) (Or.inl ⟨by rfl, ?_⟩) hS ?_
        rotate_left
        · (intro w hSw; (try dsimp only at hSw); go_simp; try with_reducible rfl)
        (try simp only [Act.put, List.setIfInBounds_toArray, List.set_cons_zero, List.set_cons_succ])
        refine wpAnyH_take (i := 4) (oi := ({ dst := some 44, op := Op.load 34 (Operand.tmp 43), type := 34, pos := "law.go:26", after := #[{ on := 3, ground := Ground.data }], guard := none } : Oper)) (v := .agg (fA k ep (.slice da d.length dc))) rfl (by kernel_rfl) (by kernel_rfl) (by kernel_rfl) (fun _ _ _ h => h) (Or.inl ⟨by rfl, ?_⟩) hS ?_
        · (intro w hSw; (try dsimp only at hSw); exact exec_load_el (e := (⟨k, ep, d⟩, .slice da d.length dc)) (.tmp 43) rfl rfl (el_keep hSw HR5.out))
        (try simp only [Act.put, List.setIfInBounds_toArray, List.set_cons_zero, List.set_cons_succ])
        refine rg_both 5 11 ({ dst := some 45, op := Op.call { callee := Callee.value (Operand.func 9), args := #[Operand.tmp 40, Operand.tmp 44], argTypes := #[28, 34] }, type := 35, pos := "law.go:26", after := #[{ on := 0, ground := Ground.data }, { on := 4, ground := Ground.data }], guard := none } : Oper) ({ dst := some 9, op := Op.alloc 28, type := 0, pos := "law.go:26", after := #[], guard := none } : Oper) (by kernel_rfl) rfl rfl (fun K hK => ?_) (fun K hK => ?_)
        · skip
          go_simp
          (go_at_call 9; (with_reducible refine (HF2.out _ (bch HB5.out hS) (own_keep HV5.out hS)).mono ?_); rintro e w6 ⟨u, v6, rfl, oh6, ou6, hb6⟩; obtain ⟨ta, tc, rfl⟩ := own_form ou6; obtain ⟨qa, qc, rfl⟩ := own_form oh6; have HOH := Lib.hid (own_mono oh6 hS.size); have HOU := Lib.hid (own_mono ou6 hS.size); (try clear hN); have hN := hS.trans (hb6.mono hS.size); clear oh6 ou6 hb6)
          refine hK.out _ _ ?_ (fun hS1 => ?_)
          · (first | exact hN | exact hS)
          clear hK K hS; have hS := hS1; clear hS1
          (try simp only [Act.put, List.setIfInBounds_toArray, List.set_cons_zero, List.set_cons_succ])
          refine wpAnyH_take (i := 6) (oi := ({ dst := some 39, op := Op.move (Operand.tmp 45), type := 35, pos := "law.go:26", after := #[{ on := 5, ground := Ground.data }], guard := none } : Oper)) (v := ?_) rfl (by kernel_rfl) (by kernel_rfl) (by kernel_rfl) (fun _ _ _ h => h) (Or.inl ⟨by rfl, ?_⟩) hS ?_
          rotate_left
          · (intro w hSw; (try dsimp only at hSw); go_simp; try with_reducible rfl)
          (try simp only [Act.put, List.setIfInBounds_toArray, List.set_cons_zero, List.set_cons_succ])
          refine wpAnyH_take (i := 7) (oi := ({ dst := some 46, op := Op.extract (Operand.tmp 39) 0, type := 28, pos := "law.go:26", after := #[{ on := 6, ground := Ground.data }], guard := none } : Oper)) (v := ?_) rfl (by kernel_rfl) (by kernel_rfl) (by kernel_rfl) (fun _ _ _ h => h) (Or.inl ⟨by rfl, ?_⟩) hS ?_
          rotate_left
          · (intro w hSw; (try dsimp only at hSw); go_simp; try with_reducible rfl)
          (try simp only [Act.put, List.setIfInBounds_toArray, List.set_cons_zero, List.set_cons_succ])
          refine wpAnyH_take (i := 8) (oi := ({ dst := some 47, op := Op.extract (Operand.tmp 39) 1, type := 26, pos := "law.go:26", after := #[{ on := 6, ground := Ground.data }, { on := 12, ground := Ground.gcOnly Departure.lateStores }], guard := none } : Oper)) (v := ?_) rfl (by kernel_rfl) (by kernel_rfl) (by kernel_rfl) (fun _ _ _ h => h) (Or.inl ⟨by rfl, ?_⟩) hS ?_
          rotate_left
          · (intro w hSw; (try dsimp only at hSw); go_simp; try with_reducible rfl)
          (try simp only [Act.put, List.setIfInBounds_toArray, List.set_cons_zero, List.set_cons_succ])
          refine wpAnyH_take (i := 9) (oi := ({ dst := some 48, op := Op.extract (Operand.tmp 39) 2, type := 4, pos := "law.go:26", after := #[{ on := 6, ground := Ground.data }, { on := 13, ground := Ground.gcOnly Departure.lateStores }], guard := none } : Oper)) (v := ?_) rfl (by kernel_rfl) (by kernel_rfl) (by kernel_rfl) (fun _ _ _ h => h) (Or.inl ⟨by rfl, ?_⟩) hS ?_
          rotate_left
          · (intro w hSw; (try dsimp only at hSw); go_simp; try with_reducible rfl)
          (try simp only [Act.put, List.setIfInBounds_toArray, List.set_cons_zero, List.set_cons_succ])
          refine wpAnyH_take (i := 10) (oi := ({ dst := some 49, op := Op.extract (Operand.tmp 39) 3, type := 29, pos := "law.go:26", after := #[{ on := 6, ground := Ground.data }, { on := 14, ground := Ground.gcOnly Departure.lateStores }], guard := none } : Oper)) (v := ?_) rfl (by kernel_rfl) (by kernel_rfl) (by kernel_rfl) (fun _ _ _ h => h) (Or.inl ⟨by rfl, ?_⟩) hS ?_
          rotate_left
          · (intro w hSw; (try dsimp only at hSw); go_simp; try with_reducible rfl)
          (try simp only [Act.put, List.setIfInBounds_toArray, List.set_cons_zero, List.set_cons_succ])
          refine rg_one 11 ({ dst := some 9, op := Op.alloc 28, type := 0, pos := "law.go:26", after := #[], guard := none } : Oper) (by kernel_rfl) rfl (fun K hK => ?_)
          go_simp
          (obtain ⟨w7, hw7⟩ : ∃ q, (World.alloc w6 (.cells (kA false (.slice none 0 0)) 28)) = q := ⟨_, rfl⟩; have hb7 : Below (World.heap w6).size w6 w7 := (by rw [← hw7]; exact balloc _ _); have HG : Hid (KO w7 (World.heap w6).size false (.slice none 0 0)) := Lib.hid (by rw [← hw7]; exact KO.alloc w6); rw [hw7]; have HGE : Hid (w5.heap.size ≤ (World.heap w6).size) := Lib.hid (hS.size); have HOH := Lib.hid (own_keep HOH.out hb7); have HOU := Lib.hid (own_keep HOU.out hb7); (try clear hN); have hN := hS.trans (hb7.mono hS.size); clear hb7 hw7)
          refine hK.out _ _ ?_ (fun hS1 => ?_)
          · (first | exact hN | exact hS)
          clear hK K hS; have hS := hS1; clear hS1
          (try simp only [Act.put, List.setIfInBounds_toArray, List.set_cons_zero, List.set_cons_succ])
          refine rg_one 12 ({ dst := none, op := Op.store 28 (Operand.tmp 9) (Operand.tmp 46), type := 0, pos := "law.go:26", after := #[{ on := 11, ground := Ground.data }, { on := 7, ground := Ground.data }, { on := 5, ground := Ground.chain }, { on := 0, ground := Ground.phase }, { on := 1, ground := Ground.phase }, { on := 2, ground := Ground.phase }, { on := 3, ground := Ground.phase }, { on := 4, ground := Ground.phase }, { on := 5, ground := Ground.phase }, { on := 6, ground := Ground.phase }, { on := 7, ground := Ground.phase }, { on := 8, ground := Ground.textOnly Departure.lateStores }, { on := 9, ground := Ground.textOnly Departure.lateStores }, { on := 10, ground := Ground.textOnly Departure.lateStores }, { on := 11, ground := Ground.phase }], guard := none } : Oper) (by kernel_rfl) rfl (fun K hK => ?_)
          rw [if_pos (by rfl)]; refine wp_store_row 28 (.tmp 9) (.tmp 46) rfl (World.heap w6).size (kA g6 (.slice qa h6.length qc)) rfl rfl _ _ HG.out (kj_info _ _) rfl (kj_one _ _ _ _) ?_; have hgo := HG.out.row g6 (.slice qa h6.length qc); have hoh := HG.out.row_own (kA g6 (.slice qa h6.length qc)) HOH.out (by decide); have hou := HG.out.row_own (kA g6 (.slice qa h6.length qc)) HOU.out (by decide); have hbo := brow hS (b := (World.heap w6).size) HGE.out (Nat.le_refl _) (kA g6 (.slice qa h6.length qc)); obtain ⟨w8, hw8⟩ : ∃ q, World.setRow w7 (World.heap w6).size (kA g6 (.slice qa h6.length qc)) = q := ⟨_, rfl⟩; rw [hw8] at hgo hbo hoh hou; rw [hw8]; obtain ⟨g, hgn⟩ : ∃ q, (World.heap w6).size = q := ⟨_, rfl⟩; have hge := Nat.le_trans HGE.out (Nat.le_of_eq hgn); rw [hgn] at hgo; rw [hgn]; have HG8 := Lib.hid hgo; have HGL := Lib.hid hge; have HOH8 := Lib.hid hoh; have HOU8 := Lib.hid hou; clear hgo hge hoh hou; (try clear hN); have hN := hbo; clear hbo
          refine hK.out _ _ ?_ (fun hS1 => ?_)
          · (first | exact hN | exact hS)
          clear hK K hS; have hS := hS1; clear hS1
          (try simp only [Act.put])
          refine wpAnyH_take (i := 13) (oi := ({ dst := some 10, op := Op.assign (Operand.tmp 47), type := 26, pos := "law.go:26", after := #[{ on := 8, ground := Ground.data }, { on := 12, ground := Ground.chain }, { on := 0, ground := Ground.phase }, { on := 1, ground := Ground.phase }, { on := 2, ground := Ground.phase }, { on := 3, ground := Ground.phase }, { on := 4, ground := Ground.phase }, { on := 5, ground := Ground.phase }, { on := 6, ground := Ground.phase }, { on := 7, ground := Ground.phase }, { on := 8, ground := Ground.phase }, { on := 9, ground := Ground.textOnly Departure.lateStores }, { on := 10, ground := Ground.textOnly Departure.lateStores }, { on := 11, ground := Ground.phase }, { on := 12, ground := Ground.phase }], guard := none } : Oper)) (v := ?_) rfl (by kernel_rfl) (by kernel_rfl) (by kernel_rfl) (fun _ _ _ h => h) (Or.inl ⟨by rfl, ?_⟩) hS ?_
          rotate_left
          · (intro w hSw; (try dsimp only at hSw); go_simp; try with_reducible rfl)
          (try simp only [Act.put, List.setIfInBounds_toArray, List.set_cons_zero, List.set_cons_succ])
          refine wpAnyH_take (i := 14) (oi := ({ dst := some 11, op := Op.assign (Operand.tmp 48), type := 4, pos := "law.go:26", after := #[{ on := 9, ground := Ground.data }, { on := 13, ground := Ground.chain }, { on := 0, ground := Ground.phase }, { on := 1, ground := Ground.phase }, { on := 2, ground := Ground.phase }, { on := 3, ground := Ground.phase }, { on := 4, ground := Ground.phase }, { on := 5, ground := Ground.phase }, { on := 6, ground := Ground.phase }, { on := 7, ground := Ground.phase }, { on := 8, ground := Ground.phase }, { on := 9, ground := Ground.phase }, { on := 10, ground := Ground.textOnly Departure.lateStores }, { on := 11, ground := Ground.phase }, { on := 12, ground := Ground.phase }, { on := 13, ground := Ground.phase }], guard := none } : Oper)) (v := ?_) rfl (by kernel_rfl) (by kernel_rfl) (by kernel_rfl) (fun _ _ _ h => h) (Or.inl ⟨by rfl, ?_⟩) hS ?_
          rotate_left
          · (intro w hSw; (try dsimp only at hSw); go_simp; try with_reducible rfl)
          (try simp only [Act.put, List.setIfInBounds_toArray, List.set_cons_zero, List.set_cons_succ])
          refine wpAnyH_take (i := 15) (oi := ({ dst := some 12, op := Op.assign (Operand.tmp 49), type := 29, pos := "law.go:26", after := #[{ on := 10, ground := Ground.data }, { on := 14, ground := Ground.chain }, { on := 0, ground := Ground.phase }, { on := 1, ground := Ground.phase }, { on := 2, ground := Ground.phase }, { on := 3, ground := Ground.phase }, { on := 4, ground := Ground.phase }, { on := 5, ground := Ground.phase }, { on := 6, ground := Ground.phase }, { on := 7, ground := Ground.phase }, { on := 8, ground := Ground.phase }, { on := 9, ground := Ground.phase }, { on := 10, ground := Ground.phase }, { on := 11, ground := Ground.phase }, { on := 12, ground := Ground.phase }, { on := 13, ground := Ground.phase }, { on := 14, ground := Ground.phase }], guard := none } : Oper)) (v := ?_) rfl (by kernel_rfl) (by kernel_rfl) (by kernel_rfl) (fun _ _ _ h => h) (Or.inl ⟨by rfl, ?_⟩) hS ?_
          rotate_left
          · (intro w hSw; (try dsimp only at hSw); go_simp; try with_reducible rfl)
          (try simp only [Act.put, List.setIfInBounds_toArray, List.set_cons_zero, List.set_cons_succ])
          refine wpAnyH_done (by kernel_rfl) ?_ _
          have HB8 := Lib.hid (bch HB5.out hS)
          have HK8 := Lib.hid (HK5.out.keep hS)
          have HJ8 := Lib.hid (HJ5.out.keep hS)
          have HU8 := Lib.hid (own_keep HU5.out hS)
          have HAP : Hid (∀ g, (Value.slice qa h6.length qc).ownBlock = some g → some g ≠ (Value.slice ja h6.length jc).ownBlock) := Lib.hid (fun g h1 h2 => by have z1 := (HOH8.out.lt g h1).1; have z2 := own_block_lt HJ5.out.row g h2.symm; omega)
          clear hS hN HG HGE HOH HOU
          go_wp2_with (first
            | (refine wpl_load_ko rfl (.tmp 9) rfl rfl HG8.out ?_)
            | (refine wpList_store_row rfl 28 _ _ rfl xb (kA g6 (.slice qa h6.length qc)) rfl rfl _ _ HK8.out (kj_info _ _) rfl (kj_one _ _ _ _) ?_; obtain ⟨w9, hw9⟩ : ∃ q, World.setRow w8 xb (kA g6 (.slice qa h6.length qc)) = q := ⟨_, rfl⟩; rw [hw9]; have HB9 : Hid (Below W.heap.size W w9) := Lib.hid (hw9 ▸ brow HB8.out HXB.out (Nat.le_refl _) _); have HK9 : Hid (KO w9 xb g6 (.slice qa h6.length qc)) := Lib.hid (hw9 ▸ HK8.out.row _ _); have HOH9 : Hid (w9.ownsRow W.heap.size 5 1 (.slice qa h6.length qc) h6.length (il .u8 h6)) := Lib.hid (hw9 ▸ HK8.out.row_own _ (own_mono HOH8.out HB5.out.size) (by decide)); have HOU9 : Hid (w9.ownsRow W.heap.size 5 1 (.slice ta t6.length tc) t6.length (il .u8 t6)) := Lib.hid (hw9 ▸ HK8.out.row_own _ (own_mono HOU8.out HB5.out.size) (by decide)); have HU9 : Hid (w9.ownsRow W.heap.size 5 1 (.slice ua t6.length uc) t6.length (il .u8 t6)) := Lib.hid (hw9 ▸ HK8.out.row_own _ HU8.out (by decide)); have HJ9 : Hid (JB w9 W.heap.size jb g6 (.slice ja h6.length jc) h6) := Lib.hid (hw9 ▸ ⟨(setRow_other w8 xb jb _ (fun e => absurd (HK8.out.symm.trans (e ▸ HJ8.out.blk)) (by simp))).trans HJ8.out.blk, HK8.out.row_own _ HJ8.out.row (by decide), HJ8.out.idle, HJ8.out.few, HJ8.out.low⟩); clear hw9))
          obtain ⟨s, hs⟩ : ∃ s, strOfNums t6 = s := ⟨_, rfl⟩
          have HSS := Lib.hid hs
          clear hs
          refine wp_region_held_drew (S := (fun w' => Below w9.heap.size w9 w')) (by kernel_rfl) ((Below.refl w9.heap.size w9).drew) (fun hS => ?_)
          refine wpAnyH_take (i := 0) (oi := ({ dst := some 51, op := Op.move (Operand.tmp 6), type := 26, pos := "law.go:28", after := #[], guard := none } : Oper)) (v := ?_) rfl (by kernel_rfl) (by kernel_rfl) (by kernel_rfl) (fun _ _ _ h => h) (Or.inl ⟨by rfl, ?_⟩) hS ?_
          rotate_left
          · (intro w hSw; (try dsimp only at hSw); go_simp; try with_reducible rfl)
          (try simp only [Act.put, List.setIfInBounds_toArray, List.set_cons_zero, List.set_cons_succ])
          refine wpAnyH_take (i := 1) (oi := ({ dst := some 52, op := Op.convert 26 9 (Operand.tmp 51), type := 9, pos := "law.go:28", after := #[{ on := 0, ground := Ground.data }], guard := none } : Oper)) (v := .string s) rfl (by kernel_rfl) (by kernel_rfl) (by kernel_rfl) (fun _ _ _ h => h) (Or.inl ⟨by rfl, ?_⟩) hS ?_
          · (intro w hSw; (try dsimp only at hSw); have z := conv_ri (RI.keep hSw (RI.own HU9.out)); rw [HSS.out] at z; go_simp; try with_reducible rfl)
          (try simp only [Act.put, List.setIfInBounds_toArray, List.set_cons_zero, List.set_cons_succ])
          refine wpAnyH_take (i := 2) (oi := ({ dst := some 53, op := Op.move (Operand.tmp 10), type := 26, pos := "law.go:28", after := #[], guard := none } : Oper)) (v := ?_) rfl (by kernel_rfl) (by kernel_rfl) (by kernel_rfl) (fun _ _ _ h => h) (Or.inl ⟨by rfl, ?_⟩) hS ?_
          rotate_left
          · (intro w hSw; (try dsimp only at hSw); go_simp; try with_reducible rfl)
          (try simp only [Act.put, List.setIfInBounds_toArray, List.set_cons_zero, List.set_cons_succ])
          refine wpAnyH_take (i := 3) (oi := ({ dst := some 54, op := Op.convert 26 9 (Operand.tmp 53), type := 9, pos := "law.go:28", after := #[{ on := 2, ground := Ground.data }], guard := none } : Oper)) (v := .string s) rfl (by kernel_rfl) (by kernel_rfl) (by kernel_rfl) (fun _ _ _ h => h) (Or.inl ⟨by rfl, ?_⟩) hS ?_
          · (intro w hSw; (try dsimp only at hSw); have z := conv_ri (RI.keep hSw (RI.own HOU9.out)); rw [HSS.out] at z; go_simp; try with_reducible rfl)
          (try simp only [Act.put, List.setIfInBounds_toArray, List.set_cons_zero, List.set_cons_succ])
          refine wpAnyH_take (i := 4) (oi := ({ dst := some 55, op := Op.binOp BinOp.neq 9 (Operand.tmp 52) (Operand.tmp 54) 9, type := 4, pos := "law.go:28", after := #[{ on := 1, ground := Ground.data }, { on := 3, ground := Ground.data }], guard := none } : Oper)) (v := .bool false) rfl (by kernel_rfl) (by kernel_rfl) (by kernel_rfl) (fun _ _ _ h => h) (Or.inl ⟨by rfl, ?_⟩) hS ?_
          · (intro w hSw; (try dsimp only at hSw); go_simp)
          (try simp only [Act.put, List.setIfInBounds_toArray, List.set_cons_zero, List.set_cons_succ])
          refine wpAnyH_take (i := 5) (oi := ({ dst := some 56, op := Op.move (Operand.tmp 55), type := 4, pos := "law.go:28", after := #[{ on := 4, ground := Ground.data }], guard := none } : Oper)) (v := ?_) rfl (by kernel_rfl) (by kernel_rfl) (by kernel_rfl) (fun _ _ _ h => h) (Or.inl ⟨by rfl, ?_⟩) hS ?_
          rotate_left
          · (intro w hSw; (try dsimp only at hSw); go_simp; try with_reducible rfl)
          (try simp only [Act.put, List.setIfInBounds_toArray, List.set_cons_zero, List.set_cons_succ])
          refine wpAnyH_take (i := 6) (oi := ({ dst := some 57, op := Op.move (Operand.tmp 7), type := 4, pos := "law.go:28", after := #[{ on := 5, ground := Ground.guard }], guard := some (5, false) } : Oper)) (v := ?_) rfl (by kernel_rfl) (by kernel_rfl) (by kernel_rfl) (fun _ _ _ h => h) (Or.inl ⟨by rfl, ?_⟩) hS ?_
          rotate_left
          · (intro w hSw; (try dsimp only at hSw); go_simp; try with_reducible rfl)
          (try simp only [Act.put, List.setIfInBounds_toArray, List.set_cons_zero, List.set_cons_succ])
          refine wpAnyH_take (i := 7) (oi := ({ dst := some 58, op := Op.move (Operand.tmp 11), type := 4, pos := "law.go:28", after := #[{ on := 5, ground := Ground.guard }], guard := some (5, false) } : Oper)) (v := ?_) rfl (by kernel_rfl) (by kernel_rfl) (by kernel_rfl) (fun _ _ _ h => h) (Or.inl ⟨by rfl, ?_⟩) hS ?_
          rotate_left
          · (intro w hSw; (try dsimp only at hSw); go_simp; try with_reducible rfl)
          (try simp only [Act.put, List.setIfInBounds_toArray, List.set_cons_zero, List.set_cons_succ])
          refine wpAnyH_take (i := 8) (oi := ({ dst := some 59, op := Op.binOp BinOp.neq 4 (Operand.tmp 57) (Operand.tmp 58) 4, type := 4, pos := "law.go:28", after := #[{ on := 6, ground := Ground.data }, { on := 7, ground := Ground.data }, { on := 5, ground := Ground.guard }], guard := some (5, false) } : Oper)) (v := .bool false) rfl (by kernel_rfl) (by kernel_rfl) (by kernel_rfl) (fun _ _ _ h => h) (Or.inl ⟨by rfl, ?_⟩) hS ?_
          · (intro w hSw; (try dsimp only at hSw); go_simp)
          (try simp only [Act.put, List.setIfInBounds_toArray, List.set_cons_zero, List.set_cons_succ])
          refine wpAnyH_take (i := 9) (oi := ({ dst := some 60, op := Op.pick (Operand.tmp 56) (Operand.const (Value.bool true)) (Operand.tmp 59), type := 4, pos := "law.go:28", after := #[{ on := 5, ground := Ground.data }, { on := 8, ground := Ground.data }], guard := none } : Oper)) (v := ?_) rfl (by kernel_rfl) (by kernel_rfl) (by kernel_rfl) (fun _ _ _ h => h) (Or.inl ⟨by rfl, ?_⟩) hS ?_
          rotate_left
          · (intro w hSw; (try dsimp only at hSw); go_simp; try with_reducible rfl)
          (try simp only [Act.put, List.setIfInBounds_toArray, List.set_cons_zero, List.set_cons_succ])
          refine wpAnyH_take (i := 10) (oi := ({ dst := some 61, op := Op.move (Operand.tmp 60), type := 4, pos := "law.go:28", after := #[{ on := 9, ground := Ground.data }, { on := 5, ground := Ground.chain }], guard := none } : Oper)) (v := ?_) rfl (by kernel_rfl) (by kernel_rfl) (by kernel_rfl) (fun _ _ _ h => h) (Or.inl ⟨by rfl, ?_⟩) hS ?_
          rotate_left
          · (intro w hSw; (try dsimp only at hSw); go_simp; try with_reducible rfl)
          (try simp only [Act.put, List.setIfInBounds_toArray, List.set_cons_zero, List.set_cons_succ])
          refine wpAnyH_take (i := 11) (oi := ({ dst := some 62, op := Op.move (Operand.tmp 8), type := 29, pos := "law.go:28", after := #[{ on := 10, ground := Ground.guard }], guard := some (10, false) } : Oper)) (v := ?_) rfl (by kernel_rfl) (by kernel_rfl) (by kernel_rfl) (fun _ _ _ h => h) (Or.inl ⟨by rfl, ?_⟩) hS ?_
          rotate_left
          · (intro w hSw; (try dsimp only at hSw); go_simp; try with_reducible rfl)
          (try simp only [Act.put, List.setIfInBounds_toArray, List.set_cons_zero, List.set_cons_succ])
          refine wpAnyH_take (i := 12) (oi := ({ dst := some 63, op := Op.move (Operand.tmp 12), type := 29, pos := "law.go:28", after := #[{ on := 10, ground := Ground.guard }], guard := some (10, false) } : Oper)) (v := ?_) rfl (by kernel_rfl) (by kernel_rfl) (by kernel_rfl) (fun _ _ _ h => h) (Or.inl ⟨by rfl, ?_⟩) hS ?_
          rotate_left
          · (intro w hSw; (try dsimp only at hSw); go_simp; try with_reducible rfl)
          (try simp only [Act.put, List.setIfInBounds_toArray, List.set_cons_zero, List.set_cons_succ])
          refine wpAnyH_take (i := 13) (oi := ({ dst := some 64, op := Op.binOp BinOp.neq 29 (Operand.tmp 62) (Operand.tmp 63) 29, type := 4, pos := "law.go:28", after := #[{ on := 11, ground := Ground.data }, { on := 12, ground := Ground.data }, { on := 10, ground := Ground.guard }], guard := some (10, false) } : Oper)) (v := .bool false) rfl (by kernel_rfl) (by kernel_rfl) (by kernel_rfl) (fun _ _ _ h => h) (Or.inl ⟨by rfl, ?_⟩) hS ?_
          · (intro w hSw; (try dsimp only at hSw); go_simp)
          (try simp only [Act.put, List.setIfInBounds_toArray, List.set_cons_zero, List.set_cons_succ])
          refine wpAnyH_take (i := 14) (oi := ({ dst := some 65, op := Op.pick (Operand.tmp 61) (Operand.const (Value.bool true)) (Operand.tmp 64), type := 4, pos := "law.go:28", after := #[{ on := 10, ground := Ground.data }, { on := 13, ground := Ground.data }], guard := none } : Oper)) (v := ?_) rfl (by kernel_rfl) (by kernel_rfl) (by kernel_rfl) (fun _ _ _ h => h) (Or.inl ⟨by rfl, ?_⟩) hS ?_
          rotate_left
          · (intro w hSw; (try dsimp only at hSw); go_simp; try with_reducible rfl)
          (try simp only [Act.put, List.setIfInBounds_toArray, List.set_cons_zero, List.set_cons_succ])
          refine wpAnyH_take (i := 15) (oi := ({ dst := some 66, op := Op.move (Operand.tmp 65), type := 4, pos := "law.go:28", after := #[{ on := 14, ground := Ground.data }, { on := 10, ground := Ground.chain }], guard := none } : Oper)) (v := ?_) rfl (by kernel_rfl) (by kernel_rfl) (by kernel_rfl) (fun _ _ _ h => h) (Or.inl ⟨by rfl, ?_⟩) hS ?_
          rotate_left
          · (intro w hSw; (try dsimp only at hSw); go_simp; try with_reducible rfl)
          (try simp only [Act.put, List.setIfInBounds_toArray, List.set_cons_zero, List.set_cons_succ])
          refine wpAnyH_take (i := 16) (oi := ({ dst := some 67, op := Op.move (Operand.tmp 3), type := 24, pos := "law.go:28", after := #[{ on := 15, ground := Ground.guard }], guard := some (15, false) } : Oper)) (v := ?_) rfl (by kernel_rfl) (by kernel_rfl) (by kernel_rfl) (fun _ _ _ h => h) (Or.inl ⟨by rfl, ?_⟩) hS ?_
          rotate_left
          · (intro w hSw; (try dsimp only at hSw); go_simp; try with_reducible rfl)
          (try simp only [Act.put, List.setIfInBounds_toArray, List.set_cons_zero, List.set_cons_succ])
          refine wpAnyH_take (i := 18) (oi := ({ dst := some 69, op := Op.fieldAddr 28 (Operand.tmp 4) 0, type := 0, pos := "law.go:28", after := #[{ on := 15, ground := Ground.guard }], guard := some (15, false) } : Oper)) (v := ?_) rfl (by kernel_rfl) (by kernel_rfl) (by kernel_rfl) (fun _ _ _ h => h) (Or.inl ⟨by rfl, ?_⟩) hS ?_
          rotate_left
          · (intro w hSw; (try dsimp only at hSw); go_simp; try with_reducible rfl)
          (try simp only [Act.put, List.setIfInBounds_toArray, List.set_cons_zero, List.set_cons_succ])
          refine wpAnyH_take (i := 19) (oi := ({ dst := some 70, op := Op.load 4 (Operand.tmp 69), type := 4, pos := "law.go:28", after := #[{ on := 18, ground := Ground.data }, { on := 15, ground := Ground.guard }], guard := some (15, false) } : Oper)) (v := .bool g6) rfl (by kernel_rfl) (by kernel_rfl) (by kernel_rfl) (fun _ _ _ h => h) (Or.inl ⟨by rfl, ?_⟩) hS ?_
          · (intro w hSw; (try dsimp only at hSw); have z := (HK9.out.keep hSw).cells.1; go_simp)
          (try simp only [Act.put, List.setIfInBounds_toArray, List.set_cons_zero, List.set_cons_succ])
          refine rg_one 17 ({ dst := some 68, op := Op.call { callee := Callee.value (Operand.func 10), args := #[Operand.tmp 67], argTypes := #[24] }, type := 4, pos := "law.go:28", after := #[{ on := 16, ground := Ground.data }, { on := 15, ground := Ground.chain }, { on := 15, ground := Ground.guard }], guard := some (15, false) } : Oper) (by kernel_rfl) rfl (fun K hK => ?_)
          go_simp
          (go_at_call 10; (with_reducible refine (idle_any g6 (.slice ja h6.length jc) jb _ (HJ9.out.blk.keep hS)).mono ?_); rintro e w6 ⟨rfl, rfl⟩)
          refine hK.out _ _ ?_ (fun hS1 => ?_)
          · (exact hS)
          clear hK K hS; have hS := hS1; clear hS1
          (try simp only [Act.put, List.setIfInBounds_toArray, List.set_cons_zero, List.set_cons_succ])
          refine wpAnyH_take (i := 20) (oi := ({ dst := some 71, op := Op.binOp BinOp.eql 4 (Operand.tmp 68) (Operand.tmp 70) 4, type := 4, pos := "law.go:28", after := #[{ on := 17, ground := Ground.data }, { on := 19, ground := Ground.data }, { on := 15, ground := Ground.guard }], guard := some (15, false) } : Oper)) (v := .bool false) rfl (by kernel_rfl) (by kernel_rfl) (by kernel_rfl) (fun _ _ _ h => h) (Or.inl ⟨by rfl, ?_⟩) hS ?_
          · (intro w hSw; (try dsimp only at hSw); (cases g6 <;> go_simp))
          (try simp only [Act.put, List.setIfInBounds_toArray, List.set_cons_zero, List.set_cons_succ])
          refine wpAnyH_take (i := 21) (oi := ({ dst := some 72, op := Op.pick (Operand.tmp 66) (Operand.const (Value.bool true)) (Operand.tmp 71), type := 4, pos := "law.go:28", after := #[{ on := 15, ground := Ground.data }, { on := 20, ground := Ground.data }], guard := none } : Oper)) (v := ?_) rfl (by kernel_rfl) (by kernel_rfl) (by kernel_rfl) (fun _ _ _ h => h) (Or.inl ⟨by rfl, ?_⟩) hS ?_
          rotate_left
          · (intro w hSw; (try dsimp only at hSw); go_simp; try with_reducible rfl)
          (try simp only [Act.put, List.setIfInBounds_toArray, List.set_cons_zero, List.set_cons_succ])
          refine wpAnyH_done (by kernel_rfl) ?_ _
          have HBA := Lib.hid (bch HB9.out hS)
          have HKA := Lib.hid (HK9.out.keep hS)
          have HJA := Lib.hid (HJ9.out.keep hS)
          have HOA := Lib.hid (own_keep HOH9.out hS)
          clear hS
          go_wp2
          go_roundw
          case rel => exact ⟨i + 1, g6, ja, jc, h6, qa, qc, by go_num, by omega, HJA, HKA, HOA, HAP, HBA⟩
          case measure => simp [intOf]; omega
        · skip
          go_simp
          (obtain ⟨w7, hw7⟩ : ∃ q, ((World.alloc w5 (.cells (kA false (.slice none 0 0)) 28))).drew = q := ⟨_, rfl⟩; have hb7 : Below w5.heap.size w5 w7 := (by rw [← hw7]; exact bdrew0 _ _); have HG : Hid (KO w7 w5.heap.size false (.slice none 0 0)) := Lib.hid (by rw [← hw7]; exact KO.alloc w5); rw [hw7]; have HGE : Hid (w5.heap.size ≤ w5.heap.size) := Lib.hid (Nat.le_refl _); (try clear hN); have hN := hb7; clear hb7 hw7)
          refine hK.out _ _ ?_ (fun hS1 => ?_)
          · (first | exact hN | exact hS)
          clear hK K hS; have hS := hS1; clear hS1
          (try simp only [Act.put, List.setIfInBounds_toArray, List.set_cons_zero, List.set_cons_succ])
          refine rg_one 5 ({ dst := some 45, op := Op.call { callee := Callee.value (Operand.func 9), args := #[Operand.tmp 40, Operand.tmp 44], argTypes := #[28, 34] }, type := 35, pos := "law.go:26", after := #[{ on := 0, ground := Ground.data }, { on := 4, ground := Ground.data }], guard := none } : Oper) (by kernel_rfl) rfl (fun K hK => ?_)
          go_simp
          (go_at_call 9; (with_reducible refine (HF2.out _ (bch HB5.out hS) (own_keep HV5.out hS)).mono ?_); rintro e w6 ⟨u, v6, rfl, oh6, ou6, hb6⟩; obtain ⟨ta, tc, rfl⟩ := own_form ou6; obtain ⟨qa, qc, rfl⟩ := own_form oh6; have HOH := Lib.hid (own_mono oh6 hS.size); have HOU := Lib.hid (own_mono ou6 hS.size); have HG := Lib.hid (HG.out.keep hb6); (try clear hN); have hN := hS.trans (hb6.mono hS.size); clear oh6 ou6 hb6)
          refine hK.out _ _ ?_ (fun hS1 => ?_)
          · (first | exact hN | exact hS)
          clear hK K hS; have hS := hS1; clear hS1
          (try simp only [Act.put, List.setIfInBounds_toArray, List.set_cons_zero, List.set_cons_succ])
          refine wpAnyH_take (i := 6) (oi := ({ dst := some 39, op := Op.move (Operand.tmp 45), type := 35, pos := "law.go:26", after := #[{ on := 5, ground := Ground.data }], guard := none } : Oper)) (v := ?_) rfl (by kernel_rfl) (by kernel_rfl) (by kernel_rfl) (fun _ _ _ h => h) (Or.inl ⟨by rfl, ?_⟩) hS ?_
          rotate_left
          · (intro w hSw; (try dsimp only at hSw); go_simp; try with_reducible rfl)
          (try simp only [Act.put, List.setIfInBounds_toArray, List.set_cons_zero, List.set_cons_succ])
          refine wpAnyH_take (i := 7) (oi := ({ dst := some 46, op := Op.extract (Operand.tmp 39) 0, type := 28, pos := "law.go:26", after := #[{ on := 6, ground := Ground.data }], guard := none } : Oper)) (v := ?_) rfl (by kernel_rfl) (by kernel_rfl) (by kernel_rfl) (fun _ _ _ h => h) (Or.inl ⟨by rfl, ?_⟩) hS ?_
          rotate_left
          · (intro w hSw; (try dsimp only at hSw); go_simp; try with_reducible rfl)
          (try simp only [Act.put, List.setIfInBounds_toArray, List.set_cons_zero, List.set_cons_succ])
          refine wpAnyH_take (i := 8) (oi := ({ dst := some 47, op := Op.extract (Operand.tmp 39) 1, type := 26, pos := "law.go:26", after := #[{ on := 6, ground := Ground.data }, { on := 12, ground := Ground.gcOnly Departure.lateStores }], guard := none } : Oper)) (v := ?_) rfl (by kernel_rfl) (by kernel_rfl) (by kernel_rfl) (fun _ _ _ h => h) (Or.inl ⟨by rfl, ?_⟩) hS ?_
          rotate_left
          · (intro w hSw; (try dsimp only at hSw); go_simp; try with_reducible rfl)
          (try simp only [Act.put, List.setIfInBounds_toArray, List.set_cons_zero, List.set_cons_succ])
          refine wpAnyH_take (i := 9) (oi := ({ dst := some 48, op := Op.extract (Operand.tmp 39) 2, type := 4, pos := "law.go:26", after := #[{ on := 6, ground := Ground.data }, { on := 13, ground := Ground.gcOnly Departure.lateStores }], guard := none } : Oper)) (v := ?_) rfl (by kernel_rfl) (by kernel_rfl) (by kernel_rfl) (fun _ _ _ h => h) (Or.inl ⟨by rfl, ?_⟩) hS ?_
          rotate_left
          · (intro w hSw; (try dsimp only at hSw); go_simp; try with_reducible rfl)
          (try simp only [Act.put, List.setIfInBounds_toArray, List.set_cons_zero, List.set_cons_succ])
          refine wpAnyH_take (i := 10) (oi := ({ dst := some 49, op := Op.extract (Operand.tmp 39) 3, type := 29, pos := "law.go:26", after := #[{ on := 6, ground := Ground.data }, { on := 14, ground := Ground.gcOnly Departure.lateStores }], guard := none } : Oper)) (v := ?_) rfl (by kernel_rfl) (by kernel_rfl) (by kernel_rfl) (fun _ _ _ h => h) (Or.inl ⟨by rfl, ?_⟩) hS ?_
          rotate_left
          · (intro w hSw; (try dsimp only at hSw); go_simp; try with_reducible rfl)
          (try simp only [Act.put, List.setIfInBounds_toArray, List.set_cons_zero, List.set_cons_succ])
          refine rg_one 12 ({ dst := none, op := Op.store 28 (Operand.tmp 9) (Operand.tmp 46), type := 0, pos := "law.go:26", after := #[{ on := 11, ground := Ground.data }, { on := 7, ground := Ground.data }, { on := 5, ground := Ground.chain }, { on := 0, ground := Ground.phase }, { on := 1, ground := Ground.phase }, { on := 2, ground := Ground.phase }, { on := 3, ground := Ground.phase }, { on := 4, ground := Ground.phase }, { on := 5, ground := Ground.phase }, { on := 6, ground := Ground.phase }, { on := 7, ground := Ground.phase }, { on := 8, ground := Ground.textOnly Departure.lateStores }, { on := 9, ground := Ground.textOnly Departure.lateStores }, { on := 10, ground := Ground.textOnly Departure.lateStores }, { on := 11, ground := Ground.phase }], guard := none } : Oper) (by kernel_rfl) rfl (fun K hK => ?_)
          rw [if_pos (by rfl)]; refine wp_store_row 28 (.tmp 9) (.tmp 46) rfl w5.heap.size (kA g6 (.slice qa h6.length qc)) rfl rfl _ _ HG.out (kj_info _ _) rfl (kj_one _ _ _ _) ?_; have hgo := HG.out.row g6 (.slice qa h6.length qc); have hoh := HG.out.row_own (kA g6 (.slice qa h6.length qc)) HOH.out (by decide); have hou := HG.out.row_own (kA g6 (.slice qa h6.length qc)) HOU.out (by decide); have hbo := brow hS (b := w5.heap.size) HGE.out (Nat.le_refl _) (kA g6 (.slice qa h6.length qc)); obtain ⟨w8, hw8⟩ : ∃ q, World.setRow w6 w5.heap.size (kA g6 (.slice qa h6.length qc)) = q := ⟨_, rfl⟩; rw [hw8] at hgo hbo hoh hou; rw [hw8]; obtain ⟨g, hgn⟩ : ∃ q, w5.heap.size = q := ⟨_, rfl⟩; have hge := Nat.le_trans HGE.out (Nat.le_of_eq hgn); rw [hgn] at hgo; rw [hgn]; have HG8 := Lib.hid hgo; have HGL := Lib.hid hge; have HOH8 := Lib.hid hoh; have HOU8 := Lib.hid hou; clear hgo hge hoh hou; (try clear hN); have hN := hbo; clear hbo
          refine hK.out _ _ ?_ (fun hS1 => ?_)
          · (first | exact hN | exact hS)
          clear hK K hS; have hS := hS1; clear hS1
          (try simp only [Act.put])
          refine wpAnyH_take (i := 13) (oi := ({ dst := some 10, op := Op.assign (Operand.tmp 47), type := 26, pos := "law.go:26", after := #[{ on := 8, ground := Ground.data }, { on := 12, ground := Ground.chain }, { on := 0, ground := Ground.phase }, { on := 1, ground := Ground.phase }, { on := 2, ground := Ground.phase }, { on := 3, ground := Ground.phase }, { on := 4, ground := Ground.phase }, { on := 5, ground := Ground.phase }, { on := 6, ground := Ground.phase }, { on := 7, ground := Ground.phase }, { on := 8, ground := Ground.phase }, { on := 9, ground := Ground.textOnly Departure.lateStores }, { on := 10, ground := Ground.textOnly Departure.lateStores }, { on := 11, ground := Ground.phase }, { on := 12, ground := Ground.phase }], guard := none } : Oper)) (v := ?_) rfl (by kernel_rfl) (by kernel_rfl) (by kernel_rfl) (fun _ _ _ h => h) (Or.inl ⟨by rfl, ?_⟩) hS ?_
          rotate_left
          · (intro w hSw; (try dsimp only at hSw); go_simp; try with_reducible rfl)
          (try simp only [Act.put, List.setIfInBounds_toArray, List.set_cons_zero, List.set_cons_succ])
          refine wpAnyH_take (i := 14) (oi := ({ dst := some 11, op := Op.assign (Operand.tmp 48), type := 4, pos := "law.go:26", after := #[{ on := 9, ground := Ground.data }, { on := 13, ground := Ground.chain }, { on := 0, ground := Ground.phase }, { on := 1, ground := Ground.phase }, { on := 2, ground := Ground.phase }, { on := 3, ground := Ground.phase }, { on := 4, ground := Ground.phase }, { on := 5, ground := Ground.phase }, { on := 6, ground := Ground.phase }, { on := 7, ground := Ground.phase }, { on := 8, ground := Ground.phase }, { on := 9, ground := Ground.phase }, { on := 10, ground := Ground.textOnly Departure.lateStores }, { on := 11, ground := Ground.phase }, { on := 12, ground := Ground.phase }, { on := 13, ground := Ground.phase }], guard := none } : Oper)) (v := ?_) rfl (by kernel_rfl) (by kernel_rfl) (by kernel_rfl) (fun _ _ _ h => h) (Or.inl ⟨by rfl, ?_⟩) hS ?_
          rotate_left
          · (intro w hSw; (try dsimp only at hSw); go_simp; try with_reducible rfl)
          (try simp only [Act.put, List.setIfInBounds_toArray, List.set_cons_zero, List.set_cons_succ])
          refine wpAnyH_take (i := 15) (oi := ({ dst := some 12, op := Op.assign (Operand.tmp 49), type := 29, pos := "law.go:26", after := #[{ on := 10, ground := Ground.data }, { on := 14, ground := Ground.chain }, { on := 0, ground := Ground.phase }, { on := 1, ground := Ground.phase }, { on := 2, ground := Ground.phase }, { on := 3, ground := Ground.phase }, { on := 4, ground := Ground.phase }, { on := 5, ground := Ground.phase }, { on := 6, ground := Ground.phase }, { on := 7, ground := Ground.phase }, { on := 8, ground := Ground.phase }, { on := 9, ground := Ground.phase }, { on := 10, ground := Ground.phase }, { on := 11, ground := Ground.phase }, { on := 12, ground := Ground.phase }, { on := 13, ground := Ground.phase }, { on := 14, ground := Ground.phase }], guard := none } : Oper)) (v := ?_) rfl (by kernel_rfl) (by kernel_rfl) (by kernel_rfl) (fun _ _ _ h => h) (Or.inl ⟨by rfl, ?_⟩) hS ?_
          rotate_left
          · (intro w hSw; (try dsimp only at hSw); go_simp; try with_reducible rfl)
          (try simp only [Act.put, List.setIfInBounds_toArray, List.set_cons_zero, List.set_cons_succ])
          refine wpAnyH_done (by kernel_rfl) ?_ _
          have HB8 := Lib.hid (bch HB5.out hS)
          have HK8 := Lib.hid (HK5.out.keep hS)
          have HJ8 := Lib.hid (HJ5.out.keep hS)
          have HU8 := Lib.hid (own_keep HU5.out hS)
          have HAP : Hid (∀ g, (Value.slice qa h6.length qc).ownBlock = some g → some g ≠ (Value.slice ja h6.length jc).ownBlock) := Lib.hid (fun g h1 h2 => by have z1 := (HOH8.out.lt g h1).1; have z2 := own_block_lt HJ5.out.row g h2.symm; omega)
          clear hS hN HG HGE HOH HOU
          go_wp2_with (first
            | (refine wpl_load_ko rfl (.tmp 9) rfl rfl HG8.out ?_)
            | (refine wpList_store_row rfl 28 _ _ rfl xb (kA g6 (.slice qa h6.length qc)) rfl rfl _ _ HK8.out (kj_info _ _) rfl (kj_one _ _ _ _) ?_; obtain ⟨w9, hw9⟩ : ∃ q, World.setRow w8 xb (kA g6 (.slice qa h6.length qc)) = q := ⟨_, rfl⟩; rw [hw9]; have HB9 : Hid (Below W.heap.size W w9) := Lib.hid (hw9 ▸ brow HB8.out HXB.out (Nat.le_refl _) _); have HK9 : Hid (KO w9 xb g6 (.slice qa h6.length qc)) := Lib.hid (hw9 ▸ HK8.out.row _ _); have HOH9 : Hid (w9.ownsRow W.heap.size 5 1 (.slice qa h6.length qc) h6.length (il .u8 h6)) := Lib.hid (hw9 ▸ HK8.out.row_own _ (own_mono HOH8.out HB5.out.size) (by decide)); have HOU9 : Hid (w9.ownsRow W.heap.size 5 1 (.slice ta t6.length tc) t6.length (il .u8 t6)) := Lib.hid (hw9 ▸ HK8.out.row_own _ (own_mono HOU8.out HB5.out.size) (by decide)); have HU9 : Hid (w9.ownsRow W.heap.size 5 1 (.slice ua t6.length uc) t6.length (il .u8 t6)) := Lib.hid (hw9 ▸ HK8.out.row_own _ HU8.out (by decide)); have HJ9 : Hid (JB w9 W.heap.size jb g6 (.slice ja h6.length jc) h6) := Lib.hid (hw9 ▸ ⟨(setRow_other w8 xb jb _ (fun e => absurd (HK8.out.symm.trans (e ▸ HJ8.out.blk)) (by simp))).trans HJ8.out.blk, HK8.out.row_own _ HJ8.out.row (by decide), HJ8.out.idle, HJ8.out.few, HJ8.out.low⟩); clear hw9))
          obtain ⟨s, hs⟩ : ∃ s, strOfNums t6 = s := ⟨_, rfl⟩
          have HSS := Lib.hid hs
          clear hs
          refine wp_region_held_drew (S := (fun w' => Below w9.heap.size w9 w')) (by kernel_rfl) ((Below.refl w9.heap.size w9).drew) (fun hS => ?_)
          refine wpAnyH_take (i := 0) (oi := ({ dst := some 51, op := Op.move (Operand.tmp 6), type := 26, pos := "law.go:28", after := #[], guard := none } : Oper)) (v := ?_) rfl (by kernel_rfl) (by kernel_rfl) (by kernel_rfl) (fun _ _ _ h => h) (Or.inl ⟨by rfl, ?_⟩) hS ?_
          rotate_left
          · (intro w hSw; (try dsimp only at hSw); go_simp; try with_reducible rfl)
          (try simp only [Act.put, List.setIfInBounds_toArray, List.set_cons_zero, List.set_cons_succ])
          refine wpAnyH_take (i := 1) (oi := ({ dst := some 52, op := Op.convert 26 9 (Operand.tmp 51), type := 9, pos := "law.go:28", after := #[{ on := 0, ground := Ground.data }], guard := none } : Oper)) (v := .string s) rfl (by kernel_rfl) (by kernel_rfl) (by kernel_rfl) (fun _ _ _ h => h) (Or.inl ⟨by rfl, ?_⟩) hS ?_
          · (intro w hSw; (try dsimp only at hSw); have z := conv_ri (RI.keep hSw (RI.own HU9.out)); rw [HSS.out] at z; go_simp; try with_reducible rfl)
          (try simp only [Act.put, List.setIfInBounds_toArray, List.set_cons_zero, List.set_cons_succ])
          refine wpAnyH_take (i := 2) (oi := ({ dst := some 53, op := Op.move (Operand.tmp 10), type := 26, pos := "law.go:28", after := #[], guard := none } : Oper)) (v := ?_) rfl (by kernel_rfl) (by kernel_rfl) (by kernel_rfl) (fun _ _ _ h => h) (Or.inl ⟨by rfl, ?_⟩) hS ?_
          rotate_left
          · (intro w hSw; (try dsimp only at hSw); go_simp; try with_reducible rfl)
          (try simp only [Act.put, List.setIfInBounds_toArray, List.set_cons_zero, List.set_cons_succ])
          refine wpAnyH_take (i := 3) (oi := ({ dst := some 54, op := Op.convert 26 9 (Operand.tmp 53), type := 9, pos := "law.go:28", after := #[{ on := 2, ground := Ground.data }], guard := none } : Oper)) (v := .string s) rfl (by kernel_rfl) (by kernel_rfl) (by kernel_rfl) (fun _ _ _ h => h) (Or.inl ⟨by rfl, ?_⟩) hS ?_
          · (intro w hSw; (try dsimp only at hSw); have z := conv_ri (RI.keep hSw (RI.own HOU9.out)); rw [HSS.out] at z; go_simp; try with_reducible rfl)
          (try simp only [Act.put, List.setIfInBounds_toArray, List.set_cons_zero, List.set_cons_succ])
          refine wpAnyH_take (i := 4) (oi := ({ dst := some 55, op := Op.binOp BinOp.neq 9 (Operand.tmp 52) (Operand.tmp 54) 9, type := 4, pos := "law.go:28", after := #[{ on := 1, ground := Ground.data }, { on := 3, ground := Ground.data }], guard := none } : Oper)) (v := .bool false) rfl (by kernel_rfl) (by kernel_rfl) (by kernel_rfl) (fun _ _ _ h => h) (Or.inl ⟨by rfl, ?_⟩) hS ?_
          · (intro w hSw; (try dsimp only at hSw); go_simp)
          (try simp only [Act.put, List.setIfInBounds_toArray, List.set_cons_zero, List.set_cons_succ])
          refine wpAnyH_take (i := 5) (oi := ({ dst := some 56, op := Op.move (Operand.tmp 55), type := 4, pos := "law.go:28", after := #[{ on := 4, ground := Ground.data }], guard := none } : Oper)) (v := ?_) rfl (by kernel_rfl) (by kernel_rfl) (by kernel_rfl) (fun _ _ _ h => h) (Or.inl ⟨by rfl, ?_⟩) hS ?_
          rotate_left
          · (intro w hSw; (try dsimp only at hSw); go_simp; try with_reducible rfl)
          (try simp only [Act.put, List.setIfInBounds_toArray, List.set_cons_zero, List.set_cons_succ])
          refine wpAnyH_take (i := 6) (oi := ({ dst := some 57, op := Op.move (Operand.tmp 7), type := 4, pos := "law.go:28", after := #[{ on := 5, ground := Ground.guard }], guard := some (5, false) } : Oper)) (v := ?_) rfl (by kernel_rfl) (by kernel_rfl) (by kernel_rfl) (fun _ _ _ h => h) (Or.inl ⟨by rfl, ?_⟩) hS ?_
          rotate_left
          · (intro w hSw; (try dsimp only at hSw); go_simp; try with_reducible rfl)
          (try simp only [Act.put, List.setIfInBounds_toArray, List.set_cons_zero, List.set_cons_succ])
          refine wpAnyH_take (i := 7) (oi := ({ dst := some 58, op := Op.move (Operand.tmp 11), type := 4, pos := "law.go:28", after := #[{ on := 5, ground := Ground.guard }], guard := some (5, false) } : Oper)) (v := ?_) rfl (by kernel_rfl) (by kernel_rfl) (by kernel_rfl) (fun _ _ _ h => h) (Or.inl ⟨by rfl, ?_⟩) hS ?_
          rotate_left
          · (intro w hSw; (try dsimp only at hSw); go_simp; try with_reducible rfl)
          (try simp only [Act.put, List.setIfInBounds_toArray, List.set_cons_zero, List.set_cons_succ])
          refine wpAnyH_take (i := 8) (oi := ({ dst := some 59, op := Op.binOp BinOp.neq 4 (Operand.tmp 57) (Operand.tmp 58) 4, type := 4, pos := "law.go:28", after := #[{ on := 6, ground := Ground.data }, { on := 7, ground := Ground.data }, { on := 5, ground := Ground.guard }], guard := some (5, false) } : Oper)) (v := .bool false) rfl (by kernel_rfl) (by kernel_rfl) (by kernel_rfl) (fun _ _ _ h => h) (Or.inl ⟨by rfl, ?_⟩) hS ?_
          · (intro w hSw; (try dsimp only at hSw); go_simp)
          (try simp only [Act.put, List.setIfInBounds_toArray, List.set_cons_zero, List.set_cons_succ])
          refine wpAnyH_take (i := 9) (oi := ({ dst := some 60, op := Op.pick (Operand.tmp 56) (Operand.const (Value.bool true)) (Operand.tmp 59), type := 4, pos := "law.go:28", after := #[{ on := 5, ground := Ground.data }, { on := 8, ground := Ground.data }], guard := none } : Oper)) (v := ?_) rfl (by kernel_rfl) (by kernel_rfl) (by kernel_rfl) (fun _ _ _ h => h) (Or.inl ⟨by rfl, ?_⟩) hS ?_
          rotate_left
          · (intro w hSw; (try dsimp only at hSw); go_simp; try with_reducible rfl)
          (try simp only [Act.put, List.setIfInBounds_toArray, List.set_cons_zero, List.set_cons_succ])
          refine wpAnyH_take (i := 10) (oi := ({ dst := some 61, op := Op.move (Operand.tmp 60), type := 4, pos := "law.go:28", after := #[{ on := 9, ground := Ground.data }, { on := 5, ground := Ground.chain }], guard := none } : Oper)) (v := ?_) rfl (by kernel_rfl) (by kernel_rfl) (by kernel_rfl) (fun _ _ _ h => h) (Or.inl ⟨by rfl, ?_⟩) hS ?_
          rotate_left
          · (intro w hSw; (try dsimp only at hSw); go_simp; try with_reducible rfl)
          (try simp only [Act.put, List.setIfInBounds_toArray, List.set_cons_zero, List.set_cons_succ])
          refine wpAnyH_take (i := 11) (oi := ({ dst := some 62, op := Op.move (Operand.tmp 8), type := 29, pos := "law.go:28", after := #[{ on := 10, ground := Ground.guard }], guard := some (10, false) } : Oper)) (v := ?_) rfl (by kernel_rfl) (by kernel_rfl) (by kernel_rfl) (fun _ _ _ h => h) (Or.inl ⟨by rfl, ?_⟩) hS ?_
          rotate_left
          · (intro w hSw; (try dsimp only at hSw); go_simp; try with_reducible rfl)
          (try simp only [Act.put, List.setIfInBounds_toArray, List.set_cons_zero, List.set_cons_succ])
          refine wpAnyH_take (i := 12) (oi := ({ dst := some 63, op := Op.move (Operand.tmp 12), type := 29, pos := "law.go:28", after := #[{ on := 10, ground := Ground.guard }], guard := some (10, false) } : Oper)) (v := ?_) rfl (by kernel_rfl) (by kernel_rfl) (by kernel_rfl) (fun _ _ _ h => h) (Or.inl ⟨by rfl, ?_⟩) hS ?_
          rotate_left
          · (intro w hSw; (try dsimp only at hSw); go_simp; try with_reducible rfl)
          (try simp only [Act.put, List.setIfInBounds_toArray, List.set_cons_zero, List.set_cons_succ])
          refine wpAnyH_take (i := 13) (oi := ({ dst := some 64, op := Op.binOp BinOp.neq 29 (Operand.tmp 62) (Operand.tmp 63) 29, type := 4, pos := "law.go:28", after := #[{ on := 11, ground := Ground.data }, { on := 12, ground := Ground.data }, { on := 10, ground := Ground.guard }], guard := some (10, false) } : Oper)) (v := .bool false) rfl (by kernel_rfl) (by kernel_rfl) (by kernel_rfl) (fun _ _ _ h => h) (Or.inl ⟨by rfl, ?_⟩) hS ?_
          · (intro w hSw; (try dsimp only at hSw); go_simp)
          (try simp only [Act.put, List.setIfInBounds_toArray, List.set_cons_zero, List.set_cons_succ])
          refine wpAnyH_take (i := 14) (oi := ({ dst := some 65, op := Op.pick (Operand.tmp 61) (Operand.const (Value.bool true)) (Operand.tmp 64), type := 4, pos := "law.go:28", after := #[{ on := 10, ground := Ground.data }, { on := 13, ground := Ground.data }], guard := none } : Oper)) (v := ?_) rfl (by kernel_rfl) (by kernel_rfl) (by kernel_rfl) (fun _ _ _ h => h) (Or.inl ⟨by rfl, ?_⟩) hS ?_
          rotate_left
          · (intro w hSw; (try dsimp only at hSw); go_simp; try with_reducible rfl)
          (try simp only [Act.put, List.setIfInBounds_toArray, List.set_cons_zero, List.set_cons_succ])
          refine wpAnyH_take (i := 15) (oi := ({ dst := some 66, op := Op.move (Operand.tmp 65), type := 4, pos := "law.go:28", after := #[{ on := 14, ground := Ground.data }, { on := 10, ground := Ground.chain }], guard := none } : Oper)) (v := ?_) rfl (by kernel_rfl) (by kernel_rfl) (by kernel_rfl) (fun _ _ _ h => h) (Or.inl ⟨by rfl, ?_⟩) hS ?_
          rotate_left
          · (intro w hSw; (try dsimp only at hSw); go_simp; try with_reducible rfl)
          (try simp only [Act.put, List.setIfInBounds_toArray, List.set_cons_zero, List.set_cons_succ])
          refine wpAnyH_take (i := 16) (oi := ({ dst := some 67, op := Op.move (Operand.tmp 3), type := 24, pos := "law.go:28", after := #[{ on := 15, ground := Ground.guard }], guard := some (15, false) } : Oper)) (v := ?_) rfl (by kernel_rfl) (by kernel_rfl) (by kernel_rfl) (fun _ _ _ h => h) (Or.inl ⟨by rfl, ?_⟩) hS ?_
          rotate_left
          · (intro w hSw; (try dsimp only at hSw); go_simp; try with_reducible rfl)
          (try simp only [Act.put, List.setIfInBounds_toArray, List.set_cons_zero, List.set_cons_succ])
          refine wpAnyH_take (i := 18) (oi := ({ dst := some 69, op := Op.fieldAddr 28 (Operand.tmp 4) 0, type := 0, pos := "law.go:28", after := #[{ on := 15, ground := Ground.guard }], guard := some (15, false) } : Oper)) (v := ?_) rfl (by kernel_rfl) (by kernel_rfl) (by kernel_rfl) (fun _ _ _ h => h) (Or.inl ⟨by rfl, ?_⟩) hS ?_
          rotate_left
          · (intro w hSw; (try dsimp only at hSw); go_simp; try with_reducible rfl)
          (try simp only [Act.put, List.setIfInBounds_toArray, List.set_cons_zero, List.set_cons_succ])
          refine wpAnyH_take (i := 19) (oi := ({ dst := some 70, op := Op.load 4 (Operand.tmp 69), type := 4, pos := "law.go:28", after := #[{ on := 18, ground := Ground.data }, { on := 15, ground := Ground.guard }], guard := some (15, false) } : Oper)) (v := .bool g6) rfl (by kernel_rfl) (by kernel_rfl) (by kernel_rfl) (fun _ _ _ h => h) (Or.inl ⟨by rfl, ?_⟩) hS ?_
          · (intro w hSw; (try dsimp only at hSw); have z := (HK9.out.keep hSw).cells.1; go_simp)
          (try simp only [Act.put, List.setIfInBounds_toArray, List.set_cons_zero, List.set_cons_succ])
          refine rg_one 17 ({ dst := some 68, op := Op.call { callee := Callee.value (Operand.func 10), args := #[Operand.tmp 67], argTypes := #[24] }, type := 4, pos := "law.go:28", after := #[{ on := 16, ground := Ground.data }, { on := 15, ground := Ground.chain }, { on := 15, ground := Ground.guard }], guard := some (15, false) } : Oper) (by kernel_rfl) rfl (fun K hK => ?_)
          go_simp
          (go_at_call 10; (with_reducible refine (idle_any g6 (.slice ja h6.length jc) jb _ (HJ9.out.blk.keep hS)).mono ?_); rintro e w6 ⟨rfl, rfl⟩)
          refine hK.out _ _ ?_ (fun hS1 => ?_)
          · (exact hS)
          clear hK K hS; have hS := hS1; clear hS1
          (try simp only [Act.put, List.setIfInBounds_toArray, List.set_cons_zero, List.set_cons_succ])
          refine wpAnyH_take (i := 20) (oi := ({ dst := some 71, op := Op.binOp BinOp.eql 4 (Operand.tmp 68) (Operand.tmp 70) 4, type := 4, pos := "law.go:28", after := #[{ on := 17, ground := Ground.data }, { on := 19, ground := Ground.data }, { on := 15, ground := Ground.guard }], guard := some (15, false) } : Oper)) (v := .bool false) rfl (by kernel_rfl) (by kernel_rfl) (by kernel_rfl) (fun _ _ _ h => h) (Or.inl ⟨by rfl, ?_⟩) hS ?_
          · (intro w hSw; (try dsimp only at hSw); (cases g6 <;> go_simp))
          (try simp only [Act.put, List.setIfInBounds_toArray, List.set_cons_zero, List.set_cons_succ])
          refine wpAnyH_take (i := 21) (oi := ({ dst := some 72, op := Op.pick (Operand.tmp 66) (Operand.const (Value.bool true)) (Operand.tmp 71), type := 4, pos := "law.go:28", after := #[{ on := 15, ground := Ground.data }, { on := 20, ground := Ground.data }], guard := none } : Oper)) (v := ?_) rfl (by kernel_rfl) (by kernel_rfl) (by kernel_rfl) (fun _ _ _ h => h) (Or.inl ⟨by rfl, ?_⟩) hS ?_
          rotate_left
          · (intro w hSw; (try dsimp only at hSw); go_simp; try with_reducible rfl)
          (try simp only [Act.put, List.setIfInBounds_toArray, List.set_cons_zero, List.set_cons_succ])
          refine wpAnyH_done (by kernel_rfl) ?_ _
          have HBA := Lib.hid (bch HB9.out hS)
          have HKA := Lib.hid (HK9.out.keep hS)
          have HJA := Lib.hid (HJ9.out.keep hS)
          have HOA := Lib.hid (own_keep HOH9.out hS)
          clear hS
          go_wp2
          go_roundw
          case rel => exact ⟨i + 1, g6, ja, jc, h6, qa, qc, by go_num, by omega, HJA, HKA, HOA, HAP, HBA⟩
          case measure => simp [intOf]; omega
      · obtain rfl : i = n := by omega
        go_wp2_with (first
          | (go_at_call 8; (with_reducible refine (feed_nil _ _ _ _).mono ?_); rintro e w5 ⟨rfl, hb⟩; have HB5 := Lib.hid (bch HB.out hb); clear hb)
          | (go_at_call 10; (with_reducible refine (idle_nil _).mono ?_); rintro e w6 ⟨rfl, rfl⟩)
          | (go_at_call 6; (with_reducible refine (awake_any _).mono ?_); rintro e w7 ⟨rfl, hb⟩; have HB7 := Lib.hid (bch HB5.out hb); clear hb))
        go_ret
        exact ⟨rfl, HB7.out⟩
end Go.Proofs.Ytbnedcghbdphlaa
