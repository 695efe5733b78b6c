/-
  WHAT Join OF THE REFERENCE OF LAYER 15 ANSWERS, of any fragments. Bytes must lie where the slices say; bounds on their numbers.
-/
import Derived.Test.YtbnedcghbdphlaaJoinRefF
import Derived.Test.YtbnedcghbdphlaaJoinList
namespace Go.Proofs.Ytbnedcghbdphlaa
open Go.RowKit
theorem drop_at' {α : Type} {l : List α} {i : Nat} {x : α} (h : l[i]? = some x) : l.drop i = x :: l.drop (i + 1) := by
  obtain ⟨hi, rfl⟩ := List.getElem?_eq_some_iff.1 h
  exact List.drop_eq_getElem_cons hi
section
variable {w : World} {b : Nat} {o' : Bool} {v : Value}
theorem exec_load_ko {o : Oper} {a : Act} (x : Operand) (ho : o.op = .load 28 x) (hx : a.eval x = .pointer (some ⟨b, 0, none⟩)) (h : KO w b o' v) :
    (execOp a.eval o).run Try.prog w = .ok (.value (.agg (kA o' v))) w := by
  unfold execOp
  simp only [ho, hx, Instr.loadAt, Instr.sureAddr, Sem.run_bind, Sem.run_pure, Result.andThen_ok, h.load]
theorem wpl_load_ko {ops : Array Oper} {rest : List Oper} {o : Oper} {a : Act} {Q : Exit → Act → World → Prop} (hgd : o.guard = none) (x : Operand) (ho : o.op = .load 28 x) (hx : a.eval x = .pointer (some ⟨b, 0, none⟩)) (h : KO w b o' v)
    (hk : wpList Try.prog ops Q rest (a.put o.dst (.agg (kA o' v))) w) : wpList Try.prog ops Q (o :: rest) a w :=
  wpList_load_row hgd 28 x ho b hx _ (kA o' v) (0, 0) _ h Try.underlying28 rfl (kj_info _ _) hk
theorem KO.alloc (w : World) : KO (w.alloc (.cells (kA o' v) 28)) w.heap.size o' v := heap_alloc_last w _
theorem KO.apart {b' : Nat} (h : KO w b o' v) (hne : b ≠ b') (x : Array Value) : KO (w.setRow b' x) b o' v := (setRow_other w b' b x hne).trans h
end
set_option maxRecDepth 8000 in
set_option maxHeartbeats 8000000 in
theorem rjoin_any (v : Value) (n : Nat) (es : List (FR × Value)) (w : World) (hif : IF w v n es) (hn : n ≤ 100000) (hsz : ∀ e ∈ es, (e.1.data.length : Int) ≤ 140737488351232) :
    Calls Try.prog 12 #[v] w fun e w' =>
      ∃ u rs, e = .returned (.tuple #[u, .int .i64 (jRun false [] [] (es.map Prod.fst)).2]) ∧ RW w.heap.size w' u rs.length rs (.slice none 0 0) ∧ rs.map Prod.fst = (jRun false [] [] (es.map Prod.fst)).1 ∧ Below w.heap.size w w' := by
  have HL := Lib.hid hif.len
  have HI := Lib.hid hif
  have HS := Lib.hid hsz
  obtain ⟨la, lc, rfl, _⟩ := hif.form
  obtain ⟨⟨R1, R2⟩, hR⟩ : ∃ R, jRun false [] [] (es.map Prod.fst) = R := ⟨_, rfl⟩
  rw [hR]
  have HRR := Lib.hid hR
  clear hif hR hsz
  go_enter Try.func12, Try.ntmps12
  go_wp2_with fail
  obtain ⟨w1, hw1⟩ : ∃ q, w.alloc (.cells (kA false (.slice none 0 0)) 28) = q := ⟨_, rfl⟩
  rw [hw1]
  obtain ⟨xb, hxb⟩ : ∃ q, w.heap.size = q := ⟨_, rfl⟩
  have HB1 : Hid (Below w.heap.size w w1) := Lib.hid (hw1 ▸ balloc w _)
  have HK1 : Hid (KO w1 xb false (.slice none 0 0)) := Lib.hid (by rw [← hw1, ← hxb]; exact KO.alloc w)
  have HXB := Lib.hid hxb
  rw [hxb]
  clear hw1 hxb
  go_loopw [4, 6] (fun rv iv wr => ∃ (i m : Nat) (va : Option Addr) (vc : Nat) (rs : List (List Int × Value)) (o : Bool) (ha : Option Addr) (hm hc : Nat) (h : List Int), iv = .int .i64 (i : Int) ∧ rv = .slice va m vc ∧ i ≤ n ∧ m ≤ i ∧ Hid (KO wr xb o (.slice ha hm hc)) ∧ Hid (wr.ownsRow w.heap.size 5 1 (.slice ha hm hc) h.length (il .u8 h)) ∧ Hid (h.length ≤ 512) ∧ Hid (RW w.heap.size wr (.slice va m vc) m rs (.slice none 0 0)) ∧ Hid (jRun o h (rs.map Prod.fst) ((es.map Prod.fst).drop i) = (R1, R2)) ∧ Hid (Below w.heap.size w wr)) (fun _ iv _ => n - (intOf iv).toNat)
  case atStart => exact ⟨0, 0, none, 0, [], false, none, 0, 0, [], rfl, rfl, by omega, by omega, HK1, Lib.hid (World.ownsRow_nil _ _ _ _), Lib.hid (by simp), Lib.hid (RW.nil _ _ _), Lib.hid HRR.out, HB1⟩
  case round =>
    obtain ⟨i, m, va, vc, rs, o, ha, hm, hc, h, rfl, rfl, hin, hmi, HK, HV, HF, HRW, HX, HB⟩ := hrel
    by_cases hlt : (i : Int) < (n : Int)
    · have hci : es[i]? = some (es[i]'(by have := HL.out; omega)) := List.getElem?_eq_getElem _
      obtain ⟨c, hcc⟩ : ∃ c, es[i]'(by have := HL.out; omega) = c := ⟨_, rfl⟩
      rw [hcc] at hci
      obtain ⟨b1, o1, rfl, r1⟩ := HI.out.at_ i c hci
      have HR1 := Lib.hid (el_keep HB.out r1)
      have hmem := List.mem_of_getElem? hci
      have hdt := HI.out.data c hmem
      have hds := HS.out c hmem
      have HX2 : Hid (jRun o h (rs.map Prod.fst) (c.1 :: (es.map Prod.fst).drop (i + 1)) = (R1, R2)) := Lib.hid (by rw [← drop_at' (by simp [hci])]; exact HX.out)
      obtain ⟨⟨k, ep, d⟩, dv⟩ := c
      simp only at hdt hds
      have HD := Lib.hid (hdt.keep HB.out)
      have HDS := Lib.hid hds
      obtain ⟨da, dc, rfl⟩ : ∃ a c, dv = .slice a d.length c := by obtain ⟨a, c, e, _⟩ := hdt; exact ⟨a, c, e⟩
      clear hci hcc r1 hdt hds hmem HX
      have h6le := jHad_le (o := o) (h := h) (k := k) (d := d)
      by_cases he : jErr o h k d = 0
      · have hJN := jRun_cons o h (rs.map Prod.fst) ⟨k, ep, d⟩ ((es.map Prod.fst).drop (i + 1)) he
        rw [HX2.out] at hJN
        simp only at hJN
        cases hen : jEnds o h k d with
        | true =>
          have HFD : Hid (∀ W5, Below wr.heap.size wr W5 → Calls Try.prog 9 #[.agg (kA o (.slice ha hm hc)), .agg (fA k ep (.slice da d.length dc))] W5 fun e w' =>
              ∃ u v', e = .returned (.tuple #[.agg (kA (jGoes o h k d) v'), u, .bool true, .int .i64 0]) ∧ w'.ownsRow W5.heap.size 5 1 v' (jHad o h k d).length (il .u8 (jHad o h k d)) ∧ w'.ownsRow W5.heap.size 5 1 u (jTell o h k d).length (il .u8 (jTell o h k d)) ∧ Below W5.heap.size W5 w') := Lib.hid fun W5 hb => by
            have z := rfeed_any o (.slice ha hm hc) h k ep (.slice da d.length dc) d.length d W5 (RI.own (own_keep HV.out hb)) HF.out (HD.out.keep hb) HDS.out
            rw [he, hen] at z
            exact z
          rw [hen, if_pos rfl] at hJN
          have HJN := Lib.hid hJN
          clear HX2 hJN he hen
          generalize jGoes o h k d = g6 at HFD HJN
          generalize jHad o h k d = h6 at HFD HJN h6le
          generalize jTell o h k d = t6 at HFD HJN
          have H6 := Lib.hid h6le
          clear h6le
          go_wp2_with fail
          refine wp_region_held_drew (S := (fun w' => Below wr.heap.size wr w')) (by kernel_rfl) ((Below.refl wr.heap.size wr).drew) (fun hS => ?_)
          refine wpAnyH_take (i := 0) (oi := ({ dst := some 19, op := Op.load 28 (Operand.tmp 5), type := 28, pos := "ref.go:32", after := #[], guard := none } : Oper)) (v := .agg (kA o (.slice ha hm hc))) rfl (by kernel_rfl) (by kernel_rfl) (by kernel_rfl) (fun _ _ _ h => h) (Or.inl ⟨by rfl, ?_⟩) hS ?_
          · (intro w hSw; (try dsimp only at hSw); exact exec_load_ko (.tmp 5) rfl rfl (HK.out.keep hSw))
          (try simp only [Act.put, List.setIfInBounds_toArray, List.set_cons_zero, List.set_cons_succ])
          refine wpAnyH_take (i := 1) (oi := ({ dst := some 20, op := Op.move (Operand.tmp 0), type := 22, pos := "ref.go:32", after := #[], guard := none } : Oper)) (v := ?_) rfl (by kernel_rfl) (by kernel_rfl) (by kernel_rfl) (fun _ _ _ h => h) (Or.inl ⟨by rfl, ?_⟩) hS ?_
          rotate_left
          · (intro w hSw; (try dsimp only at hSw); go_simp; try with_reducible rfl)
          (try simp only [Act.put, List.setIfInBounds_toArray, List.set_cons_zero, List.set_cons_succ])
          refine wpAnyH_take (i := 2) (oi := ({ dst := some 21, op := Op.move (Operand.tmp 6), type := 3, pos := "ref.go:32", after := #[], guard := none } : Oper)) (v := ?_) rfl (by kernel_rfl) (by kernel_rfl) (by kernel_rfl) (fun _ _ _ h => h) (Or.inl ⟨by rfl, ?_⟩) hS ?_
          rotate_left
          · (intro w hSw; (try dsimp only at hSw); go_simp; try with_reducible rfl)
          (try simp only [Act.put, List.setIfInBounds_toArray, List.set_cons_zero, List.set_cons_succ])
          refine wpAnyH_take (i := 3) (oi := ({ dst := some 22, op := Op.indexAddr 22 (Operand.tmp 20) (Operand.tmp 21), type := 0, pos := "ref.go:32", after := #[{ on := 1, ground := Ground.data }, { on := 2, ground := Ground.data }], guard := none } : Oper)) (v := ?_) rfl (by kernel_rfl) (by kernel_rfl) (by kernel_rfl) (fun _ _ _ h => h) (Or.inl ⟨by rfl, ?_⟩) hS ?_
          rotate_left
          · (intro w hSw; (try dsimp only at hSw); go_simp; try with_reducible rfl)
          (try simp only [Act.put, List.setIfInBounds_toArray, List.set_cons_zero, List.set_cons_succ])
          refine wpAnyH_take (i := 4) (oi := ({ dst := some 23, op := Op.load 34 (Operand.tmp 22), type := 34, pos := "ref.go:32", after := #[{ on := 3, ground := Ground.data }], guard := none } : Oper)) (v := .agg (fA k ep (.slice da d.length dc))) rfl (by kernel_rfl) (by kernel_rfl) (by kernel_rfl) (fun _ _ _ h => h) (Or.inl ⟨by rfl, ?_⟩) hS ?_
          · (intro w hSw; (try dsimp only at hSw); exact exec_load_el (e := (⟨k, ep, d⟩, .slice da d.length dc)) (.tmp 22) rfl rfl (el_keep hSw HR1.out))
          (try simp only [Act.put, List.setIfInBounds_toArray, List.set_cons_zero, List.set_cons_succ])
          refine rg_both 5 11 ({ dst := some 24, op := Op.call { callee := Callee.value (Operand.func 9), args := #[Operand.tmp 19, Operand.tmp 23], argTypes := #[28, 34] }, type := 35, pos := "ref.go:32", after := #[{ on := 0, ground := Ground.data }, { on := 4, ground := Ground.data }], guard := none } : Oper) ({ dst := some 7, op := Op.alloc 28, type := 0, pos := "ref.go:32", after := #[], guard := none } : Oper) (by kernel_rfl) rfl rfl (fun K hK => ?_) (fun K hK => ?_)
          · skip
            go_simp
            (go_at_call 9; (with_reducible refine (HFD.out _ hS).mono ?_); rintro e w6 ⟨u, v6, rfl, oh6, ou6, hb6⟩; obtain ⟨ua, uc, rfl⟩ := own_form ou6; obtain ⟨qa, qc, rfl⟩ := own_form oh6; have HOH := Lib.hid (own_mono oh6 (bch HB.out hS).size); have HOU := Lib.hid (own_mono ou6 (bch HB.out hS).size); (try clear hN); have hN := hS.trans (hb6.mono hS.size); clear oh6 ou6 hb6)
            refine hK.out _ _ ?_ (fun hS1 => ?_)
            · (first | exact hN | exact hS)
            clear hK K hS; have hS := hS1; clear hS1
            (try simp only [Act.put, List.setIfInBounds_toArray, List.set_cons_zero, List.set_cons_succ])
            refine wpAnyH_take (i := 6) (oi := ({ dst := some 18, op := Op.move (Operand.tmp 24), type := 35, pos := "ref.go:32", after := #[{ on := 5, ground := Ground.data }], guard := none } : Oper)) (v := ?_) rfl (by kernel_rfl) (by kernel_rfl) (by kernel_rfl) (fun _ _ _ h => h) (Or.inl ⟨by rfl, ?_⟩) hS ?_
            rotate_left
            · (intro w hSw; (try dsimp only at hSw); go_simp; try with_reducible rfl)
            (try simp only [Act.put, List.setIfInBounds_toArray, List.set_cons_zero, List.set_cons_succ])
            refine wpAnyH_take (i := 7) (oi := ({ dst := some 25, op := Op.extract (Operand.tmp 18) 0, type := 28, pos := "ref.go:32", after := #[{ on := 6, ground := Ground.data }], guard := none } : Oper)) (v := ?_) rfl (by kernel_rfl) (by kernel_rfl) (by kernel_rfl) (fun _ _ _ h => h) (Or.inl ⟨by rfl, ?_⟩) hS ?_
            rotate_left
            · (intro w hSw; (try dsimp only at hSw); go_simp; try with_reducible rfl)
            (try simp only [Act.put, List.setIfInBounds_toArray, List.set_cons_zero, List.set_cons_succ])
            refine wpAnyH_take (i := 8) (oi := ({ dst := some 26, op := Op.extract (Operand.tmp 18) 1, type := 26, pos := "ref.go:32", after := #[{ on := 6, ground := Ground.data }, { on := 12, ground := Ground.gcOnly Departure.lateStores }], guard := none } : Oper)) (v := ?_) rfl (by kernel_rfl) (by kernel_rfl) (by kernel_rfl) (fun _ _ _ h => h) (Or.inl ⟨by rfl, ?_⟩) hS ?_
            rotate_left
            · (intro w hSw; (try dsimp only at hSw); go_simp; try with_reducible rfl)
            (try simp only [Act.put, List.setIfInBounds_toArray, List.set_cons_zero, List.set_cons_succ])
            refine wpAnyH_take (i := 9) (oi := ({ dst := some 27, op := Op.extract (Operand.tmp 18) 2, type := 4, pos := "ref.go:32", after := #[{ on := 6, ground := Ground.data }, { on := 13, ground := Ground.gcOnly Departure.lateStores }], guard := none } : Oper)) (v := ?_) rfl (by kernel_rfl) (by kernel_rfl) (by kernel_rfl) (fun _ _ _ h => h) (Or.inl ⟨by rfl, ?_⟩) hS ?_
            rotate_left
            · (intro w hSw; (try dsimp only at hSw); go_simp; try with_reducible rfl)
            (try simp only [Act.put, List.setIfInBounds_toArray, List.set_cons_zero, List.set_cons_succ])
            refine wpAnyH_take (i := 10) (oi := ({ dst := some 28, op := Op.extract (Operand.tmp 18) 3, type := 29, pos := "ref.go:32", after := #[{ on := 6, ground := Ground.data }, { on := 14, ground := Ground.gcOnly Departure.lateStores }], guard := none } : Oper)) (v := ?_) rfl (by kernel_rfl) (by kernel_rfl) (by kernel_rfl) (fun _ _ _ h => h) (Or.inl ⟨by rfl, ?_⟩) hS ?_
            rotate_left
            · (intro w hSw; (try dsimp only at hSw); go_simp; try with_reducible rfl)
            (try simp only [Act.put, List.setIfInBounds_toArray, List.set_cons_zero, List.set_cons_succ])
            refine rg_one 11 ({ dst := some 7, op := Op.alloc 28, type := 0, pos := "ref.go:32", after := #[], guard := none } : Oper) (by kernel_rfl) rfl (fun K hK => ?_)
            go_simp
            (obtain ⟨w7, hw7⟩ : ∃ q, (World.alloc w6 (.cells (kA false (.slice none 0 0)) 28)) = q := ⟨_, rfl⟩; have hb7 : Below (World.heap w6).size w6 w7 := (by rw [← hw7]; exact balloc _ _); have HG : Hid (KO w7 (World.heap w6).size false (.slice none 0 0)) := Lib.hid (by rw [← hw7]; exact KO.alloc w6); rw [hw7]; have HGE : Hid (wr.heap.size ≤ (World.heap w6).size) := Lib.hid (hS.size); have HOH := Lib.hid (own_keep HOH.out hb7); have HOU := Lib.hid (own_keep HOU.out hb7); (try clear hN); have hN := hS.trans (hb7.mono hS.size); clear hb7 hw7)
            refine hK.out _ _ ?_ (fun hS1 => ?_)
            · (first | exact hN | exact hS)
            clear hK K hS; have hS := hS1; clear hS1
            (try simp only [Act.put, List.setIfInBounds_toArray, List.set_cons_zero, List.set_cons_succ])
            refine rg_one 12 ({ dst := none, op := Op.store 28 (Operand.tmp 7) (Operand.tmp 25), type := 0, pos := "ref.go:32", after := #[{ on := 11, ground := Ground.data }, { on := 7, ground := Ground.data }, { on := 5, ground := Ground.chain }, { on := 0, ground := Ground.phase }, { on := 1, ground := Ground.phase }, { on := 2, ground := Ground.phase }, { on := 3, ground := Ground.phase }, { on := 4, ground := Ground.phase }, { on := 5, ground := Ground.phase }, { on := 6, ground := Ground.phase }, { on := 7, ground := Ground.phase }, { on := 8, ground := Ground.textOnly Departure.lateStores }, { on := 9, ground := Ground.textOnly Departure.lateStores }, { on := 10, ground := Ground.textOnly Departure.lateStores }, { on := 11, ground := Ground.phase }], guard := none } : Oper) (by kernel_rfl) rfl (fun K hK => ?_)
            rw [if_pos (by rfl)]; refine wp_store_row 28 (.tmp 7) (.tmp 25) rfl (World.heap w6).size (kA g6 (.slice qa h6.length qc)) rfl rfl _ _ HG.out (kj_info _ _) rfl (kj_one _ _ _ _) ?_; have hgo := HG.out.row g6 (.slice qa h6.length qc); have hoh := HG.out.row_own (kA g6 (.slice qa h6.length qc)) HOH.out (by decide); have hou := HG.out.row_own (kA g6 (.slice qa h6.length qc)) HOU.out (by decide); have hbo := brow hS (b := (World.heap w6).size) HGE.out (Nat.le_refl _) (kA g6 (.slice qa h6.length qc)); obtain ⟨w8, hw8⟩ : ∃ q, World.setRow w7 (World.heap w6).size (kA g6 (.slice qa h6.length qc)) = q := ⟨_, rfl⟩; rw [hw8] at hgo hbo hoh hou; rw [hw8]; obtain ⟨g, hgn⟩ : ∃ q, (World.heap w6).size = q := ⟨_, rfl⟩; have hge := Nat.le_trans HGE.out (Nat.le_of_eq hgn); rw [hgn] at hgo; rw [hgn]; have HG8 := Lib.hid hgo; have HGL := Lib.hid hge; have HOH8 := Lib.hid hoh; have HOU8 := Lib.hid hou; clear hgo hge hoh hou; (try clear hN); have hN := hbo; clear hbo
            refine hK.out _ _ ?_ (fun hS1 => ?_)
            · (first | exact hN | exact hS)
            clear hK K hS; have hS := hS1; clear hS1
            (try simp only [Act.put])
            refine wpAnyH_take (i := 13) (oi := ({ dst := some 8, op := Op.assign (Operand.tmp 26), type := 26, pos := "ref.go:32", after := #[{ on := 8, ground := Ground.data }, { on := 12, ground := Ground.chain }, { on := 0, ground := Ground.phase }, { on := 1, ground := Ground.phase }, { on := 2, ground := Ground.phase }, { on := 3, ground := Ground.phase }, { on := 4, ground := Ground.phase }, { on := 5, ground := Ground.phase }, { on := 6, ground := Ground.phase }, { on := 7, ground := Ground.phase }, { on := 8, ground := Ground.phase }, { on := 9, ground := Ground.textOnly Departure.lateStores }, { on := 10, ground := Ground.textOnly Departure.lateStores }, { on := 11, ground := Ground.phase }, { on := 12, ground := Ground.phase }], guard := none } : Oper)) (v := ?_) rfl (by kernel_rfl) (by kernel_rfl) (by kernel_rfl) (fun _ _ _ h => h) (Or.inl ⟨by rfl, ?_⟩) hS ?_
            rotate_left
            · (intro w hSw; (try dsimp only at hSw); go_simp; try with_reducible rfl)
            (try simp only [Act.put, List.setIfInBounds_toArray, List.set_cons_zero, List.set_cons_succ])
            refine wpAnyH_take (i := 14) (oi := ({ dst := some 9, op := Op.assign (Operand.tmp 27), type := 4, pos := "ref.go:32", after := #[{ on := 9, ground := Ground.data }, { on := 13, ground := Ground.chain }, { on := 0, ground := Ground.phase }, { on := 1, ground := Ground.phase }, { on := 2, ground := Ground.phase }, { on := 3, ground := Ground.phase }, { on := 4, ground := Ground.phase }, { on := 5, ground := Ground.phase }, { on := 6, ground := Ground.phase }, { on := 7, ground := Ground.phase }, { on := 8, ground := Ground.phase }, { on := 9, ground := Ground.phase }, { on := 10, ground := Ground.textOnly Departure.lateStores }, { on := 11, ground := Ground.phase }, { on := 12, ground := Ground.phase }, { on := 13, ground := Ground.phase }], guard := none } : Oper)) (v := ?_) rfl (by kernel_rfl) (by kernel_rfl) (by kernel_rfl) (fun _ _ _ h => h) (Or.inl ⟨by rfl, ?_⟩) hS ?_
            rotate_left
            · (intro w hSw; (try dsimp only at hSw); go_simp; try with_reducible rfl)
            (try simp only [Act.put, List.setIfInBounds_toArray, List.set_cons_zero, List.set_cons_succ])
            refine wpAnyH_take (i := 15) (oi := ({ dst := some 10, op := Op.assign (Operand.tmp 28), type := 29, pos := "ref.go:32", after := #[{ on := 10, ground := Ground.data }, { on := 14, ground := Ground.chain }, { on := 0, ground := Ground.phase }, { on := 1, ground := Ground.phase }, { on := 2, ground := Ground.phase }, { on := 3, ground := Ground.phase }, { on := 4, ground := Ground.phase }, { on := 5, ground := Ground.phase }, { on := 6, ground := Ground.phase }, { on := 7, ground := Ground.phase }, { on := 8, ground := Ground.phase }, { on := 9, ground := Ground.phase }, { on := 10, ground := Ground.phase }, { on := 11, ground := Ground.phase }, { on := 12, ground := Ground.phase }, { on := 13, ground := Ground.phase }, { on := 14, ground := Ground.phase }], guard := none } : Oper)) (v := ?_) rfl (by kernel_rfl) (by kernel_rfl) (by kernel_rfl) (fun _ _ _ h => h) (Or.inl ⟨by rfl, ?_⟩) hS ?_
            rotate_left
            · (intro w hSw; (try dsimp only at hSw); go_simp; try with_reducible rfl)
            (try simp only [Act.put, List.setIfInBounds_toArray, List.set_cons_zero, List.set_cons_succ])
            refine wpAnyH_done (by kernel_rfl) ?_ _
            have HB8 := Lib.hid (bch HB.out hS)
            have HK8 := Lib.hid (HK.out.keep hS)
            have HRW8 := Lib.hid (HRW.out.keep hS)
            clear hS hN HG HGE HOH HOU
            go_wp2_with (first
              | (refine wpl_load_ko rfl (.tmp 7) rfl rfl HG8.out ?_)
              | (refine wpList_store_row rfl 28 _ _ rfl xb (kA g6 (.slice qa h6.length qc)) rfl rfl _ _ HK8.out (kj_info _ _) rfl (kj_one _ _ _ _) ?_; obtain ⟨w9, hw9⟩ : ∃ q, World.setRow w8 xb (kA g6 (.slice qa h6.length qc)) = q := ⟨_, rfl⟩; rw [hw9]; have HB9 : Hid (Below w.heap.size w w9) := Lib.hid (hw9 ▸ brow HB8.out (Nat.le_of_eq HXB.out) (Nat.le_refl _) _); have HK9 : Hid (KO w9 xb g6 (.slice qa h6.length qc)) := Lib.hid (hw9 ▸ HK8.out.row _ _); have HOH9 : Hid (w9.ownsRow w.heap.size 5 1 (.slice qa h6.length qc) h6.length (il .u8 h6)) := Lib.hid (hw9 ▸ HK8.out.row_own _ HOH8.out (by decide)); have HOU9 : Hid (w9.ownsRow w.heap.size 5 1 (.slice ua t6.length uc) t6.length (il .u8 t6)) := Lib.hid (hw9 ▸ HK8.out.row_own _ HOU8.out (by decide)); have HRW9 : Hid (RW w.heap.size w9 (.slice va m vc) m rs (.slice none 0 0)) := Lib.hid (hw9 ▸ ⟨HK8.out.row_own _ HRW8.out.row (by decide), fun e he => HK8.out.row_own _ (HRW8.out.data e he) (by decide), HRW8.out.apart⟩); clear hw9)
              | (at_builtin; go_loud (refine wpl_app_rw rfl (.tmp 34) (.tmp 36) rfl rfl (HRW9.out.keep (balloc w9 _)) w9.heap.size (t6, .slice ua t6.length uc) rfl (heap_alloc_last w9 _) (own_keep HOU9.out (balloc w9 _)) (fun g _ => by simp [Value.ownBlock]) (by omega) (bch HB9.out (balloc w9 _)).size ?_); intro v10 w10 HRWA HGA; have HBA := Lib.hid ((bch HB9.out (balloc w9 _)).grown HGA.out (bch HB9.out (balloc w9 _)).size (fun q hq => (HRW9.out.row.lt q hq).1)); have HRWP := HRW9.out.keep (balloc w9 (.cells #[.slice ua t6.length uc] 26)); have HKA : Hid (KO w10 xb g6 (.slice qa h6.length qc)) := Lib.hid (HRWP.blk HGA.out (HK9.out.keep (balloc w9 _)) (by decide)); have HOHA := Lib.hid (HRWP.other HGA.out (own_keep HOH9.out (balloc w9 _)) (by decide)); clear HRWP; obtain ⟨a10, c10, rfl⟩ := own_form HRWA.out.row))
            go_roundw
            case rel => exact ⟨i + 1, m + 1, a10, c10, _, g6, qa, h6.length, qc, h6, by go_num, rfl, by omega, by omega, HKA, HOHA, H6, HRWA, Lib.hid (by rw [List.map_append]; exact HJN.out.symm), HBA⟩
            case measure => simp [intOf]; omega
          · skip
            go_simp
            (obtain ⟨w7, hw7⟩ : ∃ q, ((World.alloc wr (.cells (kA false (.slice none 0 0)) 28))).drew = q := ⟨_, rfl⟩; have hb7 : Below wr.heap.size wr w7 := (by rw [← hw7]; exact bdrew0 _ _); have HG : Hid (KO w7 wr.heap.size false (.slice none 0 0)) := Lib.hid (by rw [← hw7]; exact KO.alloc wr); rw [hw7]; have HGE : Hid (wr.heap.size ≤ wr.heap.size) := Lib.hid (Nat.le_refl _); (try clear hN); have hN := hb7; clear hb7 hw7)
            refine hK.out _ _ ?_ (fun hS1 => ?_)
            · (first | exact hN | exact hS)
            clear hK K hS; have hS := hS1; clear hS1
            (try simp only [Act.put, List.setIfInBounds_toArray, List.set_cons_zero, List.set_cons_succ])
            refine rg_one 5 ({ dst := some 24, op := Op.call { callee := Callee.value (Operand.func 9), args := #[Operand.tmp 19, Operand.tmp 23], argTypes := #[28, 34] }, type := 35, pos := "ref.go:32", after := #[{ on := 0, ground := Ground.data }, { on := 4, ground := Ground.data }], guard := none } : Oper) (by kernel_rfl) rfl (fun K hK => ?_)
            go_simp
            (go_at_call 9; (with_reducible refine (HFD.out _ hS).mono ?_); rintro e w6 ⟨u, v6, rfl, oh6, ou6, hb6⟩; obtain ⟨ua, uc, rfl⟩ := own_form ou6; obtain ⟨qa, qc, rfl⟩ := own_form oh6; have HOH := Lib.hid (own_mono oh6 (bch HB.out hS).size); have HOU := Lib.hid (own_mono ou6 (bch HB.out hS).size); have HG := Lib.hid (HG.out.keep hb6); (try clear hN); have hN := hS.trans (hb6.mono hS.size); clear oh6 ou6 hb6)
            refine hK.out _ _ ?_ (fun hS1 => ?_)
            · (first | exact hN | exact hS)
            clear hK K hS; have hS := hS1; clear hS1
            (try simp only [Act.put, List.setIfInBounds_toArray, List.set_cons_zero, List.set_cons_succ])
            refine wpAnyH_take (i := 6) (oi := ({ dst := some 18, op := Op.move (Operand.tmp 24), type := 35, pos := "ref.go:32", after := #[{ on := 5, ground := Ground.data }], guard := none } : Oper)) (v := ?_) rfl (by kernel_rfl) (by kernel_rfl) (by kernel_rfl) (fun _ _ _ h => h) (Or.inl ⟨by rfl, ?_⟩) hS ?_
            rotate_left
            · (intro w hSw; (try dsimp only at hSw); go_simp; try with_reducible rfl)
            (try simp only [Act.put, List.setIfInBounds_toArray, List.set_cons_zero, List.set_cons_succ])
            refine wpAnyH_take (i := 7) (oi := ({ dst := some 25, op := Op.extract (Operand.tmp 18) 0, type := 28, pos := "ref.go:32", after := #[{ on := 6, ground := Ground.data }], guard := none } : Oper)) (v := ?_) rfl (by kernel_rfl) (by kernel_rfl) (by kernel_rfl) (fun _ _ _ h => h) (Or.inl ⟨by rfl, ?_⟩) hS ?_
            rotate_left
            · (intro w hSw; (try dsimp only at hSw); go_simp; try with_reducible rfl)
            (try simp only [Act.put, List.setIfInBounds_toArray, List.set_cons_zero, List.set_cons_succ])
            refine wpAnyH_take (i := 8) (oi := ({ dst := some 26, op := Op.extract (Operand.tmp 18) 1, type := 26, pos := "ref.go:32", after := #[{ on := 6, ground := Ground.data }, { on := 12, ground := Ground.gcOnly Departure.lateStores }], guard := none } : Oper)) (v := ?_) rfl (by kernel_rfl) (by kernel_rfl) (by kernel_rfl) (fun _ _ _ h => h) (Or.inl ⟨by rfl, ?_⟩) hS ?_
            rotate_left
            · (intro w hSw; (try dsimp only at hSw); go_simp; try with_reducible rfl)
            (try simp only [Act.put, List.setIfInBounds_toArray, List.set_cons_zero, List.set_cons_succ])
            refine wpAnyH_take (i := 9) (oi := ({ dst := some 27, op := Op.extract (Operand.tmp 18) 2, type := 4, pos := "ref.go:32", after := #[{ on := 6, ground := Ground.data }, { on := 13, ground := Ground.gcOnly Departure.lateStores }], guard := none } : Oper)) (v := ?_) rfl (by kernel_rfl) (by kernel_rfl) (by kernel_rfl) (fun _ _ _ h => h) (Or.inl ⟨by rfl, ?_⟩) hS ?_
            rotate_left
            · (intro w hSw; (try dsimp only at hSw); go_simp; try with_reducible rfl)
            (try simp only [Act.put, List.setIfInBounds_toArray, List.set_cons_zero, List.set_cons_succ])
            refine wpAnyH_take (i := 10) (oi := ({ dst := some 28, op := Op.extract (Operand.tmp 18) 3, type := 29, pos := "ref.go:32", after := #[{ on := 6, ground := Ground.data }, { on := 14, ground := Ground.gcOnly Departure.lateStores }], guard := none } : Oper)) (v := ?_) rfl (by kernel_rfl) (by kernel_rfl) (by kernel_rfl) (fun _ _ _ h => h) (Or.inl ⟨by rfl, ?_⟩) hS ?_
            rotate_left
            · (intro w hSw; (try dsimp only at hSw); go_simp; try with_reducible rfl)
            (try simp only [Act.put, List.setIfInBounds_toArray, List.set_cons_zero, List.set_cons_succ])
            refine rg_one 12 ({ dst := none, op := Op.store 28 (Operand.tmp 7) (Operand.tmp 25), type := 0, pos := "ref.go:32", after := #[{ on := 11, ground := Ground.data }, { on := 7, ground := Ground.data }, { on := 5, ground := Ground.chain }, { on := 0, ground := Ground.phase }, { on := 1, ground := Ground.phase }, { on := 2, ground := Ground.phase }, { on := 3, ground := Ground.phase }, { on := 4, ground := Ground.phase }, { on := 5, ground := Ground.phase }, { on := 6, ground := Ground.phase }, { on := 7, ground := Ground.phase }, { on := 8, ground := Ground.textOnly Departure.lateStores }, { on := 9, ground := Ground.textOnly Departure.lateStores }, { on := 10, ground := Ground.textOnly Departure.lateStores }, { on := 11, ground := Ground.phase }], guard := none } : Oper) (by kernel_rfl) rfl (fun K hK => ?_)
            rw [if_pos (by rfl)]; refine wp_store_row 28 (.tmp 7) (.tmp 25) rfl wr.heap.size (kA g6 (.slice qa h6.length qc)) rfl rfl _ _ HG.out (kj_info _ _) rfl (kj_one _ _ _ _) ?_; have hgo := HG.out.row g6 (.slice qa h6.length qc); have hoh := HG.out.row_own (kA g6 (.slice qa h6.length qc)) HOH.out (by decide); have hou := HG.out.row_own (kA g6 (.slice qa h6.length qc)) HOU.out (by decide); have hbo := brow hS (b := wr.heap.size) HGE.out (Nat.le_refl _) (kA g6 (.slice qa h6.length qc)); obtain ⟨w8, hw8⟩ : ∃ q, World.setRow w6 wr.heap.size (kA g6 (.slice qa h6.length qc)) = q := ⟨_, rfl⟩; rw [hw8] at hgo hbo hoh hou; rw [hw8]; obtain ⟨g, hgn⟩ : ∃ q, wr.heap.size = q := ⟨_, rfl⟩; have hge := Nat.le_trans HGE.out (Nat.le_of_eq hgn); rw [hgn] at hgo; rw [hgn]; have HG8 := Lib.hid hgo; have HGL := Lib.hid hge; have HOH8 := Lib.hid hoh; have HOU8 := Lib.hid hou; clear hgo hge hoh hou; (try clear hN); have hN := hbo; clear hbo
            refine hK.out _ _ ?_ (fun hS1 => ?_)
            · (first | exact hN | exact hS)
            clear hK K hS; have hS := hS1; clear hS1
            (try simp only [Act.put])
            refine wpAnyH_take (i := 13) (oi := ({ dst := some 8, op := Op.assign (Operand.tmp 26), type := 26, pos := "ref.go:32", after := #[{ on := 8, ground := Ground.data }, { on := 12, ground := Ground.chain }, { on := 0, ground := Ground.phase }, { on := 1, ground := Ground.phase }, { on := 2, ground := Ground.phase }, { on := 3, ground := Ground.phase }, { on := 4, ground := Ground.phase }, { on := 5, ground := Ground.phase }, { on := 6, ground := Ground.phase }, { on := 7, ground := Ground.phase }, { on := 8, ground := Ground.phase }, { on := 9, ground := Ground.textOnly Departure.lateStores }, { on := 10, ground := Ground.textOnly Departure.lateStores }, { on := 11, ground := Ground.phase }, { on := 12, ground := Ground.phase }], guard := none } : Oper)) (v := ?_) rfl (by kernel_rfl) (by kernel_rfl) (by kernel_rfl) (fun _ _ _ h => h) (Or.inl ⟨by rfl, ?_⟩) hS ?_
            rotate_left
            · (intro w hSw; (try dsimp only at hSw); go_simp; try with_reducible rfl)
            (try simp only [Act.put, List.setIfInBounds_toArray, List.set_cons_zero, List.set_cons_succ])
            refine wpAnyH_take (i := 14) (oi := ({ dst := some 9, op := Op.assign (Operand.tmp 27), type := 4, pos := "ref.go:32", after := #[{ on := 9, ground := Ground.data }, { on := 13, ground := Ground.chain }, { on := 0, ground := Ground.phase }, { on := 1, ground := Ground.phase }, { on := 2, ground := Ground.phase }, { on := 3, ground := Ground.phase }, { on := 4, ground := Ground.phase }, { on := 5, ground := Ground.phase }, { on := 6, ground := Ground.phase }, { on := 7, ground := Ground.phase }, { on := 8, ground := Ground.phase }, { on := 9, ground := Ground.phase }, { on := 10, ground := Ground.textOnly Departure.lateStores }, { on := 11, ground := Ground.phase }, { on := 12, ground := Ground.phase }, { on := 13, ground := Ground.phase }], guard := none } : Oper)) (v := ?_) rfl (by kernel_rfl) (by kernel_rfl) (by kernel_rfl) (fun _ _ _ h => h) (Or.inl ⟨by rfl, ?_⟩) hS ?_
            rotate_left
            · (intro w hSw; (try dsimp only at hSw); go_simp; try with_reducible rfl)
            (try simp only [Act.put, List.setIfInBounds_toArray, List.set_cons_zero, List.set_cons_succ])
            refine wpAnyH_take (i := 15) (oi := ({ dst := some 10, op := Op.assign (Operand.tmp 28), type := 29, pos := "ref.go:32", after := #[{ on := 10, ground := Ground.data }, { on := 14, ground := Ground.chain }, { on := 0, ground := Ground.phase }, { on := 1, ground := Ground.phase }, { on := 2, ground := Ground.phase }, { on := 3, ground := Ground.phase }, { on := 4, ground := Ground.phase }, { on := 5, ground := Ground.phase }, { on := 6, ground := Ground.phase }, { on := 7, ground := Ground.phase }, { on := 8, ground := Ground.phase }, { on := 9, ground := Ground.phase }, { on := 10, ground := Ground.phase }, { on := 11, ground := Ground.phase }, { on := 12, ground := Ground.phase }, { on := 13, ground := Ground.phase }, { on := 14, ground := Ground.phase }], guard := none } : Oper)) (v := ?_) rfl (by kernel_rfl) (by kernel_rfl) (by kernel_rfl) (fun _ _ _ h => h) (Or.inl ⟨by rfl, ?_⟩) hS ?_
            rotate_left
            · (intro w hSw; (try dsimp only at hSw); go_simp; try with_reducible rfl)
            (try simp only [Act.put, List.setIfInBounds_toArray, List.set_cons_zero, List.set_cons_succ])
            refine wpAnyH_done (by kernel_rfl) ?_ _
            have HB8 := Lib.hid (bch HB.out hS)
            have HK8 := Lib.hid (HK.out.keep hS)
            have HRW8 := Lib.hid (HRW.out.keep hS)
            clear hS hN HG HGE HOH HOU
            go_wp2_with (first
              | (refine wpl_load_ko rfl (.tmp 7) rfl rfl HG8.out ?_)
              | (refine wpList_store_row rfl 28 _ _ rfl xb (kA g6 (.slice qa h6.length qc)) rfl rfl _ _ HK8.out (kj_info _ _) rfl (kj_one _ _ _ _) ?_; obtain ⟨w9, hw9⟩ : ∃ q, World.setRow w8 xb (kA g6 (.slice qa h6.length qc)) = q := ⟨_, rfl⟩; rw [hw9]; have HB9 : Hid (Below w.heap.size w w9) := Lib.hid (hw9 ▸ brow HB8.out (Nat.le_of_eq HXB.out) (Nat.le_refl _) _); have HK9 : Hid (KO w9 xb g6 (.slice qa h6.length qc)) := Lib.hid (hw9 ▸ HK8.out.row _ _); have HOH9 : Hid (w9.ownsRow w.heap.size 5 1 (.slice qa h6.length qc) h6.length (il .u8 h6)) := Lib.hid (hw9 ▸ HK8.out.row_own _ HOH8.out (by decide)); have HOU9 : Hid (w9.ownsRow w.heap.size 5 1 (.slice ua t6.length uc) t6.length (il .u8 t6)) := Lib.hid (hw9 ▸ HK8.out.row_own _ HOU8.out (by decide)); have HRW9 : Hid (RW w.heap.size w9 (.slice va m vc) m rs (.slice none 0 0)) := Lib.hid (hw9 ▸ ⟨HK8.out.row_own _ HRW8.out.row (by decide), fun e he => HK8.out.row_own _ (HRW8.out.data e he) (by decide), HRW8.out.apart⟩); clear hw9)
              | (at_builtin; go_loud (refine wpl_app_rw rfl (.tmp 34) (.tmp 36) rfl rfl (HRW9.out.keep (balloc w9 _)) w9.heap.size (t6, .slice ua t6.length uc) rfl (heap_alloc_last w9 _) (own_keep HOU9.out (balloc w9 _)) (fun g _ => by simp [Value.ownBlock]) (by omega) (bch HB9.out (balloc w9 _)).size ?_); intro v10 w10 HRWA HGA; have HBA := Lib.hid ((bch HB9.out (balloc w9 _)).grown HGA.out (bch HB9.out (balloc w9 _)).size (fun q hq => (HRW9.out.row.lt q hq).1)); have HRWP := HRW9.out.keep (balloc w9 (.cells #[.slice ua t6.length uc] 26)); have HKA : Hid (KO w10 xb g6 (.slice qa h6.length qc)) := Lib.hid (HRWP.blk HGA.out (HK9.out.keep (balloc w9 _)) (by decide)); have HOHA := Lib.hid (HRWP.other HGA.out (own_keep HOH9.out (balloc w9 _)) (by decide)); clear HRWP; obtain ⟨a10, c10, rfl⟩ := own_form HRWA.out.row))
            go_roundw
            case rel => exact ⟨i + 1, m + 1, a10, c10, _, g6, qa, h6.length, qc, h6, by go_num, rfl, by omega, by omega, HKA, HOHA, H6, HRWA, Lib.hid (by rw [List.map_append]; exact HJN.out.symm), HBA⟩
            case measure => simp [intOf]; omega
        | false =>
          have HFD : Hid (∀ W5, Below wr.heap.size wr W5 → Calls Try.prog 9 #[.agg (kA o (.slice ha hm hc)), .agg (fA k ep (.slice da d.length dc))] W5 fun e w' =>
              ∃ u v', e = .returned (.tuple #[.agg (kA (jGoes o h k d) v'), u, .bool false, .int .i64 0]) ∧ w'.ownsRow W5.heap.size 5 1 v' (jHad o h k d).length (il .u8 (jHad o h k d)) ∧ w'.ownsRow W5.heap.size 5 1 u (jTell o h k d).length (il .u8 (jTell o h k d)) ∧ Below W5.heap.size W5 w') := Lib.hid fun W5 hb => by
            have z := rfeed_any o (.slice ha hm hc) h k ep (.slice da d.length dc) d.length d W5 (RI.own (own_keep HV.out hb)) HF.out (HD.out.keep hb) HDS.out
            rw [he, hen] at z
            exact z
          rw [hen, if_neg (by decide)] at hJN
          have HJN := Lib.hid hJN
          clear HX2 hJN he hen
          generalize jGoes o h k d = g6 at HFD HJN
          generalize jHad o h k d = h6 at HFD HJN h6le
          generalize jTell o h k d = t6 at HFD
          have H6 := Lib.hid h6le
          clear h6le
          go_wp2_with fail
          refine wp_region_held_drew (S := (fun w' => Below wr.heap.size wr w')) (by kernel_rfl) ((Below.refl wr.heap.size wr).drew) (fun hS => ?_)
          refine wpAnyH_take (i := 0) (oi := ({ dst := some 19, op := Op.load 28 (Operand.tmp 5), type := 28, pos := "ref.go:32", after := #[], guard := none } : Oper)) (v := .agg (kA o (.slice ha hm hc))) rfl (by kernel_rfl) (by kernel_rfl) (by kernel_rfl) (fun _ _ _ h => h) (Or.inl ⟨by rfl, ?_⟩) hS ?_
          · (intro w hSw; (try dsimp only at hSw); exact exec_load_ko (.tmp 5) rfl rfl (HK.out.keep hSw))
          (try simp only [Act.put, List.setIfInBounds_toArray, List.set_cons_zero, List.set_cons_succ])
          refine wpAnyH_take (i := 1) (oi := ({ dst := some 20, op := Op.move (Operand.tmp 0), type := 22, pos := "ref.go:32", after := #[], guard := none } : Oper)) (v := ?_) rfl (by kernel_rfl) (by kernel_rfl) (by kernel_rfl) (fun _ _ _ h => h) (Or.inl ⟨by rfl, ?_⟩) hS ?_
          rotate_left
          · (intro w hSw; (try dsimp only at hSw); go_simp; try with_reducible rfl)
          (try simp only [Act.put, List.setIfInBounds_toArray, List.set_cons_zero, List.set_cons_succ])
          refine wpAnyH_take (i := 2) (oi := ({ dst := some 21, op := Op.move (Operand.tmp 6), type := 3, pos := "ref.go:32", after := #[], guard := none } : Oper)) (v := ?_) rfl (by kernel_rfl) (by kernel_rfl) (by kernel_rfl) (fun _ _ _ h => h) (Or.inl ⟨by rfl, ?_⟩) hS ?_
          rotate_left
          · (intro w hSw; (try dsimp only at hSw); go_simp; try with_reducible rfl)
          (try simp only [Act.put, List.setIfInBounds_toArray, List.set_cons_zero, List.set_cons_succ])
          refine wpAnyH_take (i := 3) (oi := ({ dst := some 22, op := Op.indexAddr 22 (Operand.tmp 20) (Operand.tmp 21), type := 0, pos := "ref.go:32", after := #[{ on := 1, ground := Ground.data }, { on := 2, ground := Ground.data }], guard := none } : Oper)) (v := ?_) rfl (by kernel_rfl) (by kernel_rfl) (by kernel_rfl) (fun _ _ _ h => h) (Or.inl ⟨by rfl, ?_⟩) hS ?_
          rotate_left
          · (intro w hSw; (try dsimp only at hSw); go_simp; try with_reducible rfl)
          (try simp only [Act.put, List.setIfInBounds_toArray, List.set_cons_zero, List.set_cons_succ])
          refine wpAnyH_take (i := 4) (oi := ({ dst := some 23, op := Op.load 34 (Operand.tmp 22), type := 34, pos := "ref.go:32", after := #[{ on := 3, ground := Ground.data }], guard := none } : Oper)) (v := .agg (fA k ep (.slice da d.length dc))) rfl (by kernel_rfl) (by kernel_rfl) (by kernel_rfl) (fun _ _ _ h => h) (Or.inl ⟨by rfl, ?_⟩) hS ?_
          · (intro w hSw; (try dsimp only at hSw); exact exec_load_el (e := (⟨k, ep, d⟩, .slice da d.length dc)) (.tmp 22) rfl rfl (el_keep hSw HR1.out))
          (try simp only [Act.put, List.setIfInBounds_toArray, List.set_cons_zero, List.set_cons_succ])
          refine rg_both 5 11 ({ dst := some 24, op := Op.call { callee := Callee.value (Operand.func 9), args := #[Operand.tmp 19, Operand.tmp 23], argTypes := #[28, 34] }, type := 35, pos := "ref.go:32", after := #[{ on := 0, ground := Ground.data }, { on := 4, ground := Ground.data }], guard := none } : Oper) ({ dst := some 7, op := Op.alloc 28, type := 0, pos := "ref.go:32", after := #[], guard := none } : Oper) (by kernel_rfl) rfl rfl (fun K hK => ?_) (fun K hK => ?_)
          · skip
            go_simp
            (go_at_call 9; (with_reducible refine (HFD.out _ hS).mono ?_); rintro e w6 ⟨u, v6, rfl, oh6, ou6, hb6⟩; obtain ⟨ua, uc, rfl⟩ := own_form ou6; obtain ⟨qa, qc, rfl⟩ := own_form oh6; have HOH := Lib.hid (own_mono oh6 (bch HB.out hS).size); have HOU := Lib.hid (own_mono ou6 (bch HB.out hS).size); (try clear hN); have hN := hS.trans (hb6.mono hS.size); clear oh6 ou6 hb6)
            refine hK.out _ _ ?_ (fun hS1 => ?_)
            · (first | exact hN | exact hS)
            clear hK K hS; have hS := hS1; clear hS1
            (try simp only [Act.put, List.setIfInBounds_toArray, List.set_cons_zero, List.set_cons_succ])
            refine wpAnyH_take (i := 6) (oi := ({ dst := some 18, op := Op.move (Operand.tmp 24), type := 35, pos := "ref.go:32", after := #[{ on := 5, ground := Ground.data }], guard := none } : Oper)) (v := ?_) rfl (by kernel_rfl) (by kernel_rfl) (by kernel_rfl) (fun _ _ _ h => h) (Or.inl ⟨by rfl, ?_⟩) hS ?_
            rotate_left
            · (intro w hSw; (try dsimp only at hSw); go_simp; try with_reducible rfl)
            (try simp only [Act.put, List.setIfInBounds_toArray, List.set_cons_zero, List.set_cons_succ])
            refine wpAnyH_take (i := 7) (oi := ({ dst := some 25, op := Op.extract (Operand.tmp 18) 0, type := 28, pos := "ref.go:32", after := #[{ on := 6, ground := Ground.data }], guard := none } : Oper)) (v := ?_) rfl (by kernel_rfl) (by kernel_rfl) (by kernel_rfl) (fun _ _ _ h => h) (Or.inl ⟨by rfl, ?_⟩) hS ?_
            rotate_left
            · (intro w hSw; (try dsimp only at hSw); go_simp; try with_reducible rfl)
            (try simp only [Act.put, List.setIfInBounds_toArray, List.set_cons_zero, List.set_cons_succ])
            refine wpAnyH_take (i := 8) (oi := ({ dst := some 26, op := Op.extract (Operand.tmp 18) 1, type := 26, pos := "ref.go:32", after := #[{ on := 6, ground := Ground.data }, { on := 12, ground := Ground.gcOnly Departure.lateStores }], guard := none } : Oper)) (v := ?_) rfl (by kernel_rfl) (by kernel_rfl) (by kernel_rfl) (fun _ _ _ h => h) (Or.inl ⟨by rfl, ?_⟩) hS ?_
            rotate_left
            · (intro w hSw; (try dsimp only at hSw); go_simp; try with_reducible rfl)
            (try simp only [Act.put, List.setIfInBounds_toArray, List.set_cons_zero, List.set_cons_succ])
            refine wpAnyH_take (i := 9) (oi := ({ dst := some 27, op := Op.extract (Operand.tmp 18) 2, type := 4, pos := "ref.go:32", after := #[{ on := 6, ground := Ground.data }, { on := 13, ground := Ground.gcOnly Departure.lateStores }], guard := none } : Oper)) (v := ?_) rfl (by kernel_rfl) (by kernel_rfl) (by kernel_rfl) (fun _ _ _ h => h) (Or.inl ⟨by rfl, ?_⟩) hS ?_
            rotate_left
            · (intro w hSw; (try dsimp only at hSw); go_simp; try with_reducible rfl)
            (try simp only [Act.put, List.setIfInBounds_toArray, List.set_cons_zero, List.set_cons_succ])
            refine wpAnyH_take (i := 10) (oi := ({ dst := some 28, op := Op.extract (Operand.tmp 18) 3, type := 29, pos := "ref.go:32", after := #[{ on := 6, ground := Ground.data }, { on := 14, ground := Ground.gcOnly Departure.lateStores }], guard := none } : Oper)) (v := ?_) rfl (by kernel_rfl) (by kernel_rfl) (by kernel_rfl) (fun _ _ _ h => h) (Or.inl ⟨by rfl, ?_⟩) hS ?_
            rotate_left
            · (intro w hSw; (try dsimp only at hSw); go_simp; try with_reducible rfl)
            (try simp only [Act.put, List.setIfInBounds_toArray, List.set_cons_zero, List.set_cons_succ])
            refine rg_one 11 ({ dst := some 7, op := Op.alloc 28, type := 0, pos := "ref.go:32", after := #[], guard := none } : Oper) (by kernel_rfl) rfl (fun K hK => ?_)
            go_simp
            (obtain ⟨w7, hw7⟩ : ∃ q, (World.alloc w6 (.cells (kA false (.slice none 0 0)) 28)) = q := ⟨_, rfl⟩; have hb7 : Below (World.heap w6).size w6 w7 := (by rw [← hw7]; exact balloc _ _); have HG : Hid (KO w7 (World.heap w6).size false (.slice none 0 0)) := Lib.hid (by rw [← hw7]; exact KO.alloc w6); rw [hw7]; have HGE : Hid (wr.heap.size ≤ (World.heap w6).size) := Lib.hid (hS.size); have HOH := Lib.hid (own_keep HOH.out hb7); have HOU := Lib.hid (own_keep HOU.out hb7); (try clear hN); have hN := hS.trans (hb7.mono hS.size); clear hb7 hw7)
            refine hK.out _ _ ?_ (fun hS1 => ?_)
            · (first | exact hN | exact hS)
            clear hK K hS; have hS := hS1; clear hS1
            (try simp only [Act.put, List.setIfInBounds_toArray, List.set_cons_zero, List.set_cons_succ])
            refine rg_one 12 ({ dst := none, op := Op.store 28 (Operand.tmp 7) (Operand.tmp 25), type := 0, pos := "ref.go:32", after := #[{ on := 11, ground := Ground.data }, { on := 7, ground := Ground.data }, { on := 5, ground := Ground.chain }, { on := 0, ground := Ground.phase }, { on := 1, ground := Ground.phase }, { on := 2, ground := Ground.phase }, { on := 3, ground := Ground.phase }, { on := 4, ground := Ground.phase }, { on := 5, ground := Ground.phase }, { on := 6, ground := Ground.phase }, { on := 7, ground := Ground.phase }, { on := 8, ground := Ground.textOnly Departure.lateStores }, { on := 9, ground := Ground.textOnly Departure.lateStores }, { on := 10, ground := Ground.textOnly Departure.lateStores }, { on := 11, ground := Ground.phase }], guard := none } : Oper) (by kernel_rfl) rfl (fun K hK => ?_)
            rw [if_pos (by rfl)]; refine wp_store_row 28 (.tmp 7) (.tmp 25) rfl (World.heap w6).size (kA g6 (.slice qa h6.length qc)) rfl rfl _ _ HG.out (kj_info _ _) rfl (kj_one _ _ _ _) ?_; have hgo := HG.out.row g6 (.slice qa h6.length qc); have hoh := HG.out.row_own (kA g6 (.slice qa h6.length qc)) HOH.out (by decide); have hou := HG.out.row_own (kA g6 (.slice qa h6.length qc)) HOU.out (by decide); have hbo := brow hS (b := (World.heap w6).size) HGE.out (Nat.le_refl _) (kA g6 (.slice qa h6.length qc)); obtain ⟨w8, hw8⟩ : ∃ q, World.setRow w7 (World.heap w6).size (kA g6 (.slice qa h6.length qc)) = q := ⟨_, rfl⟩; rw [hw8] at hgo hbo hoh hou; rw [hw8]; obtain ⟨g, hgn⟩ : ∃ q, (World.heap w6).size = q := ⟨_, rfl⟩; have hge := Nat.le_trans HGE.out (Nat.le_of_eq hgn); rw [hgn] at hgo; rw [hgn]; have HG8 := Lib.hid hgo; have HGL := Lib.hid hge; have HOH8 := Lib.hid hoh; have HOU8 := Lib.hid hou; clear hgo hge hoh hou; (try clear hN); have hN := hbo; clear hbo
            refine hK.out _ _ ?_ (fun hS1 => ?_)
            · (first | exact hN | exact hS)
            clear hK K hS; have hS := hS1; clear hS1
            (try simp only [Act.put])
            refine wpAnyH_take (i := 13) (oi := ({ dst := some 8, op := Op.assign (Operand.tmp 26), type := 26, pos := "ref.go:32", after := #[{ on := 8, ground := Ground.data }, { on := 12, ground := Ground.chain }, { on := 0, ground := Ground.phase }, { on := 1, ground := Ground.phase }, { on := 2, ground := Ground.phase }, { on := 3, ground := Ground.phase }, { on := 4, ground := Ground.phase }, { on := 5, ground := Ground.phase }, { on := 6, ground := Ground.phase }, { on := 7, ground := Ground.phase }, { on := 8, ground := Ground.phase }, { on := 9, ground := Ground.textOnly Departure.lateStores }, { on := 10, ground := Ground.textOnly Departure.lateStores }, { on := 11, ground := Ground.phase }, { on := 12, ground := Ground.phase }], guard := none } : Oper)) (v := ?_) rfl (by kernel_rfl) (by kernel_rfl) (by kernel_rfl) (fun _ _ _ h => h) (Or.inl ⟨by rfl, ?_⟩) hS ?_
            rotate_left
            · (intro w hSw; (try dsimp only at hSw); go_simp; try with_reducible rfl)
            (try simp only [Act.put, List.setIfInBounds_toArray, List.set_cons_zero, List.set_cons_succ])
            refine wpAnyH_take (i := 14) (oi := ({ dst := some 9, op := Op.assign (Operand.tmp 27), type := 4, pos := "ref.go:32", after := #[{ on := 9, ground := Ground.data }, { on := 13, ground := Ground.chain }, { on := 0, ground := Ground.phase }, { on := 1, ground := Ground.phase }, { on := 2, ground := Ground.phase }, { on := 3, ground := Ground.phase }, { on := 4, ground := Ground.phase }, { on := 5, ground := Ground.phase }, { on := 6, ground := Ground.phase }, { on := 7, ground := Ground.phase }, { on := 8, ground := Ground.phase }, { on := 9, ground := Ground.phase }, { on := 10, ground := Ground.textOnly Departure.lateStores }, { on := 11, ground := Ground.phase }, { on := 12, ground := Ground.phase }, { on := 13, ground := Ground.phase }], guard := none } : Oper)) (v := ?_) rfl (by kernel_rfl) (by kernel_rfl) (by kernel_rfl) (fun _ _ _ h => h) (Or.inl ⟨by rfl, ?_⟩) hS ?_
            rotate_left
            · (intro w hSw; (try dsimp only at hSw); go_simp; try with_reducible rfl)
            (try simp only [Act.put, List.setIfInBounds_toArray, List.set_cons_zero, List.set_cons_succ])
            refine wpAnyH_take (i := 15) (oi := ({ dst := some 10, op := Op.assign (Operand.tmp 28), type := 29, pos := "ref.go:32", after := #[{ on := 10, ground := Ground.data }, { on := 14, ground := Ground.chain }, { on := 0, ground := Ground.phase }, { on := 1, ground := Ground.phase }, { on := 2, ground := Ground.phase }, { on := 3, ground := Ground.phase }, { on := 4, ground := Ground.phase }, { on := 5, ground := Ground.phase }, { on := 6, ground := Ground.phase }, { on := 7, ground := Ground.phase }, { on := 8, ground := Ground.phase }, { on := 9, ground := Ground.phase }, { on := 10, ground := Ground.phase }, { on := 11, ground := Ground.phase }, { on := 12, ground := Ground.phase }, { on := 13, ground := Ground.phase }, { on := 14, ground := Ground.phase }], guard := none } : Oper)) (v := ?_) rfl (by kernel_rfl) (by kernel_rfl) (by kernel_rfl) (fun _ _ _ h => h) (Or.inl ⟨by rfl, ?_⟩) hS ?_
            rotate_left
            · (intro w hSw; (try dsimp only at hSw); go_simp; try with_reducible rfl)
            (try simp only [Act.put, List.setIfInBounds_toArray, List.set_cons_zero, List.set_cons_succ])
            refine wpAnyH_done (by kernel_rfl) ?_ _
            have HB8 := Lib.hid (bch HB.out hS)
            have HK8 := Lib.hid (HK.out.keep hS)
            have HRW8 := Lib.hid (HRW.out.keep hS)
            clear hS hN HG HGE HOH HOU
            go_wp2_with (first
              | (refine wpl_load_ko rfl (.tmp 7) rfl rfl HG8.out ?_)
              | (refine wpList_store_row rfl 28 _ _ rfl xb (kA g6 (.slice qa h6.length qc)) rfl rfl _ _ HK8.out (kj_info _ _) rfl (kj_one _ _ _ _) ?_; obtain ⟨w9, hw9⟩ : ∃ q, World.setRow w8 xb (kA g6 (.slice qa h6.length qc)) = q := ⟨_, rfl⟩; rw [hw9]; have HB9 : Hid (Below w.heap.size w w9) := Lib.hid (hw9 ▸ brow HB8.out (Nat.le_of_eq HXB.out) (Nat.le_refl _) _); have HK9 : Hid (KO w9 xb g6 (.slice qa h6.length qc)) := Lib.hid (hw9 ▸ HK8.out.row _ _); have HOH9 : Hid (w9.ownsRow w.heap.size 5 1 (.slice qa h6.length qc) h6.length (il .u8 h6)) := Lib.hid (hw9 ▸ HK8.out.row_own _ HOH8.out (by decide)); have HOU9 : Hid (w9.ownsRow w.heap.size 5 1 (.slice ua t6.length uc) t6.length (il .u8 t6)) := Lib.hid (hw9 ▸ HK8.out.row_own _ HOU8.out (by decide)); have HRW9 : Hid (RW w.heap.size w9 (.slice va m vc) m rs (.slice none 0 0)) := Lib.hid (hw9 ▸ ⟨HK8.out.row_own _ HRW8.out.row (by decide), fun e he => HK8.out.row_own _ (HRW8.out.data e he) (by decide), HRW8.out.apart⟩); clear hw9))
            go_roundw
            case rel => exact ⟨i + 1, m, va, vc, rs, g6, qa, h6.length, qc, h6, by go_num, rfl, by omega, by omega, HK9, HOH9, H6, HRW9, Lib.hid HJN.out.symm, HB9⟩
            case measure => simp [intOf]; omega
          · skip
            go_simp
            (obtain ⟨w7, hw7⟩ : ∃ q, ((World.alloc wr (.cells (kA false (.slice none 0 0)) 28))).drew = q := ⟨_, rfl⟩; have hb7 : Below wr.heap.size wr w7 := (by rw [← hw7]; exact bdrew0 _ _); have HG : Hid (KO w7 wr.heap.size false (.slice none 0 0)) := Lib.hid (by rw [← hw7]; exact KO.alloc wr); rw [hw7]; have HGE : Hid (wr.heap.size ≤ wr.heap.size) := Lib.hid (Nat.le_refl _); (try clear hN); have hN := hb7; clear hb7 hw7)
            refine hK.out _ _ ?_ (fun hS1 => ?_)
            · (first | exact hN | exact hS)
            clear hK K hS; have hS := hS1; clear hS1
            (try simp only [Act.put, List.setIfInBounds_toArray, List.set_cons_zero, List.set_cons_succ])
            refine rg_one 5 ({ dst := some 24, op := Op.call { callee := Callee.value (Operand.func 9), args := #[Operand.tmp 19, Operand.tmp 23], argTypes := #[28, 34] }, type := 35, pos := "ref.go:32", after := #[{ on := 0, ground := Ground.data }, { on := 4, ground := Ground.data }], guard := none } : Oper) (by kernel_rfl) rfl (fun K hK => ?_)
            go_simp
            (go_at_call 9; (with_reducible refine (HFD.out _ hS).mono ?_); rintro e w6 ⟨u, v6, rfl, oh6, ou6, hb6⟩; obtain ⟨ua, uc, rfl⟩ := own_form ou6; obtain ⟨qa, qc, rfl⟩ := own_form oh6; have HOH := Lib.hid (own_mono oh6 (bch HB.out hS).size); have HOU := Lib.hid (own_mono ou6 (bch HB.out hS).size); have HG := Lib.hid (HG.out.keep hb6); (try clear hN); have hN := hS.trans (hb6.mono hS.size); clear oh6 ou6 hb6)
            refine hK.out _ _ ?_ (fun hS1 => ?_)
            · (first | exact hN | exact hS)
            clear hK K hS; have hS := hS1; clear hS1
            (try simp only [Act.put, List.setIfInBounds_toArray, List.set_cons_zero, List.set_cons_succ])
            refine wpAnyH_take (i := 6) (oi := ({ dst := some 18, op := Op.move (Operand.tmp 24), type := 35, pos := "ref.go:32", after := #[{ on := 5, ground := Ground.data }], guard := none } : Oper)) (v := ?_) rfl (by kernel_rfl) (by kernel_rfl) (by kernel_rfl) (fun _ _ _ h => h) (Or.inl ⟨by rfl, ?_⟩) hS ?_
            rotate_left
            · (intro w hSw; (try dsimp only at hSw); go_simp; try with_reducible rfl)
            (try simp only [Act.put, List.setIfInBounds_toArray, List.set_cons_zero, List.set_cons_succ])
            refine wpAnyH_take (i := 7) (oi := ({ dst := some 25, op := Op.extract (Operand.tmp 18) 0, type := 28, pos := "ref.go:32", after := #[{ on := 6, ground := Ground.data }], guard := none } : Oper)) (v := ?_) rfl (by kernel_rfl) (by kernel_rfl) (by kernel_rfl) (fun _ _ _ h => h) (Or.inl ⟨by rfl, ?_⟩) hS ?_
            rotate_left
            · (intro w hSw; (try dsimp only at hSw); go_simp; try with_reducible rfl)
            (try simp only [Act.put, List.setIfInBounds_toArray, List.set_cons_zero, List.set_cons_succ])
            refine wpAnyH_take (i := 8) (oi := ({ dst := some 26, op := Op.extract (Operand.tmp 18) 1, type := 26, pos := "ref.go:32", after := #[{ on := 6, ground := Ground.data }, { on := 12, ground := Ground.gcOnly Departure.lateStores }], guard := none } : Oper)) (v := ?_) rfl (by kernel_rfl) (by kernel_rfl) (by kernel_rfl) (fun _ _ _ h => h) (Or.inl ⟨by rfl, ?_⟩) hS ?_
            rotate_left
            · (intro w hSw; (try dsimp only at hSw); go_simp; try with_reducible rfl)
            (try simp only [Act.put, List.setIfInBounds_toArray, List.set_cons_zero, List.set_cons_succ])
            refine wpAnyH_take (i := 9) (oi := ({ dst := some 27, op := Op.extract (Operand.tmp 18) 2, type := 4, pos := "ref.go:32", after := #[{ on := 6, ground := Ground.data }, { on := 13, ground := Ground.gcOnly Departure.lateStores }], guard := none } : Oper)) (v := ?_) rfl (by kernel_rfl) (by kernel_rfl) (by kernel_rfl) (fun _ _ _ h => h) (Or.inl ⟨by rfl, ?_⟩) hS ?_
            rotate_left
            · (intro w hSw; (try dsimp only at hSw); go_simp; try with_reducible rfl)
            (try simp only [Act.put, List.setIfInBounds_toArray, List.set_cons_zero, List.set_cons_succ])
            refine wpAnyH_take (i := 10) (oi := ({ dst := some 28, op := Op.extract (Operand.tmp 18) 3, type := 29, pos := "ref.go:32", after := #[{ on := 6, ground := Ground.data }, { on := 14, ground := Ground.gcOnly Departure.lateStores }], guard := none } : Oper)) (v := ?_) rfl (by kernel_rfl) (by kernel_rfl) (by kernel_rfl) (fun _ _ _ h => h) (Or.inl ⟨by rfl, ?_⟩) hS ?_
            rotate_left
            · (intro w hSw; (try dsimp only at hSw); go_simp; try with_reducible rfl)
            (try simp only [Act.put, List.setIfInBounds_toArray, List.set_cons_zero, List.set_cons_succ])
            refine rg_one 12 ({ dst := none, op := Op.store 28 (Operand.tmp 7) (Operand.tmp 25), type := 0, pos := "ref.go:32", after := #[{ on := 11, ground := Ground.data }, { on := 7, ground := Ground.data }, { on := 5, ground := Ground.chain }, { on := 0, ground := Ground.phase }, { on := 1, ground := Ground.phase }, { on := 2, ground := Ground.phase }, { on := 3, ground := Ground.phase }, { on := 4, ground := Ground.phase }, { on := 5, ground := Ground.phase }, { on := 6, ground := Ground.phase }, { on := 7, ground := Ground.phase }, { on := 8, ground := Ground.textOnly Departure.lateStores }, { on := 9, ground := Ground.textOnly Departure.lateStores }, { on := 10, ground := Ground.textOnly Departure.lateStores }, { on := 11, ground := Ground.phase }], guard := none } : Oper) (by kernel_rfl) rfl (fun K hK => ?_)
            rw [if_pos (by rfl)]; refine wp_store_row 28 (.tmp 7) (.tmp 25) rfl wr.heap.size (kA g6 (.slice qa h6.length qc)) rfl rfl _ _ HG.out (kj_info _ _) rfl (kj_one _ _ _ _) ?_; have hgo := HG.out.row g6 (.slice qa h6.length qc); have hoh := HG.out.row_own (kA g6 (.slice qa h6.length qc)) HOH.out (by decide); have hou := HG.out.row_own (kA g6 (.slice qa h6.length qc)) HOU.out (by decide); have hbo := brow hS (b := wr.heap.size) HGE.out (Nat.le_refl _) (kA g6 (.slice qa h6.length qc)); obtain ⟨w8, hw8⟩ : ∃ q, World.setRow w6 wr.heap.size (kA g6 (.slice qa h6.length qc)) = q := ⟨_, rfl⟩; rw [hw8] at hgo hbo hoh hou; rw [hw8]; obtain ⟨g, hgn⟩ : ∃ q, wr.heap.size = q := ⟨_, rfl⟩; have hge := Nat.le_trans HGE.out (Nat.le_of_eq hgn); rw [hgn] at hgo; rw [hgn]; have HG8 := Lib.hid hgo; have HGL := Lib.hid hge; have HOH8 := Lib.hid hoh; have HOU8 := Lib.hid hou; clear hgo hge hoh hou; (try clear hN); have hN := hbo; clear hbo
            refine hK.out _ _ ?_ (fun hS1 => ?_)
            · (first | exact hN | exact hS)
            clear hK K hS; have hS := hS1; clear hS1
            (try simp only [Act.put])
            refine wpAnyH_take (i := 13) (oi := ({ dst := some 8, op := Op.assign (Operand.tmp 26), type := 26, pos := "ref.go:32", after := #[{ on := 8, ground := Ground.data }, { on := 12, ground := Ground.chain }, { on := 0, ground := Ground.phase }, { on := 1, ground := Ground.phase }, { on := 2, ground := Ground.phase }, { on := 3, ground := Ground.phase }, { on := 4, ground := Ground.phase }, { on := 5, ground := Ground.phase }, { on := 6, ground := Ground.phase }, { on := 7, ground := Ground.phase }, { on := 8, ground := Ground.phase }, { on := 9, ground := Ground.textOnly Departure.lateStores }, { on := 10, ground := Ground.textOnly Departure.lateStores }, { on := 11, ground := Ground.phase }, { on := 12, ground := Ground.phase }], guard := none } : Oper)) (v := ?_) rfl (by kernel_rfl) (by kernel_rfl) (by kernel_rfl) (fun _ _ _ h => h) (Or.inl ⟨by rfl, ?_⟩) hS ?_
            rotate_left
            · (intro w hSw; (try dsimp only at hSw); go_simp; try with_reducible rfl)
            (try simp only [Act.put, List.setIfInBounds_toArray, List.set_cons_zero, List.set_cons_succ])
            refine wpAnyH_take (i := 14) (oi := ({ dst := some 9, op := Op.assign (Operand.tmp 27), type := 4, pos := "ref.go:32", after := #[{ on := 9, ground := Ground.data }, { on := 13, ground := Ground.chain }, { on := 0, ground := Ground.phase }, { on := 1, ground := Ground.phase }, { on := 2, ground := Ground.phase }, { on := 3, ground := Ground.phase }, { on := 4, ground := Ground.phase }, { on := 5, ground := Ground.phase }, { on := 6, ground := Ground.phase }, { on := 7, ground := Ground.phase }, { on := 8, ground := Ground.phase }, { on := 9, ground := Ground.phase }, { on := 10, ground := Ground.textOnly Departure.lateStores }, { on := 11, ground := Ground.phase }, { on := 12, ground := Ground.phase }, { on := 13, ground := Ground.phase }], guard := none } : Oper)) (v := ?_) rfl (by kernel_rfl) (by kernel_rfl) (by kernel_rfl) (fun _ _ _ h => h) (Or.inl ⟨by rfl, ?_⟩) hS ?_
            rotate_left
            · (intro w hSw; (try dsimp only at hSw); go_simp; try with_reducible rfl)
            (try simp only [Act.put, List.setIfInBounds_toArray, List.set_cons_zero, List.set_cons_succ])
            refine wpAnyH_take (i := 15) (oi := ({ dst := some 10, op := Op.assign (Operand.tmp 28), type := 29, pos := "ref.go:32", after := #[{ on := 10, ground := Ground.data }, { on := 14, ground := Ground.chain }, { on := 0, ground := Ground.phase }, { on := 1, ground := Ground.phase }, { on := 2, ground := Ground.phase }, { on := 3, ground := Ground.phase }, { on := 4, ground := Ground.phase }, { on := 5, ground := Ground.phase }, { on := 6, ground := Ground.phase }, { on := 7, ground := Ground.phase }, { on := 8, ground := Ground.phase }, { on := 9, ground := Ground.phase }, { on := 10, ground := Ground.phase }, { on := 11, ground := Ground.phase }, { on := 12, ground := Ground.phase }, { on := 13, ground := Ground.phase }, { on := 14, ground := Ground.phase }], guard := none } : Oper)) (v := ?_) rfl (by kernel_rfl) (by kernel_rfl) (by kernel_rfl) (fun _ _ _ h => h) (Or.inl ⟨by rfl, ?_⟩) hS ?_
            rotate_left
            · (intro w hSw; (try dsimp only at hSw); go_simp; try with_reducible rfl)
            (try simp only [Act.put, List.setIfInBounds_toArray, List.set_cons_zero, List.set_cons_succ])
            refine wpAnyH_done (by kernel_rfl) ?_ _
            have HB8 := Lib.hid (bch HB.out hS)
            have HK8 := Lib.hid (HK.out.keep hS)
            have HRW8 := Lib.hid (HRW.out.keep hS)
            clear hS hN HG HGE HOH HOU
            go_wp2_with (first
              | (refine wpl_load_ko rfl (.tmp 7) rfl rfl HG8.out ?_)
              | (refine wpList_store_row rfl 28 _ _ rfl xb (kA g6 (.slice qa h6.length qc)) rfl rfl _ _ HK8.out (kj_info _ _) rfl (kj_one _ _ _ _) ?_; obtain ⟨w9, hw9⟩ : ∃ q, World.setRow w8 xb (kA g6 (.slice qa h6.length qc)) = q := ⟨_, rfl⟩; rw [hw9]; have HB9 : Hid (Below w.heap.size w w9) := Lib.hid (hw9 ▸ brow HB8.out (Nat.le_of_eq HXB.out) (Nat.le_refl _) _); have HK9 : Hid (KO w9 xb g6 (.slice qa h6.length qc)) := Lib.hid (hw9 ▸ HK8.out.row _ _); have HOH9 : Hid (w9.ownsRow w.heap.size 5 1 (.slice qa h6.length qc) h6.length (il .u8 h6)) := Lib.hid (hw9 ▸ HK8.out.row_own _ HOH8.out (by decide)); have HOU9 : Hid (w9.ownsRow w.heap.size 5 1 (.slice ua t6.length uc) t6.length (il .u8 t6)) := Lib.hid (hw9 ▸ HK8.out.row_own _ HOU8.out (by decide)); have HRW9 : Hid (RW w.heap.size w9 (.slice va m vc) m rs (.slice none 0 0)) := Lib.hid (hw9 ▸ ⟨HK8.out.row_own _ HRW8.out.row (by decide), fun e he => HK8.out.row_own _ (HRW8.out.data e he) (by decide), HRW8.out.apart⟩); clear hw9))
            go_roundw
            case rel => exact ⟨i + 1, m, va, vc, rs, g6, qa, h6.length, qc, h6, by go_num, rfl, by omega, by omega, HK9, HOH9, H6, HRW9, Lib.hid HJN.out.symm, HB9⟩
            case measure => simp [intOf]; omega
      · have hJN := jRun_bad o h (rs.map Prod.fst) ⟨k, ep, d⟩ ((es.map Prod.fst).drop (i + 1)) he
        rw [HX2.out] at hJN
        simp only [Prod.mk.injEq] at hJN
        obtain ⟨rfl, hr2⟩ := hJN
        have HFD : Hid (∀ W5, Below wr.heap.size wr W5 → Calls Try.prog 9 #[.agg (kA o (.slice ha hm hc)), .agg (fA k ep (.slice da d.length dc))] W5 fun e w' =>
            ∃ u v', e = .returned (.tuple #[.agg (kA (jGoes o h k d) v'), u, .bool (jEnds o h k d), .int .i64 (jErr o h k d)]) ∧ w'.ownsRow W5.heap.size 5 1 v' (jHad o h k d).length (il .u8 (jHad o h k d)) ∧ w'.ownsRow W5.heap.size 5 1 u (jTell o h k d).length (il .u8 (jTell o h k d)) ∧ Below W5.heap.size W5 w') := Lib.hid fun W5 hb => by
          have z := rfeed_any o (.slice ha hm hc) h k ep (.slice da d.length dc) d.length d W5 (RI.own (own_keep HV.out hb)) HF.out (HD.out.keep hb) HDS.out
          exact z
        clear HX2 h6le
        have hne : (jErr o h k d != 0) = true := by simpa using he
        generalize jErr o h k d = er at HFD hne hr2
        have HR2 := Lib.hid hr2
        clear hr2 he
        generalize jEnds o h k d = en at HFD
        generalize jGoes o h k d = g6 at HFD
        generalize jHad o h k d = h6 at HFD
        generalize jTell o h k d = t6 at HFD
        go_wp2_with fail
        refine wp_region_held_drew (S := (fun w' => Below wr.heap.size wr w')) (by kernel_rfl) ((Below.refl wr.heap.size wr).drew) (fun hS => ?_)
        refine wpAnyH_take (i := 0) (oi := ({ dst := some 19, op := Op.load 28 (Operand.tmp 5), type := 28, pos := "ref.go:32", after := #[], guard := none } : Oper)) (v := .agg (kA o (.slice ha hm hc))) rfl (by kernel_rfl) (by kernel_rfl) (by kernel_rfl) (fun _ _ _ h => h) (Or.inl ⟨by rfl, ?_⟩) hS ?_
        · (intro w hSw; (try dsimp only at hSw); exact exec_load_ko (.tmp 5) rfl rfl (HK.out.keep hSw))
        (try simp only [Act.put, List.setIfInBounds_toArray, List.set_cons_zero, List.set_cons_succ])
        refine wpAnyH_take (i := 1) (oi := ({ dst := some 20, op := Op.move (Operand.tmp 0), type := 22, pos := "ref.go:32", after := #[], guard := none } : Oper)) (v := ?_) rfl (by kernel_rfl) (by kernel_rfl) (by kernel_rfl) (fun _ _ _ h => h) (Or.inl ⟨by rfl, ?_⟩) hS ?_
        rotate_left
        · (intro w hSw; (try dsimp only at hSw); go_simp; try with_reducible rfl)
        (try simp only [Act.put, List.setIfInBounds_toArray, List.set_cons_zero, List.set_cons_succ])
        refine wpAnyH_take (i := 2) (oi := ({ dst := some 21, op := Op.move (Operand.tmp 6), type := 3, pos := "ref.go:32", after := #[], guard := none } : Oper)) (v := ?_) rfl (by kernel_rfl) (by kernel_rfl) (by kernel_rfl) (fun _ _ _ h => h) (Or.inl ⟨by rfl, ?_⟩) hS ?_
        rotate_left
        · (intro w hSw; (try dsimp only at hSw); go_simp; try with_reducible rfl)
        (try simp only [Act.put, List.setIfInBounds_toArray, List.set_cons_zero, List.set_cons_succ])
        refine wpAnyH_take (i := 3) (oi := ({ dst := some 22, op := Op.indexAddr 22 (Operand.tmp 20) (Operand.tmp 21), type := 0, pos := "ref.go:32", after := #[{ on := 1, ground := Ground.data }, { on := 2, ground := Ground.data }], guard := none } : Oper)) (v := ?_) rfl (by kernel_rfl) (by kernel_rfl) (by kernel_rfl) (fun _ _ _ h => h) (Or.inl ⟨by rfl, ?_⟩) hS ?_
        rotate_left
        · (intro w hSw; (try dsimp only at hSw); go_simp; try with_reducible rfl)
        (try simp only [Act.put, List.setIfInBounds_toArray, List.set_cons_zero, List.set_cons_succ])
        refine wpAnyH_take (i := 4) (oi := ({ dst := some 23, op := Op.load 34 (Operand.tmp 22), type := 34, pos := "ref.go:32", after := #[{ on := 3, ground := Ground.data }], guard := none } : Oper)) (v := .agg (fA k ep (.slice da d.length dc))) rfl (by kernel_rfl) (by kernel_rfl) (by kernel_rfl) (fun _ _ _ h => h) (Or.inl ⟨by rfl, ?_⟩) hS ?_
        · (intro w hSw; (try dsimp only at hSw); exact exec_load_el (e := (⟨k, ep, d⟩, .slice da d.length dc)) (.tmp 22) rfl rfl (el_keep hSw HR1.out))
        (try simp only [Act.put, List.setIfInBounds_toArray, List.set_cons_zero, List.set_cons_succ])
        refine rg_both 5 11 ({ dst := some 24, op := Op.call { callee := Callee.value (Operand.func 9), args := #[Operand.tmp 19, Operand.tmp 23], argTypes := #[28, 34] }, type := 35, pos := "ref.go:32", after := #[{ on := 0, ground := Ground.data }, { on := 4, ground := Ground.data }], guard := none } : Oper) ({ dst := some 7, op := Op.alloc 28, type := 0, pos := "ref.go:32", after := #[], guard := none } : Oper) (by kernel_rfl) rfl rfl (fun K hK => ?_) (fun K hK => ?_)
        · skip
          go_simp
          (go_at_call 9; (with_reducible refine (HFD.out _ hS).mono ?_); rintro e w6 ⟨u, v6, rfl, oh6, ou6, hb6⟩; obtain ⟨ua, uc, rfl⟩ := own_form ou6; obtain ⟨qa, qc, rfl⟩ := own_form oh6; have HOH := Lib.hid (own_mono oh6 (bch HB.out hS).size); have HOU := Lib.hid (own_mono ou6 (bch HB.out hS).size); (try clear hN); have hN := hS.trans (hb6.mono hS.size); clear oh6 ou6 hb6)
          refine hK.out _ _ ?_ (fun hS1 => ?_)
          · (first | exact hN | exact hS)
          clear hK K hS; have hS := hS1; clear hS1
          (try simp only [Act.put, List.setIfInBounds_toArray, List.set_cons_zero, List.set_cons_succ])
          refine wpAnyH_take (i := 6) (oi := ({ dst := some 18, op := Op.move (Operand.tmp 24), type := 35, pos := "ref.go:32", after := #[{ on := 5, ground := Ground.data }], guard := none } : Oper)) (v := ?_) rfl (by kernel_rfl) (by kernel_rfl) (by kernel_rfl) (fun _ _ _ h => h) (Or.inl ⟨by rfl, ?_⟩) hS ?_
          rotate_left
          · (intro w hSw; (try dsimp only at hSw); go_simp; try with_reducible rfl)
          (try simp only [Act.put, List.setIfInBounds_toArray, List.set_cons_zero, List.set_cons_succ])
          refine wpAnyH_take (i := 7) (oi := ({ dst := some 25, op := Op.extract (Operand.tmp 18) 0, type := 28, pos := "ref.go:32", after := #[{ on := 6, ground := Ground.data }], guard := none } : Oper)) (v := ?_) rfl (by kernel_rfl) (by kernel_rfl) (by kernel_rfl) (fun _ _ _ h => h) (Or.inl ⟨by rfl, ?_⟩) hS ?_
          rotate_left
          · (intro w hSw; (try dsimp only at hSw); go_simp; try with_reducible rfl)
          (try simp only [Act.put, List.setIfInBounds_toArray, List.set_cons_zero, List.set_cons_succ])
          refine wpAnyH_take (i := 8) (oi := ({ dst := some 26, op := Op.extract (Operand.tmp 18) 1, type := 26, pos := "ref.go:32", after := #[{ on := 6, ground := Ground.data }, { on := 12, ground := Ground.gcOnly Departure.lateStores }], guard := none } : Oper)) (v := ?_) rfl (by kernel_rfl) (by kernel_rfl) (by kernel_rfl) (fun _ _ _ h => h) (Or.inl ⟨by rfl, ?_⟩) hS ?_
          rotate_left
          · (intro w hSw; (try dsimp only at hSw); go_simp; try with_reducible rfl)
          (try simp only [Act.put, List.setIfInBounds_toArray, List.set_cons_zero, List.set_cons_succ])
          refine wpAnyH_take (i := 9) (oi := ({ dst := some 27, op := Op.extract (Operand.tmp 18) 2, type := 4, pos := "ref.go:32", after := #[{ on := 6, ground := Ground.data }, { on := 13, ground := Ground.gcOnly Departure.lateStores }], guard := none } : Oper)) (v := ?_) rfl (by kernel_rfl) (by kernel_rfl) (by kernel_rfl) (fun _ _ _ h => h) (Or.inl ⟨by rfl, ?_⟩) hS ?_
          rotate_left
          · (intro w hSw; (try dsimp only at hSw); go_simp; try with_reducible rfl)
          (try simp only [Act.put, List.setIfInBounds_toArray, List.set_cons_zero, List.set_cons_succ])
          refine wpAnyH_take (i := 10) (oi := ({ dst := some 28, op := Op.extract (Operand.tmp 18) 3, type := 29, pos := "ref.go:32", after := #[{ on := 6, ground := Ground.data }, { on := 14, ground := Ground.gcOnly Departure.lateStores }], guard := none } : Oper)) (v := ?_) rfl (by kernel_rfl) (by kernel_rfl) (by kernel_rfl) (fun _ _ _ h => h) (Or.inl ⟨by rfl, ?_⟩) hS ?_
          rotate_left
          · (intro w hSw; (try dsimp only at hSw); go_simp; try with_reducible rfl)
          (try simp only [Act.put, List.setIfInBounds_toArray, List.set_cons_zero, List.set_cons_succ])
          refine rg_one 11 ({ dst := some 7, op := Op.alloc 28, type := 0, pos := "ref.go:32", after := #[], guard := none } : Oper) (by kernel_rfl) rfl (fun K hK => ?_)
          go_simp
          (obtain ⟨w7, hw7⟩ : ∃ q, (World.alloc w6 (.cells (kA false (.slice none 0 0)) 28)) = q := ⟨_, rfl⟩; have hb7 : Below (World.heap w6).size w6 w7 := (by rw [← hw7]; exact balloc _ _); have HG : Hid (KO w7 (World.heap w6).size false (.slice none 0 0)) := Lib.hid (by rw [← hw7]; exact KO.alloc w6); rw [hw7]; have HGE : Hid (wr.heap.size ≤ (World.heap w6).size) := Lib.hid (hS.size); have HOH := Lib.hid (own_keep HOH.out hb7); have HOU := Lib.hid (own_keep HOU.out hb7); (try clear hN); have hN := hS.trans (hb7.mono hS.size); clear hb7 hw7)
          refine hK.out _ _ ?_ (fun hS1 => ?_)
          · (first | exact hN | exact hS)
          clear hK K hS; have hS := hS1; clear hS1
          (try simp only [Act.put, List.setIfInBounds_toArray, List.set_cons_zero, List.set_cons_succ])
          refine rg_one 12 ({ dst := none, op := Op.store 28 (Operand.tmp 7) (Operand.tmp 25), type := 0, pos := "ref.go:32", after := #[{ on := 11, ground := Ground.data }, { on := 7, ground := Ground.data }, { on := 5, ground := Ground.chain }, { on := 0, ground := Ground.phase }, { on := 1, ground := Ground.phase }, { on := 2, ground := Ground.phase }, { on := 3, ground := Ground.phase }, { on := 4, ground := Ground.phase }, { on := 5, ground := Ground.phase }, { on := 6, ground := Ground.phase }, { on := 7, ground := Ground.phase }, { on := 8, ground := Ground.textOnly Departure.lateStores }, { on := 9, ground := Ground.textOnly Departure.lateStores }, { on := 10, ground := Ground.textOnly Departure.lateStores }, { on := 11, ground := Ground.phase }], guard := none } : Oper) (by kernel_rfl) rfl (fun K hK => ?_)
          rw [if_pos (by rfl)]; refine wp_store_row 28 (.tmp 7) (.tmp 25) rfl (World.heap w6).size (kA g6 (.slice qa h6.length qc)) rfl rfl _ _ HG.out (kj_info _ _) rfl (kj_one _ _ _ _) ?_; have hgo := HG.out.row g6 (.slice qa h6.length qc); have hoh := HG.out.row_own (kA g6 (.slice qa h6.length qc)) HOH.out (by decide); have hou := HG.out.row_own (kA g6 (.slice qa h6.length qc)) HOU.out (by decide); have hbo := brow hS (b := (World.heap w6).size) HGE.out (Nat.le_refl _) (kA g6 (.slice qa h6.length qc)); obtain ⟨w8, hw8⟩ : ∃ q, World.setRow w7 (World.heap w6).size (kA g6 (.slice qa h6.length qc)) = q := ⟨_, rfl⟩; rw [hw8] at hgo hbo hoh hou; rw [hw8]; obtain ⟨g, hgn⟩ : ∃ q, (World.heap w6).size = q := ⟨_, rfl⟩; have hge := Nat.le_trans HGE.out (Nat.le_of_eq hgn); rw [hgn] at hgo; rw [hgn]; have HG8 := Lib.hid hgo; have HGL := Lib.hid hge; have HOH8 := Lib.hid hoh; have HOU8 := Lib.hid hou; clear hgo hge hoh hou; (try clear hN); have hN := hbo; clear hbo
          refine hK.out _ _ ?_ (fun hS1 => ?_)
          · (first | exact hN | exact hS)
          clear hK K hS; have hS := hS1; clear hS1
          (try simp only [Act.put])
          refine wpAnyH_take (i := 13) (oi := ({ dst := some 8, op := Op.assign (Operand.tmp 26), type := 26, pos := "ref.go:32", after := #[{ on := 8, ground := Ground.data }, { on := 12, ground := Ground.chain }, { on := 0, ground := Ground.phase }, { on := 1, ground := Ground.phase }, { on := 2, ground := Ground.phase }, { on := 3, ground := Ground.phase }, { on := 4, ground := Ground.phase }, { on := 5, ground := Ground.phase }, { on := 6, ground := Ground.phase }, { on := 7, ground := Ground.phase }, { on := 8, ground := Ground.phase }, { on := 9, ground := Ground.textOnly Departure.lateStores }, { on := 10, ground := Ground.textOnly Departure.lateStores }, { on := 11, ground := Ground.phase }, { on := 12, ground := Ground.phase }], guard := none } : Oper)) (v := ?_) rfl (by kernel_rfl) (by kernel_rfl) (by kernel_rfl) (fun _ _ _ h => h) (Or.inl ⟨by rfl, ?_⟩) hS ?_
          rotate_left
          · (intro w hSw; (try dsimp only at hSw); go_simp; try with_reducible rfl)
          (try simp only [Act.put, List.setIfInBounds_toArray, List.set_cons_zero, List.set_cons_succ])
          refine wpAnyH_take (i := 14) (oi := ({ dst := some 9, op := Op.assign (Operand.tmp 27), type := 4, pos := "ref.go:32", after := #[{ on := 9, ground := Ground.data }, { on := 13, ground := Ground.chain }, { on := 0, ground := Ground.phase }, { on := 1, ground := Ground.phase }, { on := 2, ground := Ground.phase }, { on := 3, ground := Ground.phase }, { on := 4, ground := Ground.phase }, { on := 5, ground := Ground.phase }, { on := 6, ground := Ground.phase }, { on := 7, ground := Ground.phase }, { on := 8, ground := Ground.phase }, { on := 9, ground := Ground.phase }, { on := 10, ground := Ground.textOnly Departure.lateStores }, { on := 11, ground := Ground.phase }, { on := 12, ground := Ground.phase }, { on := 13, ground := Ground.phase }], guard := none } : Oper)) (v := ?_) rfl (by kernel_rfl) (by kernel_rfl) (by kernel_rfl) (fun _ _ _ h => h) (Or.inl ⟨by rfl, ?_⟩) hS ?_
          rotate_left
          · (intro w hSw; (try dsimp only at hSw); go_simp; try with_reducible rfl)
          (try simp only [Act.put, List.setIfInBounds_toArray, List.set_cons_zero, List.set_cons_succ])
          refine wpAnyH_take (i := 15) (oi := ({ dst := some 10, op := Op.assign (Operand.tmp 28), type := 29, pos := "ref.go:32", after := #[{ on := 10, ground := Ground.data }, { on := 14, ground := Ground.chain }, { on := 0, ground := Ground.phase }, { on := 1, ground := Ground.phase }, { on := 2, ground := Ground.phase }, { on := 3, ground := Ground.phase }, { on := 4, ground := Ground.phase }, { on := 5, ground := Ground.phase }, { on := 6, ground := Ground.phase }, { on := 7, ground := Ground.phase }, { on := 8, ground := Ground.phase }, { on := 9, ground := Ground.phase }, { on := 10, ground := Ground.phase }, { on := 11, ground := Ground.phase }, { on := 12, ground := Ground.phase }, { on := 13, ground := Ground.phase }, { on := 14, ground := Ground.phase }], guard := none } : Oper)) (v := ?_) rfl (by kernel_rfl) (by kernel_rfl) (by kernel_rfl) (fun _ _ _ h => h) (Or.inl ⟨by rfl, ?_⟩) hS ?_
          rotate_left
          · (intro w hSw; (try dsimp only at hSw); go_simp; try with_reducible rfl)
          (try simp only [Act.put, List.setIfInBounds_toArray, List.set_cons_zero, List.set_cons_succ])
          refine wpAnyH_done (by kernel_rfl) ?_ _
          have HB8 := Lib.hid (bch HB.out hS)
          have HK8 := Lib.hid (HK.out.keep hS)
          have HRW8 := Lib.hid (HRW.out.keep hS)
          clear hS hN HG HGE HOH HOU
          go_wp2
          go_ret2
          exact ⟨_, [], by rw [HR2.out]; rfl, RW.nil _ _ _, rfl, HB8.out⟩
        · skip
          go_simp
          (obtain ⟨w7, hw7⟩ : ∃ q, ((World.alloc wr (.cells (kA false (.slice none 0 0)) 28))).drew = q := ⟨_, rfl⟩; have hb7 : Below wr.heap.size wr w7 := (by rw [← hw7]; exact bdrew0 _ _); have HG : Hid (KO w7 wr.heap.size false (.slice none 0 0)) := Lib.hid (by rw [← hw7]; exact KO.alloc wr); rw [hw7]; have HGE : Hid (wr.heap.size ≤ wr.heap.size) := Lib.hid (Nat.le_refl _); (try clear hN); have hN := hb7; clear hb7 hw7)
          refine hK.out _ _ ?_ (fun hS1 => ?_)
          · (first | exact hN | exact hS)
          clear hK K hS; have hS := hS1; clear hS1
          (try simp only [Act.put, List.setIfInBounds_toArray, List.set_cons_zero, List.set_cons_succ])
          refine rg_one 5 ({ dst := some 24, op := Op.call { callee := Callee.value (Operand.func 9), args := #[Operand.tmp 19, Operand.tmp 23], argTypes := #[28, 34] }, type := 35, pos := "ref.go:32", after := #[{ on := 0, ground := Ground.data }, { on := 4, ground := Ground.data }], guard := none } : Oper) (by kernel_rfl) rfl (fun K hK => ?_)
          go_simp
          (go_at_call 9; (with_reducible refine (HFD.out _ hS).mono ?_); rintro e w6 ⟨u, v6, rfl, oh6, ou6, hb6⟩; obtain ⟨ua, uc, rfl⟩ := own_form ou6; obtain ⟨qa, qc, rfl⟩ := own_form oh6; have HOH := Lib.hid (own_mono oh6 (bch HB.out hS).size); have HOU := Lib.hid (own_mono ou6 (bch HB.out hS).size); have HG := Lib.hid (HG.out.keep hb6); (try clear hN); have hN := hS.trans (hb6.mono hS.size); clear oh6 ou6 hb6)
          refine hK.out _ _ ?_ (fun hS1 => ?_)
          · (first | exact hN | exact hS)
          clear hK K hS; have hS := hS1; clear hS1
          (try simp only [Act.put, List.setIfInBounds_toArray, List.set_cons_zero, List.set_cons_succ])
          refine wpAnyH_take (i := 6) (oi := ({ dst := some 18, op := Op.move (Operand.tmp 24), type := 35, pos := "ref.go:32", after := #[{ on := 5, ground := Ground.data }], guard := none } : Oper)) (v := ?_) rfl (by kernel_rfl) (by kernel_rfl) (by kernel_rfl) (fun _ _ _ h => h) (Or.inl ⟨by rfl, ?_⟩) hS ?_
          rotate_left
          · (intro w hSw; (try dsimp only at hSw); go_simp; try with_reducible rfl)
          (try simp only [Act.put, List.setIfInBounds_toArray, List.set_cons_zero, List.set_cons_succ])
          refine wpAnyH_take (i := 7) (oi := ({ dst := some 25, op := Op.extract (Operand.tmp 18) 0, type := 28, pos := "ref.go:32", after := #[{ on := 6, ground := Ground.data }], guard := none } : Oper)) (v := ?_) rfl (by kernel_rfl) (by kernel_rfl) (by kernel_rfl) (fun _ _ _ h => h) (Or.inl ⟨by rfl, ?_⟩) hS ?_
          rotate_left
          · (intro w hSw; (try dsimp only at hSw); go_simp; try with_reducible rfl)
          (try simp only [Act.put, List.setIfInBounds_toArray, List.set_cons_zero, List.set_cons_succ])
          refine wpAnyH_take (i := 8) (oi := ({ dst := some 26, op := Op.extract (Operand.tmp 18) 1, type := 26, pos := "ref.go:32", after := #[{ on := 6, ground := Ground.data }, { on := 12, ground := Ground.gcOnly Departure.lateStores }], guard := none } : Oper)) (v := ?_) rfl (by kernel_rfl) (by kernel_rfl) (by kernel_rfl) (fun _ _ _ h => h) (Or.inl ⟨by rfl, ?_⟩) hS ?_
          rotate_left
          · (intro w hSw; (try dsimp only at hSw); go_simp; try with_reducible rfl)
          (try simp only [Act.put, List.setIfInBounds_toArray, List.set_cons_zero, List.set_cons_succ])
          refine wpAnyH_take (i := 9) (oi := ({ dst := some 27, op := Op.extract (Operand.tmp 18) 2, type := 4, pos := "ref.go:32", after := #[{ on := 6, ground := Ground.data }, { on := 13, ground := Ground.gcOnly Departure.lateStores }], guard := none } : Oper)) (v := ?_) rfl (by kernel_rfl) (by kernel_rfl) (by kernel_rfl) (fun _ _ _ h => h) (Or.inl ⟨by rfl, ?_⟩) hS ?_
          rotate_left
          · (intro w hSw; (try dsimp only at hSw); go_simp; try with_reducible rfl)
          (try simp only [Act.put, List.setIfInBounds_toArray, List.set_cons_zero, List.set_cons_succ])
          refine wpAnyH_take (i := 10) (oi := ({ dst := some 28, op := Op.extract (Operand.tmp 18) 3, type := 29, pos := "ref.go:32", after := #[{ on := 6, ground := Ground.data }, { on := 14, ground := Ground.gcOnly Departure.lateStores }], guard := none } : Oper)) (v := ?_) rfl (by kernel_rfl) (by kernel_rfl) (by kernel_rfl) (fun _ _ _ h => h) (Or.inl ⟨by rfl, ?_⟩) hS ?_
          rotate_left
          · (intro w hSw; (try dsimp only at hSw); go_simp; try with_reducible rfl)
          (try simp only [Act.put, List.setIfInBounds_toArray, List.set_cons_zero, List.set_cons_succ])
          refine rg_one 12 ({ dst := none, op := Op.store 28 (Operand.tmp 7) (Operand.tmp 25), type := 0, pos := "ref.go:32", after := #[{ on := 11, ground := Ground.data }, { on := 7, ground := Ground.data }, { on := 5, ground := Ground.chain }, { on := 0, ground := Ground.phase }, { on := 1, ground := Ground.phase }, { on := 2, ground := Ground.phase }, { on := 3, ground := Ground.phase }, { on := 4, ground := Ground.phase }, { on := 5, ground := Ground.phase }, { on := 6, ground := Ground.phase }, { on := 7, ground := Ground.phase }, { on := 8, ground := Ground.textOnly Departure.lateStores }, { on := 9, ground := Ground.textOnly Departure.lateStores }, { on := 10, ground := Ground.textOnly Departure.lateStores }, { on := 11, ground := Ground.phase }], guard := none } : Oper) (by kernel_rfl) rfl (fun K hK => ?_)
          rw [if_pos (by rfl)]; refine wp_store_row 28 (.tmp 7) (.tmp 25) rfl wr.heap.size (kA g6 (.slice qa h6.length qc)) rfl rfl _ _ HG.out (kj_info _ _) rfl (kj_one _ _ _ _) ?_; have hgo := HG.out.row g6 (.slice qa h6.length qc); have hoh := HG.out.row_own (kA g6 (.slice qa h6.length qc)) HOH.out (by decide); have hou := HG.out.row_own (kA g6 (.slice qa h6.length qc)) HOU.out (by decide); have hbo := brow hS (b := wr.heap.size) HGE.out (Nat.le_refl _) (kA g6 (.slice qa h6.length qc)); obtain ⟨w8, hw8⟩ : ∃ q, World.setRow w6 wr.heap.size (kA g6 (.slice qa h6.length qc)) = q := ⟨_, rfl⟩; rw [hw8] at hgo hbo hoh hou; rw [hw8]; obtain ⟨g, hgn⟩ : ∃ q, wr.heap.size = q := ⟨_, rfl⟩; have hge := Nat.le_trans HGE.out (Nat.le_of_eq hgn); rw [hgn] at hgo; rw [hgn]; have HG8 := Lib.hid hgo; have HGL := Lib.hid hge; have HOH8 := Lib.hid hoh; have HOU8 := Lib.hid hou; clear hgo hge hoh hou; (try clear hN); have hN := hbo; clear hbo
          refine hK.out _ _ ?_ (fun hS1 => ?_)
          · (first | exact hN | exact hS)
          clear hK K hS; have hS := hS1; clear hS1
          (try simp only [Act.put])
          refine wpAnyH_take (i := 13) (oi := ({ dst := some 8, op := Op.assign (Operand.tmp 26), type := 26, pos := "ref.go:32", after := #[{ on := 8, ground := Ground.data }, { on := 12, ground := Ground.chain }, { on := 0, ground := Ground.phase }, { on := 1, ground := Ground.phase }, { on := 2, ground := Ground.phase }, { on := 3, ground := Ground.phase }, { on := 4, ground := Ground.phase }, { on := 5, ground := Ground.phase }, { on := 6, ground := Ground.phase }, { on := 7, ground := Ground.phase }, { on := 8, ground := Ground.phase }, { on := 9, ground := Ground.textOnly Departure.lateStores }, { on := 10, ground := Ground.textOnly Departure.lateStores }, { on := 11, ground := Ground.phase }, { on := 12, ground := Ground.phase }], guard := none } : Oper)) (v := ?_) rfl (by kernel_rfl) (by kernel_rfl) (by kernel_rfl) (fun _ _ _ h => h) (Or.inl ⟨by rfl, ?_⟩) hS ?_
          rotate_left
          · (intro w hSw; (try dsimp only at hSw); go_simp; try with_reducible rfl)
          (try simp only [Act.put, List.setIfInBounds_toArray, List.set_cons_zero, List.set_cons_succ])
          refine wpAnyH_take (i := 14) (oi := ({ dst := some 9, op := Op.assign (Operand.tmp 27), type := 4, pos := "ref.go:32", after := #[{ on := 9, ground := Ground.data }, { on := 13, ground := Ground.chain }, { on := 0, ground := Ground.phase }, { on := 1, ground := Ground.phase }, { on := 2, ground := Ground.phase }, { on := 3, ground := Ground.phase }, { on := 4, ground := Ground.phase }, { on := 5, ground := Ground.phase }, { on := 6, ground := Ground.phase }, { on := 7, ground := Ground.phase }, { on := 8, ground := Ground.phase }, { on := 9, ground := Ground.phase }, { on := 10, ground := Ground.textOnly Departure.lateStores }, { on := 11, ground := Ground.phase }, { on := 12, ground := Ground.phase }, { on := 13, ground := Ground.phase }], guard := none } : Oper)) (v := ?_) rfl (by kernel_rfl) (by kernel_rfl) (by kernel_rfl) (fun _ _ _ h => h) (Or.inl ⟨by rfl, ?_⟩) hS ?_
          rotate_left
          · (intro w hSw; (try dsimp only at hSw); go_simp; try with_reducible rfl)
          (try simp only [Act.put, List.setIfInBounds_toArray, List.set_cons_zero, List.set_cons_succ])
          refine wpAnyH_take (i := 15) (oi := ({ dst := some 10, op := Op.assign (Operand.tmp 28), type := 29, pos := "ref.go:32", after := #[{ on := 10, ground := Ground.data }, { on := 14, ground := Ground.chain }, { on := 0, ground := Ground.phase }, { on := 1, ground := Ground.phase }, { on := 2, ground := Ground.phase }, { on := 3, ground := Ground.phase }, { on := 4, ground := Ground.phase }, { on := 5, ground := Ground.phase }, { on := 6, ground := Ground.phase }, { on := 7, ground := Ground.phase }, { on := 8, ground := Ground.phase }, { on := 9, ground := Ground.phase }, { on := 10, ground := Ground.phase }, { on := 11, ground := Ground.phase }, { on := 12, ground := Ground.phase }, { on := 13, ground := Ground.phase }, { on := 14, ground := Ground.phase }], guard := none } : Oper)) (v := ?_) rfl (by kernel_rfl) (by kernel_rfl) (by kernel_rfl) (fun _ _ _ h => h) (Or.inl ⟨by rfl, ?_⟩) hS ?_
          rotate_left
          · (intro w hSw; (try dsimp only at hSw); go_simp; try with_reducible rfl)
          (try simp only [Act.put, List.setIfInBounds_toArray, List.set_cons_zero, List.set_cons_succ])
          refine wpAnyH_done (by kernel_rfl) ?_ _
          have HB8 := Lib.hid (bch HB.out hS)
          have HK8 := Lib.hid (HK.out.keep hS)
          have HRW8 := Lib.hid (HRW.out.keep hS)
          clear hS hN HG HGE HOH HOU
          go_wp2
          go_ret2
          exact ⟨_, [], by rw [HR2.out]; rfl, RW.nil _ _ _, rfl, HB8.out⟩
    · obtain rfl : i = n := by omega
      have hJN := HX.out
      rw [List.drop_of_length_le (by rw [List.length_map, HL.out]; omega)] at hJN
      obtain ⟨z0, z1⟩ := HK.out.cells
      cases o with
      | true =>
        simp only [jRun, if_pos, Prod.mk.injEq] at hJN
        obtain ⟨rfl, rfl⟩ := hJN
        go_wp2
        go_ret2
        exact ⟨_, rfl, [], RW.nil _ _ _, rfl, HB.out⟩
      | false =>
        simp only [jRun] at hJN
        obtain ⟨rfl, rfl⟩ := hJN
        go_wp2
        go_ret2
        refine ⟨_, rfl, rs, ?_, rfl, HB.out⟩
        rw [HRW.out.len]
        exact HRW.out
end Go.Proofs.Ytbnedcghbdphlaa
