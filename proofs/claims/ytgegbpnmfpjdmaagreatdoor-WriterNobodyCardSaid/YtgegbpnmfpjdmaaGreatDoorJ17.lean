/-
  TEXTS JOINED: FragEnc, ImgPad, ImgYb, PlanPart, StampRef, StampSeal, PlanWrite. Each one's own words stand at its head.
-/
import Derived.Test.YtgegbpnmfpjdmaaGreatDoorJ16
import Derived.Test.YtgegbpnmfpjdmaaGreatDoorJ12
import Derived.Test.YtgegbpnmfpjdmaaGreatDoorJ14
import Derived.Test.YtgegbpnmfpjdmaaGreatDoorJ13
import Derived.Test.YtgegbpnmfpjdmaaGreatDoorJ3
import Derived.Test.YtgegbpnmfpjdmaaGreatDoorJ0
import Derived.Lib.SliceRun
namespace Go.Proofs.YtgegbpnmfpjdmaaGreatDoor
open Go.RowKit
theorem enc_head (k e : Int) (n : Nat) (hk : 0 ≤ k ∧ k ≤ 255) : splice (splice (splice z11 4 (putL n 2)) 6 (putL k 1)) 7 (putL e 4) = [0, 0, 0, 0] ++ fragK k e n := by
  have h1 : putL k 1 = [k] := by simp [putL, List.range_succ]; omega
  unfold fragK
  rw [h1]
  have h2 := putL_length n 2
  have h4 := putL_length e 4
  generalize putL n 2 = a at *
  generalize putL e 4 = b at *
  match a, b, h2, h4 with
  | [a0, a1], [b0, b1, b2, b3], _, _ => simp [splice, z11, List.replicate]
theorem enc_sum (k e : Int) (n m : Nat) : splice ([0, 0, 0, 0] ++ fragK k e n) 0 (putL m 4) = putL m 4 ++ fragK k e n := by
  have h4 := putL_length m 4
  generalize putL m 4 = b at *
  match b, h4 with
  | [b0, b1, b2, b3], _ => simp [splice]
set_option maxRecDepth 8000 in
set_option maxHeartbeats 4000000 in
theorem fenc_right (k e : Int) (a : Option Addr) (n cap : Nat) (d : List Int) (w : World) (ht : Tab w) (hr : fragOk k n = true) (he : 0 ≤ e ∧ e ≤ 4294967295) (hri : RI .u8 w (.slice a n cap) n d) (hbd : isB d) :
    Calls Tryz.prog 92 #[.agg (fA k e (.slice a n cap))] w fun r w' => ∃ p c, r = .returned (.tuple #[.slice p (11 + n) c, .int .i64 0]) ∧ RI .u8 w' (.slice p (11 + n) c) (11 + n) (fragB k e d) ∧ Below w.heap.size w w' := by
  have hp := fok_parts hr
  have hd := hri.length
  obtain ⟨he0, he1⟩ := he
  obtain ⟨m, hm⟩ : ∃ m, fragS k e d = m := ⟨_, rfl⟩
  have hm8 : (m : Int) ≤ 4294967295 := by have := fragS_lt k e d; omega
  obtain ⟨z1, hz1⟩ : ∃ z, splice z11 4 (putL n 2) = z := ⟨_, rfl⟩
  obtain ⟨z2, hz2⟩ : ∃ z, splice z1 6 (putL k 1) = z := ⟨_, rfl⟩
  obtain ⟨z3, hz3⟩ : ∃ z, splice z2 7 (putL e 4) = z := ⟨_, rfl⟩
  obtain ⟨z4, hz4⟩ : ∃ z, splice z3 0 (putL m 4) = z := ⟨_, rfl⟩
  have h3 : z3 = [0, 0, 0, 0] ++ fragK k e n := by rw [← hz3, ← hz2, ← hz1]; exact enc_head k e n (by omega)
  have h4 : z4 = putL m 4 ++ fragK k e n := by rw [← hz4, h3]; exact enc_sum k e n m
  have h3b : isB z3 := by rw [h3]; exact isB.append (fun x hx => by simp at hx; omega) (fragK_bytes (by omega) e n)
  have hsm : maskS (ofS (z3.drop 4 ++ d)) = m := by rw [← hm, h3]; unfold fragS fragT; rw [hd]; rfl
  have HZ4 : Hid ((z4.drop 0).take 11 = z4 ∧ z4 ++ d = fragB k e d) := Lib.hid ⟨by rw [List.drop_zero, List.take_of_length_le (by rw [h4]; simp [putL_length, fragK_length])], by rw [h4, ← hm]; unfold fragB fragT; rw [hd, List.append_assoc]⟩
  have HO : Hid (∀ w, Calls Tryz.prog 111 #[.agg (fA k e (.slice a n cap))] w fun e w' => e = .returned (.bool true) ∧ Below w.heap.size w w') := Lib.hid fun w => by rw [← hr]; exact fright_any k e a n cap w
  have HPA : Hid (∀ w b, HD w b z11 → Calls Tryz.prog 112 #[.pointer (some ⟨b, 0, none⟩), .int .i64 4, .int .i64 6, .int .u64 n] w fun e w' => e = .returned (.tuple #[]) ∧ HD w' b z1 ∧ Below b w w') := Lib.hid fun w b h => by rw [← hz1]; exact fpth_any b 4 2 6 rfl (by omega) (by omega) (by omega) n h
  have HPB : Hid (∀ w b, HD w b z1 → Calls Tryz.prog 112 #[.pointer (some ⟨b, 0, none⟩), .int .i64 6, .int .i64 7, .int .u64 k] w fun e w' => e = .returned (.tuple #[]) ∧ HD w' b z2 ∧ Below b w w') := Lib.hid fun w b h => by rw [← hz2]; exact fpth_any b 6 1 7 rfl (by omega) (by omega) (by omega) k h
  have HPC : Hid (∀ w b, HD w b z2 → Calls Tryz.prog 112 #[.pointer (some ⟨b, 0, none⟩), .int .i64 7, .int .i64 11, .int .u64 e] w fun e w' => e = .returned (.tuple #[]) ∧ HD w' b z3 ∧ Below b w w') := Lib.hid fun w b h => by rw [← hz3]; exact fpth_any b 7 4 11 rfl (by omega) (by omega) (by omega) e h
  have HPD : Hid (∀ w b, HD w b z3 → Calls Tryz.prog 112 #[.pointer (some ⟨b, 0, none⟩), .int .i64 0, .int .i64 4, .int .u64 m] w fun e w' => e = .returned (.tuple #[]) ∧ HD w' b z4 ∧ Below b w w') := Lib.hid fun w b h => by rw [← hz4]; exact fpth_any b 0 4 4 rfl (by omega) (by omega) (by omega) m h
  have HS : Hid (∀ w b, Tab w → HD w b z3 → RI .u8 w (.slice a n cap) n d → Calls Tryz.prog 113 #[.pointer (some ⟨b, 0, none⟩), .slice a n cap] w fun e w' => e = .returned (.int .u64 m) ∧ w = w') := Lib.hid fun w b h1 h2 h3 => fsmh_any b h1 h2 h3b h3 hbd hsm
  have HC : Hid (∀ w b, Calls Tryz.prog 114 #[.pointer (some ⟨b, 0, none⟩), .int .i64 0, .int .i64 11] w fun e w' => e = .returned (.slice (some ⟨b, 0, none⟩) 11 11) ∧ w = w') := Lib.hid fun w b => hcut_any b 0 11 11 rfl (by omega) (by omega) w
  obtain ⟨w0, hw0⟩ : ∃ q, w.alloc (.cells (fA k e (.slice a n cap)) 143) = q := ⟨_, rfl⟩
  have HA : Hid (FO w0 w.heap.size k e (.slice a n cap)) := Lib.hid (by rw [← hw0]; exact FO.alloc w)
  have HB : Hid (Below w.heap.size w w0) := Lib.hid (by rw [← hw0]; exact balloc w _)
  have HR := Lib.hid (hri.keep HB.out)
  have HT := Lib.hid (ht.keep HB.out)
  have HN : Hid (n ≤ 197) := Lib.hid hp.2.2
  have hn9 : (n : Int) ≤ 197 := by omega
  have hk1 : 1 ≤ k := hp.1
  have hk4 : k ≤ 4 := hp.2.1
  clear hr hri hp hd hbd hm hz1 hz2 hz3 hz4 h3 h4 h3b hsm ht
  go_enter Tryz.func92, Tryz.ntmps92
  go_wp2_with (first
    | (go_at_call 111; (with_reducible refine (HO.out _).mono ?_); rintro r w1 ⟨rfl, hb1⟩; have HH2 : Hid (HD (w1.alloc (.cells #[.int .u8 0, .int .u8 0, .int .u8 0, .int .u8 0, .int .u8 0, .int .u8 0, .int .u8 0, .int .u8 0, .int .u8 0, .int .u8 0, .int .u8 0] 162)) w1.heap.size z11) := Lib.hid (HD.new w1 z11 z11_length); have HB2 : Hid (Below w1.heap.size w1 (w1.alloc (.cells #[.int .u8 0, .int .u8 0, .int .u8 0, .int .u8 0, .int .u8 0, .int .u8 0, .int .u8 0, .int .u8 0, .int .u8 0, .int .u8 0, .int .u8 0] 162))) := Lib.hid (balloc _ _); have HA1 := Lib.hid (HA.out.keep hb1); have HR1 := Lib.hid (HR.out.keep hb1); have HT1 := Lib.hid (HT.out.keep hb1); have HB1 := Lib.hid (bch HB.out hb1); obtain ⟨x0, x1, x2⟩ := (HA1.out.keep HB2.out).cells; clear hb1)
    | (go_at_call 112; (with_reducible refine (HPA.out _ _ HH2.out).mono ?_); rintro r w3 ⟨rfl, hh3, hb3⟩; have HH3 := Lib.hid hh3; have HB3 := Lib.hid (HB2.out.trans hb3); obtain ⟨y0, y1, y2⟩ := (HA1.out.keep HB3.out).cells; clear hh3 hb3)
    | (go_at_call 112; (with_reducible refine (HPB.out _ _ HH3.out).mono ?_); rintro r w4 ⟨rfl, hh4, hb4⟩; have HH4 := Lib.hid hh4; have HB4 := Lib.hid (HB3.out.trans hb4); obtain ⟨u0, u1, u2⟩ := (HA1.out.keep HB4.out).cells; clear hh4 hb4)
    | (go_at_call 112; (with_reducible refine (HPC.out _ _ HH4.out).mono ?_); rintro r w5 ⟨rfl, hh5, hb5⟩; have HH5 := Lib.hid hh5; have HB5 := Lib.hid (HB4.out.trans hb5); have HT5 := Lib.hid (HT1.out.keep HB5.out); have HR5 := Lib.hid (HR1.out.keep HB5.out); obtain ⟨v0, v1, v2⟩ := (HA1.out.keep HB5.out).cells; clear hh5 hb5)
    | (go_at_call 113; (with_reducible refine (HS.out _ _ HT5.out HH5.out HR5.out).mono ?_); rintro r w' ⟨rfl, rfl⟩)
    | (go_at_call 112; (with_reducible refine (HPD.out _ _ HH5.out).mono ?_); rintro r w6 ⟨rfl, hh6, hb6⟩; have HH6 := Lib.hid hh6; have HB6 := Lib.hid (HB5.out.trans hb6); have HR6 := Lib.hid (HR1.out.keep HB6.out); have HX6 := Lib.hid (HA1.out.keep HB6.out).cells.2.2; clear hh6 hb6)
    | (refine wpl_load_fr rfl (.tmp 1) rfl rfl HA.out ?_))
  refine wp_region_held_drew (S := (fun W' => Below w6.heap.size w6 W')) (by kernel_rfl) ((Below.refl _ _).drew) (fun hS => ?_)
  refine rgw 1 ⟨some 26, .fieldAddr 143 (.tmp 1) 2, 0, _, _, none⟩ hS ?_
  refine rgw 2 ⟨some 27, .load 43 (.tmp 26), 43, _, _, none⟩ hS ?_ (hy := by intro w hSw; (try dsimp only at hSw); have z := cell_keep hSw HX6.out; go_simp; try with_reducible rfl)
  refine rg_one 0 ⟨some 25, .call { callee := .value (.func 114), args := #[.tmp 4, .const (.int .i64 0), .const (.int .i64 11)], argTypes := #[162, 3, 3] }, 43, _, _, none⟩ (by kernel_rfl) rfl (fun K hK => ?_)
  go_simp
  (go_at_call 114; (with_reducible refine (HC.out _ _).mono ?_); rintro e w' ⟨rfl, rfl⟩)
  refine hK.out _ _ ?_ (fun hS1 => ?_)
  · (first | exact hN | exact hS)
  clear hK K hS; have hS := hS1; clear hS1
  (try simp only [rgp])
  refine rg_one 3 ⟨some 28, .call { callee := .builtin Builtin.append, args := #[.tmp 25, .tmp 27], argTypes := #[43, 43] }, 43, _, _, none⟩ (by kernel_rfl) rfl (fun K hK => ?_)
  rw [if_pos (by rfl)]; refine wp_app_full (.tmp 25) (.tmp 27) 43 rfl 5 .u8 1 Tryz.underlying43 Tryz.info_u8 w1.heap.size 0 11 z4 rfl (by have := (HH6.out.keep hS).ri 0 11 (by omega); rwa [HZ4.out.1] at this) _ n d rfl (HR6.out.keep hS) (by omega) (by have := HN.out; omega) (by have := HN.out; omega) ?_; intro p9 c9 w9 hr9 hb9; have HR9 := Lib.hid hr9; have hN := hS.trans (hb9.mono hS.size); clear hr9 hb9
  refine hK.out _ _ ?_ (fun hS1 => ?_)
  · (first | exact hN | exact hS)
  clear hK K hS; have hS := hS1; clear hS1
  (try simp only [rgp])
  refine rgw 4 ⟨some 2, .assign (.tmp 28), 43, _, _, none⟩ hS ?_
  refine rgw 5 ⟨some 3, .assign (.const (.int .i64 0)), 32, _, _, none⟩ hS ?_
  refine wpAnyH_done (by kernel_rfl) ?_ _
  go_wp2
  go_ret2
  have h9 := HR9.out
  rw [HZ4.out.2] at h9
  exact ⟨p9, c9, rfl, h9, bch HB1.out (bch HB6.out hS)⟩
end Go.Proofs.YtgegbpnmfpjdmaaGreatDoor
namespace Go.Proofs.YtgegbpnmfpjdmaaGreatDoor
open Go.RowKit
theorem grown_below {w w' : World} {g : Nat} (h : Below w.heap.size w w') : w.grownBy w' (some g) := ⟨h.os, h.tape, h.output, h.size, fun k hk _ => h.block k hk⟩
theorem grown_chain {a b c : World} {g : Nat} (h : a.grownBy b (some g)) (k : Below b.heap.size b c) : a.grownBy c (some g) := grown_trans h (grown_below k)
theorem u32_wrap (x : Int) : IntKind.u32.wrap x = x % 4294967296 := by simp [IntKind.wrap, IntKind.signed, IntKind.bits]
theorem YB.lt {w : World} {g : Nat} {zs : List Int} (h : YB w g zs) : g < w.heap.size := (Array.getElem?_eq_some_iff.1 h).1
def pad8 (zs : List Int) : List Int := splice z832 0 (zs.take 832)
theorem z832_len : z832.length = 832 := List.length_replicate
theorem pad8_len (zs : List Int) : (pad8 zs).length = 832 := by
  unfold pad8
  rw [splice_len _ _ _ (by rw [z832_len, List.length_take]; omega), z832_len]
theorem pad8_full {zs : List Int} (h : zs.length = 832) : pad8 zs = zs := by
  unfold pad8 splice
  rw [List.take_of_length_le (l := zs) (by omega), h, List.drop_eq_nil_of_le (by rw [z832_len]; omega), List.take_zero, List.nil_append, List.append_nil]
theorem PS.over {w w' : World} {base : Nat} {v : Value} {ps : List PC} (h : w.ownsRow base 83 4 v ps.length (pF ps)) {g : Nat} (hg : w.grownBy w' (some g)) (hne : ∀ q, v.ownBlock = some q → q ≠ g) : PS w' v ps :=
  PS.own (own_over h hg (fun q hq e => hne q hq (Option.some.inj e)))
end Go.Proofs.YtgegbpnmfpjdmaaGreatDoor
namespace Go.Proofs.YtgegbpnmfpjdmaaGreatDoor
open Go.RowKit
theorem wpl_mk_yb {w : World} {ops : Array Oper} {rest : List Oper} {o : Oper} {a : Act} {Q : Exit → Act → World → Prop} (hgd : o.guard = none) (x y : Operand) (ho : o.op = Op.makeSlice 43 x y) (n : Nat) (hx : a.eval x = .int .i64 (n : Int)) (hy : a.eval y = .int .i64 (n : Int)) (hn : n ≤ 1000000)
    (h : ∀ g w', Hid (YB w' g (List.replicate n 0)) → Hid (w.heap.size ≤ g) → Hid (Below w.heap.size w w') → wpList Tryz.prog ops Q rest (a.put o.dst (.slice (some ⟨g, 0, none⟩) n n)) w') : wpList Tryz.prog ops Q (o :: rest) a w := by
  refine wpList_plain hgd fun K hK => ?_
  have hrun := make_bytes_run n (by omega) w
  unfold Oper.wp
  simp [execOp, ho, hx, hy, hrun, Result.andThen]
  exact hK _ _ (h _ _ (heap_alloc_last w _) (Nat.le_refl _) (below_alloc w _))
theorem wpl_copy_ybm {ops : Array Oper} {rest : List Oper} {o : Oper} {a : Act} {w : World} {Q : Exit → Act → World → Prop} (hgd : o.guard = none) (d s : Operand)
    (ho : o.op = .call { callee := .builtin .copy, args := #[d, s], argTypes := #[43, 43] }) (g off dLen dCap : Nat) (cur : List Int) (hblk : YB w g cur)
    (hd : a.eval d = .slice (some ⟨g, off, none⟩) dLen dCap) (v : Value) (n : Nat) (zs : List Int) (hs : a.eval s = v) (hri : RI .u8 w v n zs) (hfit : off + dLen ≤ cur.length)
    (h : ∀ w' k, Hid (YB w' g (splice cur off (zs.take dLen))) → Hid (w.grownBy w' (some g)) → wpList Tryz.prog ops Q rest (a.put o.dst (goInt k)) w') : wpList Tryz.prog ops Q (o :: rest) a w := by
  by_cases hnd : n ≤ dLen
  · refine wpl_copy_yb hgd d s ho g off dLen dCap cur hblk hd v n zs hs hri hnd hfit fun w' h1 h2 => ?_
    rw [List.take_of_length_le (by rw [hri.length]; exact hnd)] at h
    exact h w' _ h1 h2
  · obtain ⟨sp, sCap, rfl, hl, _, _, _, hc⟩ := hri
    obtain ⟨b, of2, rfl, hcell⟩ := hc (by omega)
    have hmin : Nat.min n dLen = dLen := Nat.min_eq_right (by omega)
    have htl : (zs.take dLen).length = dLen := by rw [List.length_take]; omega
    have hcl : (il .u8 (zs.take dLen)).length = dLen := by rw [il_length, htl]
    refine wpList_copy_own hgd d s 43 43 ho 5 Tryz.underlying43 u8_size1 g off dLen dCap ⟨b, of2, none⟩ n sCap hd hs (il .u8 cur).toArray 5 hblk (il .u8 (zs.take dLen)) (by rw [hcl, hmin]) ?_ (by rw [hcl]; simpa [il_length] using hfit) (il_one _ _) ?_
    · intro j u hj
      have hjl : j < (zs.take dLen).length := by have := (List.getElem?_eq_some_iff.1 hj).1; rwa [il_length] at this
      rw [il_get _ _ _ hjl] at hj
      rw [Addr.add_mid, hcell j (by omega)]
      rw [← hj]
      simp only [List.getD, List.getElem?_take, show j < dLen by omega, if_true]
    · rw [hcl]
      refine h _ _ (Lib.hid ?_) (grown_row _ _ _)
      unfold YB
      rw [← il_splice]
      have := setRow_at hblk ((il .u8 cur).toArray.toList.take off ++ (il .u8 (zs.take dLen) ++ (il .u8 cur).toArray.toList.drop (off + dLen))).toArray
      simpa [splice, hcl] using this
theorem YB.stored {w : World} {g : Nat} {zs : List Int} (h : YB w g zs) (j : Nat) (z : Int) : YB (w.setCell ⟨g, j, none⟩ (.int .u8 z)) g (zs.set j z) := by
  unfold YB at *
  have := Joins.block_setCell (i := j) h (.int .u8 z)
  simpa [il, List.map_set] using this
theorem YB.cell {w : World} {g : Nat} {zs : List Int} (h : YB w g zs) (j : Nat) (hj : j < zs.length) : w.cell? ⟨g, j, none⟩ = some (.int .u8 (zs.getD j 0)) := by
  rw [cell_of_row w g j _ _ _ h]
  simpa using il_get .u8 zs j hj
theorem YB.frozen {w : World} {g : Nat} {zs : List Int} (h : YB w g zs) (j : Nat) : w.frozen? ⟨g, j, none⟩ = false := Joins.unfrozen_of_block h j
theorem il_splice1 (zs : List Int) (i : Nat) (b : Int) (hi : i < zs.length) : splice (il .u8 zs) i [Value.int .u8 b] = il .u8 (zs.set i b) := by
  refine List.ext_getElem? fun q => ?_
  rw [splice_get _ _ _ (by rw [il_length]; simp; omega)]
  unfold il
  rw [List.map_set]
  by_cases h3 : q < i
  · rw [if_pos h3, List.getElem?_set_ne (by omega)]
  · rw [if_neg h3]
    by_cases h4 : q = i
    · subst h4
      rw [if_pos (by simp), List.getElem?_set_self (by simpa using hi), Nat.sub_self]; rfl
    · rw [if_neg (by simp; omega), List.getElem?_set_ne (by omega)]
theorem yb_store_run {w : World} {g i : Nat} {zs : List Int} (b : Int) (h : YB w g zs) (hi : i < zs.length) : (storeVar 5 ⟨g, i, none⟩ (.int .u8 b)).run Tryz.prog w = .ok () (w.setCells g i [.int .u8 b]) := by
  have hc := h.cell i hi
  have := run_storeCells_cells (P := Tryz.prog) g i [Value.int .u8 b] 0 w (fun j hj => by simp at hj; subst hj; simp [hc]) (fun j hj => Joins.unfrozen_of_block h _) (fun u hu => by simp at hu; subst hu; rfl)
  obtain ⟨n, hn, hs⟩ := Option.map_eq_some_iff.1 u8_size1
  simp only [Nat.add_zero] at this
  simp [storeVar, sizeOf, typeInfo, hn, show (Value.int .u8 b).cells = #[.int .u8 b] from rfl, hs, this]
theorem wp_put_yb {w : World} {o : Oper} {a : Act} {K : Act → World → Prop} {Q : Exit → Act → World → Prop} (x y : Operand) (ho : o.op = .store 5 x y)
    (g i : Nat) (zs : List Int) (b : Int) (h : YB w g zs) (hi : i < zs.length) (hx : a.eval x = .pointer (some ⟨g, i, none⟩)) (hy : a.eval y = .int .u8 b)
    (hK : ∀ w', Hid (YB w' g (zs.set i b)) → Hid (w.grownBy w' (some g)) → K (a.put o.dst undef) w') : Oper.wp Tryz.prog o a w K Q := by
  unfold Oper.wp execOp
  simp only [ho, hx, hy, Instr.storeAt, Instr.sureAddr, Sem.run_bind, Sem.run_pure, Result.andThen_ok, yb_store_run b h hi]
  refine hK _ ?_ (grown_setCells _ _ _ _)
  unfold YB
  have h1 := heap_setCells g 5 (0, 0) [Value.int .u8 b] i w (il .u8 zs) (by rw [il_length]; simp; omega) h
  rwa [il_splice1 _ _ _ hi] at h1
theorem wpl_put_yb {w : World} {ops : Array Oper} {rest : List Oper} {o : Oper} {a : Act} {Q : Exit → Act → World → Prop} (hgd : o.guard = none) (x y : Operand) (ho : o.op = .store 5 x y)
    (g i : Nat) (zs : List Int) (b : Int) (h : YB w g zs) (hi : i < zs.length) (hx : a.eval x = .pointer (some ⟨g, i, none⟩)) (hy : a.eval y = .int .u8 b)
    (hK : ∀ w', Hid (YB w' g (zs.set i b)) → Hid (w.grownBy w' (some g)) → wpList Tryz.prog ops Q rest (a.put o.dst undef) w') : wpList Tryz.prog ops Q (o :: rest) a w :=
  wpList_plain hgd fun _ hk => wp_put_yb x y ho g i zs b h hi hx hy fun w' h1 h2 => hk _ _ (hK w' h1 h2)
theorem splice_set (L cs : List Int) (off k : Nat) (hk : k < cs.length) (hf : off + cs.length ≤ L.length) : (splice L off (cs.take k)).set (off + k) (cs.getD k 0) = splice L off (cs.take (k + 1)) := by
  refine List.ext_getElem? fun q => ?_
  have h1 : (cs.take k).length = k := by rw [List.length_take]; omega
  have h2 : (cs.take (k + 1)).length = k + 1 := by rw [List.length_take]; omega
  have hl : (splice L off (cs.take k)).length = L.length := by unfold splice; simp; omega
  rw [splice_get _ _ _ (by omega), h2]
  by_cases e : q = off + k
  · subst e
    rw [List.getElem?_set_self (by omega), if_neg (by omega), if_pos (by omega), Nat.add_sub_cancel_left]
    simp [List.getD, hk]
  · rw [List.getElem?_set_ne (Ne.symm e), splice_get _ _ _ (by omega), h1]
    by_cases h3 : q < off
    · rw [if_pos h3, if_pos h3]
    · rw [if_neg h3, if_neg h3]
      by_cases h4 : q < off + k
      · rw [if_pos h4, if_pos (by omega), List.getElem?_take, List.getElem?_take, if_pos (by omega), if_pos (by omega)]
      · rw [if_neg h4, if_neg (by omega)]
end Go.Proofs.YtgegbpnmfpjdmaaGreatDoor
namespace Go.Proofs.YtgegbpnmfpjdmaaGreatDoor
open Go.RowKit
def qF (len i : Nat) : Nat := min (i * 52) len
def qN (len i : Nat) : Nat := min (qF len i + 52) len - qF len i
theorem part_list (zs : List Int) (len i : Nat) (h : zs.length = len) : (zs.drop (qF len i)).take (qN len i) = partB zs i := by
  unfold qN qF partB
  by_cases h1 : i * 52 ≤ len
  · rw [Nat.min_eq_left h1, Nat.mul_comm]
    by_cases h2 : 52 * i + 52 ≤ len
    · rw [Nat.min_eq_left h2]; congr 1; omega
    · rw [Nat.min_eq_right (by omega), List.take_of_length_le (by simp; omega), List.take_of_length_le (by simp; omega)]
  · rw [Nat.min_eq_right (by omega), List.drop_eq_nil_of_le (by omega), List.drop_eq_nil_of_le (by omega)]; simp
set_option maxRecDepth 8000 in
set_option maxHeartbeats 800000 in
theorem part_any (a : Option Addr) (len cap i : Nat) (hlc : len ≤ cap) (hl : len ≤ 1000000) (hi : i ≤ 1000) (w : World) :
    Calls Tryz.prog 95 #[.slice a len cap, .int .i64 (i : Int)] w fun e w' => e = .returned (sliced a (qF len i) (qF len i + qN len i) (qF len i + qN len i) 1) ∧ w' = w := by
  have h1 : ((qF len i : Nat) : Int) = min ((i : Int) * 52) (len : Int) := by unfold qF; omega
  have h2 : ((qF len i + qN len i : Nat) : Int) = min (((qF len i : Nat) : Int) + 52) (len : Int) := by unfold qN; have : qF len i ≤ len := by unfold qF; omega
                                                                                                        omega
  generalize qF len i = f at *
  generalize qN len i = n at *
  have hfn : f + n ≤ len := by omega
  rw [h1] at h2
  obtain ⟨v, hv⟩ : ∃ v, sliced a f (f + n) (f + n) 1 = v := ⟨_, rfl⟩
  rw [hv]
  have HV := Lib.hid hv
  clear hv
  by_cases c1 : (len : Int) < (i : Int) * 52
  · have h4 : (len : Int) < len + 52 := by omega
    obtain rfl : f = len := by omega
    obtain rfl : n = 0 := by omega
    clear h1 h2
    go_enter Tryz.func95, Tryz.ntmps95
    go_wp2
    go_ret
    exact ⟨by rw [← HV.out]; simp [sliced], rfl⟩
  · obtain rfl : f = i * 52 := by omega
    by_cases c2 : (len : Int) < (i : Int) * 52 + 52
    · obtain ⟨m, rfl⟩ : ∃ m, len = i * 52 + m := ⟨len - i * 52, by omega⟩
      obtain rfl : n = m := by omega
      clear h1 h2
      by_cases h0 : n = 0
      · subst h0
        go_enter Tryz.func95, Tryz.ntmps95
        go_wp2
        go_ret
        exact ⟨by rw [← HV.out]; simp [sliced], rfl⟩
      · go_enter Tryz.func95, Tryz.ntmps95
        go_wp2
        go_ret
        exact ⟨by rw [← HV.out]; simp [sliced, h0], rfl⟩
    · obtain rfl : n = 52 := by omega
      clear h1 h2
      go_enter Tryz.func95, Tryz.ntmps95
      go_wp2
      go_ret
      exact ⟨by rw [← HV.out]; simp [sliced], rfl⟩
theorem part_ri (v : Value) (len i : Nat) (zs : List Int) (hl : len ≤ 1000000) (hi : i ≤ 1000) (w : World) (h : RI .u8 w v len zs) :
    Calls Tryz.prog 95 #[v, .int .i64 (i : Int)] w fun e w' => ∃ v', e = .returned v' ∧ RI .u8 w v' (qN len i) (partB zs i) ∧ w' = w := by
  have hzl := h.length
  obtain ⟨a, cap, rfl, _, hc, _⟩ := id h
  refine (part_any a len cap i hc hl hi w).mono ?_
  rintro e w' ⟨rfl, rfl⟩
  refine ⟨_, rfl, ?_, rfl⟩
  have hfn : qF len i + qN len i ≤ len := by unfold qN; have : qF len i ≤ len := by unfold qF; omega
                                             omega
  have := h.cut (qF len i) (qN len i) (qF len i + qN len i) hfn (Nat.le_refl _) (by omega)
  rwa [part_list zs len i hzl] at this
end Go.Proofs.YtgegbpnmfpjdmaaGreatDoor
namespace Go.Proofs.YtgegbpnmfpjdmaaGreatDoor
open Go.RowKit
theorem rput_ri (x : Int) (hx : U64 x) (n : Nat) (hn : n ≤ 8) (w : World) :
    Calls Tryz.prog 122 #[.int .u64 x, .int .i64 n] w fun e w' => ∃ v, e = .returned v ∧ RI .u8 w' v n (putL x n) ∧ Below w.heap.size w w' :=
  (rput_any x n n hx (by unfold I63; omega) (by unfold clampI; omega) w).mono fun _ _ ⟨v, he, ho, hb⟩ => ⟨v, he, RI.own ho, hb⟩
theorem u64_wrap (i : Int) : IntKind.u64.wrap i = i % 18446744073709551616 := by
  simp [IntKind.wrap, IntKind.signed, IntKind.bits]
set_option maxRecDepth 8000 in
set_option maxHeartbeats 400000 in
theorem byte_any (x i : Int) (hx : U64 x) (hi : I63 i) (v : Value) (len : Nat) (zs : List Int) (w : World) (hri : RI .u8 w v len zs) (j : Nat) (hj : j < 64) (z : Int) (hz : (sealed x i zs).getD j 0 = z) :
    Calls Tryz.prog 125 #[.int .u64 x, .int .i64 i, v, .int .i64 j] w fun e w' => e = .returned (.int .u8 z) ∧ Below w.heap.size w w' := by
  have HR := Lib.hid hri
  have hlr := hri.le
  have hzl := hri.length
  obtain ⟨a, cap, rfl, _⟩ := hri
  have hi' : -9223372036854775808 ≤ i ∧ i ≤ 9223372036854775807 := hi
  by_cases h8 : j < 8
  · have HG := Lib.hid (hz.symm.trans (sealed_get1 x i zs j h8))
    have h8' : (j : Int) < 8 := by omega
    clear hz
    go_enter Tryz.func125, Tryz.ntmps125
    go_wp2_with (first
      | (go_at_call 122; (refine (rput_ri x hx 8 (by omega) _).mono ?_); rintro e w1 ⟨v1, rfl, hr, hb⟩; obtain ⟨b, off, cp, rfl, hcp, hcp2, hcell⟩ := hr.open_ (by omega); have hc1 := hcell j (by omega); rw [← HG.out] at hc1; have HB := Lib.hid hb; clear hb hr hcell))
    go_ret
    exact ⟨rfl, HB.out⟩
  by_cases h12 : j < 12
  · have HG := Lib.hid (hz.symm.trans (sealed_get2 x i zs j (by omega) h12))
    have h8' : ¬ (j : Int) < 8 := by omega
    have h12' : (j : Int) < 12 := by omega
    have hjj : (j : Int) - 8 = ((j - 8 : Nat) : Int) := by omega
    have hj4 : ((j - 8 : Nat) : Int) < 4 := by omega
    obtain ⟨y, hy⟩ : ∃ y, IntKind.u64.wrap i = y := ⟨_, rfl⟩
    have hyu : U64 y := by rw [u64_wrap] at hy; unfold U64; omega
    have HY := Lib.hid (show putL y 4 = putL i 4 from by rw [← hy, u64_wrap]; exact putL_wrap i)
    clear hz
    go_enter Tryz.func125, Tryz.ntmps125
    go_wp2_with (first
      | (go_at_call 122; go_loud (refine (rput_ri y hyu 4 (by omega) _).mono ?_); rintro e w1 ⟨v1, rfl, hr, hb⟩; obtain ⟨b, off, cp, rfl, hcp, hcp2, hcell⟩ := hr.open_ (by omega); have hc1 := hcell (j - 8) (by omega); rw [HY.out, ← HG.out] at hc1; have HB := Lib.hid hb; clear hb hr hcell))
    go_ret
    exact ⟨rfl, HB.out⟩
  · have HG := Lib.hid (hz.symm.trans (sealed_get3 x i zs j (by omega) hj))
    have h8' : ¬ (j : Int) < 8 := by omega
    have h12' : ¬ (j : Int) < 12 := by omega
    have hjj : (j : Int) - 12 = ((j - 12 : Nat) : Int) := by omega
    by_cases hlt : j - 12 < len
    · obtain ⟨b, off, cp, e, hcp, hcp2, hcell⟩ := HR.out.open_ (by omega)
      simp only [Value.slice.injEq, true_and] at e
      obtain ⟨rfl, rfl⟩ := e
      have hc1 := hcell (j - 12) hlt
      rw [← HG.out] at hc1
      have hlt' : ((j - 12 : Nat) : Int) < (len : Int) := by omega
      clear hcell hz
      go_enter Tryz.func125, Tryz.ntmps125
      go_wp2_with fail
      go_ret
      exact ⟨rfl, Below.refl _ _⟩
    · have HZ := Lib.hid (show zs.getD (j - 12) 0 = 0 from by simp [List.getD, List.getElem?_eq_none (l := zs) (i := j - 12) (by omega)])
      have hlt' : ¬ ((j - 12 : Nat) : Int) < (len : Int) := by omega
      clear hz
      go_enter Tryz.func125, Tryz.ntmps125
      go_wp2_with fail
      go_ret
      exact ⟨ret_int (by rw [HG.out, HZ.out]), Below.refl _ _⟩
structure TS (W : World) (l : List Int) (k : Nat) (w : World) : Prop where
  below : Below W.heap.size W w
  old : Blk w W.heap.size z64
  new : Blk w (W.heap.size + 1) (part l k)
theorem TS.keep {W w w' : World} {l : List Int} {k : Nat} (h : TS W l k w) (hb : Below w.heap.size w w') : TS W l k w' := ⟨chain h.below hb, h.old.keep hb, h.new.keep hb⟩
theorem TS.start (W : World) (l : List Int) : TS W l 0 ((W.alloc (.cells (sv z64) 60)).alloc (.cells (sv z64) 60)) := by
  have h0 := below_alloc W (.cells (sv z64) 60)
  have s0 := alloc_size W (.cells (sv z64) 60)
  have b0 := Blk.new W z64 z64_length
  generalize W.alloc (.cells (sv z64) 60) = w0 at *
  have h1 := below_alloc w0 (.cells (sv z64) 60)
  have b1 := Blk.new w0 z64 z64_length
  refine ⟨chain h0 h1, b0.keep h1, ?_⟩
  rw [s0] at b1
  rw [part_zero]; exact b1
theorem TS.stored {W w : World} {l : List Int} {k : Nat} (h : TS W l k w) (z : Int) (hz : l.getD k 0 = z) : TS W l (k + 1) (w.setCell ⟨W.heap.size + 1, k, none⟩ (.int .u8 z)) := by
  subst hz
  have hn := h.new.stored k (l.getD k 0)
  rw [part_set] at hn
  exact ⟨h.below.setCell (by show W.heap.size ≤ W.heap.size + 1; omega) _, h.old.apart (by omega) _ _, hn⟩
theorem TS.row0 {W w : World} {l : List Int} (h : TS W l 0 w) : TS W l 0 (w.setRow (W.heap.size + 1) (sv z64)) :=
  ⟨below_row h.below (by omega) _, h.old.row_apart (by omega) _, by rw [part_zero]; exact h.new.row z64_length⟩
theorem TS.last {W w : World} {l : List Int} (h : TS W l 64 w) (hl : l.length = 64) : Blk w (W.heap.size + 1) l := by
  have := h.new; rwa [part_all l hl] at this
set_option maxRecDepth 8000 in
set_option maxHeartbeats 1000000 in
theorem rseal_any (x i : Int) (hx : U64 x) (hi : I63 i) (v : Value) (len : Nat) (zs : List Int) (w : World) (hri : RI .u8 w v len zs) :
    Calls Tryz.prog 104 #[.int .u64 x, .int .i64 i, v] w fun e w' => e = .returned (.agg (sv (sealed x i zs))) ∧ Below w.heap.size w w' := by
  have HR := Lib.hid hri
  have HX := Lib.hid hx
  have HI := Lib.hid hi
  obtain ⟨l, hl⟩ : ∃ l, sealed x i zs = l := ⟨_, rfl⟩
  have HL := Lib.hid (show l.length = 64 from by rw [← hl]; exact sealed_length x i zs)
  have HE := Lib.hid hl
  rw [hl]
  have HS0 := Lib.hid (TS.start w l)
  have HZ := Lib.hid z64_cells
  clear hri hx hi hl
  go_enter Tryz.func104, Tryz.ntmps104
  go_wp2_with (first
    | (rw [← HZ.out]; refine wpList_store_row rfl 60 _ _ rfl (w.heap.size + 1) (sv z64) rfl rfl _ (sv z64) HS0.out.new.1 (sv_info _ z64_length) rfl (sv_one _) ?_))
  have HS1 := Lib.hid (TS.row0 HS0.out)
  go_loopw [8] (fun iv wr => ∃ k : Nat, iv = .int .i64 k ∧ k ≤ 64 ∧ Hid (TS w l k wr)) (fun iv _ => 64 - (intOf iv).toNat)
  case atStart => exact ⟨0, rfl, by omega, HS1⟩
  case round =>
    obtain ⟨k, rfl, hk, HS⟩ := hrel
    by_cases hlt : (k : Int) < 64
    · have hk2 : k < 64 := by omega
      obtain ⟨z, hz⟩ : ∃ z, l.getD k 0 = z := ⟨_, rfl⟩
      have HK := Lib.hid hz
      clear hz
      go_wp2_with (first
        | (go_at_call 125; (refine (byte_any x i HX.out HI.out v len zs _ (HR.out.keep HS.out.below) k hk2 z (by rw [HE.out]; exact HK.out)).mono ?_); rintro e w' ⟨rfl, hb⟩; have HS2 := Lib.hid (HS.out.keep hb); have hcell := HS2.out.new.cell k hk2; have hfr := HS2.out.new.frozen k; clear hb))
      go_roundw
      case rel => exact ⟨k + 1, by go_num, by omega, Lib.hid (HS2.out.stored z HK.out)⟩
      case measure => simp [intOf]; omega
    · have hk2 : k = 64 := by omega
      subst hk2
      have HS3 := Lib.hid (HS.out.last HL.out)
      go_wp2_with (first
        | (refine wpList_load_row rfl 60 _ rfl (w.heap.size + 1) rfl _ (sv l) (0, 0) _ HS3.out.1 Tryz.underlying60 rfl (sv_info _ HL.out) ?_)
        | (refine wpList_store_row rfl 60 _ _ rfl w.heap.size (sv l) rfl rfl _ (sv z64) HS.out.old.1 (sv_info _ HL.out) (by rw [sv_size, sv_size, HL.out, z64_length]) (sv_one _) ?_))
      refine bodyPost_ret_by (v := .agg (sv l)) (results_cell_row rfl _ _ w.heap.size _ (sv l) (0, 0) _ rfl (HS.out.old.row HL.out).1 Tryz.underlying60 rfl (sv_info _ HL.out)) rfl ⟨rfl, below_row HS.out.below (Nat.le_refl _) _⟩
end Go.Proofs.YtgegbpnmfpjdmaaGreatDoor
namespace Go.Proofs.YtgegbpnmfpjdmaaGreatDoor
open Go.RowKit
theorem put_ri (x : Int) (n : Nat) (hn : n ≤ 8) (w : World) :
    Calls Tryz.prog 115 #[.int .u64 x, .int .i64 n] w fun e w' => e = .returned (.slice (some ⟨w.heap.size, 0, none⟩) n n) ∧ RI .u8 w' (.slice (some ⟨w.heap.size, 0, none⟩) n n) n (putL x n) ∧ Below w.heap.size w w' :=
  (put_any x n n (by unfold I63; omega) (by unfold clampI; omega) w).mono fun _ _ ⟨he, ho, hb⟩ => ⟨he, RI.own ho, hb⟩
structure TE (W : World) (l : List Int) (rm : Value) (len : Nat) (zs : List Int) (w : World) : Prop where
  below : Below W.heap.size W w
  old : Blk w W.heap.size z64
  new : Blk w (W.heap.size + 1) l
  arg : RI .u8 w rm len zs
theorem TE.next {W w w' : World} {l : List Int} {rm : Value} {len : Nat} {zs : List Int} (h : TE W l rm len zs w) (hb : Below w.heap.size w w') : TE W l rm len zs w' := ⟨chain h.below hb, h.old.keep hb, h.new.keep hb, h.arg.keep hb⟩
theorem TE.copied {W w w' : World} {l l' : List Int} {rm : Value} {len : Nat} {zs : List Int} (h : TE W l rm len zs w) (hr : RI .u8 W rm len zs) (hk : Blk w' (W.heap.size + 1) l') (hb : Below (W.heap.size + 1) w w') : TE W l' rm len zs w' := by
  have h1 : Below W.heap.size W w' := h.below.trans (hb.mono (by omega))
  exact ⟨h1, h.old.keepB hb (by omega), hk, hr.keep h1⟩
set_option maxRecDepth 8000 in
set_option maxHeartbeats 1000000 in
theorem seal_any (x i : Int) (_hx : U64 x) (hi : I63 i) (v : Value) (len : Nat) (zs : List Int) (w : World) (hri : RI .u8 w v len zs) :
    Calls Tryz.prog 94 #[.int .u64 x, .int .i64 i, v] w fun e w' => e = .returned (.agg (sv (sealed x i zs))) ∧ Below w.heap.size w w' := by
  have HR := Lib.hid hri
  have hi' : -9223372036854775808 ≤ i ∧ i ≤ 9223372036854775807 := hi
  obtain ⟨a, c, rfl, hzl, _⟩ : ∃ a c, v = .slice a len c ∧ zs.length = len ∧ True := by obtain ⟨a, c, e, h, _⟩ := hri; exact ⟨a, c, e, h, trivial⟩
  obtain ⟨y, hy⟩ : ∃ y, IntKind.u64.wrap i = y := ⟨_, rfl⟩
  have HY := Lib.hid (show putL y 4 = putL i 4 from by rw [← hy, u64_wrap]; exact putL_wrap i)
  have HT0 : Hid (TE w z64 (.slice a len c) len zs ((w.alloc (.cells (sv z64) 60)).alloc (.cells (sv z64) 60))) := by
    have h := TS.start w (List.replicate 64 0)
    exact ⟨h.below, h.old, by have := h.new; rwa [part_zero] at this, hri.keep h.below⟩
  have HSP := Lib.hid (sealed_splice x i zs)
  have HSL := Lib.hid (sealed_length x i zs)
  rw [hzl] at HSP
  have HZ := Lib.hid z64_cells
  clear hri hzl
  go_enter Tryz.func94, Tryz.ntmps94
  go_wp2
  rw [← HZ.out]
  refine wp_region_held_drew (S := (fun w' => Below w.heap.size w w')) (by kernel_rfl) (HT0.out.below.drew) (fun hS => ?_)
  refine rgw 0 ⟨some 8, .slice 60 (.tmp 7) none (some (.const (.int .i64 8))) none, 43, _, _, none⟩ hS ?_
  refine rgw 1 ⟨some 9, .move (.tmp 0), 22, _, _, none⟩ hS ?_
  refine rg_one 2 ⟨some 10, .call { callee := .value (.func 115), args := #[.tmp 9, .const (.int .i64 8)], argTypes := #[22, 3] }, 43, _, _, none⟩ (by kernel_rfl) rfl (fun K hK => ?_)
  go_simp
  (go_at_call 115; (refine (put_ri x 8 (by omega) _).mono ?_); rintro e w2 ⟨rfl, hr2, hb⟩; have HT2 := Lib.hid ((HT0.out.next ((Below.refl _ _).drew)).next hb); have hN := HT2.out.below)
  refine hK.out _ _ ?_ (fun hS1 => ?_)
  · (exact hN)
  clear hK K hS; have hS := hS1; clear hS1
  (try simp only [rgp])
  refine rg_one 3 ⟨some 11, .call { callee := .builtin Builtin.copy, args := #[.tmp 8, .tmp 10], argTypes := #[43, 43] }, 3, _, _, none⟩ (by kernel_rfl) rfl (fun K hK => ?_)
  refine step_copy_sec rfl (.tmp 8) (.tmp 10) rfl (w.heap.size + 1) 0 8 64 z64 HT2.out.new rfl _ 8 (putL x 8) rfl hr2 (by omega) ?_; intro w3 HK3 hb3; rw [show (putL x 8).take (min 8 8) = putL x 8 from List.take_of_length_le (by rw [putL_length]; omega)] at HK3; have HT3 := Lib.hid (HT2.out.copied HR.out HK3.out hb3); clear hN; have hN := HT3.out.below
  refine hK.out _ _ ?_ (fun hS1 => ?_)
  · (exact hN)
  clear hK K hS; have hS := hS1; clear hS1
  (try simp only [rgp])
  refine wpAnyH_done (by kernel_rfl) ?_ _
  clear hS hb3 hb hr2 HT2 HK3 hN
  go_wp2
  refine wp_region_held_drew (S := (fun w' => Below w.heap.size w w')) (by kernel_rfl) (HT3.out.below.drew) (fun hS => ?_)
  refine rgw 0 ⟨some 12, .slice 60 (.tmp 7) (some (.const (.int .i64 8))) (some (.const (.int .i64 12))) none, 43, _, _, none⟩ hS ?_
  refine rgw 1 ⟨some 13, .move (.tmp 1), 3, _, _, none⟩ hS ?_
  refine rgw 2 ⟨some 14, .convert 3 22 (.tmp 13), 22, _, _, none⟩ hS ?_
  refine rg_one 3 ⟨some 15, .call { callee := .value (.func 115), args := #[.tmp 14, .const (.int .i64 4)], argTypes := #[22, 3] }, 43, _, _, none⟩ (by kernel_rfl) rfl (fun K hK => ?_)
  go_simp
  (go_at_call 115; (refine (put_ri y 4 (by omega) _).mono ?_); rintro e w4 ⟨rfl, hr4, hb⟩; rw [HY.out] at hr4; have HT4 := Lib.hid ((HT3.out.next ((Below.refl _ _).drew)).next hb); have hN := HT4.out.below)
  refine hK.out _ _ ?_ (fun hS1 => ?_)
  · (exact hN)
  clear hK K hS; have hS := hS1; clear hS1
  (try simp only [rgp])
  refine rg_one 4 ⟨some 16, .call { callee := .builtin Builtin.copy, args := #[.tmp 12, .tmp 15], argTypes := #[43, 43] }, 3, _, _, none⟩ (by kernel_rfl) rfl (fun K hK => ?_)
  refine step_copy_sec rfl (.tmp 12) (.tmp 15) rfl (w.heap.size + 1) 8 4 56 _ HT4.out.new rfl _ 4 (putL i 4) rfl hr4 (by omega) ?_; intro w5 HK5 hb5; rw [show (putL i 4).take (min 4 4) = putL i 4 from List.take_of_length_le (by rw [putL_length]; omega)] at HK5; have HT5 := Lib.hid (HT4.out.copied HR.out HK5.out hb5); clear hN; have hN := HT5.out.below
  refine hK.out _ _ ?_ (fun hS1 => ?_)
  · (exact hN)
  clear hK K hS; have hS := hS1; clear hS1
  (try simp only [rgp])
  refine wpAnyH_done (by kernel_rfl) ?_ _
  clear hS hb5 hb hr4 HT4 HK5 hN
  go_wp2_with (first
    | ((refine wpl_copy_sec rfl (.tmp 17) (.tmp 18) rfl (w.heap.size + 1) 12 52 52 _ HT5.out.new rfl _ len zs rfl HT5.out.arg (by omega) ?_; intro w6 HK6 hb6; rw [show z64 = List.replicate 64 0 from rfl, HSP.out] at HK6; have HT6 := Lib.hid (HT5.out.copied HR.out HK6.out hb6); clear hb6))
    | (refine wpList_load_row rfl 60 _ rfl (w.heap.size + 1) rfl _ (sv (sealed x i zs)) (0, 0) _ HT6.out.new.1 Tryz.underlying60 rfl (sv_info _ HSL.out) ?_)
    | (refine wpList_store_row rfl 60 _ _ rfl w.heap.size (sv (sealed x i zs)) rfl rfl _ (sv z64) HT6.out.old.1 (sv_info _ HSL.out) (by rw [sv_size, sv_size, HSL.out, z64_length]) (sv_one _) ?_))
  refine bodyPost_ret_by (v := .agg (sv (sealed x i zs))) (results_cell_row rfl _ _ w.heap.size _ (sv (sealed x i zs)) (0, 0) _ rfl (HT6.out.old.row HSL.out).1 Tryz.underlying60 rfl (sv_info _ HSL.out)) rfl ⟨rfl, below_row HT6.out.below (Nat.le_refl _) _⟩
end Go.Proofs.YtgegbpnmfpjdmaaGreatDoor
namespace Go.Proofs.YtgegbpnmfpjdmaaGreatDoor
open Go.RowKit
theorem wpl_make_row {w : World} {ops : Array Oper} {rest : List Oper} {o : Oper} {a : Act} {Q : Exit → Act → World → Prop} (hgd : o.guard = none) (x y : Operand) (ho : o.op = Op.makeSlice 48 x y) (n : Nat) (hx : a.eval x = .int .i64 (n : Int)) (hy : a.eval y = .int .i64 (n : Int)) (hn : n ≤ 1000000)
    (h : ∀ g w', Hid (RW w' g (List.replicate (n * 64) 0)) → Hid (w.heap.size ≤ g) → Hid (Below w.heap.size w w') → wpList Tryz.prog ops Q rest (a.put o.dst (.slice (some ⟨g, 0, none⟩) n n)) w') : wpList Tryz.prog ops Q (o :: rest) a w := by
  refine wpList_plain hgd fun K hK => ?_
  have hrun := make_row_run n (by omega) w
  unfold Oper.wp
  simp [execOp, ho, hx, hy, hrun, Result.andThen]
  exact hK _ _ (h _ _ (heap_alloc_last w _) (Nat.le_refl _) (below_alloc w _))
set_option maxRecDepth 8000 in
set_option maxHeartbeats 1000000 in
theorem write_new (x : Int) (hx : U64 x) (v : Value) (len : Nat) (zs : List Int) (hlen : len ≤ 1000000) (f t : Int) (hf : I63 f) (ht : I63 t) (w : World) (h : RI .u8 w v len zs) (a d : Nat) (ha : (touchN (nr f) (nr t)).1 = a) (hd : (touchN (nr f) (nr t)).2 - a = d) :
    Calls Tryz.prog 68 #[.int .u64 x, v, .int .i64 f, .int .i64 t] w fun e w' => ∃ g, e = .returned (.tuple #[.int .i64 (a : Int), .slice (some ⟨g, 0, none⟩) d d]) ∧
      RW w' g (writeB x zs a d) ∧ w.heap.size ≤ g ∧ Below w.heap.size w w' := by
  have HT : Hid (∀ w : World, Calls Tryz.prog 93 #[.int .i64 f, .int .i64 t] w fun e w' => e = .returned (.tuple #[.int .i64 ((touchN (nr f) (nr t)).1 : Int), .int .i64 ((touchN (nr f) (nr t)).2 : Int)]) ∧ Below w.heap.size w w') := fun w => touch_any f t hf ht w
  obtain ⟨hab, hb16, h0⟩ := touch_le (nr f) (nr t) (nr_le t)
  clear h0
  rw [ha] at HT hab
  generalize (touchN (nr f) (nr t)).2 = b at *
  clear ha
  have hdb : (b : Int) - (a : Int) = (d : Int) := by omega
  have hd16 : d ≤ 16 := by omega
  have ha16 : a + d ≤ 16 := by omega
  have HR := Lib.hid h
  have HX := Lib.hid hx
  clear h hx hf ht hd hab hb16
  go_enter Tryz.func68, Tryz.ntmps68
  go_wp2_with (first
    | (go_at_call 93; (with_reducible refine (HT.out _).mono ?_); rintro e w1 ⟨rfl, hb⟩; have HB1 := Lib.hid hb; clear hb)
    | (refine wpl_make_row rfl _ _ rfl d rfl rfl (by omega) ?_; intro g w2 HW0 HG hb; have HG := Lib.hid (Nat.le_trans HB1.out.size HG.out); have HB0 := Lib.hid (bch HB1.out hb.out); clear hb))
  have HWZ : Hid (RW w2 g (rowAt x zs a d 0)) := Lib.hid (by rw [rowAt_zero]; exact HW0.out)
  clear HW0
  go_wp2
  go_loopw [27] (fun iv wr => ∃ k : Nat, iv = .int .i64 k ∧ k ≤ d ∧ Hid (RW wr g (rowAt x zs a d k)) ∧ Hid (Below w.heap.size w wr)) (fun iv _ => d - (intOf iv).toNat)
  case atStart => exact ⟨0, rfl, by omega, HWZ, HB0⟩
  case round =>
    obtain ⟨k, rfl, hk, HW, HB⟩ := hrel
    by_cases hlt : (k : Int) < (d : Int)
    · obtain ⟨q, hq⟩ : ∃ q : Nat, a + k = q := ⟨_, rfl⟩
      have hqi : (a : Int) + (k : Int) = (q : Int) := by omega
      have hq16 : q ≤ 16 := by omega
      obtain ⟨l, hl⟩ : ∃ l, sealed x (q : Int) (partB zs q) = l := ⟨_, rfl⟩
      have HLL := Lib.hid (show l.length = 64 from by rw [← hl]; exact sealed_length _ _ _)
      have HRL := Lib.hid (rowAt_length x zs a d k hk)
      have HNX := Lib.hid (rowAt_next x zs a d k (by omega))
      rw [hq, hl] at HNX
      have HS : Hid (∀ (v : Value) (n : Nat) (w : World), RI .u8 w v n (partB zs q) → Calls Tryz.prog 94 #[.int .u64 x, .int .i64 (q : Int), v] w fun e w' => e = .returned (.agg (sv l)) ∧ Below w.heap.size w w') := fun v n w h => by
        rw [← hl]; exact seal_any x q HX.out (by unfold I63; omega) v n _ w h
      have HR1 := Lib.hid (HR.out.keep HB.out)
      clear hl hq
      go_wp2_with (first
        | (go_at_call 95; (with_reducible refine (part_ri v len q zs hlen (by omega) _ HR1.out).mono ?_); rintro e w3 ⟨v3, rfl, hr, rfl⟩; have HR3 := Lib.hid hr; clear hr)
        | (go_at_call 94; (with_reducible refine (HS.out _ _ _ HR3.out).mono ?_); rintro e w4 ⟨rfl, hb⟩; have HW4 := Lib.hid (HW.out.keep hb); have HB4 := Lib.hid (bch HB.out hb); clear hb)
        | (refine wpl_put_row rfl _ _ rfl g d k _ l HW4.out HRL.out (by omega) HLL.out (k * 64) rfl rfl rfl ?_; intro w5 HW5 hg5; have HW5 := Lib.hid (HNX.out ▸ HW5.out); have HB5 := Lib.hid (below_grown HB4.out hg5.out HG.out HB4.out.size); clear hg5))
      go_roundw
      case rel => exact ⟨k + 1, by simp, by omega, HW5, HB5⟩
      case measure => simp [intOf]; omega
    · obtain rfl : k = d := by omega
      go_wp2
      go_ret2
      have h1 := HW.out
      rw [rowAt_end] at h1
      exact ⟨g, rfl, h1, HG.out, HB.out⟩
end Go.Proofs.YtgegbpnmfpjdmaaGreatDoor
