/-
  WHAT THE PROGRAM'S OWN Decode OF LAYER 11 (record) ANSWERS (written by wip/gen/g16.py). No condition of ours.
-/
import Derived.Test.YtnnkaddgbcdehaaRecDecR
import Derived.Test.YtnnkaddgbcdehaaRecEnc
namespace Go.Proofs.Ytnnkaddgbcdehaa
open Go.RowKit
set_option maxRecDepth 8000 in
set_option maxHeartbeats 4000000 in
theorem prdec_any (v : Value) (len : Nat) (zs : List Int) (w : World) (hri : RI .u8 w v len zs) (hbz : isB zs) : Calls Try.prog 13 #[v] w (DecR zs w) := by
  have hz := hri.length
  have HA := Lib.hid (RO.alloc (k := 0) (c := 0) (l := 0) (p := 0) (v := .slice none 0 0) w)
  have HB := Lib.hid (balloc w (.cells (rA 0 0 0 0 (.slice none 0 0)) 24))
  have HR := Lib.hid (hri.keep HB.out)
  obtain ⟨a, cap, rfl, hlc⟩ : ∃ a cap, v = .slice a len cap ∧ len ≤ cap := by obtain ⟨a, c, e, _, h, _⟩ := hri; exact ⟨a, c, e, h⟩
  by_cases h1 : 512 < zs.length
  · have hR := Lib.hid (recD_long h1)
    have h1' : (512 : Int) < (len : Int) := by omega
    clear h1 hz hri hbz
    go_enter Try.func13, Try.ntmps13
    go_wp2_with (first
      | (refine wpList_store_row rfl 24 _ _ rfl w.heap.size (rA 0 0 0 0 (.slice none 0 0)) rfl rfl _ _ HA.out (rec_info _ rfl) rfl (rec_one _ _ _ _ _ _ _) ?_))
    refine bodyPost_ret_by (results_row_tmp rfl _ _ w.heap.size _ rfl (HA.out.row 0 0 0 0 (.slice none 0 0)).load) rfl ?_
    exact dec_none hR.out (brow HB.out (Nat.le_refl _) (Nat.le_refl _) _)
  have h1' : ¬ (512 : Int) < (len : Int) := by omega
  by_cases h2 : zs.length < 2
  · have hR := Lib.hid (recD_short h2)
    have h2' : (len : Int) < 2 := by omega
    clear h1 h2 hz hri hbz
    go_enter Try.func13, Try.ntmps13
    go_wp2_with (first
      | (refine wpList_store_row rfl 24 _ _ rfl w.heap.size (rA 0 0 0 0 (.slice none 0 0)) rfl rfl _ _ HA.out (rec_info _ rfl) rfl (rec_one _ _ _ _ _ _ _) ?_))
    refine bodyPost_ret_by (results_row_tmp rfl _ _ w.heap.size _ rfl (HA.out.row 0 0 0 0 (.slice none 0 0)).load) rfl ?_
    exact dec_none hR.out (brow HB.out (Nat.le_refl _) (Nat.le_refl _) _)
  have h2' : ¬ (len : Int) < 2 := by omega
  obtain ⟨⟨l, n, e⟩, hg⟩ : ∃ g, gv 0 0 (zs.drop 2) = g := ⟨_, rfl⟩
  have HBZ : Hid (∀ x ∈ zs.drop 2, 0 ≤ x ∧ x ≤ 255) := Lib.hid (hbz.drop 2)
  have HG := Lib.hid hg
  by_cases he : e ≠ 0
  · have hR := Lib.hid (recD_one h1 h2 hg he)
    have he' : (e != 0) = true := by simpa using he
    clear h1 h2 hz hri hbz hg he
    go_enter Try.func13, Try.ntmps13
    go_wp2_with (first
      | (refine wpl_from rfl (.tmp 20) (.const (.int .i64 2)) rfl _ len 2 _ rfl rfl HR.out (by omega) ?_; intro p1 c1 hr1; have HR1 := Lib.hid hr1; clear hr1)
      | (go_at_call 23; (with_reducible refine (get_any HR1.out HBZ.out HG.out).mono ?_); rintro e w1 ⟨rfl, rfl⟩)
      | (refine wpList_store_row rfl 24 _ _ rfl w.heap.size (rA 0 0 0 0 (.slice none 0 0)) rfl rfl _ _ HA.out (rec_info _ rfl) rfl (rec_one _ _ _ _ _ _ _) ?_))
    refine bodyPost_ret_by (results_row_tmp rfl _ _ w.heap.size _ rfl (HA.out.row 0 0 0 0 (.slice none 0 0)).load) rfl ?_
    exact dec_none hR.out (brow HB.out (Nat.le_refl _) (Nat.le_refl _) _)
  obtain rfl : e = 0 := by omega
  clear he
  have hnl : n ≤ len - 2 := by have := gv_len (zs.drop 2) 0 0; rw [hg] at this; simp at this; omega
  obtain ⟨⟨b, m, f⟩, hh⟩ : ∃ g, gv 0 0 ((zs.drop 2).drop n) = g := ⟨_, rfl⟩
  have HBZ2 : Hid (∀ x ∈ (zs.drop 2).drop n, 0 ≤ x ∧ x ≤ 255) := Lib.hid ((hbz.drop 2).drop n)
  have HH := Lib.hid hh
  have HM2 : Hid (n ≤ len - 2) := Lib.hid (by omega)
  have hn9 : (n : Int) ≤ 512 := by omega
  by_cases hf : f ≠ 0
  · have hR := Lib.hid (recD_two h1 h2 hg hh hf)
    have hf' : (f != 0) = true := by simpa using hf
    clear h1 h2 hz hri hbz hg hf hh
    go_enter Try.func13, Try.ntmps13
    go_wp2_with (first
      | (refine wpl_from rfl (.tmp 32) (.tmp 33) rfl _ (len - 2) n _ rfl rfl HR1.out (by have := HM2.out; omega) ?_; intro p2 c2 hr2; have HR2 := Lib.hid hr2; clear hr2)
      | (refine wpl_from rfl (.tmp 20) (.const (.int .i64 2)) rfl _ len 2 _ rfl rfl HR.out (by omega) ?_; intro p1 c1 hr1; have HR1 := Lib.hid hr1; clear hr1)
      | (go_at_call 23; (with_reducible refine (get_any HR2.out HBZ2.out HH.out).mono ?_); rintro e w1 ⟨rfl, rfl⟩)
      | (go_at_call 23; (with_reducible refine (get_any HR1.out HBZ.out HG.out).mono ?_); rintro e w1 ⟨rfl, rfl⟩)
      | (refine wpList_store_row rfl 24 _ _ rfl w.heap.size (rA 0 0 0 0 (.slice none 0 0)) rfl rfl _ _ HA.out (rec_info _ rfl) rfl (rec_one _ _ _ _ _ _ _) ?_))
    refine bodyPost_ret_by (results_row_tmp rfl _ _ w.heap.size _ rfl (HA.out.row 0 0 0 0 (.slice none 0 0)).load) rfl ?_
    exact dec_none hR.out (brow HB.out (Nat.le_refl _) (Nat.le_refl _) _)
  obtain rfl : f = 0 := by omega
  clear hf
  obtain ⟨ln, hln⟩ : ∃ q, nar l = q := ⟨_, rfl⟩
  obtain ⟨bn, hbn⟩ : ∃ q, nar b = q := ⟨_, rfl⟩
  have hlb := gv_bd (zs.drop 2) 0 0 (by omega) (by omega) (by decide) (hbz.drop 2)
  have hbb := gv_bd ((zs.drop 2).drop n) 0 0 (by omega) (by omega) (by decide) ((hbz.drop 2).drop n)
  rw [hg] at hlb
  rw [hh] at hbb
  simp only at hlb hbb
  have hln2 := nar_bd l hlb.1
  have hbn2 := nar_bd b hbb.1
  rw [hln] at hln2
  rw [hbn] at hbn2
  have HNL : Hid (∀ w, Calls Try.prog 24 #[.int .u64 l] w fun e w' => e = .returned (.int .i64 ln) ∧ w = w') := Lib.hid fun w => by rw [← hln]; exact narrow_any l hlb.1 w
  have HNB : Hid (∀ w, Calls Try.prog 24 #[.int .u64 b] w fun e w' => e = .returned (.int .i64 bn) ∧ w = w') := Lib.hid fun w => by rw [← hbn]; exact narrow_any b hbb.1 w
  have hml : m ≤ len - 2 - n := by have := gv_len ((zs.drop 2).drop n) 0 0; rw [hh] at this; simp at this; omega
  have HM : Hid (m ≤ len - 2 - n) := Lib.hid hml
  obtain ⟨pv, hpv⟩ : ∃ q, ln - bn = q := ⟨_, rfl⟩
  have HPV : Hid (IntKind.i64.wrap (ln - bn) = pv) := Lib.hid (by rw [IntKind.wrap_i64]; omega)
  obtain ⟨x, off, rfl, hcell⟩ := HR.out.at_ (by omega)
  have hlen0 : 0 < len := by omega
  have hlen1 : (1 : Int) < (len : Int) := by omega
  have hc0 := hcell 0 (by omega)
  have hc1 := hcell 1 (by omega)
  obtain ⟨k, hk⟩ : ∃ k, zs.getD 0 0 = k := ⟨_, rfl⟩
  obtain ⟨c, hc⟩ : ∃ c, zs.getD 1 0 = c := ⟨_, rfl⟩
  have hkb : 0 ≤ k ∧ k ≤ 255 := by rw [← hk]; exact hbz _ (getD_mem (by omega))
  have hcb : 0 ≤ c ∧ c ≤ 255 := by rw [← hc]; exact hbz _ (getD_mem (by omega))
  have HK3 : Hid (IntKind.i64.wrap k = k) := Lib.hid (by rw [IntKind.wrap_i64]; omega)
  have HK7 : Hid (IntKind.i64.wrap c = c) := Lib.hid (by rw [IntKind.wrap_i64]; omega)
  rw [Nat.add_zero, hk] at hc0
  rw [hc] at hc1
  have HC0 := Lib.hid hc0
  have HC1 := Lib.hid hc1
  obtain ⟨y, hy⟩ : ∃ y, recOk k c ln pv = y := ⟨_, rfl⟩
  have HRR : Hid (∀ v W, Calls Try.prog 8 #[.agg (rA k c ln pv v)] W fun e w' => e = .returned (.bool y) ∧ Below W.heap.size W w') := Lib.hid fun v W => by have := prright_any k c ln pv v W; rwa [hy] at this
  have hyo : recOk k c l (l - b) = y := by rw [← nar_ok k c l b hlb.1 hbb.1, hln, hbn, hpv]; exact hy
  have HY : Hid (if y = true then recD zs = (⟨k, c, ln, pv, ((zs.drop 2).drop n).drop m⟩, 0) else recD zs = (noR, 2)) := Lib.hid (by
    cases y with
    | true =>
      obtain ⟨e1, e2⟩ := nar_eq k c l b hyo
      rw [if_pos rfl, recD_ok h1 h2 hg hh (by rw [hk, hc]; exact hyo), hk, hc, ← hpv, ← hln, ← hbn, e1, e2]
    | false => rw [if_neg (by decide)]; exact recD_form h1 h2 hg hh (by rw [hk, hc]; exact hyo))
  have HL9 : Hid (len ≤ 512) := Lib.hid (by omega)
  clear h1 h2 hz hri hbz hg hh hcell hc0 hc1 hk hc hy hlc hln hbn hpv hyo hlb hbb hml
  go_enter Try.func13, Try.ntmps13
  go_wp2_with (first
    | (refine wpl_from rfl (.tmp 32) (.tmp 33) rfl _ (len - 2) n _ rfl rfl HR1.out (by have := HM2.out; omega) ?_; intro p2 c2 hr2; have HR2 := Lib.hid hr2; clear hr2)
    | (refine wpl_from rfl (.tmp 20) (.const (.int .i64 2)) rfl _ len 2 _ rfl rfl HR.out (by omega) ?_; intro p1 c1 hr1; have HR1 := Lib.hid hr1; clear hr1)
    | (go_at_call 23; (with_reducible refine (get_any HR2.out HBZ2.out HH.out).mono ?_); rintro e w1 ⟨rfl, rfl⟩)
    | (go_at_call 23; (with_reducible refine (get_any HR1.out HBZ.out HG.out).mono ?_); rintro e w1 ⟨rfl, rfl⟩))
  obtain ⟨w1, hw1⟩ : ∃ q, w.alloc (.cells (rA 0 0 0 0 (.slice none 0 0)) 24) = q := ⟨_, rfl⟩
  rw [hw1] at HA HB HR2 HC0 HC1 ⊢
  clear HR HR1 hw1
  refine wp_region_held_drew (S := (fun W' => Below w1.heap.size w1 W')) (by kernel_rfl) ((Below.refl _ _).drew) (fun hS => ?_)
  refine wpAnyH_take (i := 0) (oi := ({ dst := some 45, op := Op.move (Operand.tmp 0), type := 22, pos := "record.go:58", after := #[], guard := none } : Oper)) (v := ?_) rfl (by kernel_rfl) (by kernel_rfl) (by kernel_rfl) (fun _ _ _ h => h) (Or.inl ⟨by rfl, ?_⟩) hS ?_
  rotate_left
  · (intro w hSw; (try dsimp only at hSw); go_simp; try with_reducible rfl)
  (try simp only [Act.put, List.setIfInBounds_toArray, List.set_cons_zero, List.set_cons_succ])
  refine wpAnyH_take (i := 1) (oi := ({ dst := some 46, op := Op.indexAddr 22 (Operand.tmp 45) (Operand.const (Value.int IntKind.i64 0)), type := 0, pos := "record.go:58", after := #[{ on := 0, ground := Ground.data }], guard := none } : Oper)) (v := ?_) rfl (by kernel_rfl) (by kernel_rfl) (by kernel_rfl) (fun _ _ _ h => h) (Or.inl ⟨by rfl, ?_⟩) hS ?_
  rotate_left
  · (intro w hSw; (try dsimp only at hSw); go_simp; try with_reducible rfl)
  (try simp only [Act.put, List.setIfInBounds_toArray, List.set_cons_zero, List.set_cons_succ])
  refine wpAnyH_take (i := 2) (oi := ({ dst := some 47, op := Op.load 5 (Operand.tmp 46), type := 5, pos := "record.go:58", after := #[{ on := 1, ground := Ground.data }], guard := none } : Oper)) (v := ?_) rfl (by kernel_rfl) (by kernel_rfl) (by kernel_rfl) (fun _ _ _ h => h) (Or.inl ⟨by rfl, ?_⟩) hS ?_
  rotate_left
  · (intro w hSw; (try dsimp only at hSw); have z := cell_keep hSw HC0.out; go_simp; try with_reducible rfl)
  (try simp only [Act.put, List.setIfInBounds_toArray, List.set_cons_zero, List.set_cons_succ])
  refine wpAnyH_take (i := 3) (oi := ({ dst := some 48, op := Op.convert 5 3 (Operand.tmp 47), type := 3, pos := "record.go:58", after := #[{ on := 2, ground := Ground.data }], guard := none } : Oper)) (v := .int .i64 k) rfl (by kernel_rfl) (by kernel_rfl) (by kernel_rfl) (fun _ _ _ h => h) (Or.inl ⟨by rfl, ?_⟩) hS ?_
  · (intro w hSw; (try dsimp only at hSw); have z := HK3.out; go_simp; (try exact z))
  (try simp only [Act.put, List.setIfInBounds_toArray, List.set_cons_zero, List.set_cons_succ])
  refine wpAnyH_take (i := 4) (oi := ({ dst := some 49, op := Op.move (Operand.tmp 0), type := 22, pos := "record.go:58", after := #[], guard := none } : Oper)) (v := ?_) rfl (by kernel_rfl) (by kernel_rfl) (by kernel_rfl) (fun _ _ _ h => h) (Or.inl ⟨by rfl, ?_⟩) hS ?_
  rotate_left
  · (intro w hSw; (try dsimp only at hSw); go_simp; try with_reducible rfl)
  (try simp only [Act.put, List.setIfInBounds_toArray, List.set_cons_zero, List.set_cons_succ])
  refine wpAnyH_take (i := 5) (oi := ({ dst := some 50, op := Op.indexAddr 22 (Operand.tmp 49) (Operand.const (Value.int IntKind.i64 1)), type := 0, pos := "record.go:58", after := #[{ on := 4, ground := Ground.data }], guard := none } : Oper)) (v := ?_) rfl (by kernel_rfl) (by kernel_rfl) (by kernel_rfl) (fun _ _ _ h => h) (Or.inl ⟨by rfl, ?_⟩) hS ?_
  rotate_left
  · (intro w hSw; (try dsimp only at hSw); go_simp; try with_reducible rfl)
  (try simp only [Act.put, List.setIfInBounds_toArray, List.set_cons_zero, List.set_cons_succ])
  refine wpAnyH_take (i := 6) (oi := ({ dst := some 51, op := Op.load 5 (Operand.tmp 50), type := 5, pos := "record.go:58", after := #[{ on := 5, ground := Ground.data }], guard := none } : Oper)) (v := ?_) rfl (by kernel_rfl) (by kernel_rfl) (by kernel_rfl) (fun _ _ _ h => h) (Or.inl ⟨by rfl, ?_⟩) hS ?_
  rotate_left
  · (intro w hSw; (try dsimp only at hSw); have z := cell_keep hSw HC1.out; go_simp; try with_reducible rfl)
  (try simp only [Act.put, List.setIfInBounds_toArray, List.set_cons_zero, List.set_cons_succ])
  refine wpAnyH_take (i := 7) (oi := ({ dst := some 52, op := Op.convert 5 3 (Operand.tmp 51), type := 3, pos := "record.go:58", after := #[{ on := 6, ground := Ground.data }], guard := none } : Oper)) (v := .int .i64 c) rfl (by kernel_rfl) (by kernel_rfl) (by kernel_rfl) (fun _ _ _ h => h) (Or.inl ⟨by rfl, ?_⟩) hS ?_
  · (intro w hSw; (try dsimp only at hSw); have z := HK7.out; go_simp; (try exact z))
  (try simp only [Act.put, List.setIfInBounds_toArray, List.set_cons_zero, List.set_cons_succ])
  refine wpAnyH_take (i := 8) (oi := ({ dst := some 53, op := Op.move (Operand.tmp 5), type := 36, pos := "record.go:58", after := #[], guard := none } : Oper)) (v := ?_) rfl (by kernel_rfl) (by kernel_rfl) (by kernel_rfl) (fun _ _ _ h => h) (Or.inl ⟨by rfl, ?_⟩) hS ?_
  rotate_left
  · (intro w hSw; (try dsimp only at hSw); go_simp; try with_reducible rfl)
  (try simp only [Act.put, List.setIfInBounds_toArray, List.set_cons_zero, List.set_cons_succ])
  refine rg_both 9 11 ({ dst := some 54, op := Op.call { callee := Callee.value (Operand.func 24), args := #[Operand.tmp 53], argTypes := #[36] }, type := 3, pos := "record.go:58", after := #[{ on := 8, ground := Ground.data }], guard := none } : Oper) ({ dst := some 9, op := Op.alloc 24, type := 0, pos := "record.go:58", after := #[], guard := none } : Oper) (by kernel_rfl) rfl rfl (fun K hK => ?_) (fun K hK => ?_)
  · skip
    go_simp
    (go_at_call 24; (with_reducible refine (HNL.out _).mono ?_); rintro e w' ⟨rfl, rfl⟩)
    refine hK.out _ _ ?_ (fun hS1 => ?_)
    · (first | exact hN | exact hS)
    clear hK K hS; have hS := hS1; clear hS1
    (try simp only [Act.put, List.setIfInBounds_toArray, List.set_cons_zero, List.set_cons_succ])
    refine wpAnyH_take (i := 10) (oi := ({ dst := some 55, op := Op.build 24 #[(0, Operand.tmp 48), (1, Operand.tmp 52), (2, Operand.tmp 54)], type := 24, pos := "record.go:58", after := #[{ on := 3, ground := Ground.data }, { on := 7, ground := Ground.data }, { on := 9, ground := Ground.data }], guard := none } : Oper)) (v := .agg (rA k c ln 0 (.slice none 0 0))) rfl (by kernel_rfl) (by kernel_rfl) (by kernel_rfl) (fun _ _ _ h => h) (Or.inl ⟨by rfl, ?_⟩) hS ?_
    · (intro w hSw; (try dsimp only at hSw); go_simp; try with_reducible rfl)
    (try simp only [Act.put, List.setIfInBounds_toArray, List.set_cons_zero, List.set_cons_succ])
    refine rg_one 11 ({ dst := some 9, op := Op.alloc 24, type := 0, pos := "record.go:58", after := #[], guard := none } : Oper) (by kernel_rfl) rfl (fun K hK => ?_)
    go_simp
    obtain ⟨w5, hw5⟩ : ∃ q, (World.alloc w1 (.cells (rA 0 0 0 0 (.slice none 0 0)) 24)).drew = q := ⟨_, rfl⟩; have hb5 : Below w1.heap.size w1 w5 := (by rw [← hw5]; exact bdrew0 _ _); have hg5 : RO w5 w1.heap.size 0 0 0 0 (.slice none 0 0) := (by rw [← hw5]; exact RO.alloc w1); have HG := Lib.hid hg5; clear hg5; rw [hw5]; have hN := hb5
    refine hK.out _ _ ?_ (fun hS1 => ?_)
    · (first | exact hN | exact hS)
    clear hK K hS; have hS := hS1; clear hS1
    (try simp only [Act.put, List.setIfInBounds_toArray, List.set_cons_zero, List.set_cons_succ])
    refine rg_one 12 ({ dst := none, op := Op.store 24 (Operand.tmp 9) (Operand.tmp 55), type := 0, pos := "record.go:58", after := #[{ on := 11, ground := Ground.data }, { on := 10, ground := Ground.data }, { on := 9, ground := Ground.chain }, { on := 0, ground := Ground.phase }, { on := 1, ground := Ground.phase }, { on := 2, ground := Ground.phase }, { on := 3, ground := Ground.phase }, { on := 4, ground := Ground.phase }, { on := 5, ground := Ground.phase }, { on := 6, ground := Ground.phase }, { on := 7, ground := Ground.phase }, { on := 8, ground := Ground.phase }, { on := 9, ground := Ground.phase }, { on := 10, ground := Ground.phase }, { on := 11, ground := Ground.phase }], guard := none } : Oper) (by kernel_rfl) rfl (fun K hK => ?_)
    rw [if_pos (by rfl)]; refine wp_store_row 24 (.tmp 9) (.tmp 55) rfl w1.heap.size (rA k c ln 0 (.slice none 0 0)) rfl rfl _ _ HG.out (rec_info _ rfl) rfl (rec_one _ _ _ _ _ _ _) ?_; have hgo := HG.out.row k c ln 0 (.slice none 0 0); have hbo := brow hS (b := w1.heap.size) (Nat.le_refl _) (Nat.le_refl _) (rA k c ln 0 (.slice none 0 0)); obtain ⟨w6, hw6⟩ : ∃ q, World.setRow w5 w1.heap.size (rA k c ln 0 (.slice none 0 0)) = q := ⟨_, rfl⟩; rw [hw6] at hgo hbo; rw [hw6]; have HG6 := Lib.hid hgo; clear hgo; (try clear hN); have hN := hbo; clear hbo
    refine hK.out _ _ ?_ (fun hS1 => ?_)
    · (first | exact hN | exact hS)
    clear hK K hS; have hS := hS1; clear hS1
    (try simp only [Act.put])
    refine wpAnyH_done (by kernel_rfl) ?_ _
    have HB6 := Lib.hid (bch HB.out hS)
    have HA6 := Lib.hid (HA.out.keep hS)
    have HR6 := Lib.hid (HR2.out.keep hS)
    have hlt : w.heap.size < w1.heap.size := HA.out.lt
    have f3 := HG6.out.frozen 3
    have z3 := HG6.out.cells.2.2.2.1
    have HG8 : Hid (RO (w6.setCell ⟨w1.heap.size, 3, none⟩ (.int .i64 pv)).drew w1.heap.size k c ln pv (.slice none 0 0)) := Lib.hid (HG6.out.set3 pv)
    have HB8 : Hid (Below w1.heap.size w1 (w6.setCell ⟨w1.heap.size, 3, none⟩ (.int .i64 pv)).drew) := Lib.hid (bset hS (b := w1.heap.size) (Nat.le_refl _) (Nat.le_refl _) 3 _).drew
    clear hS hN
    go_wp2_with fail
    refine wp_region_held_drew (S := (fun W' => ∃ q, RO W' w1.heap.size k c ln q (.slice none 0 0))) (by kernel_rfl) ⟨_, HG6.out.keep ((Below.refl _ _).drew)⟩ (fun hS => ?_)
    refine wpAnyH_take (i := 0) (oi := ({ dst := some 56, op := Op.fieldAddr 24 (Operand.tmp 9) 2, type := 0, pos := "record.go:59", after := #[], guard := none } : Oper)) (v := ?_) rfl (by kernel_rfl) (by kernel_rfl) (by kernel_rfl) (fun _ _ _ h => h) (Or.inl ⟨by rfl, ?_⟩) hS ?_
    rotate_left
    · (intro w hSw; (try dsimp only at hSw); go_simp; try with_reducible rfl)
    (try simp only [Act.put, List.setIfInBounds_toArray, List.set_cons_zero, List.set_cons_succ])
    refine wpAnyH_take (i := 1) (oi := ({ dst := some 57, op := Op.load 3 (Operand.tmp 56), type := 3, pos := "record.go:59", after := #[{ on := 0, ground := Ground.data }], guard := none } : Oper)) (v := ?_) rfl (by kernel_rfl) (by kernel_rfl) (by kernel_rfl) (fun _ _ _ h => h) (Or.inl ⟨by rfl, ?_⟩) hS ?_
    rotate_left
    · (intro w hSw; (try dsimp only at hSw); obtain ⟨q, z⟩ := hSw; have z := z.cells.2.2.1; go_simp; try with_reducible rfl)
    (try simp only [Act.put, List.setIfInBounds_toArray, List.set_cons_zero, List.set_cons_succ])
    refine wpAnyH_take (i := 2) (oi := ({ dst := some 58, op := Op.move (Operand.tmp 8), type := 36, pos := "record.go:59", after := #[], guard := none } : Oper)) (v := ?_) rfl (by kernel_rfl) (by kernel_rfl) (by kernel_rfl) (fun _ _ _ h => h) (Or.inl ⟨by rfl, ?_⟩) hS ?_
    rotate_left
    · (intro w hSw; (try dsimp only at hSw); go_simp; try with_reducible rfl)
    (try simp only [Act.put, List.setIfInBounds_toArray, List.set_cons_zero, List.set_cons_succ])
    refine rg_one 3 ({ dst := some 59, op := Op.call { callee := Callee.value (Operand.func 24), args := #[Operand.tmp 58], argTypes := #[36] }, type := 3, pos := "record.go:59", after := #[{ on := 2, ground := Ground.data }], guard := none } : Oper) (by kernel_rfl) rfl (fun K hK => ?_)
    go_simp
    (go_at_call 24; (with_reducible refine (HNB.out _).mono ?_); rintro e w' ⟨rfl, rfl⟩)
    refine hK.out _ _ ?_ (fun hS1 => ?_)
    · (first | exact hN | exact hS)
    clear hK K hS; have hS := hS1; clear hS1
    (try simp only [Act.put, List.setIfInBounds_toArray, List.set_cons_zero, List.set_cons_succ])
    refine wpAnyH_take (i := 4) (oi := ({ dst := some 60, op := Op.binOp BinOp.sub 3 (Operand.tmp 57) (Operand.tmp 59) 3, type := 3, pos := "record.go:59", after := #[{ on := 1, ground := Ground.data }, { on := 3, ground := Ground.data }], guard := none } : Oper)) (v := .int .i64 pv) rfl (by kernel_rfl) (by kernel_rfl) (by kernel_rfl) (fun _ _ _ h => h) (Or.inl ⟨by rfl, ?_⟩) hS ?_
    · (intro w hSw; (try dsimp only at hSw); have z := HPV.out; go_simp; (try exact z))
    (try simp only [Act.put, List.setIfInBounds_toArray, List.set_cons_zero, List.set_cons_succ])
    refine wpAnyH_take (i := 5) (oi := ({ dst := some 61, op := Op.fieldAddr 24 (Operand.tmp 9) 3, type := 0, pos := "record.go:59", after := #[{ on := 0, ground := Ground.phase }, { on := 1, ground := Ground.phase }, { on := 2, ground := Ground.phase }, { on := 3, ground := Ground.phase }, { on := 4, ground := Ground.phase }], guard := none } : Oper)) (v := ?_) rfl (by kernel_rfl) (by kernel_rfl) (by kernel_rfl) (fun _ _ _ h => h) (Or.inl ⟨by rfl, ?_⟩) hS ?_
    rotate_left
    · (intro w hSw; (try dsimp only at hSw); go_simp; try with_reducible rfl)
    (try simp only [Act.put, List.setIfInBounds_toArray, List.set_cons_zero, List.set_cons_succ])
    refine rg_one 6 ({ dst := none, op := Op.store 3 (Operand.tmp 61) (Operand.tmp 60), type := 0, pos := "record.go:59", after := #[{ on := 5, ground := Ground.data }, { on := 4, ground := Ground.data }, { on := 3, ground := Ground.chain }, { on := 0, ground := Ground.phase }, { on := 1, ground := Ground.phase }, { on := 2, ground := Ground.phase }, { on := 3, ground := Ground.phase }, { on := 4, ground := Ground.phase }], guard := none } : Oper) (by kernel_rfl) rfl (fun K hK => ?_)
    go_simp
    have hN : ∃ q, RO (w6.setCell ⟨w1.heap.size, 3, none⟩ (.int .i64 pv)).drew w1.heap.size k c ln q (.slice none 0 0) := ⟨_, HG8.out⟩
    refine hK.out _ _ ?_ (fun hS1 => ?_)
    · (first | exact hN | exact hS)
    clear hK K hS; have hS := hS1; clear hS1
    (try simp only [Act.put])
    refine wpAnyH_done (by kernel_rfl) ?_ _
    obtain ⟨w8, hw8⟩ : ∃ q, (w6.setCell ⟨w1.heap.size, 3, none⟩ (.int .i64 pv)).drew = q := ⟨_, rfl⟩
    rw [hw8] at HG8 HB8 ⊢
    have HA8 := Lib.hid (HA.out.keep HB8.out)
    have HR8 := Lib.hid (HR2.out.keep HB8.out)
    have HB9 := Lib.hid (bch HB.out HB8.out)
    clear hS hN f3 z3 hw8 HG6 HB6 HA6 HR6 HR2 HG
    cases y with
    | true =>
      have hY := HY.out
      rw [if_pos rfl] at hY
      have HY := Lib.hid hY
      clear hY
      go_wp2_with (first
        | (refine wpl_load_rec rfl (.tmp 9) rfl rfl HGD.out ?_)
        | (refine wpl_load_rec rfl (.tmp 9) rfl rfl HG8.out ?_)
        | (go_at_call 8; (with_reducible refine (HRR.out _ _).mono ?_); rintro e w9 ⟨rfl, hb9⟩; have HA9 := Lib.hid (HA8.out.keep hb9); have HG9 := Lib.hid (HG8.out.keep hb9); have HR9 := Lib.hid (HR8.out.keep hb9); have HBA := Lib.hid (bch HB9.out hb9); clear hb9)
        | (refine wpl_from rfl (.tmp 66) (.tmp 67) rfl _ (len - 2 - n) m _ rfl rfl HR9.out HM.out ?_; intro p3 c3 hr3; have HR3 := Lib.hid hr3; clear hr3)
        | (go_at_call 25; (with_reducible refine (clone_any _ (len - 2 - n - m) _ _ HR3.out (by have := HL9.out; omega)).mono ?_); rintro e wc ⟨vc, rfl, hoc, hbc⟩; obtain ⟨pc, cc, rfl⟩ := own_form hoc; have HAC := HA9.out.keep hbc; have HGC := HG9.out.keep hbc; have hfc := HGC.frozen 4; have hzc := HGC.cells.2.2.2.2; have HGD := Lib.hid (HGC.set4 (.slice pc (len - 2 - n - m) cc)); have HAD := Lib.hid (HAC.set_apart (b' := w1.heap.size) (Nat.ne_of_lt hlt) 4 (.slice pc (len - 2 - n - m) cc)); have HOD := Lib.hid (HGC.set_own 4 (.slice pc (len - 2 - n - m) cc) (own_mono hoc HBA.out.size)); have HBD := Lib.hid (bset (bch HBA.out hbc) (b := w1.heap.size) (Nat.le_of_lt hlt) (Nat.le_refl _) 4 (.slice pc (len - 2 - n - m) cc)); clear hoc hbc HAC HGC)
        | (refine wpList_store_row rfl 24 _ _ rfl w.heap.size (rA k c ln pv (.slice pc (len - 2 - n - m) cc)) rfl rfl _ _ HAD.out (rec_info _ rfl) rfl (rec_one _ _ _ _ _ _ _) ?_))
      refine bodyPost_ret_by (results_row_tmp rfl _ _ w.heap.size _ rfl (HAD.out.row k c ln pv (.slice pc (len - 2 - n - m) cc)).load) rfl ?_
      exact dec_some HY.out (HAD.out.row_own _ HOD.out) (brow HBD.out (Nat.le_refl _) (Nat.le_refl _) _)
    | false =>
      have hY := HY.out
      rw [if_neg (by decide)] at hY
      have HY := Lib.hid hY
      clear hY
      go_wp2_with (first
        | (refine wpl_load_rec rfl (.tmp 9) rfl rfl HG8.out ?_)
        | (go_at_call 8; (with_reducible refine (HRR.out _ _).mono ?_); rintro e w9 ⟨rfl, hb9⟩; have HA9 := Lib.hid (HA8.out.keep hb9); have HG9 := Lib.hid (HG8.out.keep hb9); have HR9 := Lib.hid (HR8.out.keep hb9); have HBA := Lib.hid (bch HB9.out hb9); clear hb9)
        | (refine wpList_store_row rfl 24 _ _ rfl w.heap.size (rA 0 0 0 0 (.slice none 0 0)) rfl rfl _ _ HA9.out (rec_info _ rfl) rfl (rec_one _ _ _ _ _ _ _) ?_))
      refine bodyPost_ret_by (results_row_tmp rfl _ _ w.heap.size _ rfl (HA9.out.row 0 0 0 0 (.slice none 0 0)).load) rfl ?_
      exact dec_none HY.out (brow HBA.out (Nat.le_refl _) (Nat.le_refl _) _)
  · skip
    go_simp
    obtain ⟨w5, hw5⟩ : ∃ q, (World.alloc w1 (.cells (rA 0 0 0 0 (.slice none 0 0)) 24)).drew = q := ⟨_, rfl⟩; have hb5 : Below w1.heap.size w1 w5 := (by rw [← hw5]; exact bdrew0 _ _); have hg5 : RO w5 w1.heap.size 0 0 0 0 (.slice none 0 0) := (by rw [← hw5]; exact RO.alloc w1); have HG := Lib.hid hg5; clear hg5; rw [hw5]; have hN := hb5
    refine hK.out _ _ ?_ (fun hS1 => ?_)
    · (first | exact hN | exact hS)
    clear hK K hS; have hS := hS1; clear hS1
    (try simp only [Act.put, List.setIfInBounds_toArray, List.set_cons_zero, List.set_cons_succ])
    refine rg_one 9 ({ dst := some 54, op := Op.call { callee := Callee.value (Operand.func 24), args := #[Operand.tmp 53], argTypes := #[36] }, type := 3, pos := "record.go:58", after := #[{ on := 8, ground := Ground.data }], guard := none } : Oper) (by kernel_rfl) rfl (fun K hK => ?_)
    go_simp
    (go_at_call 24; (with_reducible refine (HNL.out _).mono ?_); rintro e w' ⟨rfl, rfl⟩)
    refine hK.out _ _ ?_ (fun hS1 => ?_)
    · (first | exact hN | exact hS)
    clear hK K hS; have hS := hS1; clear hS1
    (try simp only [Act.put, List.setIfInBounds_toArray, List.set_cons_zero, List.set_cons_succ])
    refine wpAnyH_take (i := 10) (oi := ({ dst := some 55, op := Op.build 24 #[(0, Operand.tmp 48), (1, Operand.tmp 52), (2, Operand.tmp 54)], type := 24, pos := "record.go:58", after := #[{ on := 3, ground := Ground.data }, { on := 7, ground := Ground.data }, { on := 9, ground := Ground.data }], guard := none } : Oper)) (v := .agg (rA k c ln 0 (.slice none 0 0))) rfl (by kernel_rfl) (by kernel_rfl) (by kernel_rfl) (fun _ _ _ h => h) (Or.inl ⟨by rfl, ?_⟩) hS ?_
    · (intro w hSw; (try dsimp only at hSw); go_simp; try with_reducible rfl)
    (try simp only [Act.put, List.setIfInBounds_toArray, List.set_cons_zero, List.set_cons_succ])
    refine rg_one 12 ({ dst := none, op := Op.store 24 (Operand.tmp 9) (Operand.tmp 55), type := 0, pos := "record.go:58", after := #[{ on := 11, ground := Ground.data }, { on := 10, ground := Ground.data }, { on := 9, ground := Ground.chain }, { on := 0, ground := Ground.phase }, { on := 1, ground := Ground.phase }, { on := 2, ground := Ground.phase }, { on := 3, ground := Ground.phase }, { on := 4, ground := Ground.phase }, { on := 5, ground := Ground.phase }, { on := 6, ground := Ground.phase }, { on := 7, ground := Ground.phase }, { on := 8, ground := Ground.phase }, { on := 9, ground := Ground.phase }, { on := 10, ground := Ground.phase }, { on := 11, ground := Ground.phase }], guard := none } : Oper) (by kernel_rfl) rfl (fun K hK => ?_)
    rw [if_pos (by rfl)]; refine wp_store_row 24 (.tmp 9) (.tmp 55) rfl w1.heap.size (rA k c ln 0 (.slice none 0 0)) rfl rfl _ _ HG.out (rec_info _ rfl) rfl (rec_one _ _ _ _ _ _ _) ?_; have hgo := HG.out.row k c ln 0 (.slice none 0 0); have hbo := brow hS (b := w1.heap.size) (Nat.le_refl _) (Nat.le_refl _) (rA k c ln 0 (.slice none 0 0)); obtain ⟨w6, hw6⟩ : ∃ q, World.setRow w5 w1.heap.size (rA k c ln 0 (.slice none 0 0)) = q := ⟨_, rfl⟩; rw [hw6] at hgo hbo; rw [hw6]; have HG6 := Lib.hid hgo; clear hgo; (try clear hN); have hN := hbo; clear hbo
    refine hK.out _ _ ?_ (fun hS1 => ?_)
    · (first | exact hN | exact hS)
    clear hK K hS; have hS := hS1; clear hS1
    (try simp only [Act.put])
    refine wpAnyH_done (by kernel_rfl) ?_ _
    have HB6 := Lib.hid (bch HB.out hS)
    have HA6 := Lib.hid (HA.out.keep hS)
    have HR6 := Lib.hid (HR2.out.keep hS)
    have hlt : w.heap.size < w1.heap.size := HA.out.lt
    have f3 := HG6.out.frozen 3
    have z3 := HG6.out.cells.2.2.2.1
    have HG8 : Hid (RO (w6.setCell ⟨w1.heap.size, 3, none⟩ (.int .i64 pv)).drew w1.heap.size k c ln pv (.slice none 0 0)) := Lib.hid (HG6.out.set3 pv)
    have HB8 : Hid (Below w1.heap.size w1 (w6.setCell ⟨w1.heap.size, 3, none⟩ (.int .i64 pv)).drew) := Lib.hid (bset hS (b := w1.heap.size) (Nat.le_refl _) (Nat.le_refl _) 3 _).drew
    clear hS hN
    go_wp2_with fail
    refine wp_region_held_drew (S := (fun W' => ∃ q, RO W' w1.heap.size k c ln q (.slice none 0 0))) (by kernel_rfl) ⟨_, HG6.out.keep ((Below.refl _ _).drew)⟩ (fun hS => ?_)
    refine wpAnyH_take (i := 0) (oi := ({ dst := some 56, op := Op.fieldAddr 24 (Operand.tmp 9) 2, type := 0, pos := "record.go:59", after := #[], guard := none } : Oper)) (v := ?_) rfl (by kernel_rfl) (by kernel_rfl) (by kernel_rfl) (fun _ _ _ h => h) (Or.inl ⟨by rfl, ?_⟩) hS ?_
    rotate_left
    · (intro w hSw; (try dsimp only at hSw); go_simp; try with_reducible rfl)
    (try simp only [Act.put, List.setIfInBounds_toArray, List.set_cons_zero, List.set_cons_succ])
    refine wpAnyH_take (i := 1) (oi := ({ dst := some 57, op := Op.load 3 (Operand.tmp 56), type := 3, pos := "record.go:59", after := #[{ on := 0, ground := Ground.data }], guard := none } : Oper)) (v := ?_) rfl (by kernel_rfl) (by kernel_rfl) (by kernel_rfl) (fun _ _ _ h => h) (Or.inl ⟨by rfl, ?_⟩) hS ?_
    rotate_left
    · (intro w hSw; (try dsimp only at hSw); obtain ⟨q, z⟩ := hSw; have z := z.cells.2.2.1; go_simp; try with_reducible rfl)
    (try simp only [Act.put, List.setIfInBounds_toArray, List.set_cons_zero, List.set_cons_succ])
    refine wpAnyH_take (i := 2) (oi := ({ dst := some 58, op := Op.move (Operand.tmp 8), type := 36, pos := "record.go:59", after := #[], guard := none } : Oper)) (v := ?_) rfl (by kernel_rfl) (by kernel_rfl) (by kernel_rfl) (fun _ _ _ h => h) (Or.inl ⟨by rfl, ?_⟩) hS ?_
    rotate_left
    · (intro w hSw; (try dsimp only at hSw); go_simp; try with_reducible rfl)
    (try simp only [Act.put, List.setIfInBounds_toArray, List.set_cons_zero, List.set_cons_succ])
    refine rg_one 3 ({ dst := some 59, op := Op.call { callee := Callee.value (Operand.func 24), args := #[Operand.tmp 58], argTypes := #[36] }, type := 3, pos := "record.go:59", after := #[{ on := 2, ground := Ground.data }], guard := none } : Oper) (by kernel_rfl) rfl (fun K hK => ?_)
    go_simp
    (go_at_call 24; (with_reducible refine (HNB.out _).mono ?_); rintro e w' ⟨rfl, rfl⟩)
    refine hK.out _ _ ?_ (fun hS1 => ?_)
    · (first | exact hN | exact hS)
    clear hK K hS; have hS := hS1; clear hS1
    (try simp only [Act.put, List.setIfInBounds_toArray, List.set_cons_zero, List.set_cons_succ])
    refine wpAnyH_take (i := 4) (oi := ({ dst := some 60, op := Op.binOp BinOp.sub 3 (Operand.tmp 57) (Operand.tmp 59) 3, type := 3, pos := "record.go:59", after := #[{ on := 1, ground := Ground.data }, { on := 3, ground := Ground.data }], guard := none } : Oper)) (v := .int .i64 pv) rfl (by kernel_rfl) (by kernel_rfl) (by kernel_rfl) (fun _ _ _ h => h) (Or.inl ⟨by rfl, ?_⟩) hS ?_
    · (intro w hSw; (try dsimp only at hSw); have z := HPV.out; go_simp; (try exact z))
    (try simp only [Act.put, List.setIfInBounds_toArray, List.set_cons_zero, List.set_cons_succ])
    refine wpAnyH_take (i := 5) (oi := ({ dst := some 61, op := Op.fieldAddr 24 (Operand.tmp 9) 3, type := 0, pos := "record.go:59", after := #[{ on := 0, ground := Ground.phase }, { on := 1, ground := Ground.phase }, { on := 2, ground := Ground.phase }, { on := 3, ground := Ground.phase }, { on := 4, ground := Ground.phase }], guard := none } : Oper)) (v := ?_) rfl (by kernel_rfl) (by kernel_rfl) (by kernel_rfl) (fun _ _ _ h => h) (Or.inl ⟨by rfl, ?_⟩) hS ?_
    rotate_left
    · (intro w hSw; (try dsimp only at hSw); go_simp; try with_reducible rfl)
    (try simp only [Act.put, List.setIfInBounds_toArray, List.set_cons_zero, List.set_cons_succ])
    refine rg_one 6 ({ dst := none, op := Op.store 3 (Operand.tmp 61) (Operand.tmp 60), type := 0, pos := "record.go:59", after := #[{ on := 5, ground := Ground.data }, { on := 4, ground := Ground.data }, { on := 3, ground := Ground.chain }, { on := 0, ground := Ground.phase }, { on := 1, ground := Ground.phase }, { on := 2, ground := Ground.phase }, { on := 3, ground := Ground.phase }, { on := 4, ground := Ground.phase }], guard := none } : Oper) (by kernel_rfl) rfl (fun K hK => ?_)
    go_simp
    have hN : ∃ q, RO (w6.setCell ⟨w1.heap.size, 3, none⟩ (.int .i64 pv)).drew w1.heap.size k c ln q (.slice none 0 0) := ⟨_, HG8.out⟩
    refine hK.out _ _ ?_ (fun hS1 => ?_)
    · (first | exact hN | exact hS)
    clear hK K hS; have hS := hS1; clear hS1
    (try simp only [Act.put])
    refine wpAnyH_done (by kernel_rfl) ?_ _
    obtain ⟨w8, hw8⟩ : ∃ q, (w6.setCell ⟨w1.heap.size, 3, none⟩ (.int .i64 pv)).drew = q := ⟨_, rfl⟩
    rw [hw8] at HG8 HB8 ⊢
    have HA8 := Lib.hid (HA.out.keep HB8.out)
    have HR8 := Lib.hid (HR2.out.keep HB8.out)
    have HB9 := Lib.hid (bch HB.out HB8.out)
    clear hS hN f3 z3 hw8 HG6 HB6 HA6 HR6 HR2 HG
    cases y with
    | true =>
      have hY := HY.out
      rw [if_pos rfl] at hY
      have HY := Lib.hid hY
      clear hY
      go_wp2_with (first
        | (refine wpl_load_rec rfl (.tmp 9) rfl rfl HGD.out ?_)
        | (refine wpl_load_rec rfl (.tmp 9) rfl rfl HG8.out ?_)
        | (go_at_call 8; (with_reducible refine (HRR.out _ _).mono ?_); rintro e w9 ⟨rfl, hb9⟩; have HA9 := Lib.hid (HA8.out.keep hb9); have HG9 := Lib.hid (HG8.out.keep hb9); have HR9 := Lib.hid (HR8.out.keep hb9); have HBA := Lib.hid (bch HB9.out hb9); clear hb9)
        | (refine wpl_from rfl (.tmp 66) (.tmp 67) rfl _ (len - 2 - n) m _ rfl rfl HR9.out HM.out ?_; intro p3 c3 hr3; have HR3 := Lib.hid hr3; clear hr3)
        | (go_at_call 25; (with_reducible refine (clone_any _ (len - 2 - n - m) _ _ HR3.out (by have := HL9.out; omega)).mono ?_); rintro e wc ⟨vc, rfl, hoc, hbc⟩; obtain ⟨pc, cc, rfl⟩ := own_form hoc; have HAC := HA9.out.keep hbc; have HGC := HG9.out.keep hbc; have hfc := HGC.frozen 4; have hzc := HGC.cells.2.2.2.2; have HGD := Lib.hid (HGC.set4 (.slice pc (len - 2 - n - m) cc)); have HAD := Lib.hid (HAC.set_apart (b' := w1.heap.size) (Nat.ne_of_lt hlt) 4 (.slice pc (len - 2 - n - m) cc)); have HOD := Lib.hid (HGC.set_own 4 (.slice pc (len - 2 - n - m) cc) (own_mono hoc HBA.out.size)); have HBD := Lib.hid (bset (bch HBA.out hbc) (b := w1.heap.size) (Nat.le_of_lt hlt) (Nat.le_refl _) 4 (.slice pc (len - 2 - n - m) cc)); clear hoc hbc HAC HGC)
        | (refine wpList_store_row rfl 24 _ _ rfl w.heap.size (rA k c ln pv (.slice pc (len - 2 - n - m) cc)) rfl rfl _ _ HAD.out (rec_info _ rfl) rfl (rec_one _ _ _ _ _ _ _) ?_))
      refine bodyPost_ret_by (results_row_tmp rfl _ _ w.heap.size _ rfl (HAD.out.row k c ln pv (.slice pc (len - 2 - n - m) cc)).load) rfl ?_
      exact dec_some HY.out (HAD.out.row_own _ HOD.out) (brow HBD.out (Nat.le_refl _) (Nat.le_refl _) _)
    | false =>
      have hY := HY.out
      rw [if_neg (by decide)] at hY
      have HY := Lib.hid hY
      clear hY
      go_wp2_with (first
        | (refine wpl_load_rec rfl (.tmp 9) rfl rfl HG8.out ?_)
        | (go_at_call 8; (with_reducible refine (HRR.out _ _).mono ?_); rintro e w9 ⟨rfl, hb9⟩; have HA9 := Lib.hid (HA8.out.keep hb9); have HG9 := Lib.hid (HG8.out.keep hb9); have HR9 := Lib.hid (HR8.out.keep hb9); have HBA := Lib.hid (bch HB9.out hb9); clear hb9)
        | (refine wpList_store_row rfl 24 _ _ rfl w.heap.size (rA 0 0 0 0 (.slice none 0 0)) rfl rfl _ _ HA9.out (rec_info _ rfl) rfl (rec_one _ _ _ _ _ _ _) ?_))
      refine bodyPost_ret_by (results_row_tmp rfl _ _ w.heap.size _ rfl (HA9.out.row 0 0 0 0 (.slice none 0 0)).load) rfl ?_
      exact dec_none HY.out (brow HBA.out (Nat.le_refl _) (Nat.le_refl _) _)
end Go.Proofs.Ytnnkaddgbcdehaa
