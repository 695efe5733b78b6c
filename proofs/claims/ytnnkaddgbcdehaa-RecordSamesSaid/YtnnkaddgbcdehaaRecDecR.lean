/-
  WHAT THE DOCUMENT'S ANSWERS OF LAYER 11 (record) ANSWER: the reference's Decode (written by wip/gen/g15.py). No condition of ours.
-/
import Derived.Test.YtnnkaddgbcdehaaRecRefB
import Derived.Test.YtnnkaddgbcdehaaVarintGet
namespace Go.Proofs.Ytnnkaddgbcdehaa
open Go.RowKit
theorem own_empty_d {w : World} {b : Nat} (h : w.heap.size = b) : ((w.alloc (.cells #[] 5)).drew).ownsRow b 5 1 (.slice (some ⟨b, 0, none⟩) 0 0) 0 (il .u8 []) :=
  World.ownsRow.drew (own_empty h (Nat.le_refl _)).out
/-- what Decode leaves: the record that zs are, or why they are none -/
def DecR (zs : List Int) (w : World) (e : Ending) (w' : World) : Prop :=
  ∃ dv, e = .returned (.tuple #[.agg (rA (recD zs).1.kind (recD zs).1.chain (recD zs).1.lsn (recD zs).1.prev dv), .int .i64 (recD zs).2]) ∧ w'.ownsRow w.heap.size 5 1 dv (recD zs).1.data.length (il .u8 (recD zs).1.data) ∧ Below w.heap.size w w'
theorem dec_none {zs : List Int} {x : Int} {w w' : World} (h : recD zs = (noR, x)) (hb : Below w.heap.size w w') : DecR zs w (.returned (.tuple #[.agg (rA 0 0 0 0 (.slice none 0 0)), .int .i64 x])) w' := by
  refine ⟨.slice none 0 0, ?_, ?_, hb⟩
  · rw [h]; rfl
  · rw [h]; exact World.ownsRow_nil _ _ _ _
theorem dec_some {zs : List Int} {k c l p : Int} {d : List Int} {dv : Value} {n : Nat} {w w' : World} (h : recD zs = (⟨k, c, l, p, d⟩, 0)) (ho : w'.ownsRow w.heap.size 5 1 dv n (il .u8 d)) (hb : Below w.heap.size w w') :
    DecR zs w (.returned (.tuple #[.agg (rA k c l p dv), .int .i64 0])) w' := by
  refine ⟨dv, ?_, ?_, hb⟩
  · rw [h]
  · rw [h]; exact own_len ho rfl rfl
set_option maxRecDepth 8000 in
set_option maxHeartbeats 4000000 in
theorem rrdec_any (v : Value) (len : Nat) (zs : List Int) (w : World) (hri : RI .u8 w v len zs) (hbz : isB zs) : Calls Try.prog 16 #[v] w (DecR zs w) := by
  have hz := hri.length
  have HA := Lib.hid (RO.alloc (k := 0) (c := 0) (l := 0) (p := 0) (v := .slice none 0 0) w)
  have HB := Lib.hid (balloc w (.cells (rA 0 0 0 0 (.slice none 0 0)) 24))
  have HR := Lib.hid (hri.keep HB.out)
  obtain ⟨a, cap, rfl, hlc⟩ : ∃ a cap, v = .slice a len cap ∧ len ≤ cap := by obtain ⟨a, c, e, _, h, _⟩ := hri; exact ⟨a, c, e, h⟩
  by_cases h1 : 512 < zs.length
  · have hR := Lib.hid (recD_long h1)
    have h1' : (512 : Int) < (len : Int) := by omega
    clear h1 hz hri hbz
    go_enter Try.func16, Try.ntmps16
    go_wp2_with (first
      | (refine wpList_store_row rfl 24 _ _ rfl w.heap.size (rA 0 0 0 0 (.slice none 0 0)) rfl rfl _ _ HA.out (rec_info _ rfl) rfl (rec_one _ _ _ _ _ _ _) ?_))
    refine bodyPost_ret_by (results_row_tmp rfl _ _ w.heap.size _ rfl (HA.out.row 0 0 0 0 (.slice none 0 0)).load) rfl ?_
    exact dec_none hR.out (brow HB.out (Nat.le_refl _) (Nat.le_refl _) _)
  have h1' : ¬ (512 : Int) < (len : Int) := by omega
  by_cases h2 : zs.length < 2
  · have hR := Lib.hid (recD_short h2)
    have h2' : (len : Int) < 2 := by omega
    clear h1 h2 hz hri hbz
    go_enter Try.func16, Try.ntmps16
    go_wp2_with (first
      | (refine wpList_store_row rfl 24 _ _ rfl w.heap.size (rA 0 0 0 0 (.slice none 0 0)) rfl rfl _ _ HA.out (rec_info _ rfl) rfl (rec_one _ _ _ _ _ _ _) ?_))
    refine bodyPost_ret_by (results_row_tmp rfl _ _ w.heap.size _ rfl (HA.out.row 0 0 0 0 (.slice none 0 0)).load) rfl ?_
    exact dec_none hR.out (brow HB.out (Nat.le_refl _) (Nat.le_refl _) _)
  have h2' : ¬ (len : Int) < 2 := by omega
  obtain ⟨⟨l, n, e⟩, hg⟩ : ∃ g, gv 0 0 (zs.drop 2) = g := ⟨_, rfl⟩
  have HBZ : Hid (∀ x ∈ zs.drop 2, 0 ≤ x ∧ x ≤ 255) := Lib.hid (hbz.drop 2)
  have HG := Lib.hid hg
  by_cases he : e ≠ 0
  · have hR := Lib.hid (recD_one h1 h2 hg he)
    have he' : (e != 0) = true := by simpa using he
    clear h1 h2 hz hri hbz hg he
    go_enter Try.func16, Try.ntmps16
    go_wp2_with (first
      | (refine wpl_from rfl (.tmp 19) (.const (.int .i64 2)) rfl _ len 2 _ rfl rfl HR.out (by omega) ?_; intro p1 c1 hr1; have HR1 := Lib.hid hr1; clear hr1)
      | (go_at_call 26; (with_reducible refine (rget_any HR1.out HBZ.out HG.out).mono ?_); rintro e w1 ⟨rfl, rfl⟩)
      | (refine wpList_store_row rfl 24 _ _ rfl w.heap.size (rA 0 0 0 0 (.slice none 0 0)) rfl rfl _ _ HA.out (rec_info _ rfl) rfl (rec_one _ _ _ _ _ _ _) ?_))
    refine bodyPost_ret_by (results_row_tmp rfl _ _ w.heap.size _ rfl (HA.out.row 0 0 0 0 (.slice none 0 0)).load) rfl ?_
    exact dec_none hR.out (brow HB.out (Nat.le_refl _) (Nat.le_refl _) _)
  obtain rfl : e = 0 := by omega
  clear he
  have hnl : n ≤ len - 2 := by have := gv_len (zs.drop 2) 0 0; rw [hg] at this; simp at this; omega
  obtain ⟨m2, hm2⟩ : ∃ m2, 2 + n = m2 := ⟨_, rfl⟩
  have hd2 : zs.drop m2 = (zs.drop 2).drop n := by rw [List.drop_drop, hm2]
  obtain ⟨⟨b, m, f⟩, hh⟩ : ∃ g, gv 0 0 ((zs.drop 2).drop n) = g := ⟨_, rfl⟩
  have HBZ2 : Hid (∀ x ∈ zs.drop m2, 0 ≤ x ∧ x ≤ 255) := Lib.hid (hbz.drop m2)
  have HH : Hid (gv 0 0 (zs.drop m2) = (b, m, f)) := Lib.hid (by rw [hd2]; exact hh)
  have HM2 : Hid (m2 ≤ len) := Lib.hid (by omega)
  have HW2 : Hid ((2 : Int) + (n : Int) = (m2 : Int)) := Lib.hid (by omega)
  have hn9 : (n : Int) ≤ 512 := by omega
  by_cases hf : f ≠ 0
  · have hR := Lib.hid (recD_two h1 h2 hg hh hf)
    have hf' : (f != 0) = true := by simpa using hf
    clear h1 h2 hz hri hbz hg hf hh hd2 hm2
    go_enter Try.func16, Try.ntmps16
    go_wp2_with (first
      | (refine wpl_from rfl (.tmp 30) (.tmp 32) rfl _ len m2 _ rfl (congrArg (Value.int .i64) HW2.out) HR.out (by have := HM2.out; omega) ?_; intro p2 c2 hr2; have HR2 := Lib.hid hr2; clear hr2)
      | (refine wpl_from rfl (.tmp 19) (.const (.int .i64 2)) rfl _ len 2 _ rfl rfl HR.out (by omega) ?_; intro p1 c1 hr1; have HR1 := Lib.hid hr1; clear hr1)
      | (go_at_call 26; (with_reducible refine (rget_any HR2.out HBZ2.out HH.out).mono ?_); rintro e w1 ⟨rfl, rfl⟩)
      | (go_at_call 26; (with_reducible refine (rget_any HR1.out HBZ.out HG.out).mono ?_); rintro e w1 ⟨rfl, rfl⟩)
      | (refine wpList_store_row rfl 24 _ _ rfl w.heap.size (rA 0 0 0 0 (.slice none 0 0)) rfl rfl _ _ HA.out (rec_info _ rfl) rfl (rec_one _ _ _ _ _ _ _) ?_))
    refine bodyPost_ret_by (results_row_tmp rfl _ _ w.heap.size _ rfl (HA.out.row 0 0 0 0 (.slice none 0 0)).load) rfl ?_
    exact dec_none hR.out (brow HB.out (Nat.le_refl _) (Nat.le_refl _) _)
  obtain rfl : f = 0 := by omega
  clear hf
  have hlb := gv_bd (zs.drop 2) 0 0 (by omega) (by omega) (by decide) (hbz.drop 2)
  have hbb := gv_bd ((zs.drop 2).drop n) 0 0 (by omega) (by omega) (by decide) ((hbz.drop 2).drop n)
  rw [hg] at hlb
  rw [hh] at hbb
  simp only at hlb hbb
  obtain ⟨hl0, hl9⟩ := hlb
  obtain ⟨hb0, hb9⟩ := hbb
  by_cases hl : 2147483647 < l
  · have hR := Lib.hid (recD_form h1 h2 hg hh (by unfold recOk; exact decide_eq_false (fun h => by omega)))
    clear h1 h2 hz hri hbz hg hh hd2 hm2
    go_enter Try.func16, Try.ntmps16
    go_wp2_with (first
      | (refine wpl_from rfl (.tmp 30) (.tmp 32) rfl _ len m2 _ rfl (congrArg (Value.int .i64) HW2.out) HR.out (by have := HM2.out; omega) ?_; intro p2 c2 hr2; have HR2 := Lib.hid hr2; clear hr2)
      | (refine wpl_from rfl (.tmp 19) (.const (.int .i64 2)) rfl _ len 2 _ rfl rfl HR.out (by omega) ?_; intro p1 c1 hr1; have HR1 := Lib.hid hr1; clear hr1)
      | (go_at_call 26; (with_reducible refine (rget_any HR2.out HBZ2.out HH.out).mono ?_); rintro e w1 ⟨rfl, rfl⟩)
      | (go_at_call 26; (with_reducible refine (rget_any HR1.out HBZ.out HG.out).mono ?_); rintro e w1 ⟨rfl, rfl⟩)
      | (refine wpList_store_row rfl 24 _ _ rfl w.heap.size (rA 0 0 0 0 (.slice none 0 0)) rfl rfl _ _ HA.out (rec_info _ rfl) rfl (rec_one _ _ _ _ _ _ _) ?_))
    refine bodyPost_ret_by (results_row_tmp rfl _ _ w.heap.size _ rfl (HA.out.row 0 0 0 0 (.slice none 0 0)).load) rfl ?_
    exact dec_none hR.out (brow HB.out (Nat.le_refl _) (Nat.le_refl _) _)
  by_cases hbl : l < b
  · have hR := Lib.hid (recD_form h1 h2 hg hh (by unfold recOk; exact decide_eq_false (fun h => by omega)))
    clear h1 h2 hz hri hbz hg hh hd2 hm2
    go_enter Try.func16, Try.ntmps16
    go_wp2_with (first
      | (refine wpl_from rfl (.tmp 30) (.tmp 32) rfl _ len m2 _ rfl (congrArg (Value.int .i64) HW2.out) HR.out (by have := HM2.out; omega) ?_; intro p2 c2 hr2; have HR2 := Lib.hid hr2; clear hr2)
      | (refine wpl_from rfl (.tmp 19) (.const (.int .i64 2)) rfl _ len 2 _ rfl rfl HR.out (by omega) ?_; intro p1 c1 hr1; have HR1 := Lib.hid hr1; clear hr1)
      | (go_at_call 26; (with_reducible refine (rget_any HR2.out HBZ2.out HH.out).mono ?_); rintro e w1 ⟨rfl, rfl⟩)
      | (go_at_call 26; (with_reducible refine (rget_any HR1.out HBZ.out HG.out).mono ?_); rintro e w1 ⟨rfl, rfl⟩)
      | (refine wpList_store_row rfl 24 _ _ rfl w.heap.size (rA 0 0 0 0 (.slice none 0 0)) rfl rfl _ _ HA.out (rec_info _ rfl) rfl (rec_one _ _ _ _ _ _ _) ?_))
    refine bodyPost_ret_by (results_row_tmp rfl _ _ w.heap.size _ rfl (HA.out.row 0 0 0 0 (.slice none 0 0)).load) rfl ?_
    exact dec_none hR.out (brow HB.out (Nat.le_refl _) (Nat.le_refl _) _)
  by_cases hbe : b = 0
  · subst hbe
    have hR := Lib.hid (recD_form h1 h2 hg hh (by unfold recOk; exact decide_eq_false (fun h => by omega)))
    clear h1 h2 hz hri hbz hg hh hd2 hm2
    go_enter Try.func16, Try.ntmps16
    go_wp2_with (first
      | (refine wpl_from rfl (.tmp 30) (.tmp 32) rfl _ len m2 _ rfl (congrArg (Value.int .i64) HW2.out) HR.out (by have := HM2.out; omega) ?_; intro p2 c2 hr2; have HR2 := Lib.hid hr2; clear hr2)
      | (refine wpl_from rfl (.tmp 19) (.const (.int .i64 2)) rfl _ len 2 _ rfl rfl HR.out (by omega) ?_; intro p1 c1 hr1; have HR1 := Lib.hid hr1; clear hr1)
      | (go_at_call 26; (with_reducible refine (rget_any HR2.out HBZ2.out HH.out).mono ?_); rintro e w1 ⟨rfl, rfl⟩)
      | (go_at_call 26; (with_reducible refine (rget_any HR1.out HBZ.out HG.out).mono ?_); rintro e w1 ⟨rfl, rfl⟩)
      | (refine wpList_store_row rfl 24 _ _ rfl w.heap.size (rA 0 0 0 0 (.slice none 0 0)) rfl rfl _ _ HA.out (rec_info _ rfl) rfl (rec_one _ _ _ _ _ _ _) ?_))
    refine bodyPost_ret_by (results_row_tmp rfl _ _ w.heap.size _ rfl (HA.out.row 0 0 0 0 (.slice none 0 0)).load) rfl ?_
    exact dec_none hR.out (brow HB.out (Nat.le_refl _) (Nat.le_refl _) _)
  have hbe' : (b == 0) = false := by simpa using hbe
  have hml : m ≤ len - m2 := by have := gv_len ((zs.drop 2).drop n) 0 0; rw [hh] at this; simp at this; omega
  obtain ⟨m3, hm3⟩ : ∃ m3, m2 + m = m3 := ⟨_, rfl⟩
  have HD3 : Hid (zs.drop m3 = ((zs.drop 2).drop n).drop m) := Lib.hid (by rw [← hd2, List.drop_drop, hm3])
  have hm3l : m3 ≤ len := by omega
  have hm9 : (m : Int) ≤ 512 := by omega
  have HM : Hid (m2 + m = m3 ∧ m3 ≤ len ∧ m2 ≤ 512) := Lib.hid ⟨hm3, hm3l, by omega⟩
  have HWA : Hid (IntKind.i64.wrap ((2 : Int) + (n : Int)) = 2 + (n : Int)) := Lib.hid (by rw [IntKind.wrap_i64]; omega)
  have HWB : Hid (IntKind.i64.wrap ((2 : Int) + (n : Int) + (m : Int)) = (m3 : Int)) := Lib.hid (by rw [IntKind.wrap_i64]; omega)
  have HK12 : Hid (IntKind.u64.wrap (l - b) = l - b) := Lib.hid (by rw [IntKind.wrap_u64]; omega)
  have HK13 : Hid (IntKind.i64.wrap (l - b) = l - b) := Lib.hid (by rw [IntKind.wrap_i64]; omega)
  have HK9 : Hid (IntKind.i64.wrap l = l) := Lib.hid (by rw [IntKind.wrap_i64]; omega)
  obtain ⟨x, off, rfl, hcell⟩ := HR.out.at_ (by omega)
  have hlen0 : 0 < len := by omega
  have hlen1 : (1 : Int) < (len : Int) := by omega
  have hc0 := hcell 0 (by omega)
  have hc1 := hcell 1 (by omega)
  obtain ⟨k, hk⟩ : ∃ k, zs.getD 0 0 = k := ⟨_, rfl⟩
  obtain ⟨c, hc⟩ : ∃ c, zs.getD 1 0 = c := ⟨_, rfl⟩
  have hkb : 0 ≤ k ∧ k ≤ 255 := by rw [← hk]; exact hbz _ (getD_mem (by omega))
  have hcb : 0 ≤ c ∧ c ≤ 255 := by rw [← hc]; exact hbz _ (getD_mem (by omega))
  have HK3 : Hid (IntKind.i64.wrap k = k) := Lib.hid (by rw [IntKind.wrap_i64]; omega)
  have HK7 : Hid (IntKind.i64.wrap c = c) := Lib.hid (by rw [IntKind.wrap_i64]; omega)
  rw [Nat.add_zero, hk] at hc0
  rw [hc] at hc1
  have HC0 := Lib.hid hc0
  have HC1 := Lib.hid hc1
  obtain ⟨y, hy⟩ : ∃ y, recOk k c l (l - b) = y := ⟨_, rfl⟩
  have HRR : Hid (∀ v W, Calls Try.prog 9 #[.agg (rA k c l (l - b) v)] W fun e w' => e = .returned (.bool y) ∧ Below W.heap.size W w') := Lib.hid fun v W => by have := rrecok_any k c l (l - b) v W; rwa [hy] at this
  have HY : Hid (if y = true then recD zs = (⟨k, c, l, l - b, zs.drop m3⟩, 0) else recD zs = (noR, 2)) := Lib.hid (by
    cases y with
    | true => rw [if_pos rfl, recD_ok h1 h2 hg hh (by rw [hk, hc]; exact hy), hk, hc, HD3.out]
    | false => rw [if_neg (by decide)]; exact recD_form h1 h2 hg hh (by rw [hk, hc]; exact hy))
  obtain ⟨p3, c3, hsl⟩ : ∃ p3 c3, sliced (some ⟨x, off, none⟩) m3 len cap 1 = .slice p3 (len - m3) c3 := ⟨_, _, rfl⟩
  have hcut := HR.out.from m3 hm3l
  rw [hsl] at hcut
  have HR3 := Lib.hid hcut
  have HSL := Lib.hid hsl
  have HL9 : Hid (len ≤ 512) := Lib.hid (by omega)
  clear h1 h2 hz hri hbz hg hh hd2 hm2 hcell hc0 hc1 hk hc hy hcut hsl hm3 hlc
  go_enter Try.func16, Try.ntmps16
  go_wp2_with (first
    | (refine wpl_from rfl (.tmp 30) (.tmp 32) rfl _ len m2 _ rfl (congrArg (Value.int .i64) HW2.out) HR.out (by have := HM2.out; omega) ?_; intro p2 c2 hr2; have HR2 := Lib.hid hr2; clear hr2)
    | (refine wpl_from rfl (.tmp 19) (.const (.int .i64 2)) rfl _ len 2 _ rfl rfl HR.out (by omega) ?_; intro p1 c1 hr1; have HR1 := Lib.hid hr1; clear hr1)
    | (go_at_call 26; (with_reducible refine (rget_any HR2.out HBZ2.out HH.out).mono ?_); rintro e w1 ⟨rfl, rfl⟩)
    | (go_at_call 26; (with_reducible refine (rget_any HR1.out HBZ.out HG.out).mono ?_); rintro e w1 ⟨rfl, rfl⟩))
  obtain ⟨w1, hw1⟩ : ∃ q, w.alloc (.cells (rA 0 0 0 0 (.slice none 0 0)) 24) = q := ⟨_, rfl⟩
  rw [hw1] at HA HB HR3 HC0 HC1 ⊢
  clear HR HR1 HR2 hw1
  refine wp_region_held_drew (S := (fun W' => Below w1.heap.size w1 W')) (by kernel_rfl) ((Below.refl _ _).drew) (fun hS => ?_)
  refine wpAnyH_take (i := 0) (oi := ({ dst := some 54, op := Op.move (Operand.tmp 0), type := 22, pos := "ref.go:51", after := #[], guard := none } : Oper)) (v := ?_) rfl (by kernel_rfl) (by kernel_rfl) (by kernel_rfl) (fun _ _ _ h => h) (Or.inl ⟨by rfl, ?_⟩) hS ?_
  rotate_left
  · (intro w hSw; (try dsimp only at hSw); go_simp; try with_reducible rfl)
  (try simp only [Act.put, List.setIfInBounds_toArray, List.set_cons_zero, List.set_cons_succ])
  refine wpAnyH_take (i := 1) (oi := ({ dst := some 55, op := Op.indexAddr 22 (Operand.tmp 54) (Operand.const (Value.int IntKind.i64 0)), type := 0, pos := "ref.go:51", after := #[{ on := 0, ground := Ground.data }], guard := none } : Oper)) (v := ?_) rfl (by kernel_rfl) (by kernel_rfl) (by kernel_rfl) (fun _ _ _ h => h) (Or.inl ⟨by rfl, ?_⟩) hS ?_
  rotate_left
  · (intro w hSw; (try dsimp only at hSw); go_simp; try with_reducible rfl)
  (try simp only [Act.put, List.setIfInBounds_toArray, List.set_cons_zero, List.set_cons_succ])
  refine wpAnyH_take (i := 2) (oi := ({ dst := some 56, op := Op.load 5 (Operand.tmp 55), type := 5, pos := "ref.go:51", after := #[{ on := 1, ground := Ground.data }], guard := none } : Oper)) (v := ?_) rfl (by kernel_rfl) (by kernel_rfl) (by kernel_rfl) (fun _ _ _ h => h) (Or.inl ⟨by rfl, ?_⟩) hS ?_
  rotate_left
  · (intro w hSw; (try dsimp only at hSw); have z := cell_keep hSw HC0.out; go_simp; try with_reducible rfl)
  (try simp only [Act.put, List.setIfInBounds_toArray, List.set_cons_zero, List.set_cons_succ])
  refine wpAnyH_take (i := 3) (oi := ({ dst := some 57, op := Op.convert 5 3 (Operand.tmp 56), type := 3, pos := "ref.go:51", after := #[{ on := 2, ground := Ground.data }], guard := none } : Oper)) (v := .int .i64 k) rfl (by kernel_rfl) (by kernel_rfl) (by kernel_rfl) (fun _ _ _ h => h) (Or.inl ⟨by rfl, ?_⟩) hS ?_
  · (intro w hSw; (try dsimp only at hSw); have z := HK3.out; go_simp; (try exact z))
  (try simp only [Act.put, List.setIfInBounds_toArray, List.set_cons_zero, List.set_cons_succ])
  refine wpAnyH_take (i := 4) (oi := ({ dst := some 58, op := Op.move (Operand.tmp 0), type := 22, pos := "ref.go:51", after := #[], guard := none } : Oper)) (v := ?_) rfl (by kernel_rfl) (by kernel_rfl) (by kernel_rfl) (fun _ _ _ h => h) (Or.inl ⟨by rfl, ?_⟩) hS ?_
  rotate_left
  · (intro w hSw; (try dsimp only at hSw); go_simp; try with_reducible rfl)
  (try simp only [Act.put, List.setIfInBounds_toArray, List.set_cons_zero, List.set_cons_succ])
  refine wpAnyH_take (i := 5) (oi := ({ dst := some 59, op := Op.indexAddr 22 (Operand.tmp 58) (Operand.const (Value.int IntKind.i64 1)), type := 0, pos := "ref.go:51", after := #[{ on := 4, ground := Ground.data }], guard := none } : Oper)) (v := ?_) rfl (by kernel_rfl) (by kernel_rfl) (by kernel_rfl) (fun _ _ _ h => h) (Or.inl ⟨by rfl, ?_⟩) hS ?_
  rotate_left
  · (intro w hSw; (try dsimp only at hSw); go_simp; try with_reducible rfl)
  (try simp only [Act.put, List.setIfInBounds_toArray, List.set_cons_zero, List.set_cons_succ])
  refine wpAnyH_take (i := 6) (oi := ({ dst := some 60, op := Op.load 5 (Operand.tmp 59), type := 5, pos := "ref.go:51", after := #[{ on := 5, ground := Ground.data }], guard := none } : Oper)) (v := ?_) rfl (by kernel_rfl) (by kernel_rfl) (by kernel_rfl) (fun _ _ _ h => h) (Or.inl ⟨by rfl, ?_⟩) hS ?_
  rotate_left
  · (intro w hSw; (try dsimp only at hSw); have z := cell_keep hSw HC1.out; go_simp; try with_reducible rfl)
  (try simp only [Act.put, List.setIfInBounds_toArray, List.set_cons_zero, List.set_cons_succ])
  refine wpAnyH_take (i := 7) (oi := ({ dst := some 61, op := Op.convert 5 3 (Operand.tmp 60), type := 3, pos := "ref.go:51", after := #[{ on := 6, ground := Ground.data }], guard := none } : Oper)) (v := .int .i64 c) rfl (by kernel_rfl) (by kernel_rfl) (by kernel_rfl) (fun _ _ _ h => h) (Or.inl ⟨by rfl, ?_⟩) hS ?_
  · (intro w hSw; (try dsimp only at hSw); have z := HK7.out; go_simp; (try exact z))
  (try simp only [Act.put, List.setIfInBounds_toArray, List.set_cons_zero, List.set_cons_succ])
  refine wpAnyH_take (i := 8) (oi := ({ dst := some 62, op := Op.move (Operand.tmp 4), type := 36, pos := "ref.go:51", after := #[], guard := none } : Oper)) (v := ?_) rfl (by kernel_rfl) (by kernel_rfl) (by kernel_rfl) (fun _ _ _ h => h) (Or.inl ⟨by rfl, ?_⟩) hS ?_
  rotate_left
  · (intro w hSw; (try dsimp only at hSw); go_simp; try with_reducible rfl)
  (try simp only [Act.put, List.setIfInBounds_toArray, List.set_cons_zero, List.set_cons_succ])
  refine wpAnyH_take (i := 9) (oi := ({ dst := some 63, op := Op.convert 36 3 (Operand.tmp 62), type := 3, pos := "ref.go:51", after := #[{ on := 8, ground := Ground.data }], guard := none } : Oper)) (v := .int .i64 l) rfl (by kernel_rfl) (by kernel_rfl) (by kernel_rfl) (fun _ _ _ h => h) (Or.inl ⟨by rfl, ?_⟩) hS ?_
  · (intro w hSw; (try dsimp only at hSw); have z := HK9.out; go_simp; (try exact z))
  (try simp only [Act.put, List.setIfInBounds_toArray, List.set_cons_zero, List.set_cons_succ])
  refine wpAnyH_take (i := 10) (oi := ({ dst := some 64, op := Op.move (Operand.tmp 4), type := 36, pos := "ref.go:51", after := #[], guard := none } : Oper)) (v := ?_) rfl (by kernel_rfl) (by kernel_rfl) (by kernel_rfl) (fun _ _ _ h => h) (Or.inl ⟨by rfl, ?_⟩) hS ?_
  rotate_left
  · (intro w hSw; (try dsimp only at hSw); go_simp; try with_reducible rfl)
  (try simp only [Act.put, List.setIfInBounds_toArray, List.set_cons_zero, List.set_cons_succ])
  refine wpAnyH_take (i := 11) (oi := ({ dst := some 65, op := Op.move (Operand.tmp 7), type := 36, pos := "ref.go:51", after := #[], guard := none } : Oper)) (v := ?_) rfl (by kernel_rfl) (by kernel_rfl) (by kernel_rfl) (fun _ _ _ h => h) (Or.inl ⟨by rfl, ?_⟩) hS ?_
  rotate_left
  · (intro w hSw; (try dsimp only at hSw); go_simp; try with_reducible rfl)
  (try simp only [Act.put, List.setIfInBounds_toArray, List.set_cons_zero, List.set_cons_succ])
  refine wpAnyH_take (i := 12) (oi := ({ dst := some 66, op := Op.binOp BinOp.sub 36 (Operand.tmp 64) (Operand.tmp 65) 36, type := 36, pos := "ref.go:51", after := #[{ on := 10, ground := Ground.data }, { on := 11, ground := Ground.data }], guard := none } : Oper)) (v := .int .u64 (l - b)) rfl (by kernel_rfl) (by kernel_rfl) (by kernel_rfl) (fun _ _ _ h => h) (Or.inl ⟨by rfl, ?_⟩) hS ?_
  · (intro w hSw; (try dsimp only at hSw); have z := HK12.out; go_simp; (try exact z))
  (try simp only [Act.put, List.setIfInBounds_toArray, List.set_cons_zero, List.set_cons_succ])
  refine wpAnyH_take (i := 13) (oi := ({ dst := some 67, op := Op.convert 36 3 (Operand.tmp 66), type := 3, pos := "ref.go:51", after := #[{ on := 12, ground := Ground.data }], guard := none } : Oper)) (v := .int .i64 (l - b)) rfl (by kernel_rfl) (by kernel_rfl) (by kernel_rfl) (fun _ _ _ h => h) (Or.inl ⟨by rfl, ?_⟩) hS ?_
  · (intro w hSw; (try dsimp only at hSw); have z := HK13.out; go_simp; (try exact z))
  (try simp only [Act.put, List.setIfInBounds_toArray, List.set_cons_zero, List.set_cons_succ])
  refine wpAnyH_take (i := 15) (oi := ({ dst := some 69, op := Op.move (Operand.tmp 0), type := 22, pos := "ref.go:51", after := #[], guard := none } : Oper)) (v := ?_) rfl (by kernel_rfl) (by kernel_rfl) (by kernel_rfl) (fun _ _ _ h => h) (Or.inl ⟨by rfl, ?_⟩) hS ?_
  rotate_left
  · (intro w hSw; (try dsimp only at hSw); go_simp; try with_reducible rfl)
  (try simp only [Act.put, List.setIfInBounds_toArray, List.set_cons_zero, List.set_cons_succ])
  refine wpAnyH_take (i := 16) (oi := ({ dst := some 70, op := Op.move (Operand.tmp 5), type := 3, pos := "ref.go:51", after := #[], guard := none } : Oper)) (v := ?_) rfl (by kernel_rfl) (by kernel_rfl) (by kernel_rfl) (fun _ _ _ h => h) (Or.inl ⟨by rfl, ?_⟩) hS ?_
  rotate_left
  · (intro w hSw; (try dsimp only at hSw); go_simp; try with_reducible rfl)
  (try simp only [Act.put, List.setIfInBounds_toArray, List.set_cons_zero, List.set_cons_succ])
  refine wpAnyH_take (i := 17) (oi := ({ dst := some 71, op := Op.binOp BinOp.add 3 (Operand.const (Value.int IntKind.i64 2)) (Operand.tmp 70) 3, type := 3, pos := "ref.go:51", after := #[{ on := 16, ground := Ground.data }], guard := none } : Oper)) (v := .int .i64 (2 + (n : Int))) rfl (by kernel_rfl) (by kernel_rfl) (by kernel_rfl) (fun _ _ _ h => h) (Or.inl ⟨by rfl, ?_⟩) hS ?_
  · (intro w hSw; (try dsimp only at hSw); have z := HWA.out; go_simp; (try exact z))
  (try simp only [Act.put, List.setIfInBounds_toArray, List.set_cons_zero, List.set_cons_succ])
  refine wpAnyH_take (i := 18) (oi := ({ dst := some 72, op := Op.move (Operand.tmp 8), type := 3, pos := "ref.go:51", after := #[], guard := none } : Oper)) (v := ?_) rfl (by kernel_rfl) (by kernel_rfl) (by kernel_rfl) (fun _ _ _ h => h) (Or.inl ⟨by rfl, ?_⟩) hS ?_
  rotate_left
  · (intro w hSw; (try dsimp only at hSw); go_simp; try with_reducible rfl)
  (try simp only [Act.put, List.setIfInBounds_toArray, List.set_cons_zero, List.set_cons_succ])
  refine wpAnyH_take (i := 19) (oi := ({ dst := some 73, op := Op.binOp BinOp.add 3 (Operand.tmp 71) (Operand.tmp 72) 3, type := 3, pos := "ref.go:51", after := #[{ on := 17, ground := Ground.data }, { on := 18, ground := Ground.data }], guard := none } : Oper)) (v := .int .i64 (m3 : Int)) rfl (by kernel_rfl) (by kernel_rfl) (by kernel_rfl) (fun _ _ _ h => h) (Or.inl ⟨by rfl, ?_⟩) hS ?_
  · (intro w hSw; (try dsimp only at hSw); have z := HWB.out; go_simp; (try exact z))
  (try simp only [Act.put, List.setIfInBounds_toArray, List.set_cons_zero, List.set_cons_succ])
  refine wpAnyH_take (i := 20) (oi := ({ dst := some 74, op := Op.slice 22 (Operand.tmp 69) (some (Operand.tmp 73)) none none, type := 22, pos := "ref.go:51", after := #[{ on := 15, ground := Ground.data }, { on := 19, ground := Ground.data }], guard := none } : Oper)) (v := .slice p3 (len - m3) c3) rfl (by kernel_rfl) (by kernel_rfl) (by kernel_rfl) (fun _ _ _ h => h) (Or.inl ⟨by rfl, ?_⟩) hS ?_
  · (intro w hSw; (try dsimp only at hSw); exact (exec_cut (.tmp 69) (.tmp 73) rfl _ len cap m3 rfl rfl hm3l).trans (by rw [HSL.out]))
  (try simp only [Act.put, List.setIfInBounds_toArray, List.set_cons_zero, List.set_cons_succ])
  refine rg_both 14 23 ({ dst := some 68, op := Op.buildSlice 22 0 #[], type := 22, pos := "ref.go:51", after := #[], guard := none } : Oper) ({ dst := some 9, op := Op.alloc 24, type := 0, pos := "ref.go:51", after := #[], guard := none } : Oper) (by kernel_rfl) rfl rfl (fun K hK => ?_) (fun K hK => ?_)
  · skip
    go_simp
    obtain ⟨w3, hw3⟩ : ∃ q, (World.alloc w1 (.cells #[] 5)).drew = q := ⟨_, rfl⟩; have hb3 : Below w1.heap.size w1 w3 := (by rw [← hw3]; exact bdrew0 _ _); have ho3 : w3.ownsRow w1.heap.size 5 1 (.slice (some ⟨w1.heap.size, 0, none⟩) 0 0) 0 (il .u8 []) := (by rw [← hw3]; exact own_empty_d rfl); have HO3 := Lib.hid ho3; clear ho3; rw [hw3]; (try clear hN); have hN := hb3
    refine hK.out _ _ ?_ (fun hS1 => ?_)
    · (first | exact hN | exact hS)
    clear hK K hS; have hS := hS1; clear hS1
    (try simp only [Act.put, List.setIfInBounds_toArray, List.set_cons_zero, List.set_cons_succ])
    refine rg_both 21 23 ({ dst := some 75, op := Op.call { callee := Callee.builtin Builtin.append, args := #[Operand.tmp 68, Operand.tmp 74], argTypes := #[22, 22] }, type := 22, pos := "ref.go:51", after := #[{ on := 14, ground := Ground.data }, { on := 20, ground := Ground.data }], guard := none } : Oper) ({ dst := some 9, op := Op.alloc 24, type := 0, pos := "ref.go:51", after := #[], guard := none } : Oper) (by kernel_rfl) rfl rfl (fun K hK => ?_) (fun K hK => ?_)
    · skip
      rw [if_pos (by rfl)]; refine wp_appn (.tmp 68) (.tmp 74) 22 rfl 5 .u8 1 Try.underlying22 Try.info_u8 w1.heap.size _ 0 [] rfl HO3.out _ (len - m3) (zs.drop m3) rfl (HR3.out.keep hS) (by have := HL9.out; omega) (by have := HL9.out; omega) hS.size ?_; intro v4 w4 ho4 hg4 _; rw [Nat.zero_add] at ho4; obtain ⟨p4, c4, rfl⟩ := own_form ho4; have HO4 := Lib.hid ho4; (try clear hN); have hN := hS.grown hg4 hS.size (fun k e => (HO3.out.lt k e).1)
      refine hK.out _ _ ?_ (fun hS1 => ?_)
      · (first | exact hN | exact hS)
      clear hK K hS; have hS := hS1; clear hS1
      (try simp only [Act.put, List.setIfInBounds_toArray, List.set_cons_zero, List.set_cons_succ])
      refine wpAnyH_take (i := 22) (oi := ({ dst := some 76, op := Op.build 24 #[(0, Operand.tmp 57), (1, Operand.tmp 61), (2, Operand.tmp 63), (3, Operand.tmp 67), (4, Operand.tmp 75)], type := 24, pos := "ref.go:51", after := #[{ on := 3, ground := Ground.data }, { on := 7, ground := Ground.data }, { on := 9, ground := Ground.data }, { on := 13, ground := Ground.data }, { on := 21, ground := Ground.data }], guard := none } : Oper)) (v := .agg (rA k c l (l - b) (.slice p4 (len - m3) c4))) rfl (by kernel_rfl) (by kernel_rfl) (by kernel_rfl) (fun _ _ _ h => h) (Or.inl ⟨by rfl, ?_⟩) hS ?_
      · (intro w hSw; (try dsimp only at hSw); go_simp; try with_reducible rfl)
      (try simp only [Act.put, List.setIfInBounds_toArray, List.set_cons_zero, List.set_cons_succ])
      refine rg_one 23 ({ dst := some 9, op := Op.alloc 24, type := 0, pos := "ref.go:51", after := #[], guard := none } : Oper) (by kernel_rfl) rfl (fun K hK => ?_)
      go_simp
      have hS9 := hS; obtain ⟨w5, hw5⟩ : ∃ q, (World.alloc w4 (.cells (rA 0 0 0 0 (.slice none 0 0)) 24)) = q := ⟨_, rfl⟩; have hb5 : Below (World.heap w4).size w4 w5 := (by rw [← hw5]; exact balloc _ _); have hg5 : RO w5 (World.heap w4).size 0 0 0 0 (.slice none 0 0) := (by rw [← hw5]; exact RO.alloc w4); have HG := Lib.hid hg5; clear hg5; rw [hw5]; have HO4 := Lib.hid (own_keep HO4.out hb5); (try clear hN); have hN := hS.trans (hb5.mono hS.size)
      refine hK.out _ _ ?_ (fun hS1 => ?_)
      · (first | exact hN | exact hS)
      clear hK K hS; have hS := hS1; clear hS1
      (try simp only [Act.put, List.setIfInBounds_toArray, List.set_cons_zero, List.set_cons_succ])
      refine rg_one 24 ({ dst := none, op := Op.store 24 (Operand.tmp 9) (Operand.tmp 76), type := 0, pos := "ref.go:51", after := #[{ on := 23, ground := Ground.data }, { on := 22, ground := Ground.data }, { on := 21, ground := Ground.chain }, { on := 0, ground := Ground.phase }, { on := 1, ground := Ground.phase }, { on := 2, ground := Ground.phase }, { on := 3, ground := Ground.phase }, { on := 4, ground := Ground.phase }, { on := 5, ground := Ground.phase }, { on := 6, ground := Ground.phase }, { on := 7, ground := Ground.phase }, { on := 8, ground := Ground.phase }, { on := 9, ground := Ground.phase }, { on := 10, ground := Ground.phase }, { on := 11, ground := Ground.phase }, { on := 12, ground := Ground.phase }, { on := 13, ground := Ground.phase }, { on := 14, ground := Ground.phase }, { on := 15, ground := Ground.phase }, { on := 16, ground := Ground.phase }, { on := 17, ground := Ground.phase }, { on := 18, ground := Ground.phase }, { on := 19, ground := Ground.phase }, { on := 20, ground := Ground.phase }, { on := 21, ground := Ground.phase }, { on := 22, ground := Ground.phase }, { on := 23, ground := Ground.phase }], guard := none } : Oper) (by kernel_rfl) rfl (fun K hK => ?_)
      rw [if_pos (by rfl)]; refine wp_store_row 24 (.tmp 9) (.tmp 76) rfl (World.heap w4).size (rA k c l (l - b) (.slice p4 (len - m3) c4)) rfl rfl _ _ HG.out (rec_info _ rfl) rfl (rec_one _ _ _ _ _ _ _) ?_; have hro := HG.out.row_own (rA k c l (l - b) (.slice p4 (len - m3) c4)) HO4.out; have hgo := HG.out.row k c l (l - b) (.slice p4 (len - m3) c4); have hbo := brow hS (b := (World.heap w4).size) (by first | exact Nat.le_refl _ | exact hS9.size | omega) (Nat.le_refl _) (rA k c l (l - b) (.slice p4 (len - m3) c4)); obtain ⟨w6, hw6⟩ : ∃ q, World.setRow w5 (World.heap w4).size (rA k c l (l - b) (.slice p4 (len - m3) c4)) = q := ⟨_, rfl⟩; rw [hw6] at hro hgo hbo; rw [hw6]; have HO6 := Lib.hid hro; have HG6 : Hid (∃ g, RO w6 g k c l (l - b) (.slice p4 (len - m3) c4)) := Lib.hid ⟨_, hgo⟩; have HG7 := Lib.hid hgo; clear hro hgo; (try clear hN); have hN := hbo; clear hbo
      refine hK.out _ _ ?_ (fun hS1 => ?_)
      · (first | exact hN | exact hS)
      clear hK K hS; have hS := hS1; clear hS1
      (try simp only [Act.put])
      refine wpAnyH_done (by kernel_rfl) ?_ _
      have HB6 := Lib.hid (bch HB.out hS)
      have HA6 := Lib.hid (HA.out.keep hS)
      have HO6 := Lib.hid (own_mono HO6.out HB.out.size)
      have HR6 := HG7
      clear HR3 HG HG6 HG7 hS hN
      cases y with
      | true =>
        have hY := HY.out
        rw [if_pos rfl] at hY
        have HY := Lib.hid hY
        clear hY
        go_wp2_with (first
          | (refine wpl_load_rec rfl (.tmp 9) rfl rfl HR7.out ?_)
          | (refine wpl_load_rec rfl (.tmp 9) rfl rfl HR6.out ?_)
          | (go_at_call 9; (with_reducible refine (HRR.out _ _).mono ?_); rintro e w7 ⟨rfl, hb7⟩; have HA7 := Lib.hid (HA6.out.keep hb7); have HR7 := Lib.hid (HR6.out.keep hb7); have HO7 := Lib.hid (own_keep HO6.out hb7); have HB7 := Lib.hid (bch HB6.out hb7); clear hb7)
          | (refine wpList_store_row rfl 24 _ _ rfl w.heap.size (rA k c l (l - b) (.slice p4 (len - m3) c4)) rfl rfl _ _ HA7.out (rec_info _ rfl) rfl (rec_one _ _ _ _ _ _ _) ?_))
        refine bodyPost_ret_by (results_row_tmp rfl _ _ w.heap.size _ rfl (HA7.out.row k c l (l - b) (.slice p4 (len - m3) c4)).load) rfl ?_
        exact dec_some HY.out (HA7.out.row_own _ HO7.out) (brow HB7.out (Nat.le_refl _) (Nat.le_refl _) _)
      | false =>
        have hY := HY.out
        rw [if_neg (by decide)] at hY
        have HY := Lib.hid hY
        clear hY
        go_wp2_with (first
          | (refine wpl_load_rec rfl (.tmp 9) rfl rfl HR6.out ?_)
          | (go_at_call 9; (with_reducible refine (HRR.out _ _).mono ?_); rintro e w7 ⟨rfl, hb7⟩; have HA7 := Lib.hid (HA6.out.keep hb7); have HB7 := Lib.hid (bch HB6.out hb7); clear hb7)
          | (refine wpList_store_row rfl 24 _ _ rfl w.heap.size (rA 0 0 0 0 (.slice none 0 0)) rfl rfl _ _ HA7.out (rec_info _ rfl) rfl (rec_one _ _ _ _ _ _ _) ?_))
        refine bodyPost_ret_by (results_row_tmp rfl _ _ w.heap.size _ rfl (HA7.out.row 0 0 0 0 (.slice none 0 0)).load) rfl ?_
        exact dec_none HY.out (brow HB7.out (Nat.le_refl _) (Nat.le_refl _) _)
    · skip
      go_simp
      have hS9 := hS; obtain ⟨w5, hw5⟩ : ∃ q, (World.alloc w3 (.cells (rA 0 0 0 0 (.slice none 0 0)) 24)) = q := ⟨_, rfl⟩; have hb5 : Below (World.heap w3).size w3 w5 := (by rw [← hw5]; exact balloc _ _); have hg5 : RO w5 (World.heap w3).size 0 0 0 0 (.slice none 0 0) := (by rw [← hw5]; exact RO.alloc w3); have HG := Lib.hid hg5; clear hg5; rw [hw5]; have HO3 := Lib.hid (own_keep HO3.out hb5); (try clear hN); have hN := hS.trans (hb5.mono hS.size)
      refine hK.out _ _ ?_ (fun hS1 => ?_)
      · (first | exact hN | exact hS)
      clear hK K hS; have hS := hS1; clear hS1
      (try simp only [Act.put, List.setIfInBounds_toArray, List.set_cons_zero, List.set_cons_succ])
      refine rg_one 21 ({ dst := some 75, op := Op.call { callee := Callee.builtin Builtin.append, args := #[Operand.tmp 68, Operand.tmp 74], argTypes := #[22, 22] }, type := 22, pos := "ref.go:51", after := #[{ on := 14, ground := Ground.data }, { on := 20, ground := Ground.data }], guard := none } : Oper) (by kernel_rfl) rfl (fun K hK => ?_)
      rw [if_pos (by rfl)]; refine wp_appn (.tmp 68) (.tmp 74) 22 rfl 5 .u8 1 Try.underlying22 Try.info_u8 w1.heap.size _ 0 [] rfl HO3.out _ (len - m3) (zs.drop m3) rfl (HR3.out.keep hS) (by have := HL9.out; omega) (by have := HL9.out; omega) hS.size ?_; intro v4 w4 ho4 hg4 _; rw [Nat.zero_add] at ho4; obtain ⟨p4, c4, rfl⟩ := own_form ho4; have HO4 := Lib.hid ho4; have HG := Lib.hid (HG.out.grown HO3.out hg4); (try clear hN); have hN := hS.grown hg4 hS.size (fun k e => (HO3.out.lt k e).1)
      refine hK.out _ _ ?_ (fun hS1 => ?_)
      · (first | exact hN | exact hS)
      clear hK K hS; have hS := hS1; clear hS1
      (try simp only [Act.put, List.setIfInBounds_toArray, List.set_cons_zero, List.set_cons_succ])
      refine wpAnyH_take (i := 22) (oi := ({ dst := some 76, op := Op.build 24 #[(0, Operand.tmp 57), (1, Operand.tmp 61), (2, Operand.tmp 63), (3, Operand.tmp 67), (4, Operand.tmp 75)], type := 24, pos := "ref.go:51", after := #[{ on := 3, ground := Ground.data }, { on := 7, ground := Ground.data }, { on := 9, ground := Ground.data }, { on := 13, ground := Ground.data }, { on := 21, ground := Ground.data }], guard := none } : Oper)) (v := .agg (rA k c l (l - b) (.slice p4 (len - m3) c4))) rfl (by kernel_rfl) (by kernel_rfl) (by kernel_rfl) (fun _ _ _ h => h) (Or.inl ⟨by rfl, ?_⟩) hS ?_
      · (intro w hSw; (try dsimp only at hSw); go_simp; try with_reducible rfl)
      (try simp only [Act.put, List.setIfInBounds_toArray, List.set_cons_zero, List.set_cons_succ])
      refine rg_one 24 ({ dst := none, op := Op.store 24 (Operand.tmp 9) (Operand.tmp 76), type := 0, pos := "ref.go:51", after := #[{ on := 23, ground := Ground.data }, { on := 22, ground := Ground.data }, { on := 21, ground := Ground.chain }, { on := 0, ground := Ground.phase }, { on := 1, ground := Ground.phase }, { on := 2, ground := Ground.phase }, { on := 3, ground := Ground.phase }, { on := 4, ground := Ground.phase }, { on := 5, ground := Ground.phase }, { on := 6, ground := Ground.phase }, { on := 7, ground := Ground.phase }, { on := 8, ground := Ground.phase }, { on := 9, ground := Ground.phase }, { on := 10, ground := Ground.phase }, { on := 11, ground := Ground.phase }, { on := 12, ground := Ground.phase }, { on := 13, ground := Ground.phase }, { on := 14, ground := Ground.phase }, { on := 15, ground := Ground.phase }, { on := 16, ground := Ground.phase }, { on := 17, ground := Ground.phase }, { on := 18, ground := Ground.phase }, { on := 19, ground := Ground.phase }, { on := 20, ground := Ground.phase }, { on := 21, ground := Ground.phase }, { on := 22, ground := Ground.phase }, { on := 23, ground := Ground.phase }], guard := none } : Oper) (by kernel_rfl) rfl (fun K hK => ?_)
      rw [if_pos (by rfl)]; refine wp_store_row 24 (.tmp 9) (.tmp 76) rfl (World.heap w3).size (rA k c l (l - b) (.slice p4 (len - m3) c4)) rfl rfl _ _ HG.out (rec_info _ rfl) rfl (rec_one _ _ _ _ _ _ _) ?_; have hro := HG.out.row_own (rA k c l (l - b) (.slice p4 (len - m3) c4)) HO4.out; have hgo := HG.out.row k c l (l - b) (.slice p4 (len - m3) c4); have hbo := brow hS (b := (World.heap w3).size) (by first | exact Nat.le_refl _ | exact hS9.size | omega) (Nat.le_refl _) (rA k c l (l - b) (.slice p4 (len - m3) c4)); obtain ⟨w6, hw6⟩ : ∃ q, World.setRow w4 (World.heap w3).size (rA k c l (l - b) (.slice p4 (len - m3) c4)) = q := ⟨_, rfl⟩; rw [hw6] at hro hgo hbo; rw [hw6]; have HO6 := Lib.hid hro; have HG6 : Hid (∃ g, RO w6 g k c l (l - b) (.slice p4 (len - m3) c4)) := Lib.hid ⟨_, hgo⟩; have HG7 := Lib.hid hgo; clear hro hgo; (try clear hN); have hN := hbo; clear hbo
      refine hK.out _ _ ?_ (fun hS1 => ?_)
      · (first | exact hN | exact hS)
      clear hK K hS; have hS := hS1; clear hS1
      (try simp only [Act.put])
      refine wpAnyH_done (by kernel_rfl) ?_ _
      have HB6 := Lib.hid (bch HB.out hS)
      have HA6 := Lib.hid (HA.out.keep hS)
      have HO6 := Lib.hid (own_mono HO6.out HB.out.size)
      have HR6 := HG7
      clear HR3 HG HG6 HG7 hS hN
      cases y with
      | true =>
        have hY := HY.out
        rw [if_pos rfl] at hY
        have HY := Lib.hid hY
        clear hY
        go_wp2_with (first
          | (refine wpl_load_rec rfl (.tmp 9) rfl rfl HR7.out ?_)
          | (refine wpl_load_rec rfl (.tmp 9) rfl rfl HR6.out ?_)
          | (go_at_call 9; (with_reducible refine (HRR.out _ _).mono ?_); rintro e w7 ⟨rfl, hb7⟩; have HA7 := Lib.hid (HA6.out.keep hb7); have HR7 := Lib.hid (HR6.out.keep hb7); have HO7 := Lib.hid (own_keep HO6.out hb7); have HB7 := Lib.hid (bch HB6.out hb7); clear hb7)
          | (refine wpList_store_row rfl 24 _ _ rfl w.heap.size (rA k c l (l - b) (.slice p4 (len - m3) c4)) rfl rfl _ _ HA7.out (rec_info _ rfl) rfl (rec_one _ _ _ _ _ _ _) ?_))
        refine bodyPost_ret_by (results_row_tmp rfl _ _ w.heap.size _ rfl (HA7.out.row k c l (l - b) (.slice p4 (len - m3) c4)).load) rfl ?_
        exact dec_some HY.out (HA7.out.row_own _ HO7.out) (brow HB7.out (Nat.le_refl _) (Nat.le_refl _) _)
      | false =>
        have hY := HY.out
        rw [if_neg (by decide)] at hY
        have HY := Lib.hid hY
        clear hY
        go_wp2_with (first
          | (refine wpl_load_rec rfl (.tmp 9) rfl rfl HR6.out ?_)
          | (go_at_call 9; (with_reducible refine (HRR.out _ _).mono ?_); rintro e w7 ⟨rfl, hb7⟩; have HA7 := Lib.hid (HA6.out.keep hb7); have HB7 := Lib.hid (bch HB6.out hb7); clear hb7)
          | (refine wpList_store_row rfl 24 _ _ rfl w.heap.size (rA 0 0 0 0 (.slice none 0 0)) rfl rfl _ _ HA7.out (rec_info _ rfl) rfl (rec_one _ _ _ _ _ _ _) ?_))
        refine bodyPost_ret_by (results_row_tmp rfl _ _ w.heap.size _ rfl (HA7.out.row 0 0 0 0 (.slice none 0 0)).load) rfl ?_
        exact dec_none HY.out (brow HB7.out (Nat.le_refl _) (Nat.le_refl _) _)
  · skip
    go_simp
    obtain ⟨w5, hw5⟩ : ∃ q, (World.alloc w1 (.cells (rA 0 0 0 0 (.slice none 0 0)) 24)).drew = q := ⟨_, rfl⟩; have hb5 : Below w1.heap.size w1 w5 := (by rw [← hw5]; exact bdrew0 _ _); have hg5 : RO w5 w1.heap.size 0 0 0 0 (.slice none 0 0) := (by rw [← hw5]; exact RO.alloc w1); have HG := Lib.hid hg5; clear hg5; rw [hw5]; (try clear hN); have hN := hb5
    refine hK.out _ _ ?_ (fun hS1 => ?_)
    · (first | exact hN | exact hS)
    clear hK K hS; have hS := hS1; clear hS1
    (try simp only [Act.put, List.setIfInBounds_toArray, List.set_cons_zero, List.set_cons_succ])
    refine rg_one 14 ({ dst := some 68, op := Op.buildSlice 22 0 #[], type := 22, pos := "ref.go:51", after := #[], guard := none } : Oper) (by kernel_rfl) rfl (fun K hK => ?_)
    go_simp
    obtain ⟨w3, hw3⟩ : ∃ q, (World.alloc w5 (.cells #[] 5)) = q := ⟨_, rfl⟩; have hb3 : Below (World.heap w5).size w5 w3 := (by rw [← hw3]; exact balloc _ _); have ho3 : w3.ownsRow w1.heap.size 5 1 (.slice (some ⟨(World.heap w5).size, 0, none⟩) 0 0) 0 (il .u8 []) := (by rw [← hw3]; exact (own_empty rfl hS.size).out); have HO3 := Lib.hid ho3; clear ho3; rw [hw3]; have HG := Lib.hid (HG.out.keep hb3); (try clear hN); have hN := hS.trans (hb3.mono hS.size)
    refine hK.out _ _ ?_ (fun hS1 => ?_)
    · (first | exact hN | exact hS)
    clear hK K hS; have hS := hS1; clear hS1
    (try simp only [Act.put, List.setIfInBounds_toArray, List.set_cons_zero, List.set_cons_succ])
    refine rg_one 21 ({ dst := some 75, op := Op.call { callee := Callee.builtin Builtin.append, args := #[Operand.tmp 68, Operand.tmp 74], argTypes := #[22, 22] }, type := 22, pos := "ref.go:51", after := #[{ on := 14, ground := Ground.data }, { on := 20, ground := Ground.data }], guard := none } : Oper) (by kernel_rfl) rfl (fun K hK => ?_)
    rw [if_pos (by rfl)]; refine wp_appn (.tmp 68) (.tmp 74) 22 rfl 5 .u8 1 Try.underlying22 Try.info_u8 w1.heap.size _ 0 [] rfl HO3.out _ (len - m3) (zs.drop m3) rfl (HR3.out.keep hS) (by have := HL9.out; omega) (by have := HL9.out; omega) hS.size ?_; intro v4 w4 ho4 hg4 _; rw [Nat.zero_add] at ho4; obtain ⟨p4, c4, rfl⟩ := own_form ho4; have HO4 := Lib.hid ho4; have HG := Lib.hid (HG.out.grown HO3.out hg4); (try clear hN); have hN := hS.grown hg4 hS.size (fun k e => (HO3.out.lt k e).1)
    refine hK.out _ _ ?_ (fun hS1 => ?_)
    · (first | exact hN | exact hS)
    clear hK K hS; have hS := hS1; clear hS1
    (try simp only [Act.put, List.setIfInBounds_toArray, List.set_cons_zero, List.set_cons_succ])
    refine wpAnyH_take (i := 22) (oi := ({ dst := some 76, op := Op.build 24 #[(0, Operand.tmp 57), (1, Operand.tmp 61), (2, Operand.tmp 63), (3, Operand.tmp 67), (4, Operand.tmp 75)], type := 24, pos := "ref.go:51", after := #[{ on := 3, ground := Ground.data }, { on := 7, ground := Ground.data }, { on := 9, ground := Ground.data }, { on := 13, ground := Ground.data }, { on := 21, ground := Ground.data }], guard := none } : Oper)) (v := .agg (rA k c l (l - b) (.slice p4 (len - m3) c4))) rfl (by kernel_rfl) (by kernel_rfl) (by kernel_rfl) (fun _ _ _ h => h) (Or.inl ⟨by rfl, ?_⟩) hS ?_
    · (intro w hSw; (try dsimp only at hSw); go_simp; try with_reducible rfl)
    (try simp only [Act.put, List.setIfInBounds_toArray, List.set_cons_zero, List.set_cons_succ])
    refine rg_one 24 ({ dst := none, op := Op.store 24 (Operand.tmp 9) (Operand.tmp 76), type := 0, pos := "ref.go:51", after := #[{ on := 23, ground := Ground.data }, { on := 22, ground := Ground.data }, { on := 21, ground := Ground.chain }, { on := 0, ground := Ground.phase }, { on := 1, ground := Ground.phase }, { on := 2, ground := Ground.phase }, { on := 3, ground := Ground.phase }, { on := 4, ground := Ground.phase }, { on := 5, ground := Ground.phase }, { on := 6, ground := Ground.phase }, { on := 7, ground := Ground.phase }, { on := 8, ground := Ground.phase }, { on := 9, ground := Ground.phase }, { on := 10, ground := Ground.phase }, { on := 11, ground := Ground.phase }, { on := 12, ground := Ground.phase }, { on := 13, ground := Ground.phase }, { on := 14, ground := Ground.phase }, { on := 15, ground := Ground.phase }, { on := 16, ground := Ground.phase }, { on := 17, ground := Ground.phase }, { on := 18, ground := Ground.phase }, { on := 19, ground := Ground.phase }, { on := 20, ground := Ground.phase }, { on := 21, ground := Ground.phase }, { on := 22, ground := Ground.phase }, { on := 23, ground := Ground.phase }], guard := none } : Oper) (by kernel_rfl) rfl (fun K hK => ?_)
    rw [if_pos (by rfl)]; refine wp_store_row 24 (.tmp 9) (.tmp 76) rfl w1.heap.size (rA k c l (l - b) (.slice p4 (len - m3) c4)) rfl rfl _ _ HG.out (rec_info _ rfl) rfl (rec_one _ _ _ _ _ _ _) ?_; have hro := HG.out.row_own (rA k c l (l - b) (.slice p4 (len - m3) c4)) HO4.out; have hgo := HG.out.row k c l (l - b) (.slice p4 (len - m3) c4); have hbo := brow hS (b := w1.heap.size) (by first | exact Nat.le_refl _ | exact hS9.size | omega) (Nat.le_refl _) (rA k c l (l - b) (.slice p4 (len - m3) c4)); obtain ⟨w6, hw6⟩ : ∃ q, World.setRow w4 w1.heap.size (rA k c l (l - b) (.slice p4 (len - m3) c4)) = q := ⟨_, rfl⟩; rw [hw6] at hro hgo hbo; rw [hw6]; have HO6 := Lib.hid hro; have HG6 : Hid (∃ g, RO w6 g k c l (l - b) (.slice p4 (len - m3) c4)) := Lib.hid ⟨_, hgo⟩; have HG7 := Lib.hid hgo; clear hro hgo; (try clear hN); have hN := hbo; clear hbo
    refine hK.out _ _ ?_ (fun hS1 => ?_)
    · (first | exact hN | exact hS)
    clear hK K hS; have hS := hS1; clear hS1
    (try simp only [Act.put])
    refine wpAnyH_done (by kernel_rfl) ?_ _
    have HB6 := Lib.hid (bch HB.out hS)
    have HA6 := Lib.hid (HA.out.keep hS)
    have HO6 := Lib.hid (own_mono HO6.out HB.out.size)
    have HR6 := HG7
    clear HR3 HG HG6 HG7 hS hN
    cases y with
    | true =>
      have hY := HY.out
      rw [if_pos rfl] at hY
      have HY := Lib.hid hY
      clear hY
      go_wp2_with (first
        | (refine wpl_load_rec rfl (.tmp 9) rfl rfl HR7.out ?_)
        | (refine wpl_load_rec rfl (.tmp 9) rfl rfl HR6.out ?_)
        | (go_at_call 9; (with_reducible refine (HRR.out _ _).mono ?_); rintro e w7 ⟨rfl, hb7⟩; have HA7 := Lib.hid (HA6.out.keep hb7); have HR7 := Lib.hid (HR6.out.keep hb7); have HO7 := Lib.hid (own_keep HO6.out hb7); have HB7 := Lib.hid (bch HB6.out hb7); clear hb7)
        | (refine wpList_store_row rfl 24 _ _ rfl w.heap.size (rA k c l (l - b) (.slice p4 (len - m3) c4)) rfl rfl _ _ HA7.out (rec_info _ rfl) rfl (rec_one _ _ _ _ _ _ _) ?_))
      refine bodyPost_ret_by (results_row_tmp rfl _ _ w.heap.size _ rfl (HA7.out.row k c l (l - b) (.slice p4 (len - m3) c4)).load) rfl ?_
      exact dec_some HY.out (HA7.out.row_own _ HO7.out) (brow HB7.out (Nat.le_refl _) (Nat.le_refl _) _)
    | false =>
      have hY := HY.out
      rw [if_neg (by decide)] at hY
      have HY := Lib.hid hY
      clear hY
      go_wp2_with (first
        | (refine wpl_load_rec rfl (.tmp 9) rfl rfl HR6.out ?_)
        | (go_at_call 9; (with_reducible refine (HRR.out _ _).mono ?_); rintro e w7 ⟨rfl, hb7⟩; have HA7 := Lib.hid (HA6.out.keep hb7); have HB7 := Lib.hid (bch HB6.out hb7); clear hb7)
        | (refine wpList_store_row rfl 24 _ _ rfl w.heap.size (rA 0 0 0 0 (.slice none 0 0)) rfl rfl _ _ HA7.out (rec_info _ rfl) rfl (rec_one _ _ _ _ _ _ _) ?_))
      refine bodyPost_ret_by (results_row_tmp rfl _ _ w.heap.size _ rfl (HA7.out.row 0 0 0 0 (.slice none 0 0)).load) rfl ?_
      exact dec_none HY.out (brow HB7.out (Nat.le_refl _) (Nat.le_refl _) _)
end Go.Proofs.Ytnnkaddgbcdehaa
