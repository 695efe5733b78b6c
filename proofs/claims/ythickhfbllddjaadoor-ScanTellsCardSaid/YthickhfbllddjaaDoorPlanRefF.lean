/-
  LAYER 16 (plan): what the reference's Flat answers. No condition.
-/
import Derived.Test.YthickhfbllddjaaDoorJ9
import Derived.Test.YthickhfbllddjaaDoorJ3
import Derived.Test.YthickhfbllddjaaDoorStampOpenR
import Derived.Test.YthickhfbllddjaaDoorSlices
namespace Go.Proofs.YthickhfbllddjaaDoor
open Go.RowKit
section
variable {w : World} {ops : Array Oper} {rest : List Oper} {o : Oper} {a : Act} {Q : Exit → Act → World → Prop}
/-- make: n bytes, the block named -/
theorem wpl_make_yb (hgd : o.guard = none) (x y : Operand) (ho : o.op = Op.makeSlice 38 x y) (n : Nat) (hx : a.eval x = .int .i64 (n : Int)) (hy : a.eval y = .int .i64 (n : Int)) (hn : n ≤ 1000000)
    (h : ∀ g w', Hid (YB w' g (List.replicate n 0)) → Hid (w.heap.size ≤ g) → Hid (Below w.heap.size w w') → wpList Tryd.prog ops Q rest (a.put o.dst (.slice (some ⟨g, 0, none⟩) n n)) w') : wpList Tryd.prog ops Q (o :: rest) a w := by
  refine wpList_plain hgd fun K hK => ?_
  have hrun := make_bytes_run n (by omega) w
  unfold Oper.wp
  simp [execOp, ho, hx, hy, hrun, Result.andThen]
  exact hK _ _ (h _ _ (heap_alloc_last w _) (Nat.le_refl _) (below_alloc w _))
/-- append of a slice's bytes to a row that the call made; what lies apart stays -/
theorem wpl_appnG (hgd : o.guard = none) (s x : Operand) (ho : o.op = .call { callee := .builtin .append, args := #[s, x], argTypes := #[38, 38] })
    (base : Nat) (v : Value) (n : Nat) (xs : List Int) (hs : a.eval s = v) (hown : Hid (w.ownsRow base 5 1 v n (il .u8 xs)))
    (v2 : Value) (m : Nat) (ys : List Int) (hx : a.eval x = v2) (hri : Hid (RI .u8 w v2 m ys)) (hm : 0 < m) (hn : n + m ≤ 1000000000000)
    (B : Nat) (W : World) (hb : Hid (Below B W w)) (hB : B ≤ base) (hbase : base ≤ w.heap.size)
    (h : ∀ v' w', Hid (w'.ownsRow base 5 1 v' (n + m) (il .u8 (xs ++ ys))) → Hid (Below B W w') → Hid (w.grownBy w' v.ownBlock) → wpList Tryd.prog ops Q rest (a.put o.dst v') w') : wpList Tryd.prog ops Q (o :: rest) a w := by
  obtain ⟨i, hi, hz0, hz1, hz2⟩ := info_parts Tryd.info_u8
  obtain ⟨ad, cap, rfl, hl, hlc, _, hnil, hc⟩ := hri.out
  obtain ⟨b, off, rfl, hcell⟩ := hc hm
  refine wpList_append_own_wide w hgd s x 38 ho base 5 i (.int .u8 0) 1 1 Tryd.underlying38 hi hz0 hz1 hz2 rfl (by omega) v n (il .u8 xs) hs hown.out ⟨b, off, none⟩ m cap (il .u8 ys) hx (by rw [il_length]; omega) ?_ (il_one .u8 _) (by unfold maxLen; omega) (by omega) hbase ?_
  · intro j u hj
    have hjl : j < ys.length := by
      have := (List.getElem?_eq_some_iff.1 hj).1; rwa [il_length] at this
    rw [il_get .u8 ys j hjl] at hj
    rw [Addr.add_mid, hcell j (by omega)]; exact hj
  · intro v' w' h1 h2 _
    exact h v' w' (by rw [il_append]; exact h1) (hb.out.grown h2 (by omega) (fun q hq => by have := (hown.out.lt q hq).1; omega)) h2
/-- append of one bool to a row of bools that the call made -/
theorem wpl_app_kb (hgd : o.guard = none) (s x : Operand)
    (ho : o.op = .call { callee := .builtin .append, args := #[s, x], argTypes := #[54, 54] })
    (base : Nat) (v : Value) (n : Nat) (bs : List Bool) (hs : a.eval s = v) (hown : Hid (w.ownsRow base 4 1 v n (kl bs)))
    (g : Nat) (y : Bool) (hx : a.eval x = .slice (some ⟨g, 0, none⟩) 1 1) (hcell : w.cell? ⟨g, 0, none⟩ = some (.bool y)) (hn : n ≤ 1000000000000)
    (B : Nat) (W : World) (hb : Hid (Below B W w)) (hB : B ≤ base) (hbase : base ≤ w.heap.size)
    (h : ∀ v' w', Hid (w'.ownsRow base 4 1 v' (n + 1) (kl (bs ++ [y]))) → Hid (Below B W w') → Hid (w.grownBy w' v.ownBlock) → wpList Tryd.prog ops Q rest (a.put o.dst v') w') : wpList Tryd.prog ops Q (o :: rest) a w := by
  obtain ⟨i, hi, hz0, hz1, hz2⟩ := info_parts kbool_parts
  refine wpList_append_own_wide w hgd s x 54 ho base 4 i (.bool false) 1 1 Tryd.underlying54 hi hz0 hz1 hz2 rfl (by omega) v n (kl bs) hs hown.out ⟨g, 0, none⟩ 1 1 [.bool y] hx rfl ?_ (by simp [Value.oneCell']) (by unfold maxLen; omega) (by omega) hbase ?_
  · intro j u hj
    match j, hj with
    | 0, hj => simp at hj; subst hj; simpa [Addr.add] using hcell
  · intro v' w' h1 h2 _
    exact h v' w' (by unfold kl; rw [List.map_append]; exact h1) (hb.out.grown h2 (by omega) (fun q hq => by have := (hown.out.lt q hq).1; omega)) h2
end
set_option maxRecDepth 8000 in
set_option maxHeartbeats 2000000 in
theorem rflat_any (x : Int) (hx : U64 x) (v : Value) (n : Nat) (fs : List Int) (w : World) (h : FS w v n fs) :
    Calls Tryd.prog 19 #[.int .u64 x, v] w fun e w' => ∃ v1 v2, e = .returned (.tuple #[v1, v2]) ∧
      RI .u8 w' v1 832 (flatB x n fs 16) ∧ BS w' v2 16 (flatK x n fs 16) ∧ Below w.heap.size w w' := by
  have hfl := h.length
  obtain ⟨ad, cap, rfl, _, hc1, hc2, _⟩ := id h
  have HH := Lib.hid h
  have HX := Lib.hid hx
  have HFL := Lib.hid hfl
  clear h hx hfl
  go_enter Tryd.func19, Tryd.ntmps19
  go_wp2
  go_loopw [6, 7, 8] (fun v1 v2 iv wr => ∃ k : Nat, iv = .int .i64 (k : Int) ∧ k ≤ 16 ∧ Hid (wr.ownsRow w.heap.size 5 1 v1 (52 * k) (il .u8 (flatB x n fs k))) ∧ Hid (wr.ownsRow w.heap.size 4 1 v2 k (kl (flatK x n fs k))) ∧ Hid (Below w.heap.size w wr)) (fun _ _ iv _ => 16 - (intOf iv).toNat)
  case atStart => exact ⟨0, rfl, by omega, Lib.hid (World.ownsRow_nil _ _ _ _), Lib.hid (World.ownsRow_nil _ _ _ _), Lib.hid (Below.refl _ _)⟩
  case round =>
    obtain ⟨k, rfl, hk, HO, HK, HB⟩ := hrel
    by_cases hlt : (k : Int) < 16
    · obtain ⟨R, hR⟩ : ∃ R, roomAt x n fs k = R := ⟨_, rfl⟩
      obtain ⟨y, hy⟩ : ∃ y, okAt x n fs k = y := ⟨_, rfl⟩
      have HNB := Lib.hid (show flatB x n fs k ++ R = flatB x n fs (k + 1) from by rw [flatB, hR])
      have HNK := Lib.hid (show flatK x n fs k ++ [y] = flatK x n fs (k + 1) from by rw [flatK, hy])
      have HM := Lib.hid (show 52 * k + 52 = 52 * (k + 1) from by omega)
      by_cases hkn : (k : Int) < (n : Int)
      · obtain ⟨b, off, rfl, hat⟩ := (HH.out.keep HB.out).at_ k (by omega)
        obtain ⟨l, hsl⟩ : ∃ l, secOf fs k = l := ⟨_, rfl⟩
        have hat : At wr b (off + k * 64) l := by rw [← hsl]; exact hat
        have HAT := Lib.hid hat
        have HSL := Lib.hid (secOf_length fs n k HFL.out (by omega))
        have HOK := Lib.hid (okAt_in x n fs k (by omega))
        rw [hsl] at HSL HOK
        rw [hy] at HOK
        cases y with
        | true =>
          have hR2 := roomAt_true x n fs k hy
          rw [hR, hsl] at hR2
          have HRE := Lib.hid hR2
          clear hat hy hsl hR hR2
          go_wp2_with (first
            | (refine wpl_make_yb rfl _ _ rfl 52 rfl rfl (by omega) ?_; intro g w1 HY1 HG hb; have HO1 := Lib.hid (own_keep HO.out hb.out); have HK1 := Lib.hid (own_keep HK.out hb.out); have HB1 := Lib.hid (bch HB.out hb.out); have HAT1 := Lib.hid (HAT.out.keep hb.out); clear hb)
            | (refine wpl_load_at rfl _ rfl b _ rfl _ HAT1.out ?_)
            | (go_at_call 36; (with_reducible refine (ropen_any l HSL.out x k HX.out (by unfold I63; omega) _ true HOK.out.symm).mono ?_); rintro e w2 ⟨v1, rfl, hr, hb⟩; have HR := Lib.hid hr; have HO2 := Lib.hid (own_keep HO1.out hb); have HK2 := Lib.hid (own_keep HK1.out hb); have HB2 := Lib.hid (bch HB1.out hb); clear hr hb)
            | (at_builtin; refine wpl_app_kb rfl (.tmp 37) (.tmp 39) rfl w.heap.size _ k _ rfl (HK3.out.alloc _) w3.heap.size true rfl (alloc_cell w3 _ _) (by omega) w.heap.size w (HB3.out.alloc HB3.out.size _) (Nat.le_refl _) (by have := HB3.out.size; simp; omega) ?_; intro v4 w4 HK4 HB4 hg4; have HO4 := Lib.hid (own_over (HO3.out.alloc (.cells #[.bool true] 4)) hg4.out (own_types (HO3.out.alloc (.cells #[.bool true] 4)) (HK3.out.alloc (.cells #[.bool true] 4)) (by decide))); have HK4 := Lib.hid (HNK.out ▸ HK4.out); clear hg4)
            | (at_builtin; refine wpl_appnG rfl (.tmp 34) (.tmp 35) rfl w.heap.size _ (52 * k) _ rfl HO2 v1 52 R rfl (by rw [HRE.out]; exact HR) (by omega) (by omega) w.heap.size w HB2 (Nat.le_refl _) HB2.out.size ?_; intro v3 w3 HO3 HB3 hg3; have HK3 := Lib.hid (own_over HK2.out hg3.out (own_types HK2.out HO2.out (by decide))); have HO3 := Lib.hid (HM.out ▸ HNB.out ▸ HO3.out); clear hg3))
          go_roundw
          case rel => exact ⟨k + 1, by go_num, by omega, HO4, HK4, HB4⟩
          case measure => simp [intOf]; omega
        | false =>
          have hR2 := roomAt_false x n fs k hy
          rw [hR] at hR2
          have HRE := Lib.hid hR2
          clear hat hy hsl hR hR2
          go_wp2_with (first
            | (refine wpl_make_yb rfl _ _ rfl 52 rfl rfl (by omega) ?_; intro g w1 HY1 HG hb; have HO1 := Lib.hid (own_keep HO.out hb.out); have HK1 := Lib.hid (own_keep HK.out hb.out); have HB1 := Lib.hid (bch HB.out hb.out); have HAT1 := Lib.hid (HAT.out.keep hb.out); clear hb)
            | (refine wpl_load_at rfl _ rfl b _ rfl _ HAT1.out ?_)
            | (go_at_call 36; (with_reducible refine (ropen_any l HSL.out x k HX.out (by unfold I63; omega) _ false HOK.out.symm).mono ?_); rintro e w2 ⟨v1, rfl, _, hb⟩; have HY2 := Lib.hid (HY1.out.keep hb); have HO2 := Lib.hid (own_keep HO1.out hb); have HK2 := Lib.hid (own_keep HK1.out hb); have HB2 := Lib.hid (bch HB1.out hb); clear hb)
            | (at_builtin; refine wpl_app_kb rfl (.tmp 37) (.tmp 39) rfl w.heap.size _ k _ rfl (HK3.out.alloc _) w3.heap.size false rfl (alloc_cell w3 _ _) (by omega) w.heap.size w (HB3.out.alloc HB3.out.size _) (Nat.le_refl _) (by have := HB3.out.size; simp; omega) ?_; intro v4 w4 HK4 HB4 hg4; have HO4 := Lib.hid (own_over (HO3.out.alloc (.cells #[.bool false] 4)) hg4.out (own_types (HO3.out.alloc (.cells #[.bool false] 4)) (HK3.out.alloc (.cells #[.bool false] 4)) (by decide))); have HK4 := Lib.hid (HNK.out ▸ HK4.out); clear hg4)
            | (at_builtin; refine wpl_appnG rfl (.tmp 34) (.tmp 35) rfl w.heap.size _ (52 * k) _ rfl HO2 (.slice (some ⟨g, 0, none⟩) 52 52) 52 R rfl (by rw [HRE.out]; exact HY2.out.ri (by simp) (by omega)) (by omega) (by omega) w.heap.size w HB2 (Nat.le_refl _) HB2.out.size ?_; intro v3 w3 HO3 HB3 hg3; have HK3 := Lib.hid (own_over HK2.out hg3.out (own_types HK2.out HO2.out (by decide))); have HO3 := Lib.hid (HM.out ▸ HNB.out ▸ HO3.out); clear hg3))
          go_roundw
          case rel => exact ⟨k + 1, by go_num, by omega, HO4, HK4, HB4⟩
          case measure => simp [intOf]; omega
      · have hyf := okAt_behind x n fs k (by omega)
        rw [hy] at hyf
        subst hyf
        have hR2 := roomAt_false x n fs k hy
        rw [hR] at hR2
        have HRE := Lib.hid hR2
        clear hy hR hR2
        go_wp2_with (first
            | (refine wpl_make_yb rfl _ _ rfl 52 rfl rfl (by omega) ?_; intro g w1 HY1 HG hb; have HO1 := Lib.hid (own_keep HO.out hb.out); have HK1 := Lib.hid (own_keep HK.out hb.out); have HB1 := Lib.hid (bch HB.out hb.out); clear hb)
            | (at_builtin; refine wpl_app_kb rfl (.tmp 37) (.tmp 39) rfl w.heap.size _ k _ rfl (HK3.out.alloc _) w3.heap.size false rfl (alloc_cell w3 _ _) (by omega) w.heap.size w (HB3.out.alloc HB3.out.size _) (Nat.le_refl _) (by have := HB3.out.size; simp; omega) ?_; intro v4 w4 HK4 HB4 hg4; have HO4 := Lib.hid (own_over (HO3.out.alloc (.cells #[.bool false] 4)) hg4.out (own_types (HO3.out.alloc (.cells #[.bool false] 4)) (HK3.out.alloc (.cells #[.bool false] 4)) (by decide))); have HK4 := Lib.hid (HNK.out ▸ HK4.out); clear hg4)
            | (at_builtin; refine wpl_appnG rfl (.tmp 34) (.tmp 35) rfl w.heap.size _ (52 * k) _ rfl HO1 (.slice (some ⟨g, 0, none⟩) 52 52) 52 R rfl (by rw [HRE.out]; exact HY1.out.ri (by simp) (by omega)) (by omega) (by omega) w.heap.size w HB1 (Nat.le_refl _) HB1.out.size ?_; intro v3 w3 HO3 HB3 hg3; have HK3 := Lib.hid (own_over HK1.out hg3.out (own_types HK1.out HO1.out (by decide))); have HO3 := Lib.hid (HM.out ▸ HNB.out ▸ HO3.out); clear hg3))
        go_roundw
        case rel => exact ⟨k + 1, by go_num, by omega, HO4, HK4, HB4⟩
        case measure => simp [intOf]; omega
    · obtain rfl : k = 16 := by omega
      go_wp2
      go_ret2
      exact ⟨_, _, rfl, RI.own HO.out, CS.own HK.out, HB.out⟩
end Go.Proofs.YthickhfbllddjaaDoor
