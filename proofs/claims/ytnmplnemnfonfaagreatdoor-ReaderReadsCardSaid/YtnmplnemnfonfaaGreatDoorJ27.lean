/-
  TEXTS JOINED: PlanRefF, ScanRef, RdRef, WrHead, FieldSame. Each one's own words stand at its head.
-/
import Derived.Test.YtnmplnemnfonfaaGreatDoorJ15
import Derived.Test.YtnmplnemnfonfaaGreatDoorJ14
import Derived.Test.YtnmplnemnfonfaaGreatDoorJ26
import Derived.Test.YtnmplnemnfonfaaGreatDoorJ1
import Derived.Test.YtnmplnemnfonfaaGreatDoorJ18
import Derived.Test.YtnmplnemnfonfaaGreatDoorJ25
import Derived.Test.YtnmplnemnfonfaaGreatDoorJ17
import Derived.Test.YtnmplnemnfonfaaGreatDoorJ19
import Derived.Test.YtnmplnemnfonfaaGreatDoorJ20
import Derived.Test.YtnmplnemnfonfaaGreatDoorJ11
import Derived.BigQuiet
import Derived.Deep.QuietTactic
namespace Go.Proofs.YtnmplnemnfonfaaGreatDoor
open Go.RowKit
section
variable {w : World} {ops : Array Oper} {rest : List Oper} {o : Oper} {a : Act} {Q : Exit → Act → World → Prop}
theorem wpl_make_yb (hgd : o.guard = none) (x y : Operand) (ho : o.op = Op.makeSlice 49 x y) (n : Nat) (hx : a.eval x = .int .i64 (n : Int)) (hy : a.eval y = .int .i64 (n : Int)) (hn : n ≤ 1000000)
    (h : ∀ g w', Hid (YB w' g (List.replicate n 0)) → Hid (w.heap.size ≤ g) → Hid (Below w.heap.size w w') → wpList Tryz.prog ops Q rest (a.put o.dst (.slice (some ⟨g, 0, none⟩) n n)) w') : wpList Tryz.prog ops Q (o :: rest) a w := by
  refine wpList_plain hgd fun K hK => ?_
  have hrun := make_bytes_run n (by omega) w
  unfold Oper.wp
  simp [execOp, ho, hx, hy, hrun, Result.andThen]
  exact hK _ _ (h _ _ (heap_alloc_last w _) (Nat.le_refl _) (below_alloc w _))
theorem wpl_appnG (hgd : o.guard = none) (s x : Operand) (ho : o.op = .call { callee := .builtin .append, args := #[s, x], argTypes := #[49, 49] })
    (base : Nat) (v : Value) (n : Nat) (xs : List Int) (hs : a.eval s = v) (hown : Hid (w.ownsRow base 5 1 v n (il .u8 xs)))
    (v2 : Value) (m : Nat) (ys : List Int) (hx : a.eval x = v2) (hri : Hid (RI .u8 w v2 m ys)) (hm : 0 < m) (hn : n + m ≤ 1000000000000)
    (B : Nat) (W : World) (hb : Hid (Below B W w)) (hB : B ≤ base) (hbase : base ≤ w.heap.size)
    (h : ∀ v' w', Hid (w'.ownsRow base 5 1 v' (n + m) (il .u8 (xs ++ ys))) → Hid (Below B W w') → Hid (w.grownBy w' v.ownBlock) → wpList Tryz.prog ops Q rest (a.put o.dst v') w') : wpList Tryz.prog ops Q (o :: rest) a w := by
  obtain ⟨i, hi, hz0, hz1, hz2⟩ := info_parts Tryz.info_u8
  obtain ⟨ad, cap, rfl, hl, hlc, _, hnil, hc⟩ := hri.out
  obtain ⟨b, off, rfl, hcell⟩ := hc hm
  refine wpList_append_own_wide w hgd s x 49 ho base 5 i (.int .u8 0) 1 1 Tryz.underlying49 hi hz0 hz1 hz2 rfl (by omega) v n (il .u8 xs) hs hown.out ⟨b, off, none⟩ m cap (il .u8 ys) hx (by rw [il_length]; omega) ?_ (il_one .u8 _) (by unfold maxLen; omega) (by omega) hbase ?_
  · intro j u hj
    have hjl : j < ys.length := by
      have := (List.getElem?_eq_some_iff.1 hj).1; rwa [il_length] at this
    rw [il_get .u8 ys j hjl] at hj
    rw [Addr.add_mid, hcell j (by omega)]; exact hj
  · intro v' w' h1 h2 _
    exact h v' w' (by rw [il_append]; exact h1) (hb.out.grown h2 (by omega) (fun q hq => by have := (hown.out.lt q hq).1; omega)) h2
theorem wpl_app_kb (hgd : o.guard = none) (s x : Operand)
    (ho : o.op = .call { callee := .builtin .append, args := #[s, x], argTypes := #[75, 75] })
    (base : Nat) (v : Value) (n : Nat) (bs : List Bool) (hs : a.eval s = v) (hown : Hid (w.ownsRow base 4 1 v n (kl bs)))
    (g : Nat) (y : Bool) (hx : a.eval x = .slice (some ⟨g, 0, none⟩) 1 1) (hcell : w.cell? ⟨g, 0, none⟩ = some (.bool y)) (hn : n ≤ 1000000000000)
    (B : Nat) (W : World) (hb : Hid (Below B W w)) (hB : B ≤ base) (hbase : base ≤ w.heap.size)
    (h : ∀ v' w', Hid (w'.ownsRow base 4 1 v' (n + 1) (kl (bs ++ [y]))) → Hid (Below B W w') → Hid (w.grownBy w' v.ownBlock) → wpList Tryz.prog ops Q rest (a.put o.dst v') w') : wpList Tryz.prog ops Q (o :: rest) a w := by
  obtain ⟨i, hi, hz0, hz1, hz2⟩ := info_parts kbool_parts
  refine wpList_append_own_wide w hgd s x 75 ho base 4 i (.bool false) 1 1 Tryz.underlying75 hi hz0 hz1 hz2 rfl (by omega) v n (kl bs) hs hown.out ⟨g, 0, none⟩ 1 1 [.bool y] hx rfl ?_ (by simp [Value.oneCell']) (by unfold maxLen; omega) (by omega) hbase ?_
  · intro j u hj
    match j, hj with
    | 0, hj => simp at hj; subst hj; simpa [Addr.add] using hcell
  · intro v' w' h1 h2 _
    exact h v' w' (by unfold kl; rw [List.map_append]; exact h1) (hb.out.grown h2 (by omega) (fun q hq => by have := (hown.out.lt q hq).1; omega)) h2
end
set_option maxRecDepth 8000 in
set_option maxHeartbeats 2000000 in
theorem rflat_any (x : Int) (hx : U64 x) (v : Value) (n : Nat) (fs : List Int) (w : World) (h : FS w v n fs) :
    Calls Tryz.prog 30 #[.int .u64 x, v] w fun e w' => ∃ v1 v2, e = .returned (.tuple #[v1, v2]) ∧
      RI .u8 w' v1 832 (flatB x n fs 16) ∧ BS w' v2 16 (flatK x n fs 16) ∧ Below w.heap.size w w' := by
  have hfl := h.length
  obtain ⟨ad, cap, rfl, _, hc1, hc2, _⟩ := id h
  have HH := Lib.hid h
  have HX := Lib.hid hx
  have HFL := Lib.hid hfl
  clear h hx hfl
  go_enter Tryz.func30, Tryz.ntmps30
  go_wp2
  go_loopw [6, 7, 8] (fun v1 v2 iv wr => ∃ k : Nat, iv = .int .i64 (k : Int) ∧ k ≤ 16 ∧ Hid (wr.ownsRow w.heap.size 5 1 v1 (52 * k) (il .u8 (flatB x n fs k))) ∧ Hid (wr.ownsRow w.heap.size 4 1 v2 k (kl (flatK x n fs k))) ∧ Hid (Below w.heap.size w wr)) (fun _ _ iv _ => 16 - (intOf iv).toNat)
  case atStart => exact ⟨0, rfl, by omega, Lib.hid (World.ownsRow_nil _ _ _ _), Lib.hid (World.ownsRow_nil _ _ _ _), Lib.hid (Below.refl _ _)⟩
  case round =>
    obtain ⟨k, rfl, hk, HO, HK, HB⟩ := hrel
    by_cases hlt : (k : Int) < 16
    · obtain ⟨R, hR⟩ : ∃ R, roomAt x n fs k = R := ⟨_, rfl⟩
      obtain ⟨y, hy⟩ : ∃ y, okAt x n fs k = y := ⟨_, rfl⟩
      have HNB := Lib.hid (show flatB x n fs k ++ R = flatB x n fs (k + 1) from by rw [flatB, hR])
      have HNK := Lib.hid (show flatK x n fs k ++ [y] = flatK x n fs (k + 1) from by rw [flatK, hy])
      have HM := Lib.hid (show 52 * k + 52 = 52 * (k + 1) from by omega)
      by_cases hkn : (k : Int) < (n : Int)
      · obtain ⟨b, off, rfl, hat⟩ := (HH.out.keep HB.out).at_ k (by omega)
        obtain ⟨l, hsl⟩ : ∃ l, secOf fs k = l := ⟨_, rfl⟩
        have hat : At wr b (off + k * 64) l := by rw [← hsl]; exact hat
        have HAT := Lib.hid hat
        have HSL := Lib.hid (secOf_length fs n k HFL.out (by omega))
        have HOK := Lib.hid (okAt_in x n fs k (by omega))
        rw [hsl] at HSL HOK
        rw [hy] at HOK
        cases y with
        | true =>
          have hR2 := roomAt_true x n fs k hy
          rw [hR, hsl] at hR2
          have HRE := Lib.hid hR2
          clear hat hy hsl hR hR2
          go_wp2_with (first
            | (refine wpl_make_yb rfl _ _ rfl 52 rfl rfl (by omega) ?_; intro g w1 HY1 HG hb; have HO1 := Lib.hid (own_keep HO.out hb.out); have HK1 := Lib.hid (own_keep HK.out hb.out); have HB1 := Lib.hid (bch HB.out hb.out); have HAT1 := Lib.hid (HAT.out.keep hb.out); clear hb)
            | (refine wpl_load_at rfl _ rfl b _ rfl _ HAT1.out ?_)
            | (go_at_call 55; (with_reducible refine (ropen_any l HSL.out x k HX.out (by unfold I63; omega) _ true HOK.out.symm).mono ?_); rintro e w2 ⟨v1, rfl, hr, hb⟩; have HR := Lib.hid hr; have HO2 := Lib.hid (own_keep HO1.out hb); have HK2 := Lib.hid (own_keep HK1.out hb); have HB2 := Lib.hid (bch HB1.out hb); clear hr hb)
            | (at_builtin; refine wpl_app_kb rfl (.tmp 37) (.tmp 39) rfl w.heap.size _ k _ rfl (HK3.out.alloc _) w3.heap.size true rfl (alloc_cell w3 _ _) (by omega) w.heap.size w (HB3.out.alloc HB3.out.size _) (Nat.le_refl _) (by have := HB3.out.size; simp; omega) ?_; intro v4 w4 HK4 HB4 hg4; have HO4 := Lib.hid (own_over (HO3.out.alloc (.cells #[.bool true] 4)) hg4.out (own_types (HO3.out.alloc (.cells #[.bool true] 4)) (HK3.out.alloc (.cells #[.bool true] 4)) (by decide))); have HK4 := Lib.hid (HNK.out ▸ HK4.out); clear hg4)
            | (at_builtin; refine wpl_appnG rfl (.tmp 34) (.tmp 35) rfl w.heap.size _ (52 * k) _ rfl HO2 v1 52 R rfl (by rw [HRE.out]; exact HR) (by omega) (by omega) w.heap.size w HB2 (Nat.le_refl _) HB2.out.size ?_; intro v3 w3 HO3 HB3 hg3; have HK3 := Lib.hid (own_over HK2.out hg3.out (own_types HK2.out HO2.out (by decide))); have HO3 := Lib.hid (HM.out ▸ HNB.out ▸ HO3.out); clear hg3))
          go_roundw
          case rel => exact ⟨k + 1, by go_num, by omega, HO4, HK4, HB4⟩
          case measure => simp [intOf]; omega
        | false =>
          have hR2 := roomAt_false x n fs k hy
          rw [hR] at hR2
          have HRE := Lib.hid hR2
          clear hat hy hsl hR hR2
          go_wp2_with (first
            | (refine wpl_make_yb rfl _ _ rfl 52 rfl rfl (by omega) ?_; intro g w1 HY1 HG hb; have HO1 := Lib.hid (own_keep HO.out hb.out); have HK1 := Lib.hid (own_keep HK.out hb.out); have HB1 := Lib.hid (bch HB.out hb.out); have HAT1 := Lib.hid (HAT.out.keep hb.out); clear hb)
            | (refine wpl_load_at rfl _ rfl b _ rfl _ HAT1.out ?_)
            | (go_at_call 55; (with_reducible refine (ropen_any l HSL.out x k HX.out (by unfold I63; omega) _ false HOK.out.symm).mono ?_); rintro e w2 ⟨v1, rfl, _, hb⟩; have HY2 := Lib.hid (HY1.out.keep hb); have HO2 := Lib.hid (own_keep HO1.out hb); have HK2 := Lib.hid (own_keep HK1.out hb); have HB2 := Lib.hid (bch HB1.out hb); clear hb)
            | (at_builtin; refine wpl_app_kb rfl (.tmp 37) (.tmp 39) rfl w.heap.size _ k _ rfl (HK3.out.alloc _) w3.heap.size false rfl (alloc_cell w3 _ _) (by omega) w.heap.size w (HB3.out.alloc HB3.out.size _) (Nat.le_refl _) (by have := HB3.out.size; simp; omega) ?_; intro v4 w4 HK4 HB4 hg4; have HO4 := Lib.hid (own_over (HO3.out.alloc (.cells #[.bool false] 4)) hg4.out (own_types (HO3.out.alloc (.cells #[.bool false] 4)) (HK3.out.alloc (.cells #[.bool false] 4)) (by decide))); have HK4 := Lib.hid (HNK.out ▸ HK4.out); clear hg4)
            | (at_builtin; refine wpl_appnG rfl (.tmp 34) (.tmp 35) rfl w.heap.size _ (52 * k) _ rfl HO2 (.slice (some ⟨g, 0, none⟩) 52 52) 52 R rfl (by rw [HRE.out]; exact HY2.out.ri (by simp) (by omega)) (by omega) (by omega) w.heap.size w HB2 (Nat.le_refl _) HB2.out.size ?_; intro v3 w3 HO3 HB3 hg3; have HK3 := Lib.hid (own_over HK2.out hg3.out (own_types HK2.out HO2.out (by decide))); have HO3 := Lib.hid (HM.out ▸ HNB.out ▸ HO3.out); clear hg3))
          go_roundw
          case rel => exact ⟨k + 1, by go_num, by omega, HO4, HK4, HB4⟩
          case measure => simp [intOf]; omega
      · have hyf := okAt_behind x n fs k (by omega)
        rw [hy] at hyf
        subst hyf
        have hR2 := roomAt_false x n fs k hy
        rw [hR] at hR2
        have HRE := Lib.hid hR2
        clear hy hR hR2
        go_wp2_with (first
            | (refine wpl_make_yb rfl _ _ rfl 52 rfl rfl (by omega) ?_; intro g w1 HY1 HG hb; have HO1 := Lib.hid (own_keep HO.out hb.out); have HK1 := Lib.hid (own_keep HK.out hb.out); have HB1 := Lib.hid (bch HB.out hb.out); clear hb)
            | (at_builtin; refine wpl_app_kb rfl (.tmp 37) (.tmp 39) rfl w.heap.size _ k _ rfl (HK3.out.alloc _) w3.heap.size false rfl (alloc_cell w3 _ _) (by omega) w.heap.size w (HB3.out.alloc HB3.out.size _) (Nat.le_refl _) (by have := HB3.out.size; simp; omega) ?_; intro v4 w4 HK4 HB4 hg4; have HO4 := Lib.hid (own_over (HO3.out.alloc (.cells #[.bool false] 4)) hg4.out (own_types (HO3.out.alloc (.cells #[.bool false] 4)) (HK3.out.alloc (.cells #[.bool false] 4)) (by decide))); have HK4 := Lib.hid (HNK.out ▸ HK4.out); clear hg4)
            | (at_builtin; refine wpl_appnG rfl (.tmp 34) (.tmp 35) rfl w.heap.size _ (52 * k) _ rfl HO1 (.slice (some ⟨g, 0, none⟩) 52 52) 52 R rfl (by rw [HRE.out]; exact HY1.out.ri (by simp) (by omega)) (by omega) (by omega) w.heap.size w HB1 (Nat.le_refl _) HB1.out.size ?_; intro v3 w3 HO3 HB3 hg3; have HK3 := Lib.hid (own_over HK1.out hg3.out (own_types HK1.out HO1.out (by decide))); have HO3 := Lib.hid (HM.out ▸ HNB.out ▸ HO3.out); clear hg3))
        go_roundw
        case rel => exact ⟨k + 1, by go_num, by omega, HO4, HK4, HB4⟩
        case measure => simp [intOf]; omega
    · obtain rfl : k = 16 := by omega
      go_wp2
      go_ret2
      exact ⟨_, _, rfl, RI.own HO.out, CS.own HK.out, HB.out⟩
end Go.Proofs.YtnmplnemnfonfaaGreatDoor
namespace Go.Proofs.YtnmplnemnfonfaaGreatDoor
open Go.RowKit
section
variable {w : World} {b : Nat} {o' : Bool} {v : Value}
theorem wpl_load_ko {ops : Array Oper} {rest : List Oper} {o : Oper} {a : Act} {Q : Exit → Act → World → Prop} (hgd : o.guard = none) (x : Operand) (ho : o.op = .load 79 x) (hx : a.eval x = .pointer (some ⟨b, 0, none⟩)) (h : KO w b o' v)
    (hk : wpList Tryz.prog ops Q rest (a.put o.dst (.agg (kA o' v))) w) : wpList Tryz.prog ops Q (o :: rest) a w :=
  wpList_load_row hgd 79 x ho b hx _ (kA o' v) (0, 0) _ h Tryz.underlying79 rfl (kj_info _ _) hk
theorem KO.alloc (w : World) : KO (w.alloc (.cells (kA o' v) 79)) w.heap.size o' v := heap_alloc_last w _
theorem KO.apart {b' : Nat} (h : KO w b o' v) (hne : b ≠ b') (x : Array Value) : KO (w.setRow b' x) b o' v := (setRow_other w b' b x hne).trans h
end
end Go.Proofs.YtnmplnemnfonfaaGreatDoor
namespace Go.Proofs.YtnmplnemnfonfaaGreatDoor
open Go.RowKit
set_option maxRecDepth 8000 in
set_option maxHeartbeats 4000000 in
theorem racc_short (x : Int) (bv kv : Value) (B : List Int) (K : List Bool) (w : World) (ep : Int) (hB : B.length = 832) (a : Nat) (ha : a ≤ 832) (hs : 832 < a + 11) :
    Calls Tryz.prog 31 #[.int .u64 x, bv, kv, .int .i64 (a : Int)] w (AccF (scF ep B K a) w) := by
  obtain ⟨wa, hwa⟩ : ∃ q, w.alloc (.cells (fA 0 0 (.slice none 0 0)) 82) = q := ⟨_, rfl⟩
  have HA : Hid (FO wa w.heap.size 0 0 (.slice none 0 0)) := Lib.hid (by rw [← hwa]; exact FO.alloc w)
  have HBA := Lib.hid (show Below w.heap.size w wa from by rw [← hwa]; exact balloc w _)
  obtain ⟨t, ht⟩ : ∃ t, a + 11 = t := ⟨_, rfl⟩
  have htI : (a : Int) + 11 = (t : Int) := by omega
  have htb : (t : Int) ≤ 1000 := by omega
  have HR := Lib.hid (scF_short (ep := ep) (K := K) hB ha hs)
  have h8i : (832 : Int) < (t : Int) := by omega
  rw [HR.out]
  clear hB ha hs ht
  go_enter Tryz.func31, Tryz.ntmps31
  go_wp2_with (first
    | (rw [hwa])
    | (refine wpl_put_fr rfl (.tmp 8) (.tmp 24) rfl w.heap.size HA.out 0 0 none 0 0 rfl rfl ?_; intro wz HZ HGZ))
  refine bodyPost_ret_by (results_row_tmp rfl _ _ w.heap.size _ rfl HZ.out.load) rfl ?_
  exact ⟨none, 0, rfl, World.ownsRow_nil _ _ _ _, below_over HBA.out HGZ.out (Nat.le_refl _) HBA.out.size⟩
theorem racc_le (x : Int) (hx : U64 x) (bv kv : Value) (B : List Int) (K : List Bool) (w : World) (hB : B.length = 832) (hBb : isB B) (hbv : RI .u8 w bv 832 B) (hk : BS w kv 16 K) (a : Nat) (ha : a ≤ 832) :
    Calls Tryz.prog 31 #[.int .u64 x, bv, kv, .int .i64 (a : Int)] w (AccF (scF (x % 4294967296) B K a) w) := by
  by_cases h : a + 11 ≤ 832
  · exact racc_any x hx bv kv B K w hB hBb hbv hk a (.inr h)
  · exact racc_short x bv kv B K w _ hB a ha (by omega)
structure RJ (W w : World) (jb : Nat) (o : Bool) (h : List Int) (hv : Value) : Prop where
  jn : KO w jb o hv
  row : w.ownsRow W.heap.size 5 1 hv h.length (il .u8 h)
  low : W.heap.size ≤ jb
  below : Below W.heap.size W w
theorem RJ.keep {W w w' : World} {jb : Nat} {o : Bool} {h : List Int} {hv : Value} (c : RJ W w jb o h hv) (hb : Below w.heap.size w w') : RJ W w' jb o h hv := ⟨c.jn.keep hb, own_keep c.row hb, c.low, bch c.below hb⟩
theorem RJ.join {W w : World} {jb : Nat} {o o' : Bool} {h h' : List Int} {hv hv' : Value} (c : RJ W w jb o h hv) (hr : w.ownsRow W.heap.size 5 1 hv' h'.length (il .u8 h')) : RJ W (w.setRow jb (kA o' hv')) jb o' h' hv' :=
  ⟨c.jn.row o' hv', c.jn.row_own _ hr (by decide), c.low, brow c.below c.low (Nat.le_refl _) _⟩
set_option maxRecDepth 8000 in
set_option maxHeartbeats 8000000 in
theorem rfrom_any (x : Int) (hx : U64 x) (v : Value) (n : Nat) (fs : List Int) (hbf : isB fs) (w : World) (h : FS w v n fs) (p : Int) :
    Calls Tryz.prog 14 #[.int .u64 x, v, .int .i64 p] w (FromF (rdAt (x % 4294967296) (flatB x n fs 16) (flatK x n fs 16) p) w) := by
  by_cases hp : p < 0
  · rw [rdAt_out (.inl hp)]
    go_enter Tryz.func14, Tryz.ntmps14
    go_wp2
    go_ret3
    exact ⟨Below.refl _ _, rfl⟩
  by_cases hp8 : p ≥ 832
  · have hn : rdAt (x % 4294967296) (flatB x n fs 16) (flatK x n fs 16) p = none := by
      by_cases h : p = 832
      · subst h; exact (rdAt_in (a := 832) (Nat.le_refl _)).trans rdOf_far
      · exact rdAt_out (.inr (by omega))
    rw [hn]
    clear hn h hbf hx
    go_enter Tryz.func14, Tryz.ntmps14
    go_wp2
    go_ret3
    exact ⟨Below.refl _ _, rfl⟩
  obtain ⟨a0, rfl⟩ : ∃ a : Nat, p = (a : Int) := ⟨p.toNat, by omega⟩
  have ha0 : a0 ≤ 832 := by omega
  rw [rdAt_in ha0]
  have HFL := Lib.hid (rflat_any x hx v n fs w h)
  have hB := flatB_length x n fs h.length 16
  have hBb := flatB_bytes x n fs hbf 16
  obtain ⟨B, hBe⟩ : ∃ B, flatB x n fs 16 = B := ⟨_, rfl⟩
  obtain ⟨K, hKe⟩ : ∃ K, flatK x n fs 16 = K := ⟨_, rfl⟩
  obtain ⟨ep, hep⟩ : ∃ e, x % 4294967296 = e := ⟨_, rfl⟩
  rw [hBe, hKe] at HFL
  rw [hBe] at hB hBb
  rw [hBe, hKe, hep]
  have HACC : Hid (∀ (bv kv : Value) (w : World) (a : Nat), RI .u8 w bv 832 B → BS w kv 16 K → a ≤ 832 → Calls Tryz.prog 31 #[.int .u64 x, bv, kv, .int .i64 a] w (AccF (scF ep B K a) w)) := Lib.hid fun bv kv w a h1 h2 h3 => by
    have := racc_le x hx bv kv B K w hB hBb h1 h2 a h3; rwa [hep] at this
  obtain ⟨va, vc, rfl⟩ : ∃ a c, v = .slice a n c := by obtain ⟨a, c, q, _⟩ := h; exact ⟨a, c, q⟩
  have HBL := Lib.hid (show B.length = 832 from hB)
  have HWY := Lib.hid (rdway_0 (ep := ep) (B := B) (K := K) ha0)
  have hp0 : ¬ (a0 : Int) < 0 := hp
  have hp1 : ¬ (a0 : Int) ≥ 832 := hp8
  have hp2 : ¬ (832 : Int) ≤ (a0 : Int) := hp8
  clear hx hbf h hB hBb hep hBe hKe hp hp8
  go_enter Tryz.func14, Tryz.ntmps14
  go_wp2_with (first
    | (go_at_call 30; (refine HFL.out.mono ?_); rintro r W ⟨bv, kv, rfl, hbv, hkv, hbw⟩; have HBV := Lib.hid hbv; have HKV := Lib.hid hkv; have HBW := Lib.hid hbw; clear hbv hkv hbw)
    | (refine wpList_store_row rfl 79 _ _ rfl W.heap.size (kA false (.slice none 0 0)) rfl rfl _ _ (heap_alloc_last W _) (kj_info _ _) rfl (kj_one _ _ _ _) ?_))
  simp only [Act.put]
  obtain ⟨w0, hw0⟩ : ∃ q, (W.alloc (.cells #[.bool false, .slice none 0 0] 79)).setRow W.heap.size (kA false (.slice none 0 0)) = q := ⟨_, rfl⟩
  have HX0 : Hid (RJ W w0 W.heap.size false [] (.slice none 0 0)) := Lib.hid ⟨by rw [← hw0]; exact setRow_heap _ _ _ _ _ _ (heap_alloc_last W _), World.ownsRow_nil _ _ _ _, Nat.le_refl _, by rw [← hw0]; exact bnew _ _ _⟩
  rw [hw0]
  obtain ⟨jb, hjb⟩ : ∃ g, W.heap.size = g := ⟨_, rfl⟩
  have HX0' : Hid (RJ W w0 jb false [] (.slice none 0 0)) := Lib.hid (hjb ▸ HX0.out)
  rw [hjb]
  clear hw0 HX0 hjb HFL hp0 hp1 hp2
  go_loopw [2] (fun av wr => ∃ s : RR, av = .int .i64 (s.at_ : Int) ∧ Hid (RdWay ep B K a0 s) ∧ ∃ hv, Hid (RJ W wr jb s.o s.h hv)) (fun av _ => 832 - (intOf av).toNat)
  case atStart => exact ⟨⟨a0, false, []⟩, rfl, HWY, _, HX0'⟩
  case round =>
    obtain ⟨s, rfl, HO, hv, HX⟩ := hrel
    obtain ⟨a, o, h⟩ := s
    dsimp only at HX HO ⊢
    have ha : a ≤ 832 := HO.out.1.at_
    have h5 : h.length ≤ 512 := HO.out.1.h
    obtain ⟨ha', hc', rfl⟩ := own_form HX.out.row
    obtain ⟨⟨⟨k, e, d⟩, m⟩, hF⟩ : ∃ F, scF ep B K a = F := ⟨_, rfl⟩
    have hstop : (∀ (r : Option (List Int × Nat)), rrStop ep B K ⟨a, o, h⟩ = true → rdEnd ep B K ⟨a, o, h⟩ = r → rdOf ep B K a0 = r) := fun r q1 q2 => (HO.out.stop q1).trans q2
    have HAC : Hid (∀ w', Below wr.heap.size wr w' → Calls Tryz.prog 31 #[.int .u64 x, bv, kv, .int .i64 a] w' fun r w'' => ∃ p c, r = .returned (.tuple #[.agg (fA k e (.slice p d.length c)), .int .i64 (m : Int)]) ∧ w''.ownsRow w'.heap.size 5 1 (.slice p d.length c) d.length (il .u8 d) ∧ Below w'.heap.size w' w'') := Lib.hid fun w' hb => by
      have := HACC.out bv kv w' a (HBV.out.keep (bch HX.out.below hb)) (HKV.out.kin (Kin.below (bch HX.out.below hb))) ha
      rw [hF] at this
      exact this
    by_cases hm : m = 0
    · have HR : Hid (rdOf ep B K a0 = none) := Lib.hid (by
        have := rr_none (ep := ep) (B := B) (K := K) (s := ⟨a, o, h⟩) (by rw [hF]; exact hm)
        exact hstop _ this.1 this.2)
      rw [HR.out]
      subst hm
      clear hstop hF
      go_wp2_with (first
        | (go_at_call 31; (refine (HAC.out _ (Below.refl _ _)).mono ?_); rintro r w2 ⟨p2, c2, rfl, ho2, hb2⟩; have HX2 := Lib.hid (HX.out.keep hb2); clear ho2 hb2)
        | (refine wpl_put_fr rfl (.tmp 12) (.tmp 37) rfl w2.heap.size (FO.alloc w2) k e p2 d.length c2 rfl rfl ?_; intro w3 HF3 HG3; have hb3 : Below w2.heap.size w2 w3 := below_over (balloc w2 _) HG3.out (Nat.le_refl _) (balloc w2 _).size; have HX3 := Lib.hid (HX2.out.keep hb3); clear hb3 HX2))
      go_ret3
      exact ⟨bch HBW.out HX3.out.below, rfl⟩
    · obtain ⟨hm11, ham, hdl⟩ := scF_in (ep := ep) (K := K) HBL.out ha (by rw [hF]; exact hm)
      rw [hF] at hm11 ham hdl
      dsimp only at hm11 ham hdl
      have hmi : ¬ (m : Int) = 0 := by omega
      have hmi' : ((m : Int) == 0) = false := by simpa using hmi
      obtain ⟨t, ht⟩ : ∃ t, a + m = t := ⟨_, rfl⟩
      rw [ht] at ham
      have htI : (a : Int) + (m : Int) = (t : Int) := by omega
      have htb : (t : Int) ≤ 832 := by omega
      have HFD : ∀ (w : World) (hv : Value) (x : Option Addr) (c : Nat), w.ownsRow W.heap.size 5 1 hv h.length (il .u8 h) → RI .u8 w (.slice x d.length c) d.length d → Calls Tryz.prog 32 #[.agg (kA o hv), .agg (fA k e (.slice x d.length c))] w fun r w' =>
          ∃ u v', r = .returned (.tuple #[.agg (kA (jGoes o h k d) v'), u, .bool (jEnds o h k d), .int .i64 (jErr o h k d)]) ∧ w'.ownsRow w.heap.size 5 1 v' (jHad o h k d).length (il .u8 (jHad o h k d)) ∧ w'.ownsRow w.heap.size 5 1 u (jTell o h k d).length (il .u8 (jTell o h k d)) ∧ Below w.heap.size w w' := fun w hv x c h1 h2 =>
        rfeed_any o hv h k e (.slice x d.length c) d.length d w (RI.own h1) h5 h2 (by omega)
      by_cases her : jErr o h k d = 0
      · rw [her] at HFD
        cases hen : jEnds o h k d with
        | true =>
          have HR : Hid (rdOf ep B K a0 = some (jTell o h k d, t)) := Lib.hid (by
            have := rr_ends (ep := ep) (B := B) (K := K) (s := ⟨a, o, h⟩) (by rw [hF]; exact hm) (by rw [hF]; exact hen)
            rw [hF] at this
            dsimp only at this
            rw [ht] at this
            exact hstop _ this.1 this.2)
          rw [HR.out]
          rw [hen] at HFD
          have HFD := Lib.hid HFD
          clear hstop hF hm her hen ht
          generalize jGoes o h k d = g6 at *
          generalize jHad o h k d = h6 at *
          generalize jTell o h k d = t6 at *
          go_wp2_with (first
          | (go_at_call 31; (refine (HAC.out _ (Below.refl _ _)).mono ?_); rintro r w2 ⟨p2, c2, rfl, ho2, hb2⟩; have HX2 := Lib.hid (HX.out.keep hb2); have HO2 := Lib.hid ho2; clear ho2 hb2)
          | (refine wpl_put_fr rfl (.tmp 12) (.tmp 37) rfl w2.heap.size (FO.alloc w2) k e p2 d.length c2 rfl rfl ?_; intro w3 HF3 HG3; have hb3 : Below w2.heap.size w2 w3 := below_over (balloc w2 _) HG3.out (Nat.le_refl _) (balloc w2 _).size; have HX3 := Lib.hid (HX2.out.keep hb3); have HO3 := Lib.hid (own_keep HO2.out hb3); clear hb3 HX2 HO2)
          | (refine wpl_load_ko rfl (.tmp 11) rfl rfl HX3.out.jn ?_)
          | (refine wpl_load_fr (by rfl) (.tmp 12) rfl rfl HF3.out ?_)
          | (go_at_call 32; (refine (HFD.out _ _ p2 c2 HX3.out.row (RI.own HO3.out)).mono ?_); rintro r w6 ⟨u, v6, rfl, oh6, ou6, hb6⟩; obtain ⟨ua, uc, rfl⟩ := own_form ou6; obtain ⟨qa, qc, rfl⟩ := own_form oh6; have HOH := Lib.hid (own_mono oh6 HX3.out.below.size); have HOU := Lib.hid (own_mono ou6 HX3.out.below.size); have HX6 := Lib.hid (HX3.out.keep hb6); clear oh6 ou6 hb6 HX3)
          | (refine wpList_store_row rfl 79 _ _ rfl w6.heap.size (kA g6 (.slice qa h6.length qc)) rfl rfl _ _ (heap_alloc_last w6 _) (kj_info _ _) rfl (kj_one _ _ _ _) ?_; obtain ⟨w7, hw7⟩ : ∃ q, World.setRow (w6.alloc (.cells (kA false (.slice none 0 0)) 79)) w6.heap.size (kA g6 (.slice qa h6.length qc)) = q := ⟨_, rfl⟩; rw [hw7]; have HK7 : Hid (KO w7 w6.heap.size g6 (.slice qa h6.length qc)) := Lib.hid (hw7 ▸ setRow_heap _ _ _ _ _ _ (heap_alloc_last w6 _)); have hb7 : Below w6.heap.size w6 w7 := hw7 ▸ bnew _ _ _; have HX7 := Lib.hid (HX6.out.keep hb7); have HOH7 := Lib.hid (own_keep HOH.out hb7); have HOU7 := Lib.hid (own_keep HOU.out hb7); clear hw7 hb7 HX6 HOH HOU))
          go_ret3
          exact ⟨bch HBW.out HX7.out.below, _, _, rfl, own_mono HOU7.out HBW.out.size⟩
        | false =>
          have hgo := rr_going (ep := ep) (B := B) (K := K) (s := ⟨a, o, h⟩) (by rw [hF]; exact hm) (by rw [hF]; exact her) (by rw [hF]; exact hen)
          have HNX := HO.out.next HBL.out hgo
          have hgs : rrGo ep B K ⟨a, o, h⟩ = ⟨beginN t, jGoes o h k d, jHad o h k d⟩ := by unfold rrGo; rw [hF]; dsimp only; rw [ht]
          rw [hgs] at HNX
          rw [hen] at HFD
          have HFD := Lib.hid HFD
          have HNX := Lib.hid HNX
          have HBG : Hid (∀ w, Calls Tryz.prog 33 #[.int .i64 t] w fun e w' => e = .returned (.int .i64 (beginN t : Int)) ∧ w = w') := Lib.hid fun w => by
            have := rbegin_any (t : Int) (by unfold I63; omega) w
            rw [nr_nat t ham] at this
            exact this.mono fun r w' ⟨h1, h2⟩ => ⟨h1, h2.symm⟩
          clear hstop hF hm her hen ht hgo hgs
          generalize jGoes o h k d = g6 at *
          generalize jHad o h k d = h6 at *
          generalize jTell o h k d = t6 at *
          generalize beginN t = bt at *
          go_wp2_with (first
          | (go_at_call 31; (refine (HAC.out _ (Below.refl _ _)).mono ?_); rintro r w2 ⟨p2, c2, rfl, ho2, hb2⟩; have HX2 := Lib.hid (HX.out.keep hb2); have HO2 := Lib.hid ho2; clear ho2 hb2)
          | (refine wpl_put_fr rfl (.tmp 12) (.tmp 37) rfl w2.heap.size (FO.alloc w2) k e p2 d.length c2 rfl rfl ?_; intro w3 HF3 HG3; have hb3 : Below w2.heap.size w2 w3 := below_over (balloc w2 _) HG3.out (Nat.le_refl _) (balloc w2 _).size; have HX3 := Lib.hid (HX2.out.keep hb3); have HO3 := Lib.hid (own_keep HO2.out hb3); clear hb3 HX2 HO2)
          | (refine wpl_load_ko rfl (.tmp 11) rfl rfl HX3.out.jn ?_)
          | (refine wpl_load_fr (by rfl) (.tmp 12) rfl rfl HF3.out ?_)
          | (go_at_call 32; (refine (HFD.out _ _ p2 c2 HX3.out.row (RI.own HO3.out)).mono ?_); rintro r w6 ⟨u, v6, rfl, oh6, ou6, hb6⟩; obtain ⟨ua, uc, rfl⟩ := own_form ou6; obtain ⟨qa, qc, rfl⟩ := own_form oh6; have HOH := Lib.hid (own_mono oh6 HX3.out.below.size); have HOU := Lib.hid (own_mono ou6 HX3.out.below.size); have HX6 := Lib.hid (HX3.out.keep hb6); clear oh6 ou6 hb6 HX3)
          | (refine wpList_store_row rfl 79 _ _ rfl w6.heap.size (kA g6 (.slice qa h6.length qc)) rfl rfl _ _ (heap_alloc_last w6 _) (kj_info _ _) rfl (kj_one _ _ _ _) ?_; obtain ⟨w7, hw7⟩ : ∃ q, World.setRow (w6.alloc (.cells (kA false (.slice none 0 0)) 79)) w6.heap.size (kA g6 (.slice qa h6.length qc)) = q := ⟨_, rfl⟩; rw [hw7]; have HK7 : Hid (KO w7 w6.heap.size g6 (.slice qa h6.length qc)) := Lib.hid (hw7 ▸ setRow_heap _ _ _ _ _ _ (heap_alloc_last w6 _)); have hb7 : Below w6.heap.size w6 w7 := hw7 ▸ bnew _ _ _; have HX7 := Lib.hid (HX6.out.keep hb7); have HOH7 := Lib.hid (own_keep HOH.out hb7); have HOU7 := Lib.hid (own_keep HOU.out hb7); clear hw7 hb7 HX6 HOH HOU)
          | (refine wpl_load_ko rfl (.tmp 14) rfl rfl HK7.out ?_)
          | (refine wpList_store_row rfl 79 _ _ rfl jb (kA g6 (.slice qa h6.length qc)) rfl rfl _ _ HX7.out.jn (kj_info _ _) rfl (kj_one _ _ _ _) ?_; obtain ⟨w8, hw8⟩ : ∃ q, World.setRow w7 jb (kA g6 (.slice qa h6.length qc)) = q := ⟨_, rfl⟩; rw [hw8]; have HX8 := Lib.hid (show RJ W w8 jb g6 h6 (.slice qa h6.length qc) from hw8 ▸ HX7.out.join HOH7.out); clear hw8 HX7 HOH7 HOU7)
          | (go_at_call 33; (with_reducible refine (HBG.out _).mono ?_); rintro r w9 ⟨rfl, rfl⟩))
          go_roundw
          case rel => exact ⟨⟨bt, g6, h6⟩, rfl, Lib.hid HNX.out.1, _, HX8⟩
          case measure => have h1 := HNX.out.2; have h2 := HNX.out.1.1.at_; simp only [intOf]; dsimp only at h1 h2; omega
      · have HR : Hid (rdOf ep B K a0 = none) := Lib.hid (by
          have := rr_err (ep := ep) (B := B) (K := K) (s := ⟨a, o, h⟩) (by rw [hF]; exact her)
          exact hstop _ this.1 this.2)
        rw [HR.out]
        generalize jErr o h k d = er at *
        have hx1 : (er == 0) = false := by simpa using her
        have HFD := Lib.hid HFD
        clear hstop hF hm ht
        generalize jGoes o h k d = g6 at *
        generalize jHad o h k d = h6 at *
        generalize jTell o h k d = t6 at *
        generalize jEnds o h k d = d6 at *
        go_wp2_with (first
          | (go_at_call 31; (refine (HAC.out _ (Below.refl _ _)).mono ?_); rintro r w2 ⟨p2, c2, rfl, ho2, hb2⟩; have HX2 := Lib.hid (HX.out.keep hb2); have HO2 := Lib.hid ho2; clear ho2 hb2)
          | (refine wpl_put_fr rfl (.tmp 12) (.tmp 37) rfl w2.heap.size (FO.alloc w2) k e p2 d.length c2 rfl rfl ?_; intro w3 HF3 HG3; have hb3 : Below w2.heap.size w2 w3 := below_over (balloc w2 _) HG3.out (Nat.le_refl _) (balloc w2 _).size; have HX3 := Lib.hid (HX2.out.keep hb3); have HO3 := Lib.hid (own_keep HO2.out hb3); clear hb3 HX2 HO2)
          | (refine wpl_load_ko rfl (.tmp 11) rfl rfl HX3.out.jn ?_)
          | (refine wpl_load_fr (by rfl) (.tmp 12) rfl rfl HF3.out ?_)
          | (go_at_call 32; (refine (HFD.out _ _ p2 c2 HX3.out.row (RI.own HO3.out)).mono ?_); rintro r w6 ⟨u, v6, rfl, oh6, ou6, hb6⟩; obtain ⟨ua, uc, rfl⟩ := own_form ou6; obtain ⟨qa, qc, rfl⟩ := own_form oh6; have HOH := Lib.hid (own_mono oh6 HX3.out.below.size); have HOU := Lib.hid (own_mono ou6 HX3.out.below.size); have HX6 := Lib.hid (HX3.out.keep hb6); clear oh6 ou6 hb6 HX3)
          | (refine wpList_store_row rfl 79 _ _ rfl w6.heap.size (kA g6 (.slice qa h6.length qc)) rfl rfl _ _ (heap_alloc_last w6 _) (kj_info _ _) rfl (kj_one _ _ _ _) ?_; obtain ⟨w7, hw7⟩ : ∃ q, World.setRow (w6.alloc (.cells (kA false (.slice none 0 0)) 79)) w6.heap.size (kA g6 (.slice qa h6.length qc)) = q := ⟨_, rfl⟩; rw [hw7]; have HK7 : Hid (KO w7 w6.heap.size g6 (.slice qa h6.length qc)) := Lib.hid (hw7 ▸ setRow_heap _ _ _ _ _ _ (heap_alloc_last w6 _)); have hb7 : Below w6.heap.size w6 w7 := hw7 ▸ bnew _ _ _; have HX7 := Lib.hid (HX6.out.keep hb7); have HOH7 := Lib.hid (own_keep HOH.out hb7); have HOU7 := Lib.hid (own_keep HOU.out hb7); clear hw7 hb7 HX6 HOH HOU))
        go_ret3
        exact ⟨bch HBW.out HX7.out.below, rfl⟩
end Go.Proofs.YtnmplnemnfonfaaGreatDoor
namespace Go.Proofs.YtnmplnemnfonfaaGreatDoor
open Go.RowKit
def hW (s ep : Int) : Hdr := ⟨ep, s, 1, [0, 0, 0, 0]⟩
theorem results_row_one {fn : Func} {p : Tmp} {ty : TypeId} {P : Program} (h : fn.results = #[.cell p ty]) (tmps : Array Value) (w : World) (g : Nat) (v : Value)
    (hp : tmps.getD p undef = .pointer (some ⟨g, 0, none⟩)) (hl : (loadVar ty ⟨g, 0, none⟩).run P w = .ok v w) : (results fn tmps).run P w = .ok v w := by
  have hp' : tmps[p]?.getD undef = .pointer (some ⟨g, 0, none⟩) := by simpa using hp
  simp [results, h, hp', asAddr, hl]
set_option maxRecDepth 8000 in
theorem rheader_any (s ep : Int) (w : World) : Calls Tryz.prog 10 #[.int .i64 s, .int .u64 ep] w fun e w' => e = .returned (.agg (hv (hW s ep))) ∧ Below w.heap.size w w' := by
  obtain ⟨w0, hw0⟩ : ∃ q, w.alloc (.cells #[.int .u64 0, .int .i64 0, .int .i64 0, .int .i64 0, .int .i64 0, .int .i64 0, .int .i64 0] 41) = q := ⟨_, rfl⟩
  have HH := Lib.hid (show HB w0 w.heap.size noH from by rw [← hw0]; exact HB.new w noH rfl)
  have HB0 := Lib.hid (show Below w.heap.size w w0 from by rw [← hw0]; exact balloc _ _)
  go_enter Tryz.func10, Tryz.ntmps10
  go_wp2_with (first
    | (refine wpl_put_hd rfl (.tmp 4) (.tmp 7) rfl w.heap.size noH (hW s ep) HH.out rfl rfl rfl ?_; intro wf HOF HGF))
  refine bodyPost_ret_by (results_row_one rfl _ _ w.heap.size _ rfl HOF.out.load) rfl ⟨rfl, hbelow_grown HB0.out HGF.out (Nat.le_refl _) HB0.out.size⟩
end Go.Proofs.YtnmplnemnfonfaaGreatDoor
namespace Go.Proofs.YtnmplnemnfonfaaGreatDoor
open Go.RowKit
set_option maxRecDepth 8000 in
set_option maxHeartbeats 1000000 in
theorem same_some (b off n cap : Nat) (la : List (List Int)) (b2 off2 cap2 : Nat) (lb : List (List Int)) (w : World) (ha : RL .u8 w (.slice (some ⟨b, off, none⟩) n cap) n la) (hb : RL .u8 w (.slice (some ⟨b2, off2, none⟩) n cap2) n lb)
    (hba : ∀ l ∈ la, isB l) (hbb : ∀ l ∈ lb, isB l) (h0 : 0 < n) :
    Calls Tryz.prog 12 #[.slice (some ⟨b, off, none⟩) n cap, .slice (some ⟨b2, off2, none⟩) n cap2] w fun e w' => e = .returned (.bool (decide (la = lb))) ∧ Below w.heap.size w w' := by
  obtain ⟨b', off', hbo, hat⟩ := ha.at_ h0
  simp only [Option.some.injEq, Addr.mk.injEq, and_true] at hbo
  obtain ⟨rfl, rfl⟩ := hbo
  obtain ⟨b', off', hbo, hat2⟩ := hb.at_ h0
  simp only [Option.some.injEq, Addr.mk.injEq, and_true] at hbo
  obtain ⟨rfl, rfl⟩ := hbo
  have HA := Lib.hid hat
  have HB := Lib.hid hat2
  have HLA := Lib.hid ha.length
  have HLB := Lib.hid hb.length
  have hn : (n : Int) ≤ 9223372036854775807 := by have := ha.le; omega
  have HBA := Lib.hid hba
  have HBB := Lib.hid hbb
  clear hat hat2 ha hb hba hbb
  go_enter Tryz.func12, Tryz.ntmps12
  go_wp2
  go_loopw [5] (fun iv wr => ∃ i : Nat, iv = .int .i64 i ∧ i ≤ n ∧ Hid (la.take i = lb.take i) ∧ Hid (Below w.heap.size w wr)) (fun iv _ => n - (intOf iv).toNat)
  case atStart => exact ⟨0, rfl, by omega, Lib.hid (by simp), Lib.hid (Below.refl _ _)⟩
  case round =>
    obtain ⟨i, rfl, hi, HE, HW⟩ := hrel
    by_cases hlt : (i : Int) < (n : Int)
    · obtain ⟨x1, k1, hc1, hr1⟩ := HA.out i (by omega)
      obtain ⟨x2, k2, hc2, hr2⟩ := HB.out i (by omega)
      have HT := Lib.hid (show la.take (i + 1) = la.take i ++ [la.getD i []] from by rw [List.take_succ_eq_append_getElem (by rw [HLA.out]; omega)]; simp [List.getD, HLA.out, show i < n by omega])
      have HT2 := Lib.hid (show lb.take (i + 1) = lb.take i ++ [lb.getD i []] from by rw [List.take_succ_eq_append_getElem (by rw [HLB.out]; omega)]; simp [List.getD, HLB.out, show i < n by omega])
      have HI1 := Lib.hid (show isB (la.getD i []) from HBA.out _ (by simp [List.getD, HLA.out, show i < n by omega]))
      have HI2 := Lib.hid (show isB (lb.getD i []) from HBB.out _ (by simp [List.getD, HLB.out, show i < n by omega]))
      have HNE := Lib.hid (show ¬ la.getD i [] = lb.getD i [] → ¬ la = lb from fun h1 h2 => h1 (by rw [h2]))
      generalize la.getD i [] = l1 at hc1 hr1 HT HI1 HNE
      generalize lb.getD i [] = l2 at hc2 hr2 HT2 HI2 HNE
      have HR1 := Lib.hid (hr1.keep HW.out)
      have HR2 := Lib.hid (hr2.keep HW.out)
      have hcell1 := cell_keep HW.out hc1
      have hcell2 := cell_keep HW.out hc2
      obtain ⟨s1, hs1⟩ : ∃ s, strOfNums l1 = s := ⟨_, rfl⟩
      obtain ⟨s2, hs2⟩ : ∃ s, strOfNums l2 = s := ⟨_, rfl⟩
      have hv1 : ∀ m, (convert 49 9 (.slice x1 l1.length k1)).run Tryz.prog (wr.drewN m) = .ok (.string s1) (wr.drewN m) := fun m => by
        rw [← hs1]; exact conv_of Tryz.underlying49 Tryz.underlying5 Tryz.underlying9 (HR1.out.keep (drew_below wr m))
      have hv2 : ∀ m, (convert 49 9 (.slice x2 l2.length k2)).run Tryz.prog (wr.drewN m) = .ok (.string s2) (wr.drewN m) := fun m => by
        rw [← hs2]; exact conv_of Tryz.underlying49 Tryz.underlying5 Tryz.underlying9 (HR2.out.keep (drew_below wr m))
      have HS := Lib.hid (fun h : s1 = s2 => strOfNums_inj HI1.out HI2.out (by rw [hs1, hs2]; exact h))
      have HSN := Lib.hid (fun h : l1 = l2 => (show s1 = s2 from by rw [← hs1, ← hs2, h]))
      clear hs1 hs2
      clear hc1 hc2 hr1 hr2
      by_cases he : s1 = s2
      · subst he
        have HTT := Lib.hid (show la.take (i + 1) = lb.take (i + 1) from by rw [HT.out, HT2.out, HE.out, HS.out rfl])
        go_wp2_with fail
        go_quiet (fail)
        go_wp2
        go_roundw
        case rel => exact ⟨i + 1, by go_num, by omega, HTT, Lib.hid (HW.out.trans ((drew_below wr nq).mono HW.out.size))⟩
        case measure => simp [intOf]; omega
      · have hse := str_ne he
        have HX := Lib.hid (show ¬ la = lb from HNE.out fun h => he (HSN.out h))
        clear he
        go_wp2_with fail
        go_quiet (fail)
        go_wp2
        go_ret
        exact ⟨by show Ending.returned (Value.bool false) = _; rw [decide_eq_false HX.out], HW.out.trans ((drew_below wr nq).mono HW.out.size)⟩
    · go_wp2
      go_ret
      have h5 := HE.out
      rw [List.take_of_length_le (by rw [HLA.out]; omega), List.take_of_length_le (by rw [HLB.out]; omega)] at h5
      exact ⟨by show Ending.returned (Value.bool true) = _; rw [decide_eq_true h5], HW.out⟩
set_option maxRecDepth 8000 in
theorem same_none (a a2 : Option Addr) (cap cap2 : Nat) (w : World) :
    Calls Tryz.prog 12 #[.slice a 0 cap, .slice a2 0 cap2] w fun e w' => e = .returned (.bool true) ∧ w = w' := by
  go_enter Tryz.func12, Tryz.ntmps12
  go_wp2
  refine wp_loop_rounds 1 ?_
  rw [rounds_succ]
  go_wp2
  go_ret
  exact ⟨rfl, rfl⟩
set_option maxRecDepth 8000 in
theorem same_unlike (a a2 : Option Addr) (n m cap cap2 : Nat) (h : ¬ (n : Int) = m) (w : World) :
    Calls Tryz.prog 12 #[.slice a n cap, .slice a2 m cap2] w fun e w' => e = .returned (.bool false) ∧ w = w' := by
  go_enter Tryz.func12, Tryz.ntmps12
  go_wp2
  go_ret
  exact ⟨rfl, rfl⟩
theorem same_any (va vb : Value) (n m : Nat) (la lb : List (List Int)) (w : World) (ha : RL .u8 w va n la) (hb : RL .u8 w vb m lb) (hba : ∀ l ∈ la, isB l) (hbb : ∀ l ∈ lb, isB l) :
    Calls Tryz.prog 12 #[va, vb] w fun e w' => e = .returned (.bool (decide (la = lb))) ∧ Below w.heap.size w w' := by
  obtain ⟨a, cap, rfl, _⟩ := ha.form
  obtain ⟨a2, cap2, rfl, _⟩ := hb.form
  by_cases h : n = m
  · subst h
    by_cases h0 : 0 < n
    · obtain ⟨b, off, rfl, _⟩ := ha.at_ h0
      obtain ⟨b2, off2, rfl, _⟩ := hb.at_ h0
      exact same_some b off n cap la b2 off2 cap2 lb w ha hb hba hbb h0
    · obtain rfl : n = 0 := by omega
      obtain rfl : la = [] := List.length_eq_zero_iff.1 ha.length
      obtain rfl : lb = [] := List.length_eq_zero_iff.1 hb.length
      exact (same_none a a2 cap cap2 w).mono fun _ _ ⟨he, hw⟩ => ⟨he, by subst hw; exact Below.refl _ _⟩
  · have hne : ¬ la = lb := fun h2 => h (by rw [← ha.length, ← hb.length, h2])
    exact (same_unlike a a2 n m cap cap2 (by omega) w).mono fun _ _ ⟨he, hw⟩ => ⟨by rw [he, decide_eq_false hne], by subst hw; exact Below.refl _ _⟩
end Go.Proofs.YtnmplnemnfonfaaGreatDoor
