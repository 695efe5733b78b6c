/-
  TEXTS JOINED: CutCode, CutList, Cut, Clone, FragBlk, FragList, PlanRow. Each one's own words stand at its head.
-/
import Derived.Test.YtgegbpnmfpjdmaaGreatDoorJ12
import Derived.Test.YtgegbpnmfpjdmaaGreatDoorJ13
import Derived.Test.YtgegbpnmfpjdmaaGreatDoorJ3
import Derived.Test.YtgegbpnmfpjdmaaGreatDoorJ0
import Derived.Deep.MidRow
import Derived.Laws.StructEq
import Derived.Test.YtgegbpnmfpjdmaaGreatDoorJ5
import Derived.Laws.Slices
import Derived.Deep.WholeRow
import Derived.Lib.SmallJoins
import Derived.Lib.SliceRun
import Derived.Test.YtgegbpnmfpjdmaaGreatDoorJ7
namespace Go.Proofs.YtgegbpnmfpjdmaaGreatDoor
open Go.RowKit
set_option maxRecDepth 8000 in
theorem kind_any (x y : Bool) (w : World) : Calls Tryz.prog 109 #[.bool x, .bool y] w fun e w' => e = .returned (.int .i64 (kindN x y)) ∧ w' = w := by
  cases x <;> cases y <;>
  · go_enter Tryz.func109, Tryz.ntmps109
    go_wp2
    go_ret
    exact ⟨rfl, rfl⟩
set_option maxRecDepth 8000 in
theorem room_any (n : Int) (h : I63 n) (w : World) : Calls Tryz.prog 65 #[.int .i64 n] w fun e w' => e = .returned (.int .i64 (roomI (nr n))) ∧ Below w.heap.size w w' := by
  have hle := nr_le n
  have hbl := begin_le _ hle
  have hll := left_le _ hbl
  have H1 : Hid (∀ w, Calls Tryz.prog 38 #[.int .i64 n] w fun e w' => e = .returned (.int .i64 (beginN (nr n) : Int)) ∧ Below w.heap.size w w') := fun w => begin_any n h w
  have hbr := begin_room _ hle
  obtain ⟨r, hr⟩ : ∃ r, roomI (nr n) = r := ⟨_, rfl⟩
  rw [hr]
  unfold roomI at hr
  generalize nr n = a at *
  generalize beginN a = b at *
  have H2 : Hid (∀ w, Calls Tryz.prog 89 #[.int .i64 (b : Int)] w fun e w' => e = .returned (.int .i64 (leftN b : Int)) ∧ Below w.heap.size w w') := fun w => by
    have := left_any b (by unfold I63; omega) w; rwa [nr_nat _ hbl] at this
  generalize leftN b = l at *
  clear h
  by_cases h8 : b = 832
  · subst h8
    rw [if_pos rfl] at hr
    subst hr
    go_enter Tryz.func65, Tryz.ntmps65
    go_wp2_with (first
      | (go_at_call 38; (with_reducible refine (H1.out _).mono ?_); rintro e w1 ⟨rfl, hb⟩; have HB1 := Lib.hid hb; clear hb))
    go_ret
    exact ⟨rfl, HB1.out⟩
  · rw [if_neg h8] at hr
    have hb8 : ¬ (b : Int) = 832 := by omega
    have hdv : ((832 : Int) - b - l).tdiv 208 = (((832 - b - l) / 208 : Nat) : Int) := by rw [Int.tdiv_eq_ediv_of_nonneg (by omega)]; omega
    obtain ⟨q, hq⟩ : ∃ q, (832 - b - l) / 208 = q := ⟨_, rfl⟩
    rw [hq] at hdv hr
    have hq4 : (q : Int) ≤ 4 := by omega
    have hl11 : (11 : Int) ≤ l := by omega
    have hsum : (b : Int) + l ≤ 832 := by omega
    have HR := Lib.hid hr
    clear hr hq hbr hll
    go_enter Tryz.func65, Tryz.ntmps65
    go_wp2_with (first
      | (go_at_call 38; (with_reducible refine (H1.out _).mono ?_); rintro e w1 ⟨rfl, hb⟩; have HB1 := Lib.hid hb; clear hb)
      | (go_at_call 89; (with_reducible refine (H2.out _).mono ?_); rintro e w2 ⟨rfl, hb⟩; have HB2 := Lib.hid (bch HB1.out hb); clear hb))
    go_ret
    exact ⟨ret_int (by rw [← HR.out]), HB2.out⟩
set_option maxRecDepth 8000 in
theorem fits_any (a n : Int) (ha : I63 a) (w : World) : Calls Tryz.prog 35 #[.int .i64 a, .int .i64 n] w fun e w' => e = .returned (.bool (fitI a n)) ∧ Below w.heap.size w w' := by
  have H1 : Hid (∀ w, Calls Tryz.prog 65 #[.int .i64 a] w fun e w' => e = .returned (.int .i64 (roomI (nr a))) ∧ Below w.heap.size w w') := fun w => room_any a ha w
  by_cases h0 : n < 0
  · rw [fitI_neg a n h0]
    clear ha
    go_enter Tryz.func35, Tryz.ntmps35
    go_wp2
    go_ret
    exact ⟨rfl, Below.refl _ _⟩
  · have h0' : 0 ≤ n := by omega
    have he : fitI a n = decide (n ≤ roomI (nr a)) := by unfold fitI; simp [h0']
    rw [he]
    generalize roomI (nr a) = r at *
    by_cases hc : n ≤ r
    · rw [decide_eq_true hc]
      clear ha he
      go_enter Tryz.func35, Tryz.ntmps35
      go_wp2_with (first
        | (go_at_call 65; (with_reducible refine (H1.out _).mono ?_); rintro e w1 ⟨rfl, hb⟩; have HB1 := Lib.hid hb; clear hb))
      go_ret
      exact ⟨by first | rfl | exact ret_bool (decide_eq_true hc), HB1.out⟩
    · rw [decide_eq_false hc]
      clear ha he
      go_enter Tryz.func35, Tryz.ntmps35
      go_wp2_with (first
        | (go_at_call 65; (with_reducible refine (H1.out _).mono ?_); rintro e w1 ⟨rfl, hb⟩; have HB1 := Lib.hid hb; clear hb))
      go_ret
      exact ⟨by first | rfl | exact ret_bool (decide_eq_false (by omega)), HB1.out⟩
end Go.Proofs.YtgegbpnmfpjdmaaGreatDoor
namespace Go.Proofs.YtgegbpnmfpjdmaaGreatDoor
open Go.RowKit
abbrev pL (p : PC) : List Value := [.int .i64 p.at_, .int .i64 p.kind, .int .i64 p.from_, .int .i64 p.to]
abbrev pV (p : PC) : Value := .agg #[.int .i64 p.at_, .int .i64 p.kind, .int .i64 p.from_, .int .i64 p.to]
def pF (l : List PC) : List Value := (l.map pL).flatten
theorem pF_length (l : List PC) : (pF l).length = l.length * 4 := by
  have := flat_length 4 (l.map pL) (fun e he => by obtain ⟨o, _, rfl⟩ := List.mem_map.1 he; rfl)
  simpa [pF] using this
theorem pF_snoc (l : List PC) (c : PC) : pF (l ++ [c]) = pF l ++ pL c := by simp [pF]
def PS (w : World) (v : Value) (l : List PC) : Prop := CS 4 w v l.length (pF l)
theorem PS.kin {w w' : World} (hb : Kin w w') {v : Value} {l : List PC} (h : PS w v l) : PS w' v l := CS.kin hb h
theorem PS.keep {w w' : World} {v : Value} {l : List PC} (h : PS w v l) (hb : Below w.heap.size w w') : PS w' v l := h.kin (Kin.below hb)
theorem PS.form {w : World} {v : Value} {l : List PC} (h : PS w v l) : ∃ a cap, v = .slice a l.length cap ∧ l.length ≤ cap ∧ cap ≤ 9223372036854775807 ∧ (a = none → cap = 0) := CS.form h
theorem PS.at_ {w : World} {a : Option Addr} {n cap : Nat} {l : List PC} (h : PS w (.slice a n cap) l) (i : Nat) (o : PC) (ho : l[i]? = some o) :
    ∃ b off, a = some ⟨b, off, none⟩ ∧ w.rangeAt b (off + i * 4) (pL o) := by
  obtain ⟨hi, _⟩ := List.getElem?_eq_some_iff.1 ho
  have hn : n = l.length := by obtain ⟨_, _, hv, _⟩ := id h; simp at hv; exact hv.2.1
  subst hn
  obtain ⟨b, off, rfl, hc⟩ := CS.at_ h i hi
  refine ⟨b, off, rfl, fun j v hv => ?_⟩
  have hj : j < 4 := (List.getElem?_eq_some_iff.1 hv).1
  have h7 := flat_get 4 (l.map pL) i j (fun e he => by obtain ⟨o, _, rfl⟩ := List.mem_map.1 he; rfl) hj (pL o) (by simp [ho])
  exact ((hc j hj).trans h7).trans hv
theorem PS.own {w : World} {base : Nat} {e : TypeId} {v : Value} {l : List PC} (h : w.ownsRow base e 4 v l.length (pF l)) : PS w v l := CS.own h
theorem PS.nil (w : World) : PS w (.slice none 0 0) [] := ⟨none, 0, rfl, rfl, Nat.le_refl _, by omega, fun _ => rfl, fun h => absurd h (by simp)⟩
theorem pc_cells {w : World} {b o : Nat} {c : PC} (h : w.rangeAt b o (pL c)) : w.cell? ⟨b, o, none⟩ = some (.int .i64 c.at_) ∧ w.cell? ⟨b, o + 1, none⟩ = some (.int .i64 c.kind) ∧ w.cell? ⟨b, o + 2, none⟩ = some (.int .i64 c.from_) ∧ w.cell? ⟨b, o + 3, none⟩ = some (.int .i64 c.to) :=
  ⟨h 0 _ rfl, h 1 _ rfl, h 2 _ rfl, h 3 _ rfl⟩
theorem pc_info : (Tryz.prog.info? 83).map (·.size) = some 4 := by kernel_rfl
theorem wpl_load_pc {w : World} {ops : Array Oper} {rest : List Oper} {o : Oper} {a : Act} {Q : Exit → Act → World → Prop} (hgd : o.guard = none) {b off : Nat} {c : PC} (x : Operand) (ho : o.op = .load 83 x) (hx : a.eval x = .pointer (some ⟨b, off, none⟩)) (h : w.rangeAt b off (pL c))
    (hk : wpList Tryz.prog ops Q rest (a.put o.dst (pV c)) w) : wpList Tryz.prog ops Q (o :: rest) a w :=
  wpList_load_mid hgd 83 x ho b off hx (pL c) _ h Tryz.underlying83 rfl pc_info hk
theorem pc_parts : (Tryz.prog.info? 83).map (fun i => (i.zero, i.size, i.bytes)) = some (some (.agg #[.int .i64 0, .int .i64 0, .int .i64 0, .int .i64 0]), 4, 32) := by kernel_rfl
section
variable {w : World} {ops : Array Oper} {rest : List Oper} {o : Oper} {a : Act} {Q : Exit → Act → World → Prop}
theorem blk_news {g : Nat} {c : PC} (hblk : w.heap[g]? = some (.cells (pL c).toArray 83 (0, 0))) (j : Nat) (u : Value) (hj : (pL c)[j]? = some u) : w.cell? ((⟨g, 0, none⟩ : Addr).add j) = some u := by
  have hc : w.cell? ⟨g, j, none⟩ = some u := by rw [cell_of_row _ g j _ _ _ hblk]; simpa using hj
  by_cases h0 : j = 0
  · subst h0; simpa [Addr.add] using hc
  · simpa [Addr.add, h0] using hc
theorem wpl_app_pc (hgd : o.guard = none) (s x : Operand)
    (ho : o.op = .call { callee := .builtin .append, args := #[s, x], argTypes := #[39, 39] })
    (base : Nat) (v : Value) (n : Nat) (l : List PC) (hs : a.eval s = v) (hown : Hid (w.ownsRow base 83 4 v n (pF l)))
    (g : Nat) (c : PC) (hx : a.eval x = .slice (some ⟨g, 0, none⟩) 1 1) (hblk : w.heap[g]? = some (.cells (pL c).toArray 83 (0, 0))) (hn : n ≤ 1000000)
    (B : Nat) (W : World) (hb : Hid (Below B W w)) (hB : B ≤ base) (hbase : base ≤ w.heap.size)
    (h : ∀ v' w', Hid (w'.ownsRow base 83 4 v' (n + 1) (pF (l ++ [c]))) → Hid (Below B W w') → Hid (w.grownBy w' v.ownBlock) → wpList Tryz.prog ops Q rest (a.put o.dst v') w') : wpList Tryz.prog ops Q (o :: rest) a w := by
  obtain ⟨i, hi, hz0, hz1, hz2⟩ := info_parts pc_parts
  refine wpList_append_own_wide w hgd s x 39 ho base 83 i _ 4 32 Tryz.underlying39 hi hz0 hz1 hz2 rfl (by omega) v n (pF l) hs hown.out ⟨g, 0, none⟩ 1 1 (pL c) hx (by simp) (blk_news hblk) (by simp [Value.oneCell']) (by unfold maxLen; omega) (by omega) hbase ?_
  intro v' w' h1 h2 _
  exact h v' w' (by rw [pF_snoc]; exact h1) (hb.out.grown h2 (by omega) (fun q hq => by have := (hown.out.lt q hq).1; omega)) h2
theorem wp_app_pc {K : Act → World → Prop} (s x : Operand)
    (ho : o.op = .call { callee := .builtin .append, args := #[s, x], argTypes := #[39, 39] })
    (base : Nat) (v : Value) (n : Nat) (l : List PC) (hs : a.eval s = v) (hown : w.ownsRow base 83 4 v n (pF l))
    (g : Nat) (c : PC) (hx : a.eval x = .slice (some ⟨g, 0, none⟩) 1 1) (hblk : w.heap[g]? = some (.cells (pL c).toArray 83 (0, 0))) (hn : n ≤ 1000000) (hbase : base ≤ w.heap.size)
    (h : ∀ v' w', Hid (w'.ownsRow base 83 4 v' (n + 1) (pF (l ++ [c]))) → Hid (w.grownBy w' v.ownBlock) → K (a.put o.dst v') w') : Oper.wp Tryz.prog o a w K Q := by
  obtain ⟨i, hi, hz0, hz1, hz2⟩ := info_parts pc_parts
  refine wp_append_own_wide w s x 39 ho base 83 i _ 4 32 Tryz.underlying39 hi hz0 hz1 hz2 rfl (by omega) v n (pF l) hs hown ⟨g, 0, none⟩ 1 1 (pL c) hx (by simp) (blk_news hblk) (by simp [Value.oneCell']) (by unfold maxLen; omega) (by omega) hbase ?_
  intro v' w' h1 h2 _
  exact h v' w' (by rw [pF_snoc]; exact h1) h2
end
end Go.Proofs.YtgegbpnmfpjdmaaGreatDoor
namespace Go.Proofs.YtgegbpnmfpjdmaaGreatDoor
open Go.RowKit
theorem RI.cut {k : IntKind} {w : World} {a : Option Addr} {len cap : Nat} {zs : List Int} (h : RI k w (.slice a len cap) len zs) (l n m : Nat) (hl : l + n ≤ len) (hm : l + n ≤ m) (hm2 : m ≤ cap) :
    RI k w (sliced a l (l + n) m 1) n ((zs.drop l).take n) := by
  obtain ⟨a', cap', e, h1, h2, h3, h4, hc⟩ := h
  simp only [Value.slice.injEq, true_and] at e
  obtain ⟨rfl, rfl⟩ := e
  have hz : ((zs.drop l).take n).length = n := by simp; omega
  unfold sliced
  rw [show l + n - l = n from by omega]
  by_cases h0 : m = l
  · rw [if_pos h0]
    exact ⟨a, m - l, rfl, hz, by omega, by omega, fun e => by have := h4 e; omega, fun h => absurd h (by omega)⟩
  · rw [if_neg h0]
    cases a with
    | none => have := h4 rfl; omega
    | some x =>
      refine ⟨some (x.add (l * 1)), m - l, rfl, hz, by omega, by omega, fun h => by simp at h, fun hp => ?_⟩
      obtain ⟨b, off, hx, hcell⟩ := hc (by omega)
      obtain rfl := Option.some.inj hx
      refine ⟨b, off + l, by simp [Addr.add], fun j hj => ?_⟩
      rw [Nat.add_assoc, hcell (l + j) (by omega)]
      simp only [List.getD, List.getElem?_take, hj, if_true, List.getElem?_drop]
section
variable {w : World} {o : Oper} {a : Act}
set_option maxRecDepth 20000 in
theorem u8_cell1 : (sizeOf (Tryz.prog.elem 43)).run Tryz.prog w = .ok 1 w := by
  have he : Tryz.prog.elem 43 = 5 := rfl
  obtain ⟨i, hi, _, hz1, _⟩ := info_parts Tryz.info_u8
  simp [sizeOf, typeInfo, he, hi, hz1]
set_option maxRecDepth 20000 in
theorem und_bytes : Tryz.prog.underlying 43 = some (.slice (Tryz.prog.elem 43)) := by rw [Tryz.underlying43]; rfl
theorem exec_cut_lh (x lo hi : Operand) (ho : o.op = .slice 43 x (some lo) (some hi) none) (p : Option Addr) (len cap l n : Nat) (hx : a.eval x = .slice p len cap) (hlo : a.eval lo = .int .i64 (l : Int)) (hhi : a.eval hi = .int .i64 ((l + n : Nat) : Int)) (hc : l + n ≤ cap) :
    (execOp a.eval o).run Tryz.prog w = .ok (.value (sliced p l (l + n) cap 1)) w := by
  have h1 := run_slice_lh (P := Tryz.prog) w 43 p len cap und_bytes .i64 .i64 (l : Int) ((l + n : Nat) : Int) (by omega) (by omega) (by omega)
  rw [u8_cell1] at h1
  simp only [Result.andThen_ok, Int.toNat_natCast] at h1
  simp only [Int.natCast_add] at h1
  simp [execOp, ho, hx, hlo, hhi, run_sliceAt_slice _ _ _ _ _ _ und_bytes, h1, Result.andThen]
theorem sliced_form (p : Option Addr) (l n m s : Nat) : ∃ q c, sliced p l (l + n) m s = .slice q n c := ⟨_, _, by unfold sliced; rw [show l + n - l = n from by omega]⟩
section
variable {ops : Array Oper} {rest : List Oper} {Q : Exit → Act → World → Prop}
theorem wpl_val (hw : o.guard = none) {v : Value} (he : (execOp a.eval o).run Tryz.prog w = .ok (.value v) w) (h : wpList Tryz.prog ops Q rest (a.put o.dst v) w) : wpList Tryz.prog ops Q (o :: rest) a w := by
  refine wpList_plain hw fun K hK => ?_
  unfold Oper.wp
  rw [he]
  simp only [Oper.upon]
  exact hK _ _ h
end
end
theorem wp_app_full {P : Program} {w : World} {o : Oper} {a : Act} {K : Act → World → Prop} {Q : Exit → Act → World → Prop} (s x : Operand) (t : TypeId) (ho : o.op = .call { callee := .builtin .append, args := #[s, x], argTypes := #[t, t] })
    (e : TypeId) (k : IntKind) (bytes : Nat) (ht : P.underlying t = some (.slice e)) (hinfo : (P.info? e).map (fun i => (i.zero, i.size, i.bytes)) = some (some (.int k 0), 1, bytes))
    (g off n : Nat) (xs : List Int) (hs : a.eval s = .slice (some ⟨g, off, none⟩) n n) (hown : RI k w (.slice (some ⟨g, off, none⟩) n n) n xs)
    (v2 : Value) (m : Nat) (ys : List Int) (hx : a.eval x = v2) (hri : RI k w v2 m ys) (h0 : 0 < n) (hbytes : ((n + m) + (n + m) / 4 + 192) * bytes ≤ 281474976710656) (h63 : n + m ≤ 9223372036854775807)
    (h : ∀ p c w', RI k w' (.slice p (n + m) c) (n + m) (xs ++ ys) → Below w.heap.size w w' → K (a.put o.dst (.slice p (n + m) c)) w') : o.wp P a w K Q := by
  obtain ⟨i, hi, hz0, hz1, hz2⟩ := info_parts hinfo
  obtain ⟨ad, cap, rfl, hl, hlc, _, hnil, hc⟩ := hri
  have hxl := hown.length
  obtain ⟨b, of2, e1, hcell⟩ := hown.at_ h0
  obtain ⟨rfl, rfl⟩ : g = b ∧ off = of2 := by simpa using e1
  by_cases hm : m = 0
  · subst hm
    obtain rfl : ys = [] := List.length_eq_zero_iff.1 hl
    have hrun : (Builtin.append_ #[t, t] o.type #[.slice (some ⟨g, off, none⟩) n n, .slice ad 0 cap]).run P w = .ok (.slice (some ⟨g, off, none⟩) n n) w := by
      cases ad <;> simp [Builtin.append_, run_underlying ht, sizeOf, typeInfo, hi, Builtin.lenOf, Builtin.firstCells, loadCells, loadCellsFrom, storeCells]
    unfold Oper.wp
    simp [execOp, ho, resolve, invoke, builtin, hs, hx, hrun, Result.andThen]
    exact h (some ⟨g, off, none⟩) n w (by rw [List.append_nil]; exact hown) (Below.refl _ _)
  · obtain ⟨b2, of3, rfl, hcell2⟩ := hc (by omega)
    have holds : ∀ j u, (il k xs)[j]? = some u → w.cell? ((⟨g, off, none⟩ : Addr).add j) = some u := by
      intro j u hj
      have hjl : j < xs.length := by have := (List.getElem?_eq_some_iff.1 hj).1; rwa [il_length] at this
      rw [il_get _ _ _ hjl] at hj
      have hadd : (⟨g, off, none⟩ : Addr).add j = ⟨g, off + j, none⟩ := by unfold Addr.add; split <;> simp_all
      rw [hadd, hcell j (by omega)]; exact hj
    have hnews : ∀ j u, (il k ys)[j]? = some u → w.cell? ((⟨b2, of3, none⟩ : Addr).add j) = some u := by
      intro j u hj
      have hjl : j < ys.length := by have := (List.getElem?_eq_some_iff.1 hj).1; rwa [il_length] at this
      rw [il_get _ _ _ hjl] at hj
      have hadd : (⟨b2, of3, none⟩ : Addr).add j = ⟨b2, of3 + j, none⟩ := by unfold Addr.add; split <;> simp_all
      rw [hadd, hcell2 j (by omega)]; exact hj
    have hrun := run_append_grow (P := P) w t o.type e i (.int k 0) ht hi hz0 ⟨g, off, none⟩ n n (il k xs) (by rw [il_length, hz1]; omega) holds ⟨b2, of3, none⟩ m cap (il k ys) (by rw [il_length, hz1]; omega) hnews (by omega) (by omega) (growslice_fits_wide (by omega) (by rw [hz2]; exact hbytes))
    unfold Oper.wp
    simp [execOp, ho, resolve, invoke, builtin, hs, hx, hrun, Result.andThen]
    have hge := grownCap_ge w (n + m) n e
    have hle := grownCap_le_maxLen w (n + m) n e (by unfold maxLen; omega)
    refine h _ _ _ ⟨_, _, rfl, by simp; omega, hge, by unfold maxLen at hle; omega, fun h => by simp at h, fun _ => ⟨w.heap.size, 0, rfl, fun j hj => ?_⟩⟩ ((Below.refl _ w).drew.alloc (Nat.le_refl _) _)
    rw [Nat.zero_add]
    refine (cell_of_row _ w.heap.size j _ e _ (heap_alloc_last w.drew _)).trans ?_
    have e2 : il k xs ++ il k ys = il k (xs ++ ys) := (il_append k xs ys).symm
    rw [e2, Array.getElem?_append_left (by simp [il_length]; omega)]
    have := il_get k (xs ++ ys) j (by simp; omega)
    simpa using this
end Go.Proofs.YtgegbpnmfpjdmaaGreatDoor
namespace Go.Proofs.YtgegbpnmfpjdmaaGreatDoor
open Go.RowKit
set_option maxRecDepth 8000 in
theorem clone_any (v : Value) (len : Nat) (zs : List Int) (w : World) (hri : RI .u8 w v len zs) (hlen : (len : Int) ≤ 200000000000000) :
    Calls Tryz.prog 110 #[v] w fun e w' => ∃ v', e = .returned v' ∧ w'.ownsRow w.heap.size 5 1 v' len (il .u8 zs) ∧ Below w.heap.size w w' := by
  have HR := Lib.hid hri
  obtain ⟨a, cap, rfl, hl, hlc, _, hnil, _⟩ := hri
  cases a with
  | none =>
    obtain rfl : cap = 0 := hnil rfl
    obtain rfl : len = 0 := by omega
    obtain rfl : zs = [] := List.length_eq_zero_iff.1 hl
    have he : (binOp .eql 43 (.slice none 0 0) (.slice none 0 0)).run Tryz.prog w = .ok (.bool true) w := Lib.run_eql_slice_nil w _ _ none 0 0 0 0 Tryz.underlying43
    clear hl hlc hnil
    go_enter Tryz.func110, Tryz.ntmps110
    go_wp2
    go_ret
    exact ⟨_, rfl, World.ownsRow_nil _ _ _ _, Below.refl _ _⟩
  | some x =>
    have he : (binOp .eql 43 (.slice (some x) len cap) (.slice none 0 0)).run Tryz.prog w = .ok (.bool false) w := Lib.run_eql_slice_nil w _ _ (some x) len cap 0 0 Tryz.underlying43
    clear hl hnil
    go_enter Tryz.func110, Tryz.ntmps110
    go_wp2_with (first
      | (at_builtin; go_loud (refine wpl_appn rfl (.tmp 5) (.tmp 6) 43 rfl 5 .u8 1 Tryz.underlying43 Tryz.info_u8 w.heap.size _ 0 [] rfl (own_empty rfl (by omega)) _ len zs rfl (HR.out.keep ((Below.refl _ _).alloc (Nat.le_refl _) _)) (by omega) (by omega) w.heap.size w ((Below.refl _ _).alloc (Nat.le_refl _) _) (Nat.le_refl _) (by simp) ?_); intro v1 w4 HO1 HB1))
    go_ret
    have h5 := HO1.out
    rw [Nat.zero_add, List.nil_append] at h5
    exact ⟨_, rfl, h5, HB1.out⟩
end Go.Proofs.YtgegbpnmfpjdmaaGreatDoor
namespace Go.Proofs.YtgegbpnmfpjdmaaGreatDoor
open Go.RowKit
abbrev fA (k e : Int) (v : Value) : Array Value := #[.int .i64 k, .int .u32 e, v]
theorem fr_info (c : Array Value) (h : c.size = 3) : (Tryz.prog.info? 143).map (·.size) = some c.size := by rw [h]; kernel_rfl
theorem fr_one (k e : Int) (a : Option Addr) (n m : Nat) : (fA k e (.slice a n m)).all (·.oneCell') = true := by simp [fA, Value.oneCell']
def FO (w : World) (b : Nat) (k e : Int) (v : Value) : Prop := w.heap[b]? = some (.cells (fA k e v) 143 (0, 0))
section
variable {w w' : World} {b b' : Nat} {k e : Int} {v : Value}
theorem FO.lt (h : FO w b k e v) : b < w.heap.size := (Array.getElem?_eq_some_iff.1 h).1
theorem FO.keep (h : FO w b k e v) (hb : Below w.heap.size w w') : FO w' b k e v := (hb.block b h.lt).trans h
theorem FO.keepB {g : Nat} (h : FO w b k e v) (hb : Below g w w') (hlt : b < g) : FO w' b k e v := (hb.block b hlt).trans h
theorem FO.load (h : FO w b k e v) : (loadVar 143 ⟨b, 0, none⟩).run Tryz.prog w = .ok (.agg (fA k e v)) w :=
  run_loadVar_row w b _ 143 (fA k e v) (0, 0) _ h Tryz.underlying143 rfl (fr_info _ rfl)
theorem FO.row (h : FO w b k e v) (k' e' : Int) (v' : Value) : FO (w.setRow b (fA k' e' v')) b k' e' v' := setRow_heap w b _ _ _ _ h
theorem FO.apart (h : FO w b k e v) (hne : b ≠ b') (x : Array Value) : FO (w.setRow b' x) b k e v := (setRow_other w b' b x hne).trans h
theorem FO.set_apart (h : FO w b k e v) (hne : b ≠ b') (j : Nat) (x : Value) : FO (w.setCell ⟨b', j, none⟩ x) b k e v := (heap_setCell_other w ⟨b', j, none⟩ b x hne).trans h
theorem FO.frozen (h : FO w b k e v) (j : Nat) : w.frozen? ⟨b, j, none⟩ = false := Joins.unfrozen_of_block h j
theorem FO.cells (h : FO w b k e v) : w.cell? ⟨b, 0, none⟩ = some (.int .i64 k) ∧ w.cell? ⟨b, 1, none⟩ = some (.int .u32 e) ∧ w.cell? ⟨b, 2, none⟩ = some v :=
  ⟨cell_of_row w b 0 _ _ _ h, cell_of_row w b 1 _ _ _ h, cell_of_row w b 2 _ _ _ h⟩
theorem FO.alloc (w : World) : FO (w.alloc (.cells (fA k e v) 143)) w.heap.size k e v := heap_alloc_last w _
theorem FO.new (x : Array Value) : FO ((w.alloc (.cells x 143)).setRow w.heap.size (fA k e v)) w.heap.size k e v := setRow_heap _ _ _ _ _ _ (heap_alloc_last w _)
theorem FO.ne_own (h : FO w b k e v) {base n : Nat} {u : Value} {xs : List Value} (ho : w.ownsRow base 5 1 u n xs) : ∀ q, u.ownBlock = some q → q ≠ b := by
  intro q hq e
  subst e
  rcases ho.2 with ⟨rfl, _⟩ | ⟨q', cap, cur, rfl, _, hcur, _⟩
  · simp [Value.ownBlock] at hq
  · simp only [Value.ownBlock, Option.some.injEq] at hq
    subst hq
    rw [h] at hcur
    simp only [Option.some.injEq, Obj.cells.injEq] at hcur
    exact absurd hcur.2.1 (by decide)
theorem FO.grown (h : FO w b k e v) {base n : Nat} {u : Value} {xs : List Value} (ho : w.ownsRow base 5 1 u n xs) (hg : w.grownBy w' u.ownBlock) : FO w' b k e v :=
  (hg.block b h.lt (fun e => h.ne_own ho b e.symm rfl)).trans h
theorem wpl_load_fr {ops : Array Oper} {rest : List Oper} {o : Oper} {a : Act} {Q : Exit → Act → World → Prop} (hw : Region.wanted o (yielded ops a.tmps) = true) (x : Operand) (ho : o.op = .load 143 x) (hx : a.eval x = .pointer (some ⟨b, 0, none⟩)) (h : FO w b k e v)
    (hk : wpList Tryz.prog ops Q rest (a.put o.dst (.agg (fA k e v))) w) : wpList Tryz.prog ops Q (o :: rest) a w := by
  unfold wpList
  rw [if_pos hw]
  exact Or.inl (wp_load_row 143 x ho b hx _ (fA k e v) (0, 0) _ h Tryz.underlying143 rfl (fr_info _ rfl) hk)
end
theorem own_fin {w : World} {base : Nat} {e : TypeId} {v : Value} {n m : Nat} {xs ys : List Int} (h : w.ownsRow base e 1 v n (il .u8 xs)) (hx : xs = ys) (hm : ys.length = m) : w.ownsRow base e 1 v m (il .u8 ys) := by
  subst hx
  have h1 := h.1
  rw [il_length] at h1
  rw [show m = n from by omega]
  exact h
end Go.Proofs.YtgegbpnmfpjdmaaGreatDoor
namespace Go.Proofs.YtgegbpnmfpjdmaaGreatDoor
open Go.RowKit
abbrev eL (e : FR × Value) : List Value := [.int .i64 e.1.kind, .int .u32 e.1.epoch, e.2]
def eF (es : List (FR × Value)) : List Value := (es.map eL).flatten
theorem eF_length (l : List (FR × Value)) : (eF l).length = l.length * 3 := by
  have := flat_length 3 (l.map eL) (fun e he => by obtain ⟨o, _, rfl⟩ := List.mem_map.1 he; rfl)
  simpa [eF] using this
theorem eF_snoc (l : List (FR × Value)) (c : FR × Value) : eF (l ++ [c]) = eF l ++ eL c := by simp [eF]
theorem fr_info' : (Tryz.prog.info? 143).map (·.size) = some 3 := by kernel_rfl
theorem fr_parts : (Tryz.prog.info? 143).map (fun i => (i.zero, i.size, i.bytes)) = some (some (.agg #[.int .i64 0, .int .u32 0, .slice none 0 0]), 3, 40) := by kernel_rfl
structure FL (base : Nat) (w : World) (v : Value) (m : Nat) (es : List (FR × Value)) : Prop where
  row : w.ownsRow base 143 3 v m (eF es)
  data : ∀ e ∈ es, w.ownsRow base 5 1 e.2 e.1.data.length (il .u8 e.1.data)
section
variable {base : Nat} {w w' : World} {v v' : Value} {m : Nat} {es : List (FR × Value)}
theorem FL.nil (base : Nat) (w : World) : FL base w (.slice none 0 0) 0 [] := ⟨World.ownsRow_nil _ _ _ _, fun e he => by simp at he⟩
theorem FL.keep (h : FL base w v m es) (hb : Below w.heap.size w w') : FL base w' v m es := ⟨own_keep h.row hb, fun e he => own_keep (h.data e he) hb⟩
theorem FL.len (h : FL base w v m es) : es.length = m := by have := h.row.1; rw [eF_length] at this; omega
theorem FL.other (h : FL base w v m es) (hg : w.grownBy w' v.ownBlock) {t : TypeId} {k n base' : Nat} {u : Value} {xs : List Value} (ho : w.ownsRow base' t k u n xs) (ht : t ≠ 143) : w'.ownsRow base' t k u n xs :=
  own_over ho hg (own_types ho h.row ht)
theorem FL.blk (h : FL base w v m es) (hg : w.grownBy w' v.ownBlock) {g : Nat} {c : Array Value} {t : TypeId} (hk : w.heap[g]? = some (.cells c t (0, 0))) (ht : t ≠ 143) : w'.heap[g]? = some (.cells c t (0, 0)) := by
  refine (hg.block g (Array.getElem?_eq_some_iff.1 hk).1 (fun e => ?_)).trans hk
  rcases h.row.2 with ⟨rfl, _⟩ | ⟨q, cap, cur, rfl, _, hcur, _⟩
  · simp [Value.ownBlock] at e
  · simp only [Value.ownBlock, Option.some.injEq] at e
    subst e
    rw [hk] at hcur
    simp only [Option.some.injEq, Obj.cells.injEq] at hcur
    exact ht hcur.2.1
theorem FL.snoc (h : FL base w v m es) (hg : w.grownBy w' v.ownBlock) (e : FR × Value) (hd : w.ownsRow base 5 1 e.2 e.1.data.length (il .u8 e.1.data)) (ho : w'.ownsRow base 143 3 v' (m + 1) (eF (es ++ [e]))) : FL base w' v' (m + 1) (es ++ [e]) :=
  ⟨ho, fun x hx => by
    rcases List.mem_append.1 hx with hx | hx
    · exact h.other hg (h.data x hx) (by decide)
    · obtain rfl : x = e := by simpa using hx
      exact h.other hg hd (by decide)⟩
theorem FL.at_ {a : Option Addr} {cap : Nat} (h : FL base w (.slice a m cap) m es) (i : Nat) (e : FR × Value) (he : es[i]? = some e) : ∃ b off, a = some ⟨b, off, none⟩ ∧ w.rangeAt b (off + i * 3) (eL e) := by
  have hi := (List.getElem?_eq_some_iff.1 he).1
  have hl := h.len
  have hcs : CS 3 w (.slice a m cap) m (eF es) := CS.own h.row
  obtain ⟨b, off, rfl, hc⟩ := CS.at_ hcs i (by omega)
  refine ⟨b, off, rfl, fun j v hv => ?_⟩
  have hj : j < 3 := (List.getElem?_eq_some_iff.1 hv).1
  have h7 := flat_get 3 (es.map eL) i j (fun e he => by obtain ⟨o, _, rfl⟩ := List.mem_map.1 he; rfl) hj (eL e) (by simp [he])
  exact ((hc j hj).trans h7).trans hv
theorem exec_load_el {a : Act} {o : Oper} {b off : Nat} {e : FR × Value} (x : Operand) (ho : o.op = .load 143 x) (hx : a.eval x = .pointer (some ⟨b, off, none⟩)) (h : w.rangeAt b off (eL e)) :
    (execOp a.eval o).run Tryz.prog w = .ok (.value (.agg (fA e.1.kind e.1.epoch e.2))) w := by
  unfold execOp
  simp only [ho, hx, Instr.loadAt, Instr.sureAddr, Sem.run_bind, Sem.run_pure, Result.andThen_ok, run_loadVar_mid w b off 143 (eL e) _ h Tryz.underlying143 rfl fr_info']
theorem wp_app_fr {o : Oper} {a : Act} {Q : Exit → Act → World → Prop} {K : Act → World → Prop} (s x : Operand)
    (ho : o.op = .call { callee := .builtin .append, args := #[s, x], argTypes := #[138, 138] })
    (hs : a.eval s = v) (hfl : FL base w v m es) (g : Nat) (e : FR × Value) (n cap : Nat) (p : Option Addr) (hv : e.2 = .slice p n cap) (hx : a.eval x = .slice (some ⟨g, 0, none⟩) 1 1) (hblk : w.heap[g]? = some (.cells (eL e).toArray 143 (0, 0)))
    (hd : w.ownsRow base 5 1 e.2 e.1.data.length (il .u8 e.1.data)) (hm : m ≤ 1000000) (hbase : base ≤ w.heap.size)
    (h : ∀ v' w', Hid (FL base w' v' (m + 1) (es ++ [e])) → Hid (w.grownBy w' v.ownBlock) → K (a.put o.dst v') w') : Oper.wp Tryz.prog o a w K Q := by
  obtain ⟨i, hi, hz0, hz1, hz2⟩ := info_parts fr_parts
  refine wp_append_own_wide w s x 138 ho base 143 i _ 3 40 Tryz.underlying138 hi hz0 hz1 hz2 rfl (by omega) v m (eF es) hs hfl.row ⟨g, 0, none⟩ 1 1 (eL e) hx (by simp) ?_ (by simp [Value.oneCell', hv]) (by unfold maxLen; omega) (by omega) hbase ?_
  · intro j u hj
    have hc : w.cell? ⟨g, j, none⟩ = some u := by rw [cell_of_row _ g j _ _ _ hblk]; simpa using hj
    by_cases h0 : j = 0
    · subst h0; simpa [Addr.add] using hc
    · simpa [Addr.add, h0] using hc
  · intro v' w' h1 h2 _
    exact h v' w' (hfl.snoc h2 e hd (by rw [eF_snoc]; exact h1)) h2
end
end Go.Proofs.YtgegbpnmfpjdmaaGreatDoor
namespace Go.Proofs.YtgegbpnmfpjdmaaGreatDoor
open Go.RowKit
def YB (w : World) (g : Nat) (zs : List Int) : Prop := w.heap[g]? = some (.cells (il .u8 zs).toArray 5 (0, 0))
theorem YB.keep {w w' : World} {g : Nat} {zs : List Int} (h : YB w g zs) (hb : Below w.heap.size w w') : YB w' g zs := by
  unfold YB at *; rw [hb.block g (Array.getElem?_eq_some_iff.1 h).1]; exact h
theorem YB.over {w w' : World} {g g2 : Nat} {zs : List Int} (h : YB w g zs) (hg : w.grownBy w' (some g2)) (hne : g ≠ g2) : YB w' g zs := by
  unfold YB at *; rw [hg.block g (Array.getElem?_eq_some_iff.1 h).1 (fun e => hne (Option.some.inj e))]; exact h
theorem YB.ri {w : World} {g n : Nat} {zs : List Int} (h : YB w g zs) (hz : zs.length = n) (hn : n ≤ 1000000) : RI .u8 w (.slice (some ⟨g, 0, none⟩) n n) n zs := by
  refine ⟨_, n, rfl, hz, Nat.le_refl _, by omega, fun h => by simp at h, fun _ => ⟨g, 0, rfl, fun j hj => ?_⟩⟩
  rw [Nat.zero_add, cell_of_row w g j _ _ _ h]
  simpa using il_get .u8 zs j (by omega)
theorem below_grown {w0 w w' : World} {B g : Nat} (h : Below B w0 w) (hg : w.grownBy w' (some g)) (hB : B ≤ g) (h0 : B ≤ w.heap.size) : Below B w0 w' :=
  h.grown hg h0 (fun q hq => by obtain rfl := Option.some.inj hq; exact hB)
theorem make_bytes_run (k : Nat) (hk : (k : Int) ≤ 1000000000) (w : World) :
    (Instr.makeSlice 43 (.int .i64 (k : Int)) (.int .i64 (k : Int))).run Tryz.prog w = .ok (.slice (some ⟨w.heap.size, 0, none⟩) k k) (w.alloc (.cells (il .u8 (List.replicate k 0)).toArray 5)) := by
  obtain ⟨i, hi, hz0, hz1, hz2⟩ := info_parts Tryz.info_u8
  have h := run_make (P := Tryz.prog) w 43 5 i _ Tryz.underlying43 hi hz0 .i64 .i64 k k (by omega) (by omega) (by rw [hz2]; omega) (by omega)
  simp only [Int.toNat_natCast, hz1, Nat.mul_one] at h
  rw [h]
  have : madeCells (Value.int .u8 0).cells k = (il .u8 (List.replicate k 0)).toArray := by
    rw [show (Value.int .u8 0).cells = #[.int .u8 0] from rfl, ← Array.toList_inj, toList_madeCells_one]
    simp [il]
  rw [this]
theorem make_row_run (k : Nat) (hk : (k : Int) ≤ 1000000000) (w : World) :
    (Instr.makeSlice 48 (.int .i64 (k : Int)) (.int .i64 (k : Int))).run Tryz.prog w = .ok (.slice (some ⟨w.heap.size, 0, none⟩) k k) (w.alloc (.cells (il .u8 (List.replicate (k * 64) 0)).toArray 60)) := by
  obtain ⟨i, hi, hz0, hz1, hz2⟩ := info_parts sec_parts
  have h := run_make (P := Tryz.prog) w 48 60 i _ Tryz.underlying48 hi hz0 .i64 .i64 k k (by omega) (by omega) (by rw [hz2]; omega) (by omega)
  simp only [Int.toNat_natCast, hz1] at h
  rw [h]
  have : madeCells (Value.agg (sv z64)).cells (k * 64) = (il .u8 (List.replicate (k * 64) 0)).toArray := by
    rw [← Array.toList_inj, made_secs]
  rw [this]
theorem setRow_at {w : World} {g : Nat} {C : Array Value} {t : TypeId} (h : w.heap[g]? = some (.cells C t (0, 0))) (C' : Array Value) : (w.setRow g C').heap[g]? = some (.cells C' t (0, 0)) := setRow_heap w g C C' _ _ h
theorem grown_row (w : World) (g : Nat) (cs : Array Value) : w.grownBy (w.setRow g cs) (some g) :=
  ⟨rfl, rfl, rfl, by simp, fun i _ hne => setRow_other w g i cs (fun e => hne (by rw [e]))⟩
theorem wpl_copy_yb {ops : Array Oper} {rest : List Oper} {o : Oper} {a : Act} {w : World} {Q : Exit → Act → World → Prop} (hgd : o.guard = none) (d s : Operand)
    (ho : o.op = .call { callee := .builtin .copy, args := #[d, s], argTypes := #[43, 43] }) (g off dLen dCap : Nat) (cur : List Int) (hblk : YB w g cur)
    (hd : a.eval d = .slice (some ⟨g, off, none⟩) dLen dCap) (v : Value) (n : Nat) (zs : List Int) (hs : a.eval s = v) (hri : RI .u8 w v n zs) (hnd : n ≤ dLen) (hfit : off + dLen ≤ cur.length)
    (h : ∀ w', Hid (YB w' g (splice cur off zs)) → Hid (w.grownBy w' (some g)) → wpList Tryz.prog ops Q rest (a.put o.dst (goInt (n : Int))) w') : wpList Tryz.prog ops Q (o :: rest) a w := by
  obtain ⟨sp, sCap, rfl, hl, _, _, _, hc⟩ := hri
  have hcl : (il .u8 zs).length = n := by rw [il_length, hl]
  have hmin : Nat.min n dLen = n := Nat.min_eq_left hnd
  by_cases h0 : n = 0
  · subst h0
    obtain rfl : zs = [] := List.eq_nil_of_length_eq_zero hl
    refine wpList_copy_nothing hgd d s 43 43 ho 5 Tryz.underlying43 u8_size1 (some ⟨g, off, none⟩) sp dLen dCap 0 sCap hd hs hmin ?_
    exact h w (Lib.hid (by simpa [splice] using hblk)) (grown_refl _ _)
  · obtain ⟨b, of2, rfl, hcell⟩ := hc (by omega)
    refine wpList_copy_own hgd d s 43 43 ho 5 Tryz.underlying43 u8_size1 g off dLen dCap ⟨b, of2, none⟩ n sCap hd hs (il .u8 cur).toArray 5 hblk (il .u8 zs) (by rw [hcl, hmin]) ?_ (by rw [hcl]; simp [il_length]; omega) (il_one _ _) ?_
    · intro j u hj
      have hjl : j < zs.length := by have := (List.getElem?_eq_some_iff.1 hj).1; rwa [il_length] at this
      rw [il_get _ _ _ hjl] at hj
      rw [Addr.add_mid, hcell j (by omega)]; exact hj
    · rw [hcl]
      refine h _ (Lib.hid ?_) (grown_row _ _ _)
      unfold YB
      rw [← il_splice]
      have := setRow_at hblk ((il .u8 cur).toArray.toList.take off ++ (il .u8 zs ++ (il .u8 cur).toArray.toList.drop (off + n))).toArray
      simpa [splice, hcl] using this
end Go.Proofs.YtgegbpnmfpjdmaaGreatDoor
