/-
  TEXTS JOINED: CutList, ImgPad, ImgYb, CutRef, ImgRefA, PlanRef, PlanRefWh. Each one's own words stand at its head.
-/
import Derived.Test.YtnmplnemnfonfaaGreatDoorJ21
import Derived.Test.YtnmplnemnfonfaaGreatDoorJ0
import Derived.Test.YtnmplnemnfonfaaGreatDoorJ1
import Derived.Deep.MidRow
import Derived.Laws.StructEq
import Derived.Test.YtnmplnemnfonfaaGreatDoorJ23
import Derived.Test.YtnmplnemnfonfaaGreatDoorJ15
import Derived.Deep.AppendLies
import Derived.Test.YtnmplnemnfonfaaGreatDoorJ12
import Derived.Test.YtnmplnemnfonfaaGreatDoorJ14
import Derived.Test.YtnmplnemnfonfaaGreatDoorJ16
import Derived.Test.YtnmplnemnfonfaaGreatDoorJ3
namespace Go.Proofs.YtnmplnemnfonfaaGreatDoor
open Go.RowKit
abbrev pL (p : PC) : List Value := [.int .i64 p.at_, .int .i64 p.kind, .int .i64 p.from_, .int .i64 p.to]
def pF (l : List PC) : List Value := (l.map pL).flatten
theorem pF_length (l : List PC) : (pF l).length = l.length * 4 := by
  have := flat_length 4 (l.map pL) (fun e he => by obtain ⟨o, _, rfl⟩ := List.mem_map.1 he; rfl)
  simpa [pF] using this
theorem pF_snoc (l : List PC) (c : PC) : pF (l ++ [c]) = pF l ++ pL c := by simp [pF]
def PS (w : World) (v : Value) (l : List PC) : Prop := CS 4 w v l.length (pF l)
theorem PS.kin {w w' : World} (hb : Kin w w') {v : Value} {l : List PC} (h : PS w v l) : PS w' v l := CS.kin hb h
theorem PS.keep {w w' : World} {v : Value} {l : List PC} (h : PS w v l) (hb : Below w.heap.size w w') : PS w' v l := h.kin (Kin.below hb)
theorem PS.form {w : World} {v : Value} {l : List PC} (h : PS w v l) : ∃ a cap, v = .slice a l.length cap ∧ l.length ≤ cap ∧ cap ≤ 9223372036854775807 ∧ (a = none → cap = 0) := CS.form h
theorem PS.at_ {w : World} {a : Option Addr} {n cap : Nat} {l : List PC} (h : PS w (.slice a n cap) l) (i : Nat) (o : PC) (ho : l[i]? = some o) :
    ∃ b off, a = some ⟨b, off, none⟩ ∧ w.rangeAt b (off + i * 4) (pL o) := by
  obtain ⟨hi, _⟩ := List.getElem?_eq_some_iff.1 ho
  have hn : n = l.length := by obtain ⟨_, _, hv, _⟩ := id h; simp at hv; exact hv.2.1
  subst hn
  obtain ⟨b, off, rfl, hc⟩ := CS.at_ h i hi
  refine ⟨b, off, rfl, fun j v hv => ?_⟩
  have hj : j < 4 := (List.getElem?_eq_some_iff.1 hv).1
  have h7 := flat_get 4 (l.map pL) i j (fun e he => by obtain ⟨o, _, rfl⟩ := List.mem_map.1 he; rfl) hj (pL o) (by simp [ho])
  exact ((hc j hj).trans h7).trans hv
theorem PS.own {w : World} {base : Nat} {e : TypeId} {v : Value} {l : List PC} (h : w.ownsRow base e 4 v l.length (pF l)) : PS w v l := CS.own h
theorem PS.nil (w : World) : PS w (.slice none 0 0) [] := ⟨none, 0, rfl, rfl, Nat.le_refl _, by omega, fun _ => rfl, fun h => absurd h (by simp)⟩
theorem pc_cells {w : World} {b o : Nat} {c : PC} (h : w.rangeAt b o (pL c)) : w.cell? ⟨b, o, none⟩ = some (.int .i64 c.at_) ∧ w.cell? ⟨b, o + 1, none⟩ = some (.int .i64 c.kind) ∧ w.cell? ⟨b, o + 2, none⟩ = some (.int .i64 c.from_) ∧ w.cell? ⟨b, o + 3, none⟩ = some (.int .i64 c.to) :=
  ⟨h 0 _ rfl, h 1 _ rfl, h 2 _ rfl, h 3 _ rfl⟩
theorem pc_parts : (Tryz.prog.info? 128).map (fun i => (i.zero, i.size, i.bytes)) = some (some (.agg #[.int .i64 0, .int .i64 0, .int .i64 0, .int .i64 0]), 4, 32) := by kernel_rfl
section
variable {w : World} {ops : Array Oper} {rest : List Oper} {o : Oper} {a : Act} {Q : Exit → Act → World → Prop}
theorem blk_news {g : Nat} {c : PC} (hblk : w.heap[g]? = some (.cells (pL c).toArray 128 (0, 0))) (j : Nat) (u : Value) (hj : (pL c)[j]? = some u) : w.cell? ((⟨g, 0, none⟩ : Addr).add j) = some u := by
  have hc : w.cell? ⟨g, j, none⟩ = some u := by rw [cell_of_row _ g j _ _ _ hblk]; simpa using hj
  by_cases h0 : j = 0
  · subst h0; simpa [Addr.add] using hc
  · simpa [Addr.add, h0] using hc
theorem wpl_app_pc (hgd : o.guard = none) (s x : Operand)
    (ho : o.op = .call { callee := .builtin .append, args := #[s, x], argTypes := #[123, 123] })
    (base : Nat) (v : Value) (n : Nat) (l : List PC) (hs : a.eval s = v) (hown : Hid (w.ownsRow base 128 4 v n (pF l)))
    (g : Nat) (c : PC) (hx : a.eval x = .slice (some ⟨g, 0, none⟩) 1 1) (hblk : w.heap[g]? = some (.cells (pL c).toArray 128 (0, 0))) (hn : n ≤ 1000000)
    (B : Nat) (W : World) (hb : Hid (Below B W w)) (hB : B ≤ base) (hbase : base ≤ w.heap.size)
    (h : ∀ v' w', Hid (w'.ownsRow base 128 4 v' (n + 1) (pF (l ++ [c]))) → Hid (Below B W w') → Hid (w.grownBy w' v.ownBlock) → wpList Tryz.prog ops Q rest (a.put o.dst v') w') : wpList Tryz.prog ops Q (o :: rest) a w := by
  obtain ⟨i, hi, hz0, hz1, hz2⟩ := info_parts pc_parts
  refine wpList_append_own_wide w hgd s x 123 ho base 128 i _ 4 32 Tryz.underlying123 hi hz0 hz1 hz2 rfl (by omega) v n (pF l) hs hown.out ⟨g, 0, none⟩ 1 1 (pL c) hx (by simp) (blk_news hblk) (by simp [Value.oneCell']) (by unfold maxLen; omega) (by omega) hbase ?_
  intro v' w' h1 h2 _
  exact h v' w' (by rw [pF_snoc]; exact h1) (hb.out.grown h2 (by omega) (fun q hq => by have := (hown.out.lt q hq).1; omega)) h2
end
end Go.Proofs.YtnmplnemnfonfaaGreatDoor
namespace Go.Proofs.YtnmplnemnfonfaaGreatDoor
open Go.RowKit
theorem grown_below {w w' : World} {g : Nat} (h : Below w.heap.size w w') : w.grownBy w' (some g) := ⟨h.os, h.tape, h.output, h.size, fun k hk _ => h.block k hk⟩
theorem grown_chain {a b c : World} {g : Nat} (h : a.grownBy b (some g)) (k : Below b.heap.size b c) : a.grownBy c (some g) := grown_trans h (grown_below k)
theorem u32_wrap (x : Int) : IntKind.u32.wrap x = x % 4294967296 := by simp [IntKind.wrap, IntKind.signed, IntKind.bits]
theorem YB.lt {w : World} {g : Nat} {zs : List Int} (h : YB w g zs) : g < w.heap.size := (Array.getElem?_eq_some_iff.1 h).1
def pad8 (zs : List Int) : List Int := splice z832 0 (zs.take 832)
theorem z832_len : z832.length = 832 := List.length_replicate
theorem pad8_len (zs : List Int) : (pad8 zs).length = 832 := by
  unfold pad8
  rw [splice_len _ _ _ (by rw [z832_len, List.length_take]; omega), z832_len]
theorem pad8_full {zs : List Int} (h : zs.length = 832) : pad8 zs = zs := by
  unfold pad8 splice
  rw [List.take_of_length_le (l := zs) (by omega), h, List.drop_eq_nil_of_le (by rw [z832_len]; omega), List.take_zero, List.nil_append, List.append_nil]
theorem PS.over {w w' : World} {base : Nat} {v : Value} {ps : List PC} (h : w.ownsRow base 128 4 v ps.length (pF ps)) {g : Nat} (hg : w.grownBy w' (some g)) (hne : ∀ q, v.ownBlock = some q → q ≠ g) : PS w' v ps :=
  PS.own (own_over h hg (fun q hq e => hne q hq (Option.some.inj e)))
end Go.Proofs.YtnmplnemnfonfaaGreatDoor
namespace Go.Proofs.YtnmplnemnfonfaaGreatDoor
open Go.RowKit
theorem wpl_mk_yb {w : World} {ops : Array Oper} {rest : List Oper} {o : Oper} {a : Act} {Q : Exit → Act → World → Prop} (hgd : o.guard = none) (x y : Operand) (ho : o.op = Op.makeSlice 49 x y) (n : Nat) (hx : a.eval x = .int .i64 (n : Int)) (hy : a.eval y = .int .i64 (n : Int)) (hn : n ≤ 1000000)
    (h : ∀ g w', Hid (YB w' g (List.replicate n 0)) → Hid (w.heap.size ≤ g) → Hid (Below w.heap.size w w') → wpList Tryz.prog ops Q rest (a.put o.dst (.slice (some ⟨g, 0, none⟩) n n)) w') : wpList Tryz.prog ops Q (o :: rest) a w := by
  refine wpList_plain hgd fun K hK => ?_
  have hrun := make_bytes_run n (by omega) w
  unfold Oper.wp
  simp [execOp, ho, hx, hy, hrun, Result.andThen]
  exact hK _ _ (h _ _ (heap_alloc_last w _) (Nat.le_refl _) (below_alloc w _))
theorem YB.stored {w : World} {g : Nat} {zs : List Int} (h : YB w g zs) (j : Nat) (z : Int) : YB (w.setCell ⟨g, j, none⟩ (.int .u8 z)) g (zs.set j z) := by
  unfold YB at *
  have := Joins.block_setCell (i := j) h (.int .u8 z)
  simpa [il, List.map_set] using this
theorem YB.cell {w : World} {g : Nat} {zs : List Int} (h : YB w g zs) (j : Nat) (hj : j < zs.length) : w.cell? ⟨g, j, none⟩ = some (.int .u8 (zs.getD j 0)) := by
  rw [cell_of_row w g j _ _ _ h]
  simpa using il_get .u8 zs j hj
theorem YB.frozen {w : World} {g : Nat} {zs : List Int} (h : YB w g zs) (j : Nat) : w.frozen? ⟨g, j, none⟩ = false := Joins.unfrozen_of_block h j
theorem il_splice1 (zs : List Int) (i : Nat) (b : Int) (hi : i < zs.length) : splice (il .u8 zs) i [Value.int .u8 b] = il .u8 (zs.set i b) := by
  refine List.ext_getElem? fun q => ?_
  rw [splice_get _ _ _ (by rw [il_length]; simp; omega)]
  unfold il
  rw [List.map_set]
  by_cases h3 : q < i
  · rw [if_pos h3, List.getElem?_set_ne (by omega)]
  · rw [if_neg h3]
    by_cases h4 : q = i
    · subst h4
      rw [if_pos (by simp), List.getElem?_set_self (by simpa using hi), Nat.sub_self]; rfl
    · rw [if_neg (by simp; omega), List.getElem?_set_ne (by omega)]
theorem yb_store_run {w : World} {g i : Nat} {zs : List Int} (b : Int) (h : YB w g zs) (hi : i < zs.length) : (storeVar 5 ⟨g, i, none⟩ (.int .u8 b)).run Tryz.prog w = .ok () (w.setCells g i [.int .u8 b]) := by
  have hc := h.cell i hi
  have := run_storeCells_cells (P := Tryz.prog) g i [Value.int .u8 b] 0 w (fun j hj => by simp at hj; subst hj; simp [hc]) (fun j hj => Joins.unfrozen_of_block h _) (fun u hu => by simp at hu; subst hu; rfl)
  obtain ⟨n, hn, hs⟩ := Option.map_eq_some_iff.1 u8_size1
  simp only [Nat.add_zero] at this
  simp [storeVar, sizeOf, typeInfo, hn, show (Value.int .u8 b).cells = #[.int .u8 b] from rfl, hs, this]
theorem wp_put_yb {w : World} {o : Oper} {a : Act} {K : Act → World → Prop} {Q : Exit → Act → World → Prop} (x y : Operand) (ho : o.op = .store 5 x y)
    (g i : Nat) (zs : List Int) (b : Int) (h : YB w g zs) (hi : i < zs.length) (hx : a.eval x = .pointer (some ⟨g, i, none⟩)) (hy : a.eval y = .int .u8 b)
    (hK : ∀ w', Hid (YB w' g (zs.set i b)) → Hid (w.grownBy w' (some g)) → K (a.put o.dst undef) w') : Oper.wp Tryz.prog o a w K Q := by
  unfold Oper.wp execOp
  simp only [ho, hx, hy, Instr.storeAt, Instr.sureAddr, Sem.run_bind, Sem.run_pure, Result.andThen_ok, yb_store_run b h hi]
  refine hK _ ?_ (grown_setCells _ _ _ _)
  unfold YB
  have h1 := heap_setCells g 5 (0, 0) [Value.int .u8 b] i w (il .u8 zs) (by rw [il_length]; simp; omega) h
  rwa [il_splice1 _ _ _ hi] at h1
theorem wpl_put_yb {w : World} {ops : Array Oper} {rest : List Oper} {o : Oper} {a : Act} {Q : Exit → Act → World → Prop} (hgd : o.guard = none) (x y : Operand) (ho : o.op = .store 5 x y)
    (g i : Nat) (zs : List Int) (b : Int) (h : YB w g zs) (hi : i < zs.length) (hx : a.eval x = .pointer (some ⟨g, i, none⟩)) (hy : a.eval y = .int .u8 b)
    (hK : ∀ w', Hid (YB w' g (zs.set i b)) → Hid (w.grownBy w' (some g)) → wpList Tryz.prog ops Q rest (a.put o.dst undef) w') : wpList Tryz.prog ops Q (o :: rest) a w :=
  wpList_plain hgd fun _ hk => wp_put_yb x y ho g i zs b h hi hx hy fun w' h1 h2 => hk _ _ (hK w' h1 h2)
theorem splice_set (L cs : List Int) (off k : Nat) (hk : k < cs.length) (hf : off + cs.length ≤ L.length) : (splice L off (cs.take k)).set (off + k) (cs.getD k 0) = splice L off (cs.take (k + 1)) := by
  refine List.ext_getElem? fun q => ?_
  have h1 : (cs.take k).length = k := by rw [List.length_take]; omega
  have h2 : (cs.take (k + 1)).length = k + 1 := by rw [List.length_take]; omega
  have hl : (splice L off (cs.take k)).length = L.length := by unfold splice; simp; omega
  rw [splice_get _ _ _ (by omega), h2]
  by_cases e : q = off + k
  · subst e
    rw [List.getElem?_set_self (by omega), if_neg (by omega), if_pos (by omega), Nat.add_sub_cancel_left]
    simp [List.getD, hk]
  · rw [List.getElem?_set_ne (Ne.symm e), splice_get _ _ _ (by omega), h1]
    by_cases h3 : q < off
    · rw [if_pos h3, if_pos h3]
    · rw [if_neg h3, if_neg h3]
      by_cases h4 : q < off + k
      · rw [if_pos h4, if_pos (by omega), List.getElem?_take, List.getElem?_take, if_pos (by omega), if_pos (by omega)]
      · rw [if_neg h4, if_neg (by omega)]
end Go.Proofs.YtnmplnemnfonfaaGreatDoor
namespace Go.Proofs.YtnmplnemnfonfaaGreatDoor
open Go.RowKit
theorem pF_cons (c : PC) (l : List PC) : pF (c :: l) = pL c ++ pF l := by simp [pF]
theorem pF_set : ∀ (l : List PC) (i : Nat) (c : PC), l[i]? = some c → ∀ k : Int, (pF l).set (i * 4 + 1) (.int .i64 k) = pF (l.set i { c with kind := k })
  | [], i, c, h, k => by simp at h
  | x :: r, 0, c, h, k => by
    simp at h; subst h
    rw [List.set_cons_zero, pF_cons, pF_cons]; rfl
  | x :: r, i + 1, c, h, k => by
    rw [List.set_cons_succ, pF_cons, pF_cons, ← pF_set r i c (by simpa using h) k, show (i + 1) * 4 + 1 = (i * 4 + 1) + 4 from by omega]
    rfl
theorem own_kind {w : World} {base g n cap : Nat} {l : List PC} (h : w.ownsRow base 128 4 (.slice (some ⟨g, 0, none⟩) n cap) n (pF l)) (i : Nat) (c : PC) (hc : l[i]? = some c) (k : Int) (o : Nat) (ho : o = i * 4 + 1) :
    (w.setCell ⟨g, o, none⟩ (.int .i64 k)).ownsRow base 128 4 (.slice (some ⟨g, 0, none⟩) n cap) n (pF (l.set i { c with kind := k })) := by
  subst ho
  have := (h.stored (i * 4 + 1) (.int .i64 k)).1
  rwa [pF_set l i c hc k] at this
theorem own_there {w : World} {base g n cap : Nat} {l : List PC} (h : w.ownsRow base 128 4 (.slice (some ⟨g, 0, none⟩) n cap) n (pF l)) (i : Nat) (c : PC) (hc : l[i]? = some c) (o : Nat) (ho : o = i * 4 + 1) : w.cell? ⟨g, o, none⟩ = some (.int .i64 c.kind) ∧ w.frozen? ⟨g, o, none⟩ = false := by
  subst ho
  refine ⟨?_, h.frozenAt _⟩
  have hl := (List.getElem?_eq_some_iff.1 hc).1
  have hn := h.1
  rw [pF_length] at hn
  rw [h.cellAt (i * 4 + 1) (by omega)]
  unfold pF
  rw [flat_get 4 (l.map pL) i 1 (fun e he => by obtain ⟨o, _, rfl⟩ := List.mem_map.1 he; rfl) (by omega) (pL c) (by simp [hc])]
  rfl
set_option maxRecDepth 8000 in
theorem rcut_neg (x n : Int) (hn : n < 0) (w : World) : Calls Tryz.prog 61 #[.int .i64 x, .int .i64 n] w fun e w' => e = .returned (.tuple #[.slice none 0 0, .int .i64 0, .bool false]) ∧ w' = w := by
  go_enter Tryz.func61, Tryz.ntmps61
  go_wp2
  go_ret3
  exact ⟨rfl, rfl⟩
set_option maxRecDepth 8000 in
set_option maxHeartbeats 4000000 in
theorem rcut_nat (x : Int) (n : Nat) (hx : I63 x) (hn : (n : Int) ≤ 9223372036854775807) (w : World) : Calls Tryz.prog 61 #[.int .i64 x, .int .i64 (n : Int)] w fun e w' =>
    ∃ v, e = .returned (.tuple #[v, .int .i64 (endI x n : Int), .bool (fitI x n)]) ∧ w'.ownsRow w.heap.size 128 4 v (pcsI x n).length (pF (pcsI x n)) ∧ Below w.heap.size w w' := by
  have HX := Lib.hid hx
  obtain ⟨a, ha⟩ : ∃ a, nr x = a := ⟨_, rfl⟩
  have HAX := Lib.hid ha
  have HA : Hid (a ≤ 832) := Lib.hid (by rw [← ha]; exact nr_le x)
  have HNO : Hid (¬ Fit a n → fitI x n = false ∧ pcsI x n = [] ∧ endI x n = 0) := Lib.hid (fun h => by
    have h1 : fitI x n = false := by
      cases hq : fitI x n with
      | false => rfl
      | true => exact absurd ((fit_nat x n).1 hq) (by rw [ha]; exact h)
    exact ⟨h1, told_no h1⟩)
  have HYES : Hid (∀ m, Run a n m → 0 < m → fS a n m = n → Cuts a n m ∧ fitI x n = true ∧ pcsI x n = firstP a n m ∧ endI x n = pS a n m) := Lib.hid (fun m hr h0 hm => by
    have h1 := hr.end_ HA.out h0 hm
    have hc := cuts_cnt HA.out h1.1
    rw [h1.2] at hc
    have := told_yes (a := x) (n := n) (m := m) (by rw [ha]; exact hc) (by rw [ha]; exact h1.1)
    rw [ha] at this
    exact ⟨hc, this⟩)
  generalize fitI x n = fit at *
  generalize pcsI x n = pcs at *
  generalize endI x n = en at *
  have hn0 : 0 ≤ (n : Int) := by omega
  clear hx ha
  go_enter Tryz.func61, Tryz.ntmps61
  go_wp2
  go_loopw [0, 7, 8] (fun av ov fv wr => ∃ (i : Nat) (p : Int) (va : Option Addr) (vc f : Nat), av = .int .i64 p ∧ ov = .slice va i vc ∧ fv = .int .i64 (f : Int) ∧ f ≤ n ∧ i ≤ 100 ∧ Hid (I63 p ∧ nr p = pS a n i ∧ Run a n i ∧ fS a n i = f ∧ (i = 0 ∨ p = (pS a n i : Int))) ∧ Hid (wr.ownsRow w.heap.size 128 4 (.slice va i vc) i (pF (firstR a n i))) ∧ Hid (Below w.heap.size w wr)) (fun av _ _ _ => (832 - intOf av).toNat)
  case atStart => exact ⟨0, x, none, 0, 0, rfl, rfl, rfl, by omega, by omega, Lib.hid ⟨HX.out, HAX.out, Run.zero HA.out, rfl, .inl rfl⟩, Lib.hid (World.ownsRow_nil _ _ _ _), Lib.hid (Below.refl _ _)⟩
  case round =>
    obtain ⟨i, p, va, vc, f, rfl, rfl, rfl, hfn, hi100, HR, HO, HB⟩ := hrel
    obtain ⟨hp, hpn, hr, hf, hpe⟩ := HR.out
    by_cases hend : (i : Int) = 0 ∨ (f : Int) < (n : Int)
    · have hi : i = 0 ∨ fS a n i < n := by rw [hf]; omega
      have HIT : Hid (i = 0 ∨ fS a n i < n) := Lib.hid hi
      have hbl := hr.begin_le
      have H1 : Hid (∀ w, Calls Tryz.prog 33 #[.int .i64 p] w fun e w' => e = .returned (.int .i64 (bS a n i : Int)) ∧ w = w') := fun w => by
        have := rbegin_any p hp w; rw [hpn] at this; exact this.mono fun _ _ ⟨q1, q2⟩ => ⟨q1, q2.symm⟩
      by_cases h8 : bS a n i = 832
      · have HS := Lib.hid (hr.stop hi h8)
        rw [h8] at H1
        clear hbl h8 hp hpn hr hf hi hpe
        rcases (by omega : (i : Int) = 0 ∨ (¬ (i : Int) = 0 ∧ (f : Int) < (n : Int))) with h0 | ⟨h0, hlt⟩
        all_goals
          clear hend
          go_wp2_with (first
            | (go_at_call 33; (with_reducible refine (H1.out _).mono ?_); rintro e w' ⟨rfl, rfl⟩))
          go_ret3
          obtain ⟨q1, q2, q3⟩ := HNO.out HS.out
          subst q1 q2 q3
          exact ⟨_, rfl, World.ownsRow_nil _ _ _ _, HB.out⟩
      · have hst := hr.step h8
        have hrn := hr.next hi h8
        have H2 : Hid (∀ w, Calls Tryz.prog 58 #[.int .i64 (bS a n i : Int)] w fun e w' => e = .returned (.int .i64 (leftN (bS a n i) : Int)) ∧ w = w') := fun w => by
          have := rleft_any (bS a n i) (by unfold I63; omega) w; rw [nr_nat _ (by omega)] at this; exact this.mono fun _ _ ⟨q1, q2⟩ => ⟨q1, q2.symm⟩
        have HPC : Hid (pc3 a n i = ⟨bS a n i, 3, fS a n i, fS a n (i + 1)⟩) := rfl
        have HFN := Lib.hid (firstR_next a n i)
        have HRN := Lib.hid hrn
        obtain ⟨s1, s2, s3, s4, s5, s6, s7⟩ := hst
        have hpb : pS a n i ≤ bS a n i := by unfold bS beginN; split <;> omega
        have hpx : p ≤ (nr p : Int) ∨ (832 ≤ p ∧ nr p = 832) := by unfold nr; omega
        have HM : Hid ((832 - (pS a n (i + 1) : Int)).toNat < (832 - p).toNat) := Lib.hid (by have := hrn.p_le; omega)
        have hi99 : i + 1 ≤ 100 := by have := hrn.p_le; have := hrn.p_ge; omega
        rw [hf] at HPC s3 s5 s6 s7
        have hb8 : ¬ (832 : Int) ≤ (bS a n i : Int) := by omega
        obtain ⟨b, hb⟩ : ∃ b, bS a n i = b := ⟨_, rfl⟩
        obtain ⟨f1, hf1⟩ : ∃ f1, fS a n (i + 1) = f1 := ⟨_, rfl⟩
        obtain ⟨p1, hp1⟩ : ∃ p1, pS a n (i + 1) = p1 := ⟨_, rfl⟩
        rw [hb] at H1 H2 HPC s1 s2 s5 s6 s7 hb8 hpb hbl
        rw [hf1] at HPC s3 s4 s5 s6 s7
        rw [hp1] at s6 HM
        have HF1 := Lib.hid hf1
        have HP1 := Lib.hid hp1
        obtain ⟨lf, hlf⟩ : ∃ lf, leftN b = lf := ⟨_, rfl⟩
        rw [hlf] at H2 s1 s2 s5 s7
        have hk : ((n : Int) - f > (lf : Int) - 11 ∧ (f : Int) + ((lf : Int) - 11) = f1 ∧ (b : Int) + 11 + ((lf : Int) - 11) = p1) ∨ (¬ (n : Int) - f > (lf : Int) - 11 ∧ (f : Int) + ((n : Int) - f) = f1 ∧ (b : Int) + 11 + ((n : Int) - f) = p1) := by omega
        have hb821 : (b : Int) ≤ 821 := by omega
        have hlf208 : (lf : Int) ≤ 832 := by omega
        have hlf11 : (11 : Int) ≤ lf := by omega
        have hsum : (b : Int) + lf ≤ 832 := by omega
        have hfn2 : (f1 : Int) ≤ n := by omega
        clear hpe hf1 hp1 hlf s1 s2 s3 s4 s5 s6 s7 hb hpb hpx h8 hrn hr hpn hf hbl hi hp HNO HYES
        rcases (by omega : (i : Int) = 0 ∨ (¬ (i : Int) = 0 ∧ (f : Int) < (n : Int))) with h0 | ⟨h0, hlt⟩
        all_goals
          clear hend
          rcases hk with ⟨hk, hk1, hk2⟩ | ⟨hk, hk1, hk2⟩
        all_goals
          have HK1 := Lib.hid hk1
          have HK2 := Lib.hid hk2
          clear hk1 hk2
          go_wp2_with (first
            | (go_at_call 33; (with_reducible refine (H1.out _).mono ?_); rintro e w' ⟨rfl, rfl⟩)
            | (go_at_call 58; (with_reducible refine (H2.out _).mono ?_); rintro e w' ⟨rfl, rfl⟩)
            | (at_builtin; refine wpl_app_pc rfl (.tmp 35) (.tmp 42) rfl w.heap.size _ i (firstR a n i) rfl (Lib.hid (HO.out.alloc _)) wr.heap.size (pc3 a n i) rfl (by rw [HPC.out, ← HK1.out]; exact heap_alloc_last wr _) (by omega) w.heap.size w (Lib.hid (HB.out.alloc HB.out.size _)) (Nat.le_refl _) (by have := HB.out.size; simp; omega) ?_; intro v4 w4 HO4 HB4 HQ4; rw [HFN.out] at HO4; obtain ⟨a4, c4, rfl⟩ := own_form HO4.out))
          go_roundw
          case rel =>
            refine ⟨i + 1, p1, a4, c4, f1, by rw [HK2.out], rfl, by rw [HK1.out], by omega, hi99, Lib.hid ?_, HO4, HB4⟩
            have h := HRN.out
            have e1 := HP1.out
            have h2 := h.p_le
            rw [e1] at h2
            refine ⟨by unfold I63; omega, ?_, h, HF1.out, .inr (by rw [e1])⟩
            rw [e1]; exact nr_nat _ h2
          case measure =>
            simp only [intOf]
            rw [HK2.out]; exact HM.out
    · obtain ⟨k, rfl⟩ : ∃ k, i = k + 1 := ⟨i - 1, by omega⟩
      obtain rfl : f = n := by omega
      obtain ⟨hc, y1, y2, y3⟩ := HYES.out (k + 1) hr (by omega) hf
      subst y1 y2 y3
      obtain ⟨g, cp, hv, hgb, hgs⟩ := HO.out.form (by omega)
      cases hv
      obtain rfl : p = (pS a f (k + 1) : Int) := by rcases hpe with h | h <;> first | omega | exact h
      have h0 : ¬ ((k + 1 : Nat) : Int) = 0 := by omega
      have hlt : ¬ (f : Int) < (f : Int) := by omega
      clear hp hpn hr hf hend hpe
      have hg0 := firstR_get a f (k + 1) 0 (by omega)
      have hgk := firstR_get a f (k + 1) k (by omega)
      obtain ⟨w5, hw5⟩ : ∃ q, wr.setCell ⟨g, 1, none⟩ (.int .i64 2) = q := ⟨_, rfl⟩
      have HO5 : Hid (w5.ownsRow w.heap.size 128 4 (.slice (some ⟨g, 0, none⟩) (k + 1) vc) (k + 1) (pF ((firstR a f (k + 1)).set 0 { pc3 a f 0 with kind := 2 }))) := Lib.hid (by rw [← hw5]; exact own_kind HO.out 0 _ hg0 2 1 rfl)
      obtain ⟨z1, z2⟩ := own_there HO.out 0 _ hg0 1 rfl
      have HB5 : Hid (Below w.heap.size w w5) := Lib.hid (by rw [← hw5]; exact bset HB.out hgb (Nat.le_refl _) 1 _)
      by_cases hk0 : k = 0
      · subst hk0
        have hl1 : (firstR a f (0 + 1)).set 0 { pc3 a f 0 with kind := 2 } = [{ pc3 a f 0 with kind := 2 }] := by simp [firstR]
        rw [hl1] at HO5
        obtain ⟨z3, z4⟩ := own_there HO5.out 0 _ rfl 1 rfl
        obtain ⟨w6, hw6⟩ : ∃ q, w5.setCell ⟨g, 1, none⟩ (.int .i64 4) = q := ⟨_, rfl⟩
        have HO6 : Hid (w6.ownsRow w.heap.size 128 4 (.slice (some ⟨g, 0, none⟩) (0 + 1) vc) (0 + 1) (pF [{ pc3 a f 0 with kind := 4 }])) := Lib.hid (by rw [← hw6]; exact own_kind HO5.out 0 _ rfl 4 1 rfl)
        have HB6 : Hid (Below w.heap.size w w6) := Lib.hid (by rw [← hw6]; exact bset HB5.out hgb (Nat.le_refl _) 1 _)
        obtain ⟨z5, z6⟩ := own_there HO6.out 0 _ rfl 1 rfl
        obtain ⟨w7, hw7⟩ : ∃ q, w6.setCell ⟨g, 1, none⟩ (.int .i64 1) = q := ⟨_, rfl⟩
        have HO7 : Hid (w7.ownsRow w.heap.size 128 4 (.slice (some ⟨g, 0, none⟩) (0 + 1) vc) (0 + 1) (pF [{ pc3 a f 0 with kind := 1 }])) := Lib.hid (by rw [← hw7]; exact own_kind HO6.out 0 _ rfl 1 1 rfl)
        have HB7 : Hid (Below w.heap.size w w7) := Lib.hid (by rw [← hw7]; exact bset HB6.out hgb (Nat.le_refl _) 1 _)
        have HKS := Lib.hid (kinds_one hc)
        clear hg0 hgk hl1 hc
        go_wp2
        go_ret3
        refine ⟨_, rfl, ?_, HB7.out⟩
        rw [firstP_len, HKS.out]
        exact HO7.out
      · have hgk5 : ((firstR a f (k + 1)).set 0 { pc3 a f 0 with kind := 2 })[k]? = some (pc3 a f k) := by rw [List.getElem?_set_ne (Ne.symm hk0)]; exact hgk
        obtain ⟨z3, z4⟩ := own_there HO5.out k _ hgk5 (k * 4 + 1) rfl
        obtain ⟨w6, hw6⟩ : ∃ q, w5.setCell ⟨g, k * 4 + 1, none⟩ (.int .i64 4) = q := ⟨_, rfl⟩
        have HO6 : Hid (w6.ownsRow w.heap.size 128 4 (.slice (some ⟨g, 0, none⟩) (k + 1) vc) (k + 1) (pF (firstP a f (k + 1)))) := Lib.hid (by
          rw [← hw6, kinds_more hc (by omega)]
          exact own_kind HO5.out k _ hgk5 4 (k * 4 + 1) rfl)
        have HB6 : Hid (Below w.heap.size w w6) := Lib.hid (by rw [← hw6]; exact bset HB5.out hgb (Nat.le_refl _) _ _)
        have hk1 : ¬ (k : Int) + 1 = 1 := by omega
        clear hg0 hgk hgk5 hc
        go_wp2
        go_ret3
        refine ⟨_, rfl, ?_, HB6.out⟩
        rw [firstP_len]
        exact HO6.out
theorem rcut_any (x n : Int) (hx : I63 x) (hn : I63 n) (w : World) : Calls Tryz.prog 61 #[.int .i64 x, .int .i64 n] w fun e w' =>
    ∃ v, e = .returned (.tuple #[v, .int .i64 (endI x n : Int), .bool (fitI x n)]) ∧ w'.ownsRow w.heap.size 128 4 v (pcsI x n).length (pF (pcsI x n)) ∧ Below w.heap.size w w' := by
  by_cases h0 : n < 0
  · have hf := fitI_neg x n h0
    obtain ⟨h1, h2⟩ := told_no hf
    rw [h1, h2, hf]
    exact (rcut_neg x n h0 w).mono fun e w' ⟨he, hw⟩ => ⟨_, he, World.ownsRow_nil _ _ _ _, by rw [hw]; exact Below.refl _ _⟩
  · obtain ⟨k, rfl⟩ : ∃ k : Nat, n = (k : Int) := ⟨n.toNat, by omega⟩
    exact rcut_nat x k hx (by unfold I63 at hn; omega) w
end Go.Proofs.YtnmplnemnfonfaaGreatDoor
namespace Go.Proofs.YtnmplnemnfonfaaGreatDoor
open Go.RowKit
theorem pad_next (bs : List Int) (i : Nat) (h8 : i < 832) (hb : i < bs.length) : (splice z832 0 (bs.take i)).set i (bs.getD i 0) = splice z832 0 (bs.take (i + 1)) := by
  have h := splice_set z832 (bs.take 832) 0 i (by rw [List.length_take]; omega) (by rw [z832_len, List.length_take]; omega)
  rw [Nat.zero_add, List.take_take, List.take_take, Nat.min_eq_left (by omega), Nat.min_eq_left (by omega)] at h
  rw [← h]
  congr 1
  simp [List.getD, h8]
theorem pad_len (bs : List Int) (i : Nat) (h8 : i ≤ 832) : (splice z832 0 (bs.take i)).length = 832 := by
  rw [splice_len _ _ _ (by rw [z832_len, List.length_take]; omega), z832_len]
theorem pad_end (bs : List Int) (i : Nat) (hb : i ≤ bs.length) (h : i = 832 ∨ (i ≤ 832 ∧ i = bs.length)) : splice z832 0 (bs.take i) = pad8 bs := by
  unfold pad8
  rcases h with rfl | ⟨h1, h2⟩
  · rfl
  · rw [List.take_of_length_le (by omega), List.take_of_length_le (by omega)]
set_option maxRecDepth 8000 in
set_option maxHeartbeats 2000000 in
theorem radd_no (ep x : Int) (hx : I63 x) (bv : Value) (da : Option Addr) (n dc : Nat) (hn : (n : Int) ≤ 9223372036854775807) (w : World) (hfit : fitI x n = false) :
    Calls Tryz.prog 34 #[.int .u64 ep, bv, .int .i64 x, .slice da n dc] w fun e w' => e = .returned (.tuple #[.slice none 0 0, .int .i64 0, .bool false]) ∧ Below w.heap.size w w' := by
  have HC : Hid (∀ w, Calls Tryz.prog 61 #[.int .i64 x, .int .i64 (n : Int)] w fun e w' => ∃ v, e = .returned (.tuple #[v, .int .i64 0, .bool false]) ∧ Below w.heap.size w w') := Lib.hid fun w =>
    (rcut_any x n hx (by unfold I63; omega) w).mono fun e w' ⟨v, he, _, hb⟩ => by
      rw [(told_no hfit).2, hfit] at he
      exact ⟨v, he, hb⟩
  clear hx hfit
  go_enter Tryz.func34, Tryz.ntmps34
  go_wp2_with (first
    | (go_at_call 61; (with_reducible refine (HC.out _).mono ?_); rintro e w1 ⟨v1, rfl, hb⟩; have HB1 := Lib.hid hb; clear hb))
  go_ret3
  exact ⟨rfl, HB1.out⟩
set_option maxRecDepth 8000 in
set_option maxHeartbeats 8000000 in
theorem radd_fit (ep x : Int) (hx : I63 x) (hep : U64 ep) (bv : Value) (bn : Nat) (bs : List Int) (dv : Value) (n : Nat) (zs : List Int) (hzb : isB zs) (w : World) (hbr : RI .u8 w bv bn bs) (hri : RI .u8 w dv n zs) (hfit : fitI x n = true) :
    Calls Tryz.prog 34 #[.int .u64 ep, bv, .int .i64 x, dv] w fun e w' => ∃ g, e = .returned (.tuple #[.slice (some ⟨g, 0, none⟩) 832 832, .int .i64 (endI x n : Nat), .bool true]) ∧
      YB w' g (layR (ep % 4294967296) (pad8 bs) x zs) ∧ w.heap.size ≤ g ∧ Below w.heap.size w w' := by
  have hzl := hri.length
  have hbl := hbr.length
  have hnl := hri.le
  have hbnl := hbr.le
  obtain ⟨da, dc, rfl, _, hdc, hdm, _⟩ := id hri
  obtain ⟨ba, bc, rfl, _⟩ := id hbr
  have HC : Hid (∀ w, Calls Tryz.prog 61 #[.int .i64 x, .int .i64 (n : Int)] w fun e w' => ∃ v, e = .returned (.tuple #[v, .int .i64 (endI x n : Int), .bool true]) ∧ w'.ownsRow w.heap.size 128 4 v (pcsI x n).length (pF (pcsI x n)) ∧ Below w.heap.size w w') := Lib.hid fun w => by
    have := rcut_any x n hx (by unfold I63; omega) w
    rwa [hfit] at this
  obtain ⟨e32, he⟩ : ∃ e32, ep % 4294967296 = e32 := ⟨_, rfl⟩
  have he0 : 0 ≤ e32 ∧ e32 ≤ 4294967295 := by omega
  have hw32 : IntKind.u32.wrap e32 = e32 := by rw [u32_wrap]; omega
  have hep2 : 0 ≤ ep ∧ ep ≤ 18446744073709551615 := hep
  have htm : ep.tmod 4294967296 = e32 := by rw [Int.tmod_eq_emod_of_nonneg hep2.1]; exact he
  have HPF : Hid (∀ (i : Nat) (c : PC), (pcsI x n)[i]? = some c → ∃ q l k, PcFit (nr x) n c q l k) := Lib.hid fun i c h => by
    obtain ⟨m, q, l, k, hm, hf⟩ := pc_fit h
    obtain rfl : n = m := by omega
    exact ⟨q, l, k, hf⟩
  have HLN : Hid (∀ i, (layP e32 zs (pad8 bs) ((pcsI x n).take i)).length = 832) := Lib.hid fun i => by rw [← hzl]; exact layP_len (pad8_len bs) i
  have HLR : Hid (layP e32 zs (pad8 bs) (pcsI x n) = layR e32 (pad8 bs) x zs) := Lib.hid (by unfold layR; rw [hzl])
  rw [he]
  generalize layR e32 (pad8 bs) x zs = out at *
  have hpl := pcs_len x n
  generalize pcsI x n = ps at *
  generalize endI x n = en at *
  obtain ⟨m, hm⟩ : ∃ m, ps.length = m := ⟨_, rfl⟩
  rw [hm] at HC hpl
  have HM := Lib.hid hm
  have HZB := Lib.hid hzb
  have HZL := Lib.hid hzl
  have HBL := Lib.hid hbl
  have HRI := Lib.hid hri
  have HBR := Lib.hid hbr
  have HDC := Lib.hid hdc
  clear hx hep hzb hbr hri hfit hzl hbl hm hdc
  go_enter Tryz.func34, Tryz.ntmps34
  go_wp2_with (first
    | (go_at_call 61; (with_reducible refine (HC.out _).mono ?_); rintro e w1 ⟨v1, rfl, ho, hb⟩; obtain ⟨a1, c1, rfl⟩ := own_form ho; have HO1 := Lib.hid ho; have HB1 := Lib.hid hb; clear ho hb)
    | (refine wpl_mk_yb rfl _ _ rfl 832 rfl rfl (by omega) ?_; intro g w2 HY2 HG2 HB2; have HO2 := Lib.hid (own_keep HO1.out HB2.out); have HB2 := Lib.hid (bch HB1.out HB2.out)))
  have HGW : Hid (w.heap.size ≤ g ∧ w1.heap.size ≤ g) := Lib.hid (by have := HG2.out; have := HB1.out.size; omega)
  have HBW : Hid (∀ w', w2.grownBy w' (some g) → Below w.heap.size w w') := Lib.hid fun w' h => below_grown HB2.out h HGW.out.1 HB2.out.size
  have HPS : Hid (∀ w', w2.grownBy w' (some g) → PS w' (.slice a1 m c1) ps) := Lib.hid fun w' h => PS.over (by rw [HM.out]; exact HO2.out) h (fun q hq e => by have := (HO1.out.lt q hq).2; have := HGW.out.2; omega)
  clear HC HO1 HB1 HO2 HB2 HG2
  go_wp2
  go_loopw [15] (fun iv wr => ∃ i : Nat, iv = .int .i64 (i : Int) ∧ i ≤ 832 ∧ i ≤ bn ∧ Hid (w2.grownBy wr (some g)) ∧ Hid (YB wr g (splice z832 0 (bs.take i)))) (fun iv _ => 832 - (intOf iv).toNat)
  case atStart => exact ⟨0, rfl, by omega, by omega, Lib.hid (grown_refl _ _), Lib.hid (by simpa [splice, z832] using HY2.out)⟩
  case round =>
    obtain ⟨i, rfl, hi8, hib, HG, HY⟩ := hrel
    by_cases hlt : (i : Int) < 832 ∧ (i : Int) < (bn : Int)
    · obtain ⟨hl1, hl2⟩ := hlt
      have HSP := Lib.hid (pad_next bs i (by omega) (by rw [HBL.out]; omega))
      have HPL := Lib.hid (pad_len bs i (by omega))
      obtain ⟨b, off, rfl, hcell⟩ := (HBR.out.keep (HBW.out wr HG.out)).at_ (by omega)
      have hc := hcell i (by omega)
      clear hcell
      go_wp2_with (first
        | (refine wpl_put_yb rfl _ _ rfl g i _ (bs.getD i 0) HY.out (by rw [HPL.out]; omega) rfl rfl ?_; intro w3 HY3 HG3; rw [HSP.out] at HY3; have HG3 := Lib.hid (grown_trans HG.out HG3.out)))
      go_roundw
      case rel => exact ⟨i + 1, by go_num, by omega, by omega, HG3, HY3⟩
      case measure => simp [intOf]; omega
    · have HY3 : Hid (YB wr g (pad8 bs)) := Lib.hid (by rw [← pad_end bs i (by rw [HBL.out]; exact hib) (by rw [HBL.out]; omega)]; exact HY.out)
      rcases (by omega : ¬ ((i : Int) < 832) ∨ ((i : Int) < 832 ∧ ¬ (i : Int) < (bn : Int))) with h1 | ⟨h1, h2⟩
      all_goals
        clear hlt HY
        go_wp2
        go_loopw [16] (fun iv wr => ∃ i : Nat, iv = .int .i64 (i : Int) ∧ i ≤ m ∧ Hid (w2.grownBy wr (some g)) ∧ Hid (YB wr g (layP e32 zs (pad8 bs) (ps.take i)))) (fun iv _ => m - (intOf iv).toNat)
        case atStart => exact ⟨0, rfl, by omega, HG, HY3⟩
        case round =>
          rename World => wo
          clear HY3 HG
          obtain ⟨i, rfl, him, HG, HY⟩ := hrel
          by_cases hlt : (i : Int) < (m : Int)
          · obtain ⟨c, hc⟩ : ∃ c, ps[i]? = some c := ⟨ps[i]'(by have := HM.out; omega), List.getElem?_eq_getElem _⟩
            obtain ⟨q, l, k, hpf⟩ := HPF.out i c hc
            obtain ⟨b2, o2, e2, r2⟩ := (HPS.out wo HG.out).at_ i c hc
            obtain rfl := e2
            have HC2 : Hid (∀ w', w2.grownBy w' (some g) → w'.cell? ⟨b2, o2 + i * 4, none⟩ = some (.int .i64 (q : Int)) ∧ w'.cell? ⟨b2, o2 + i * 4 + 1, none⟩ = some (.int .i64 c.kind) ∧ w'.cell? ⟨b2, o2 + i * 4 + 2, none⟩ = some (.int .i64 (l : Int)) ∧ w'.cell? ⟨b2, o2 + i * 4 + 3, none⟩ = some (.int .i64 ((l + k : Nat) : Int))) := Lib.hid fun w' hg => by
              obtain ⟨b3, o3, e3, r3⟩ := (HPS.out w' hg).at_ i c hc
              obtain ⟨rfl, rfl⟩ : b2 = b3 ∧ o2 = o3 := by simpa using e3
              obtain ⟨y0, y1, y2, y3⟩ := pc_cells r3
              rw [hpf.at_] at y0; rw [hpf.from_] at y2; rw [hpf.to] at y3
              exact ⟨y0, y1, y2, y3⟩
            obtain ⟨kd, hkd⟩ : ∃ kd, c.kind = kd := ⟨_, rfl⟩
            rw [hkd] at HC2
            have hdl : ((zs.drop l).take k).length = k := by rw [List.length_take, List.length_drop]; have := hpf.upto; have := HZL.out; omega
            have HPB : Hid (fragB kd e32 ((zs.drop l).take k) = pcB e32 zs c) := Lib.hid (by unfold pcB; rw [hpf.data, hkd])
            have HPL : Hid ((pcB e32 zs c).length = 11 + k) := Lib.hid (hpf.len e32 zs HZL.out)
            have HNX := Lib.hid (layP_next e32 zs (pad8 bs) ps i c hc)
            rw [hpf.at_, Int.toNat_natCast] at HNX
            have hok : fragOk kd k = true := decide_eq_true ⟨hkd ▸ hpf.k1, hkd ▸ hpf.k4, hpf.most⟩
            have hq : (q : Int) ≤ 821 := by have := hpf.room; omega
            have HQ : Hid (q + 11 + k ≤ 832) := Lib.hid hpf.room
            obtain ⟨h, hh⟩ : ∃ h, l + k = h := ⟨_, rfl⟩
            have HH := Lib.hid hh
            rw [hh] at HC2
            have hlu := hpf.upto
            rw [hh] at hlu
            have hln : (l : Int) ≤ h := by omega
            have hkl : (k : Int) ≤ 197 := by have := hpf.most; omega
            obtain ⟨dq, qc, hsl⟩ := sliced_form da l k dc 1
            have HRC : ∀ w', w2.grownBy w' (some g) → RI .u8 w' (.slice dq k qc) k ((zs.drop l).take k) := fun w' hg => by
              have := (HRI.out.keep (HBW.out w' hg)).cut l k dc (by omega) (by have := HDC.out; omega) (Nat.le_refl _)
              rwa [hsl] at this
            have HSL := Lib.hid hsl
            have HDC2 : Hid (l + k ≤ dc) := Lib.hid (by have := HDC.out; omega)
            have HE : Hid (∀ w', w2.grownBy w' (some g) → Calls Tryz.prog 62 #[.agg (fA kd e32 (.slice dq k qc))] w' fun r w'' => ∃ a c2, r = .returned (.slice a (11 + k) c2) ∧ w''.ownsRow w'.heap.size 5 1 (.slice a (11 + k) c2) (11 + k) (il .u8 (pcB e32 zs c)) ∧ Below w'.heap.size w' w'') := Lib.hid fun w' hg => by
              rw [← HPB.out]; exact rfbytes_any kd e32 (.slice dq k qc) k _ w' hok he0 (HRC w' hg) ((HZB.out.drop _).take _)
            clear hc hpf r2 hkd hdl HPB hok hh hsl HRC hlu
            go_wp2_with fail
            refine wp_region_held_drew (S := (fun w' => w2.grownBy w' (some g))) (by kernel_rfl) (grown_drew HG.out) (fun hS => ?_)
            refine rgw 0 ⟨some 53, .move (.tmp 11), 123, _, _, none⟩ hS ?_
            refine rgw 1 ⟨some 54, .move (.tmp 16), 3, _, _, none⟩ hS ?_
            refine rgw 2 ⟨some 55, .indexAddr 123 (.tmp 53) (.tmp 54), 0, _, _, none⟩ hS ?_
            refine rgw 3 ⟨some 56, .fieldAddr 128 (.tmp 55) 1, 0, _, _, none⟩ hS ?_
            refine rgw 4 ⟨some 57, .load 3 (.tmp 56), 3, _, _, none⟩ hS ?_ (hy := by intro w hSw; (try dsimp only at hSw); have z := (HC2.out w hSw).2.1; go_simp; try with_reducible rfl)
            refine rgw 5 ⟨some 58, .move (.tmp 0), 22, _, _, none⟩ hS ?_
            refine rgw 6 ⟨some 59, .binOp .rem 22 (.tmp 58) (.const (.int .u64 4294967296)) 22, 22, _, _, none⟩ hS ?_
            refine rgw 7 ⟨some 60, .convert 22 80 (.tmp 59), 80, _, _, none⟩ hS ?_
            refine rgw 8 ⟨some 61, .move (.tmp 3), 49, _, _, none⟩ hS ?_
            refine rgw 9 ⟨some 62, .move (.tmp 11), 123, _, _, none⟩ hS ?_
            refine rgw 10 ⟨some 63, .move (.tmp 16), 3, _, _, none⟩ hS ?_
            refine rgw 11 ⟨some 64, .indexAddr 123 (.tmp 62) (.tmp 63), 0, _, _, none⟩ hS ?_
            refine rgw 12 ⟨some 65, .fieldAddr 128 (.tmp 64) 2, 0, _, _, none⟩ hS ?_
            refine rgw 13 ⟨some 66, .load 3 (.tmp 65), 3, _, _, none⟩ hS ?_ (hy := by intro w hSw; (try dsimp only at hSw); have z := (HC2.out w hSw).2.2.1; go_simp; try with_reducible rfl)
            refine rgw 14 ⟨some 67, .move (.tmp 11), 123, _, _, none⟩ hS ?_
            refine rgw 15 ⟨some 68, .move (.tmp 16), 3, _, _, none⟩ hS ?_
            refine rgw 16 ⟨some 69, .indexAddr 123 (.tmp 67) (.tmp 68), 0, _, _, none⟩ hS ?_
            refine rgw 17 ⟨some 70, .fieldAddr 128 (.tmp 69) 3, 0, _, _, none⟩ hS ?_
            refine rgw 18 ⟨some 71, .load 3 (.tmp 70), 3, _, _, none⟩ hS ?_ (hy := by intro w hSw; (try dsimp only at hSw); have z := (HC2.out w hSw).2.2.2; go_simp; try with_reducible rfl)
            refine rgw 19 ⟨some 72, .slice 49 (.tmp 61) (some (.tmp 66)) (some (.tmp 71)) none, 49, _, _, none⟩ hS ?_ (v := .slice dq k qc) (hy := by intro w hSw; (try dsimp only at hSw); exact (exec_cut_lh (.tmp 61) (.tmp 66) (.tmp 71) rfl da n dc l k rfl rfl (by rw [HH.out]; rfl) HDC2.out).trans (by rw [HSL.out]))
            refine rgw 20 ⟨some 73, .build 82 #[(0, .tmp 57), (1, .tmp 60), (2, .tmp 72)], 82, _, _, none⟩ hS ?_ (v := .agg #[.int .i64 kd, .int .u32 e32, .slice dq k qc]) (hy := by intro w hSw; (try dsimp only at hSw); go_simp)
            refine rg_one 21 ⟨some 74, .call { callee := .value (.func 62), args := #[.tmp 73], argTypes := #[82] }, 49, _, _, none⟩ (by kernel_rfl) rfl (fun K hK => ?_)
            go_simp
            (go_at_call 62; (with_reducible refine (HE.out _ hS).mono ?_); rintro r w6 ⟨a6, c6, rfl, ho6, hb6⟩; have HO6 := Lib.hid ho6; have hN := grown_chain hS hb6; have HG6 := Lib.hid hN; have HY6 := Lib.hid ((HY.out.keep (Below.refl _ _).drew).keep hb6); clear ho6 hb6)
            refine hK.out _ _ ?_ (fun hS1 => ?_)
            · (exact hN)
            clear hK K hS; have hS := hS1; clear hS1
            (try simp only [rgp])
            refine rgw 22 ⟨some 17, .assign (.tmp 74), 49, _, _, none⟩ hS ?_
            refine wpAnyH_done (by kernel_rfl) ?_ _
            have HGB : Hid (g < wo.heap.size) := Lib.hid HY.out.lt
            have HOB : Hid (∀ w', w6.grownBy w' (some g) → RI .u8 w' (.slice a6 (11 + k) c6) (11 + k) (pcB e32 zs c)) := Lib.hid fun w' hg => RI.own (own_over HO6.out hg (fun q hq e => by have := (HO6.out.lt q hq).1; have := Option.some.inj e; have := HGB.out; simp at *; omega))
            have HC6 : Hid (∀ w', w6.grownBy w' (some g) → w'.cell? ⟨b2, o2 + i * 4, none⟩ = some (.int .i64 (q : Int))) := Lib.hid fun w' hg => (HC2.out w' (grown_trans HG6.out hg)).1
            clear hS hN HO6 HE HC2
            go_wp2
            go_loopw [18] (fun jv wr => ∃ j : Nat, jv = .int .i64 (j : Int) ∧ j ≤ 11 + k ∧ Hid (w6.grownBy wr (some g)) ∧ Hid (YB wr g (splice (layP e32 zs (pad8 bs) (ps.take i)) q ((pcB e32 zs c).take j)))) (fun jv _ => 11 + k - (intOf jv).toNat)
            case atStart => exact ⟨0, rfl, by omega, Lib.hid (grown_refl _ _), Lib.hid (by simpa [splice] using HY6.out)⟩
            case round =>
              rename World => wi
              obtain ⟨j, rfl, hjk, HGI, HYI⟩ := hrel
              by_cases hlj : (j : Int) < ((11 + k : Nat) : Int)
              · have HSP := Lib.hid (splice_set (layP e32 zs (pad8 bs) (ps.take i)) (pcB e32 zs c) q j (by rw [HPL.out]; omega) (by rw [HPL.out, HLN.out]; have := HQ.out; omega))
                have HLS : Hid ((splice (layP e32 zs (pad8 bs) (ps.take i)) q ((pcB e32 zs c).take j)).length = 832) := Lib.hid (by rw [splice_len _ _ _ (by rw [HLN.out, List.length_take, HPL.out]; have := HQ.out; omega), HLN.out])
                obtain ⟨b3, o3, rfl, hcell⟩ := (HOB.out wi HGI.out).at_ (by omega)
                have HCB : Hid (∀ w', w6.grownBy w' (some g) → w'.cell? ⟨b3, o3 + j, none⟩ = some (.int .u8 ((pcB e32 zs c).getD j 0))) := Lib.hid fun w' hg => by
                  obtain ⟨b4, o4, e4, hc4⟩ := (HOB.out w' hg).at_ (by omega)
                  obtain ⟨rfl, rfl⟩ : b3 = b4 ∧ o3 = o4 := by simpa using e4
                  exact hc4 j (by omega)
                clear hcell
                obtain ⟨p, hp⟩ : ∃ p, q + j = p := ⟨_, rfl⟩
                rw [hp] at HSP
                have hp8 : (p : Int) < 832 := by have := HQ.out; omega
                have hwr : IntKind.i64.wrap ((q : Int) + (j : Int)) = (p : Int) := by rw [← hp]; exact IntWalk.i64_in _ (by have := HQ.out; omega)
                clear hp
                go_wp2_with fail
                refine wp_region_held_drew (S := (fun w' => w6.grownBy w' (some g))) (by kernel_rfl) (grown_drew HGI.out) (fun hS => ?_)
                refine rgw 0 ⟨some 81, .move (.tmp 14), 49, _, _, none⟩ hS ?_
                refine rgw 1 ⟨some 82, .move (.tmp 11), 123, _, _, none⟩ hS ?_
                refine rgw 2 ⟨some 83, .move (.tmp 16), 3, _, _, none⟩ hS ?_
                refine rgw 3 ⟨some 84, .indexAddr 123 (.tmp 82) (.tmp 83), 0, _, _, none⟩ hS ?_
                refine rgw 4 ⟨some 85, .fieldAddr 128 (.tmp 84) 0, 0, _, _, none⟩ hS ?_
                refine rgw 5 ⟨some 86, .load 3 (.tmp 85), 3, _, _, none⟩ hS ?_ (hy := by intro w hSw; (try dsimp only at hSw); have z := HC6.out w hSw; go_simp; try with_reducible rfl)
                refine rgw 6 ⟨some 87, .move (.tmp 18), 3, _, _, none⟩ hS ?_
                refine rgw 7 ⟨some 88, .binOp .add 3 (.tmp 86) (.tmp 87) 3, 3, _, _, none⟩ hS ?_
                refine rgw 8 ⟨some 89, .move (.tmp 17), 49, _, _, none⟩ hS ?_
                refine rgw 9 ⟨some 90, .move (.tmp 18), 3, _, _, none⟩ hS ?_
                refine rgw 10 ⟨some 91, .indexAddr 49 (.tmp 89) (.tmp 90), 0, _, _, none⟩ hS ?_
                refine rgw 11 ⟨some 92, .load 5 (.tmp 91), 5, _, _, none⟩ hS ?_ (hy := by intro w hSw; (try dsimp only at hSw); have z := HCB.out w hSw; go_simp; try with_reducible rfl)
                refine rgw 12 ⟨some 93, .indexAddr 49 (.tmp 81) (.tmp 88), 0, _, _, none⟩ hS ?_
                refine rg_one 13 ⟨none, .store 5 (.tmp 93) (.tmp 92), 0, _, _, none⟩ (by kernel_rfl) rfl (fun K hK => ?_)
                rw [if_pos (by rfl)]; refine wp_put_yb _ _ rfl g p _ ((pcB e32 zs c).getD j 0) (HYI.out.keep (Below.refl _ _).drew) (by rw [HLS.out]; omega) rfl rfl ?_; intro w7 HY7 HG7; rw [HSP.out] at HY7; have hN := grown_trans (grown_drew HGI.out) HG7.out; have HG7 := Lib.hid hN
                refine hK.out _ _ ?_ (fun hS1 => ?_)
                · (exact hN)
                clear hK K hS; have hS := hS1; clear hS1
                (try simp only [Act.put])
                refine wpAnyH_done (by kernel_rfl) ?_ _
                go_wp2
                go_roundw
                case rel => exact ⟨j + 1, by go_num, by omega, HG7, HY7⟩
                case measure => simp [intOf]; omega
              · obtain rfl : j = 11 + k := by omega
                have HYE : Hid (YB wi g (layP e32 zs (pad8 bs) (ps.take (i + 1)))) := Lib.hid (by have := HYI.out; rw [List.take_of_length_le (l := pcB e32 zs c) (by rw [HPL.out]; omega), ← HNX.out] at this; exact this)
                have HGE := Lib.hid (grown_trans HG6.out HGI.out)
                go_wp2
                go_roundw
                case rel => exact ⟨i + 1, by go_num, by omega, HGE, HYE⟩
                case measure => simp [intOf]; omega
          · obtain rfl : i = m := by omega
            have HE : Hid (YB wo g out) := Lib.hid (by have := HY.out; rw [List.take_of_length_le (by rw [HM.out]; omega), HLR.out] at this; exact this)
            go_wp2
            go_ret3
            exact ⟨g, rfl, HE.out, HGW.out.1, HBW.out _ HG.out⟩
end Go.Proofs.YtnmplnemnfonfaaGreatDoor
namespace Go.Proofs.YtnmplnemnfonfaaGreatDoor
open Go.RowKit
set_option maxRecDepth 8000 in
set_option maxHeartbeats 1000000 in
theorem rsector_any (x : Int) (hx : U64 x) (v : Value) (len : Nat) (zs : List Int) (hlen : len ≤ 1000000) (i : Nat) (hi : i ≤ 1000) (w : World) (h : RI .u8 w v len zs) :
    Calls Tryz.prog 36 #[.int .u64 x, v, .int .i64 (i : Int)] w fun e w' => e = .returned (.agg (sv (sealed x (i : Int) (partB zs i)))) ∧ Below w.heap.size w w' := by
  obtain ⟨w0, hw0⟩ : ∃ w0, w.alloc (.cells (sv z64) 92) = w0 := ⟨_, rfl⟩
  have hb0 := below_alloc w (.cells (sv z64) 92)
  have hs0 := alloc_size w (.cells (sv z64) 92)
  have hk0 := Blk.new w z64 z64_length
  rw [hw0] at hb0 hs0 hk0
  have HK0 := Lib.hid hk0
  have HB0 := Lib.hid hb0
  have HS0 := Lib.hid hs0
  have HW := Lib.hid hw0
  have HZ := Lib.hid z64_cells
  have HR := Lib.hid (h.keep hb0)
  have HL := Lib.hid h.length
  obtain ⟨a, cap, rfl, _⟩ := id h
  obtain ⟨p, hp⟩ : ∃ p : Nat, 52 * i = p := ⟨_, rfl⟩
  obtain ⟨m, hm⟩ : ∃ m : Nat, min 52 (len - p) = m := ⟨_, rfl⟩
  have hpi : 52 * (i : Int) = (p : Int) := by omega
  obtain ⟨l, hl⟩ : ∃ l, sealed x (i : Int) (partB zs i) = l := ⟨_, rfl⟩
  have HPT : Hid ((zs.drop p).take m = partB zs i) := Lib.hid (by
    have hzl := HL.out
    unfold partB; rw [hp, ← hm]
    by_cases h1 : 52 ≤ len - p
    · rw [Nat.min_eq_left h1]
    · rw [Nat.min_eq_right (by omega), List.take_of_length_le (by simp; omega), List.take_of_length_le (by simp; omega)])
  have HSE : Hid (∀ (v : Value) (n : Nat) (w : World), RI .u8 w v n (partB zs i) → Calls Tryz.prog 63 #[.int .u64 x, .int .i64 (i : Int), v] w fun e w' => e = .returned (.agg (sv l)) ∧ Below w.heap.size w w') := fun v n w h => by
    rw [← hl]; exact rseal_any x i hx (by unfold I63; omega) v n _ w h
  have HLL := Lib.hid (show l.length = 64 from by rw [← hl]; exact sealed_length _ _ _)
  have hp2 : p ≤ 52000 := by omega
  have hm52 : m ≤ 52 := by omega
  have hml : m ≤ len - p := by omega
  have HM := Lib.hid hm
  rw [hl]
  clear hk0 hb0 hs0 hw0 h hx hl hm hp
  go_enter Tryz.func36, Tryz.ntmps36
  go_wp2
  rw [← HZ.out, HW.out]
  go_loopw [7, 8] (fun v iv wr => ∃ k : Nat, iv = .int .i64 ((p + k : Nat) : Int) ∧ k ≤ m ∧ Hid (wr.ownsRow w0.heap.size 5 1 v k (il .u8 ((zs.drop p).take k))) ∧ Hid (Below w0.heap.size w0 wr)) (fun _ iv _ => p + m - (intOf iv).toNat)
  case atStart => exact ⟨0, rfl, by omega, Lib.hid (World.ownsRow_nil _ _ _ _), Lib.hid (Below.refl _ _)⟩
  case round =>
    obtain ⟨k, rfl, hk, HO, HB⟩ := hrel
    obtain ⟨q, hq⟩ : ∃ q : Nat, p + k = q := ⟨_, rfl⟩
    rw [hq]
    by_cases hlt : k < m
    · have h1 : (q : Int) < (p : Int) + 52 := by omega
      have h2 : (q : Int) < (len : Int) := by omega
      obtain ⟨b, off, cp, e, _, _, hcell⟩ := (HR.out.keep HB.out).open_ (by omega)
      simp only [Value.slice.injEq, true_and] at e
      obtain ⟨rfl, rfl⟩ := e
      have hc1 := hcell q (by omega)
      obtain ⟨z, hz⟩ : ∃ z, zs.getD q 0 = z := ⟨_, rfl⟩
      rw [hz] at hc1
      have HT := Lib.hid (show (zs.drop p).take (k + 1) = (zs.drop p).take k ++ [z] from by
        have hzl := HL.out
        rw [← hz, List.take_add_one, List.getElem?_drop, hq, List.getElem?_eq_getElem (by omega)]
        simp [List.getD, List.getElem?_eq_getElem (show q < zs.length by omega)])
      have HQ := Lib.hid hq
      clear hz hcell hq
      go_wp2_with (first
        | (at_builtin; refine wpl_app1 rfl (.tmp 24) (.tmp 29) 49 rfl 5 .u8 1 Tryz.underlying49 Tryz.info_u8 w0.heap.size _ k ((zs.drop p).take k) rfl (HO.out.alloc _) ⟨wr.heap.size, 0, none⟩ z rfl (by simp) (by omega) (by omega) w0.heap.size w0 (HB.out.alloc HB.out.size _) (Nat.le_refl _) (by have := HB.out.size; simp; omega) ?_; intro v' w3 HO3 HB3))
      go_roundw
      case rel => exact ⟨k + 1, by rw [← Nat.add_assoc, HQ.out]; go_num, by omega, Lib.hid (by rw [HT.out]; exact HO3.out), HB3⟩
      case measure => simp [intOf]; have := HQ.out; omega
    · obtain rfl : k = m := by omega
      have HRP := Lib.hid (HPT.out ▸ RI.own HO.out)
      have HK1 := Lib.hid (HK0.out.keep HB.out)
      have HB1 := Lib.hid (bch HB0.out HB.out)
      by_cases h1 : (q : Int) < (p : Int) + 52
      · have h2 : ¬ (q : Int) < (len : Int) := by have := HM.out; omega
        go_wp2_with (first
          | (go_at_call 63; (refine (HSE.out _ _ _ HRP.out).mono ?_); rintro e w4 ⟨rfl, hb⟩; have HK4 := Lib.hid (HK1.out.keep hb); have HB4 := Lib.hid (bch HB1.out hb); clear hb)
          | (refine wpList_store_row rfl 92 _ _ rfl w.heap.size (sv l) rfl rfl _ (sv z64) HK4.out.1 (sv_info _ HLL.out) (by rw [sv_size, sv_size, HLL.out, z64_length]) (sv_one _) ?_))
        exact bodyPost_ret_by (v := .agg (sv l)) (results_cell_row rfl _ _ w.heap.size _ (sv l) (0, 0) _ rfl (HK4.out.row HLL.out).1 Tryz.underlying92 rfl (sv_info _ HLL.out)) rfl ⟨rfl, below_row HB4.out (Nat.le_refl _) _⟩
      · go_wp2_with (first
          | (go_at_call 63; (refine (HSE.out _ _ _ HRP.out).mono ?_); rintro e w4 ⟨rfl, hb⟩; have HK4 := Lib.hid (HK1.out.keep hb); have HB4 := Lib.hid (bch HB1.out hb); clear hb)
          | (refine wpList_store_row rfl 92 _ _ rfl w.heap.size (sv l) rfl rfl _ (sv z64) HK4.out.1 (sv_info _ HLL.out) (by rw [sv_size, sv_size, HLL.out, z64_length]) (sv_one _) ?_))
        exact bodyPost_ret_by (v := .agg (sv l)) (results_cell_row rfl _ _ w.heap.size _ (sv l) (0, 0) _ rfl (HK4.out.row HLL.out).1 Tryz.underlying92 rfl (sv_info _ HLL.out)) rfl ⟨rfl, below_row HB4.out (Nat.le_refl _) _⟩
end Go.Proofs.YtnmplnemnfonfaaGreatDoor
namespace Go.Proofs.YtnmplnemnfonfaaGreatDoor
open Go.RowKit
set_option maxRecDepth 8000 in
set_option maxHeartbeats 1000000 in
theorem rwhole_own (x : Int) (hx : U64 x) (v : Value) (len : Nat) (zs : List Int) (hlen : len ≤ 1000000) (t : Int) (ht : I63 t) (w : World) (h : RI .u8 w v len zs) :
    Calls Tryz.prog 16 #[.int .u64 x, v, .int .i64 t] w fun e w' => ∃ v', e = .returned v' ∧ w'.ownsRow w.heap.size 92 64 v' 16 (il .u8 (wholeK x zs (touchN 0 (nr t)).2 16)) ∧ Below w.heap.size w w' := by
  have h00 : nr 0 = 0 := by decide
  have HT : Hid (∀ w : World, Calls Tryz.prog 35 #[.int .i64 0, .int .i64 t] w fun e w' => e = .returned (.tuple #[.int .i64 ((touchN 0 (nr t)).1 : Int), .int .i64 ((touchN 0 (nr t)).2 : Int)]) ∧ w' = w) := fun w => by
    have := rtouch_any 0 t (by unfold I63; omega) ht w
    rwa [h00] at this
  obtain ⟨_, hb16, _⟩ := touch_le 0 (nr t) (nr_le t)
  generalize (touchN 0 (nr t)).2 = b at *
  generalize (touchN 0 (nr t)).1 = a at *
  have HR := Lib.hid h
  have HX := Lib.hid hx
  have HZ := Lib.hid z64_cells
  clear h hx ht h00
  go_enter Tryz.func16, Tryz.ntmps16
  go_wp2_with (first
    | (go_at_call 35; (with_reducible refine (HT.out _).mono ?_); rintro e w1 ⟨rfl, hw⟩; obtain rfl := hw.symm))
  go_loopw [9, 10] (fun v iv wr => ∃ k : Nat, iv = .int .i64 (k : Int) ∧ k ≤ 16 ∧ Hid (wr.ownsRow w.heap.size 92 64 v k (il .u8 (wholeK x zs b k))) ∧ Hid (Below w.heap.size w wr)) (fun _ iv _ => 16 - (intOf iv).toNat)
  case atStart => exact ⟨0, rfl, by omega, Lib.hid (World.ownsRow_nil _ _ _ _), Lib.hid (Below.refl _ _)⟩
  case round =>
    obtain ⟨k, rfl, hk, HO, HB⟩ := hrel
    by_cases hlt : (k : Int) < 16
    · by_cases hkb : (k : Int) < (b : Int)
      · obtain ⟨l, hl⟩ : ∃ l, sealed x (k : Int) (partB zs k) = l := ⟨_, rfl⟩
        have HLL := Lib.hid (show l.length = 64 from by rw [← hl]; exact sealed_length _ _ _)
        have HNX := Lib.hid (show wholeK x zs b k ++ l = wholeK x zs b (k + 1) from by rw [wholeK, hl, if_pos (by omega)])
        have HS : Hid (∀ (w : World), RI .u8 w v len zs → Calls Tryz.prog 36 #[.int .u64 x, v, .int .i64 (k : Int)] w fun e w' => e = .returned (.agg (sv l)) ∧ Below w.heap.size w w') := fun w h => by
          rw [← hl]; exact rsector_any x HX.out v len zs hlen k (by omega) w h
        have HR1 := Lib.hid (HR.out.keep HB.out)
        clear hl
        go_wp2_with (first
          | (go_at_call 36; (with_reducible refine (HS.out _ HR1.out).mono ?_); rintro e w3 ⟨rfl, hb⟩; have HO3 := Lib.hid (own_keep HO.out hb); have HB3 := Lib.hid (bch HB.out hb); clear hb)
          | (refine wpl_build_sec rfl _ rfl l HLL.out rfl ?_)
          | (at_builtin; refine wpl_app_sec rfl (.tmp 23) (.tmp 28) rfl w.heap.size _ k _ rfl (HO3.out.alloc _) w3.heap.size l rfl (Blk.new w3 l HLL.out) (by omega) w.heap.size w (HB3.out.alloc HB3.out.size _) (Nat.le_refl _) (by have := HB3.out.size; simp; omega) ?_; intro v' w4 HO4 HB4; have HO4 := Lib.hid (HNX.out ▸ HO4.out)))
        go_roundw
        case rel => exact ⟨k + 1, by go_num, by omega, HO4, HB4⟩
        case measure => simp [intOf]; omega
      · have HNX := Lib.hid (show wholeK x zs b k ++ z64 = wholeK x zs b (k + 1) from by rw [wholeK, if_neg (by omega)])
        go_wp2_with (first
          | (rw [← HZ.out]; refine wpl_build_sec rfl _ rfl z64 z64_length rfl ?_)
          | (refine wpl_build_sec rfl _ rfl z64 z64_length (by rw [HZ.out]; rfl) ?_)
          | (at_builtin; refine wpl_app_sec rfl (.tmp 30) (.tmp 32) rfl w.heap.size _ k _ rfl (HO.out.alloc _) wr.heap.size z64 rfl (Blk.new wr z64 z64_length) (by omega) w.heap.size w (HB.out.alloc HB.out.size _) (Nat.le_refl _) (by have := HB.out.size; simp; omega) ?_; intro v' w4 HO4 HB4; have HO4 := Lib.hid (HNX.out ▸ HO4.out)))
        go_roundw
        case rel => exact ⟨k + 1, by go_num, by omega, HO4, HB4⟩
        case measure => simp [intOf]; omega
    · obtain rfl : k = 16 := by omega
      go_wp2
      go_ret
      exact ⟨_, rfl, HO.out, HB.out⟩
end Go.Proofs.YtnmplnemnfonfaaGreatDoor
