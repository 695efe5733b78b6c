/-
  TEXTS JOINED: BitR, Bit, Tmask, Texts, Info, Fill, IsB. Each one's own words stand at its head.
-/
import Derived.Test.YtgegbpnmfpjdmaaGreatDoorJ3
import Derived.Lib.Hide
import Derived.Deep.QuietTactic
import Derived.Deep.RegionHeld3
import Derived.BigQuiet
import Derived.Test.YtgegbpnmfpjdmaaGreatDoorJ0
import Derived.Test.YtgegbpnmfpjdmaaGreatDoorJ1
import Derived.Deep.DeepAppendWide
import Derived.Deep.MidRow
namespace Go.Proofs.YtgegbpnmfpjdmaaGreatDoor
open Go.RowKit
def bitB (zs : List Int) (k : Nat) : Bool := decide (zs.getD (k / 8) 0 / 2 ^ (k % 8) % 2 = 1)
theorem bit_mask (x : Int) (h : 0 ≤ x ∧ x ≤ 255) (s : Nat) : (bits .and .u8 (x / 2 ^ s) 1 == 1) = decide (x / 2 ^ s % 2 = 1) := by
  have h0 : 0 ≤ x / 2 ^ s := Int.ediv_nonneg h.1 (Int.le_of_lt (pow_pos' _))
  have h1 : x / 2 ^ s ≤ x := Int.ediv_le_self _ h.1
  rw [show bits .and .u8 (x / 2 ^ s) 1 = x / 2 ^ s % 2 from bits_mask .u8 8 (by decide) wraps_u8 1 (by decide) _ h0 (by omega)]
  rw [Bool.eq_iff_iff]; simp
theorem rbit_no (a : Option Addr) (len cap : Nat) (i : Int) (w : World) (hi : I63 i) (h : i < 0 ∨ (0 ≤ i ∧ (len : Int) ≤ i / 8)) :
    Calls Tryz.prog 47 #[.slice a len cap, .int .i64 i] w fun e w' => e = .returned (.bool false) ∧ Drawn w w' := by
  unfold I63 at hi
  rcases h with h | ⟨h, h1⟩
  · have hd : decide (0 ≤ i) = false := by simpa using h
    go_enter Tryz.func47, Tryz.ntmps47
    go_wp2_with fail
    go_quiet (fail)
    go_wp2
    go_ret
    exact ⟨rfl, ⟨_, rfl⟩⟩
  · have hd : decide (i / 8 < (len : Int)) = false := by simpa using h1
    go_enter Tryz.func47, Tryz.ntmps47
    go_wp2_with fail
    go_quiet (fail)
    go_wp2
    go_ret
    exact ⟨rfl, ⟨_, rfl⟩⟩
set_option maxHeartbeats 400000 in
theorem rbit_some (b off len cap : Nat) (zs : List Int) (k : Nat) (w : World) (hz : Bytes zs) (hi : (k : Int) ≤ 9223372036854775807) (hmax : len ≤ 9223372036854775807) (hk : k / 8 < len)
    (hc : ∀ j, j < len → w.cell? ⟨b, off + j, none⟩ = some (.int .u8 (zs.getD j 0))) :
    Calls Tryz.prog 47 #[.slice (some ⟨b, off, none⟩) len cap, .int .i64 k] w fun e w' => e = .returned (.bool (bitB zs k)) ∧ Drawn w w' := by
  have h1 : (k : Int) / 8 < len := by omega
  have h3 : 0 ≤ (k : Int) / 8 := by omega
  have hcell : w.cell? ⟨b, off + k / 8, none⟩ = some (.int .u8 (zs.getD (k / 8) 0)) := hc _ hk
  have hb : 0 ≤ zs[k / 8]?.getD 0 ∧ zs[k / 8]?.getD 0 ≤ 255 := hz (k / 8)
  have ht := two_small (k % 8) (by omega)
  have ht1 := two_pos (k % 8) (by omega)
  have HT := Lib.hid ht; clear ht
  have hq0 : 0 ≤ zs[k / 8]?.getD 0 / two (k % 8) := Int.ediv_nonneg hb.1 (by omega)
  go_enter Tryz.func47, Tryz.ntmps47
  go_wp2_with fail
  have hu : IntKind.u64.wrap (zs[k / 8]?.getD 0) = zs[k / 8]?.getD 0 := IntWalk.u64_in _ (by omega)
  go_quiet ((go_at_call 80; exact quiet_eq (two_at _ (k % 8) (by omega) (by omega) _)))
  clear hu
  go_wp2
  go_ret
  refine ⟨ret_bool ?_, ⟨_, rfl⟩⟩
  rw [HT.out]
  unfold bitB
  rw [Bool.eq_iff_iff]; simp
def bitI (zs : List Int) (i : Int) : Bool := decide (0 ≤ i) && decide (i / 8 < (zs.length : Int)) && bitB zs i.toNat
theorem rbit_ri (v : Value) (len : Nat) (zs : List Int) (i : Int) (w : World) (h : RI .u8 w v len zs) (hz : Bytes zs) (hi : I63 i) :
    Calls Tryz.prog 47 #[v, .int .i64 i] w fun e w' => e = .returned (.bool (bitI zs i)) ∧ Below w.heap.size w w' := by
  have hl := h.length
  have hle := h.le
  unfold I63 at hi
  by_cases h1 : 0 ≤ i ∧ i / 8 < (len : Int)
  · obtain ⟨k, rfl⟩ : ∃ k : Nat, i = (k : Int) := ⟨i.toNat, by omega⟩
    obtain ⟨b, off, cap, rfl, _, _, hc⟩ := h.open_ (by omega)
    refine (rbit_some b off len cap zs k w hz (by omega) hle (by omega) hc).mono ?_
    rintro e w' ⟨rfl, n, rfl⟩
    refine ⟨?_, ?_⟩
    · unfold bitI; rw [hl, decide_eq_true h1.1, decide_eq_true h1.2]; rfl
    · exact ⟨rfl, rfl, rfl, Nat.le_refl _, fun _ _ => rfl⟩
  · obtain ⟨a, cap, rfl, _⟩ := h
    refine (rbit_no a len cap i w (by unfold I63; omega) (by omega)).mono ?_
    rintro e w' ⟨rfl, n, rfl⟩
    refine ⟨?_, ?_⟩
    · unfold bitI
      rw [hl]
      by_cases h2 : 0 ≤ i
      · rw [decide_eq_false (p := i / 8 < (len : Int)) (by omega)]; simp
      · rw [decide_eq_false h2]; simp
    · exact ⟨rfl, rfl, rfl, Nat.le_refl _, fun _ _ => rfl⟩
end Go.Proofs.YtgegbpnmfpjdmaaGreatDoor
namespace Go.Proofs.YtgegbpnmfpjdmaaGreatDoor
open Go.RowKit
set_option maxHeartbeats 400000 in
theorem bit_some (b off len cap : Nat) (zs : List Int) (k : Nat) (w : World) (hz : Bytes zs) (hi : (k : Int) ≤ 9223372036854775807) (hmax : len ≤ 9223372036854775807) (hk : k / 8 < len)
    (hc : ∀ j, j < len → w.cell? ⟨b, off + j, none⟩ = some (.int .u8 (zs.getD j 0))) :
    Calls Tryz.prog 79 #[.slice (some ⟨b, off, none⟩) len cap, .int .i64 k] w fun e w' => e = .returned (.bool (bitB zs k)) ∧ w = w' := by
  have h1 : (k : Int) / 8 < len := by omega
  have hcell : w.cell? ⟨b, off + k / 8, none⟩ = some (.int .u8 (zs.getD (k / 8) 0)) := hc _ hk
  have hb : 0 ≤ zs[k / 8]?.getD 0 ∧ zs[k / 8]?.getD 0 ≤ 255 := hz (k / 8)
  have HB := Lib.hid (bit_mask _ hb (k % 8))
  go_enter Tryz.func79, Tryz.ntmps79
  go_wp2
  go_ret
  exact ⟨ret_bool HB.out, rfl⟩
theorem bit_no (a : Option Addr) (len cap : Nat) (i : Int) (w : World) (hi : I63 i) (h : i < 0 ∨ (0 ≤ i ∧ (len : Int) ≤ i / 8)) :
    Calls Tryz.prog 79 #[.slice a len cap, .int .i64 i] w fun e w' => e = .returned (.bool false) ∧ w = w' := by
  unfold I63 at hi
  rcases h with h | ⟨h, h1⟩
  all_goals
    go_enter Tryz.func79, Tryz.ntmps79
    go_wp2
    go_ret
    exact ⟨rfl, rfl⟩
end Go.Proofs.YtgegbpnmfpjdmaaGreatDoor
namespace Go.Proofs.YtgegbpnmfpjdmaaGreatDoor
open Go.RowKit
end Go.Proofs.YtgegbpnmfpjdmaaGreatDoor
namespace Go.Proofs.YtgegbpnmfpjdmaaGreatDoor
open Go.RowKit
def SS (w : World) (v : Value) (l : List ByteArray) : Prop := CS 1 w v l.length (l.map .string)
theorem SS.kin {w w' : World} (hb : Kin w w') {v : Value} {l : List ByteArray} (h : SS w v l) : SS w' v l := CS.kin hb h
theorem SS.at_ {w : World} {a : Option Addr} {n cap : Nat} {l : List ByteArray} (h : SS w (.slice a n cap) l) (i : Nat) (s : ByteArray) (hs : l[i]? = some s) :
    ∃ b off, a = some ⟨b, off, none⟩ ∧ w.cell? ⟨b, off + i, none⟩ = some (.string s) := by
  obtain ⟨hi, rfl⟩ := List.getElem?_eq_some_iff.1 hs
  have hn : n = l.length := by obtain ⟨_, _, hv, _⟩ := h; simp at hv; exact hv.2.1
  subst hn
  obtain ⟨b, off, rfl, hc⟩ := CS.at_ h i hi
  refine ⟨b, off, rfl, ?_⟩
  have h1 := hc 0 (by omega)
  simpa [hi] using h1
theorem SS.below {w w' : World} {v : Value} {l : List ByteArray} (h : SS w v l) (hb : Below w.heap.size w w') : SS w' v l := h.kin (Kin.below hb)
theorem str_parts : (Tryz.prog.info? 9).map (fun i => (i.zero, i.size, i.bytes)) = some (some (.string ByteArray.empty), 1, 16) := by kernel_rfl
theorem wpl_app_str {w : World} {ops : Array Oper} {rest : List Oper} {o : Oper} {a : Act} {Q : Exit → Act → World → Prop} (hgd : o.guard = none) (s x : Operand)
    (ho : o.op = .call { callee := .builtin .append, args := #[s, x], argTypes := #[124, 124] })
    (base : Nat) (v : Value) (n : Nat) (xs : List Value) (hs : a.eval s = v) (hown : Hid (w.ownsRow base 9 1 v n xs))
    (ad : Addr) (y : ByteArray) (hx : a.eval x = .slice (some ad) 1 1) (hcell : w.cell? ad = some (.string y)) (hn : n ≤ 1000000) (hbase : base ≤ w.heap.size)
    (h : ∀ v' w', Hid (w'.ownsRow base 9 1 v' (n + 1) (xs ++ [.string y])) → Hid (w.grownBy w' v.ownBlock) → wpList Tryz.prog ops Q rest (a.put o.dst v') w') : wpList Tryz.prog ops Q (o :: rest) a w := by
  obtain ⟨i, hi, hz0, hz1, hz2⟩ := info_parts str_parts
  refine wpList_append_own_wide w hgd s x 124 ho base 9 i (.string ByteArray.empty) 1 16 Tryz.underlying124 hi hz0 hz1 hz2 rfl (by omega) v n xs hs hown.out ad 1 1 [.string y] hx rfl ?_ (by simp [Value.oneCell']) (by unfold maxLen; omega) (by omega) hbase ?_
  · intro j u hj
    match j, hj with
    | 0, hj => simp at hj; subst hj; simpa [Addr.add] using hcell
  · intro v' w' h1 h2 _
    exact h v' w' h1 h2
theorem grown_alloc_trans {w w1 w2 : World} {o : Obj} {row : Option Nat} (h : (w1.alloc o).grownBy w2 row) (hb : Below w.heap.size w w1) (hr : ∀ j, row = some j → w.heap.size ≤ j) : Below w.heap.size w w2 :=
  (hb.alloc hb.size o).grown h (by have := hb.size; have e : (w1.alloc o).heap.size = w1.heap.size + 1 := by { show (w1.heap.push o).size = _; simp }; omega) hr
end Go.Proofs.YtgegbpnmfpjdmaaGreatDoor
namespace Go.Proofs.YtgegbpnmfpjdmaaGreatDoor
theorem Tryz.info_u8 : (Tryz.prog.info? 5).map (fun i => (i.zero, i.size, i.bytes)) = some (some (.int .u8 0), 1, 1) := by kernel_rfl
end Go.Proofs.YtgegbpnmfpjdmaaGreatDoor
namespace Go.Proofs.YtgegbpnmfpjdmaaGreatDoor
open Go.RowKit
theorem splice_get {α : Type} (L : List α) (off : Nat) (cs : List α) (hf : off + cs.length ≤ L.length) (q : Nat) :
    (splice L off cs)[q]? = if q < off then L[q]? else if q < off + cs.length then cs[q - off]? else L[q]? := by
  unfold splice
  by_cases h1 : q < off
  · rw [if_pos h1, List.getElem?_append_left (by simp; omega), List.getElem?_take_of_lt h1]
  · rw [if_neg h1, List.getElem?_append_right (by simp; omega), List.length_take, Nat.min_eq_left (by omega)]
    by_cases h2 : q < off + cs.length
    · rw [if_pos h2, List.getElem?_append_left (by omega)]
    · rw [if_neg h2, List.getElem?_append_right (by omega), List.getElem?_drop]
      congr 1; omega
theorem heap_setCells (g : Nat) (t : TypeId) (fr : Nat × Nat) : ∀ (vs : List Value) (o : Nat) (w : World) (cur : List Value), o + vs.length ≤ cur.length → w.heap[g]? = some (.cells cur.toArray t fr) → (w.setCells g o vs).heap[g]? = some (.cells (splice cur o vs).toArray t fr)
  | [], o, w, cur, _, h => by
    have e : splice cur o ([] : List Value) = cur := by simp [splice]
    rw [e]; exact h
  | v :: vs, o, w, cur, hl, h => by
    have h1 : (w.setCell ⟨g, o, none⟩ v).heap[g]? = some (.cells (cur.set o v).toArray t fr) := by
      have := Joins.block_setCell (i := o) h v
      simpa using this
    have h2 := heap_setCells g t fr vs (o + 1) (w.setCell ⟨g, o, none⟩ v) (cur.set o v) (by simp at hl ⊢; omega) h1
    have e : splice (cur.set o v) (o + 1) vs = splice cur o (v :: vs) := by
      refine List.ext_getElem? fun q => ?_
      simp only [List.length_cons] at hl
      rw [splice_get _ _ _ (by simp; omega), splice_get _ _ _ (by simp; omega)]
      by_cases h3 : q < o
      · rw [if_pos (by omega), if_pos h3, List.getElem?_set_ne (by omega)]
      · rw [if_neg h3]
        by_cases h4 : q = o
        · subst h4
          rw [if_pos (by omega), if_pos (by simp), List.getElem?_set_self (by omega), Nat.sub_self]; rfl
        · rw [if_neg (by omega)]
          by_cases h5 : q < o + 1 + vs.length
          · rw [if_pos h5, if_pos (by simp; omega), show q - o = (q - (o + 1)) + 1 from by omega, List.getElem?_cons_succ]
          · rw [if_neg h5, if_neg (by simp; omega), List.getElem?_set_ne (by omega)]
    rw [e] at h2
    exact h2
theorem grown_setCells (g : Nat) : ∀ (vs : List Value) (o : Nat) (w : World), w.grownBy (w.setCells g o vs) (some g)
  | [], _, w => ⟨rfl, rfl, rfl, Nat.le_refl _, fun _ _ _ => rfl⟩
  | v :: vs, o, w => by
    have h := grown_setCells g vs (o + 1) (w.setCell ⟨g, o, none⟩ v)
    have hs : (w.setCell ⟨g, o, none⟩ v).heap.size = w.heap.size := by simp
    exact ⟨h.os, h.tape, h.output, by have := h.size; rw [hs] at this; exact this, fun i hi hne => (h.block i (by rw [hs]; exact hi) hne).trans (Below.heap_setCell w ⟨g, o, none⟩ v i (fun e => hne (by rw [e])))⟩
theorem grown_setCell (g o : Nat) (v : Value) (w : World) : w.grownBy (w.setCell ⟨g, o, none⟩ v) (some g) := grown_setCells g [v] o w
theorem grown_trans {a b c : World} {row : Option Nat} (h : a.grownBy b row) (k : b.grownBy c row) : a.grownBy c row :=
  ⟨k.os.trans h.os, k.tape.trans h.tape, k.output.trans h.output, Nat.le_trans h.size k.size, fun i hi hne => (k.block i (Nat.lt_of_lt_of_le hi h.size) hne).trans (h.block i hi hne)⟩
theorem grown_refl (w : World) (row : Option Nat) : w.grownBy w row := ⟨rfl, rfl, rfl, Nat.le_refl _, fun _ _ _ => rfl⟩
theorem grown_drew {a b : World} {row : Option Nat} (h : a.grownBy b row) : a.grownBy b.drew row := ⟨h.os, h.tape, h.output, h.size, h.block⟩
def RW (w : World) (g : Nat) (zs : List Int) : Prop := w.heap[g]? = some (.cells (il .u8 zs).toArray 60 (0, 0))
theorem RW.keep {w w' : World} {g : Nat} {zs : List Int} (h : RW w g zs) (hb : Below w.heap.size w w') : RW w' g zs := by
  unfold RW at *; rw [hb.block g (Array.getElem?_eq_some_iff.1 h).1]; exact h
theorem RW.fs {w : World} {g n : Nat} {zs : List Int} (h : RW w g zs) (hz : zs.length = n * 64) (hn : n ≤ 1000000) : FS w (.slice (some ⟨g, 0, none⟩) n n) n zs := by
  refine ⟨_, n, rfl, hz, Nat.le_refl _, by omega, fun h => by simp at h, fun _ => ⟨g, 0, rfl, fun j hj => ?_⟩⟩
  rw [Nat.zero_add, cell_of_row w g j _ _ _ h]
  simpa using il_get .u8 zs j (by omega)
theorem wpl_put_row {w : World} {ops : Array Oper} {rest : List Oper} {o : Oper} {a : Act} {Q : Exit → Act → World → Prop} (hgd : o.guard = none) (x y : Operand) (ho : o.op = .store 60 x y)
    (g n i : Nat) (zs ss : List Int) (h : RW w g zs) (hz : zs.length = n * 64) (hi : i < n) (hs : ss.length = 64) (off : Nat) (hoff : i * 64 = off) (hx : a.eval x = .pointer (some ⟨g, off, none⟩)) (hy : a.eval y = .agg (sv ss))
    (hK : ∀ w', Hid (RW w' g (splice zs off ss)) → Hid (w.grownBy w' (some g)) → wpList Tryz.prog ops Q rest (a.put o.dst undef) w') : wpList Tryz.prog ops Q (o :: rest) a w := by
  subst hoff
  have hle : (i + 1) * 64 ≤ n * 64 := Nat.mul_le_mul_right _ hi
  refine wpList_store_mid hgd 60 x y ho g (i * 64) (sv ss) hx hy ?_ (sv_info _ hs) (sv_one _) ?_
  · intro j hj
    rw [sv_size, hs] at hj
    refine ⟨?_, Joins.unfrozen_of_block h _⟩
    rw [cell_of_row w g _ _ _ _ h]
    have := il_get .u8 zs (i * 64 + j) (by omega)
    simp [this]
  · have e : (sv ss).toList = il .u8 ss := by simp [sv]
    rw [e]
    refine hK _ ?_ (grown_setCells _ _ _ _)
    unfold RW
    rw [← il_splice]
    exact heap_setCells g _ _ _ _ _ _ (by rw [il_length, il_length, hs, hz]; omega) h
theorem row_of64 {w : World} {B g : Nat} {e : TypeId} {n : Nat} {xs : List Value} (h : w.ownsRow B e 64 (.slice (some ⟨g, 0, none⟩) n n) n xs) : w.heap[g]? = some (.cells xs.toArray e (0, 0)) := by
  rcases h.2 with ⟨h', _⟩ | ⟨g', cap', cur, h', _, hg, _, _, hcs, htake⟩
  · simp at h'
  · simp only [Value.slice.injEq, Option.some.injEq, Addr.mk.injEq, and_true, true_and] at h'
    obtain ⟨rfl, rfl⟩ := h'
    rw [hg, ← htake, List.take_of_length_le (by simp [hcs])]
end Go.Proofs.YtgegbpnmfpjdmaaGreatDoor
namespace Go.Proofs.YtgegbpnmfpjdmaaGreatDoor
def isB (l : List Int) : Prop := ∀ x ∈ l, 0 ≤ x ∧ x ≤ 255
theorem isB.drop {l : List Int} (h : isB l) (k : Nat) : isB (l.drop k) := fun x hx => h x (List.mem_of_mem_drop hx)
theorem isB.take {l : List Int} (h : isB l) (k : Nat) : isB (l.take k) := fun x hx => h x (List.mem_of_mem_take hx)
theorem isB.append {a b : List Int} (ha : isB a) (hb : isB b) : isB (a ++ b) := fun x hx => (List.mem_append.1 hx).elim (ha x) (hb x)
theorem isB.nil : isB [] := fun x hx => by simp at hx
end Go.Proofs.YtgegbpnmfpjdmaaGreatDoor
