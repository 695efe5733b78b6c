/-
  TEXTS JOINED: Drawn, Two, BitR, Bit, Tmask, Texts, Info. Each one's own words stand at its head.
-/
import Derived.Test.YtgegbpnmfpjdmaaGreatDoorJ0
import Derived.Deep.QuietTactic
import Derived.BigQuiet
import Derived.Below
import Derived.Test.YtgegbpnmfpjdmaaGreatDoorJ3
import Derived.Lib.Hide
import Derived.Deep.RegionHeld3
import Derived.Deep.DeepAppendWide
namespace Go.Proofs.YtgegbpnmfpjdmaaGreatDoor
open Go.RowKit
def Drawn (w w' : World) : Prop := ∃ n, w' = w.drewN n
theorem Drawn.cell {w w' : World} (h : Drawn w w') (a : Addr) : w'.cell? a = w.cell? a := by obtain ⟨n, rfl⟩ := h; simp
theorem Drawn.refl (w : World) : Drawn w w := ⟨0, rfl⟩
theorem Drawn.then {w w' : World} (h : Drawn w w') (n : Nat) : Drawn w (w'.drewN n) := by obtain ⟨m, rfl⟩ := h; exact ⟨_, World.drewN_drewN _ _ _⟩
theorem Drawn.grown {w w' : World} (h : Drawn w w') : Below w.heap.size w w' := by
  obtain ⟨n, rfl⟩ := h
  exact ⟨rfl, rfl, rfl, Nat.le_refl _, fun _ _ => rfl⟩
end Go.Proofs.YtgegbpnmfpjdmaaGreatDoor
namespace Go.Proofs.YtgegbpnmfpjdmaaGreatDoor
open Go.RowKit
end Go.Proofs.YtgegbpnmfpjdmaaGreatDoor
namespace Go.Proofs.YtgegbpnmfpjdmaaGreatDoor
open Go.RowKit
def bitB (zs : List Int) (k : Nat) : Bool := decide (zs.getD (k / 8) 0 / 2 ^ (k % 8) % 2 = 1)
theorem bit_mask (x : Int) (h : 0 ≤ x ∧ x ≤ 255) (s : Nat) : (bits .and .u8 (x / 2 ^ s) 1 == 1) = decide (x / 2 ^ s % 2 = 1) := by
  have h0 : 0 ≤ x / 2 ^ s := Int.ediv_nonneg h.1 (Int.le_of_lt (pow_pos' _))
  have h1 : x / 2 ^ s ≤ x := Int.ediv_le_self _ h.1
  rw [show bits .and .u8 (x / 2 ^ s) 1 = x / 2 ^ s % 2 from bits_mask .u8 8 (by decide) wraps_u8 1 (by decide) _ h0 (by omega)]
  rw [Bool.eq_iff_iff]; simp
def bitI (zs : List Int) (i : Int) : Bool := decide (0 ≤ i) && decide (i / 8 < (zs.length : Int)) && bitB zs i.toNat
end Go.Proofs.YtgegbpnmfpjdmaaGreatDoor
namespace Go.Proofs.YtgegbpnmfpjdmaaGreatDoor
open Go.RowKit
set_option maxHeartbeats 400000 in
theorem bit_some (b off len cap : Nat) (zs : List Int) (k : Nat) (w : World) (hz : Bytes zs) (hi : (k : Int) ≤ 9223372036854775807) (hmax : len ≤ 9223372036854775807) (hk : k / 8 < len)
    (hc : ∀ j, j < len → w.cell? ⟨b, off + j, none⟩ = some (.int .u8 (zs.getD j 0))) :
    Calls Tryz.prog 79 #[.slice (some ⟨b, off, none⟩) len cap, .int .i64 k] w fun e w' => e = .returned (.bool (bitB zs k)) ∧ w = w' := by
  have h1 : (k : Int) / 8 < len := by omega
  have hcell : w.cell? ⟨b, off + k / 8, none⟩ = some (.int .u8 (zs.getD (k / 8) 0)) := hc _ hk
  have hb : 0 ≤ zs[k / 8]?.getD 0 ∧ zs[k / 8]?.getD 0 ≤ 255 := hz (k / 8)
  have HB := Lib.hid (bit_mask _ hb (k % 8))
  go_enter Tryz.func79, Tryz.ntmps79
  go_wp2
  go_ret
  exact ⟨ret_bool HB.out, rfl⟩
theorem bit_no (a : Option Addr) (len cap : Nat) (i : Int) (w : World) (hi : I63 i) (h : i < 0 ∨ (0 ≤ i ∧ (len : Int) ≤ i / 8)) :
    Calls Tryz.prog 79 #[.slice a len cap, .int .i64 i] w fun e w' => e = .returned (.bool false) ∧ w = w' := by
  unfold I63 at hi
  rcases h with h | ⟨h, h1⟩
  all_goals
    go_enter Tryz.func79, Tryz.ntmps79
    go_wp2
    go_ret
    exact ⟨rfl, rfl⟩
end Go.Proofs.YtgegbpnmfpjdmaaGreatDoor
namespace Go.Proofs.YtgegbpnmfpjdmaaGreatDoor
open Go.RowKit
end Go.Proofs.YtgegbpnmfpjdmaaGreatDoor
namespace Go.Proofs.YtgegbpnmfpjdmaaGreatDoor
open Go.RowKit
def SS (w : World) (v : Value) (l : List ByteArray) : Prop := CS 1 w v l.length (l.map .string)
theorem SS.kin {w w' : World} (hb : Kin w w') {v : Value} {l : List ByteArray} (h : SS w v l) : SS w' v l := CS.kin hb h
theorem SS.at_ {w : World} {a : Option Addr} {n cap : Nat} {l : List ByteArray} (h : SS w (.slice a n cap) l) (i : Nat) (s : ByteArray) (hs : l[i]? = some s) :
    ∃ b off, a = some ⟨b, off, none⟩ ∧ w.cell? ⟨b, off + i, none⟩ = some (.string s) := by
  obtain ⟨hi, rfl⟩ := List.getElem?_eq_some_iff.1 hs
  have hn : n = l.length := by obtain ⟨_, _, hv, _⟩ := h; simp at hv; exact hv.2.1
  subst hn
  obtain ⟨b, off, rfl, hc⟩ := CS.at_ h i hi
  refine ⟨b, off, rfl, ?_⟩
  have h1 := hc 0 (by omega)
  simpa [hi] using h1
theorem SS.below {w w' : World} {v : Value} {l : List ByteArray} (h : SS w v l) (hb : Below w.heap.size w w') : SS w' v l := h.kin (Kin.below hb)
theorem str_parts : (Tryz.prog.info? 9).map (fun i => (i.zero, i.size, i.bytes)) = some (some (.string ByteArray.empty), 1, 16) := by kernel_rfl
theorem wpl_app_str {w : World} {ops : Array Oper} {rest : List Oper} {o : Oper} {a : Act} {Q : Exit → Act → World → Prop} (hgd : o.guard = none) (s x : Operand)
    (ho : o.op = .call { callee := .builtin .append, args := #[s, x], argTypes := #[124, 124] })
    (base : Nat) (v : Value) (n : Nat) (xs : List Value) (hs : a.eval s = v) (hown : Hid (w.ownsRow base 9 1 v n xs))
    (ad : Addr) (y : ByteArray) (hx : a.eval x = .slice (some ad) 1 1) (hcell : w.cell? ad = some (.string y)) (hn : n ≤ 1000000) (hbase : base ≤ w.heap.size)
    (h : ∀ v' w', Hid (w'.ownsRow base 9 1 v' (n + 1) (xs ++ [.string y])) → Hid (w.grownBy w' v.ownBlock) → wpList Tryz.prog ops Q rest (a.put o.dst v') w') : wpList Tryz.prog ops Q (o :: rest) a w := by
  obtain ⟨i, hi, hz0, hz1, hz2⟩ := info_parts str_parts
  refine wpList_append_own_wide w hgd s x 124 ho base 9 i (.string ByteArray.empty) 1 16 Tryz.underlying124 hi hz0 hz1 hz2 rfl (by omega) v n xs hs hown.out ad 1 1 [.string y] hx rfl ?_ (by simp [Value.oneCell']) (by unfold maxLen; omega) (by omega) hbase ?_
  · intro j u hj
    match j, hj with
    | 0, hj => simp at hj; subst hj; simpa [Addr.add] using hcell
  · intro v' w' h1 h2 _
    exact h v' w' h1 h2
theorem grown_alloc_trans {w w1 w2 : World} {o : Obj} {row : Option Nat} (h : (w1.alloc o).grownBy w2 row) (hb : Below w.heap.size w w1) (hr : ∀ j, row = some j → w.heap.size ≤ j) : Below w.heap.size w w2 :=
  (hb.alloc hb.size o).grown h (by have := hb.size; have e : (w1.alloc o).heap.size = w1.heap.size + 1 := by { show (w1.heap.push o).size = _; simp }; omega) hr
end Go.Proofs.YtgegbpnmfpjdmaaGreatDoor
namespace Go.Proofs.YtgegbpnmfpjdmaaGreatDoor
theorem Tryz.info_u8 : (Tryz.prog.info? 5).map (fun i => (i.zero, i.size, i.bytes)) = some (some (.int .u8 0), 1, 1) := by kernel_rfl
end Go.Proofs.YtgegbpnmfpjdmaaGreatDoor
