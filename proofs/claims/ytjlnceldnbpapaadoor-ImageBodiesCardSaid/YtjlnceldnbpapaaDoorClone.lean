/-
  WHAT bytes.Clone ANSWERS. Bytes must lie where the slice says; a bound on their number.
-/
import Derived.Test.YtjlnceldnbpapaaDoorInfo
import Derived.Test.YtjlnceldnbpapaaDoorBelow
import Derived.Lib.SliceRun
namespace Go.Proofs.YtjlnceldnbpapaaDoor
open Go.RowKit
set_option maxRecDepth 8000 in
theorem clone_any (v : Value) (len : Nat) (zs : List Int) (w : World) (hri : RI .u8 w v len zs) (hlen : (len : Int) ≤ 200000000000000) :
    Calls Tryd.prog 38 #[v] w fun e w' => ∃ v', e = .returned v' ∧ w'.ownsRow w.heap.size 5 1 v' len (il .u8 zs) ∧ Below w.heap.size w w' := by
  have HR := Lib.hid hri
  obtain ⟨a, cap, rfl, hl, hlc, _, hnil, _⟩ := hri
  cases a with
  | none =>
    obtain rfl : cap = 0 := hnil rfl
    obtain rfl : len = 0 := by omega
    obtain rfl : zs = [] := List.length_eq_zero_iff.1 hl
    have he : (binOp .eql 26 (.slice none 0 0) (.slice none 0 0)).run Tryd.prog w = .ok (.bool true) w := Lib.run_eql_slice_nil w _ _ none 0 0 0 0 Tryd.underlying26
    clear hl hlc hnil
    go_enter Tryd.func38, Tryd.ntmps38
    go_wp2
    go_ret
    exact ⟨_, rfl, World.ownsRow_nil _ _ _ _, Below.refl _ _⟩
  | some x =>
    have he : (binOp .eql 26 (.slice (some x) len cap) (.slice none 0 0)).run Tryd.prog w = .ok (.bool false) w := Lib.run_eql_slice_nil w _ _ (some x) len cap 0 0 Tryd.underlying26
    clear hl hnil
    go_enter Tryd.func38, Tryd.ntmps38
    go_wp2_with (first
      | (at_builtin; go_loud (refine wpl_appn rfl (.tmp 5) (.tmp 6) 26 rfl 5 .u8 1 Tryd.underlying26 Tryd.info_u8 w.heap.size _ 0 [] rfl (own_empty rfl (by omega)) _ len zs rfl (HR.out.keep ((Below.refl _ _).alloc (Nat.le_refl _) _)) (by omega) (by omega) w.heap.size w ((Below.refl _ _).alloc (Nat.le_refl _) _) (Nat.le_refl _) (by simp) ?_); intro v1 w4 HO1 HB1))
    go_ret
    have h5 := HO1.out
    rw [Nat.zero_add, List.nil_append] at h5
    exact ⟨_, rfl, h5, HB1.out⟩
end Go.Proofs.YtjlnceldnbpapaaDoor
