/-
  WHAT THE PROGRAM'S OWN Pack OF LAYER 4 (field) ANSWERS (for the layers behind it, too). Bytes must lie where the slices say; sizes as the theorems say.
-/
import Derived.Test.YtmcfnlfaclkbhaaFieldLay
namespace Go.Proofs.Ytmcfnlfaclkbhaa
open Go.RowKit
set_option maxRecDepth 8000 in
theorem fpack_own (v : Value) (n : Nat) (ls : List (List Int)) (w : World) (hri : RL .u8 w v n ls) (hn : (n : Int) * 65539 ≤ 140737488289789) (m : Nat) (hm : (pk ls).length = m) :
    Calls Try.prog 24 #[v] w fun e w' => ∃ v', e = .returned v' ∧ w'.ownsRow w.heap.size 5 1 v' m (il .u8 (pk ls)) ∧ Below w.heap.size w w' := by
  have HRL := Lib.hid hri
  have HM := Lib.hid hm
  clear hri hm
  go_enter Try.func24, Try.ntmps24
  go_wp2_with (first
    | (go_at_call 33; (with_reducible refine (lay_any _ 0 [] _ n ls _ (RI.nil _ _) HRL.out (by omega)).mono ?_); rintro e w1 ⟨v1, rfl, ho1, hb1⟩; have HO1 := Lib.hid ho1; have HB1 := Lib.hid hb1; clear ho1 hb1))
  go_ret
  have h5 := HO1.out
  rw [HM.out, List.nil_append, Nat.zero_add] at h5
  exact ⟨_, rfl, h5, HB1.out⟩
theorem fpack_any (v : Value) (n : Nat) (ls : List (List Int)) (w : World) (hri : RL .u8 w v n ls) (hn : (n : Int) * 65539 ≤ 140737488289789) (m : Nat) (hm : (pk ls).length = m) :
    Calls Try.prog 24 #[v] w fun e w' => ∃ v', e = .returned v' ∧ RI .u8 w' v' m (pk ls) ∧ Below w.heap.size w w' :=
  (fpack_own v n ls w hri hn m hm).mono fun _ _ ⟨v', he, ho, hb⟩ => ⟨v', he, RI.own ho, hb⟩
end Go.Proofs.Ytmcfnlfaclkbhaa
