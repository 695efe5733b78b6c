/-
  THE PROGRAM'S OWN FUNCTIONS OF LAYER 10 (op) MEET WHAT THE LAWS' WALKS ASK OF THEM. No condition.
-/
import Derived.Test.YtnkccconkongeaaOpSays
import Derived.Test.YtnkccconkongeaaOpEqual
import Derived.Test.YtnkccconkongeaaOpPut
import Derived.Test.YtnkccconkongeaaOpGo
namespace Go.Proofs.Ytnkccconkongeaa
open Go.RowKit
set_option maxRecDepth 8000 in
theorem osame_any (v1 v2 : Value) (l1 l2 : List AO) (w : World) (h1 : OS w v1 l1) (h2 : OS w v2 l2) :
    Calls Try.prog 13 #[v1, v2] w fun e w' => e = .returned (.bool (decide (l1 = l2))) ∧ Below w.heap.size w w' := by
  have HE := Lib.hid (opequal_any v1 v2 l1 l2 w h1 h2)
  clear h1 h2
  go_enter Try.func13, Try.ntmps13
  go_wp2_with (first
    | (go_at_call 23; (with_reducible refine HE.out.mono ?_); rintro e w1 ⟨rfl, hb1⟩; have HB1 := Lib.hid hb1; clear hb1))
  go_ret
  exact ⟨rfl, HB1.out⟩
theorem op_says : OpSays where
  right := oright_any
  put := fun v len zs k s t w hri hlen hr => oput_right v len zs k s t w hri hlen hr
  wrong := fun v len zs k s t w hri hlen hr => oput_wrong v len zs k s t w hri hlen hr
  get := fun v len zs w hri hb hlen => oget_any v len zs w hri hb hlen
  same := osame_any
end Go.Proofs.Ytnkccconkongeaa
