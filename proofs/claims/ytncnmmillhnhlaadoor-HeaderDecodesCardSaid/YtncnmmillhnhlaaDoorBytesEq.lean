/-
  WHAT bytes.Equal ANSWERS. Bytes must lie where the slices say.
-/
import Derived.Test.YtncnmmillhnhlaaDoorBelow
import Derived.Test.YtncnmmillhnhlaaDoorIsB
namespace Go.Proofs.YtncnmmillhnhlaaDoor
open Go.RowKit
theorem bequal_any (v v' : Value) (n n' : Nat) (d d' : List Int) (w : World) (h1 : RI .u8 w v n d) (h2 : RI .u8 w v' n' d') (hb1 : isB d) (hb2 : isB d') :
    Calls Tryd.prog 16 #[v, v'] w fun e w' => e = .returned (.bool (decide (d = d'))) ∧ w = w' := by
  have q1 := conv_ri h1
  have q2 := conv_ri h2
  by_cases hd : d = d'
  · subst hd
    rw [show decide (d = d) = true from by simp]
    clear h1 h2 hb1 hb2
    go_enter Tryd.func16, Tryd.ntmps16
    go_wp2
    go_ret
    exact ⟨rfl, rfl⟩
  · rw [show decide (d = d') = false from by simp [hd]]
    have hs2 := str_ne (fun e => hd (strOfNums_inj hb1 hb2 e))
    clear h1 h2 hb1 hb2
    go_enter Tryd.func16, Tryd.ntmps16
    go_wp2
    go_ret
    exact ⟨rfl, rfl⟩
end Go.Proofs.YtncnmmillhnhlaaDoor
