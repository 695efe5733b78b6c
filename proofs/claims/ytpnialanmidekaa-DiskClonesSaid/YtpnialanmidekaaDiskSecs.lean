/-
  LAYER 8 (disk): rows of bools that a call makes. Nothing here speaks of the program's functions. No condition.
-/
import Derived.Test.YtpnialanmidekaaDiskSt
import Derived.Test.YtpnialanmidekaaSecsB
namespace Go.Proofs.Ytpnialanmidekaa
open Go.RowKit
section
variable {w : World} {ops : Array Oper} {rest : List Oper} {o : Oper} {a : Act} {Q : Exit → Act → World → Prop}
/-- append of one bool to a row of bools that the call made -/
theorem wpl_app_bool (hgd : o.guard = none) (s x : Operand)
    (ho : o.op = .call { callee := .builtin .append, args := #[s, x], argTypes := #[80, 80] })
    (base : Nat) (v : Value) (n : Nat) (bs : List Bool) (hs : a.eval s = v) (hown : Hid (w.ownsRow base 4 1 v n (bs.map .bool)))
    (g : Nat) (y : Bool) (hx : a.eval x = .slice (some ⟨g, 0, none⟩) 1 1) (hcell : w.cell? ⟨g, 0, none⟩ = some (.bool y)) (hn : n ≤ 1000000000000)
    (B : Nat) (W : World) (hb : Hid (Below B W w)) (hB : B ≤ base) (hbase : base ≤ w.heap.size)
    (h : ∀ v' w', Hid (w'.ownsRow base 4 1 v' (n + 1) ((bs ++ [y]).map .bool)) → Hid (Below B W w') → Hid (w.grownBy w' v.ownBlock) → wpList Try.prog ops Q rest (a.put o.dst v') w') : wpList Try.prog ops Q (o :: rest) a w := by
  obtain ⟨i, hi, hz0, hz1, hz2⟩ := info_parts bool_parts
  refine wpList_append_own_wide w hgd s x 80 ho base 4 i (.bool false) 1 1 Try.underlying80 hi hz0 hz1 hz2 rfl (by omega) v n (bs.map .bool) hs hown.out ⟨g, 0, none⟩ 1 1 [.bool y] hx rfl ?_ (by simp [Value.oneCell']) (by unfold maxLen; omega) (by omega) hbase ?_
  · intro j u hj
    match j, hj with
    | 0, hj => simp at hj; subst hj; simpa [Addr.add] using hcell
  · intro v' w' h1 h2 _
    exact h v' w' (by rw [List.map_append]; exact h1) (hb.out.grown h2 (by omega) (fun q hq => by have := (hown.out.lt q hq).1; omega)) h2
end
end Go.Proofs.Ytpnialanmidekaa
