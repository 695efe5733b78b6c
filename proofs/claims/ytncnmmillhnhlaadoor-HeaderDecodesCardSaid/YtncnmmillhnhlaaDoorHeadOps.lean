/-
  HEADERS THAT ARE MADE, STORED AND LOADED in statements whose order is open: the block bears a name. Nothing here speaks of the program's functions. No condition.
-/
import Derived.Test.YtncnmmillhnhlaaDoorHeadPut
namespace Go.Proofs.YtncnmmillhnhlaaDoor
open Go.RowKit
section
variable {o : Oper} {a : Act} {w : World} {K : Act → World → Prop} {Q : Exit → Act → World → Prop} {ops : Array Oper} {rest : List Oper}
theorem hd_parts : (Tryd.prog.info? 25).map (fun i => (i.zero, i.size, i.bytes)) = some (some (.agg (hv noH)), 7, 56) := by kernel_rfl
/-- room for a header -/
theorem wp_new_hd (ho : o.op = .alloc 25) (h : ∀ g w', Hid (HB w' g noH) → Hid (w.heap.size ≤ g) → Hid (Below w.heap.size w w') → K (a.put o.dst (.pointer (some ⟨g, 0, none⟩))) w') : Oper.wp Tryd.prog o a w K Q := by
  have h1 := h w.heap.size (w.alloc (.cells (hv noH) 25)) (HB.new w noH rfl) (Nat.le_refl _) (balloc w _)
  unfold Oper.wp execOp
  simp [ho, go_sem]
  exact h1
/-- a header is stored -/
theorem wp_put_hd (x y : Operand) (ho : o.op = .store 25 x y) (g : Nat) (h0 h1 : Hdr) (hk : HB w g h0) (hn : h1.l.length = 4) (hx : a.eval x = .pointer (some ⟨g, 0, none⟩)) (hy : a.eval y = .agg (hv h1))
    (h : ∀ w', Hid (HB w' g h1) → Hid (w.grownBy w' (some g)) → K (a.put o.dst undef) w') : Oper.wp Tryd.prog o a w K Q :=
  wp_store_row 25 x y ho g (hv h1) hx hy _ (hv h0) hk.1 (hv_info hn) (by rw [hv_size hk.2, hv_size hn]) (hv_one _) (h _ (Lib.hid (hk.row hn)) (Lib.hid (hgrown_row _ _ _)))
theorem wpl_put_hd (hg : o.guard = none) (x y : Operand) (ho : o.op = .store 25 x y) (g : Nat) (h0 h1 : Hdr) (hk : HB w g h0) (hn : h1.l.length = 4) (hx : a.eval x = .pointer (some ⟨g, 0, none⟩)) (hy : a.eval y = .agg (hv h1))
    (h : ∀ w', Hid (HB w' g h1) → Hid (w.grownBy w' (some g)) → wpList Tryd.prog ops Q rest (a.put o.dst undef) w') : wpList Tryd.prog ops Q (o :: rest) a w :=
  wpList_plain hg fun _ hK => wp_put_hd x y ho g h0 h1 hk hn hx hy fun w' h2 h3 => hK _ _ (h w' h2 h3)
theorem wpl_put_sec (hg : o.guard = none) (x y : Operand) (ho : o.op = .store 27 x y) (g : Nat) (l0 l1 : List Int) (hk : Blk w g l0) (hn : l1.length = 64) (hx : a.eval x = .pointer (some ⟨g, 0, none⟩)) (hy : a.eval y = .agg (sv l1))
    (h : ∀ w', Hid (Blk w' g l1) → Hid (w.grownBy w' (some g)) → wpList Tryd.prog ops Q rest (a.put o.dst undef) w') : wpList Tryd.prog ops Q (o :: rest) a w :=
  wpList_store_row hg 27 x y ho g (sv l1) hx hy _ (sv l0) hk.1 (sv_info _ hn) (by rw [sv_size, sv_size, hk.2, hn]) (sv_one _) (h _ (Lib.hid (hk.row hn)) (Lib.hid (hgrown_row _ _ _)))
end
/-- what lies elsewhere stays -/
theorem HB.over {w w' : World} {b g : Nat} {h : Hdr} (k : HB w b h) (hg : w.grownBy w' (some g)) (hne : b ≠ g) : HB w' b h := ⟨(hg.block b k.lt (fun e => hne (Option.some.inj e))).trans k.1, k.2⟩
theorem Blk.over {w w' : World} {b g : Nat} {l : List Int} (k : Blk w b l) (hg : w.grownBy w' (some g)) (hne : b ≠ g) : Blk w' b l :=
  ⟨(hg.block b (Array.getElem?_eq_some_iff.1 k.1).1 (fun e => hne (Option.some.inj e))).trans k.1, k.2⟩
theorem hbelow_grown {w0 w w' : World} {B g : Nat} (h : Below B w0 w) (hg : w.grownBy w' (some g)) (hB : B ≤ g) (h0 : B ≤ w.heap.size) : Below B w0 w' :=
  h.grown hg h0 (fun q hq => by obtain rfl := Option.some.inj hq; exact hB)
theorem HB.set_grown (w : World) (g j : Nat) (v : Value) : w.grownBy (w.setCell ⟨g, j, none⟩ v) (some g) :=
  ⟨rfl, rfl, rfl, by simp, fun i _ hne => heap_setCell_other w ⟨g, j, none⟩ i v (fun e => hne (by rw [e]))⟩
end Go.Proofs.YtncnmmillhnhlaaDoor
