/-
  LISTS OF FIELDS (layer 18), as a call hands them to a variadic function: literals of slices of bytes that calls made; they stay where another block turns. Nothing here speaks of the program's functions. No condition.
-/
import Derived.Test.YtncnmmillhnhlaaDoorHeadOps
import Derived.Great.BuildSlice
namespace Go.Proofs.YtncnmmillhnhlaaDoor
open Go.RowKit
/-- a field that lies at base or above -/
def FD (w : World) (base : Nat) (v : Value) (l : List Int) : Prop := ∃ p, v = .slice (some ⟨p, 0, none⟩) l.length l.length ∧ base ≤ p ∧ RI .u8 w v l.length l
theorem FD.keep {w w' : World} {base : Nat} {v : Value} {l : List Int} (h : FD w base v l) (hb : Below w.heap.size w w') : FD w' base v l := by
  obtain ⟨p, e, h1, h2⟩ := h; exact ⟨p, e, h1, h2.keep hb⟩
theorem FD.over {w w' : World} {base g : Nat} {v : Value} {l : List Int} (h : FD w base v l) (hg : w.grownBy w' (some g)) (hlt : g < base) : FD w' base v l := by
  obtain ⟨p, rfl, h1, h2⟩ := h
  refine ⟨p, rfl, h1, h2.over _ hg fun _ q hq e => ?_⟩
  have hq' : some p = some q := hq
  have := Option.some.inj hq'
  have := Option.some.inj e
  omega
theorem FD.same {w w' : World} {base : Nat} {v : Value} {l : List Int} (h : FD w base v l) (hs : ∀ a, w'.cell? a = w.cell? a) : FD w' base v l := by
  obtain ⟨p, e, h1, a, cap, e2, k1, k2, k3, k4, hc⟩ := h
  refine ⟨p, e, h1, a, cap, e2, k1, k2, k3, k4, fun h0 => ?_⟩
  obtain ⟨b, off, ha, hcell⟩ := hc h0
  exact ⟨b, off, ha, fun j hj => (hs _).trans (hcell j hj)⟩
theorem FD.ri {w : World} {base : Nat} {v : Value} {l : List Int} (h : FD w base v l) : RI .u8 w v l.length l := by
  obtain ⟨p, _, _, ho⟩ := h; exact ho
theorem FD.of {w : World} {base base' p n : Nat} {l : List Int} (ho : w.ownsRow base' 5 1 (.slice (some ⟨p, 0, none⟩) n n) n (il .u8 l)) (hb : base ≤ base') : FD w base (.slice (some ⟨p, 0, none⟩) n n) l := by
  have hl : l.length = n := by have := ho.1; rw [il_length] at this; omega
  subst hl
  exact ⟨p, rfl, Nat.le_trans hb (ho.lt p rfl).1, RI.own ho⟩
/-- the mark's block, before it is marked -/
def MK (w : World) (g : Nat) : Prop := w.heap[g]? = some (.cells (il .u8 mark).toArray 5 (0, 0))
theorem MK.keep {w w' : World} {g : Nat} (h : MK w g) (hb : Below w.heap.size w w') : MK w' g := (hb.block g (Array.getElem?_eq_some_iff.1 h).1).trans h
/-- a literal of fields, wherever the block g turns -/
theorem rl_lit {w : World} {g gl base n : Nat} {vs : List Value} {ls : List (List Int)} (hb : w.heap[gl]? = some (.cells vs.toArray 42 (0, 0))) (hg : g < base) (hgl : base ≤ gl) (hv : vs.length = n) (hl : ls.length = n) (hn : n ≤ 1000)
    (hf : ∀ (j : Nat) (v : Value) (l : List Int), vs[j]? = some v → ls[j]? = some l → FD w base v l) : ∀ w', w.grownBy w' (some g) → RL .u8 w' (.slice (some ⟨gl, 0, none⟩) n n) n ls := by
  intro w' hw
  have hb' : w'.heap[gl]? = some (.cells vs.toArray 42 (0, 0)) := (hw.block gl (Array.getElem?_eq_some_iff.1 hb).1 (fun e => by have := Option.some.inj e; omega)).trans hb
  refine ⟨vs, ⟨_, n, rfl, hv, Nat.le_refl _, by omega, fun h => by simp at h, fun _ => ⟨gl, 0, rfl, fun j hj => ?_⟩⟩, hl, fun j e l he hl2 => ((hf j e l he hl2).over hw hg).ri⟩
  rw [Nat.zero_add, cell_of_row w' gl j _ _ _ hb']
  simp
theorem info_bs : (Tryd.prog.info? 42).map (fun i => (i.zero, i.size, i.bytes)) = some (some (.slice none 0 0), 1, 24) := by kernel_rfl
section
variable {o : Oper} {a : Act} {w : World} {K : Act → World → Prop} {Q : Exit → Act → World → Prop} {ops : Array Oper} {rest : List Oper}
theorem wp_lit4 (x0 x1 x2 x3 : Operand) (ho : o.op = .buildSlice 59 4 #[(0, x0), (1, x1), (2, x2), (3, x3)]) (p0 p1 p2 p3 : Option Addr) (n0 n1 n2 n3 c0 c1 c2 c3 : Nat)
    (h0 : a.eval x0 = .slice p0 n0 c0) (h1 : a.eval x1 = .slice p1 n1 c1) (h2 : a.eval x2 = .slice p2 n2 c2) (h3 : a.eval x3 = .slice p3 n3 c3)
    (h : ∀ gl w', Hid (w'.heap[gl]? = some (.cells [Value.slice p0 n0 c0, .slice p1 n1 c1, .slice p2 n2 c2, .slice p3 n3 c3].toArray 42 (0, 0))) → Hid (w.heap.size ≤ gl) → Hid (Below w.heap.size w w') → K (a.put o.dst (.slice (some ⟨gl, 0, none⟩) 4 4)) w') : Oper.wp Tryd.prog o a w K Q := by
  obtain ⟨i, hi, hz0, hz1, hz2⟩ := info_parts info_bs
  refine wp_buildSlice 59 42 4 _ ho [Value.slice p0 n0 c0, .slice p1 n1 c1, .slice p2 n2 c2, .slice p3 n3 c3].toArray i (.slice none 0 0) Tryd.underlying59 hi hz0 (by rw [hz1]; omega) (by rw [hz1]; omega) ?_ (h w.heap.size _ (heap_alloc_last w _) (Nat.le_refl _) (balloc w _))
  rw [hz1]
  simp only [List.map_toArray, List.map_cons, List.map_nil, h0, h1, h2, h3]
  exact Great.fill_flat [Value.slice p0 n0 c0, .slice p1 n1 c1, .slice p2 n2 c2, .slice p3 n3 c3] _ (fun v hv => by simp only [List.mem_cons, List.not_mem_nil, or_false] at hv; rcases hv with rfl | rfl | rfl | rfl <;> rfl) (by simp)
theorem wp_lit1 (x0 : Operand) (ho : o.op = .buildSlice 59 1 #[(0, x0)]) (p0 : Option Addr) (n0 c0 : Nat) (h0 : a.eval x0 = .slice p0 n0 c0)
    (h : ∀ gl w', Hid (w'.heap[gl]? = some (.cells [Value.slice p0 n0 c0].toArray 42 (0, 0))) → Hid (w.heap.size ≤ gl) → Hid (Below w.heap.size w w') → K (a.put o.dst (.slice (some ⟨gl, 0, none⟩) 1 1)) w') : Oper.wp Tryd.prog o a w K Q := by
  obtain ⟨i, hi, hz0, hz1, hz2⟩ := info_parts info_bs
  refine wp_buildSlice 59 42 1 _ ho [Value.slice p0 n0 c0].toArray i (.slice none 0 0) Tryd.underlying59 hi hz0 (by rw [hz1]; omega) (by rw [hz1]; omega) ?_ (h w.heap.size _ (heap_alloc_last w _) (Nat.le_refl _) (balloc w _))
  rw [hz1]
  simp only [List.map_toArray, List.map_cons, List.map_nil, h0]
  exact Great.fill_flat [Value.slice p0 n0 c0] _ (fun v hv => by simp only [List.mem_cons, List.not_mem_nil, or_false] at hv; subst hv; rfl) (by simp)
theorem wpl_lit1 (hg : o.guard = none) (x0 : Operand) (ho : o.op = .buildSlice 59 1 #[(0, x0)]) (p0 : Option Addr) (n0 c0 : Nat) (h0 : a.eval x0 = .slice p0 n0 c0)
    (h : ∀ gl w', Hid (w'.heap[gl]? = some (.cells [Value.slice p0 n0 c0].toArray 42 (0, 0))) → Hid (w.heap.size ≤ gl) → Hid (Below w.heap.size w w') → wpList Tryd.prog ops Q rest (a.put o.dst (.slice (some ⟨gl, 0, none⟩) 1 1)) w') : wpList Tryd.prog ops Q (o :: rest) a w :=
  wpList_plain hg fun _ hK => wp_lit1 x0 ho p0 n0 c0 h0 fun gl w' h1 h2 h3 => hK _ _ (h gl w' h1 h2 h3)
/-- the mark, as a literal; its conversion to its own type -/
theorem wp_mark (ho : o.op = .buildSlice 42 5 #[(0, .const (.int .u8 115)), (1, .const (.int .u8 116)), (2, .const (.int .u8 114)), (3, .const (.int .u8 100)), (4, .const (.int .u8 1))])
    (h : ∀ g w', Hid (MK w' g) → Hid (w.heap.size ≤ g) → Hid (Below w.heap.size w w') → K (a.put o.dst (.slice (some ⟨g, 0, none⟩) 5 5)) w') : Oper.wp Tryd.prog o a w K Q := by
  obtain ⟨i, hi, hz0, hz1, hz2⟩ := info_parts Tryd.info_u8
  refine wp_buildSlice 42 5 5 _ ho (il .u8 mark).toArray i (.int .u8 0) Tryd.underlying42 hi hz0 (by rw [hz1]; omega) (by rw [hz1]; omega) ?_ (h w.heap.size _ (Lib.hid (heap_alloc_last w _)) (Nat.le_refl _) (balloc w _))
  rw [hz1]
  rw [parts_eval a #[(0, .const (.int .u8 115)), (1, .const (.int .u8 116)), (2, .const (.int .u8 114)), (3, .const (.int .u8 100)), (4, .const (.int .u8 1))] .u8 mark rfl]
  exact Great.fill_flat (il .u8 mark) _ (fun v hv => by obtain ⟨x, _, rfl⟩ := List.mem_map.1 hv; rfl) (by simp [il, mark])
theorem freeze_cell (w : World) (p : Addr) (n : Nat) (b : Addr) : (w.freeze p n).cell? b = w.cell? b := by
  unfold World.freeze
  by_cases hn : n = 0
  · rw [if_pos hn]
  · rw [if_neg hn]
    unfold World.cell?
    simp only [Array.getElem?_modify]
    by_cases hp : p.block = b.block
    · rw [if_pos hp]
      cases w.heap[b.block]? with
      | none => rfl
      | some x => cases x <;> rfl
    · rw [if_neg hp]
theorem freeze_grown (w : World) (p : Addr) (n : Nat) : w.grownBy (w.freeze p n) (some p.block) := by
  unfold World.freeze
  split
  · exact hgrown_refl _ _
  · exact ⟨rfl, rfl, rfl, by simp, fun i hi hne => by simp only [Array.getElem?_modify]; rw [if_neg (fun e => hne (by rw [e]))]⟩
theorem wp_conv_mark (x : Operand) (ho : o.op = .convert 42 42 x) (g : Nat) (hx : a.eval x = .slice (some ⟨g, 0, none⟩) 5 5) (hk : MK w g)
    (h : ∀ w', Hid (∀ b, w'.cell? b = w.cell? b) → Hid (w.grownBy w' (some g)) → K (a.put o.dst (.slice (some ⟨g, 0, none⟩) 5 5)) w') : Oper.wp Tryd.prog o a w K Q := by
  have hsh : w.shape? g = some (5, 5) := by unfold World.shape?; rw [hk]; rfl
  have hrun : (convert 42 42 (.slice (some ⟨g, 0, none⟩) 5 5)).run Tryd.prog w = .ok (.slice (some ⟨g, 0, none⟩) 5 5) (w.freeze ⟨g, 5, none⟩ 1) := by
    simp [convert, run_underlying Tryd.underlying42, run_underlying Tryd.underlying5, markStringish, hsh]
  unfold Oper.wp execOp
  simp only [ho, hx, Sem.run_bind, hrun, Result.andThen_ok, Sem.run_pure, Oper.upon]
  exact h _ (Lib.hid fun b => freeze_cell _ _ _ b) (Lib.hid (freeze_grown w ⟨g, 5, none⟩ 1))
theorem fd_mark {w : World} {g base : Nat} (hk : MK w g) (hb : base ≤ g) : FD w base (.slice (some ⟨g, 0, none⟩) 5 5) mark :=
  ⟨g, rfl, hb, _, 5, rfl, rfl, Nat.le_refl _, by omega, fun h => by simp at h, fun _ => ⟨g, 0, rfl, fun j hj => by
    rw [Nat.zero_add, cell_of_row w g j _ _ _ hk]
    simpa using il_get .u8 mark j hj⟩⟩
end
end Go.Proofs.YtncnmmillhnhlaaDoor
