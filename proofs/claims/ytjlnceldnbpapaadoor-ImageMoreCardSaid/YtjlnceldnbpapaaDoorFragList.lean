/-
  LISTS OF FRAGMENTS THAT A CALL MAKES (layer 13's fragments): their cells, each one's data in a row of its own; appends; loads. No condition.
-/
import Derived.Test.YtjlnceldnbpapaaDoorFragBlk
import Derived.Test.YtjlnceldnbpapaaDoorJCut
import Derived.Test.YtjlnceldnbpapaaDoorList
import Derived.Deep.MidRow
namespace Go.Proofs.YtjlnceldnbpapaaDoor
open Go.RowKit
abbrev eL (e : FR × Value) : List Value := [.int .i64 e.1.kind, .int .u32 e.1.epoch, e.2]
def eF (es : List (FR × Value)) : List Value := (es.map eL).flatten
theorem eF_length (l : List (FR × Value)) : (eF l).length = l.length * 3 := by
  have := flat_length 3 (l.map eL) (fun e he => by obtain ⟨o, _, rfl⟩ := List.mem_map.1 he; rfl)
  simpa [eF] using this
theorem eF_snoc (l : List (FR × Value)) (c : FR × Value) : eF (l ++ [c]) = eF l ++ eL c := by simp [eF]
theorem fr_info' : (Tryd.prog.info? 63).map (·.size) = some 3 := by kernel_rfl
theorem fr_parts : (Tryd.prog.info? 63).map (fun i => (i.zero, i.size, i.bytes)) = some (some (.agg #[.int .i64 0, .int .u32 0, .slice none 0 0]), 3, 40) := by kernel_rfl
/-- a list of fragments under way, and each one's data -/
structure FL (base : Nat) (w : World) (v : Value) (m : Nat) (es : List (FR × Value)) : Prop where
  row : w.ownsRow base 63 3 v m (eF es)
  data : ∀ e ∈ es, w.ownsRow base 5 1 e.2 e.1.data.length (il .u8 e.1.data)
section
variable {base : Nat} {w w' : World} {v v' : Value} {m : Nat} {es : List (FR × Value)}
theorem FL.nil (base : Nat) (w : World) : FL base w (.slice none 0 0) 0 [] := ⟨World.ownsRow_nil _ _ _ _, fun e he => by simp at he⟩
theorem FL.keep (h : FL base w v m es) (hb : Below w.heap.size w w') : FL base w' v m es := ⟨own_keep h.row hb, fun e he => own_keep (h.data e he) hb⟩
theorem FL.len (h : FL base w v m es) : es.length = m := by have := h.row.1; rw [eF_length] at this; omega
/-- another row stays where the list grows -/
theorem FL.other (h : FL base w v m es) (hg : w.grownBy w' v.ownBlock) {t : TypeId} {k n base' : Nat} {u : Value} {xs : List Value} (ho : w.ownsRow base' t k u n xs) (ht : t ≠ 63) : w'.ownsRow base' t k u n xs :=
  own_over ho hg (own_types ho h.row ht)
/-- a block of another kind stays where the list grows -/
theorem FL.blk (h : FL base w v m es) (hg : w.grownBy w' v.ownBlock) {g : Nat} {c : Array Value} {t : TypeId} (hk : w.heap[g]? = some (.cells c t (0, 0))) (ht : t ≠ 63) : w'.heap[g]? = some (.cells c t (0, 0)) := by
  refine (hg.block g (Array.getElem?_eq_some_iff.1 hk).1 (fun e => ?_)).trans hk
  rcases h.row.2 with ⟨rfl, _⟩ | ⟨q, cap, cur, rfl, _, hcur, _⟩
  · simp [Value.ownBlock] at e
  · simp only [Value.ownBlock, Option.some.injEq] at e
    subst e
    rw [hk] at hcur
    simp only [Option.some.injEq, Obj.cells.injEq] at hcur
    exact ht hcur.2.1
theorem FL.snoc (h : FL base w v m es) (hg : w.grownBy w' v.ownBlock) (e : FR × Value) (hd : w.ownsRow base 5 1 e.2 e.1.data.length (il .u8 e.1.data)) (ho : w'.ownsRow base 63 3 v' (m + 1) (eF (es ++ [e]))) : FL base w' v' (m + 1) (es ++ [e]) :=
  ⟨ho, fun x hx => by
    rcases List.mem_append.1 hx with hx | hx
    · exact h.other hg (h.data x hx) (by decide)
    · obtain rfl : x = e := by simpa using hx
      exact h.other hg hd (by decide)⟩
/-- where one of them lies -/
theorem FL.at_ {a : Option Addr} {cap : Nat} (h : FL base w (.slice a m cap) m es) (i : Nat) (e : FR × Value) (he : es[i]? = some e) : ∃ b off, a = some ⟨b, off, none⟩ ∧ w.rangeAt b (off + i * 3) (eL e) := by
  have hi := (List.getElem?_eq_some_iff.1 he).1
  have hl := h.len
  have hcs : CS 3 w (.slice a m cap) m (eF es) := CS.own h.row
  obtain ⟨b, off, rfl, hc⟩ := CS.at_ hcs i (by omega)
  refine ⟨b, off, rfl, fun j v hv => ?_⟩
  have hj : j < 3 := (List.getElem?_eq_some_iff.1 hv).1
  have h7 := flat_get 3 (es.map eL) i j (fun e he => by obtain ⟨o, _, rfl⟩ := List.mem_map.1 he; rfl) hj (eL e) (by simp [he])
  exact ((hc j hj).trans h7).trans hv
theorem exec_load_el {a : Act} {o : Oper} {b off : Nat} {e : FR × Value} (x : Operand) (ho : o.op = .load 63 x) (hx : a.eval x = .pointer (some ⟨b, off, none⟩)) (h : w.rangeAt b off (eL e)) :
    (execOp a.eval o).run Tryd.prog w = .ok (.value (.agg (fA e.1.kind e.1.epoch e.2))) w := by
  unfold execOp
  simp only [ho, hx, Instr.loadAt, Instr.sureAddr, Sem.run_bind, Sem.run_pure, Result.andThen_ok, run_loadVar_mid w b off 63 (eL e) _ h Tryd.underlying63 rfl fr_info']
/-- append of one fragment, in a statement whose order is open -/
theorem wp_app_fr {o : Oper} {a : Act} {Q : Exit → Act → World → Prop} {K : Act → World → Prop} (s x : Operand)
    (ho : o.op = .call { callee := .builtin .append, args := #[s, x], argTypes := #[65, 65] })
    (hs : a.eval s = v) (hfl : FL base w v m es) (g : Nat) (e : FR × Value) (n cap : Nat) (p : Option Addr) (hv : e.2 = .slice p n cap) (hx : a.eval x = .slice (some ⟨g, 0, none⟩) 1 1) (hblk : w.heap[g]? = some (.cells (eL e).toArray 63 (0, 0)))
    (hd : w.ownsRow base 5 1 e.2 e.1.data.length (il .u8 e.1.data)) (hm : m ≤ 1000000) (hbase : base ≤ w.heap.size)
    (h : ∀ v' w', Hid (FL base w' v' (m + 1) (es ++ [e])) → Hid (w.grownBy w' v.ownBlock) → K (a.put o.dst v') w') : Oper.wp Tryd.prog o a w K Q := by
  obtain ⟨i, hi, hz0, hz1, hz2⟩ := info_parts fr_parts
  refine wp_append_own_wide w s x 65 ho base 63 i _ 3 40 Tryd.underlying65 hi hz0 hz1 hz2 rfl (by omega) v m (eF es) hs hfl.row ⟨g, 0, none⟩ 1 1 (eL e) hx (by simp) ?_ (by simp [Value.oneCell', hv]) (by unfold maxLen; omega) (by omega) hbase ?_
  · intro j u hj
    have hc : w.cell? ⟨g, j, none⟩ = some u := by rw [cell_of_row _ g j _ _ _ hblk]; simpa using hj
    by_cases h0 : j = 0
    · subst h0; simpa [Addr.add] using hc
    · simpa [Addr.add, h0] using hc
  · intro v' w' h1 h2 _
    exact h v' w' (hfl.snoc h2 e hd (by rw [eF_snoc]; exact h1)) h2
end
end Go.Proofs.YtjlnceldnbpapaaDoor
