/-
  LISTS THAT A CALL MAKES OUT OF BYTES THAT CAME IN: of fragments (FW), of slices (WR); appends to them; a piece in a row. Nothing here speaks of the program's functions. No condition.
-/
import Derived.Test.YtbnedcghbdphlaaJoinList
import Derived.Test.YtbnedcghbdphlaaCutRef
namespace Go.Proofs.Ytbnedcghbdphlaa
open Go.RowKit
/-- fragments under way, each one's data among what lay in W -/
structure FW (base : Nat) (W w : World) (v : Value) (m : Nat) (es : List (FR × Value)) : Prop where
  row : w.ownsRow base 34 3 v m (eF es)
  data : ∀ e ∈ es, RI .u8 W e.2 e.1.data.length e.1.data
/-- slices under way, each one's bytes among what lay in W -/
structure WR (base : Nat) (W w : World) (v : Value) (m : Nat) (es : List (List Int × Value)) : Prop where
  row : w.ownsRow base 26 1 v m (es.map Prod.snd)
  data : ∀ e ∈ es, RI .u8 W e.2 e.1.length e.1
section
variable {base : Nat} {W w w' : World} {v v' : Value} {m : Nat}
theorem FW.nil (base : Nat) (W w : World) : FW base W w (.slice none 0 0) 0 [] := ⟨World.ownsRow_nil _ _ _ _, fun e he => by simp at he⟩
theorem WR.nil (base : Nat) (W w : World) : WR base W w (.slice none 0 0) 0 [] := ⟨World.ownsRow_nil _ _ _ _, fun e he => by simp at he⟩
theorem FW.keep {es : List (FR × Value)} (h : FW base W w v m es) (hb : Below w.heap.size w w') : FW base W w' v m es := ⟨own_keep h.row hb, h.data⟩
theorem WR.keep {es : List (List Int × Value)} (h : WR base W w v m es) (hb : Below w.heap.size w w') : WR base W w' v m es := ⟨own_keep h.row hb, h.data⟩
theorem FW.if_ {es : List (FR × Value)} (h : FW base W w v m es) (hb : Below W.heap.size W w) : IF w v m es := ⟨CS.own h.row, fun e he => (h.data e he).keep hb⟩
theorem WR.len {es : List (List Int × Value)} (r : WR base W w v m es) : es.length = m := by have := r.row.1; simpa using this
theorem WR.rl {es : List (List Int × Value)} (r : WR base W w v m es) (hb : Below W.heap.size W w) : RL .u8 w v m (es.map Prod.fst) := by
  have hl := r.len
  refine ⟨es.map Prod.snd, RV.own r.row, by simpa using hl, fun j e l he hl => ?_⟩
  have hj : j < es.length := by have := (List.getElem?_eq_some_iff.1 he).1; simpa using this
  simp [hj] at he hl
  subst he hl
  exact (r.data _ (List.getElem_mem hj)).keep hb
theorem FW.other {es : List (FR × Value)} (r : FW base W w v m es) (hg : w.grownBy w' v.ownBlock) {t : TypeId} {k n base' : Nat} {u : Value} {xs : List Value} (ho : w.ownsRow base' t k u n xs) (ht : t ≠ 34) : w'.ownsRow base' t k u n xs :=
  own_over ho hg (own_types ho r.row ht)
theorem WR.other {es : List (List Int × Value)} (r : WR base W w v m es) (hg : w.grownBy w' v.ownBlock) {t : TypeId} {k n base' : Nat} {u : Value} {xs : List Value} (ho : w.ownsRow base' t k u n xs) (ht : t ≠ 26) : w'.ownsRow base' t k u n xs :=
  own_over ho hg (own_types ho r.row ht)
theorem FW.below {es : List (FR × Value)} (r : FW base W w v m es) (hg : w.grownBy w' v.ownBlock) (hb : Below base W w) (hW : base ≤ W.heap.size) : Below base W w' :=
  hb.grown hg (Nat.le_trans hW hb.size) (fun q hq => (r.row.lt q hq).1)
theorem WR.below {es : List (List Int × Value)} (r : WR base W w v m es) (hg : w.grownBy w' v.ownBlock) (hb : Below base W w) (hW : base ≤ W.heap.size) : Below base W w' :=
  hb.grown hg (Nat.le_trans hW hb.size) (fun q hq => (r.row.lt q hq).1)
/-- append of one fragment, in a statement whose order is open -/
theorem wp_app_fw {es : List (FR × Value)} {o : Oper} {a : Act} {Q : Exit → Act → World → Prop} {K : Act → World → Prop} (s x : Operand)
    (ho : o.op = .call { callee := .builtin .append, args := #[s, x], argTypes := #[22, 22] })
    (hs : a.eval s = v) (hfl : FW base W w v m es) (g : Nat) (e : FR × Value) (n cap : Nat) (p : Option Addr) (hv : e.2 = .slice p n cap) (hx : a.eval x = .slice (some ⟨g, 0, none⟩) 1 1) (hblk : w.heap[g]? = some (.cells (eL e).toArray 34 (0, 0)))
    (hd : RI .u8 W e.2 e.1.data.length e.1.data) (hm : m ≤ 1000000) (hbase : base ≤ w.heap.size)
    (h : ∀ v' w', Hid (FW base W w' v' (m + 1) (es ++ [e])) → Hid (w.grownBy w' v.ownBlock) → K (a.put o.dst v') w') : Oper.wp Try.prog o a w K Q := by
  obtain ⟨i, hi, hz0, hz1, hz2⟩ := info_parts fr_parts
  refine wp_append_own_wide w s x 22 ho base 34 i _ 3 40 Try.underlying22 hi hz0 hz1 hz2 rfl (by omega) v m (eF es) hs hfl.row ⟨g, 0, none⟩ 1 1 (eL e) hx (by simp) ?_ (by simp [Value.oneCell', hv]) (by unfold maxLen; omega) (by omega) hbase ?_
  · intro j u hj
    have hc : w.cell? ⟨g, j, none⟩ = some u := by rw [cell_of_row _ g j _ _ _ hblk]; simpa using hj
    by_cases h0 : j = 0
    · subst h0; simpa [Addr.add] using hc
    · simpa [Addr.add, h0] using hc
  · intro v' w' h1 h2 _
    refine h v' w' ⟨by rw [eF_snoc]; exact h1, fun x hx => ?_⟩ h2
    rcases List.mem_append.1 hx with hx | hx
    · exact hfl.data x hx
    · obtain rfl : x = e := by simpa using hx
      exact hd
/-- append of one slice -/
theorem wpl_app_wr {es : List (List Int × Value)} {ops : Array Oper} {rest : List Oper} {o : Oper} {a : Act} {Q : Exit → Act → World → Prop} (hgd : o.guard = none) (s x : Operand)
    (ho : o.op = .call { callee := .builtin .append, args := #[s, x], argTypes := #[38, 38] }) (hs : a.eval s = v) (r : WR base W w v m es)
    (g : Nat) (e : List Int × Value) (hx : a.eval x = .slice (some ⟨g, 0, none⟩) 1 1) (hblk : w.heap[g]? = some (.cells #[e.2] 26 (0, 0)))
    (hd : RI .u8 W e.2 e.1.length e.1) (hm : m ≤ 1000000) (hbase : base ≤ w.heap.size)
    (hq : ∀ v' w', Hid (WR base W w' v' (m + 1) (es ++ [e])) → Hid (w.grownBy w' v.ownBlock) → wpList Try.prog ops Q rest (a.put o.dst v') w') : wpList Try.prog ops Q (o :: rest) a w := by
  obtain ⟨i, hi, hz0, hz1, hz2⟩ := info_parts Try.info_sl
  obtain ⟨p, c, hv⟩ : ∃ p c, e.2 = .slice p e.1.length c := by obtain ⟨p, c, e, _⟩ := hd; exact ⟨p, c, e⟩
  refine wpList_append_own_wide w hgd s x 38 ho base 26 i (.slice none 0 0) 1 24 Try.underlying38 hi hz0 hz1 hz2 rfl (by omega) v m (es.map Prod.snd) hs r.row ⟨g, 0, none⟩ 1 1 [e.2] hx rfl ?_ (by simp [Value.oneCell', hv]) (by unfold maxLen; omega) (by omega) hbase ?_
  · intro j u hj
    match j, hj with
    | 0, hj => simp at hj; subst hj; simpa [Addr.add] using cell_of_row w g 0 _ _ _ hblk
  · intro v' w' ho' hg _
    refine hq v' w' ⟨by rw [List.map_append]; exact ho', fun x hx => ?_⟩ hg
    rcases List.mem_append.1 hx with hx | hx
    · exact r.data x hx
    · obtain rfl : x = e := by simpa using hx
      exact hd
/-- a piece in a row -/
theorem own_piece {base' b o c : Nat} {ps : List PC} (h : w.ownsRow base' 47 4 (.slice (some ⟨b, o, none⟩) m c) m (pF ps)) (i : Nat) (p : PC) (hp : ps[i]? = some p) :
    w.cell? ⟨b, o + i * 4 + 1, none⟩ = some (.int .i64 p.kind) ∧ w.cell? ⟨b, o + i * 4 + 2, none⟩ = some (.int .i64 p.from_) ∧ w.cell? ⟨b, o + i * 4 + 3, none⟩ = some (.int .i64 p.to) := by
  have hl : ps.length = m := by have := h.1; rw [pF_length] at this; omega
  have hps : PS w (.slice (some ⟨b, o, none⟩) m c) ps := PS.own (by rw [hl]; exact h)
  obtain ⟨b', o', e, r⟩ := hps.at_ i p hp
  simp only [Option.some.injEq, Addr.mk.injEq, and_true] at e
  obtain ⟨rfl, rfl⟩ := e
  have z := pc_cells r
  exact ⟨z.2.1, z.2.2.1, z.2.2.2⟩
end
end Go.Proofs.Ytbnedcghbdphlaa
