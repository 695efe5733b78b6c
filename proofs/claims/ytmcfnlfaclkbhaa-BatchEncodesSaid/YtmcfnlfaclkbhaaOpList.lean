/-
  LISTS OF OPERATIONS: where they lie, how one is loaded, whether two are the same; the reference's Same. No condition.
-/
import Derived.Test.YtmcfnlfaclkbhaaOpRef
import Derived.Test.YtmcfnlfaclkbhaaList
import Derived.Deep.MidRow
import Derived.Laws.StructEq
namespace Go.Proofs.Ytmcfnlfaclkbhaa
open Go.RowKit
deriving instance DecidableEq for AO
abbrev oL (o : AO) : List Value := [.int .i64 o.kind, .string o.key, .string o.val]
def oF (l : List AO) : List Value := (l.map oL).flatten
theorem oF_length (l : List AO) : (oF l).length = l.length * 3 := by
  have := flat_length 3 (l.map oL) (fun e he => by obtain ⟨o, _, rfl⟩ := List.mem_map.1 he; rfl)
  simpa [oF] using this
/-- a slice of operations -/
def OS (w : World) (v : Value) (l : List AO) : Prop := CS 3 w v l.length (oF l)
theorem OS.kin {w w' : World} (hb : Kin w w') {v : Value} {l : List AO} (h : OS w v l) : OS w' v l := CS.kin hb h
theorem OS.keep {w w' : World} {v : Value} {l : List AO} (h : OS w v l) (hb : Below w.heap.size w w') : OS w' v l := h.kin (Kin.below hb)
theorem OS.form {w : World} {v : Value} {l : List AO} (h : OS w v l) : ∃ a cap, v = .slice a l.length cap ∧ l.length ≤ cap ∧ cap ≤ 9223372036854775807 ∧ (a = none → cap = 0) := CS.form h
theorem OS.at_ {w : World} {a : Option Addr} {n cap : Nat} {l : List AO} (h : OS w (.slice a n cap) l) (i : Nat) (o : AO) (ho : l[i]? = some o) :
    ∃ b off, a = some ⟨b, off, none⟩ ∧ w.rangeAt b (off + i * 3) (oL o) := by
  obtain ⟨hi, _⟩ := List.getElem?_eq_some_iff.1 ho
  have hn : n = l.length := by obtain ⟨_, _, hv, _⟩ := id h; simp at hv; exact hv.2.1
  subst hn
  obtain ⟨b, off, rfl, hc⟩ := CS.at_ h i hi
  refine ⟨b, off, rfl, fun j v hv => ?_⟩
  have hj : j < 3 := (List.getElem?_eq_some_iff.1 hv).1
  have h7 := flat_get 3 (l.map oL) i j (fun e he => by obtain ⟨o, _, rfl⟩ := List.mem_map.1 he; rfl) hj (oL o) (by simp [ho])
  exact ((hc j hj).trans h7).trans hv
theorem op_info' : (Try.prog.info? 36).map (·.size) = some 3 := by kernel_rfl
theorem rangeAt_keep {w w' : World} (hb : Below w.heap.size w w') {b o : Nat} {cs : List Value} (h : w.rangeAt b o cs) : w'.rangeAt b o cs := fun j v hv => cell_keep hb (h j v hv)
theorem exec_load_op {a : Act} {o : Oper} {w : World} {b off : Nat} {c : AO} (x : Operand) (ho : o.op = .load 36 x) (hx : a.eval x = .pointer (some ⟨b, off, none⟩)) (h : w.rangeAt b off (oL c)) :
    (execOp a.eval o).run Try.prog w = .ok (.value (opV c)) w := by
  unfold execOp
  simp only [ho, hx, Instr.loadAt, Instr.sureAddr, Sem.run_bind, Sem.run_pure, Result.andThen_ok, run_loadVar_mid w b off 36 (oL c) _ h Try.underlying36 rfl op_info']
theorem wpl_load_op {w : World} {ops : Array Oper} {rest : List Oper} {o : Oper} {a : Act} {Q : Exit → Act → World → Prop} (hgd : o.guard = none) {b off : Nat} {c : AO} (x : Operand) (ho : o.op = .load 36 x) (hx : a.eval x = .pointer (some ⟨b, off, none⟩)) (h : w.rangeAt b off (oL c))
    (hk : wpList Try.prog ops Q rest (a.put o.dst (opV c)) w) : wpList Try.prog ops Q (o :: rest) a w :=
  wpList_load_mid hgd 36 x ho b off hx (oL c) _ h Try.underlying36 rfl op_info' hk
theorem bytes_beq (s t : ByteArray) : (s == t) = decide (s = t) := by
  obtain ⟨a⟩ := s
  obtain ⟨b⟩ := t
  show (a == b) = _
  rw [Bool.eq_iff_iff]
  simp
theorem same_toList (s t : ByteArray) : (s.toList == t.toList) = decide (s = t) := by rw [← beq_toListBytes, bytes_beq]
theorem toList_iff (s t : ByteArray) : s.toList = t.toList ↔ s = t := by have := same_toList s t; rw [Bool.eq_iff_iff] at this; simpa using this
set_option linter.unusedSimpArgs false in
theorem run_eq_op (c d : AO) (w : World) : (Op.equalIn 10000 36 (opV c) (opV d)).run Try.prog w = .ok (decide (c = d)) w := by
  have hp : Try.prog.stoodInHeld 36 = false := by kernel_rfl
  rw [run_equalIn_struct w 9999 36 _ _ (by simp only [Program.fieldsOf, Try.underlying36]) hp]
  simp only [Program.fieldsOf, Try.underlying36]
  obtain ⟨k, s, t⟩ := c
  obtain ⟨k', s', t'⟩ := d
  have e : decide ((⟨k, s, t⟩ : AO) = ⟨k', s', t'⟩) = (decide (k = k') && (decide (s = s') && decide (t = t'))) := by
    rw [Bool.eq_iff_iff]; simp [AO.mk.injEq]
  rw [e]
  by_cases h1 : k = k'
  · by_cases h2 : s = s'
    · by_cases h3 : t = t'
      · simp [go_sem, h1, h2, h3]
      · simp [go_sem, h1, h2, h3, toList_iff]
    · simp [go_sem, h1, h2, toList_iff]
  · simp [go_sem, h1]
theorem run_eql_op (c d : AO) (w : World) : (binOp .eql 36 (opV c) (opV d)).run Try.prog w = .ok (.bool (decide (c = d))) w := by
  rw [run_eql_struct, run_eq_op]; rfl
theorem run_neq_op (c d : AO) (w : World) : (binOp .neq 36 (opV c) (opV d)).run Try.prog w = .ok (.bool (!decide (c = d))) w := by
  rw [run_neq_struct, run_eq_op]; rfl
theorem op_guard : Try.prog.eqGuardType Try.prog.depth 36 = false := by kernel_rfl
theorem exec_eq_op {a : Act} {o : Oper} {w : World} {c d : AO} (x y : Operand) (u : TypeId) (ho : o.op = .binOp .eql 36 x y u) (hx : a.eval x = opV c) (hy : a.eval y = opV d) :
    (execOp a.eval o).run Try.prog w = .ok (.value (.bool (decide (c = d)))) w := by
  unfold execOp
  simp only [ho, hx, hy, Sem.run_bind, run_eqGuard_agg w .eql 36 x y _ _ op_guard, Result.andThen_ok, run_eql_op, Sem.run_pure]
theorem exec_neq_op {a : Act} {o : Oper} {w : World} {c d : AO} (x y : Operand) (u : TypeId) (ho : o.op = .binOp .neq 36 x y u) (hx : a.eval x = opV c) (hy : a.eval y = opV d) :
    (execOp a.eval o).run Try.prog w = .ok (.value (.bool (!decide (c = d)))) w := by
  unfold execOp
  simp only [ho, hx, hy, Sem.run_bind, run_eqGuard_agg w .neq 36 x y _ _ op_guard, Result.andThen_ok, run_neq_op, Sem.run_pure]
section
variable {w : World} {ops : Array Oper} {rest : List Oper} {o : Oper} {a : Act} {Q : Exit → Act → World → Prop} {c d : AO}
theorem wpl_eq_op (hgd : o.guard = none) (x y : Operand) (u : TypeId) (ho : o.op = .binOp .eql 36 x y u) (hx : a.eval x = opV c) (hy : a.eval y = opV d)
    (h : wpList Try.prog ops Q rest (a.put o.dst (.bool (decide (c = d)))) w) : wpList Try.prog ops Q (o :: rest) a w := by
  refine wpList_plain hgd fun K hK => ?_
  unfold Oper.wp
  rw [exec_eq_op x y u ho hx hy]
  simp only [Oper.upon]
  exact hK _ _ h
theorem wpl_neq_op (hgd : o.guard = none) (x y : Operand) (u : TypeId) (ho : o.op = .binOp .neq 36 x y u) (hx : a.eval x = opV c) (hy : a.eval y = opV d)
    (h : wpList Try.prog ops Q rest (a.put o.dst (.bool (!decide (c = d)))) w) : wpList Try.prog ops Q (o :: rest) a w := by
  refine wpList_plain hgd fun K hK => ?_
  unfold Oper.wp
  rw [exec_neq_op x y u ho hx hy]
  simp only [Oper.upon]
  exact hK _ _ h
end
end Go.Proofs.Ytmcfnlfaclkbhaa
