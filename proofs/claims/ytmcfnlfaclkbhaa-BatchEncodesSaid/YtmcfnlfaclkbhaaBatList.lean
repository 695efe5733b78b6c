/-
  LAYER 12 (batch): lists of operations that a call makes (appends), cuts of bytes that came in; how the bytes of operations come apart, step by step. No condition.
-/
import Derived.Test.YtmcfnlfaclkbhaaBatBytes
namespace Go.Proofs.Ytmcfnlfaclkbhaa
open Go.RowKit
theorem op_parts : (Try.prog.info? 36).map (fun i => (i.zero, i.size, i.bytes)) = some (some (.agg #[.int .i64 0, .string ByteArray.empty, .string ByteArray.empty]), 3, 40) := by kernel_rfl
theorem oF_snoc (l : List AO) (c : AO) : oF (l ++ [c]) = oF l ++ oL c := by simp [oF]
theorem OS.own {w : World} {base : Nat} {e : TypeId} {v : Value} {l : List AO} (h : w.ownsRow base e 3 v l.length (oF l)) : OS w v l := CS.own h
/-- a variable, what is stored in it, and behind it a literal of one operation -/
theorem new_two (w : World) (z c : Array Value) (x : Obj) : (((w.alloc (.cells z 36)).setRow w.heap.size c).alloc x).heap[w.heap.size + 1]? = some x := by
  have h := heap_alloc_last ((w.alloc (.cells z 36)).setRow w.heap.size c) x
  have e : ((w.alloc (.cells z 36)).setRow w.heap.size c).heap.size = w.heap.size + 1 := by simp
  rwa [e] at h
section
variable {w : World} {ops : Array Oper} {rest : List Oper} {o : Oper} {a : Act} {Q : Exit → Act → World → Prop}
/-- append of one operation to a row of operations that the call made -/
theorem wpl_app_op (hgd : o.guard = none) (s x : Operand)
    (ho : o.op = .call { callee := .builtin .append, args := #[s, x], argTypes := #[22, 22] })
    (base : Nat) (v : Value) (n : Nat) (l : List AO) (hs : a.eval s = v) (hown : Hid (w.ownsRow base 36 3 v n (oF l)))
    (g : Nat) (c : AO) (hx : a.eval x = .slice (some ⟨g, 0, none⟩) 1 1) (hblk : w.heap[g]? = some (.cells (oL c).toArray 36 (0, 0))) (hn : n ≤ 1000000)
    (B : Nat) (W : World) (hb : Hid (Below B W w)) (hB : B ≤ base) (hbase : base ≤ w.heap.size)
    (h : ∀ v' w', Hid (w'.ownsRow base 36 3 v' (n + 1) (oF (l ++ [c]))) → Hid (Below B W w') → Hid (w.grownBy w' v.ownBlock) → wpList Try.prog ops Q rest (a.put o.dst v') w') : wpList Try.prog ops Q (o :: rest) a w := by
  obtain ⟨i, hi, hz0, hz1, hz2⟩ := info_parts op_parts
  refine wpList_append_own_wide w hgd s x 22 ho base 36 i _ 3 40 Try.underlying22 hi hz0 hz1 hz2 rfl (by omega) v n (oF l) hs hown.out ⟨g, 0, none⟩ 1 1 (oL c) hx (by simp) ?_ (by simp [Value.oneCell']) (by unfold maxLen; omega) (by omega) hbase ?_
  · intro j u hj
    have hc : w.cell? ⟨g, j, none⟩ = some u := by rw [cell_of_row _ g j _ _ _ hblk]; simpa using hj
    by_cases h0 : j = 0
    · subst h0; simpa [Addr.add] using hc
    · simpa [Addr.add, h0] using hc
  · intro v' w' h1 h2 _
    exact h v' w' (by rw [oF_snoc]; exact h1) (hb.out.grown h2 (by omega) (fun q hq => by have := (hown.out.lt q hq).1; omega)) h2
/-- a cut of bytes that lie in an elder world -/
theorem wpl_from_of {w0 : World} (hgd : o.guard = none) (x lo : Operand) (ho : o.op = .slice 24 x (some lo) none none) (p : Option Addr) (len cap m : Nat) (zs : List Int) (hx : a.eval x = .slice p len cap) (hlo : a.eval lo = .int .i64 (m : Int)) (hr : RI .u8 w0 (.slice p len cap) len zs) (hm : m ≤ len)
    (h : ∀ p' c', Hid (RI .u8 w0 (.slice p' (len - m) c') (len - m) (zs.drop m)) → wpList Try.prog ops Q rest (a.put o.dst (.slice p' (len - m) c')) w) : wpList Try.prog ops Q (o :: rest) a w := by
  refine wpList_plain hgd fun K hK => ?_
  have he := exec_cut (w := w) (a := a) (o := o) x lo ho p len cap m hx hlo hm
  have hv := hr.from m hm
  obtain ⟨p', c', e, _⟩ := id hv
  rw [e] at he hv
  unfold Oper.wp
  rw [he]
  simp only [Oper.upon]
  exact hK _ _ (h p' c' hv)
end
/-- the first nine of the first j -/
def nine (k : List AO) (j : Nat) : List AO := (k.take j).take 9
theorem nine_len {k : List AO} {j : Nat} (hj : j ≤ k.length) : (nine k j).length = min 9 j := by unfold nine; rw [List.length_take, List.length_take]; omega
theorem nine_more {k : List AO} {j : Nat} {o : AO} (ho : k[j]? = some o) (h8 : (nine k j).length ≤ 8) : nine k (j + 1) = nine k j ++ [o] := by
  have hj := (List.getElem?_eq_some_iff.1 ho).1
  rw [nine_len (by omega)] at h8
  have e1 : (k.take j).take 9 = k.take j := List.take_of_length_le (by rw [List.length_take]; omega)
  have e2 : (k.take j ++ [o]).take 9 = k.take j ++ [o] := List.take_of_length_le (by rw [List.length_append, List.length_take]; simp; omega)
  unfold nine
  rw [take_next ho, e1, e2]
theorem nine_full {k : List AO} {j : Nat} {o : AO} (ho : k[j]? = some o) (h8 : ¬ (nine k j).length ≤ 8) : nine k (j + 1) = nine k j := by
  have hj := (List.getElem?_eq_some_iff.1 ho).1
  rw [nine_len (by omega)] at h8
  unfold nine
  rw [List.take_take, List.take_take, Nat.min_eq_left (by omega), Nat.min_eq_left (by omega)]
/-- the bytes from the j-th operation on -/
def left (k : List AO) (rest : List Int) (j : Nat) : List Int := batB (k.drop j) ++ rest
theorem left_next {k : List AO} {rest : List Int} {j : Nat} {o : AO} (ho : k[j]? = some o) : left k rest j = oB o ++ left k rest (j + 1) := by
  obtain ⟨hj, rfl⟩ := List.getElem?_eq_some_iff.1 ho
  unfold left
  rw [List.drop_eq_getElem_cons hj, batB_cons, List.append_assoc]
theorem left_end {k : List AO} {rest : List Int} {j : Nat} (hj : k.length ≤ j) : left k rest j = rest := by
  unfold left
  rw [List.drop_of_length_le hj]; simp [batB]
theorem left_bytes {k : List AO} {rest : List Int} (h : ∀ o ∈ k, oR o = true) (hr : isB rest) (j : Nat) : isB (left k rest j) := by
  unfold left
  exact isB.append (batB_bytes fun o ho => h o (List.mem_of_mem_drop ho)) hr
theorem left_zero (k : List AO) (rest : List Int) : left k rest 0 = batB k ++ rest := by unfold left; rw [List.drop_zero]
theorem left_drop (k : List AO) (rest : List Int) (j : Nat) : (batB k ++ rest).drop (batB (k.take j)).length = left k rest j := by
  unfold left
  have h : batB k = batB (k.take j) ++ batB (k.drop j) := by
    unfold batB
    rw [← List.flatten_append, ← List.map_append, List.take_append_drop]
  rw [h, List.append_assoc, List.drop_left]
theorem left_len (k : List AO) (rest : List Int) (j : Nat) : (batB (k.take j)).length + (left k rest j).length = (batB k ++ rest).length := by
  have h := congrArg List.length (left_drop k rest j)
  have h2 : (batB (k.take j)).length ≤ (batB k ++ rest).length := by
    unfold batB
    rw [List.length_append]
    have : (List.map oB k).flatten.length = (List.map oB (k.take j)).flatten.length + (List.map oB (k.drop j)).flatten.length := by
      rw [← List.length_append, ← List.flatten_append, ← List.map_append, List.take_append_drop]
    omega
  rw [List.length_drop] at h
  omega
end Go.Proofs.Ytmcfnlfaclkbhaa
