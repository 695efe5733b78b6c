/-
  TEXTS AND THEIR BYTES: '[]byte(s)' and 'string(b)' as steps of a walk. Nothing here speaks of the program's functions. No condition.
-/
import Derived.Test.YtmcfnlfaclkbhaaSlices
import Derived.Test.YtmcfnlfaclkbhaaFieldMath
import Derived.Test.YtmcfnlfaclkbhaaVarint
import Derived.Laws.IdiomStrings
import Derived.Laws.Strings
import Derived.Deep.WholeRow
namespace Go.Proofs.Ytmcfnlfaclkbhaa
open Go.RowKit
theorem size_zero {t : ByteArray} (h : t.size = 0) : t = ⟨#[]⟩ := by
  obtain ⟨d⟩ := t
  congr
  exact Array.eq_empty_of_size_eq_zero h
theorem empty_no {t : ByteArray} (h : t.size ≠ 0) : ¬ t = ByteArray.empty ∧ t.toList.isEmpty = false ∧ ((t.size : Int) == 0) = false := by
  refine ⟨fun e => by subst e; exact h rfl, ?_, by simp; exact fun e => h (by rw [e]; rfl)⟩
  rw [ByteArray.toList_eq]
  cases hq : t.data.toList with
  | nil => exact absurd (show t.size = 0 from by have := congrArg List.length hq; rwa [Array.length_toList] at this) h
  | cons x l => rfl
/-- a text's bytes, as numbers -/
def sl (s : ByteArray) : List Int := s.data.toList.map fun b => (b.toNat : Int)
/-- .. and the other way about -/
def ls (zs : List Int) : ByteArray := ⟨(zs.map fun z => UInt8.ofNat z.toNat).toArray⟩
theorem sl_length (s : ByteArray) : (sl s).length = s.size := by unfold sl; rw [List.length_map, Array.length_toList]; rfl
theorem ls_size (zs : List Int) : (ls zs).size = zs.length := by simp [ls, ByteArray.size]
theorem sl_bytes (s : ByteArray) : isB (sl s) := by
  intro x hx
  simp only [sl, List.mem_map] at hx
  obtain ⟨b, _, rfl⟩ := hx
  have := b.toNat_lt
  omega
theorem ls_sl (s : ByteArray) : ls (sl s) = s := by
  obtain ⟨⟨l⟩⟩ := s
  simp [ls, sl, Function.comp_def]
theorem sl_ls (zs : List Int) (h : isB zs) : sl (ls zs) = zs := by
  simp only [sl, ls, List.map_map]
  have : ∀ z ∈ zs, ((fun b : UInt8 => (b.toNat : Int)) ∘ fun z : Int => UInt8.ofNat z.toNat) z = z := by
    intro z hz
    have := h z hz
    simp only [Function.comp]
    rw [UInt8.toNat_ofNat']; omega
  rw [List.map_congr_left this]; simp
theorem ls_inj {a b : List Int} (ha : isB a) (hb : isB b) (h : ls a = ls b) : a = b := by rw [← sl_ls a ha, h, sl_ls b hb]
theorem sl_inj {a b : ByteArray} (h : sl a = sl b) : a = b := by rw [← ls_sl a, h, ls_sl]
theorem foldl_push (zs : List Int) : ∀ r : ByteArray, zs.foldl (fun r n => r.push (UInt8.ofNat n.toNat)) r = ⟨r.data ++ (zs.map fun z => UInt8.ofNat z.toNat).toArray⟩ := by
  induction zs with
  | nil => intro r; simp
  | cons z zs ih => intro r; rw [List.foldl_cons, ih]; simp [ByteArray.push]
theorem foldl_push_ls (zs : List Int) : zs.foldl (fun r n => r.push (UInt8.ofNat n.toNat)) ByteArray.empty = ls zs := by
  rw [foldl_push, show ByteArray.empty.data = #[] from rfl]
  simp [ls]
section
variable {w : World} {ops : Array Oper} {rest : List Oper} {o : Oper} {a : Act} {K : Act → World → Prop} {Q : Exit → Act → World → Prop}
theorem wp_bytes_of (x : Operand) (ho : o.op = .convert 9 24 x) (s : ByteArray) (hs : s.size ≤ 1000000000) (hx : a.eval x = .string s)
    (h : ∀ v' w', RI .u8 w' v' s.size (sl s) → Below w.heap.size w w' → (∃ c, v' = .slice (some ⟨w.heap.size, 0, none⟩) s.size c) → K (a.put o.dst v') w') : o.wp Try.prog a w K Q := by
  have hr := run_bytes_of_string (P := Try.prog) w 9 24 5 s Try.underlying9 Try.underlying24 Try.underlying5
  have hge := grownCap_ge w s.size 0 5
  have hle := grownCap_le_maxLen w s.size 0 5 (by unfold maxLen; omega)
  unfold Oper.wp
  simp [execOp, ho, hx, hr, Result.andThen]
  refine h _ _ ?_ ((Below.refl _ w).drew.alloc (Nat.le_refl _) _) ⟨_, rfl⟩
  refine ⟨_, _, rfl, sl_length s, hge, by unfold maxLen at hle; omega, fun h => by simp at h, fun _ => ⟨w.heap.size, 0, rfl, fun j hj => ?_⟩⟩
  rw [Nat.zero_add]
  have hc := World.cell?_alloc_mark w.drew (bytesRow s (grownCap w s.size 0 5)) 5 ((bytesRow s (grownCap w s.size 0 5)).size, (bytesRow s (grownCap w s.size 0 5)).size + 1) j
  have hb := bytesRow_at s (grownCap w s.size 0 5) j hj
  rw [hb] at hc
  rw [show (sl s).getD j 0 = (s.data[j].toNat : Int) from by simp [sl, List.getD, Array.getElem?_eq_getElem (show j < s.data.size from hj)]]
  exact hc
theorem wpl_bytes_of (hgd : o.guard = none) (x : Operand) (ho : o.op = .convert 9 24 x) (s : ByteArray) (hs : s.size ≤ 1000000000) (hx : a.eval x = .string s)
    (h : ∀ v' w', RI .u8 w' v' s.size (sl s) → Below w.heap.size w w' → (∃ c, v' = .slice (some ⟨w.heap.size, 0, none⟩) s.size c) → wpList Try.prog ops Q rest (a.put o.dst v') w') : wpList Try.prog ops Q (o :: rest) a w :=
  wpList_plain hgd fun _ hK => wp_bytes_of x ho s hs hx fun v' w' h1 h2 h3 => hK _ _ (h v' w' h1 h2 h3)
/-- the same, which tells the new block's type, too -/
theorem wpl_bytes_ty (hgd : o.guard = none) (x : Operand) (ho : o.op = .convert 9 24 x) (s : ByteArray) (hs : s.size ≤ 1000000000) (hx : a.eval x = .string s)
    (h : ∀ v' w', RI .u8 w' v' s.size (sl s) → Below w.heap.size w w' → (∃ c, v' = .slice (some ⟨w.heap.size, 0, none⟩) s.size c) → (∃ c fr, w'.heap[w.heap.size]? = some (.cells c 5 fr)) → wpList Try.prog ops Q rest (a.put o.dst v') w') : wpList Try.prog ops Q (o :: rest) a w := by
  refine wpList_plain hgd fun K hK => ?_
  have hr := run_bytes_of_string (P := Try.prog) w 9 24 5 s Try.underlying9 Try.underlying24 Try.underlying5
  have hge := grownCap_ge w s.size 0 5
  have hle := grownCap_le_maxLen w s.size 0 5 (by unfold maxLen; omega)
  unfold Oper.wp
  simp [execOp, ho, hx, hr, Result.andThen]
  refine hK _ _ (h _ _ ?_ ((Below.refl _ w).drew.alloc (Nat.le_refl _) _) ⟨_, rfl⟩ ⟨_, _, heap_alloc_last w.drew _⟩)
  refine ⟨_, _, rfl, sl_length s, hge, by unfold maxLen at hle; omega, fun h => by simp at h, fun _ => ⟨w.heap.size, 0, rfl, fun j hj => ?_⟩⟩
  rw [Nat.zero_add]
  have hc := World.cell?_alloc_mark w.drew (bytesRow s (grownCap w s.size 0 5)) 5 ((bytesRow s (grownCap w s.size 0 5)).size, (bytesRow s (grownCap w s.size 0 5)).size + 1) j
  have hb := bytesRow_at s (grownCap w s.size 0 5) j hj
  rw [hb] at hc
  rw [show (sl s).getD j 0 = (s.data[j].toNat : Int) from by simp [sl, List.getD, Array.getElem?_eq_getElem (show j < s.data.size from hj)]]
  exact hc
theorem exec_text_of (x : Operand) (ho : o.op = .convert 24 9 x) (v : Value) (n : Nat) (zs : List Int) (hx : a.eval x = v) (hr : RI .u8 w v n zs) :
    (execOp a.eval o).run Try.prog w = .ok (.value (.string (ls zs))) w := by
  obtain ⟨p, cap, rfl, hl, h1, h2, h3, hc⟩ := hr
  cases p with
  | none =>
    obtain rfl := h3 rfl
    obtain rfl : n = 0 := by omega
    obtain rfl : zs = [] := List.length_eq_zero_iff.1 hl
    have hrun := run_convert_bytes_string (P := Try.prog) w 24 9 5 none 0 0 Try.underlying24 Try.underlying5 Try.underlying9
    simp [execOp, ho, hx, hrun, Conv.bytesToString, Result.andThen, ls]
    rfl
  | some ad =>
    have hrun := run_convert_bytes_string (P := Try.prog) w 24 9 5 (some ad) n cap Try.underlying24 Try.underlying5 Try.underlying9
    have hlc := run_loadCells_list (P := Try.prog) w ad (zs.map (Value.int .u8)) (fun j v hv => by
      have hj : j < zs.length := by have := (List.getElem?_eq_some_iff.1 hv).1; simpa using this
      obtain ⟨b, off, rfl, hcell⟩ : ∃ b off, ad = ⟨b, off, none⟩ ∧ ∀ j, j < n → w.cell? ⟨b, off + j, none⟩ = some (.int .u8 (zs.getD j 0)) := by
        obtain ⟨b, off, e, hcell⟩ := hc (by omega)
        simp only [Option.some.injEq] at e
        exact ⟨b, off, e, hcell⟩
      have hadd : (⟨b, off, none⟩ : Addr).add j = ⟨b, off + j, none⟩ := by unfold Addr.add; split <;> simp_all
      rw [hadd, hcell j (by omega), ← hv]
      simp [List.getD, hj])
    rw [List.length_map, hl] at hlc
    rw [run_bytesToString w ad n cap zs hlc, foldl_push_ls] at hrun
    simp [execOp, ho, hx, hrun, Result.andThen]
theorem wpl_text_of (hgd : o.guard = none) (x : Operand) (ho : o.op = .convert 24 9 x) (v : Value) (n : Nat) (zs : List Int) (hx : a.eval x = v) (hr : RI .u8 w v n zs)
    (h : wpList Try.prog ops Q rest (a.put o.dst (.string (ls zs))) w) : wpList Try.prog ops Q (o :: rest) a w := by
  refine wpList_plain hgd fun K hK => ?_
  unfold Oper.wp
  rw [exec_text_of x ho v n zs hx hr]
  simp only [Oper.upon]
  exact hK _ _ h
theorem exec_from (x lo : Operand) (ho : o.op = .slice 24 x (some lo) none none) (v : Value) (len m : Nat) (zs : List Int) (hx : a.eval x = v) (hlo : a.eval lo = .int .i64 (m : Int)) (hr : RI .u8 w v len zs) (hm : m ≤ len) :
    ∃ v', (execOp a.eval o).run Try.prog w = .ok (.value v') w ∧ RI .u8 w v' (len - m) (zs.drop m) := by
  obtain ⟨p, cap, rfl, _⟩ := id hr
  refine ⟨_, ?_, hr.from m hm⟩
  have hu : Try.prog.underlying 24 = some (.slice (Try.prog.elem 24)) := by rw [Try.underlying24]; rfl
  have h1 := run_slice_l (P := Try.prog) w 24 p len cap hu .i64 (m : Int) (by omega) (by omega)
  have hsz : (sizeOf (Try.prog.elem 24)).run Try.prog w = .ok 1 w := by
    have he : Try.prog.elem 24 = 5 := rfl
    obtain ⟨i, hi, _, hz1, _⟩ := info_parts Try.info_u8
    simp [sizeOf, typeInfo, he, hi, hz1]
  rw [hsz] at h1
  simp only [Result.andThen_ok, Int.toNat_natCast] at h1
  simp [execOp, ho, hx, hlo, run_sliceAt_slice _ _ _ _ _ _ hu, h1, Result.andThen]
/-- a cut from m on, whatever the room -/
theorem wpl_from (hgd : o.guard = none) (x lo : Operand) (ho : o.op = .slice 24 x (some lo) none none) (v : Value) (len m : Nat) (zs : List Int) (hx : a.eval x = v) (hlo : a.eval lo = .int .i64 (m : Int)) (hr : RI .u8 w v len zs) (hm : m ≤ len)
    (h : ∀ p c, RI .u8 w (.slice p (len - m) c) (len - m) (zs.drop m) → wpList Try.prog ops Q rest (a.put o.dst (.slice p (len - m) c)) w) : wpList Try.prog ops Q (o :: rest) a w := by
  refine wpList_plain hgd fun K hK => ?_
  obtain ⟨v', he, hv⟩ := exec_from (a := a) (o := o) x lo ho v len m zs hx hlo hr hm
  obtain ⟨p, c, rfl, _⟩ := id hv
  unfold Oper.wp
  rw [he]
  simp only [Oper.upon]
  exact hK _ _ (h p c hv)
end
section
variable {w : World} {o : Oper} {a : Act}
theorem exec_cut (x lo : Operand) (ho : o.op = .slice 24 x (some lo) none none) (p : Option Addr) (len cap m : Nat) (hx : a.eval x = .slice p len cap) (hlo : a.eval lo = .int .i64 (m : Int)) (hm : m ≤ len) :
    (execOp a.eval o).run Try.prog w = .ok (.value (sliced p m len cap 1)) w := by
  have hu : Try.prog.underlying 24 = some (.slice (Try.prog.elem 24)) := by rw [Try.underlying24]; rfl
  have h1 := run_slice_l (P := Try.prog) w 24 p len cap hu .i64 (m : Int) (by omega) (by omega)
  have hsz : (sizeOf (Try.prog.elem 24)).run Try.prog w = .ok 1 w := by
    have he : Try.prog.elem 24 = 5 := rfl
    obtain ⟨i, hi, _, hz1, _⟩ := info_parts Try.info_u8
    simp [sizeOf, typeInfo, he, hi, hz1]
  rw [hsz] at h1
  simp only [Result.andThen_ok, Int.toNat_natCast] at h1
  simp [execOp, ho, hx, hlo, run_sliceAt_slice _ _ _ _ _ _ hu, h1, Result.andThen]
end
end Go.Proofs.Ytmcfnlfaclkbhaa
