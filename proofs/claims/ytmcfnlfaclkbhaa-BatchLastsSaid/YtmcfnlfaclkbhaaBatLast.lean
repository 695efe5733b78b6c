/-
  LAYER 12 (batch): of each key the last operation: the program's Last. No condition but bounds on lengths.
-/
import Derived.Test.YtmcfnlfaclkbhaaBatOrder
namespace Go.Proofs.Ytmcfnlfaclkbhaa
open Go.RowKit Go.Maps Go.WideMaps
theorem lastOf_take {l : List AO} {i : Nat} {o : AO} (ho : l[i]? = some o) : lastOf (l.take (i + 1)) = ins (lastOf (l.take i)) o := by rw [take_next ho, lastOf_snoc]
theorem atBy_own {m : List AO} (ha : AscK m) {o : AO} (ho : o ∈ m) : atBy AO.nm m o.key = some o := by
  induction m with
  | nil => simp at ho
  | cons y r ih =>
    obtain ⟨h2, h3⟩ := List.pairwise_cons.1 ha
    unfold atBy at ih ⊢
    rw [List.find?_cons]
    rcases List.mem_cons.1 ho with rfl | ho
    · simp
    · have hne : ¬ y.key = o.key := fun e => gtN_ne (h2 o ho) e.symm
      simp only [hne, decide_false]
      exact ih h3 ho
theorem look_own {m : List AO} (ha : AscK m) {o : AO} (ho : o ∈ m) : lookV AO.nm opV (opV zO) m o.key = opV o := by
  unfold lookV
  rw [atBy_own ha ho]
theorem zero_op (w : World) : (zeroValue 36).run Try.prog w = .ok (opV zO) w := by
  obtain ⟨i, hi, hz, _⟩ := info_parts op_parts
  simp [zeroValue, typeInfo, hi, hz]
  rfl
set_option maxRecDepth 8000 in
set_option maxHeartbeats 4000000 in
theorem blast_any (v : Value) (l : List AO) (w : World) (h : OS w v l) (hl : l.length ≤ 200) (hk : ∀ o ∈ l, o.key.size ≤ maxLen) :
    Calls Try.prog 14 #[v] w fun e w' => ∃ v', e = .returned v' ∧ OS w' v' (lastOf l) ∧ Below w.heap.size w w' := by
  obtain ⟨a, c, rfl, hc, hm, _⟩ := h.form
  obtain ⟨n, hn⟩ : ∃ n, l.length = n := ⟨_, rfl⟩
  obtain ⟨m, hlm⟩ : ∃ m, lastOf l = m := ⟨_, rfl⟩
  rw [hlm]
  rw [hn] at h hc hl ⊢
  have HLM := Lib.hid hlm
  have H1 := Lib.hid h
  have HN := Lib.hid hn
  have HK := Lib.hid hk
  have HM0 : Hid (MapO (w.alloc (.map #[] 0)) w.heap.size []) := Lib.hid (MO.made _ _)
  have HB0 := Lib.hid (balloc w (.map #[] 0))
  have hmm := @run_makeMap Try.prog
  clear h hn hk hlm
  go_enter Try.func14, Try.ntmps14
  go_wp2
  go_loopw [12] (fun iv wr => ∃ i : Nat, iv = .int .i64 i ∧ i ≤ n ∧ Hid (MapO wr w.heap.size (lastOf (l.take i))) ∧ Hid (Below w.heap.size w wr)) (fun iv _ => n - (intOf iv).toNat)
  case atStart => exact ⟨0, rfl, by omega, HM0, HB0⟩
  case round =>
    obtain ⟨i, rfl, hi, HM, HB⟩ := hrel
    by_cases hlt : (i : Int) < (n : Int)
    · obtain ⟨o, b, off, ho, rfl, r1⟩ := os_at H1.out HN.out i (by omega)
      have HR1 := Lib.hid (rangeAt_keep HB.out r1)
      have HR2 := Lib.hid (rangeAt_keep (balloc wr (.cells (oA 0 ⟨#[]⟩ ⟨#[]⟩) 36)) HR1.out)
      have hob := OB.new wr (oA 0 ⟨#[]⟩ ⟨#[]⟩) o.kind o.key o.val
      have HO1 := Lib.hid hob
      obtain ⟨hc0, hc1, hc2⟩ := hob.cells
      have hb2 := bnew wr (.cells (oA 0 ⟨#[]⟩ ⟨#[]⟩) 36) (oA o.kind o.key o.val)
      have HB2 := Lib.hid (bch HB.out hb2)
      have HM2 := Lib.hid (HM.out.keep (hb2.block _ HM.out.lt))
      have HLN : Hid ((lastOf (l.take i)).length < maxLen) := Lib.hid (by have := lastOf_len (l.take i); rw [List.length_take] at this; unfold maxLen; omega)
      have HSZ := Lib.hid (HK.out o (List.mem_of_getElem? ho))
      have HQ := Lib.hid (lastOf_take ho)
      have HWL : Hid (w.heap.size ≤ wr.heap.size) := Lib.hid HB.out.size
      clear ho r1 hob hb2
      go_wp2_with (first
        | (refine wpl_load_op rfl (.tmp 14) rfl rfl HR1.out ?_)
        | (refine wpl_load_op rfl (.tmp 14) rfl rfl HR2.out ?_)
        | (refine wpList_store_row rfl 36 _ _ rfl wr.heap.size (oA o.kind o.key o.val) rfl rfl _ _ (heap_alloc_last wr _) (op_info _ rfl) rfl (op_one _ _ _) ?_)
        | (refine load_ob rfl (.tmp 5) rfl rfl HO1.out ?_)
        | (refine wpl_put opE rfl (.tmp 16) (.tmp 18) (.tmp 19) 42 rfl 9 36 Try.underlying9 Try.underlying42 w.heap.size _ rfl HM2.out HLN.out o rfl HSZ.out rfl ?_; intro w3 HM3 hG3; have HB3 := Lib.hid (HB2.out.grown hG3.out HB2.out.size (fun j hj => by cases hj; exact Nat.le_refl _)); clear hG3))
      go_roundw
      case rel => exact ⟨i + 1, by go_num, by omega, Lib.hid (by rw [HQ.out]; exact HM3.out), HB3⟩
      case measure => simp [intOf]; omega
    · have hq : i = n := by omega
      subst hq
      have hlm : lastOf (l.take i) = m := by rw [List.take_of_length_le (by have := HN.out; omega), HLM.out]
      have hma : AscK m := by rw [← HLM.out]; exact lastOf_asc l
      have hml : m.length ≤ 200 := by have := lastOf_len l; rw [HLM.out] at this; have := HN.out; omega
      have HMK : Hid (∀ o ∈ m, o.key.size ≤ maxLen) := Lib.hid fun o ho => HK.out o (lastOf_mem (by rw [HLM.out]; exact ho))
      rw [hlm] at HM
      have HC := Lib.hid (inorder_any wr w.heap.size m HM.out hma (by omega))
      have HMA := Lib.hid hma
      obtain ⟨t, ht⟩ : ∃ t, m.length = t := ⟨_, rfl⟩
      have HT := Lib.hid ht
      rw [ht] at hml
      clear hlm hma ht
      go_wp2_with (first
        | (go_at_call 22; (with_reducible refine HC.out.mono ?_); rintro e w1 ⟨v1, rfl, hs1, hb1⟩; obtain ⟨pk, ck, rfl, hck, hcm, _⟩ := CS.form hs1; rw [List.length_map, HT.out] at hs1 hck ⊢; have HS1 := Lib.hid hs1; have HB1 := Lib.hid (bch HB.out hb1); have HM1 := Lib.hid (HM.out.keep (hb1.block _ HM.out.lt)); clear hs1 hb1))
      clear HC HM
      go_loopw [6, 24] (fun x iv wr => ∃ j : Nat, iv = .int .i64 j ∧ j ≤ t ∧ Hid (wr.ownsRow w1.heap.size 36 3 x j (oF (m.take j))) ∧ Hid (Below w1.heap.size w1 wr)) (fun _ iv _ => t - (intOf iv).toNat)
      case atStart => exact ⟨0, rfl, by omega, Lib.hid (World.ownsRow_nil _ _ _ _), Lib.hid (Below.refl _ _)⟩
      case round =>
        obtain ⟨j, rfl, hj, HO, HB2⟩ := hrel
        obtain ⟨pl, cl, rfl⟩ := own_form HO.out
        by_cases hlt2 : (j : Int) < (t : Int)
        · obtain ⟨o, ho⟩ : ∃ o, m[j]? = some o := ⟨_, List.getElem?_eq_getElem (by have := HT.out; omega)⟩
          have hom := List.mem_of_getElem? ho
          have HLK : Hid (lookV AO.nm opV (opV zO) m o.key = opV o) := Lib.hid (look_own HMA.out hom)
          have HSZ := Lib.hid (HMK.out o hom)
          obtain ⟨b, off, rfl, hcell⟩ := SS.at_ (HS1.out.below HB2.out) j o.key (by rw [List.getElem?_map, ho]; rfl)
          have HM2 := Lib.hid (HM1.out.keep (HB2.out.block _ HM1.out.lt))
          have HTK := Lib.hid (take_next ho)
          clear ho hom
          go_wp2_with (first
            | (refine wpl_look opE rfl (.tmp 29) (.tmp 30) 42 rfl 9 36 Try.underlying9 Try.underlying42 (zero_op _) w.heap.size m rfl HM2.out o.key rfl HSZ.out ?_; rw [show lookV AO.nm opV (opV zO) m o.key = opV o from HLK.out])
            | (at_builtin; go_loud (refine wpl_app_op rfl (.tmp 28) (.tmp 32) rfl w1.heap.size _ j (m.take j) rfl (Lib.hid (own_keep HO.out (balloc _ _))) wr.heap.size o rfl (heap_alloc_last wr _) (by omega) w1.heap.size w1 (Lib.hid (bch HB2.out (balloc _ _))) (Nat.le_refl _) (Nat.le_trans HB2.out.size (balloc _ _).size) ?_); intro v9 w9 HO9 HB9 HG9))
          go_roundw
          case rel => exact ⟨j + 1, by go_num, by omega, Lib.hid (by rw [HTK.out]; exact HO9.out), HB9⟩
          case measure => simp [intOf]; omega
        · have hq2 : j = t := by omega
          subst hq2
          have hfin : m.take j = m := List.take_of_length_le (by have := HT.out; omega)
          have hos : OS wr (.slice pl j cl) m := by
            have h1 := HO.out
            rw [hfin, ← HT.out] at h1
            rw [← HT.out]
            exact OS.own h1
          have HOS := Lib.hid hos
          clear hfin hos
          go_wp2
          go_ret
          exact ⟨_, rfl, HOS.out, bch HB1.out HB2.out⟩
end Go.Proofs.Ytmcfnlfaclkbhaa
