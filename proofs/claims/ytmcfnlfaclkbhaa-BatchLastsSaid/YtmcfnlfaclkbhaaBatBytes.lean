/-
  LAYER 12 (batch): a batch's bytes: the reference's Bytes, the program's Encode. No condition.
-/
import Derived.Test.YtmcfnlfaclkbhaaBatRight
import Derived.Test.YtmcfnlfaclkbhaaOpPut
namespace Go.Proofs.Ytmcfnlfaclkbhaa
open Go.RowKit
theorem take_next {l : List AO} {i : Nat} {o : AO} (ho : l[i]? = some o) : l.take (i + 1) = l.take i ++ [o] := by
  obtain ⟨hi, rfl⟩ := List.getElem?_eq_some_iff.1 ho
  exact List.take_succ_eq_append_getElem hi
theorem batB_take {l : List AO} {i : Nat} {o : AO} (ho : l[i]? = some o) : batB (l.take (i + 1)) = batB (l.take i) ++ oB o := by rw [take_next ho, batB_snoc]
theorem batB_take_len {l : List AO} (h : ∀ o ∈ l, oR o = true) (h8 : l.length ≤ 8) (i : Nat) : (batB (l.take i)).length ≤ 1600 := by
  have h1 := batB_len (l := l.take i) fun o ho => h o (List.mem_of_mem_take ho)
  rw [List.length_take] at h1
  omega
theorem oB_len {o : AO} (h : oR o = true) : (oB o).length ≤ 200 := (opB_len h).1
set_option maxRecDepth 8000 in
set_option maxHeartbeats 2000000 in
theorem rbbytes_any (v : Value) (l : List AO) (w : World) (h : OS w v l) (hr : batR l = true) :
    Calls Try.prog 11 #[v] w fun e w' => ∃ v', e = .returned v' ∧ w'.ownsRow w.heap.size 5 1 v' (batB l).length (il .u8 (batB l)) ∧ Below w.heap.size w w' := by
  obtain ⟨a, c, rfl, hc, hm, _⟩ := h.form
  obtain ⟨g1, g2, g3⟩ := batR_of hr
  obtain ⟨n, hn⟩ : ∃ n, l.length = n := ⟨_, rfl⟩
  rw [hn] at h hc g2 g3 ⊢
  have H1 := Lib.hid h
  have HN := Lib.hid hn
  have HA := Lib.hid g1
  have HT : Hid (∀ i, (batB (l.take i)).length ≤ 1600) := Lib.hid (batB_take_len g1 (by omega))
  clear h hn g1 hr
  go_enter Try.func11, Try.ntmps11
  go_wp2
  go_loopw [3, 4] (fun x iv wr => ∃ i : Nat, iv = .int .i64 i ∧ i ≤ n ∧ Hid (Below w.heap.size w wr) ∧ Hid (wr.ownsRow w.heap.size 5 1 x (batB (l.take i)).length (il .u8 (batB (l.take i))))) (fun _ iv _ => n - (intOf iv).toNat)
  case atStart => exact ⟨0, rfl, by omega, Lib.hid (Below.refl _ _), Lib.hid (World.ownsRow_nil _ _ _ _)⟩
  case round =>
    obtain ⟨i, rfl, hi, HB, HO⟩ := hrel
    by_cases hlt : (i : Int) < (n : Int)
    · obtain ⟨o, b, off, ho, rfl, r1⟩ := os_at H1.out HN.out i (by omega)
      have HR1 := Lib.hid (rangeAt_keep HB.out r1)
      have hro := HA.out o (List.mem_of_getElem? ho)
      have HOL := Lib.hid (oB_len hro)
      have HTI := Lib.hid (HT.out i)
      obtain ⟨q1, q2, q3, q4⟩ := right_parts hro
      have HC : Hid (∀ w, Calls Try.prog 20 #[opV o] w fun e w' => ∃ v', e = .returned v' ∧ w'.ownsRow w.heap.size 5 1 v' (oB o).length (il .u8 (oB o)) ∧ Below w.heap.size w w') := Lib.hid fun w => robytes_any o.kind o.key o.val w (by omega) (by omega) (by omega)
      have HQ := Lib.hid (batB_take ho)
      clear ho r1 hro q1 q2 q3 q4
      go_wp2_with (first
        | (refine wpl_load_op rfl (.tmp 14) rfl rfl HR1.out ?_)
        | (go_at_call 20; (with_reducible refine (HC.out _).mono ?_); rintro e w1 ⟨v1, rfl, ho1, hb⟩; have HO1 := Lib.hid ho1; have HO2 := Lib.hid (own_keep HO.out hb); have HB1 := Lib.hid (bch HB.out hb); clear hb ho1)
        | (at_builtin; refine wpl_appn rfl (.tmp 11) (.tmp 16) 24 rfl 5 .u8 1 Try.underlying24 Try.info_u8 _ _ _ _ rfl HO2 _ _ _ rfl (Lib.hid (RI.own HO1.out)) (by have := HOL.out; have := HTI.out; omega) (by have := HOL.out; have := HTI.out; omega) _ _ HB1 (Nat.le_refl _) HB1.out.size ?_; intro v12 w12 HO12 HB12))
      go_roundw
      case rel =>
        refine ⟨i + 1, by go_num, by omega, HB12, Lib.hid ?_⟩
        rw [HQ.out, List.length_append]
        exact HO12.out
      case measure => simp [intOf]; omega
    · have hq : i = n := by omega
      subst hq
      go_wp2
      go_ret
      have h1 := HO.out
      rw [List.take_of_length_le (by have := HN.out; omega)] at h1
      exact ⟨_, rfl, h1, HB.out⟩
set_option maxRecDepth 8000 in
set_option maxHeartbeats 2000000 in
theorem bencode_wrong (v : Value) (l : List AO) (w : World) (h : OS w v l) (hr : batR l = false) :
    Calls Try.prog 7 #[v] w fun e w' => e = .returned (.tuple #[.slice none 0 0, .int .i64 13]) ∧ Below w.heap.size w w' := by
  have HC := Lib.hid (bright_any v l w h)
  rw [hr] at HC
  clear h
  go_enter Try.func7, Try.ntmps7
  go_wp2_with (first
    | (go_at_call 8; (with_reducible refine HC.out.mono ?_); rintro e w1 ⟨rfl, hb⟩; have HB1 := Lib.hid hb; clear hb))
  go_ret2
  exact ⟨rfl, HB1.out⟩
set_option maxRecDepth 8000 in
set_option maxHeartbeats 2000000 in
theorem bencode_right (v : Value) (l : List AO) (w : World) (h : OS w v l) (hr : batR l = true) :
    Calls Try.prog 7 #[v] w fun e w' => ∃ v', e = .returned (.tuple #[v', .int .i64 0]) ∧ w'.ownsRow w.heap.size 5 1 v' (batB l).length (il .u8 (batB l)) ∧ Below w.heap.size w w' := by
  have HC := Lib.hid (bright_any v l w h)
  rw [hr] at HC
  obtain ⟨a, c, rfl, hc, hm, _⟩ := h.form
  obtain ⟨g1, g2, g3⟩ := batR_of hr
  obtain ⟨n, hn⟩ : ∃ n, l.length = n := ⟨_, rfl⟩
  rw [hn] at h hc g2 g3 HC ⊢
  have H1 := Lib.hid h
  have HN := Lib.hid hn
  have HA := Lib.hid g1
  have HT : Hid (∀ i, (batB (l.take i)).length ≤ 1600) := Lib.hid (batB_take_len g1 (by omega))
  clear h hn g1 hr
  go_enter Try.func7, Try.ntmps7
  go_wp2_with (first
    | (go_at_call 8; (with_reducible refine HC.out.mono ?_); rintro e w0 ⟨rfl, hb⟩; have HB0 := Lib.hid hb; clear hb))
  go_loopw [4, 12] (fun x iv wr => ∃ i : Nat, iv = .int .i64 i ∧ i ≤ n ∧ Hid (Below w.heap.size w wr) ∧ Hid (wr.ownsRow w.heap.size 5 1 x (batB (l.take i)).length (il .u8 (batB (l.take i))))) (fun _ iv _ => n - (intOf iv).toNat)
  case atStart => exact ⟨0, rfl, by omega, HB0, Lib.hid (World.ownsRow_nil _ _ _ _)⟩
  case round =>
    obtain ⟨i, rfl, hi, HB, HO⟩ := hrel
    by_cases hlt : (i : Int) < (n : Int)
    · obtain ⟨o, b, off, ho, rfl, r1⟩ := os_at H1.out HN.out i (by omega)
      have HR1 := Lib.hid (rangeAt_keep HB.out r1)
      have HR2 := Lib.hid (rangeAt_keep (balloc wr (.cells (oA 0 ⟨#[]⟩ ⟨#[]⟩) 36)) HR1.out)
      have HO1 := Lib.hid (OB.new wr (oA 0 ⟨#[]⟩ ⟨#[]⟩) o.kind o.key o.val)
      have hb2 := bnew wr (.cells (oA 0 ⟨#[]⟩ ⟨#[]⟩) 36) (oA o.kind o.key o.val)
      have HB2 := Lib.hid (bch HB.out hb2)
      have HOX := Lib.hid (own_keep HO.out hb2)
      have hro := HA.out o (List.mem_of_getElem? ho)
      have HOL := Lib.hid (oB_len hro)
      have HTI := Lib.hid (HT.out i)
      have HC2 : Hid (∀ (v : Value) (len : Nat) (zs : List Int) (w : World), RI .u8 w v len zs → (len : Int) ≤ 150000000000000 → Calls Try.prog 16 #[v, .agg (oA o.kind o.key o.val)] w fun e w' => ∃ v', e = .returned (.tuple #[v', .int .i64 0]) ∧ w'.ownsRow w.heap.size 5 1 v' (zs ++ oB o).length (il .u8 (zs ++ oB o)) ∧ Below w.heap.size w w') := Lib.hid fun v len zs w h1 h2 => oput_right v len zs o.kind o.key o.val w h1 h2 hro
      have HQ := Lib.hid (batB_take ho)
      clear ho r1 hro hb2
      go_wp2_with (first
        | (refine wpl_load_op rfl (.tmp 14) rfl rfl HR1.out ?_)
        | (refine wpl_load_op rfl (.tmp 14) rfl rfl HR2.out ?_)
        | (refine wpList_store_row rfl 36 _ _ rfl wr.heap.size (oA o.kind o.key o.val) rfl rfl _ _ (heap_alloc_last wr _) (op_info _ rfl) rfl (op_one _ _ _) ?_)
        | (refine load_ob rfl (.tmp 6) rfl rfl HO1.out ?_)
        | (go_at_call 16; (with_reducible refine (HC2.out _ _ _ _ (RI.own HOX.out) (by have := HTI.out; omega)).mono ?_); rintro e w1 ⟨v1, rfl, ho1, hb⟩; have HO2 := Lib.hid (own_mono ho1 HB2.out.size); have HB1 := Lib.hid (bch HB2.out hb); clear hb ho1))
      go_roundw
      case rel =>
        refine ⟨i + 1, by go_num, by omega, HB1, Lib.hid ?_⟩
        rw [HQ.out]
        exact HO2.out
      case measure => simp [intOf]; omega
    · have hq : i = n := by omega
      subst hq
      go_wp2
      go_ret2
      have h1 := HO.out
      rw [List.take_of_length_le (by have := HN.out; omega)] at h1
      exact ⟨_, rfl, h1, HB.out⟩
end Go.Proofs.Ytmcfnlfaclkbhaa
