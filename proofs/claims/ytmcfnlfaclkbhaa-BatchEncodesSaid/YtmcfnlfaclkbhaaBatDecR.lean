/-
  LAYER 12 (batch): the batch that bytes are: the reference's Decode. No condition but a bound on the length.
-/
import Derived.Test.YtmcfnlfaclkbhaaBatDec
namespace Go.Proofs.Ytmcfnlfaclkbhaa
open Go.RowKit
theorem all_end {k : List AO} {rest : List Int} (hr : rest = []) (y : Bool) (hy : batR k = y) : (y = true → k = batL k rest ∧ batE k rest = 0) ∧ (y = false → batL k rest = [] ∧ batE k rest = 2) := by
  subst hr
  refine ⟨fun h => ?_, fun h => ?_⟩
  · rw [h] at hy
    obtain ⟨h1, h2⟩ := batL_zero hy
    exact ⟨h1.symm, h2⟩
  · rw [h] at hy
    unfold batL batE
    simp [hy]
theorem OS.cast {w : World} {v : Value} {l l' : List AO} (h : OS w v l) (e : l = l') : OS w v l' := e ▸ h
/-- the first j -/
def pre (k : List AO) (j : Nat) : List AO := k.take j
theorem pre_next {k : List AO} {j : Nat} {o : AO} (ho : k[j]? = some o) : pre k (j + 1) = pre k j ++ [o] := take_next ho
theorem oB_many {k : List AO} (h : ∀ o ∈ k, oR o = true) (j : Nat) (hj : j ≤ k.length) : j ≤ (batB (k.take j)).length := by
  induction j with
  | zero => omega
  | succ j ih =>
    have ho : k[j]? = some k[j] := List.getElem?_eq_getElem (by omega)
    rw [batB_take ho, List.length_append]
    have := oB_pos (h _ (List.mem_of_getElem? ho))
    have := ih (by omega)
    omega
set_option maxRecDepth 8000 in
set_option maxHeartbeats 4000000 in
theorem rbdecode_any (v : Value) (len : Nat) (k : List AO) (rest : List Int) (w : World) (hri : RI .u8 w v len (batB k ++ rest)) (hb : isB rest) (hk : ∀ o ∈ k, oR o = true) (hs : Stop rest) (hlen : len ≤ 1000000) :
    Calls Try.prog 13 #[v] w fun e w' => ∃ v', e = .returned (.tuple #[v', .int .i64 (batE k rest)]) ∧ OS w' v' (batL k rest) ∧ Below w.heap.size w w' := by
  obtain ⟨p, c, rfl⟩ : ∃ a c, v = .slice a len c := by obtain ⟨a, c, e, _⟩ := hri; exact ⟨a, c, e⟩
  have hcap : len ≤ c ∧ c ≤ 9223372036854775807 := by obtain ⟨a', cap', e, _, h1, h2, _⟩ := hri; simp only [Value.slice.injEq, true_and] at e; omega
  obtain ⟨hlc, hc63⟩ := hcap
  have HLE := Lib.hid fun j => left_len k rest j
  have hrl := hri.length
  rw [hrl] at HLE
  have HDR := Lib.hid fun j => left_drop k rest j
  have HM := Lib.hid fun j => oB_many hk j
  have HR0 := Lib.hid hri
  have HK := Lib.hid hk
  have HS := Lib.hid hs
  have HBB := Lib.hid fun j => left_bytes hk hb j
  clear hri hb hk hs hrl
  go_enter Try.func13, Try.ntmps13
  go_wp2
  go_loopw [4, 5] (fun lv iv wr => ∃ (j t : Nat), iv = .int .i64 t ∧ j ≤ k.length ∧ t ≤ len ∧ Hid ((batB (k.take j)).length = t) ∧ Hid (wr.ownsRow w.heap.size 36 3 lv (pre k j).length (oF (pre k j))) ∧ Hid (Below w.heap.size w wr)) (fun _ iv _ => len - (intOf iv).toNat)
  case atStart => exact ⟨0, 0, rfl, by omega, by omega, Lib.hid rfl, Lib.hid (World.ownsRow_nil _ _ _ _), Lib.hid (Below.refl _ _)⟩
  case round =>
    obtain ⟨j, t, rfl, hj, ht, HT, HO, HB⟩ := hrel
    obtain ⟨pl, cl, rfl⟩ := own_form HO.out
    have hle := HLE.out j
    rw [HT.out] at hle
    by_cases hlt : (t : Int) < (len : Int)
    · have HR : Hid (∀ p' c', RI .u8 w (.slice p' (len - t) c') (len - t) ((batB k ++ rest).drop t) → RI .u8 w (.slice p' (len - t) c') (len - t) (left k rest j)) := Lib.hid fun p' c' h => by
        have := HDR.out j
        rw [HT.out] at this
        rwa [this] at h
      by_cases hjk : j < k.length
      · obtain ⟨o, ho⟩ : ∃ o, k[j]? = some o := ⟨_, List.getElem?_eq_getElem hjk⟩
        have hro := HK.out o (List.mem_of_getElem? ho)
        have hl := left_next (rest := rest) ho
        have hg := op_got' hro (left k rest (j + 1))
        rw [← hl] at hg
        obtain ⟨n, hn⟩ : ∃ n, (oB o).length = n := ⟨_, rfl⟩
        have hn0 := oB_pos hro
        have hnm : t + n ≤ len := by rw [hl, List.length_append] at hle; omega
        rw [hn] at hg hn0
        have HG : Hid (∀ p' c' w', RI .u8 w (.slice p' (len - t) c') (len - t) ((batB k ++ rest).drop t) → Below w.heap.size w w' → Calls Try.prog 21 #[.slice p' (len - t) c'] w' fun e w'' => e = .returned (.tuple #[.agg (oA o.kind o.key o.val), .int .i64 n, .int .i64 0]) ∧ Below w'.heap.size w' w'') := Lib.hid fun p' c' w' hr hb => by
          have := roget_any _ _ _ w' ((HR.out _ _ hr).keep hb) (HBB.out j) (by omega)
          rw [hg] at this
          exact this
        have HT2 : Hid ((batB (k.take (j + 1))).length = t + n) := Lib.hid (by rw [batB_take ho, List.length_append, HT.out, hn])
        have HTK := Lib.hid (pre_next ho)
        have HJL : Hid ((pre k j).length = j) := Lib.hid (by unfold pre; rw [List.length_take]; omega)
        have HJT : Hid (j ≤ t) := Lib.hid (by have := HM.out j hj; rw [HT.out] at this; exact this)
        have HJ1 := Lib.hid hjk
        clear hl hg hn ho hro hjk
        go_wp2_with (first
          | (refine wpl_from_of rfl (.tmp 14) (.tmp 15) rfl p len c t (batB k ++ rest) rfl rfl HR0.out ht ?_; intro p7 c7 HR7)
          | (go_at_call 21; (with_reducible refine (HG.out _ _ _ HR7.out HB.out).mono ?_); rintro e w1 ⟨rfl, hb1⟩; have HB1 := Lib.hid (bch HB.out hb1); have HO1 := Lib.hid (own_keep HO.out hb1); clear hb1)
          | (refine wpList_store_row rfl 36 _ _ rfl w1.heap.size (oA o.kind o.key o.val) rfl rfl _ _ (heap_alloc_last w1 _) (op_info _ rfl) rfl (op_one _ _ _) ?_; have HP2 := Lib.hid (OB.new w1 (oA 0 ⟨#[]⟩ ⟨#[]⟩) o.kind o.key o.val); have HB2 := Lib.hid (bch HB1.out (bnew w1 (.cells (oA 0 ⟨#[]⟩ ⟨#[]⟩) 36) (oA o.kind o.key o.val))); have HO2 := Lib.hid (own_keep HO1.out (bnew w1 (.cells (oA 0 ⟨#[]⟩ ⟨#[]⟩) 36) (oA o.kind o.key o.val))))
          | (refine load_ob rfl (.tmp 6) rfl rfl HP2.out ?_)
          | (at_builtin; go_loud (refine wpl_app_op rfl (.tmp 24) (.tmp 26) rfl w.heap.size _ _ _ rfl (Lib.hid (own_keep HO2.out (balloc _ _))) _ o rfl (new_two w1 _ _ _) (by have := HJL.out; have := HJT.out; omega) w.heap.size w (Lib.hid (bch HB2.out (balloc _ _))) (Nat.le_refl _) (Nat.le_trans HB2.out.size (balloc _ _).size) ?_); intro v9 w9 HO9 HB9 HG9))
        go_roundw
        case rel =>
          exact ⟨j + 1, t + n, by go_num, HJ1.out, by omega, HT2, Lib.hid (by rw [HTK.out, List.length_append]; exact HO9.out), HB9⟩
        case measure => simp [intOf]; omega
      · have hl := left_end (rest := rest) (show k.length ≤ j by omega)
        rw [hl] at hle
        have hne : rest ≠ [] := by rintro rfl; simp at hle; omega
        have hst : (opG rest).2.2 ≠ 0 := HS.out.resolve_left hne
        obtain ⟨e1, e2⟩ := bat_err (k := k) hne
        obtain ⟨y, hy⟩ : ∃ y, (opG rest).2.2 = y := ⟨_, rfl⟩
        rw [hy] at hst e2
        have hy0 : (y != 0) = true := by simpa using hst
        have HG : Hid (∀ p' c' w', RI .u8 w (.slice p' (len - t) c') (len - t) ((batB k ++ rest).drop t) → Below w.heap.size w w' → Calls Try.prog 21 #[.slice p' (len - t) c'] w' fun e w'' => e = .returned (.tuple #[.agg (oA 0 ⟨#[]⟩ ⟨#[]⟩), .int .i64 0, .int .i64 y]) ∧ Below w'.heap.size w' w'') := Lib.hid fun p' c' w' hr hb => by
          have := roget_any _ _ _ w' ((HR.out _ _ hr).keep hb) (HBB.out j) (by omega)
          rw [hl, op_none' hy hst] at this
          exact this
        have HE := Lib.hid (And.intro e1 e2)
        clear hl hle hne hst e1 e2 hy
        go_wp2_with (first
          | (refine wpl_from_of rfl (.tmp 14) (.tmp 15) rfl p len c t (batB k ++ rest) rfl rfl HR0.out ht ?_; intro p7 c7 HR7)
          | (go_at_call 21; (with_reducible refine (HG.out _ _ _ HR7.out HB.out).mono ?_); rintro e w1 ⟨rfl, hb1⟩; have HB1 := Lib.hid (bch HB.out hb1); clear hb1)
          | (refine wpList_store_row rfl 36 _ _ rfl w1.heap.size (oA 0 ⟨#[]⟩ ⟨#[]⟩) rfl rfl _ _ (heap_alloc_last w1 _) (op_info _ rfl) rfl (op_one _ _ _) ?_; have HB2 := Lib.hid (bch HB1.out (bnew w1 (.cells (oA 0 ⟨#[]⟩ ⟨#[]⟩) 36) (oA 0 ⟨#[]⟩ ⟨#[]⟩)))))
        go_ret2
        rw [HE.out.1, HE.out.2]
        exact ⟨_, rfl, CS.nil 3 _, HB2.out⟩
    · obtain rfl : t = len := by omega
      have hrl : (left k rest j).length = 0 := by omega
      have hjk : k.length ≤ j := by
        by_cases h : j < k.length
        · obtain ⟨o, ho⟩ : ∃ o, k[j]? = some o := ⟨_, List.getElem?_eq_getElem h⟩
          have h0 := oB_pos (HK.out o (List.mem_of_getElem? ho))
          rw [left_next ho, List.length_append] at hrl
          omega
        · omega
      have hr0 : rest = [] := by rw [left_end hjk] at hrl; exact List.length_eq_zero_iff.1 hrl
      obtain ⟨y, hy⟩ : ∃ y, batR k = y := ⟨_, rfl⟩
      obtain ⟨e2, e3⟩ := all_end (k := k) hr0 y hy
      have hos := OS.own HO.out
      have hpk : pre k j = k := List.take_of_length_le hjk
      have HC := Lib.hid (rbright_any _ _ wr hos)
      have hyp : batR (pre k j) = y := by rw [hpk]; exact hy
      rw [hyp] at HC
      have HPK := Lib.hid hpk
      have HOS := Lib.hid hos
      clear hrl hjk hy hos hyp hle hpk
      cases y with
      | false =>
        have HE := Lib.hid (e3 rfl)
        clear e2 e3
        go_wp2_with (first
          | (go_at_call 9; (with_reducible refine HC.out.mono ?_); rintro e w1 ⟨rfl, hb1⟩; have HB1 := Lib.hid (bch HB.out hb1); clear hb1))
        go_ret2
        rw [HE.out.1, HE.out.2]
        exact ⟨_, rfl, CS.nil 3 _, HB1.out⟩
      | true =>
        have HE := Lib.hid (e2 rfl)
        clear e2 e3
        go_wp2_with (first
          | (go_at_call 9; (with_reducible refine HC.out.mono ?_); rintro e w1 ⟨rfl, hb1⟩; have HB1 := Lib.hid (bch HB.out hb1); have HOS1 := Lib.hid (HOS.out.keep hb1); clear hb1))
        go_ret2
        rw [HE.out.2, ← HE.out.1]
        exact ⟨_, rfl, HOS1.out.cast HPK.out, HB1.out⟩
end Go.Proofs.Ytmcfnlfaclkbhaa
