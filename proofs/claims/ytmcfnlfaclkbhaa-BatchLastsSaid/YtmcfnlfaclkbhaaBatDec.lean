/-
  LAYER 12 (batch): the batch that bytes are: the program's Decode. No condition but a bound on the length.
-/
import Derived.Test.YtmcfnlfaclkbhaaBatList
import Derived.Test.YtmcfnlfaclkbhaaOpGo
namespace Go.Proofs.Ytmcfnlfaclkbhaa
open Go.RowKit
theorem nine_end {k : List AO} {rest : List Int} {j : Nat} (hk : ∀ o ∈ k, oR o = true) (hj : k.length ≤ j) (hr : rest = []) (y : Bool) (hy : batR k = y) : batR (nine k j) = y ∧ (y = true → nine k j = batL k rest ∧ batE k rest = 0) ∧ (y = false → batL k rest = [] ∧ batE k rest = 2) := by
  subst hr
  have e : nine k j = k.take 9 := by unfold nine; rw [List.take_of_length_le hj]
  refine ⟨by rw [e, batR_take k hk, hy], fun h => ?_, fun h => ?_⟩
  · rw [h] at hy
    obtain ⟨_, _, h8⟩ := batR_of hy
    obtain ⟨h1, h2⟩ := batL_zero hy
    exact ⟨by rw [h1, e, List.take_of_length_le (by omega)], h2⟩
  · rw [h] at hy
    unfold batL batE
    simp [hy]
theorem bat_err {k : List AO} {rest : List Int} (h : rest ≠ []) : batL k rest = [] ∧ batE k rest = (opG rest).2.2 := by
  unfold batL batE; simp [h]
theorem op_none' {rest : List Int} {e : Int} (h : (opG rest).2.2 = e) (hne : e ≠ 0) : opG rest = ((0, ⟨#[]⟩, ⟨#[]⟩), 0, e) := by
  obtain ⟨h1, h2⟩ := op_none rest (by omega)
  have h3 : noO = (0, ⟨#[]⟩, ⟨#[]⟩) := rfl
  rw [h3] at h1
  exact Prod.ext h1 (Prod.ext h2 h)
set_option maxRecDepth 8000 in
set_option maxHeartbeats 4000000 in
theorem bdecode_any (v : Value) (len : Nat) (k : List AO) (rest : List Int) (w : World) (hri : RI .u8 w v len (batB k ++ rest)) (hb : isB rest) (hk : ∀ o ∈ k, oR o = true) (hs : Stop rest) (hlen : len ≤ 1000000) :
    Calls Try.prog 10 #[v] w fun e w' => ∃ v', e = .returned (.tuple #[v', .int .i64 (batE k rest)]) ∧ OS w' v' (batL k rest) ∧ Below w.heap.size w w' := by
  obtain ⟨p0, c0, rfl⟩ : ∃ a c, v = .slice a len c := by obtain ⟨a, c, e, _⟩ := hri; exact ⟨a, c, e⟩
  have HR0 := Lib.hid hri
  have HK := Lib.hid hk
  have HS := Lib.hid hs
  have HBB := Lib.hid fun j => left_bytes hk hb j
  clear hri hb hk hs
  go_enter Try.func10, Try.ntmps10
  go_wp2
  go_loopw [0, 4] (fun x lv wr => ∃ (j m : Nat) (p : Option Addr) (c : Nat), x = .slice p m c ∧ j ≤ k.length ∧ m ≤ len ∧ Hid (RI .u8 w (.slice p m c) m (left k rest j)) ∧ Hid (wr.ownsRow w.heap.size 36 3 lv (nine k j).length (oF (nine k j))) ∧ Hid (Below w.heap.size w wr)) (fun x _ _ => match x with | .slice _ m _ => m | _ => 0)
  case atStart => exact ⟨0, len, p0, c0, rfl, by omega, by omega, Lib.hid (by rw [left_zero]; exact HR0.out), Lib.hid (World.ownsRow_nil _ _ _ _), Lib.hid (Below.refl _ _)⟩
  case round =>
    obtain ⟨j, m, p, c, rfl, hj, hm, HR, HO, HB⟩ := hrel
    obtain ⟨pl, cl, rfl⟩ := own_form HO.out
    by_cases hlt : 0 < (m : Int)
    · by_cases hjk : j < k.length
      · obtain ⟨o, ho⟩ : ∃ o, k[j]? = some o := ⟨_, List.getElem?_eq_getElem hjk⟩
        have hro := HK.out o (List.mem_of_getElem? ho)
        have hl := left_next (rest := rest) ho
        have hg := op_got' hro (left k rest (j + 1))
        rw [← hl] at hg
        have hrl := HR.out.length
        obtain ⟨n, hn⟩ : ∃ n, (oB o).length = n := ⟨_, rfl⟩
        have hn0 := oB_pos hro
        have hdr : (left k rest j).drop n = left k rest (j + 1) := by rw [hl, ← hn, List.drop_left]
        have hnm : n ≤ m := by rw [hl, List.length_append] at hrl; omega
        rw [hn] at hg hn0
        have HG : Hid (∀ w', Below w.heap.size w w' → Calls Try.prog 19 #[.slice p m c] w' fun e w'' => e = .returned (.tuple #[.agg (oA o.kind o.key o.val), .int .i64 n, .int .i64 0]) ∧ Below w'.heap.size w' w'') := Lib.hid fun w' hb => by
          have := oget_any _ m _ w' (HR.out.keep hb) (HBB.out j) (by omega)
          rw [hg] at this
          exact this
        have HN := Lib.hid hn
        have HD := Lib.hid hdr
        have HOO := Lib.hid ho
        have HNM := Lib.hid hnm
        clear hl hg hrl hn hdr ho hro hjk
        by_cases h8 : ((nine k j).length : Int) ≤ 8
        · have h9 : (nine k j).length ≤ 8 := by omega
          have HT := Lib.hid (nine_more HOO.out h9)
          clear h9
          go_wp2_with (first
            | (go_at_call 19; (with_reducible refine (HG.out _ HB.out).mono ?_); rintro e w1 ⟨rfl, hb1⟩; have HB1 := Lib.hid (bch HB.out hb1); have HO1 := Lib.hid (own_keep HO.out hb1); clear hb1)
            | (refine wpList_store_row rfl 36 _ _ rfl w1.heap.size (oA o.kind o.key o.val) rfl rfl _ _ (heap_alloc_last w1 _) (op_info _ rfl) rfl (op_one _ _ _) ?_; have HP2 := Lib.hid (OB.new w1 (oA 0 ⟨#[]⟩ ⟨#[]⟩) o.kind o.key o.val); have HB2 := Lib.hid (bch HB1.out (bnew w1 (.cells (oA 0 ⟨#[]⟩ ⟨#[]⟩) 36) (oA o.kind o.key o.val))); have HO2 := Lib.hid (own_keep HO1.out (bnew w1 (.cells (oA 0 ⟨#[]⟩ ⟨#[]⟩) 36) (oA o.kind o.key o.val))))
            | (refine load_ob rfl (.tmp 5) rfl rfl HP2.out ?_)
            | (at_builtin; go_loud (refine wpl_app_op rfl (.tmp 23) (.tmp 25) rfl w.heap.size _ _ _ rfl (Lib.hid (own_keep HO2.out (balloc _ _))) _ o rfl (new_two w1 _ _ _) (by omega) w.heap.size w (Lib.hid (bch HB2.out (balloc _ _))) (Nat.le_refl _) (Nat.le_trans HB2.out.size (balloc _ _).size) ?_); intro v9 w9 HO9 HB9 HG9)
            | (refine wpl_from_of rfl (.tmp 27) (.tmp 28) rfl p m c n (left k rest j) rfl rfl HR.out HNM.out ?_; intro p7 c7 HR7))
          go_roundw
          case rel =>
            exact ⟨j + 1, m - n, p7, c7, rfl, (List.getElem?_eq_some_iff.1 HOO.out).1, by omega, Lib.hid (by rw [← HD.out]; exact HR7.out), Lib.hid (by rw [HT.out, List.length_append]; exact HO9.out), HB9⟩
          case measure => show m - n < m; omega
        · have h9 : ¬ (nine k j).length ≤ 8 := by omega
          have HT := Lib.hid (nine_full HOO.out h9)
          clear h9
          go_wp2_with (first
            | (go_at_call 19; (with_reducible refine (HG.out _ HB.out).mono ?_); rintro e w1 ⟨rfl, hb1⟩; have HB1 := Lib.hid (bch HB.out hb1); have HO1 := Lib.hid (own_keep HO.out hb1); clear hb1)
            | (refine wpList_store_row rfl 36 _ _ rfl w1.heap.size (oA o.kind o.key o.val) rfl rfl _ _ (heap_alloc_last w1 _) (op_info _ rfl) rfl (op_one _ _ _) ?_; have HP2 := Lib.hid (OB.new w1 (oA 0 ⟨#[]⟩ ⟨#[]⟩) o.kind o.key o.val); have HB2 := Lib.hid (bch HB1.out (bnew w1 (.cells (oA 0 ⟨#[]⟩ ⟨#[]⟩) 36) (oA o.kind o.key o.val))); have HO2 := Lib.hid (own_keep HO1.out (bnew w1 (.cells (oA 0 ⟨#[]⟩ ⟨#[]⟩) 36) (oA o.kind o.key o.val))))
            | (refine wpl_from_of rfl (.tmp 27) (.tmp 28) rfl p m c n (left k rest j) rfl rfl HR.out HNM.out ?_; intro p7 c7 HR7))
          go_roundw
          case rel =>
            exact ⟨j + 1, m - n, p7, c7, rfl, (List.getElem?_eq_some_iff.1 HOO.out).1, by omega, Lib.hid (by rw [← HD.out]; exact HR7.out), Lib.hid (by rw [HT.out]; exact HO2.out), HB2⟩
          case measure => show m - n < m; omega
      · have hl := left_end (rest := rest) (show k.length ≤ j by omega)
        have hrl := HR.out.length
        rw [hl] at hrl
        have hne : rest ≠ [] := by rintro rfl; simp at hrl; omega
        have hst : (opG rest).2.2 ≠ 0 := HS.out.resolve_left hne
        obtain ⟨e1, e2⟩ := bat_err (k := k) hne
        obtain ⟨y, hy⟩ : ∃ y, (opG rest).2.2 = y := ⟨_, rfl⟩
        rw [hy] at hst e2
        have hy0 : (y != 0) = true := by simpa using hst
        have HG : Hid (∀ w', Below w.heap.size w w' → Calls Try.prog 19 #[.slice p m c] w' fun e w'' => e = .returned (.tuple #[.agg (oA 0 ⟨#[]⟩ ⟨#[]⟩), .int .i64 0, .int .i64 y]) ∧ Below w'.heap.size w' w'') := Lib.hid fun w' hb => by
          have := oget_any _ m _ w' (HR.out.keep hb) (HBB.out j) (by omega)
          rw [hl, op_none' hy hst] at this
          exact this
        have HE := Lib.hid (And.intro e1 e2)
        clear hl hrl hne hst e1 e2 hy
        go_wp2_with (first
          | (go_at_call 19; (with_reducible refine (HG.out _ HB.out).mono ?_); rintro e w1 ⟨rfl, hb1⟩; have HB1 := Lib.hid (bch HB.out hb1); clear hb1)
          | (refine wpList_store_row rfl 36 _ _ rfl w1.heap.size (oA 0 ⟨#[]⟩ ⟨#[]⟩) rfl rfl _ _ (heap_alloc_last w1 _) (op_info _ rfl) rfl (op_one _ _ _) ?_; have HB2 := Lib.hid (bch HB1.out (bnew w1 (.cells (oA 0 ⟨#[]⟩ ⟨#[]⟩) 36) (oA 0 ⟨#[]⟩ ⟨#[]⟩)))))
        go_ret2
        rw [HE.out.1, HE.out.2]
        exact ⟨_, rfl, CS.nil 3 _, HB2.out⟩
    · obtain rfl : m = 0 := by omega
      have hrl := HR.out.length
      have hjk : k.length ≤ j := by
        by_cases h : j < k.length
        · obtain ⟨o, ho⟩ : ∃ o, k[j]? = some o := ⟨_, List.getElem?_eq_getElem h⟩
          have h0 := oB_pos (HK.out o (List.mem_of_getElem? ho))
          rw [left_next ho, List.length_append] at hrl
          omega
        · omega
      have hr0 : rest = [] := by rw [left_end hjk] at hrl; exact List.length_eq_zero_iff.1 hrl
      obtain ⟨y, hy⟩ : ∃ y, batR k = y := ⟨_, rfl⟩
      obtain ⟨e1, e2, e3⟩ := nine_end HK.out hjk hr0 y hy
      have HC := Lib.hid (bright_any _ _ wr (OS.own HO.out))
      rw [e1] at HC
      have HOS := Lib.hid (OS.own HO.out)
      clear hrl hjk hy
      cases y with
      | false =>
        have HE := Lib.hid (e3 rfl)
        clear e1 e2 e3
        go_wp2_with (first
          | (go_at_call 8; (with_reducible refine HC.out.mono ?_); rintro e w1 ⟨rfl, hb1⟩; have HB1 := Lib.hid (bch HB.out hb1); clear hb1))
        go_ret2
        rw [HE.out.1, HE.out.2]
        exact ⟨_, rfl, CS.nil 3 _, HB1.out⟩
      | true =>
        have HE := Lib.hid (e2 rfl)
        clear e1 e2 e3
        go_wp2_with (first
          | (go_at_call 8; (with_reducible refine HC.out.mono ?_); rintro e w1 ⟨rfl, hb1⟩; have HB1 := Lib.hid (bch HB.out hb1); have HOS1 := Lib.hid (HOS.out.keep hb1); clear hb1))
        go_ret2
        rw [HE.out.2, ← HE.out.1]
        exact ⟨_, rfl, HOS1.out, HB1.out⟩
end Go.Proofs.Ytmcfnlfaclkbhaa
