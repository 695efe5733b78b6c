/-
  LAYER 12 (batch): whether a list is a batch: the reference's Right, the program's. No condition.
-/
import Derived.Test.YtmcfnlfaclkbhaaBatMath
import Derived.Test.YtmcfnlfaclkbhaaOpRight
import Derived.Test.YtmcfnlfaclkbhaaOpSame
namespace Go.Proofs.Ytmcfnlfaclkbhaa
open Go.RowKit
/-- a new variable and what is stored in it -/
theorem OB.new (w : World) (c : Array Value) (k : Int) (s t : ByteArray) : OB ((w.alloc (.cells c 36)).setRow w.heap.size (oA k s t)) w.heap.size k s t := setRow_heap _ _ _ _ _ _ (heap_alloc_last w _)
theorem load_ob {w : World} {ops : Array Oper} {rest : List Oper} {o : Oper} {a : Act} {Q : Exit → Act → World → Prop} {b : Nat} {k : Int} {s t : ByteArray} (hgd : o.guard = none) (x : Operand) (ho : o.op = .load 36 x) (hx : a.eval x = .pointer (some ⟨b, 0, none⟩)) (h : OB w b k s t)
    (hk : wpList Try.prog ops Q rest (a.put o.dst (.agg (oA k s t))) w) : wpList Try.prog ops Q (o :: rest) a w :=
  wpList_load_row hgd 36 x ho b hx _ (oA k s t) (0, 0) _ h Try.underlying36 rfl (op_info _ rfl) hk
theorem all_take {l : List AO} {i : Nat} (h : ∀ j, j < i → ∀ o, l[j]? = some o → oR o = true) (hi : l.length ≤ i) : l.all oR = true := by
  rw [List.all_eq_true]
  intro o ho
  obtain ⟨j, hj, rfl⟩ := List.getElem_of_mem ho
  exact h j (by omega) _ (List.getElem?_eq_getElem hj)
theorem not_all {l : List AO} {i : Nat} {o : AO} (h : l[i]? = some o) (hr : oR o = false) : batR l = false := by
  unfold batR
  have : l.all oR = false := by
    rw [List.all_eq_false]; exact ⟨o, List.mem_of_getElem? h, by rw [hr]; simp⟩
  rw [this]; rfl
theorem all_next {l : List AO} {i : Nat} {o : AO} (h : ∀ j, j < i → ∀ o, l[j]? = some o → oR o = true) (ho : l[i]? = some o) (hr : oR o = true) : ∀ j, j < i + 1 → ∀ o, l[j]? = some o → oR o = true := by
  intro j hj o' ho'
  by_cases hji : j = i
  · subst hji
    rw [ho] at ho'
    obtain rfl := Option.some.inj ho'
    exact hr
  · exact h j (by omega) o' ho'
theorem batR_all {l : List AO} {n : Nat} (hn : l.length = n) (h : ∀ j, j < n → ∀ o, l[j]? = some o → oR o = true) : batR l = decide (0 < n ∧ n ≤ 8) := by
  unfold batR
  rw [all_take h (by omega), hn]; rfl
theorem os_at {w : World} {a : Option Addr} {n cap : Nat} {l : List AO} (H : OS w (.slice a n cap) l) (hl : l.length = n) (i : Nat) (hi : i < n) :
    ∃ c b o, l[i]? = some c ∧ a = some ⟨b, o, none⟩ ∧ w.rangeAt b (o + i * 3) (oL c) := by
  have hc : l[i]? = some l[i] := List.getElem?_eq_getElem (by omega)
  obtain ⟨b, o, e, r⟩ := H.at_ i _ hc
  exact ⟨_, b, o, hc, e, r⟩
set_option maxRecDepth 8000 in
set_option maxHeartbeats 2000000 in
theorem rbright_any (v : Value) (l : List AO) (w : World) (h : OS w v l) :
    Calls Try.prog 9 #[v] w fun e w' => e = .returned (.bool (batR l)) ∧ Below w.heap.size w w' := by
  obtain ⟨a, c, rfl, hc, hm, _⟩ := h.form
  obtain ⟨n, hn⟩ : ∃ n, l.length = n := ⟨_, rfl⟩
  rw [hn] at h hc ⊢
  have H1 := Lib.hid h
  have HN := Lib.hid hn
  obtain ⟨y, hy⟩ : ∃ y, batR l = y := ⟨_, rfl⟩
  rw [hy]
  have HY := Lib.hid hy
  clear h hn hy
  go_enter Try.func9, Try.ntmps9
  go_wp2
  go_loopw [3] (fun iv wr => ∃ i : Nat, iv = .int .i64 i ∧ i ≤ n ∧ Hid (Below w.heap.size w wr) ∧ Hid (∀ j, j < i → ∀ o, l[j]? = some o → oR o = true)) (fun iv _ => n - (intOf iv).toNat)
  case atStart => exact ⟨0, rfl, by omega, Lib.hid (Below.refl _ _), Lib.hid fun j hj => absurd hj (by omega)⟩
  case round =>
    obtain ⟨i, rfl, hi, HB, HE⟩ := hrel
    by_cases hlt : (i : Int) < (n : Int)
    · obtain ⟨o, b, off, ho, rfl, r1⟩ := os_at H1.out HN.out i (by omega)
      have HO := Lib.hid ho
      have HR1 := Lib.hid (rangeAt_keep HB.out r1)
      obtain ⟨q, hq⟩ : ∃ q, oR o = q := ⟨_, rfl⟩
      have HC : Hid (∀ w, Calls Try.prog 18 #[opV o] w fun e w' => e = .returned (.bool q) ∧ Below w.heap.size w w') := Lib.hid fun w => by rw [← hq]; exact roright_any o.kind o.key o.val w
      have HQ := Lib.hid hq
      clear ho r1 hq
      cases q with
      | false =>
        go_wp2_with (first
          | (refine wpl_load_op rfl (.tmp 12) rfl rfl HR1.out ?_)
          | (go_at_call 18; (with_reducible refine (HC.out _).mono ?_); rintro e w1 ⟨rfl, hb⟩; have HB1 := Lib.hid (bch HB.out hb); clear hb))
        go_ret
        have h1 := not_all HO.out HQ.out
        rw [HY.out] at h1
        exact ⟨by rw [h1]; rfl, HB1.out⟩
      | true =>
        go_wp2_with (first
          | (refine wpl_load_op rfl (.tmp 12) rfl rfl HR1.out ?_)
          | (go_at_call 18; (with_reducible refine (HC.out _).mono ?_); rintro e w1 ⟨rfl, hb⟩; have HB1 := Lib.hid (bch HB.out hb); clear hb))
        go_roundw
        case rel => exact ⟨i + 1, by go_num, by omega, HB1, Lib.hid (all_next HE.out HO.out HQ.out)⟩
        case measure => simp [intOf]; omega
    · have hq : i = n := by omega
      subst hq
      have HYY : Hid (y = decide (0 < i ∧ i ≤ 8)) := Lib.hid (by
        rw [← HY.out]; exact batR_all HN.out HE.out)
      clear HY
      by_cases h0 : (0 : Int) < (i : Int)
      · by_cases h8 : (i : Int) ≤ 8
        · go_wp2
          go_ret
          exact ⟨by rw [HYY.out, decide_eq_true ⟨by omega, by omega⟩]; rfl, HB.out⟩
        · go_wp2
          go_ret
          exact ⟨by rw [HYY.out, decide_eq_false (by omega)]; rfl, HB.out⟩
      · go_wp2
        go_ret
        exact ⟨by rw [HYY.out, decide_eq_false (by omega)]; rfl, HB.out⟩
set_option maxRecDepth 8000 in
set_option maxHeartbeats 2000000 in
theorem bright_any (v : Value) (l : List AO) (w : World) (h : OS w v l) :
    Calls Try.prog 8 #[v] w fun e w' => e = .returned (.bool (batR l)) ∧ Below w.heap.size w w' := by
  obtain ⟨a, c, rfl, hc, hm, _⟩ := h.form
  obtain ⟨n, hn⟩ : ∃ n, l.length = n := ⟨_, rfl⟩
  rw [hn] at h hc ⊢
  by_cases h1 : 0 < n ∧ n ≤ 8
  · have e1 : ((n : Int) == 0) = false := by simpa using fun e => by omega
    have e2 : ¬ 8 < (n : Int) := by omega
    have H1 := Lib.hid h
    have HN := Lib.hid hn
    obtain ⟨y, hy⟩ : ∃ y, batR l = y := ⟨_, rfl⟩
    rw [hy]
    have HY := Lib.hid hy
    clear h hn hy
    go_enter Try.func8, Try.ntmps8
    go_wp2
    go_loopw [15] (fun iv wr => ∃ i : Nat, iv = .int .i64 i ∧ i ≤ n ∧ Hid (Below w.heap.size w wr) ∧ Hid (∀ j, j < i → ∀ o, l[j]? = some o → oR o = true)) (fun iv _ => n - (intOf iv).toNat)
    case atStart => exact ⟨0, rfl, by omega, Lib.hid (Below.refl _ _), Lib.hid fun j hj => absurd hj (by omega)⟩
    case round =>
      obtain ⟨i, rfl, hi, HB, HE⟩ := hrel
      by_cases hlt : (i : Int) < (n : Int)
      · obtain ⟨o, b, off, ho, rfl, r1⟩ := os_at H1.out HN.out i (by omega)
        have HO := Lib.hid ho
        have HR1 := Lib.hid (rangeAt_keep HB.out r1)
        have HR2 := Lib.hid (rangeAt_keep (balloc wr (.cells (oA 0 ⟨#[]⟩ ⟨#[]⟩) 36)) HR1.out)
        have HO1 := Lib.hid (OB.new wr (oA 0 ⟨#[]⟩ ⟨#[]⟩) o.kind o.key o.val)
        have HB2 := Lib.hid (bch HB.out (bnew wr (.cells (oA 0 ⟨#[]⟩ ⟨#[]⟩) 36) (oA o.kind o.key o.val)))
        obtain ⟨q, hq⟩ : ∃ q, oR o = q := ⟨_, rfl⟩
        have HC : Hid (∀ w, Calls Try.prog 17 #[.agg (oA o.kind o.key o.val)] w fun e w' => e = .returned (.bool q) ∧ Below w.heap.size w w') := Lib.hid fun w => by rw [← hq]; exact oright_any o.kind o.key o.val w
        have HQ := Lib.hid hq
        clear ho r1 hq
        cases q with
        | false =>
          go_wp2_with (first
            | (refine wpl_load_op rfl (.tmp 17) rfl rfl HR1.out ?_)
            | (refine wpl_load_op rfl (.tmp 17) rfl rfl HR2.out ?_)
            | (refine wpList_store_row rfl 36 _ _ rfl wr.heap.size (oA o.kind o.key o.val) rfl rfl _ _ (heap_alloc_last wr _) (op_info _ rfl) rfl (op_one _ _ _) ?_)
            | (refine load_ob rfl (.tmp 4) rfl rfl HO1.out ?_)
            | (go_at_call 17; (with_reducible refine (HC.out _).mono ?_); rintro e w1 ⟨rfl, hb⟩; have HB1 := Lib.hid (bch HB2.out hb); clear hb))
          go_ret
          have h1 := not_all HO.out HQ.out
          rw [HY.out] at h1
          exact ⟨by rw [h1]; rfl, HB1.out⟩
        | true =>
          go_wp2_with (first
            | (refine wpl_load_op rfl (.tmp 17) rfl rfl HR1.out ?_)
            | (refine wpl_load_op rfl (.tmp 17) rfl rfl HR2.out ?_)
            | (refine wpList_store_row rfl 36 _ _ rfl wr.heap.size (oA o.kind o.key o.val) rfl rfl _ _ (heap_alloc_last wr _) (op_info _ rfl) rfl (op_one _ _ _) ?_)
            | (refine load_ob rfl (.tmp 4) rfl rfl HO1.out ?_)
            | (go_at_call 17; (with_reducible refine (HC.out _).mono ?_); rintro e w1 ⟨rfl, hb⟩; have HB1 := Lib.hid (bch HB2.out hb); clear hb))
          go_roundw
          case rel => exact ⟨i + 1, by go_num, by omega, HB1, Lib.hid (all_next HE.out HO.out HQ.out)⟩
          case measure => simp [intOf]; omega
      · have hq : i = n := by omega
        subst hq
        have HYY : Hid (y = true) := Lib.hid (by
          rw [← HY.out, batR_all HN.out HE.out]; exact decide_eq_true (by omega))
        clear HY
        go_wp2
        go_ret
        exact ⟨by rw [HYY.out]; rfl, HB.out⟩
  · rw [show batR l = false from by unfold batR; rw [hn, decide_eq_false h1]; simp]
    clear h
    by_cases h0 : n = 0
    · subst h0
      go_enter Try.func8, Try.ntmps8
      go_wp2
      go_ret
      exact ⟨rfl, Below.refl _ _⟩
    · have e1 : ((n : Int) == 0) = false := by simpa using fun e => by omega
      have e2 : 8 < (n : Int) := by omega
      go_enter Try.func8, Try.ntmps8
      go_wp2
      go_ret
      exact ⟨rfl, Below.refl _ _⟩
end Go.Proofs.Ytmcfnlfaclkbhaa
