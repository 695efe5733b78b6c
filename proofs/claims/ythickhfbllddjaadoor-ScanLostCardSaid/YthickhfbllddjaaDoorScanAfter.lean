/-
  WHAT Synced.After OF THE LAW OF LAYER 19 ANSWERS: what a crash leaves of a segment's sectors. Bytes must lie where the slices say.
-/
import Derived.Test.YthickhfbllddjaaDoorScanAwake
namespace Go.Proofs.YthickhfbllddjaaDoor
open Go.RowKit
section
variable {w : World} {o : Oper} {a : Act}
theorem rw_cell1 : (sizeOf (Tryd.prog.elem 25)).run Tryd.prog w = .ok 1 w := by
  have he : Tryd.prog.elem 25 = 38 := by kernel_rfl
  obtain ⟨i, hi, _, hz1, _⟩ := info_parts Tryd.info_sl
  simp [sizeOf, typeInfo, he, hi, hz1]
theorem und_rw : Tryd.prog.underlying 25 = some (.slice (Tryd.prog.elem 25)) := by
  have he : Tryd.prog.elem 25 = 38 := by kernel_rfl
  rw [Tryd.underlying25, he]
/-- x[:h] of a list of slices -/
theorem exec_cutr_h (x hi : Operand) (ho : o.op = .slice 25 x none (some hi) none) (p : Option Addr) (len cap n : Nat) (hx : a.eval x = .slice p len cap) (hhi : a.eval hi = .int .i64 (n : Int)) (hc : n ≤ cap) :
    (execOp a.eval o).run Tryd.prog w = .ok (.value (sliced p 0 n cap 1)) w := by
  have h1 := run_slice_h (P := Tryd.prog) w 25 p len cap und_rw .i64 (n : Int) (by omega) (by omega)
  rw [rw_cell1] at h1
  simp only [Result.andThen_ok, Int.toNat_natCast] at h1
  simp [execOp, ho, hx, hhi, run_sliceAt_slice _ _ _ _ _ _ und_rw, h1, Result.andThen]
end
theorem RL.pre {w : World} {a : Option Addr} {n cap : Nat} {ls : List (List Int)} (h : RL .u8 w (.slice a n cap) n ls) (q : Nat) (hq : q ≤ n) : RL .u8 w (sliced a 0 q cap 1) q (ls.take q) := by
  have := h.mid 0 q (by omega)
  rwa [Nat.zero_add, List.drop_zero] at this
theorem good_take {ls : List (List Int)} (h : GoodF ls ls.length) (q : Nat) (hq : q ≤ ls.length) : GoodF (ls.take q) (ls.take q).length := fun j hj => by
  have hl : (ls.take q).length = q := by rw [List.length_take]; omega
  rw [hl] at hj
  have := h j (by omega)
  rw [List.take_take, Nat.min_eq_left (by omega)]
  have e : (ls.take q).getD j [] = ls.getD j [] := by simp only [List.getD, List.getElem?_take, hj, if_true]
  rw [e]; exact this
theorem crash_info : (Tryd.prog.info? 46).map (·.size) = some 3 := by kernel_rfl
/-- does After answer? -/
noncomputable def synOk (x : Int) (ls : List (List Int)) : Bool := fewB ls && fitsF ls && !(x == 0)
/-- how many are lasting -/
def synN (N : Int) (ls : List (List Int)) : Nat := (N % ((ls.length + 1 : Nat) : Int)).toNat
/-- what the crash leaves -/
noncomputable def synF (x : Int) (ls : List (List Int)) (N : Int) (kb : List Int) (torn cut : Int) : List Int :=
  applyN kb torn cut (wholeK x (bodyF (x % 4294967296) (ls.take (synN N ls))) (touchN 0 (endF (ls.take (synN N ls)))).2 16) (wholeK x (bodyF (x % 4294967296) ls) (touchN 0 (endF ls)).2 16) 16
abbrev yV (x : Int) (lv : Value) (N : Int) : Value := .agg #[.int .u64 x, lv, .int .u64 N]
abbrev cV (kv : Value) (torn cut : Int) : Value := .agg #[kv, .int .i64 torn, .int .i64 cut]
/-- what After leaves -/
def AftF (x : Int) (ls : List (List Int)) (N : Int) (kb : List Int) (torn cut : Int) (w : World) (r : Ending) (w' : World) : Prop :=
  (synOk x ls = false ∧ r = .returned (.tuple #[.slice none 0 0, .int .i64 0, .bool false]) ∧ Below w.heap.size w w') ∨
  (synOk x ls = true ∧ ∃ a c, r = .returned (.tuple #[.slice a 16 c, .int .i64 (synN N ls : Nat), .bool true]) ∧ FS w' (.slice a 16 c) 16 (synF x ls N kb torn cut) ∧ Below w.heap.size w w')
set_option maxRecDepth 8000 in
set_option maxHeartbeats 8000000 in
theorem after_any (x : Int) (hx : U64 x) (la : Option Addr) (n lc : Nat) (ls : List (List Int)) (hlb : ∀ l ∈ ls, isB l) (N : Int) (hN : U64 N) (ka : Option Addr) (kn kc : Nat) (kb : List Int) (hkb : Bytes kb) (torn cut : Int) (ht : I63 torn) (hct : I63 cut) (w : World)
    (h : RL .u8 w (.slice la n lc) n ls) (hk : RI .u8 w (.slice ka kn kc) kn kb) :
    Calls Tryd.prog 15 #[yV x (.slice la n lc) N, cV (.slice ka kn kc) torn cut] w (AftF x ls N kb torn cut w) := by
  have hn63 : (n : Int) ≤ 9223372036854775807 := by have := h.le; omega
  have hln := h.length
  obtain ⟨w0, hw0⟩ : ∃ q, (w.alloc (.cells #[.int .u64 x, .slice la n lc, .int .u64 N] 44)).alloc (.cells #[.slice ka kn kc, .int .i64 torn, .int .i64 cut] 46) = q := ⟨_, rfl⟩
  have hz1 : (w.alloc (.cells #[.int .u64 x, .slice la n lc, .int .u64 N] 44)).heap.size = w.heap.size + 1 := alloc_size w _
  have hb0 : Below w.heap.size w w0 := by rw [← hw0]; exact bch (balloc w _) (balloc _ _)
  have HB0 := Lib.hid hb0
  have hy0 : w0.heap[w.heap.size]? = some (.cells #[.int .u64 x, .slice la n lc, .int .u64 N] 44 (0, 0)) := by
    rw [← hw0]
    exact ((balloc (w.alloc (.cells #[.int .u64 x, .slice la n lc, .int .u64 N] 44)) _).block w.heap.size (by rw [hz1]; omega)).trans (heap_alloc_last w _)
  have hc0 : w0.heap[w.heap.size + 1]? = some (.cells #[.slice ka kn kc, .int .i64 torn, .int .i64 cut] 46 (0, 0)) := by
    rw [← hw0, ← hz1]; exact heap_alloc_last _ _
  have HY : Hid (∀ w', Below w0.heap.size w0 w' → w'.cell? ⟨w.heap.size, 0, none⟩ = some (.int .u64 x) ∧ w'.cell? ⟨w.heap.size, 1, none⟩ = some (.slice la n lc) ∧ w'.cell? ⟨w.heap.size, 2, none⟩ = some (.int .u64 N)) := Lib.hid fun w' hb =>
    ⟨cell_keep hb (cell_of_row w0 _ 0 _ _ _ hy0), cell_keep hb (cell_of_row w0 _ 1 _ _ _ hy0), cell_keep hb (cell_of_row w0 _ 2 _ _ _ hy0)⟩
  have HC : Hid (∀ w', Below w0.heap.size w0 w' → w'.heap[w.heap.size + 1]? = some (.cells #[.slice ka kn kc, .int .i64 torn, .int .i64 cut] 46 (0, 0))) := Lib.hid fun w' hb => (hb.block _ (Array.getElem?_eq_some_iff.1 hc0).1).trans hc0
  have HFW : Hid (∀ w', Below w0.heap.size w0 w' → Calls Tryd.prog 13 #[.slice la n lc] w' fun r w'' => r = .returned (.bool (fewB ls)) ∧ Below w'.heap.size w' w'') := Lib.hid fun w' hb => few_any _ n ls w' (h.keep (bch hb0 hb))
  have HS : Hid (Calls Tryd.prog 12 #[.int .u64 x, .slice la n lc] w0 (SecF w0 ls x)) := Lib.hid (rsectors_any x hx _ n ls hn63 hlb w0 (h.keep hb0))
  obtain ⟨y0, y1, _⟩ := HY.out w0 (Below.refl _ _)
  have HLE := Lib.hid hln
  cases hf : fitsF ls with
  | false =>
    have HNO : Hid (synOk x ls = false) := Lib.hid (by unfold synOk; rw [hf, Bool.and_false, Bool.false_and])
    have HS0 : Hid (Calls Tryd.prog 12 #[.int .u64 x, .slice la n lc] w0 fun r w' => r = .returned (.tuple #[.slice none 0 0, .bool false]) ∧ Below w0.heap.size w0 w') := Lib.hid (HS.out.mono fun r w' h => by
      rcases h with ⟨h1, _⟩ | ⟨_, h1, h2⟩
      · rw [hf] at h1; cases h1
      · exact ⟨h1, h2⟩)
    clear HS hf hx hlb h hk hkb ht hct hN hb0 hy0 hc0 hz1 hln
    generalize fewB ls = z at *
    cases z with
    | false =>
      go_enter Tryd.func15, Tryd.ntmps15
      go_wp2_with (first
        | (go_at_call 12; (refine HS0.out.mono ?_); rintro r w1 ⟨rfl, hb⟩; obtain ⟨a0, a1, a2⟩ := HY.out w1 hb; have HB1 := Lib.hid hb; clear hb)
        | (go_at_call 13; (refine (HFW.out _ HB1.out).mono ?_); rintro r w2 ⟨rfl, hb⟩; have HB2 := Lib.hid (bch HB1.out hb); obtain ⟨b0, b1, b2⟩ := HY.out w2 HB2.out; clear hb))
      (try simp only [Exit.inBlock, Exit.then]); refine bodyPost_ret (results_tmp3 rfl _ _ _) rfl ?_
      exact .inl ⟨HNO.out, rfl, bch HB0.out HB2.out⟩
    | true =>
      go_enter Tryd.func15, Tryd.ntmps15
      go_wp2_with (first
        | (go_at_call 12; (refine HS0.out.mono ?_); rintro r w1 ⟨rfl, hb⟩; obtain ⟨a0, a1, a2⟩ := HY.out w1 hb; have HB1 := Lib.hid hb; clear hb)
        | (go_at_call 13; (refine (HFW.out _ HB1.out).mono ?_); rintro r w2 ⟨rfl, hb⟩; have HB2 := Lib.hid (bch HB1.out hb); obtain ⟨b0, b1, b2⟩ := HY.out w2 HB2.out; clear hb))
      (try simp only [Exit.inBlock, Exit.then]); refine bodyPost_ret (results_tmp3 rfl _ _ _) rfl ?_
      exact .inl ⟨HNO.out, rfl, bch HB0.out HB2.out⟩
  | true =>
    have hg := (fitsF_iff ls).1 hf
    have HS0 : Hid (Calls Tryd.prog 12 #[.int .u64 x, .slice la n lc] w0 fun r w' => ∃ a c, r = .returned (.tuple #[.slice a 16 c, .bool true]) ∧ FS w' (.slice a 16 c) 16 (wholeK x (bodyF (x % 4294967296) ls) (touchN 0 (endF ls)).2 16) ∧ Below w0.heap.size w0 w') := Lib.hid (HS.out.mono fun r w' h => by
      rcases h with ⟨_, v, h1, h2, h3⟩ | ⟨h1, _⟩
      · obtain ⟨a, c, rfl, _⟩ := id h2
        exact ⟨a, c, h1, h2, h3⟩
      · rw [hf] at h1; cases h1)
    clear HS
    cases hw : fewB ls with
    | false =>
      rw [hw] at HFW
      have HNO : Hid (synOk x ls = false) := Lib.hid (by unfold synOk; rw [hw, Bool.false_and, Bool.false_and])
      clear hf hx hlb h hk hkb ht hct hN hb0 hy0 hc0 hz1 hln hg hw
      go_enter Tryd.func15, Tryd.ntmps15
      go_wp2_with (first
        | (go_at_call 12; (refine HS0.out.mono ?_); rintro r w1 ⟨sa, sc, rfl, _, hb⟩; obtain ⟨a0, a1, a2⟩ := HY.out w1 hb; have HB1 := Lib.hid hb; clear hb)
        | (go_at_call 13; (refine (HFW.out _ HB1.out).mono ?_); rintro r w2 ⟨rfl, hb⟩; have HB2 := Lib.hid (bch HB1.out hb); obtain ⟨b0, b1, b2⟩ := HY.out w2 HB2.out; clear hb))
      (try simp only [Exit.inBlock, Exit.then]); refine bodyPost_ret (results_tmp3 rfl _ _ _) rfl ?_
      exact .inl ⟨HNO.out, rfl, bch HB0.out HB2.out⟩
    | true =>
      rw [hw] at HFW
      by_cases h0 : x = 0
      · have HNO : Hid (synOk x ls = false) := Lib.hid (by unfold synOk; rw [h0]; simp)
        clear hf hx hlb h hk hkb ht hct hN hb0 hy0 hc0 hz1 hln hg hw
        subst h0
        go_enter Tryd.func15, Tryd.ntmps15
        go_wp2_with (first
          | (go_at_call 12; (refine HS0.out.mono ?_); rintro r w1 ⟨sa, sc, rfl, _, hb⟩; obtain ⟨a0, a1, a2⟩ := HY.out w1 hb; have HB1 := Lib.hid hb; clear hb)
          | (go_at_call 13; (refine (HFW.out _ HB1.out).mono ?_); rintro r w2 ⟨rfl, hb⟩; have HB2 := Lib.hid (bch HB1.out hb); obtain ⟨b0, b1, b2⟩ := HY.out w2 HB2.out; clear hb))
        (try simp only [Exit.inBlock, Exit.then]); refine bodyPost_ret (results_tmp3 rfl _ _ _) rfl ?_
        exact .inl ⟨HNO.out, rfl, bch HB0.out HB2.out⟩
      · have hx0 : (x == 0) = false := by simpa using h0
        have HNO : Hid (synOk x ls = true) := Lib.hid (by unfold synOk; rw [hw, hf, hx0]; rfl)
        have hfew := (fewB_parts hw).1
        have hn100 : n ≤ 100 := by omega
        obtain ⟨q, hq⟩ : ∃ q, synN N ls = q := ⟨_, rfl⟩
        have hN2 : 0 ≤ N ∧ N ≤ 18446744073709551615 := hN
        have hq2 : N % ((ls.length + 1 : Nat) : Int) = (q : Int) := by
          unfold synN at hq
          have := Int.emod_nonneg N (show ((ls.length + 1 : Nat) : Int) ≠ 0 by omega)
          omega
        have hqn : q ≤ n := by
          have := Int.emod_lt_of_pos N (show (0 : Int) < ((ls.length + 1 : Nat) : Int) by omega)
          omega
        obtain ⟨m1, hm1⟩ : ∃ m1 : Nat, n + 1 = m1 := ⟨_, rfl⟩
        have hmI : (n : Int) + 1 = (m1 : Int) := by omega
        have hmb : (m1 : Int) ≤ 101 := by omega
        have hm0 : ¬ (m1 : Int) = 0 := by omega
        have htm : N.tmod (m1 : Int) = (q : Int) := by
          rw [Int.tmod_eq_emod_of_nonneg hN2.1, ← hq2, hln, hm1]
        have hqb : (q : Int) ≤ 100 := by omega
        have HSQ : Hid (∀ w', Below w0.heap.size w0 w' → ∀ a c, sliced la 0 q lc 1 = .slice a q c → Calls Tryd.prog 12 #[.int .u64 x, .slice a q c] w' fun r w'' => ∃ a c, r = .returned (.tuple #[.slice a 16 c, .bool true]) ∧ FS w'' (.slice a 16 c) 16 (wholeK x (bodyF (x % 4294967296) (ls.take q)) (touchN 0 (endF (ls.take q))).2 16) ∧ Below w'.heap.size w' w'') := Lib.hid fun w' hb a c hs => by
          have hr := (h.keep (bch hb0 hb)).pre q hqn
          rw [hs] at hr
          refine (rsectors_any x hx _ q (ls.take q) (by omega) (fun l hl => hlb l (List.mem_of_mem_take hl)) w' hr).mono fun r w'' h => ?_
          have hft : fitsF (ls.take q) = true := (fitsF_iff _).2 (good_take hg q (by omega))
          rcases h with ⟨_, v, h1, h2, h3⟩ | ⟨h1, _⟩
          · obtain ⟨a, c, rfl, _⟩ := id h2
            exact ⟨a, c, h1, h2, h3⟩
          · rw [hft] at h1; cases h1
        obtain ⟨qa, qc, hsl⟩ : ∃ a c, sliced la 0 q lc 1 = .slice a q c := by
          have := sliced_form la 0 q lc 1
          rwa [Nat.zero_add] at this
        have HSL := Lib.hid hsl
        have hqlc : q ≤ lc := by obtain ⟨_, _, e, h1, _⟩ := h.form; cases e; omega
        have HQL := Lib.hid hqlc
        have HAP : Hid (∀ (w' : World) (v1 v2 : Value), Below w0.heap.size w0 w' → FS w' v1 16 (wholeK x (bodyF (x % 4294967296) (ls.take q)) (touchN 0 (endF (ls.take q))).2 16) → FS w' v2 16 (wholeK x (bodyF (x % 4294967296) ls) (touchN 0 (endF ls)).2 16) →
            Calls Tryd.prog 28 #[v1, v2, .agg #[.slice ka kn kc, .int .i64 torn, .int .i64 cut]] w' fun r w'' => ∃ a c, r = .returned (.slice a 16 c) ∧ FS w'' (.slice a 16 c) 16 (synF x ls N kb torn cut) ∧ Below w'.heap.size w' w'') := Lib.hid fun w' v1 v2 hb h1 h2 => by
          refine (rapply_any v1 v2 _ 16 16 kn _ _ kb torn cut w' h1 h2 (hk.keep (bch hb0 hb)) hkb ht hct (by omega) (by omega)).mono fun r w'' ⟨v, e1, e2, e3⟩ => ?_
          have e2' : FS w'' v 16 (synF x ls N kb torn cut) := by unfold synF; rw [hq]; exact e2
          obtain ⟨a, c, rfl, _⟩ := id e2'
          exact ⟨a, c, e1, e2', e3⟩
        have HQE := Lib.hid hq
        generalize wholeK x (bodyF (x % 4294967296) (ls.take q)) (touchN 0 (endF (ls.take q))).2 16 = os at *
        generalize wholeK x (bodyF (x % 4294967296) ls) (touchN 0 (endF ls)).2 16 = ns at *
        clear hf hx hlb h hk hkb ht hct hN hb0 hy0 hc0 hz1 hln hg hw h0 hfew hq hq2 hN2 hm1 hsl hqlc
        go_enter Tryd.func15, Tryd.ntmps15
        go_wp2_with (first
          | (go_at_call 12; (refine HS0.out.mono ?_); rintro r w1 ⟨sa, sc, rfl, hs, hb⟩; obtain ⟨a0, a1, a2⟩ := HY.out w1 hb; have HB1 := Lib.hid hb; have HN1 := Lib.hid hs; clear hb hs)
          | (go_at_call 13; (refine (HFW.out _ HB1.out).mono ?_); rintro r w2 ⟨rfl, hb⟩; have HB2 := Lib.hid (bch HB1.out hb); have HN2 := Lib.hid (HN1.out.keep hb); obtain ⟨b0, b1, b2⟩ := HY.out w2 HB2.out; clear hb))
        have HST := Lib.hid (HY.out _ HB2.out.drew)
        (try go_wp2_with fail)
        refine wp_region_held_drew (S := (fun w' => w'.cell? ⟨w.heap.size, 0, none⟩ = some (.int .u64 x) ∧ w'.cell? ⟨w.heap.size, 1, none⟩ = some (.slice la n lc))) (by kernel_rfl) ⟨HST.out.1, HST.out.2.1⟩ (fun hS => ?_)
        refine wpAnyH_take (i := 0) (oi := ({ dst := some 43, op := Op.fieldAddr 44 (Operand.tmp 2) 0, type := 0, pos := "law.go:91", after := #[], guard := none } : Oper)) (v := ?_) rfl (by kernel_rfl) (by kernel_rfl) (by kernel_rfl) (fun _ _ _ h => h) (Or.inl ⟨by rfl, ?_⟩) hS ?_
        rotate_left
        · (intro w hSw; (try dsimp only at hSw); go_simp; try with_reducible rfl)
        (try simp only [Act.put, List.setIfInBounds_toArray, List.set_cons_zero, List.set_cons_succ])
        refine wpAnyH_take (i := 1) (oi := ({ dst := some 44, op := Op.load 22 (Operand.tmp 43), type := 22, pos := "law.go:91", after := #[{ on := 0, ground := Ground.data }], guard := none } : Oper)) (v := ?_) rfl (by kernel_rfl) (by kernel_rfl) (by kernel_rfl) (fun _ _ _ h => h) (Or.inl ⟨by rfl, ?_⟩) hS ?_
        rotate_left
        · (intro w hSw; (try dsimp only at hSw); go_simp; try with_reducible rfl)
        (try simp only [Act.put, List.setIfInBounds_toArray, List.set_cons_zero, List.set_cons_succ])
        refine wpAnyH_take (i := 2) (oi := ({ dst := some 45, op := Op.fieldAddr 44 (Operand.tmp 2) 1, type := 0, pos := "law.go:91", after := #[], guard := none } : Oper)) (v := ?_) rfl (by kernel_rfl) (by kernel_rfl) (by kernel_rfl) (fun _ _ _ h => h) (Or.inl ⟨by rfl, ?_⟩) hS ?_
        rotate_left
        · (intro w hSw; (try dsimp only at hSw); go_simp; try with_reducible rfl)
        (try simp only [Act.put, List.setIfInBounds_toArray, List.set_cons_zero, List.set_cons_succ])
        refine wpAnyH_take (i := 3) (oi := ({ dst := some 46, op := Op.load 25 (Operand.tmp 45), type := 25, pos := "law.go:91", after := #[{ on := 2, ground := Ground.data }], guard := none } : Oper)) (v := ?_) rfl (by kernel_rfl) (by kernel_rfl) (by kernel_rfl) (fun _ _ _ h => h) (Or.inl ⟨by rfl, ?_⟩) hS ?_
        rotate_left
        · (intro w hSw; (try dsimp only at hSw); go_simp; try with_reducible rfl)
        (try simp only [Act.put, List.setIfInBounds_toArray, List.set_cons_zero, List.set_cons_succ])
        refine wpAnyH_take (i := 4) (oi := ({ dst := some 47, op := Op.move (Operand.tmp 9), type := 3, pos := "law.go:91", after := #[], guard := none } : Oper)) (v := ?_) rfl (by kernel_rfl) (by kernel_rfl) (by kernel_rfl) (fun _ _ _ h => h) (Or.inl ⟨by rfl, ?_⟩) hS ?_
        rotate_left
        · (intro w hSw; (try dsimp only at hSw); go_simp; try with_reducible rfl)
        (try simp only [Act.put, List.setIfInBounds_toArray, List.set_cons_zero, List.set_cons_succ])
        refine wpAnyH_take (i := 5) (oi := ({ dst := some 48, op := Op.slice 25 (Operand.tmp 46) none (some (Operand.tmp 47)) none, type := 25, pos := "law.go:91", after := #[{ on := 3, ground := Ground.data }, { on := 4, ground := Ground.data }], guard := none } : Oper)) (v := .slice qa q qc) rfl (by kernel_rfl) (by kernel_rfl) (by kernel_rfl) (fun _ _ _ h => h) (Or.inl ⟨by rfl, ?_⟩) hS ?_
        · (intro w hSw; (try dsimp only at hSw); exact (exec_cutr_h (.tmp 46) (.tmp 47) rfl la n lc q rfl rfl HQL.out).trans (by rw [HSL.out]))
        (try simp only [Act.put, List.setIfInBounds_toArray, List.set_cons_zero, List.set_cons_succ])
        refine rg_one 6 ({ dst := some 49, op := Op.call { callee := Callee.value (Operand.func 12), args := #[Operand.tmp 44, Operand.tmp 48], argTypes := #[22, 25] }, type := 35, pos := "law.go:91", after := #[{ on := 1, ground := Ground.data }, { on := 5, ground := Ground.data }], guard := none } : Oper) (by kernel_rfl) rfl (fun K hK => ?_)
        go_simp
        (go_at_call 12; (refine (HSQ.out _ HB2.out.drew _ _ HSL.out).mono ?_); rintro r w3 ⟨ta, tc, rfl, hs, hb⟩; have HB3 := Lib.hid (bch HB2.out.drew hb); have HO3 := Lib.hid hs; have HN3 := Lib.hid (HN2.out.keep (bch (Below.refl _ w2).drew hb)); have hN := (show w3.cell? ⟨w.heap.size, 0, none⟩ = some (.int .u64 x) ∧ w3.cell? ⟨w.heap.size, 1, none⟩ = some (.slice la n lc) from ⟨(HY.out _ HB3.out).1, (HY.out _ HB3.out).2.1⟩); clear hb hs)
        refine hK.out _ _ ?_ (fun hS1 => ?_)
        · (first | exact hN | exact hS)
        clear hK K hS; have hS := hS1; clear hS1
        (try simp only [Act.put, List.setIfInBounds_toArray, List.set_cons_zero, List.set_cons_succ])
        refine wpAnyH_take (i := 7) (oi := ({ dst := some 42, op := Op.move (Operand.tmp 49), type := 35, pos := "law.go:91", after := #[{ on := 6, ground := Ground.data }], guard := none } : Oper)) (v := ?_) rfl (by kernel_rfl) (by kernel_rfl) (by kernel_rfl) (fun _ _ _ h => h) (Or.inl ⟨by rfl, ?_⟩) hS ?_
        rotate_left
        · (intro w hSw; (try dsimp only at hSw); go_simp; try with_reducible rfl)
        (try simp only [Act.put, List.setIfInBounds_toArray, List.set_cons_zero, List.set_cons_succ])
        refine wpAnyH_take (i := 8) (oi := ({ dst := some 50, op := Op.extract (Operand.tmp 42) 0, type := 23, pos := "law.go:91", after := #[{ on := 7, ground := Ground.data }], guard := none } : Oper)) (v := ?_) rfl (by kernel_rfl) (by kernel_rfl) (by kernel_rfl) (fun _ _ _ h => h) (Or.inl ⟨by rfl, ?_⟩) hS ?_
        rotate_left
        · (intro w hSw; (try dsimp only at hSw); go_simp; try with_reducible rfl)
        (try simp only [Act.put, List.setIfInBounds_toArray, List.set_cons_zero, List.set_cons_succ])
        refine wpAnyH_take (i := 9) (oi := ({ dst := some 51, op := Op.extract (Operand.tmp 42) 1, type := 4, pos := "law.go:91", after := #[{ on := 7, ground := Ground.data }, { on := 10, ground := Ground.gcOnly Departure.lateStores }], guard := none } : Oper)) (v := ?_) rfl (by kernel_rfl) (by kernel_rfl) (by kernel_rfl) (fun _ _ _ h => h) (Or.inl ⟨by rfl, ?_⟩) hS ?_
        rotate_left
        · (intro w hSw; (try dsimp only at hSw); go_simp; try with_reducible rfl)
        (try simp only [Act.put, List.setIfInBounds_toArray, List.set_cons_zero, List.set_cons_succ])
        refine wpAnyH_take (i := 10) (oi := ({ dst := some 10, op := Op.assign (Operand.tmp 50), type := 23, pos := "law.go:91", after := #[{ on := 8, ground := Ground.data }, { on := 6, ground := Ground.chain }, { on := 0, ground := Ground.phase }, { on := 1, ground := Ground.phase }, { on := 2, ground := Ground.phase }, { on := 3, ground := Ground.phase }, { on := 4, ground := Ground.phase }, { on := 5, ground := Ground.phase }, { on := 6, ground := Ground.phase }, { on := 7, ground := Ground.phase }, { on := 8, ground := Ground.phase }, { on := 9, ground := Ground.textOnly Departure.lateStores }], guard := none } : Oper)) (v := ?_) rfl (by kernel_rfl) (by kernel_rfl) (by kernel_rfl) (fun _ _ _ h => h) (Or.inl ⟨by rfl, ?_⟩) hS ?_
        rotate_left
        · (intro w hSw; (try dsimp only at hSw); go_simp; try with_reducible rfl)
        (try simp only [Act.put, List.setIfInBounds_toArray, List.set_cons_zero, List.set_cons_succ])
        refine wpAnyH_take (i := 11) (oi := ({ dst := some 11, op := Op.assign (Operand.tmp 51), type := 4, pos := "law.go:91", after := #[{ on := 9, ground := Ground.data }, { on := 10, ground := Ground.chain }, { on := 0, ground := Ground.phase }, { on := 1, ground := Ground.phase }, { on := 2, ground := Ground.phase }, { on := 3, ground := Ground.phase }, { on := 4, ground := Ground.phase }, { on := 5, ground := Ground.phase }, { on := 6, ground := Ground.phase }, { on := 7, ground := Ground.phase }, { on := 8, ground := Ground.phase }, { on := 9, ground := Ground.phase }, { on := 10, ground := Ground.phase }], guard := none } : Oper)) (v := ?_) rfl (by kernel_rfl) (by kernel_rfl) (by kernel_rfl) (fun _ _ _ h => h) (Or.inl ⟨by rfl, ?_⟩) hS ?_
        rotate_left
        · (intro w hSw; (try dsimp only at hSw); go_simp; try with_reducible rfl)
        (try simp only [Act.put, List.setIfInBounds_toArray, List.set_cons_zero, List.set_cons_succ])
        refine wpAnyH_done (by kernel_rfl) ?_ _
        clear hS hN HST
        go_wp2_with (first
          | (refine wpList_load_row rfl 46 (.tmp 3) rfl (w.heap.size + 1) rfl _ #[.slice ka kn kc, .int .i64 torn, .int .i64 cut] (0, 0) _ (HC.out _ HB3.out) Tryd.underlying46 rfl crash_info ?_)
          | (go_at_call 28; (refine (HAP.out _ _ _ HB3.out HO3.out HN3.out).mono ?_); rintro r w4 ⟨ra, rc, rfl, hs, hb⟩; have HR4 := Lib.hid hs; have HB4 := Lib.hid (bch HB3.out hb); clear hs hb))
        (try simp only [Exit.inBlock, Exit.then]); refine bodyPost_ret (results_tmp3 rfl _ _ _) rfl ?_
        exact .inr ⟨HNO.out, ra, rc, by rw [HQE.out]; rfl, HR4.out, bch HB0.out HB4.out⟩
end Go.Proofs.YthickhfbllddjaaDoor
