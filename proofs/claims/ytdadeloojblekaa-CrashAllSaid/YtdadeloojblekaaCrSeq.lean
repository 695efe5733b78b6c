/-
  LAYER 9 (crash), the program's own: the function that yields crashes (choices), what it hands over and what it tells of it.
-/
import Derived.Test.YtdadeloojblekaaCrCode
import Derived.Test.YtdadeloojblekaaSeqTold
import Derived.Shelf.RegionOpen
namespace Go.Proofs.Ytdadeloojblekaa
open Go.RowKit
attribute [local go_sem] Oper.semAt_some
/-- what is handed over: the slice of its Keep, and what it says -/
abbrev CrX := Value × AC
def encC (x : CrX) : Array Value := #[.agg #[x.1, .int .i64 x.2.torn, .int .i64 x.2.cut]]
/-- .. and what lies behind it: a row of bytes of its own -/
def TC (x : CrX) (W : World) : Prop := W.ownsRow 0 5 1 x.1 x.2.len (bl x.2.kb) ∧ x.2.len ≤ 1000
theorem own_base {w : World} {base base' : Nat} {e : TypeId} {size : Nat} {v : Value} {n : Nat} {xs : List Value} (h : w.ownsRow base e size v n xs) (hb : base' ≤ base) : w.ownsRow base' e size v n xs := by
  refine ⟨h.1, ?_⟩
  rcases h.2 with h2 | ⟨g, cap, cur, hv, hg, h3⟩
  · exact .inl h2
  · exact .inr ⟨g, cap, cur, hv, Nat.le_trans hb hg, h3⟩
theorem own_free {w w' : World} {b base : Nat} {e : TypeId} {size : Nat} {v : Value} {n : Nat} {xs : List Value} (h : w.ownsRow base e size v n xs) (hf : Free b w w') : w'.ownsRow base e size v n xs := by
  refine ⟨h.1, ?_⟩
  rcases h.2 with h2 | ⟨g, cap, cur, hv, hg, hcur, h3⟩
  · exact .inl h2
  · exact .inr ⟨g, cap, cur, hv, hg, hf.2 _ _ hcur rfl, h3⟩
theorem choices_any (m : Int) (w : World) : CallsIn Fence.wide 6 Try.prog 25 #[.int .i64 m] w fun e w' => e = .returned (.func (.func 29) #[] #[.pointer (some ⟨w.heap.size, 0, none⟩)]) ∧ w' = w.alloc (.cells #[.int .i64 m] 3) := by
  refine callsIn_of_wp Try.func25 rfl trivial ?_ rfl
  simp only [Try.ntmps25, List.size_toArray, List.length_cons, List.length_nil, Nat.reduceAdd, Nat.reduceSub, Array.replicate_succ, Array.replicate_zero, List.push_toArray, List.append_toArray, List.nil_append, List.cons_append]
  gi_wp2
  go_ret
  exact ⟨rfl, rfl⟩
theorem putL_one (k : Nat) (h : (k : Int) ≤ 255) : putL (k : Int) 1 = [(k : Int)] := by
  simp [putL]; omega
theorem allN_length (k : Nat) : (allN k).length = k := by simp [allN]
set_option maxRecDepth 8000 in
set_option maxHeartbeats 1000000 in
theorem choices_told {σ : Type} (n : Nat) (hn : 1 ≤ n) (Bn m M : Nat) (w : World) (hm : m ≤ 8) (hM : 2 ^ m = M) (hB : Bn < w.heap.size) (hc : w.cell? ⟨Bn, 0, none⟩ = some (.int .i64 (m : Int))) :
    SeqTold Fence.wide n Try.prog 29 #[.pointer (some ⟨Bn, 0, none⟩)] encC TC (KpS (σ := σ)) (fun _ _ _ => True) (fun xs => xs.map Prod.snd = allN M) M w := by
  intro l J f W hb _ hJ hY h0
  have hcW := (hb.cell (p := ⟨Bn, 0, none⟩) hB).trans hc
  have HM : Hid (wrap64 ((2 : Int) ^ m) = (M : Int)) := Lib.hid (by
    rw [← hM]
    rcases (by omega : m = 0 ∨ m = 1 ∨ m = 2 ∨ m = 3 ∨ m = 4 ∨ m = 5 ∨ m = 6 ∨ m = 7 ∨ m = 8) with rfl | rfl | rfl | rfl | rfl | rfl | rfl | rfl | rfl <;> exact IntWalk.wrap64_in _ (by decide))
  have hm256 : 2 ^ m ≤ 256 := Nat.pow_le_pow_right (by omega : 0 < 2) hm
  have hM2 : (M : Int) ≤ 256 := by omega
  have HJ := Lib.hid hJ
  have HY := Lib.hid hY
  refine callsIn_of_wp Try.func29 rfl trivial ?_ rfl
  simp only [Try.ntmps29, List.size_toArray, List.length_cons, List.length_nil, Nat.reduceAdd, Nat.reduceSub, Array.replicate_succ, Array.replicate_zero, List.push_toArray, List.append_toArray, List.nil_append, List.cons_append]
  clear hJ hY
  gi_wp2
  rw [HM.out]
  clear hc hcW hb HM hm256 hM
  gi_loopw [6] (fun p wr => ∃ (k : Nat) (fk : σ) (pre : List CrX), p = .int .i64 (k : Int) ∧ k ≤ M ∧ pre.map Prod.snd = allN k ∧ J fk pre wr ∧ W.heap.size ≤ wr.heap.size) (fun p _ => M - (intOf p).toNat)
  case atStart => exact ⟨0, f, [], rfl, by omega, rfl, h0, Nat.le_refl _⟩
  case round =>
    obtain ⟨k, fk, pre, rfl, hk, hp, hj, hs⟩ := hrel
    by_cases hlt : k < M
    · have hpl : pre.length < M := by
        have := congrArg List.length hp
        rw [allN_length, List.length_map] at this
        omega
      have hk2 : (k : Int) ≤ 255 := by omega
      gi_wp2_with (first
        | (refine ⟨trivial, ?_⟩; gi_at_call 30; refine (callsIn_wide.2 (put_any (k : Int) 1 1 (by unfold I63; omega) (by decide) _)).mono ?_; rintro e w2 ⟨rfl, ho, hb2⟩; have hpk : putL (k : Int) 1 = [(k : Int)] := putL_one k hk2; rw [hpk] at ho; have hs2 := Nat.le_trans hs hb2.size; obtain ⟨fn, tmps, assign, body, hy, hR⟩ := HY.out fk pre (.slice (some ⟨wr.heap.size, 0, none⟩) 1 1, oneC k) w2 (HJ.out _ _ _ _ hj (Free.of hb2 hs)) ⟨own_base ho (Nat.zero_le _), (show 1 ≤ 1000 by omega)⟩ hpl; dsimp only [encC, oneC] at hy; clear hb2 ho hpk)
        | (refine hR.mono ?_; rintro e w3 ⟨rfl, f3, hj3, hk3⟩))
      exact ⟨⟨k + 1, f3, _, by go_num, by omega, by rw [List.map_append, hp, allN_succ]; rfl, hj3, Nat.le_trans hs2 hk3⟩, by simp [intOf]; omega⟩
    · have hq : k = M := by omega
      subst hq
      gi_wp2
      go_end0
      exact ⟨⟨_, rfl⟩, fk, pre, hp, hj⟩
theorem own_slice {w : World} {base size : Nat} {e : TypeId} {v : Value} {n : Nat} {xs : List Value} (h : w.ownsRow base e size v n xs) : ∃ a m c, v = .slice a m c := by
  rcases h.2 with ⟨rfl, _⟩ | ⟨g, cap, cur, rfl, _⟩
  · exact ⟨_, _, _, rfl⟩
  · exact ⟨_, _, _, rfl⟩
theorem cell_new_row (W : World) (l : List Value) (t : TypeId) : ∀ j u, l[j]? = some u → (W.alloc (.cells l.toArray t)).cell? ((⟨W.heap.size, 0, none⟩ : Addr).add j) = some u := by
  intro j u h
  rw [Addr.add_mid, Nat.zero_add, cell_of_row _ W.heap.size j _ _ _ (heap_alloc_last W _)]
  simpa using h
/-- append of one crash to a row of crashes that the call made, within a fence; where the row lies then -/
theorem wplIn_app_crash {F : Fence} {n : Nat} {w : World} {ops : Array Oper} {rest : List Oper} {o : Oper} {a : Act} {Q : Exit → Act → World → Prop} (hgd : o.guard = none) (s x : Operand)
    (ho : o.op = .call { callee := .builtin .append, args := #[s, x], argTypes := #[38, 38] }) (base : Nat) (v : Value) (k : Nat) (es : List Value) (hs : a.eval s = v) (hown : w.ownsRow base 25 3 v k es)
    (g : Nat) (e : List Value) (hx : a.eval x = .slice (some ⟨g, 0, none⟩) 1 1) (hc : ∀ j u, e[j]? = some u → w.cell? ((⟨g, 0, none⟩ : Addr).add j) = some u) (he : e.length = 3) (h1 : ∀ u ∈ e, u.oneCell' = true) (hk : k ≤ 1000000) (hb : base ≤ w.heap.size)
    (h : ∀ v' w', w'.ownsRow base 25 3 v' (k + 1) (es ++ e) → w.grownBy w' v.ownBlock → (v'.ownBlock = v.ownBlock ∨ v'.ownBlock = some w.heap.size) → wpListIn F n Try.prog ops Q rest (a.put o.dst v') w') : wpListIn F n Try.prog ops Q (o :: rest) a w := by
  obtain ⟨i, hi, hz0, hz1, hz2⟩ := info_parts crash_parts
  refine wpListIn_plain hgd fun K hK => ?_
  obtain ⟨v', w', hrun, r1, r2, _⟩ := run_append_own (P := Try.prog) w base 38 o.type 25 i _ 3 40 Try.underlying38 hi hz0 hz1 hz2 rfl (by decide) v k es hown ⟨g, 0, none⟩ 1 1 e he hc h1 (by unfold maxLen; omega) (by omega) hb
  have r3 := append_where (P := Try.prog) w base 38 o.type 25 i _ 3 40 Try.underlying38 hi hz0 hz1 hz2 v k es hown ⟨g, 0, none⟩ 1 1 e he hc h1 (by unfold maxLen; omega) (by omega) hrun
  refine ⟨by simp [Oper.about, ho, resolve, Target.leads, Sem.run_pure], ?_⟩
  rw [Oper.semAt_plain F _ _ (by rw [ho]; intro c hc'; cases hc')]
  simp only [execOp, ho, resolve, invoke, builtin, Sem.run_bind, Sem.run_pure, Result.andThen_ok, List.map_toArray, List.map_cons, List.map_nil, hs, hx, hrun]
  exact hK _ _ (h v' w' r1 r2 r3)
def rowC (x : CrX) : List Value := [x.1, .int .i64 x.2.torn, .int .i64 x.2.cut]
def flatC (xs : List CrX) : List Value := (xs.map rowC).flatten
theorem flatC_snoc (xs : List CrX) (x : CrX) : flatC (xs ++ [x]) = flatC xs ++ rowC x := by simp [flatC]
/-- between two rounds of AppendSeq -/
structure ApI (w : World) (f : Nat → Bool) (pre : List CrX) (W : World) : Prop where
  box : ∃ v, Boxed W w.heap.size 38 v ∧ W.ownsRow w.heap.size 25 3 v pre.length (flatC pre) ∧ ∀ g, v.ownBlock = some g → f g = true
  fb : f w.heap.size = true
  fl : f (w.heap.size + 1 + 1) = true
  foot : Foot f W.heap.size
  told : ∀ x ∈ pre, TC x W
  below : Below w.heap.size w W
theorem ApI.free {w : World} {f : Nat → Bool} {pre : List CrX} {A B : World} {b : Nat} (h : ApI w f pre A) (hf : Free b A B) (hb : w.heap.size ≤ b) : ApI w f pre B := by
  obtain ⟨v, hv, hr, hg⟩ := h.box
  exact ⟨⟨v, hf.2 _ _ hv rfl, own_free hr hf, hg⟩, h.fb, h.fl, h.foot.mono hf.1.size, fun x hx => ⟨own_free (h.told x hx).1 hf, (h.told x hx).2⟩, h.below.trans (hf.1.mono hb)⟩
theorem ApI.lists {w : World} {f : Nat → Bool} {pre : List CrX} {W : World} (h : ApI w f pre W) {v : Value} (hr : W.ownsRow w.heap.size 25 3 v pre.length (flatC pre)) : CRs W v (pre.map Prod.snd) := by
  refine ⟨pre.map rowC, ?_, by simp, fun i e c he hc => ?_⟩
  · rw [List.length_map]; exact CS.own hr
  · rw [List.getElem?_map] at he hc
    cases hx : pre[i]? with
    | none => simp [hx] at he
    | some x =>
      simp only [hx, Option.map_some, Option.some.injEq] at he hc
      subst he; subst hc
      exact ⟨x.1, rfl, RI.own (h.told x (List.mem_of_getElem? hx)).1⟩
theorem NoC.not_row {W : World} {k : Nat} (h : NoC W k) {base size : Nat} {e : TypeId} {v : Value} {n : Nat} {xs : List Value} (hr : W.ownsRow base e size v n xs) : some k ≠ v.ownBlock := by
  obtain ⟨o, ho, hc⟩ := h
  rcases hr.2 with ⟨rfl, _⟩ | ⟨g, cap, cur, rfl, _, hgb, _⟩
  · simp [Value.ownBlock]
  · intro e'
    obtain rfl : k = g := by simpa [Value.ownBlock] using e'
    rw [hgb] at ho; cases ho; cases hc
theorem TC.appended {W w2 : World} {B n₀ k : Nat} {x : CrX} {v v' u : Value} {xs : List Value} {tmp : Obj} (h : TC x W) (hv : Boxed W B 38 u) (hrow : W.ownsRow n₀ 25 3 v k xs) (hgrow : (W.alloc tmp).grownBy w2 v.ownBlock) :
    TC x (w2.setCell ⟨B, 0, none⟩ v') := by
  have h1 : (W.alloc tmp).ownsRow 0 5 1 x.1 x.2.len (bl x.2.kb) := h.1.alloc tmp
  have h2 := own_over h1 hgrow (fun g hg => own_types h1 (hrow.alloc tmp) (by decide) g hg)
  refine ⟨own_over h2 (grownBy_setCell' w2 B v') (fun g hg e => ?_), h.2⟩
  exact (hv.not_row (by decide) h.1) (by rw [hg, e])
theorem ApI.step {w W w2 : World} {f : Nat → Bool} {pre : List CrX} {x : CrX} {v v' : Value} {tmp : Obj} (h : ApI w f pre W) (hv : Boxed W w.heap.size 38 v) (hrow : W.ownsRow w.heap.size 25 3 v pre.length (flatC pre))
    (hg : ∀ g, v.ownBlock = some g → f g = true) (ht : TC x W) (hown' : w2.ownsRow w.heap.size 25 3 v' (pre.length + 1) (flatC pre ++ rowC x)) (hgrow : (W.alloc tmp).grownBy w2 v.ownBlock) (hwh : v'.ownBlock = v.ownBlock ∨ v'.ownBlock = some (W.alloc tmp).heap.size) (hD : NoC W (w.heap.size + 1)) (hL : NoC W (w.heap.size + 1 + 1)) :
    ∃ f', (w2.setCell ⟨w.heap.size, 0, none⟩ v').heap[w.heap.size + 1]? = W.heap[w.heap.size + 1]? ∧ (w2.setCell ⟨w.heap.size, 0, none⟩ v').heap[w.heap.size + 1 + 1]? = W.heap[w.heap.size + 1 + 1]? ∧ KpE 5 f W f' (w2.setCell ⟨w.heap.size, 0, none⟩ v') ∧ ApI w f' (pre ++ [x]) (w2.setCell ⟨w.heap.size, 0, none⟩ v') := by
  obtain ⟨_, hv2, hr2, _, hb2⟩ := hv.appended (by decide) hrow h.below.size (Nat.le_refl _) hown' hgrow
  have hkeep : ∀ k, k < W.heap.size → k ≠ w.heap.size → some k ≠ v.ownBlock → (w2.setCell ⟨w.heap.size, 0, none⟩ v').heap[k]? = W.heap[k]? := fun k hk h1 h2 => by
    rw [Below.heap_setCell w2 ⟨w.heap.size, 0, none⟩ v' k h1, hgrow.block k (by rw [alloc_size]; omega) h2, Below.heap_alloc W tmp k hk]
  have hlt : ∀ {k}, NoC W k → k < W.heap.size := fun ⟨o, ho, _⟩ => (Array.getElem?_eq_some_iff.1 ho).1
  have hnew : ∀ g, v'.ownBlock = some g → plusF f W.heap.size (w2.setCell ⟨w.heap.size, 0, none⟩ v').heap.size g = true := fun g hg' => by
    have hgl := (hr2.lt g hg').2
    rcases hwh with e | e
    · exact plusF_mono _ _ _ _ (hg g (by rw [← e, hg']))
    · rw [hg'] at e
      simp only [Option.some.injEq, alloc_size] at e
      exact plusF_in _ _ _ _ (by omega) hgl
  refine ⟨plusF f W.heap.size (w2.setCell ⟨w.heap.size, 0, none⟩ v').heap.size, hkeep _ (hlt hD) (by omega) (hD.not_row hrow), hkeep _ (hlt hL) (by omega) (hL.not_row hrow),
    ⟨⟨hb2.os, hb2.tape, hb2.output, hb2.size, fun k hk hf => hkeep k hk (by rintro rfl; rw [h.fb] at hf; simp at hf) (fun e => by rw [hg k e.symm] at hf; simp at hf), fun k hk => by simp [plusF]; intro h1; omega⟩, fun hf => plusF_foot hf hb2.size, fun k cur hk => ?_⟩,
    ⟨v', hv2, by rw [flatC_snoc, List.length_append]; exact hr2, hnew⟩, plusF_mono _ _ _ _ h.fb, plusF_mono _ _ _ _ h.fl, plusF_foot h.foot hb2.size, fun y hy => ?_, h.below.trans hb2⟩
  · rw [hkeep k (Array.getElem?_eq_some_iff.1 hk).1 ?_ ?_]
    · exact hk
    · rintro rfl
      have := (show W.heap[w.heap.size]? = _ from hv).symm.trans hk
      simp at this
    · intro e
      rcases hrow.2 with ⟨rfl, _⟩ | ⟨g, cap, cur', rfl, _, hgb, _⟩
      · simp [Value.ownBlock] at e
      · obtain rfl : k = g := by simpa [Value.ownBlock] using e
        rw [hk] at hgb
        simp at hgb
  rcases List.mem_append.1 hy with hy | hy
  · exact (h.told y hy).appended hv hrow hgrow
  · rw [List.mem_singleton.1 hy]; exact ht.appended hv hrow hgrow
set_option maxRecDepth 100000 in
set_option maxHeartbeats 4000000 in
theorem appendSeq_any (n : Nat) (hn : 6 ≤ n) (g : Nat) (lb : Array Value) (eg : ∀ args w, (callFunc g args).run Try.prog w = .ok (.enter g args) w) (S : List CrX → Prop) (N : Nat) (hN : N ≤ 1000) (w0 w : World)
    (hseq : SeqTold Fence.wide (n - 1) Try.prog g lb encC TC (KpE 5) OkE S N w0) (hb0 : Below w0.heap.size w0 w) :
    CallsIn Fence.wide n Try.prog 28 #[.slice none 0 0, .func (.func g) #[] lb] w fun e w' => ∃ v xs, e = .returned v ∧ S xs ∧ CRs w' v (xs.map Prod.snd) ∧ Below w.heap.size w w' := by
  have h1 : 1 ≤ n := by omega
  refine callsIn_of_wp_marks Try.func28 rfl trivial ?_ rfl
  simp only [Try.ntmps28, List.size_toArray, List.length_cons, List.length_nil, Nat.reduceAdd, Nat.reduceSub, Array.replicate_succ, Array.replicate_zero, List.push_toArray, List.append_toArray, List.nil_append, List.cons_append]
  gi_wp2
  have bS := Boxed.new w 38 (.slice none 0 0)
  have hbw := below_alloc w (.cells #[.slice none 0 0] 38)
  have hs1 := alloc_size w (.cells #[.slice none 0 0] 38)
  generalize w.alloc (.cells #[.slice none 0 0] 38) = w1 at *
  refine wpIn_rangeFunc_told rfl h1 (gf := g) (lb := lb) rfl trivial eg hseq (chain hb0 hbw) (fun _ => rfl) (fun k => k == w.heap.size || k == w.heap.size + 1 + 1)
    ?ok KpE.trans KpE.of
    (ApI w) (fun f s A B h hf => h.free hf (by omega)) (fun x A B h hf => ⟨own_free h.1 hf, h.2⟩) ?kb ?start
    (fun _ x a' W => ∃ Bx, w.heap.size < Bx ∧ W.heap[Bx]? = some (.cells (rowC x).toArray 25 (0, 0)) ∧ a' = { tmps := #[.slice none 0 0, .func (.func g) #[] lb, .pointer (some ⟨w.heap.size, 0, none⟩), undef, .slice none 0 0, .pointer (some ⟨Bx, 0, none⟩), .func (.func g) #[] lb, .agg #[x.1, .int .i64 x.2.torn, .int .i64 x.2.cut], undef, undef, undef, undef, undef], defers := [] })
    (fun _ x a' A B h hf => by obtain ⟨Bx, h1, h2, h3⟩ := h; exact ⟨Bx, h1, hf.2 _ _ h2 rfl, h3⟩) ?assign ?body ?done
  case ok =>
    intro o o'
    have hs := hb0.size
    refine ⟨fun k hk => ?_, fun k hk => ?_⟩
    · simp only [Bool.or_eq_true, beq_iff_eq] at hk
      simp only [alloc_size]; omega
    · simp only [Bool.or_eq_false_iff, beq_eq_false_iff_ne]; omega
  case kb =>
    intro f s W o o' h ho hc
    have hfl := h.fl
    rw [← hs1] at hfl
    exact ⟨⟨rfl, rfl, rfl, by simp, fun k _ hf => World.putObj_heap_other (by rintro rfl; rw [hfl] at hf; simp at hf), fun _ _ => rfl⟩, fun hf => hf.mono (by simp), RowsKeep.put _ ho hc⟩
  case start =>
    intro o o'
    have hb2 : Below w1.heap.size w1 ((w1.alloc o).alloc o') := chain (below_alloc w1 o) (below_alloc (w1.alloc o) o')
    have hf := Free.of hb2 (Nat.le_refl _)
    refine ⟨⟨_, hf.2 _ _ bS rfl, World.ownsRow_nil _ _ _ _, fun g h => by simp [Value.ownBlock] at h⟩, by simp, by simp, fun k hk => ?_, fun x hx => by simp at hx, chain hbw hb2⟩
    simp only [Bool.or_eq_true, beq_iff_eq] at hk
    simp only [alloc_size]; omega
  case assign =>
    rintro l f pre ⟨vk, c⟩ W K hI ht hK
    obtain ⟨av, nv, cv, rfl⟩ := own_slice (show W.ownsRow 0 5 1 vk c.len (bl c.kb) from ht.1)
    simp only [encC]
    have hlt := (Array.getElem?_eq_some_iff.1 hI.box.choose_spec.1).1
    gi_wp2
    exact hK _ _ (below_alloc _ _) ⟨W.heap.size, hlt, heap_alloc_last W _, rfl⟩
  case body =>
    rintro l f pre ⟨vk, c⟩ a' W hD hL hI ht ⟨Bx, hBx, hX, rfl⟩ hlen
    obtain ⟨av, nv, cv, rfl⟩ := own_slice (show W.ownsRow 0 5 1 vk c.len (bl c.kb) from ht.1)
    obtain ⟨v, hv, hrow, hg⟩ := hI.box
    have HI := Lib.hid hI
    have HTX := Lib.hid ht
    have hc := hv.cell
    have hx0 := cell_of_row W Bx 0 _ _ _ hX
    have hx1 := cell_of_row W Bx 1 _ _ _ hX
    have hx2 := cell_of_row W Bx 2 _ _ _ hX
    simp only [rowC, List.getElem?_toArray, List.getElem?_cons_zero, List.getElem?_cons_succ] at hx0 hx1 hx2
    clear hI ht
    gi_wp2_with (gi_at_builtin; refine wplIn_app_crash rfl (.tmp 8) (.tmp 10) rfl w.heap.size v _ _ rfl (hrow.alloc _) W.heap.size (rowC (.slice av nv cv, c)) rfl (cell_new_row _ _ _) rfl (by simp [rowC, Value.oneCell']) (by omega) (by have := HI.out.below.size; simp; omega) ?_; intro v' w2 hown' hgrow hwh; obtain ⟨g', cap', rfl⟩ := ownsRow_succ hown'; obtain ⟨hv1, _, _, _, _⟩ := hv.appended (by decide) hrow HI.out.below.size (Nat.le_refl _) hown' hgrow; have hc1 := hv1.cell; have hf1 := hv1.frozen; clear hv1)
    rw [hs1] at hD hL
    try rw [hs1]
    exact HI.out.step hv hrow hg HTX.out hown' hgrow hwh hD hL
  case done =>
    intro f xs W hS hI hK
    obtain ⟨v, hv, hrow, _⟩ := hI.box
    have hc := hv.cell
    gi_wp2
    have hf := Free.put (b := w.heap.size) (.deferred none) (by rw [hs1]; omega) hK rfl
    have hI2 := hI.free hf (Nat.le_refl _)
    refine ⟨by simp, .inl ⟨_, _, rfl, run_takeDeferred hK, ?_⟩⟩
    exact ⟨_, results_tmp rfl _ _ _, v, xs, rfl, hS, hI2.lists (own_free hrow hf), hI2.below⟩
set_option maxRecDepth 100000 in
set_option maxHeartbeats 1000000 in
theorem collect_any (n : Nat) (hn : 7 ≤ n) (g : Nat) (lb : Array Value) (eg : ∀ args w, (callFunc g args).run Try.prog w = .ok (.enter g args) w) (S : List CrX → Prop) (N : Nat) (hN : N ≤ 1000) (w0 w : World)
    (hseq : SeqTold Fence.wide (n - 1 - 1) Try.prog g lb encC TC (KpE 5) OkE S N w0) (hb0 : Below w0.heap.size w0 w) :
    CallsIn Fence.wide n Try.prog 24 #[.func (.func g) #[] lb] w fun e w' => ∃ v xs, e = .returned v ∧ S xs ∧ CRs w' v (xs.map Prod.snd) ∧ Below w.heap.size w w' := by
  have h1 : 1 ≤ n := by omega
  have HA := Lib.hid (appendSeq_any (n - 1) (by omega) g lb eg S N hN w0 w hseq hb0)
  refine callsIn_of_wp Try.func24 rfl trivial ?_ rfl
  simp only [Try.ntmps24, List.size_toArray, List.length_cons, List.length_nil, Nat.reduceAdd, Nat.reduceSub, Array.replicate_succ, Array.replicate_zero, List.push_toArray, List.append_toArray, List.nil_append, List.cons_append]
  gi_wp2_with (refine ⟨trivial, ?_⟩; gi_at_call 28; refine HA.out.mono ?_; rintro e w2 ⟨v, xs, rfl, hS, hl, hb⟩; obtain ⟨a', c', rfl, _⟩ := hl.form; rw [List.length_map] at hl)
  go_ret
  exact ⟨_, xs, rfl, hS, hl, hb⟩
set_option maxRecDepth 100000 in
set_option maxHeartbeats 1000000 in
theorem all_any (n : Int) (w : World) (h : I63 n) : Calls Try.prog 15 #[.int .i64 n] w fun e w' => ∃ v', e = .returned v' ∧ CRs w' v' (allN (cntA n 8)) ∧ Below w.heap.size w w' := by
  have HN := Lib.hid fun w => nearer_any n 8 h (by omega) w
  have hm := lim_le n 8 (by omega)
  have hm8 : lim n 8 ≤ 8 := by omega
  unfold cntA
  generalize lim n 8 = m at *
  obtain ⟨M, hM⟩ : ∃ M, 2 ^ m = M := ⟨_, rfl⟩
  rw [hM]
  have hM2 : M ≤ 256 := by rw [← hM]; exact Nat.pow_le_pow_right (by omega : 0 < 2) hm8
  have HC := Lib.hid fun w => choices_any (m : Int) w
  have HL : Hid (CallsIn Fence.wide 7 Try.prog 24 #[.func (.func 29) #[] #[.pointer (some ⟨w.heap.size, 0, none⟩)]] (w.alloc (.cells #[.int .i64 (m : Int)] 3)) fun e w' => ∃ v, ∃ xs : List CrX, e = .returned v ∧ xs.map Prod.snd = allN M ∧ CRs w' v (xs.map Prod.snd) ∧ Below (w.heap.size + 1) (w.alloc (.cells #[.int .i64 (m : Int)] 3)) w') := Lib.hid (by
    have hb := Boxed.new w 3 (.int .i64 (m : Int))
    have hs := alloc_size w (.cells #[.int .i64 (m : Int)] 3)
    generalize w.alloc (.cells #[.int .i64 (m : Int)] 3) = w1 at *
    rw [← hs]
    exact collect_any 7 (by omega) _ _ (enters_of Try.func29 (by kernel_rfl) rfl) (fun xs => xs.map Prod.snd = allN M) M (by omega) w1 w1 ((choices_told _ (by omega) w.heap.size m M w1 hm8 hM (by omega) hb.cell).lift) (Below.refl _ _))
  clear h
  go_enter Try.func15, Try.ntmps15
  go_wp2_with (first
    | (go_at_call 22; (with_reducible refine (HN.out _).mono ?_); rintro e w2 ⟨rfl, rfl⟩)
    | (go_at_call 25; (with_reducible refine (callsIn_wide.1 (HC.out _)).mono ?_); rintro e w2 ⟨rfl, rfl⟩)
    | (go_at_call 24; (with_reducible refine (callsIn_wide.1 HL.out).mono ?_); rintro e w3 ⟨v, xs, rfl, hS, hl, hb⟩; rw [hS] at hl; obtain ⟨a', c', rfl, _⟩ := hl.form))
  go_ret
  exact ⟨_, rfl, hl, (below_alloc w _).trans (hb.mono (by omega))⟩
end Go.Proofs.Ytdadeloojblekaa
