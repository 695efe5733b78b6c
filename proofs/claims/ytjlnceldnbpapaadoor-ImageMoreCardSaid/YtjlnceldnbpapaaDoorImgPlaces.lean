/-
  LAYER 17 (image): what the program's Places answers, of any records that lie somewhere (at most a million).
-/
import Derived.Test.YtjlnceldnbpapaaDoorImgBody
import Derived.Test.YtjlnceldnbpapaaDoorInAppw
namespace Go.Proofs.YtjlnceldnbpapaaDoor
open Go.RowKit
attribute [local go_sem] Oper.semAt_some
theorem Tryd.info_int : (Tryd.prog.info? 3).map (fun i => (i.zero, i.size, i.bytes)) = some (some (.int .i64 0), 1, 8) := by kernel_rfl
/-- what Places answers -/
def PlF (w : World) (ls : List (List Int)) (N : Nat) (e : Ending) (w' : World) : Prop :=
  (fitsF ls = true ∧ ∃ a c, e = .returned (.tuple #[.slice a N c, .bool true]) ∧ w'.ownsRow w.heap.size 3 1 (.slice a N c) N (il .i64 (placesF ls)) ∧ Below w.heap.size w w') ∨
  (fitsF ls = false ∧ e = .returned (.tuple #[.slice none 0 0, .bool false]) ∧ Below w.heap.size w w')
/-- between two rounds of Places -/
structure PI (w : World) (ls : List (List Int)) (f : Nat → Bool) (k : Nat) (W : World) : Prop where
  r1 : W.heap[w.heap.size]? = some (.cells #[.slice none 0 0] 29 (0, 0))
  r2 : W.heap[w.heap.size + 1]? = some (.cells #[.bool false] 4 (0, 0))
  vb : ∃ a c, W.heap[w.heap.size + 1 + 1]? = some (.cells #[.slice a k c] 29 (0, 0)) ∧ W.ownsRow w.heap.size 3 1 (.slice a k c) k (il .i64 (placesF (ls.take k))) ∧ ∀ q, (Value.slice a k c).ownBlock = some q → f q = true
  fb : f (w.heap.size + 1 + 1) = true
  foot : Foot f W.heap.size
  below : Below w.heap.size w W
structure PX (w : World) (W : World) : Prop where
  r1 : W.heap[w.heap.size]? = some (.cells #[.slice none 0 0] 29 (0, 0))
  r2 : W.heap[w.heap.size + 1]? = some (.cells #[.bool false] 4 (0, 0))
  below : Below w.heap.size w W
theorem PI.free {w : World} {ls : List (List Int)} {f : Nat → Bool} {k : Nat} {A B : World} {b : Nat} (h : PI w ls f k A) (hf : Free b A B) (hb : w.heap.size ≤ b) : PI w ls f k B := by
  obtain ⟨a, c, h1, h2, h3⟩ := h.vb
  exact ⟨hf.2 _ _ h.r1 rfl, hf.2 _ _ h.r2 rfl, ⟨a, c, hf.2 _ _ h1 rfl, own_free' h2 hf, h3⟩, h.fb, h.foot.mono hf.1.size, h.below.trans (hf.1.mono hb)⟩
theorem PX.free {w A B : World} {b : Nat} (h : PX w A) (hf : Free b A B) (hb : w.heap.size ≤ b) : PX w B :=
  ⟨hf.2 _ _ h.r1 rfl, hf.2 _ _ h.r2 rfl, h.below.trans (hf.1.mono hb)⟩
theorem blk_grown {w w' : World} {b : Nat} {c : Array Value} {t : TypeId} {m : Nat × Nat} (h : w.heap[b]? = some (.cells c t m)) {base n size : Nat} {e : TypeId} {u : Value} {xs : List Value} (ho : w.ownsRow base e size u n xs) (he : t ≠ e) (hg : w.grownBy w' u.ownBlock) : w'.heap[b]? = some (.cells c t m) := by
  refine (hg.block b (Array.getElem?_eq_some_iff.1 h).1 (fun e' => ?_)).trans h
  rcases ho.2 with ⟨rfl, _⟩ | ⟨q', cap, cur, rfl, _, hcur, _⟩
  · simp [Value.ownBlock] at e'
  · simp only [Value.ownBlock, Option.some.injEq] at e'
    subst e'
    rw [h] at hcur
    simp only [Option.some.injEq, Obj.cells.injEq] at hcur
    exact he hcur.2.1
theorem NoC.not_row {W : World} {k : Nat} (h : NoC W k) {base size : Nat} {e : TypeId} {v : Value} {n : Nat} {xs : List Value} (hr : W.ownsRow base e size v n xs) : some k ≠ v.ownBlock := by
  obtain ⟨o, ho, hc⟩ := h
  rcases hr.2 with ⟨rfl, _⟩ | ⟨g, cap, cur, rfl, _, hgb, _⟩
  · simp [Value.ownBlock]
  · intro e'
    obtain rfl : k = g := by simpa [Value.ownBlock] using e'
    rw [hgb] at ho; cases ho; cases hc
set_option maxRecDepth 100000 in
set_option maxHeartbeats 4000000 in
theorem places_any (lv : Value) (N : Nat) (ls : List (List Int)) (hN : N ≤ 1000000) (w : World) (hrl : RL .u8 w lv N ls) :
    Calls Tryd.prog 10 #[lv] w (PlF w ls N) := by
  obtain ⟨la, lc, rfl, _⟩ := hrl.form
  have HS : Hid (∀ n, 1 ≤ n → ∀ w1 Bn, Below w.heap.size w w1 → Bn < w1.heap.size → w1.cell? ⟨Bn, 0, none⟩ = some (.slice la N lc) → SeqTill Fence.wide n Tryd.prog 24 #[.pointer (some ⟨Bn, 0, none⟩)] (encR ls) (TR ls) (badR ls) (KpI w.heap.size) OkI (GoodF ls N) (BadF ls) N w1) := Lib.hid fun n hn w1 Bn h1 h2 h3 => records_told n hn w _ N ls hrl Bn w1 h1 h2 h3
  have HLL := Lib.hid hrl.length
  clear hrl
  refine (callsIn_wide (n := 8)).1 ?_
  refine callsIn_of_wp_marks Tryd.func10 rfl trivial ?_ rfl
  simp only [Tryd.ntmps10, List.size_toArray, List.length_cons, List.length_nil, Nat.reduceAdd, Nat.reduceSub, Array.replicate_succ, Array.replicate_zero, List.push_toArray, List.append_toArray, List.nil_append, List.cons_append]
  gi_wp2_with (first
    | (refine ⟨trivial, ?_⟩; gi_at_call 16; refine (callsIn_wide.2 (callsIn_wide.1 (records_any la N lc _))).mono ?_; rintro e w2 ⟨rfl, rfl⟩))
  obtain ⟨q1, q2, q3, q4, q5, q6⟩ := alloc4 w (.cells #[.slice none 0 0] 29) (.cells #[.bool false] 4) (.cells #[.slice none 0 0] 29) (.cells #[.slice la N lc] 23)
  generalize (((w.alloc (.cells #[.slice none 0 0] 29)).alloc (.cells #[.bool false] 4)).alloc (.cells #[.slice none 0 0] 29)).alloc (.cells #[.slice la N lc] 23) = w3 at *
  have HI0 : PI w ls (fun q => q == w.heap.size + 1 + 1) 0 w3 :=
    ⟨q1, q2, ⟨none, 0, q3, World.ownsRow_nil _ _ _ _, fun q h => by simp [Value.ownBlock] at h⟩, by simp, fun q hq => by simp only [beq_iff_eq] at hq; omega, q5⟩
  refine wpIn_rangeFunc_till rfl (by omega) (gf := 24) (lb := #[.pointer (some ⟨w.heap.size + 1 + 1 + 1, 0, none⟩)]) rfl trivial (enters_of Tryd.func24 (by kernel_rfl) rfl)
    (HS.out 7 (by omega) w3 (w.heap.size + 1 + 1 + 1) q5 (by omega) (by rw [cell_of_row _ _ 0 _ _ _ q4]; rfl)) (Below.refl _ _) (fun _ _ => rfl) (fun q => q == w.heap.size + 1 + 1)
    ?ok KpI.trans KpI.of
    (PI w ls) (PX w) (fun f s A B h hf => h.free hf (by omega)) (fun A B h hf => h.free hf (by omega)) (fun k x A B h hf => h.free hf) ?kb ?start
    (fun _ k x a' W => ∃ Bx, w.heap.size + 1 + 1 < Bx ∧ MO W Bx (.slice x.1.1 (nK ls k) x.1.2) (beginN (aK ls k) : Nat) (.slice x.2.1 (psK ls k).length x.2.2) (endI (aK ls k : Nat) (nK ls k : Nat) : Nat) ∧ a' = { tmps := #[.slice la N lc, undef, .pointer (some ⟨w.heap.size, 0, none⟩), .pointer (some ⟨w.heap.size + 1, 0, none⟩), .pointer (some ⟨w.heap.size + 1 + 1, 0, none⟩), .pointer (some ⟨Bx, 0, none⟩), .bool (fitI (aK ls k : Nat) (nK ls k : Nat)), .slice la N lc, .func (.func 24) #[] #[.pointer (some ⟨w.heap.size + 1 + 1 + 1, 0, none⟩)], .agg (rA (.slice x.1.1 (nK ls k) x.1.2) (beginN (aK ls k) : Nat) (.slice x.2.1 (psK ls k).length x.2.2) (endI (aK ls k : Nat) (nK ls k : Nat) : Nat)), .bool (fitI (aK ls k : Nat) (nK ls k : Nat)), undef, undef, undef, undef, undef, undef, undef, undef], defers := [] })
    (fun _ k x a' A B h hf => by obtain ⟨Bx, h1, h2, h3⟩ := h; exact ⟨Bx, h1, h2.free hf, h3⟩) ?assign ?body ?done ?stop
  case ok =>
    intro o o' q hq
    simp only [beq_iff_eq] at hq
    simp only [alloc_size]; omega
  case kb =>
    intro f s W o o' h ho hc
    have hlt := (Array.getElem?_eq_some_iff.1 ho).1
    have hpf := Free.put (b := w.heap.size) o' (by omega) ho hc
    exact ⟨hpf.1.size, fun _ => hpf.1, fun i c _ hi hcc => hpf.2 i c hi hcc, fun hf => hf.mono hpf.1.size, fun _ _ => rfl⟩
  case start =>
    intro o o'
    exact HI0.free (Free.of (bch (balloc w3 o) (balloc _ o')) (Nat.le_refl _)) (by omega)
  case assign =>
    rintro l f k ⟨⟨da, dc⟩, pa, pc⟩ W K hI ht hK
    simp only [encR]
    obtain ⟨_, _, hvb, _, _⟩ := hI.vb
    have hbl := (Array.getElem?_eq_some_iff.1 hvb).1
    generalize beginN (aK ls k) = bg at *
    generalize endI (aK ls k : Nat) (nK ls k : Nat) = en at *
    generalize fitI (aK ls k : Nat) (nK ls k : Nat) = fit at *
    gi_wp2_with (refine wplIn_store_row rfl 48 _ _ rfl W.heap.size (rA (.slice da (nK ls k) dc) bg (.slice pa (psK ls k).length pc) en) rfl rfl _ _ (heap_alloc_last W _) (rec_info _ rfl) rfl (rec_one _ _ _ _ _ _ _ _) ?_)
    exact hK _ _ (bnew W _ _) ⟨W.heap.size, hbl, MO.new _, rfl⟩
  case body =>
    rintro l f k ⟨⟨da, dc⟩, pa, pc⟩ a' W hD hL hI ht ⟨Bx, hBx, hM, rfl⟩ hkN
    obtain ⟨va, vc, hv, hrow, hfr⟩ := hI.vb
    have hkl : k < ls.length := by rw [HLL.out]; exact hkN
    have HPN := Lib.hid (placesF_next ls k hkl)
    have c1 := cell1 hI.r1
    have c2 := cell1 hI.r2
    have c3 := cell1 hv
    have f1 := frozen1 hI.r1
    have f2 := frozen1 hI.r2
    cases hft : fitI (aK ls k : Nat) (nK ls k : Nat) with
    | false =>
      have hbad : badR ls k = true := by unfold badR; rw [hft]; rfl
      rw [hbad]
      gi_wp2
      refine ⟨rfl, ?_, ?_, ?_⟩
      · rw [set_other (by omega), set_other (by omega)]
      · rw [set_other (by omega), set_other (by omega)]
      · refine ⟨?_, ?_, ?_⟩
        · rw [set_other (by omega)]; exact set1 hI.r1 _
        · exact set1 (by rw [set_other (by omega)]; exact hI.r2) _
        · exact bset (bset hI.below (by omega) (Nat.le_refl _) 0 _) (by omega) (Nat.le_refl _) 0 _
    | true =>
      have hbad : badR ls k = false := by unfold badR; rw [hft]; rfl
      rw [hbad]
      obtain ⟨z0, z1, z2, z3⟩ := MO.cells hM
      have HI := Lib.hid hI
      obtain ⟨bg, hbg⟩ : ∃ bg, beginN (aK ls k) = bg := ⟨_, rfl⟩
      have hbg2 : beginN (endF (ls.take k)) = bg := hbg
      rw [hbg2] at HPN
      rw [hbg] at z1
      simp only [hbg]
      gi_wp2_with (gi_at_builtin; refine wplIn_appw rfl (.tmp 13) (.tmp 16) 29 rfl 3 .i64 8 Tryd.underlying29 Tryd.info_int w.heap.size (.slice va k vc) k _ rfl (hrow.alloc _) ⟨W.heap.size, 0, none⟩ 1 1 [(bg : Int)] rfl rfl (by intro j u hj; rw [Addr.add_mid, Nat.zero_add, cell_of_row _ W.heap.size j _ _ _ (heap_alloc_last W _)]; simpa [il] using hj) (by omega) (by omega) (by have := HI.out.below.size; simp; omega) ?_; intro v' w2 hown' hgrow hwh; rw [← HPN.out] at hown'; obtain ⟨a2, c2', rfl⟩ := own_form hown'; have hv2 := blk_grown ((below_alloc W (.cells #[.int .i64 (bg : Int)] 3)).block _ (Array.getElem?_eq_some_iff.1 hv).1 ▸ hv) (hrow.alloc _) (by decide) hgrow; have c6 := cell1 hv2; have f6 := frozen1 hv2)
      obtain ⟨W6, hW6⟩ : ∃ W6, w2.setCell ⟨w.heap.size + 1 + 1, 0, none⟩ (.slice a2 (k + 1) c2') = W6 := ⟨_, rfl⟩
      rw [hW6]
      have hkeep : ∀ q, q < W.heap.size → q ≠ w.heap.size + 1 + 1 → some q ≠ (Value.slice va k vc).ownBlock → W6.heap[q]? = W.heap[q]? := fun q hq h1 h2 => by
        rw [← hW6, set_other h1, hgrow.block q (by rw [alloc_size]; omega) h2, Below.heap_alloc W _ q hq]
      have hs6 : W.heap.size ≤ W6.heap.size := by rw [← hW6]; have := hgrow.size; simp at this ⊢; omega
      have hlt : ∀ {q}, NoC W q → q < W.heap.size := fun ⟨o, ho, _⟩ => (Array.getElem?_eq_some_iff.1 ho).1
      have hv6 : W6.heap[w.heap.size + 1 + 1]? = some (.cells #[.slice a2 (k + 1) c2'] 29 (0, 0)) := by rw [← hW6]; exact set1 hv2 _
      have hrow6 : W6.ownsRow w.heap.size 3 1 (.slice a2 (k + 1) c2') (k + 1) (il .i64 (placesF (ls.take (k + 1)))) := by
        rw [← hW6]
        refine own_over hown' (grown_setCell (w.heap.size + 1 + 1) 0 _ w2) (fun q hq e => ?_)
        rcases hown'.2 with ⟨e2, _⟩ | ⟨q', cap, cur, e2, _, hcur, _⟩
        · rw [e2] at hq; simp [Value.ownBlock] at hq
        · rw [e2] at hq
          simp only [Value.ownBlock, Option.some.injEq] at hq
          subst hq
          have := Option.some.inj e
          subst this
          rw [hv2] at hcur
          simp only [Option.some.injEq, Obj.cells.injEq] at hcur
          exact absurd hcur.2.1 (by decide)
      have hb6 : Below w.heap.size W W6 := by
        rw [← hW6]
        exact bset ((((Below.refl w.heap.size W).alloc HI.out.below.size _)).grown hgrow (by have := HI.out.below.size; simp; omega) (fun q hq => (hrow.lt q hq).1)) (by omega) HI.out.below.size 0 _
      have hnewf : ∀ q, (Value.slice a2 (k + 1) c2').ownBlock = some q → plusF f W.heap.size W6.heap.size q = true := fun q hq => by
        have hql := (hrow6.lt q hq).2
        rcases hwh with e | e
        · exact plusF_mono _ _ _ _ (hfr q (by rw [← e, hq]))
        · rw [hq] at e
          simp only [Option.some.injEq, alloc_size] at e
          exact plusF_in _ _ _ _ (by omega) hql
      clear hW6
      rw [q6] at hD hL
      refine ⟨rfl, plusF f W.heap.size W6.heap.size, ?_, ?_, ?_, ?_⟩
      · exact hkeep _ (hlt hD) (by omega) (hD.not_row hrow)
      · exact hkeep _ (hlt hL) (by omega) (hL.not_row hrow)
      · refine ⟨hs6, fun _ => hb6, fun q o hf ho _ => ?_, fun hf => plusF_foot hf hs6, fun q hq => by simp [plusF]; intro h1; omega⟩
        have hq := (Array.getElem?_eq_some_iff.1 ho).1
        rw [hkeep q hq (by rintro rfl; rw [HI.out.fb] at hf; simp at hf) (fun e => by rw [hfr q e.symm] at hf; simp at hf)]
        exact ho
      · refine ⟨?_, ?_, ⟨a2, c2', hv6, hrow6, hnewf⟩, plusF_mono _ _ _ _ HI.out.fb, plusF_foot HI.out.foot hs6, HI.out.below.trans hb6⟩
        · rw [hkeep _ (Array.getElem?_eq_some_iff.1 HI.out.r1).1 (by omega) (fun e => ?_)]
          · exact HI.out.r1
          · rcases hrow.2 with ⟨e2, _⟩ | ⟨q', cap, cur, e2, _, hcur, _⟩
            · rw [e2] at e; simp [Value.ownBlock] at e
            · rw [e2] at e
              simp only [Value.ownBlock, Option.some.injEq] at e
              subst e
              rw [HI.out.r1] at hcur
              simp only [Option.some.injEq, Obj.cells.injEq] at hcur
              exact absurd hcur.2.1 (by decide)
        · rw [hkeep _ (Array.getElem?_eq_some_iff.1 HI.out.r2).1 (by omega) (fun e => ?_)]
          · exact HI.out.r2
          · rcases hrow.2 with ⟨e2, _⟩ | ⟨q', cap, cur, e2, _, hcur, _⟩
            · rw [e2] at e; simp [Value.ownBlock] at e
            · rw [e2] at e
              simp only [Value.ownBlock, Option.some.injEq] at e
              subst e
              rw [HI.out.r2] at hcur
              simp only [Option.some.injEq, Obj.cells.injEq] at hcur
              exact absurd hcur.2.1 (by decide)
  case stop =>
    intro W hB hI hK
    gi_wp2
    have hf := Free.put (b := w.heap.size) (.deferred none) (by omega) hK rfl
    have hX := hI.free hf (Nat.le_refl _)
    have d1 := cell1 hX.r1
    have d2 := cell1 hX.r2
    refine ⟨by simp, .inl ⟨_, _, rfl, run_takeDeferred hK, ?_⟩⟩
    refine ⟨.tuple #[.slice none 0 0, .bool false], ?_, .inr ⟨fitsF_bad hB, rfl, hX.below⟩⟩
    simp [results, Tryd.f10, go_sem, d1, d2]
  case done =>
    intro f W hS hI hK
    obtain ⟨va, vc, hv, hrow, _⟩ := hI.vb
    have c1 := cell1 hI.r1
    have c2 := cell1 hI.r2
    have c3 := cell1 hv
    have f1 := frozen1 hI.r1
    have f2 := frozen1 hI.r2
    gi_wp2
    have hKn : NoC W w3.heap.size := ⟨_, hK, rfl⟩
    obtain ⟨W5, hW5⟩ : ∃ q, (W.setCell ⟨w.heap.size, 0, none⟩ (.slice va N vc)).setCell ⟨w.heap.size + 1, 0, none⟩ (.bool true) = q := ⟨_, rfl⟩
    rw [hW5]
    have o5 : ∀ q : Nat, w.heap.size + 1 < q → W5.heap[q]? = W.heap[q]? := fun q hq => by rw [← hW5, set_other (by omega), set_other (by omega)]
    have hb5 : Below w.heap.size w W5 := by rw [← hW5]; exact bset (bset hI.below (by omega) (Nat.le_refl _) 0 _) (by omega) (Nat.le_refl _) 0 _
    have r1 : W5.heap[w.heap.size]? = some (.cells #[.slice va N vc] 29 (0, 0)) := by rw [← hW5, set_other (by omega)]; exact set1 hI.r1 _
    have r2 : W5.heap[w.heap.size + 1]? = some (.cells #[.bool true] 4 (0, 0)) := by rw [← hW5]; exact set1 (by rw [set_other (by omega)]; exact hI.r2) _
    have hK5 : W5.heap[w3.heap.size]? = some (.deferred (some [])) := (o5 _ (by omega)).trans hK
    have hrow5 : W5.ownsRow w.heap.size 3 1 (.slice va N vc) N (il .i64 (placesF (ls.take N))) := by
      have hnr : ∀ (b : Nat) (c : Array Value) (t : TypeId) (m : Nat × Nat) (W' : World), W'.ownsRow w.heap.size 3 1 (.slice va N vc) N (il .i64 (placesF (ls.take N))) → W'.heap[b]? = some (.cells c t m) → t ≠ 3 → ∀ x, (W'.setCell ⟨b, 0, none⟩ x).ownsRow w.heap.size 3 1 (.slice va N vc) N (il .i64 (placesF (ls.take N))) := fun b c t m W' h hb ht x => by
        refine own_over h (grown_setCell b 0 x W') (fun q hq e => ?_)
        rcases h.2 with ⟨e2, _⟩ | ⟨q', cap, cur, e2, _, hcur, _⟩
        · rw [e2] at hq; simp [Value.ownBlock] at hq
        · rw [e2] at hq
          simp only [Value.ownBlock, Option.some.injEq] at hq
          subst hq
          have := Option.some.inj e
          subst this
          rw [hb] at hcur
          simp only [Option.some.injEq, Obj.cells.injEq] at hcur
          exact ht hcur.2.1
      rw [← hW5]
      exact hnr _ _ _ _ _ (hnr _ _ _ _ _ hrow hI.r1 (by decide) _) ((set_other (by omega) _).trans hI.r2) (by decide) _
    clear hW5 o5 c1 c2 c3 f1 f2
    have hf := Free.put (b := w.heap.size) (.deferred none) (by omega) hK5 rfl
    have d1 := cell1 (hf.2 _ _ r1 rfl)
    have d2 := cell1 (hf.2 _ _ r2 rfl)
    have hrf := own_free' hrow5 hf
    have hbf := hb5.trans hf.1
    have hlN : ls.take N = ls := List.take_of_length_le (by rw [HLL.out]; exact Nat.le_refl _)
    rw [hlN] at hrf
    refine ⟨by simp, .inl ⟨_, _, rfl, run_takeDeferred hK5, ?_⟩⟩
    refine ⟨.tuple #[.slice va N vc, .bool true], ?_, .inl ⟨fitsF_good (by rw [HLL.out]; exact hS), va, vc, rfl, hrf, hbf⟩⟩
    simp [results, Tryd.f10, go_sem, d1, d2]
end Go.Proofs.YtjlnceldnbpapaaDoor
