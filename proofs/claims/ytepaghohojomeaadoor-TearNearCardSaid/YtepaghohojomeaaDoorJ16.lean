/-
  TEXTS JOINED: ImgPlaces, TearInt, TearAll, TearAwake. Each one's own words stand at its head.
-/
import Derived.Test.YtepaghohojomeaaDoorJ14
import Derived.Test.YtepaghohojomeaaDoorJ15
import Derived.Test.YtepaghohojomeaaDoorJ13
import Derived.Test.YtepaghohojomeaaDoorJ12
import Derived.Test.YtepaghohojomeaaDoorJ17
/-
  LAYER 17 (image): what the program's Places answers, of any records that lie somewhere (at most a million).
-/
namespace Go.Proofs.YtepaghohojomeaaDoor
open Go.RowKit
attribute [local go_sem] Oper.semAt_some
theorem Tryd.info_places : (Tryd.prog.info? 3).map (fun i => (i.zero, i.size, i.bytes)) = some (some (.int .i64 0), 1, 8) := by kernel_rfl
/-- what Places answers -/
def PlF (w : World) (ls : List (List Int)) (N : Nat) (e : Ending) (w' : World) : Prop :=
  (fitsF ls = true ∧ ∃ a c, e = .returned (.tuple #[.slice a N c, .bool true]) ∧ w'.ownsRow w.heap.size 3 1 (.slice a N c) N (il .i64 (placesF ls)) ∧ Below w.heap.size w w') ∨
  (fitsF ls = false ∧ e = .returned (.tuple #[.slice none 0 0, .bool false]) ∧ Below w.heap.size w w')
/-- between two rounds of Places -/
structure PI (w : World) (ls : List (List Int)) (f : Nat → Bool) (k : Nat) (W : World) : Prop where
  r1 : W.heap[w.heap.size]? = some (.cells #[.slice none 0 0] 32 (0, 0))
  r2 : W.heap[w.heap.size + 1]? = some (.cells #[.bool false] 4 (0, 0))
  vb : ∃ a c, W.heap[w.heap.size + 1 + 1]? = some (.cells #[.slice a k c] 32 (0, 0)) ∧ W.ownsRow w.heap.size 3 1 (.slice a k c) k (il .i64 (placesF (ls.take k))) ∧ ∀ q, (Value.slice a k c).ownBlock = some q → f q = true
  fb : f (w.heap.size + 1 + 1) = true
  foot : Foot f W.heap.size
  below : Below w.heap.size w W
structure PX (w : World) (W : World) : Prop where
  r1 : W.heap[w.heap.size]? = some (.cells #[.slice none 0 0] 32 (0, 0))
  r2 : W.heap[w.heap.size + 1]? = some (.cells #[.bool false] 4 (0, 0))
  below : Below w.heap.size w W
theorem PI.free {w : World} {ls : List (List Int)} {f : Nat → Bool} {k : Nat} {A B : World} {b : Nat} (h : PI w ls f k A) (hf : Free b A B) (hb : w.heap.size ≤ b) : PI w ls f k B := by
  obtain ⟨a, c, h1, h2, h3⟩ := h.vb
  exact ⟨hf.2 _ _ h.r1 rfl, hf.2 _ _ h.r2 rfl, ⟨a, c, hf.2 _ _ h1 rfl, own_free' h2 hf, h3⟩, h.fb, h.foot.mono hf.1.size, h.below.trans (hf.1.mono hb)⟩
theorem PX.free {w A B : World} {b : Nat} (h : PX w A) (hf : Free b A B) (hb : w.heap.size ≤ b) : PX w B :=
  ⟨hf.2 _ _ h.r1 rfl, hf.2 _ _ h.r2 rfl, h.below.trans (hf.1.mono hb)⟩
theorem img_blk_grown {w w' : World} {b : Nat} {c : Array Value} {t : TypeId} {m : Nat × Nat} (h : w.heap[b]? = some (.cells c t m)) {base n size : Nat} {e : TypeId} {u : Value} {xs : List Value} (ho : w.ownsRow base e size u n xs) (he : t ≠ e) (hg : w.grownBy w' u.ownBlock) : w'.heap[b]? = some (.cells c t m) := by
  refine (hg.block b (Array.getElem?_eq_some_iff.1 h).1 (fun e' => ?_)).trans h
  rcases ho.2 with ⟨rfl, _⟩ | ⟨q', cap, cur, rfl, _, hcur, _⟩
  · simp [Value.ownBlock] at e'
  · simp only [Value.ownBlock, Option.some.injEq] at e'
    subst e'
    rw [h] at hcur
    simp only [Option.some.injEq, Obj.cells.injEq] at hcur
    exact he hcur.2.1
theorem NoC.not_row {W : World} {k : Nat} (h : NoC W k) {base size : Nat} {e : TypeId} {v : Value} {n : Nat} {xs : List Value} (hr : W.ownsRow base e size v n xs) : some k ≠ v.ownBlock := by
  obtain ⟨o, ho, hc⟩ := h
  rcases hr.2 with ⟨rfl, _⟩ | ⟨g, cap, cur, rfl, _, hgb, _⟩
  · simp [Value.ownBlock]
  · intro e'
    obtain rfl : k = g := by simpa [Value.ownBlock] using e'
    rw [hgb] at ho; cases ho; cases hc
set_option maxRecDepth 100000 in
set_option maxHeartbeats 4000000 in
theorem places_any (lv : Value) (N : Nat) (ls : List (List Int)) (hN : N ≤ 1000000) (w : World) (hrl : RL .u8 w lv N ls) :
    Calls Tryd.prog 62 #[lv] w (PlF w ls N) := by
  obtain ⟨la, lc, rfl, _⟩ := hrl.form
  have HS : Hid (∀ n, 1 ≤ n → ∀ w1 Bn, Below w.heap.size w w1 → Bn < w1.heap.size → w1.cell? ⟨Bn, 0, none⟩ = some (.slice la N lc) → SeqTill Fence.wide n Tryd.prog 93 #[.pointer (some ⟨Bn, 0, none⟩)] (encR ls) (TR ls) (badR ls) (KpI w.heap.size) OkI (GoodF ls N) (BadF ls) N w1) := Lib.hid fun n hn w1 Bn h1 h2 h3 => records_told n hn w _ N ls hrl Bn w1 h1 h2 h3
  have HLL := Lib.hid hrl.length
  clear hrl
  refine (callsIn_wide (n := 8)).1 ?_
  refine callsIn_of_wp_marks Tryd.func62 rfl trivial ?_ rfl
  simp only [Tryd.ntmps62, List.size_toArray, List.length_cons, List.length_nil, Nat.reduceAdd, Nat.reduceSub, Array.replicate_succ, Array.replicate_zero, List.push_toArray, List.append_toArray, List.nil_append, List.cons_append]
  gi_wp2_with (first
    | (refine ⟨trivial, ?_⟩; gi_at_call 79; refine (callsIn_wide.2 (callsIn_wide.1 (records_any la N lc _))).mono ?_; rintro e w2 ⟨rfl, rfl⟩))
  obtain ⟨q1, q2, q3, q4, q5, q6⟩ := alloc4 w (.cells #[.slice none 0 0] 32) (.cells #[.bool false] 4) (.cells #[.slice none 0 0] 32) (.cells #[.slice la N lc] 23)
  generalize (((w.alloc (.cells #[.slice none 0 0] 32)).alloc (.cells #[.bool false] 4)).alloc (.cells #[.slice none 0 0] 32)).alloc (.cells #[.slice la N lc] 23) = w3 at *
  have HI0 : PI w ls (fun q => q == w.heap.size + 1 + 1) 0 w3 :=
    ⟨q1, q2, ⟨none, 0, q3, World.ownsRow_nil _ _ _ _, fun q h => by simp [Value.ownBlock] at h⟩, by simp, fun q hq => by simp only [beq_iff_eq] at hq; omega, q5⟩
  refine wpIn_rangeFunc_till rfl (by omega) (gf := 93) (lb := #[.pointer (some ⟨w.heap.size + 1 + 1 + 1, 0, none⟩)]) rfl trivial (enters_of Tryd.func93 (by kernel_rfl) rfl)
    (HS.out 7 (by omega) w3 (w.heap.size + 1 + 1 + 1) q5 (by omega) (by rw [cell_of_row _ _ 0 _ _ _ q4]; rfl)) (Below.refl _ _) (fun _ _ => rfl) (fun q => q == w.heap.size + 1 + 1)
    ?ok KpI.trans KpI.of
    (PI w ls) (PX w) (fun f s A B h hf => h.free hf (by omega)) (fun A B h hf => h.free hf (by omega)) (fun k x A B h hf => h.free hf) ?kb ?start
    (fun _ k x a' W => ∃ Bx, w.heap.size + 1 + 1 < Bx ∧ MO W Bx (.slice x.1.1 (nK ls k) x.1.2) (beginN (aK ls k) : Nat) (.slice x.2.1 (psK ls k).length x.2.2) (endI (aK ls k : Nat) (nK ls k : Nat) : Nat) ∧ a' = { tmps := #[.slice la N lc, undef, .pointer (some ⟨w.heap.size, 0, none⟩), .pointer (some ⟨w.heap.size + 1, 0, none⟩), .pointer (some ⟨w.heap.size + 1 + 1, 0, none⟩), .pointer (some ⟨Bx, 0, none⟩), .bool (fitI (aK ls k : Nat) (nK ls k : Nat)), .slice la N lc, .func (.func 93) #[] #[.pointer (some ⟨w.heap.size + 1 + 1 + 1, 0, none⟩)], .agg (rA (.slice x.1.1 (nK ls k) x.1.2) (beginN (aK ls k) : Nat) (.slice x.2.1 (psK ls k).length x.2.2) (endI (aK ls k : Nat) (nK ls k : Nat) : Nat)), .bool (fitI (aK ls k : Nat) (nK ls k : Nat)), undef, undef, undef, undef, undef, undef, undef, undef], defers := [] })
    (fun _ k x a' A B h hf => by obtain ⟨Bx, h1, h2, h3⟩ := h; exact ⟨Bx, h1, h2.free hf, h3⟩) ?assign ?body ?done ?stop
  case ok =>
    intro o o' q hq
    simp only [beq_iff_eq] at hq
    simp only [alloc_size]; omega
  case kb =>
    intro f s W o o' h ho hc
    have hlt := (Array.getElem?_eq_some_iff.1 ho).1
    have hpf := Free.put (b := w.heap.size) o' (by omega) ho hc
    exact ⟨hpf.1.size, fun _ => hpf.1, fun i c _ hi hcc => hpf.2 i c hi hcc, fun hf => hf.mono hpf.1.size, fun _ _ => rfl⟩
  case start =>
    intro o o'
    exact HI0.free (Free.of (bch (balloc w3 o) (balloc _ o')) (Nat.le_refl _)) (by omega)
  case assign =>
    rintro l f k ⟨⟨da, dc⟩, pa, pc⟩ W K hI ht hK
    simp only [encR]
    obtain ⟨_, _, hvb, _, _⟩ := hI.vb
    have hbl := (Array.getElem?_eq_some_iff.1 hvb).1
    generalize beginN (aK ls k) = bg at *
    generalize endI (aK ls k : Nat) (nK ls k : Nat) = en at *
    generalize fitI (aK ls k : Nat) (nK ls k : Nat) = fit at *
    gi_wp2_with (refine wplIn_store_row rfl 141 _ _ rfl W.heap.size (rA (.slice da (nK ls k) dc) bg (.slice pa (psK ls k).length pc) en) rfl rfl _ _ (heap_alloc_last W _) (rec_info _ rfl) rfl (rec_one _ _ _ _ _ _ _ _) ?_)
    exact hK _ _ (bnew W _ _) ⟨W.heap.size, hbl, MO.new _, rfl⟩
  case body =>
    rintro l f k ⟨⟨da, dc⟩, pa, pc⟩ a' W hD hL hI ht ⟨Bx, hBx, hM, rfl⟩ hkN
    obtain ⟨va, vc, hv, hrow, hfr⟩ := hI.vb
    have hkl : k < ls.length := by rw [HLL.out]; exact hkN
    have HPN := Lib.hid (placesF_next ls k hkl)
    have c1 := cell1 hI.r1
    have c2 := cell1 hI.r2
    have c3 := cell1 hv
    have f1 := frozen1 hI.r1
    have f2 := frozen1 hI.r2
    cases hft : fitI (aK ls k : Nat) (nK ls k : Nat) with
    | false =>
      have hbad : badR ls k = true := by unfold badR; rw [hft]; rfl
      rw [hbad]
      gi_wp2
      refine ⟨rfl, ?_, ?_, ?_⟩
      · rw [set_other (by omega), set_other (by omega)]
      · rw [set_other (by omega), set_other (by omega)]
      · refine ⟨?_, ?_, ?_⟩
        · rw [set_other (by omega)]; exact set1 hI.r1 _
        · exact set1 (by rw [set_other (by omega)]; exact hI.r2) _
        · exact bset (bset hI.below (by omega) (Nat.le_refl _) 0 _) (by omega) (Nat.le_refl _) 0 _
    | true =>
      have hbad : badR ls k = false := by unfold badR; rw [hft]; rfl
      rw [hbad]
      obtain ⟨z0, z1, z2, z3⟩ := MO.cells hM
      have HI := Lib.hid hI
      obtain ⟨bg, hbg⟩ : ∃ bg, beginN (aK ls k) = bg := ⟨_, rfl⟩
      have hbg2 : beginN (endF (ls.take k)) = bg := hbg
      rw [hbg2] at HPN
      rw [hbg] at z1
      simp only [hbg]
      gi_wp2_with (gi_at_builtin; refine wplIn_appw rfl (.tmp 13) (.tmp 16) 32 rfl 3 .i64 8 Tryd.underlying32 Tryd.info_places w.heap.size (.slice va k vc) k _ rfl (hrow.alloc _) ⟨W.heap.size, 0, none⟩ 1 1 [(bg : Int)] rfl rfl (by intro j u hj; rw [Addr.add_mid, Nat.zero_add, cell_of_row _ W.heap.size j _ _ _ (heap_alloc_last W _)]; simpa [il] using hj) (by omega) (by omega) (by have := HI.out.below.size; simp; omega) ?_; intro v' w2 hown' hgrow hwh; rw [← HPN.out] at hown'; obtain ⟨a2, c2', rfl⟩ := own_form hown'; have hv2 := img_blk_grown ((below_alloc W (.cells #[.int .i64 (bg : Int)] 3)).block _ (Array.getElem?_eq_some_iff.1 hv).1 ▸ hv) (hrow.alloc _) (by decide) hgrow; have c6 := cell1 hv2; have f6 := frozen1 hv2)
      obtain ⟨W6, hW6⟩ : ∃ W6, w2.setCell ⟨w.heap.size + 1 + 1, 0, none⟩ (.slice a2 (k + 1) c2') = W6 := ⟨_, rfl⟩
      rw [hW6]
      have hkeep : ∀ q, q < W.heap.size → q ≠ w.heap.size + 1 + 1 → some q ≠ (Value.slice va k vc).ownBlock → W6.heap[q]? = W.heap[q]? := fun q hq h1 h2 => by
        rw [← hW6, set_other h1, hgrow.block q (by rw [alloc_size]; omega) h2, Below.heap_alloc W _ q hq]
      have hs6 : W.heap.size ≤ W6.heap.size := by rw [← hW6]; have := hgrow.size; simp at this ⊢; omega
      have hlt : ∀ {q}, NoC W q → q < W.heap.size := fun ⟨o, ho, _⟩ => (Array.getElem?_eq_some_iff.1 ho).1
      have hv6 : W6.heap[w.heap.size + 1 + 1]? = some (.cells #[.slice a2 (k + 1) c2'] 32 (0, 0)) := by rw [← hW6]; exact set1 hv2 _
      have hrow6 : W6.ownsRow w.heap.size 3 1 (.slice a2 (k + 1) c2') (k + 1) (il .i64 (placesF (ls.take (k + 1)))) := by
        rw [← hW6]
        refine own_over hown' (grown_setCell (w.heap.size + 1 + 1) 0 _ w2) (fun q hq e => ?_)
        rcases hown'.2 with ⟨e2, _⟩ | ⟨q', cap, cur, e2, _, hcur, _⟩
        · rw [e2] at hq; simp [Value.ownBlock] at hq
        · rw [e2] at hq
          simp only [Value.ownBlock, Option.some.injEq] at hq
          subst hq
          have := Option.some.inj e
          subst this
          rw [hv2] at hcur
          simp only [Option.some.injEq, Obj.cells.injEq] at hcur
          exact absurd hcur.2.1 (by decide)
      have hb6 : Below w.heap.size W W6 := by
        rw [← hW6]
        exact bset ((((Below.refl w.heap.size W).alloc HI.out.below.size _)).grown hgrow (by have := HI.out.below.size; simp; omega) (fun q hq => (hrow.lt q hq).1)) (by omega) HI.out.below.size 0 _
      have hnewf : ∀ q, (Value.slice a2 (k + 1) c2').ownBlock = some q → plusF f W.heap.size W6.heap.size q = true := fun q hq => by
        have hql := (hrow6.lt q hq).2
        rcases hwh with e | e
        · exact plusF_mono _ _ _ _ (hfr q (by rw [← e, hq]))
        · rw [hq] at e
          simp only [Option.some.injEq, alloc_size] at e
          exact plusF_in _ _ _ _ (by omega) hql
      clear hW6
      rw [q6] at hD hL
      refine ⟨rfl, plusF f W.heap.size W6.heap.size, ?_, ?_, ?_, ?_⟩
      · exact hkeep _ (hlt hD) (by omega) (hD.not_row hrow)
      · exact hkeep _ (hlt hL) (by omega) (hL.not_row hrow)
      · refine ⟨hs6, fun _ => hb6, fun q o hf ho _ => ?_, fun hf => plusF_foot hf hs6, fun q hq => by simp [plusF]; intro h1; omega⟩
        have hq := (Array.getElem?_eq_some_iff.1 ho).1
        rw [hkeep q hq (by rintro rfl; rw [HI.out.fb] at hf; simp at hf) (fun e => by rw [hfr q e.symm] at hf; simp at hf)]
        exact ho
      · refine ⟨?_, ?_, ⟨a2, c2', hv6, hrow6, hnewf⟩, plusF_mono _ _ _ _ HI.out.fb, plusF_foot HI.out.foot hs6, HI.out.below.trans hb6⟩
        · rw [hkeep _ (Array.getElem?_eq_some_iff.1 HI.out.r1).1 (by omega) (fun e => ?_)]
          · exact HI.out.r1
          · rcases hrow.2 with ⟨e2, _⟩ | ⟨q', cap, cur, e2, _, hcur, _⟩
            · rw [e2] at e; simp [Value.ownBlock] at e
            · rw [e2] at e
              simp only [Value.ownBlock, Option.some.injEq] at e
              subst e
              rw [HI.out.r1] at hcur
              simp only [Option.some.injEq, Obj.cells.injEq] at hcur
              exact absurd hcur.2.1 (by decide)
        · rw [hkeep _ (Array.getElem?_eq_some_iff.1 HI.out.r2).1 (by omega) (fun e => ?_)]
          · exact HI.out.r2
          · rcases hrow.2 with ⟨e2, _⟩ | ⟨q', cap, cur, e2, _, hcur, _⟩
            · rw [e2] at e; simp [Value.ownBlock] at e
            · rw [e2] at e
              simp only [Value.ownBlock, Option.some.injEq] at e
              subst e
              rw [HI.out.r2] at hcur
              simp only [Option.some.injEq, Obj.cells.injEq] at hcur
              exact absurd hcur.2.1 (by decide)
  case stop =>
    intro W hB hI hK
    gi_wp2
    have hf := Free.put (b := w.heap.size) (.deferred none) (by omega) hK rfl
    have hX := hI.free hf (Nat.le_refl _)
    have d1 := cell1 hX.r1
    have d2 := cell1 hX.r2
    refine ⟨by simp, .inl ⟨_, _, rfl, run_takeDeferred hK, ?_⟩⟩
    refine ⟨.tuple #[.slice none 0 0, .bool false], ?_, .inr ⟨fitsF_bad hB, rfl, hX.below⟩⟩
    simp [results, Tryd.f62, go_sem, d1, d2]
  case done =>
    intro f W hS hI hK
    obtain ⟨va, vc, hv, hrow, _⟩ := hI.vb
    have c1 := cell1 hI.r1
    have c2 := cell1 hI.r2
    have c3 := cell1 hv
    have f1 := frozen1 hI.r1
    have f2 := frozen1 hI.r2
    gi_wp2
    have hKn : NoC W w3.heap.size := ⟨_, hK, rfl⟩
    obtain ⟨W5, hW5⟩ : ∃ q, (W.setCell ⟨w.heap.size, 0, none⟩ (.slice va N vc)).setCell ⟨w.heap.size + 1, 0, none⟩ (.bool true) = q := ⟨_, rfl⟩
    rw [hW5]
    have o5 : ∀ q : Nat, w.heap.size + 1 < q → W5.heap[q]? = W.heap[q]? := fun q hq => by rw [← hW5, set_other (by omega), set_other (by omega)]
    have hb5 : Below w.heap.size w W5 := by rw [← hW5]; exact bset (bset hI.below (by omega) (Nat.le_refl _) 0 _) (by omega) (Nat.le_refl _) 0 _
    have r1 : W5.heap[w.heap.size]? = some (.cells #[.slice va N vc] 32 (0, 0)) := by rw [← hW5, set_other (by omega)]; exact set1 hI.r1 _
    have r2 : W5.heap[w.heap.size + 1]? = some (.cells #[.bool true] 4 (0, 0)) := by rw [← hW5]; exact set1 (by rw [set_other (by omega)]; exact hI.r2) _
    have hK5 : W5.heap[w3.heap.size]? = some (.deferred (some [])) := (o5 _ (by omega)).trans hK
    have hrow5 : W5.ownsRow w.heap.size 3 1 (.slice va N vc) N (il .i64 (placesF (ls.take N))) := by
      have hnr : ∀ (b : Nat) (c : Array Value) (t : TypeId) (m : Nat × Nat) (W' : World), W'.ownsRow w.heap.size 3 1 (.slice va N vc) N (il .i64 (placesF (ls.take N))) → W'.heap[b]? = some (.cells c t m) → t ≠ 3 → ∀ x, (W'.setCell ⟨b, 0, none⟩ x).ownsRow w.heap.size 3 1 (.slice va N vc) N (il .i64 (placesF (ls.take N))) := fun b c t m W' h hb ht x => by
        refine own_over h (grown_setCell b 0 x W') (fun q hq e => ?_)
        rcases h.2 with ⟨e2, _⟩ | ⟨q', cap, cur, e2, _, hcur, _⟩
        · rw [e2] at hq; simp [Value.ownBlock] at hq
        · rw [e2] at hq
          simp only [Value.ownBlock, Option.some.injEq] at hq
          subst hq
          have := Option.some.inj e
          subst this
          rw [hb] at hcur
          simp only [Option.some.injEq, Obj.cells.injEq] at hcur
          exact ht hcur.2.1
      rw [← hW5]
      exact hnr _ _ _ _ _ (hnr _ _ _ _ _ hrow hI.r1 (by decide) _) ((set_other (by omega) _).trans hI.r2) (by decide) _
    clear hW5 o5 c1 c2 c3 f1 f2
    have hf := Free.put (b := w.heap.size) (.deferred none) (by omega) hK5 rfl
    have d1 := cell1 (hf.2 _ _ r1 rfl)
    have d2 := cell1 (hf.2 _ _ r2 rfl)
    have hrf := own_free' hrow5 hf
    have hbf := hb5.trans hf.1
    have hlN : ls.take N = ls := List.take_of_length_le (by rw [HLL.out]; exact Nat.le_refl _)
    rw [hlN] at hrf
    refine ⟨by simp, .inl ⟨_, _, rfl, run_takeDeferred hK5, ?_⟩⟩
    refine ⟨.tuple #[.slice va N vc, .bool true], ?_, .inl ⟨fitsF_good (by rw [HLL.out]; exact hS), va, vc, rfl, hrf, hbf⟩⟩
    simp [results, Tryd.f62, go_sem, d1, d2]
end Go.Proofs.YtepaghohojomeaaDoor
/-
  LAYER 20 (tear), the program's own: intended hands each fragment of records that fit to the closure that gathers clashes. The table of half a byte's steps must lie in its block as start-up lays it. At most a million records.
-/
namespace Go.Proofs.YtepaghohojomeaaDoor
open Go.RowKit
/-- what the closure's variables speak of -/
structure GC (W0 W : World) (bc bs g1 g2 : Nat) (ep : Int) (B : List Int) (K : List Bool) : Prop where
  len : B.length = 832
  bytes : isB B
  tab : Tab W0
  secs : W.heap[bs]? = some (.cells (flA ep (.slice (some ⟨g1, 0, none⟩) 832 832) (.slice (some ⟨g2, 0, none⟩) 16 16)) 97 (0, 0))
  ne : bs ≠ bc
  body : RI .u8 W (.slice (some ⟨g1, 0, none⟩) 832 832) 832 B
  n1 : g1 ≠ bc
  oks : BS W (.slice (some ⟨g2, 0, none⟩) 16 16) 16 K
  n2 : g2 ≠ bc
abbrev handV (bs bc : Nat) : Value := .func (.func 40) #[] #[.pointer (some ⟨bs, 0, none⟩), .pointer (some ⟨bc, 0, none⟩)]
section
variable {W0 W : World} {bc bs g1 g2 : Nat} {ep : Int} {B : List Int} {K : List Bool}
theorem gath_step (hC : GC W0 W bc bs g1 g2 ep B K) {w : World} {v : Value} {n k : Nat} {X zs : List Int} {ps : List PC} {c : PC} (hzb : isB zs) (hc : ps[k]? = some c) (q : Nat) (hq : c.at_ = (q : Int)) (hq8 : q + 11 ≤ 832) (e : FR × Value) (he : e.1 = frOf ep zs c)
    (hG : GO W0 W w bc v n (X ++ clR ep B K zs (ps.take k))) (hn : n ≤ 100000000) (hd : RI .u8 w e.2 e.1.data.length e.1.data) :
    Calls Tryd.prog 40 #[.int .i64 c.at_, .agg (fA e.1.kind e.1.epoch e.2), .pointer (some ⟨bs, 0, none⟩), .pointer (some ⟨bc, 0, none⟩)] w fun r w' => r = .returned (.tuple #[]) ∧ ∃ v' n',
      GO W0 W w' bc v' n' (X ++ clR ep B K zs (ps.take (k + 1))) ∧ n' ≤ n + 1 ∧ Stay (some bc) v.ownBlock w w' ∧ (v'.ownBlock = v.ownBlock ∨ ∃ g, v'.ownBlock = some g ∧ w.heap.size ≤ g) := by
  obtain ⟨⟨fk, fe, fd⟩, ev⟩ := e
  dsimp only at he hd ⊢
  obtain ⟨fp, fc, rfl⟩ : ∃ p c, ev = .slice p fd.length c := by obtain ⟨a, c, h, _⟩ := hd; exact ⟨a, c, h⟩
  have hfb : isB fd := by
    have : fd = (frOf ep zs c).data := by rw [← he]
    rw [this]; exact (hzb.drop _).take _
  have := gath_any hC.len hC.bytes hC.tab hC.secs hC.ne hC.body hC.n1 hC.oks hC.n2 hG hn q hq8 fk fe fd hfb fp fd.length fc hd
  rw [hq]
  refine this.mono fun r w' ⟨h1, v', n', h2, h3⟩ => ⟨h1, v', n', ?_, h3⟩
  have hcl : (decide ((scF ep B K q).2 ≠ 0) && !decide ((scF ep B K q).1 = ⟨fk, fe, fd⟩)) = clB ep B K zs c := by
    unfold clB; rw [hq, Int.toNat_natCast, ← he]
  rw [hcl] at h2
  cases hb : clB ep B K zs c with
  | true =>
    rw [hb, if_pos rfl] at h2
    rw [clR_yes hc hb, ← List.append_assoc, hq]
    exact h2
  | false =>
    rw [hb, if_neg (by decide)] at h2
    rw [clR_no hc hb]
    exact h2
theorem FL.stay {base : Nat} {w w' : World} {v : Value} {m : Nat} {es : List (FR × Value)} (h : FL base w v m es) {p q : Option Nat} (hs : Stay p q w w') (h1 : ∀ {t : TypeId} {k n : Nat} {u : Value} {xs : List Value}, t ≠ 3 → w.ownsRow base t k u n xs → ∀ g, u.ownBlock = some g → some g ≠ p ∧ some g ≠ q) : FL base w' v m es :=
  ⟨own_stay h.row hs (h1 (by decide) h.row), fun e he => own_stay (h.data e he) hs (h1 (by decide) (h.data e he))⟩
theorem GO.other {w : World} {v : Value} {n : Nat} {xs : List Int} (h : GO W0 W w bc v n xs) {base : Nat} (hb : W.heap.size ≤ base) {t : TypeId} {k m : Nat} {u : Value} {ys : List Value} (ht : t ≠ 3) (ho : w.ownsRow base t k u m ys) : ∀ g, u.ownBlock = some g → some g ≠ some bc ∧ some g ≠ v.ownBlock := fun g hg =>
  ⟨fun e => by have := (ho.lt g hg).1; have := h.lt; have := Option.some.inj e; omega, own_types ho h.own ht g hg⟩
theorem FL.mono {base base' : Nat} {w : World} {v : Value} {m : Nat} {es : List (FR × Value)} (h : FL base w v m es) (hb : base' ≤ base) : FL base' w v m es := ⟨own_mono h.row hb, fun e he => own_mono (h.data e he) hb⟩
theorem FL.at2 {base : Nat} {w : World} {b o m cap : Nat} {es : List (FR × Value)} (h : FL base w (.slice (some ⟨b, o, none⟩) m cap) m es) (i : Nat) (e : FR × Value) (he : es[i]? = some e) : w.rangeAt b (o + i * 3) (eL e) := by
  obtain ⟨b', o', h1, h2⟩ := h.at_ i e he
  simp only [Option.some.injEq, Addr.mk.injEq, and_true] at h1
  obtain ⟨rfl, rfl⟩ := h1
  exact h2
set_option maxRecDepth 8000 in
set_option maxHeartbeats 8000000 in
theorem intended_any (hC : GC W0 W bc bs g1 g2 ep B K) (w : World) (lv : Value) (N : Nat) (ls : List (List Int)) (hN : N ≤ 1000000) (hlb : ∀ l ∈ ls, isB l) (hrl : RL .u8 W0 lv N ls) (hG : GO W0 W w bc (.slice none 0 0) 0 []) :
    Calls Tryd.prog 39 #[.int .u32 ep, lv, handV bs bc] w fun r w' => r = .returned (.bool (fitsF ls)) ∧ ∃ v' n', GO W0 W w' bc v' n' (if fitsF ls = true then clF ep B K ls ls.length else []) := by
  have hll := hrl.length
  have HPL := Lib.hid (places_any lv N ls hN w (hrl.keep hG.below))
  obtain ⟨la, lc, rfl, _⟩ := hrl.form
  have HG0 := Lib.hid hG
  have HRL := Lib.hid hrl
  have HLL := Lib.hid hll
  have HLB := Lib.hid hlb
  have HC := Lib.hid hC
  cases hf : fitsF ls with
  | false =>
    rw [if_neg (by decide)]
    have HP0 : Hid (Calls Tryd.prog 62 #[.slice la N lc] w fun r w' => r = .returned (.tuple #[.slice none 0 0, .bool false]) ∧ Below w.heap.size w w') := Lib.hid (HPL.out.mono fun r w' h => by
      rcases h with ⟨h, _⟩ | ⟨_, h⟩
      · rw [hf] at h; cases h
      · exact h)
    clear HPL hf hN hlb hrl hG hll hC
    go_enter Tryd.func39, Tryd.ntmps39
    go_wp2_with (first
      | (go_at_call 62; (refine HP0.out.mono ?_); rintro r w1 ⟨rfl, hb⟩; have HG1 := Lib.hid (HG0.out.keep hb); clear hb))
    go_loopw [25] (fun iv wr => iv = .int .i64 0 ∧ Hid (wr = w1)) (fun _ _ => 0)
    case atStart => exact ⟨rfl, Lib.hid rfl⟩
    case round =>
      obtain ⟨rfl, HW⟩ := hrel
      go_wp2
      go_ret
      exact ⟨rfl, _, _, by rw [HW.out]; exact HG1.out⟩
  | true =>
    rw [if_pos rfl]
    have hgd := (fitsF_iff ls).1 hf
    have HP0 : Hid (Calls Tryd.prog 62 #[.slice la N lc] w fun r w' => ∃ a c, r = .returned (.tuple #[.slice a N c, .bool true]) ∧ w'.ownsRow w.heap.size 3 1 (.slice a N c) N (il .i64 (placesF ls)) ∧ Below w.heap.size w w') := Lib.hid (HPL.out.mono fun r w' h => by
      rcases h with ⟨_, h⟩ | ⟨h, _⟩
      · exact h
      · rw [hf] at h; cases h)
    have HPG : Hid (∀ i, i < N → (placesF ls).getD i 0 = ((beginN (endF (ls.take i)) : Nat) : Int)) := Lib.hid fun i hi => by
      have hil : i < ls.length := by rw [HLL.out]; exact hi
      simp [placesF, List.getD, hil]
    have HCF : Hid (∀ (i : Nat) (zs : List Int) (n : Nat), i < N → ls.getD i [] = zs → zs.length = n → pcsI ((beginN (endF (ls.take i)) : Nat) : Int) (n : Int) = pcsI ((endF (ls.take i) : Nat) : Int) (n : Int)) := Lib.hid fun i zs n hi h1 h2 => by
      have := (pcs_begin ((endF (ls.take i) : Nat) : Int) (n : Int)).2
      rwa [nr_nat _ (endF_le _)] at this
    have hws := hG.size
    clear HPL hf hlb hrl hG hll hC hgd
    have HWS := Lib.hid hws
    clear hws
    go_enter Tryd.func39, Tryd.ntmps39
    go_wp2_with (first
      | (go_at_call 62; (refine HP0.out.mono ?_); rintro r w1 ⟨pa, pc, rfl, ho, hb⟩; have HG1 := Lib.hid (HG0.out.keep hb); have HO1 := Lib.hid ho; clear hb ho))
    go_loopw [25] (fun iv wr => ∃ (i n : Nat) (v : Value), iv = .int .i64 (i : Int) ∧ i ≤ N ∧ n ≤ 75 * i ∧ Hid (GO W0 W wr bc v n (clF ep B K ls i)) ∧ Hid (wr.ownsRow w.heap.size 3 1 (.slice pa N pc) N (il .i64 (placesF ls))) ∧ Hid (∀ g, (Value.slice pa N pc).ownBlock = some g → some g ≠ v.ownBlock)) (fun iv _ => N - (intOf iv).toNat)
    case atStart => exact ⟨0, 0, _, rfl, by omega, by omega, HG1, HO1, Lib.hid (fun g _ e => by simp [Value.ownBlock] at e)⟩
    case round =>
      obtain ⟨i, n, v, rfl, hi, hn, HG, HO, HA⟩ := hrel
      rename World => wo
      by_cases hlt : (i : Int) < (N : Int)
      · obtain ⟨pb, po, rfl, hcell⟩ := (RI.own HO.out).at_ (by omega)
        have d1 := hcell i (by omega)
        rw [HPG.out i (by omega)] at d1
        obtain ⟨lb, lo, rfl, hat⟩ := (HRL.out.keep HG.out.below).at_ (by omega)
        obtain ⟨x, c, hc, hr⟩ := hat i (by omega)
        obtain ⟨zs, hzs⟩ : ∃ zs, ls.getD i [] = zs := ⟨_, rfl⟩
        rw [hzs] at hc hr
        obtain ⟨q, hq⟩ : ∃ q, zs.length = q := ⟨_, rfl⟩
        rw [hq] at hc hr
        have HZB : Hid (isB zs) := Lib.hid (HLB.out zs (by rw [← hzs]; simp [List.getD, show i < ls.length by rw [HLL.out]; omega]))
        have HCN : Hid (clF ep B K ls (i + 1) = clF ep B K ls i ++ clR ep B K zs (pcsI ((endF (ls.take i) : Nat) : Int) (q : Int))) := Lib.hid (by rw [clF, hzs, hq])
        have HQE := Lib.hid hq
        have hbe := HCF.out i zs q (by omega) hzs hq
        have hb8 : beginN (endF (ls.take i)) ≤ 832 := begin_le _ (endF_le _)
        obtain ⟨bg, hbg⟩ : ∃ bg, beginN (endF (ls.take i)) = bg := ⟨_, rfl⟩
        rw [hbg] at d1 hbe hb8
        have HPF : Hid (∀ (j : Nat) (c : PC), (pcsI ((endF (ls.take i) : Nat) : Int) (q : Int))[j]? = some c → ∃ p : Nat, c.at_ = (p : Int) ∧ p + 11 ≤ 832) := Lib.hid fun j c h => by
          obtain ⟨_, p, l, k, _, hf⟩ := pc_fit h
          exact ⟨p, hf.at_, by have := hf.room; omega⟩
        obtain ⟨C1, hC1⟩ : ∃ C1, clF ep B K ls (i + 1) = C1 := ⟨_, rfl⟩
        rw [hC1] at HCN
        have HCE := Lib.hid hC1
        have h75 := pcs_len ((endF (ls.take i) : Nat) : Int) (q : Int)
        clear hC1
        generalize pcsI ((endF (ls.take i) : Nat) : Int) (q : Int) = ps at *
        have HCT : Hid (∀ w, Calls Tryd.prog 63 #[.int .i64 (bg : Int), .int .i64 (q : Int)] w fun r w' => ∃ v e f, r = .returned (.tuple #[v, .int .i64 e, .bool f]) ∧ w'.ownsRow w.heap.size 67 4 v ps.length (pF ps) ∧ Below w.heap.size w w') := Lib.hid fun w => (cut_any (bg : Int) (q : Int) (by unfold I63; omega) w).mono fun r w' ⟨v, h1, h2, h3⟩ => by
          rw [hbe] at h2
          exact ⟨v, _, _, h1, h2, h3⟩
        have HFR : Hid (∀ w, RI .u8 w (.slice x q c) q zs → Calls Tryd.prog 64 #[.int .u32 ep, .int .i64 (bg : Int), .slice x q c] w fun r w' => ∃ v f es, r = .returned (.tuple #[v, .bool f]) ∧ FL w.heap.size w' v ps.length es ∧ es.map Prod.fst = ps.map (frOf ep zs) ∧ Below w.heap.size w w') := Lib.hid fun w h => (frags_any ep (bg : Int) _ q zs (by unfold I63; omega) w h).mono fun r w' ⟨v, es, h1, h2, h3, h4⟩ => by
          unfold fragsI at h3
          rw [hq, hbe] at h3
          have hl : es.length = ps.length := by have := congrArg List.length h3; simpa using this
          rw [hl] at h2
          exact ⟨v, _, es, h1, h2, h3, h4⟩
        obtain ⟨m, hm⟩ : ∃ m, ps.length = m := ⟨_, rfl⟩
        rw [hm] at HCT HFR h75
        have HM := Lib.hid hm
        have HR := Lib.hid hr
        clear hcell hat hzs hq hbe hr hm hbg hb8 HPG HCF HG0 HP0 HG1 HO1
        go_wp2_with (first
          | (go_at_call 63; (refine (HCT.out _).mono ?_); rintro r w2 ⟨v2, e2, f2, rfl, ho, hb⟩; obtain ⟨a2, c2, rfl⟩ := own_form ho; have HG2 := Lib.hid (HG.out.keep hb); have HO2 := Lib.hid (own_keep HO.out hb); have HP2 := Lib.hid (own_mono ho HG.out.size); have HR2 := Lib.hid (HR.out.keep hb); have hc2 := cell_keep hb hc; clear hb ho)
          | (go_at_call 64; (refine (HFR.out _ HR2.out).mono ?_); rintro r w3 ⟨v3, f3, es, rfl, hf, hm, hb⟩; obtain ⟨a3, c3, rfl⟩ := own_form hf.row; have HG3 := Lib.hid (HG2.out.keep hb); have HO3 := Lib.hid (own_keep HO2.out hb); have HP3 := Lib.hid (own_keep HP2.out hb); have HF3 := Lib.hid (FL.mono hf HG2.out.size); have HE3 := Lib.hid hm; clear hb hf hm))
        go_loopw [53] (fun kv wr => ∃ (k n' : Nat) (v' : Value), kv = .int .i64 (k : Int) ∧ k ≤ m ∧ n' ≤ n + k ∧ Hid (GO W0 W wr bc v' n' (clF ep B K ls i ++ clR ep B K zs (ps.take k))) ∧ Hid (wr.ownsRow w.heap.size 3 1 (.slice (some ⟨pb, po, none⟩) N pc) N (il .i64 (placesF ls))) ∧ Hid (∀ g, (Value.slice (some ⟨pb, po, none⟩) N pc).ownBlock = some g → some g ≠ v'.ownBlock) ∧ Hid (wr.ownsRow W.heap.size 67 4 (.slice a2 m c2) m (pF ps)) ∧ Hid (FL W.heap.size wr (.slice a3 m c3) m es)) (fun kv _ => m - (intOf kv).toNat)
        case atStart => exact ⟨0, n, v, rfl, by omega, by omega, by rw [List.take_zero, clR_nil, List.append_nil]; exact HG3, HO3, HA, HP3, HF3⟩
        case round =>
          obtain ⟨k, n', v', rfl, hk, hn', HGi, HOi, HAi, HPi, HFi⟩ := hrel
          rename World => wi
          by_cases hkm : (k : Int) < (m : Int)
          · have hci : ps[k]? = some (ps[k]'(by have := HM.out; omega)) := List.getElem?_eq_getElem _
            obtain ⟨pcc, hpc⟩ : ∃ c, ps[k]'(by have := HM.out; omega) = c := ⟨_, rfl⟩
            rw [hpc] at hci
            have hel : es.length = m := HFi.out.len
            have hei : es[k]? = some (es[k]'(by omega)) := List.getElem?_eq_getElem _
            obtain ⟨e, hee⟩ : ∃ e, es[k]'(by omega) = e := ⟨_, rfl⟩
            rw [hee] at hei
            have hefr : e.1 = frOf ep zs pcc := by
              have h1 : (es.map Prod.fst)[k]? = some e.1 := by rw [List.getElem?_map, hei]; rfl
              rw [HE3.out, List.getElem?_map, hci] at h1
              exact (Option.some.inj h1).symm
            obtain ⟨p, hp1, hp2⟩ := HPF.out k pcc hci
            have HPS : Hid (PS wi (.slice a2 m c2) ps) := Lib.hid (PS.own (by rw [HM.out]; exact HPi.out))
            obtain ⟨b1, o1, rfl, r1⟩ := HPS.out.at_ k pcc hci
            obtain ⟨b3, o3, rfl, r3⟩ := HFi.out.at_ k e hei
            have HR1 := Lib.hid r1
            have HCI := Lib.hid hci
            have HEI := Lib.hid hei
            have HPE := Lib.hid (And.intro hp1 hp2)
            have HEF := Lib.hid hefr
            clear hci hpc hel hei hee hefr hp1 hp2 r1 r3 HPS
            obtain ⟨ca, kd, cf, ct⟩ := pcc
            go_wp2_with (first
              | (refine wpl_load_pc rfl (.tmp 56) rfl rfl HR1.out ?_)
              | (refine wpList_store_row rfl 67 _ _ rfl wi.heap.size (pA ⟨ca, kd, cf, ct⟩) rfl rfl _ _ (heap_alloc_last wi _) (pA_info _) rfl (pA_one _) ?_))
            obtain ⟨w5, hw5⟩ : ∃ q, (wi.alloc (.cells (pA ⟨0, 0, 0, 0⟩) 67)).setRow wi.heap.size (pA ⟨ca, kd, cf, ct⟩) = q := ⟨_, rfl⟩
            rw [hw5]
            obtain ⟨g, hg⟩ : ∃ g, wi.heap.size = g := ⟨_, rfl⟩
            rw [hg]
            have hb5 : Below wi.heap.size wi w5.drew := by rw [← hw5]; exact (bnew wi _ _).drew
            have HK5 : Hid (w5.drew.heap[g]? = some (.cells (pA ⟨ca, kd, cf, ct⟩) 67 (0, 0))) := Lib.hid (by rw [← hw5, ← hg]; exact setRow_heap _ _ _ _ _ _ (heap_alloc_last wi _))
            have HG5 := Lib.hid (HGi.out.keep hb5)
            have HO5 := Lib.hid (own_keep HOi.out hb5)
            have HP5 := Lib.hid (own_keep HPi.out hb5)
            have HF5 := Lib.hid (HFi.out.keep hb5)
            have HGS := Lib.hid (gath_step HC.out HZB.out HCI.out p HPE.out.1 HPE.out.2 e HEF.out HG5.out (by omega) (RI.own (HF5.out.data e (List.mem_of_getElem? HEI.out))))
            have HGE : Hid (some g ≠ some bc ∧ some g ≠ v'.ownBlock) := Lib.hid ⟨fun x => by have h1 := HGi.out.lt; have h2 := HGi.out.size; have := Option.some.inj x; omega, fun x => by have := (HGi.out.own.lt g x.symm).2; omega⟩
            clear hb5 hw5 hg HR1
            refine wp_region_held_drew (S := (fun w' => w'.cell? ⟨g, 0, none⟩ = some (.int .i64 ca) ∧ w'.rangeAt b3 (o3 + k * 3) (eL e))) (by kernel_rfl) ⟨cell_of_row _ g 0 _ _ _ HK5.out, HF5.out.at2 k e HEI.out⟩ (fun hS => ?_)
            refine wpAnyH_take (i := 0) (oi := ({ dst := some 58, op := Op.move (Operand.tmp 2), type := 102, pos := "tear.go:57", after := #[], guard := none } : Oper)) (v := ?_) rfl (by kernel_rfl) (by kernel_rfl) (by kernel_rfl) (fun _ _ _ h => h) (Or.inl ⟨by rfl, ?_⟩) hS ?_
            rotate_left
            · (intro w hSw; (try dsimp only at hSw); go_simp; try with_reducible rfl)
            (try simp only [Act.put, List.setIfInBounds_toArray, List.set_cons_zero, List.set_cons_succ])
            refine wpAnyH_take (i := 1) (oi := ({ dst := some 59, op := Op.fieldAddr 67 (Operand.tmp 17) 0, type := 0, pos := "tear.go:57", after := #[], guard := none } : Oper)) (v := ?_) rfl (by kernel_rfl) (by kernel_rfl) (by kernel_rfl) (fun _ _ _ h => h) (Or.inl ⟨by rfl, ?_⟩) hS ?_
            rotate_left
            · (intro w hSw; (try dsimp only at hSw); go_simp; try with_reducible rfl)
            (try simp only [Act.put, List.setIfInBounds_toArray, List.set_cons_zero, List.set_cons_succ])
            refine wpAnyH_take (i := 2) (oi := ({ dst := some 60, op := Op.load 3 (Operand.tmp 59), type := 3, pos := "tear.go:57", after := #[{ on := 1, ground := Ground.data }], guard := none } : Oper)) (v := ?_) rfl (by kernel_rfl) (by kernel_rfl) (by kernel_rfl) (fun _ _ _ h => h) (Or.inl ⟨by rfl, ?_⟩) hS ?_
            rotate_left
            · (intro w hSw; (try dsimp only at hSw); go_simp; try with_reducible rfl)
            (try simp only [Act.put, List.setIfInBounds_toArray, List.set_cons_zero, List.set_cons_succ])
            refine wpAnyH_take (i := 3) (oi := ({ dst := some 61, op := Op.move (Operand.tmp 14), type := 123, pos := "tear.go:57", after := #[], guard := none } : Oper)) (v := ?_) rfl (by kernel_rfl) (by kernel_rfl) (by kernel_rfl) (fun _ _ _ h => h) (Or.inl ⟨by rfl, ?_⟩) hS ?_
            rotate_left
            · (intro w hSw; (try dsimp only at hSw); go_simp; try with_reducible rfl)
            (try simp only [Act.put, List.setIfInBounds_toArray, List.set_cons_zero, List.set_cons_succ])
            refine wpAnyH_take (i := 4) (oi := ({ dst := some 62, op := Op.move (Operand.tmp 16), type := 3, pos := "tear.go:57", after := #[], guard := none } : Oper)) (v := ?_) rfl (by kernel_rfl) (by kernel_rfl) (by kernel_rfl) (fun _ _ _ h => h) (Or.inl ⟨by rfl, ?_⟩) hS ?_
            rotate_left
            · (intro w hSw; (try dsimp only at hSw); go_simp; try with_reducible rfl)
            (try simp only [Act.put, List.setIfInBounds_toArray, List.set_cons_zero, List.set_cons_succ])
            refine wpAnyH_take (i := 5) (oi := ({ dst := some 63, op := Op.indexAddr 123 (Operand.tmp 61) (Operand.tmp 62), type := 0, pos := "tear.go:57", after := #[{ on := 3, ground := Ground.data }, { on := 4, ground := Ground.data }], guard := none } : Oper)) (v := ?_) rfl (by kernel_rfl) (by kernel_rfl) (by kernel_rfl) (fun _ _ _ h => h) (Or.inl ⟨by rfl, ?_⟩) hS ?_
            rotate_left
            · (intro w hSw; (try dsimp only at hSw); go_simp; try with_reducible rfl)
            (try simp only [Act.put, List.setIfInBounds_toArray, List.set_cons_zero, List.set_cons_succ])
            refine wpAnyH_take (i := 6) (oi := ({ dst := some 64, op := Op.load 70 (Operand.tmp 63), type := 70, pos := "tear.go:57", after := #[{ on := 5, ground := Ground.data }], guard := none } : Oper)) (v := ?_) rfl (by kernel_rfl) (by kernel_rfl) (by kernel_rfl) (fun _ _ _ h => h) (Or.inl ⟨by rfl, ?_⟩) hS ?_
            rotate_left
            · (intro w hSw; (try dsimp only at hSw); refine exec_load_el (.tmp 63) ?_ ?_ hSw.2 <;> rfl)
            (try simp only [Act.put, List.setIfInBounds_toArray, List.set_cons_zero, List.set_cons_succ])
            refine rg_one 7 ({ dst := some 65, op := Op.call { callee := Callee.value (Operand.tmp 58), args := #[Operand.tmp 60, Operand.tmp 64], argTypes := #[3, 70] }, type := 0, pos := "tear.go:57", after := #[{ on := 0, ground := Ground.data }, { on := 2, ground := Ground.data }, { on := 6, ground := Ground.data }], guard := none } : Oper) (by kernel_rfl) rfl (fun K hK => ?_)
            go_simp
            (go_at_call 40; (refine (HGS.out).mono ?_); rintro r w8 ⟨rfl, v8, n8, hg8, hn8, hst8, hv8⟩; have HG8 := Lib.hid hg8; have HO8 := Lib.hid (own_stay HO5.out hst8 (fun q hq => ⟨fun x => by have h1 := HG5.out.lt; have h2 := (HO5.out.lt q hq).1; have h3 := HWS.out; have := Option.some.inj x; omega, HAi.out q hq⟩)); have HP8 := Lib.hid (own_stay HP5.out hst8 (HG5.out.other (Nat.le_refl _) (by decide) HP5.out)); have HF8 := Lib.hid (HF5.out.stay hst8 (fun ht ho => HG5.out.other (Nat.le_refl _) ht ho)); have HA8 : Hid (∀ q, (Value.slice (some ⟨pb, po, none⟩) N pc).ownBlock = some q → some q ≠ v8.ownBlock) := Lib.hid (fun q hq => hv8.elim (fun x => (by rw [x]; exact HAi.out q hq)) (fun ⟨y, x, hy⟩ => (by rw [x]; intro z; have h1 := (HO5.out.lt q hq).2; have := Option.some.inj z; omega))); have hN := (show w8.cell? ⟨g, 0, none⟩ = some (.int .i64 ca) ∧ w8.rangeAt b3 (o3 + k * 3) (eL e) from ⟨cell_of_row _ g 0 _ _ _ ((hst8.block g (Array.getElem?_eq_some_iff.1 HK5.out).1 HGE.out.1 HGE.out.2).trans HK5.out), HF8.out.at2 k e HEI.out⟩); have HN8 := Lib.hid hn8; clear hg8 hst8 hv8 hn8)
            refine hK.out _ _ ?_ (fun hS1 => ?_)
            · (first | exact hN | exact hS)
            clear hK K hS; have hS := hS1; clear hS1
            (try simp only [Act.put, List.setIfInBounds_toArray, List.set_cons_zero, List.set_cons_succ])
            refine wpAnyH_done (by kernel_rfl) ?_ _
            clear hS hN
            go_wp2
            go_roundw
            case rel => exact ⟨k + 1, n8, v8, by go_num, by omega, by have := HN8.out; omega, HG8, HO8, HA8, HP8, HF8⟩
            case measure => simp [intOf]; omega
          · obtain rfl : k = m := by omega
            have HCL : Hid (clF ep B K ls i ++ clR ep B K zs (ps.take k) = C1) := Lib.hid (by rw [HCN.out, List.take_of_length_le (by rw [HM.out]; omega)])
            rw [HCL.out] at HGi
            have hm75 : n' ≤ 75 * (i + 1) := by omega
            rw [← HCE.out] at HGi
            go_wp2
            go_roundw
            case rel => exact ⟨i + 1, n', v', by go_num, by omega, hm75, HGi, HOi, HAi⟩
            case measure => simp [intOf]; omega
      · obtain rfl : i = N := by omega
        go_wp2
        go_ret
        exact ⟨rfl, v, n, by rw [HLL.out]; exact HG.out⟩
end
end Go.Proofs.YtepaghohojomeaaDoor
/-
  LAYER 20 (tear), the program's own: flat, gather, Free, Clashes. The table of half a byte's steps must lie in its block as start-up lays it. At most a million records.
-/
namespace Go.Proofs.YtepaghohojomeaaDoor
open Go.RowKit
theorem fl_info' (c : Array Value) (h : c.size = 3) : (Tryd.prog.info? 97).map (·.size) = some c.size := by rw [h]; exact fl_info
theorem fl_one (ep : Int) (a b : Option Addr) (n m k l : Nat) : (flA ep (.slice a n m) (.slice b k l)).all (·.oneCell') = true := by simp [flA, Value.oneCell']
theorem tear_mf_run (fn : Fn) (first cap : Array Value) (w : World) : (Instr.makeFunc fn first cap).run Tryd.prog w = .ok (.func fn first cap) w := rfl
theorem RI.blk {k : IntKind} {w w' : World} {g o m c : Nat} {zs : List Int} (hr : RI k w (.slice (some ⟨g, o, none⟩) m c) m zs) (hb : w'.heap[g]? = w.heap[g]?) : RI k w' (.slice (some ⟨g, o, none⟩) m c) m zs := by
  obtain ⟨a, cap, e, h1, h2, h3, h4, hc⟩ := hr
  refine ⟨a, cap, e, h1, h2, h3, h4, fun h0 => ?_⟩
  obtain ⟨b', off, e2, hcell⟩ := hc h0
  refine ⟨b', off, e2, fun j hj => ?_⟩
  have := hcell j hj
  rw [e2] at e
  simp only [Value.slice.injEq, Option.some.injEq, Addr.mk.injEq] at e
  obtain ⟨⟨rfl, _⟩, _⟩ := e
  unfold World.cell? at this ⊢
  rw [hb]; exact this
theorem BS.blk {w w' : World} {g o m c : Nat} {zs : List Bool} (hr : BS w (.slice (some ⟨g, o, none⟩) m c) m zs) (hb : w'.heap[g]? = w.heap[g]?) : BS w' (.slice (some ⟨g, o, none⟩) m c) m zs := by
  obtain ⟨a, cap, e, h1, h2, h3, h4, hc⟩ := hr
  refine ⟨a, cap, e, h1, h2, h3, h4, fun h0 => ?_⟩
  obtain ⟨b', off, e2, hcell⟩ := hc h0
  refine ⟨b', off, e2, fun j hj => ?_⟩
  have := hcell j hj
  rw [e2] at e
  simp only [Value.slice.injEq, Option.some.injEq, Addr.mk.injEq] at e
  obtain ⟨⟨rfl, _⟩, _⟩ := e
  unfold World.cell? at this ⊢
  rw [hb]; exact this
theorem RI.ne_blk {k : IntKind} {w : World} {g m c b : Nat} {zs : List Int} (hr : RI k w (.slice (some ⟨g, 0, none⟩) m c) m zs) (h0 : 0 < m) {u : Value} (hu : w.cell? ⟨b, 0, none⟩ = some u) (hk : ∀ z, u ≠ .int k z) : g ≠ b := by
  obtain ⟨a, cap, e, _, _, _, _, hc⟩ := hr
  obtain ⟨b', off, e2, hcell⟩ := hc h0
  rw [e2] at e
  simp only [Value.slice.injEq, Option.some.injEq, Addr.mk.injEq] at e
  obtain ⟨⟨rfl, rfl, _⟩, _⟩ := e
  rintro rfl
  have := hcell 0 h0
  rw [Nat.add_zero, hu] at this
  exact hk _ (Option.some.inj this)
theorem BS.ne_blk {w : World} {g m c b : Nat} {zs : List Bool} (hr : BS w (.slice (some ⟨g, 0, none⟩) m c) m zs) (h0 : 0 < m) {u : Value} (hu : w.cell? ⟨b, 0, none⟩ = some u) (hk : ∀ z, u ≠ .bool z) : g ≠ b := by
  obtain ⟨b', off, e2, hcell⟩ := hr.at_ 0 h0
  simp only [Option.some.injEq, Addr.mk.injEq] at e2
  obtain ⟨rfl, rfl, _⟩ := e2
  rintro rfl
  rw [Nat.add_zero, hu] at hcell
  exact hk _ (Option.some.inj hcell)
set_option maxRecDepth 8000 in
set_option maxHeartbeats 4000000 in
theorem tflat_any (x : Int) (hx : U64 x) (v : Value) (n : Nat) (fs : List Int) (hbf : Bytes fs) (w : World) (h : FS w v n fs) :
    Calls Tryd.prog 38 #[.int .u64 x, v] w fun e w' => ∃ g1 g2, e = .returned (.agg (flA (x % 4294967296) (.slice (some ⟨g1, 0, none⟩) 832 832) (.slice (some ⟨g2, 0, none⟩) 16 16))) ∧
      RI .u8 w' (.slice (some ⟨g1, 0, none⟩) 832 832) 832 (flatB x n fs 16) ∧ BS w' (.slice (some ⟨g2, 0, none⟩) 16 16) 16 (flatK x n fs 16) ∧ Below w.heap.size w w' := by
  obtain ⟨wa, hwa⟩ : ∃ q, w.alloc (.cells (flA 0 (.slice none 0 0) (.slice none 0 0)) 97) = q := ⟨_, rfl⟩
  have hba : Below w.heap.size w wa := by rw [← hwa]; exact balloc w _
  have HBA := Lib.hid hba
  have HRA : Hid (wa.heap[w.heap.size]? = some (.cells (flA 0 (.slice none 0 0) (.slice none 0 0)) 97 (0, 0))) := Lib.hid (by rw [← hwa]; exact heap_alloc_last w _)
  have HPF := Lib.hid (flat_any x hx v n fs hbf wa (h.keep hba))
  have HWA : Hid (w.heap.size < wa.heap.size) := Lib.hid (by rw [← hwa, alloc_size]; omega)
  have hw32 : IntKind.u32.wrap x = x % 4294967296 := wrap_u32' x
  generalize flatB x n fs 16 = B at *
  generalize flatK x n fs 16 = K at *
  obtain ⟨ep, hep⟩ : ∃ e, x % 4294967296 = e := ⟨_, rfl⟩
  rw [hep] at hw32 ⊢
  obtain ⟨va, vc, rfl⟩ : ∃ a c, v = .slice a n c := by obtain ⟨a, c, q, _⟩ := h; exact ⟨a, c, q⟩
  clear hx hbf h hba hep
  go_enter Tryd.func38, Tryd.ntmps38
  go_wp2_with (first
    | (rw [hwa])
    | (go_at_call 45; (refine HPF.out.mono ?_); rintro r w1 ⟨g1, g2, rfl, hb1, hk1, hb⟩; have HR1 := Lib.hid hb1; have HK1 := Lib.hid hk1; have HB1 := Lib.hid (bch HBA.out hb); have HC1 := Lib.hid ((hb.block _ HWA.out).trans HRA.out); clear hb1 hk1 hb)
    | (refine wpList_store_row rfl 97 _ _ rfl w.heap.size (flA ep (.slice (some ⟨g1, 0, none⟩) 832 832) (.slice (some ⟨g2, 0, none⟩) 16 16)) rfl rfl _ _ HC1.out (fl_info' _ rfl) rfl (fl_one _ _ _ _ _ _ _) ?_))
  refine bodyPost_ret_by (v := .agg (flA ep (.slice (some ⟨g1, 0, none⟩) 832 832) (.slice (some ⟨g2, 0, none⟩) 16 16))) (results_cell_row rfl _ _ w.heap.size _ (flA ep (.slice (some ⟨g1, 0, none⟩) 832 832) (.slice (some ⟨g2, 0, none⟩) 16 16)) (0, 0) _ rfl (setRow_heap _ _ _ _ _ _ HC1.out) Tryd.underlying97 rfl (fl_info' _ rfl)) rfl ?_
  have hc0 := cell_of_row w1 w.heap.size 0 _ _ _ HC1.out
  have hn1 := RI.ne_blk HR1.out (by decide) hc0 (fun z e => by simp [flA] at e)
  have hn2 := BS.ne_blk HK1.out (by decide) hc0 (fun z e => by simp [flA] at e)
  exact ⟨g1, g2, rfl, HR1.out.blk (setRow_other w1 w.heap.size g1 _ hn1), HK1.out.blk (setRow_other w1 w.heap.size g2 _ hn2), brow HB1.out (Nat.le_refl _) (Nat.le_refl _) _⟩
set_option maxRecDepth 8000 in
set_option maxHeartbeats 4000000 in
theorem tgather_any (x : Int) (hx : U64 x) (lv : Value) (N : Nat) (ls : List (List Int)) (hN : N ≤ 1000000) (hlb : ∀ l ∈ ls, isB l) (v : Value) (n : Nat) (fs : List Int) (hbf : isB fs) (w : World) (hT : Tab w) (hrl : RL .u8 w lv N ls) (h : FS w v n fs) :
    Calls Tryd.prog 23 #[.int .u64 x, lv, v] w fun r w' => ∃ vv nn, r = .returned (.tuple #[vv, .bool (fitsF ls)]) ∧ w'.ownsRow w.heap.size 3 1 vv nn (il .i64 (tclF x n fs ls)) ∧ Below w.heap.size w w' := by
  have hB : (flatB x n fs 16).length = 832 := flatB_length x n fs h.length 16
  have hBb : isB (flatB x n fs 16) := flatB_isB x n hbf 16
  obtain ⟨wa, hwa⟩ : ∃ q, w.alloc (.cells #[.slice none 0 0] 32) = q := ⟨_, rfl⟩
  have hba : Below w.heap.size w wa := by rw [← hwa]; exact balloc w _
  have HBA := Lib.hid hba
  have HRA : Hid (wa.heap[w.heap.size]? = some (.cells #[.slice none 0 0] 32 (0, 0))) := Lib.hid (by rw [← hwa]; exact heap_alloc_last w _)
  have HWA : Hid (wa.heap.size = w.heap.size + 1) := Lib.hid (by rw [← hwa, alloc_size])
  have HFL := Lib.hid (tflat_any x hx v n fs (bytes_of_mem hbf) wa (h.keep hba))
  have hw32 : IntKind.u32.wrap x = x % 4294967296 := wrap_u32' x
  have HIN : Hid (∀ (W : World) (bs g1 g2 : Nat), GC w W w.heap.size bs g1 g2 (x % 4294967296) (flatB x n fs 16) (flatK x n fs 16) → GO w W W w.heap.size (.slice none 0 0) 0 [] → Calls Tryd.prog 39 #[.int .u32 (x % 4294967296), lv, handV bs w.heap.size] W fun r w' => r = .returned (.bool (fitsF ls)) ∧ ∃ v' n', GO w W w' w.heap.size v' n' (tclF x n fs ls)) := Lib.hid fun W bs g1 g2 hc hg => intended_any hc W lv N ls hN hlb hrl hg
  have HT := Lib.hid hT
  have HBB := Lib.hid (And.intro hB hBb)
  generalize tclF x n fs ls = R at *
  generalize flatB x n fs 16 = B at *
  generalize flatK x n fs 16 = K at *
  obtain ⟨ep, hep⟩ : ∃ e, x % 4294967296 = e := ⟨_, rfl⟩
  rw [hep] at hw32 HIN HFL
  obtain ⟨va, vc, rfl⟩ : ∃ a c, v = .slice a n c := by obtain ⟨a, c, q, _⟩ := h; exact ⟨a, c, q⟩
  obtain ⟨la, lc, rfl, _⟩ := hrl.form
  generalize fitsF ls = ft at *
  have hmf := tear_mf_run
  clear hx hbf h hba hep hN hlb hT hrl hB hBb
  go_enter Tryd.func23, Tryd.ntmps23
  go_wp2_with (first
    | (rw [hwa])
    | (go_at_call 38; (refine HFL.out.mono ?_); rintro r w1 ⟨g1, g2, rfl, hb1, hk1, hb⟩; have HR1 := Lib.hid hb1; have HK1 := Lib.hid hk1; have HB1 := Lib.hid (bch HBA.out hb); have HC1 := Lib.hid ((hb.block _ (by rw [HWA.out]; omega)).trans HRA.out); have HZ1 := Lib.hid (Nat.le_trans (Nat.le_of_eq HWA.out.symm) hb.size); clear hb1 hk1 hb)
    | (refine wpList_store_row rfl 97 _ _ rfl w1.heap.size (flA ep (.slice (some ⟨g1, 0, none⟩) 832 832) (.slice (some ⟨g2, 0, none⟩) 16 16)) rfl rfl _ _ (heap_alloc_last w1 _) (fl_info' _ rfl) rfl (fl_one _ _ _ _ _ _ _) ?_; 
       obtain ⟨w2, hw2⟩ : ∃ q, (w1.alloc (.cells (flA 0 (.slice none 0 0) (.slice none 0 0)) 97)).setRow w1.heap.size (flA ep (.slice (some ⟨g1, 0, none⟩) 832 832) (.slice (some ⟨g2, 0, none⟩) 16 16)) = q := ⟨_, rfl⟩; rw [hw2]; 
       have hb2 : Below w1.heap.size w1 w2 := by rw [← hw2]; exact bnew w1 _ _
       have HB2 := Lib.hid (bch HB1.out hb2); have HR2 := Lib.hid (HR1.out.keep hb2); have HK2 := Lib.hid (HK1.out.kin (Kin.below hb2)); have HC2 := Lib.hid ((hb2.block _ (Array.getElem?_eq_some_iff.1 HC1.out).1).trans HC1.out); have HS2 : Hid (w2.heap[w1.heap.size]? = some (.cells (flA ep (.slice (some ⟨g1, 0, none⟩) 832 832) (.slice (some ⟨g2, 0, none⟩) 16 16)) 97 (0, 0))) := Lib.hid (by rw [← hw2]; exact setRow_heap _ _ _ _ _ _ (heap_alloc_last w1 _))
       have HZ2 := Lib.hid (Nat.le_trans HZ1.out hb2.size); have hc0 := cell_of_row w2 w.heap.size 0 _ _ _ HC2.out
       have HIN2 := Lib.hid (HIN.out w2 w1.heap.size g1 g2 ⟨HBB.out.1, HBB.out.2, HT.out, HS2.out, (by have := HZ1.out; omega), HR2.out, RI.ne_blk HR2.out (by decide) hc0 (fun z e => by simp at e), HK2.out, BS.ne_blk HK2.out (by decide) hc0 (fun z e => by simp at e)⟩ ⟨Nat.le_refl _, HZ2.out, HB2.out, Nat.le_refl _, fun _ _ _ => rfl, HC2.out, World.ownsRow_nil _ _ _ _⟩); clear hb2 hc0)
    | (go_at_call 39; (refine HIN2.out.mono ?_); rintro r w3 ⟨rfl, v3, n3, hg⟩; have HG3 := Lib.hid hg; have c3 := hg.cell1; clear hg))
  go_ret2
  exact ⟨v3, n3, rfl, own_mono HG3.out.own (by have := HZ2.out; omega), HG3.out.below⟩
/-- what Clashes answers -/
theorem tclashes_any (x : Int) (hx : U64 x) (lv : Value) (N : Nat) (ls : List (List Int)) (hN : N ≤ 1000000) (hlb : ∀ l ∈ ls, isB l) (v : Value) (n : Nat) (fs : List Int) (hbf : isB fs) (w : World) (hT : Tab w) (hrl : RL .u8 w lv N ls) (h : FS w v n fs) :
    Calls Tryd.prog 9 #[.int .u64 x, lv, v] w fun r w' => ∃ a nn c, r = .returned (.slice a nn c) ∧ RI .i64 w' (.slice a nn c) nn (tclF x n fs ls) ∧ Below w.heap.size w w' := by
  have HG := Lib.hid (tgather_any x hx lv N ls hN hlb v n fs hbf w hT hrl h)
  obtain ⟨va, vc, rfl⟩ : ∃ a c, v = .slice a n c := by obtain ⟨a, c, q, _⟩ := h; exact ⟨a, c, q⟩
  obtain ⟨la, lc, rfl, _⟩ := hrl.form
  generalize tclF x n fs ls = R at *
  clear hx hbf h hN hlb hT hrl
  go_enter Tryd.func9, Tryd.ntmps9
  go_wp2_with (first
    | (go_at_call 23; (refine HG.out.mono ?_); rintro r w1 ⟨v1, n1, rfl, ho, hb⟩; obtain ⟨a1, c1, rfl⟩ : ∃ a c, v1 = .slice a n1 c := (by obtain ⟨a, c, q, _⟩ := RI.own ho; exact ⟨a, c, q⟩); have HO := Lib.hid (RI.own ho); have HB := Lib.hid hb; clear ho hb))
  go_ret
  exact ⟨a1, n1, c1, rfl, HO.out, HB.out⟩
/-- .. and Free -/
theorem tfree_any (x : Int) (hx : U64 x) (lv : Value) (N : Nat) (ls : List (List Int)) (hN : N ≤ 1000000) (hlb : ∀ l ∈ ls, isB l) (v : Value) (n : Nat) (fs : List Int) (hbf : isB fs) (w : World) (hT : Tab w) (hrl : RL .u8 w lv N ls) (h : FS w v n fs) :
    Calls Tryd.prog 10 #[.int .u64 x, lv, v] w fun r w' => r = .returned (.bool (fitsF ls && decide ((tclF x n fs ls).length = 0))) ∧ Below w.heap.size w w' := by
  have HG := Lib.hid (tgather_any x hx lv N ls hN hlb v n fs hbf w hT hrl h)
  obtain ⟨va, vc, rfl⟩ : ∃ a c, v = .slice a n c := by obtain ⟨a, c, q, _⟩ := h; exact ⟨a, c, q⟩
  obtain ⟨la, lc, rfl, _⟩ := hrl.form
  generalize tclF x n fs ls = R at *
  generalize fitsF ls = ft at *
  clear hx hbf h hN hlb hT hrl
  cases ft with
  | false =>
    go_enter Tryd.func10, Tryd.ntmps10
    go_wp2_with (first
      | (go_at_call 23; (refine HG.out.mono ?_); rintro r w1 ⟨v1, n1, rfl, ho, hb⟩; obtain ⟨a1, c1, rfl⟩ : ∃ a c, v1 = .slice a n1 c := (by obtain ⟨a, c, q, _⟩ := RI.own ho; exact ⟨a, c, q⟩); have HB := Lib.hid hb; clear ho hb))
    go_ret
    exact ⟨rfl, HB.out⟩
  | true =>
    go_enter Tryd.func10, Tryd.ntmps10
    go_wp2_with (first
      | (go_at_call 23; (refine HG.out.mono ?_); rintro r w1 ⟨v1, n1, rfl, ho, hb⟩; obtain ⟨a1, c1, rfl⟩ : ∃ a c, v1 = .slice a n1 c := (by obtain ⟨a, c, q, _⟩ := RI.own ho; exact ⟨a, c, q⟩); have HO := Lib.hid (RI.own ho); have HB := Lib.hid hb; clear ho hb))
    go_ret
    refine ⟨?_, HB.out⟩
    rw [HO.out.length]
    exact ret_bool (by rw [Bool.eq_iff_iff]; simp)
end Go.Proofs.YtepaghohojomeaaDoor
/-
  awake OF LAYER 20: it answers true and changes nothing that was there. The table of half a byte's steps must lie in its block as start-up lays it.
-/
namespace Go.Proofs.YtepaghohojomeaaDoor
open Go.RowKit
theorem one_fits (z : Int) : fitsF [[z]] = true := by
  have f0 : fitI ((0 : Nat) : Int) (1 : Nat) = true := by decide
  have h := fitsF_snoc [] [z]
  rw [List.nil_append] at h
  rw [h]
  have : fitsF [] = true := rfl
  rw [this, endF_nil]
  exact f0
theorem one_isB {z : Int} (h : 0 ≤ z ∧ z ≤ 255) : ∀ l ∈ [[z]], isB l := by
  intro l hl x hx
  simp only [List.mem_cons, List.not_mem_nil, or_false] at hl
  subst hl
  simp only [List.mem_cons, List.not_mem_nil, or_false] at hx
  subst hx; exact h
section
variable {x : Int} (hx : U64 x) (h0 : x ≠ 0) {ls : List (List Int)} (hg : GoodF ls ls.length)
include hx h0 hg
/-- what was laid is told -/
theorem whole_in {k m : Nat} (hk : k < ls.length) (h : Laid (endF (ls.take k)) (ls.getD k []) m) {i : Nat} (hi : i < m) :
    scF (x % 4294967296) (flatB x 16 (wholeK x (bodyF (x % 4294967296) ls) (touchN 0 (endF ls)).2 16) 16) (flatK x 16 (wholeK x (bodyF (x % 4294967296) ls) (touchN 0 (endF ls)).2 16) 16) (bS (endF (ls.take k)) (ls.getD k []).length i) = (frI (x % 4294967296) (endF (ls.take k)) (ls.getD k []) i, szI (endF (ls.take k)) (ls.getD k []) i) := by
  have M := mixed_whole hx h0 hg
  obtain ⟨hok, hsz, h8, hl, h41⟩ := frag_parts (ep := x % 4294967296) h hi
  have hle := low_end hg (Nat.le_refl _) hk h hi
  rw [List.take_length] at hle
  have := (M.frag (k := (frI (x % 4294967296) (endF (ls.take k)) (ls.getD k []) i).kind) (d := (frI (x % 4294967296) (endF (ls.take k)) (ls.getD k []) i).data) hok (by omega) h41 h8 hl (fun j hj => body_at hg (x % 4294967296) hk h hi j (by omega))).1 (by omega)
  rw [hsz]
  exact this
theorem whole_free : clF (x % 4294967296) (flatB x 16 (wholeK x (bodyF (x % 4294967296) ls) (touchN 0 (endF ls)).2 16) 16) (flatK x 16 (wholeK x (bodyF (x % 4294967296) ls) (touchN 0 (endF ls)).2 16) 16) ls ls.length = [] :=
  (clF_iff hg (flatB_length _ _ _ (wholeK_length _ _ _ 16) 16) ls.length (Nat.le_refl _)).2 fun _ hk _ h _ hi => .inl (whole_in hx h0 hg hk h hi)
end
/-- the sectors of one record of one byte -/
noncomputable def oneS (z : Int) : List Int := wholeK 3 (bodyF (3 % 4294967296) [[z]]) (touchN 0 (endF [[z]])).2 16
theorem one_free (z : Int) : tclF 3 16 (oneS z) [[z]] = [] := by
  unfold tclF
  rw [one_fits, if_pos rfl]
  exact whole_free (by unfold U64; omega) (by decide) ((fitsF_iff _).1 (one_fits z))
theorem one_other {y z : Int} (hne : y ≠ z) : (tclF 3 16 (oneS y) [[z]]).length ≠ 0 := by
  intro hc
  have hc := List.eq_nil_of_length_eq_zero hc
  unfold tclF at hc
  rw [one_fits, if_pos rfl] at hc
  have gz := (fitsF_iff _).1 (one_fits z)
  have gy := (fitsF_iff _).1 (one_fits y)
  have hB : (flatB 3 16 (oneS y) 16).length = 832 := flatB_length _ _ _ (wholeK_length _ _ _ 16) 16
  have hio := (clF_iff gz hB 1 (Nat.le_refl _)).1 hc 0 (by decide)
  obtain ⟨m, hl⟩ := laid_k gz (k := 0) (by simp)
  obtain ⟨m', hl'⟩ := laid_k gy (k := 0) (by simp)
  have h1 := hio m hl 0 hl.cuts.1
  have h2 := whole_in (x := 3) (by unfold U64; omega) (by decide) gy (k := 0) (by simp) hl' hl'.cuts.1
  have e1 : (([[z]] : List (List Int)).getD 0 []) = [z] := rfl
  have e2 : (([[y]] : List (List Int)).getD 0 []) = [y] := rfl
  rw [List.take_zero, endF_nil, e1] at h1
  rw [List.take_zero, endF_nil, e2] at h2
  have h2' : scF (3 % 4294967296) (flatB 3 16 (oneS y) 16) (flatK 3 16 (oneS y) 16) (bS 0 1 0) = (frI (3 % 4294967296) 0 [y] 0, szI 0 [y] 0) := h2
  have e3 : ([z] : List Int).length = 1 := rfl
  rw [e3] at h1
  rcases h1 with h1 | h1
  · rw [h2'] at h1
    have hd := congrArg (fun p => p.1.data) h1
    have f0 : fS 0 1 (0 + 1) - fS 0 1 0 = 1 := by decide
    unfold frI at hd
    dsimp only at hd
    simp only [List.length_cons, List.length_nil, Nat.zero_add] at hd
    rw [show fS 0 1 1 - fS 0 1 0 = 1 from f0, fS_zero] at hd
    simp at hd
    exact hne hd
  · rw [h2'] at h1
    have : szI 0 [y] 0 = 0 := h1
    unfold szI at this
    omega
theorem one_rl (w : World) (z : Int) : RL .u8 ((w.alloc (.cells #[.int .u8 z] 5 (1, 2))).alloc (.cells #[.slice (some ⟨w.heap.size, 0, none⟩) 1 1] 43)) (.slice (some ⟨w.heap.size + 1, 0, none⟩) 1 1) 1 [[z]] := by
  have hz := alloc_size w (.cells #[.int .u8 z] 5 (1, 2))
  have h1 : ((w.alloc (.cells #[.int .u8 z] 5 (1, 2))).alloc (.cells #[.slice (some ⟨w.heap.size, 0, none⟩) 1 1] 43)).heap[w.heap.size]? = some (.cells #[.int .u8 z] 5 (1, 2)) :=
    ((balloc (w.alloc (.cells #[.int .u8 z] 5 (1, 2))) _).block w.heap.size (by rw [hz]; omega)).trans (heap_alloc_last w _)
  have h2 : ((w.alloc (.cells #[.int .u8 z] 5 (1, 2))).alloc (.cells #[.slice (some ⟨w.heap.size, 0, none⟩) 1 1] 43)).heap[w.heap.size + 1]? = some (.cells #[.slice (some ⟨w.heap.size, 0, none⟩) 1 1] 43) := by
    rw [← hz]; exact heap_alloc_last _ _
  generalize (w.alloc (.cells #[.int .u8 z] 5 (1, 2))).alloc (.cells #[.slice (some ⟨w.heap.size, 0, none⟩) 1 1] 43) = w1 at h1 h2 ⊢
  refine ⟨[.slice (some ⟨w.heap.size, 0, none⟩) 1 1], ⟨_, 1, rfl, rfl, Nat.le_refl _, by omega, fun h => by simp at h, fun _ => ⟨w.heap.size + 1, 0, rfl, fun j hj => ?_⟩⟩, rfl, fun j e l he hl => ?_⟩
  · rw [Nat.zero_add, cell_of_row _ (w.heap.size + 1) j _ _ _ h2]; simp
  · match j, he, hl with
    | 0, he, hl =>
      simp at he hl
      subst he hl
      refine ⟨_, 1, rfl, rfl, by simp, by omega, fun e => by simp at e, fun _ => ⟨_, 0, rfl, fun j hj => ?_⟩⟩
      obtain rfl : j = 0 := by simp at hj; exact hj
      exact Joins.cell_of_block h1 0
set_option maxRecDepth 8000 in
set_option maxHeartbeats 4000000 in
theorem tawake_any (w : World) (hT : Tab w) : Calls Tryd.prog 7 #[] w fun e w' => e = .returned (.bool true) ∧ Below w.heap.size w w' := by
  have hu3 : U64 3 := by unfold U64; omega
  have HSA : Hid (∀ (W : World) (v : Value) (z : Int), (0 ≤ z ∧ z ≤ 255) → RL .u8 W v 1 [[z]] → Calls Tryd.prog 15 #[.int .u64 3, v] W fun e w' =>
      ∃ v, e = .returned (.tuple #[v, .bool true]) ∧ FS w' v 16 (oneS z) ∧ Below W.heap.size W w') := Lib.hid fun W v z hz h =>
    (rsectors_any 3 hu3 v 1 [[z]] (by omega) (one_isB hz) W h).mono fun e w' h => by
      rcases h with ⟨_, v, h1, h2, h3⟩ | ⟨h1, _⟩
      · exact ⟨v, h1, h2, h3⟩
      · rw [one_fits] at h1; cases h1
  have hbf : ∀ z : Int, 0 ≤ z ∧ z ≤ 255 → isB (oneS z) := fun z hz => by
    have hb0 := bodyF_bytes (ep := 3 % 4294967296) [[z]] (one_isB hz) [[z]].length (Nat.le_refl _)
    rw [List.take_length] at hb0
    exact sc_whole_bytes 3 _ hb0 _ 16
  have HFR : Hid (∀ (W : World) (v s : Value) (y : Int), (0 ≤ y ∧ y ≤ 255) → Below w.heap.size w W → RL .u8 W v 1 [[97]] → FS W s 16 (oneS y) → Calls Tryd.prog 10 #[.int .u64 3, v, s] W fun e w' => e = .returned (.bool (decide (y = 97))) ∧ Below W.heap.size W w') := Lib.hid fun W v s y hy hb h1 h2 =>
    (tfree_any 3 hu3 v 1 [[97]] (by omega) (one_isB (by omega)) s 16 (oneS y) (hbf y hy) W (hT.keep hb) h1 h2).mono fun e w' ⟨q1, q2⟩ => by
      refine ⟨?_, q2⟩
      rw [q1, one_fits, Bool.true_and]
      by_cases hyz : y = 97
      · subst hyz; rw [one_free]; simp
      · rw [decide_eq_false (one_other hyz), decide_eq_false hyz]
  have HS97 := Lib.hid (fun (W : World) (v : Value) => HSA.out W v 97 (by omega))
  have HS98 := Lib.hid (fun (W : World) (v : Value) => HSA.out W v 98 (by omega))
  have HF97 := Lib.hid (fun (W : World) (v s : Value) => HFR.out W v s 97 (by omega))
  have HF98 := Lib.hid (fun (W : World) (v s : Value) => HFR.out W v s 98 (by omega))
  clear HSA HFR hu3 hbf hT
  generalize oneS 97 = sA at *
  generalize oneS 98 = sB at *
  have c1 := Go.Joins.run_convert_bytes_const_at (P := Tryd.prog) w 43 5 #[.int .u8 97] 1 1 w.heap.size rfl Tryd.underlying43 Tryd.underlying5
  obtain ⟨wa, hwa⟩ : ∃ q, (w.alloc (.cells #[.int .u8 97] 5 (1, 2))).alloc (.cells #[.slice (some ⟨w.heap.size, 0, none⟩) 1 1] 43) = q := ⟨_, rfl⟩
  have HA := one_rl w 97
  have HBA : Below w.heap.size w wa := by rw [← hwa]; exact fbelow2 w _ _
  rw [hwa] at HA
  have HA := Lib.hid HA
  have HBA := Lib.hid HBA
  go_enter Tryd.func7, Tryd.ntmps7
  go_wp2_with (first
    | (rw [hwa])
    | (go_at_call 15; (with_reducible refine (HS97.out _ _ HA.out).mono ?_); rintro e w1 ⟨v1, rfl, hs, hb⟩; obtain ⟨a1, d1, rfl⟩ : ∃ a c, v1 = .slice a 16 c := (by obtain ⟨a, c, q, _⟩ := id hs; exact ⟨a, c, q⟩); have HS1 := Lib.hid hs; have HB1 := Lib.hid (bch HBA.out hb); have HA1 := Lib.hid (HA.out.keep hb); have cc := Go.Joins.run_convert_bytes_const_at (P := Tryd.prog) w1 43 5 #[.int .u8 98] 1 1 w1.heap.size rfl Tryd.underlying43 Tryd.underlying5; have HL1 := Lib.hid (one_rl w1 98); have hbb := fbelow2 w1 (.cells #[.int .u8 98] 5 (1, 2)) (.cells #[.slice (some ⟨w1.heap.size, 0, none⟩) 1 1] 43); have HBB := Lib.hid (bch HB1.out hbb); have HAB := Lib.hid (HA1.out.keep hbb); have HSB := Lib.hid (HS1.out.keep hbb); clear hs hb hbb)
    | (go_at_call 15; (with_reducible refine (HS98.out _ _ HL1.out).mono ?_); rintro e w2 ⟨v2, rfl, hs, hb⟩; obtain ⟨a2, d2, rfl⟩ : ∃ a c, v2 = .slice a 16 c := (by obtain ⟨a, c, q, _⟩ := id hs; exact ⟨a, c, q⟩); have HS2 := Lib.hid hs; have HB2 := Lib.hid (bch HBB.out hb); have HA2 := Lib.hid (HAB.out.keep hb); have HSC := Lib.hid (HSB.out.keep hb); clear hs hb)
    | (go_at_call 10; (with_reducible refine (HF97.out _ _ _ HB2.out HA2.out HSC.out).mono ?_); rintro e w3 ⟨rfl, hb⟩; have HS3 := Lib.hid (HS2.out.keep hb); have HB3 := Lib.hid (bch HB2.out hb); have HA3 := Lib.hid (HA2.out.keep hb); clear hb)
    | (go_at_call 10; (with_reducible refine (HF98.out _ _ _ HB3.out HA3.out HS3.out).mono ?_); rintro e w4 ⟨rfl, hb⟩; have HB4 := Lib.hid (bch HB3.out hb); clear hb))
  go_ret
  exact ⟨rfl, HB4.out⟩
end Go.Proofs.YtepaghohojomeaaDoor
