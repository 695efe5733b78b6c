/-
  LAYER 17 (image), the program's own: the function that yields records, what it hands over and what it tells of it.
-/
import Derived.Test.YtjlnceldnbpapaaDoorImgLay
import Derived.Test.YtjlnceldnbpapaaDoorSlices
import Derived.Test.YtjlnceldnbpapaaDoorJSeq
import Derived.Shelf.RegionOpen
namespace Go.Proofs.YtjlnceldnbpapaaDoor
open Go.RowKit
attribute [local go_sem] Oper.semAt_some
noncomputable abbrev aK (ls : List (List Int)) (k : Nat) : Nat := endF (ls.take k)
abbrev nK (ls : List (List Int)) (k : Nat) : Nat := (ls.getD k []).length
noncomputable abbrev psK (ls : List (List Int)) (k : Nat) : List PC := pcsI (aK ls k : Nat) (nK ls k : Nat)
/-- what is handed over: where a record's bytes lie, and its pieces -/
abbrev RX := (Option Addr × Nat) × (Option Addr × Nat)
noncomputable def encR (ls : List (List Int)) (k : Nat) (x : RX) : Array Value :=
  #[.agg (rA (.slice x.1.1 (nK ls k) x.1.2) (beginN (aK ls k) : Nat) (.slice x.2.1 (psK ls k).length x.2.2) (endI (aK ls k : Nat) (nK ls k : Nat) : Nat)), .bool (fitI (aK ls k : Nat) (nK ls k : Nat))]
/-- .. and what lies behind it -/
def TR (ls : List (List Int)) (k : Nat) (x : RX) (W : World) : Prop :=
  RI .u8 W (.slice x.1.1 (nK ls k) x.1.2) (nK ls k) (ls.getD k []) ∧ W.ownsRow 0 60 4 (.slice x.2.1 (psK ls k).length x.2.2) (psK ls k).length (pF (psK ls k))
noncomputable def badR (ls : List (List Int)) (k : Nat) : Bool := !fitI (aK ls k : Nat) (nK ls k : Nat)
/-- rounds that keep what lies below n0, and all cells but f's blocks and new ones -/
structure KpI (n0 : Nat) (f : Nat → Bool) (W : World) (f' : Nat → Bool) (W' : World) : Prop where
  size : W.heap.size ≤ W'.heap.size
  below : n0 ≤ W.heap.size → Below n0 W W'
  cells : ∀ (k : Nat) (o : Obj), f k = false → W.heap[k]? = some o → o.isCells = true → W'.heap[k]? = some o
  foot : Foot f W.heap.size → Foot f' W'.heap.size
  old : ∀ k, k < W.heap.size → f' k = f k
def OkI (f : Nat → Bool) (_ W : World) : Prop := Foot f W.heap.size
theorem KpI.trans {n0 : Nat} {a A b B c C} (h : KpI n0 a A b B) (k : KpI n0 b B c C) : KpI n0 a A c C :=
  ⟨Nat.le_trans h.size k.size, fun hn => (h.below hn).trans (k.below (Nat.le_trans hn h.size)), fun i o hf ho hc => by
      have hlt := (Array.getElem?_eq_some_iff.1 ho).1
      exact k.cells i o (by rw [h.old i hlt]; exact hf) (h.cells i o hf ho hc) hc,
    fun hf => k.foot (h.foot hf), fun i hi => (k.old i (Nat.lt_of_lt_of_le hi h.size)).trans (h.old i hi)⟩
theorem KpI.of {n0 : Nat} {f : Nat → Bool} {W W' : World} (h : Below W.heap.size W W') : KpI n0 f W f W' :=
  ⟨h.size, fun hn => h.mono hn, fun k _ _ ho _ => (h.block k (Array.getElem?_eq_some_iff.1 ho).1).trans ho, fun hf => hf.mono h.size, fun _ _ => rfl⟩
theorem RI.free {k : IntKind} {A B : World} {b : Nat} {v : Value} {n : Nat} {zs : List Int} (h : RI k A v n zs) (hf : Free b A B) : RI k B v n zs := by
  obtain ⟨a, cap, rfl, h1, h2, h3, h4, hc⟩ := h
  refine ⟨a, cap, rfl, h1, h2, h3, h4, fun h0 => ?_⟩
  obtain ⟨b', off, rfl, hcell⟩ := hc h0
  refine ⟨b', off, rfl, fun j hj => ?_⟩
  have hcj := hcell j hj
  unfold World.cell? at hcj ⊢
  cases ho : A.heap[b']? with
  | none => simp [ho] at hcj
  | some o =>
    cases o with
    | cells cs t m => rw [hf.2 b' _ ho rfl]; rw [ho] at hcj; exact hcj
    | _ => simp [ho] at hcj
theorem own_free' {w w' : World} {b base : Nat} {e : TypeId} {size : Nat} {v : Value} {n : Nat} {xs : List Value} (h : w.ownsRow base e size v n xs) (hf : Free b w w') : w'.ownsRow base e size v n xs := by
  refine ⟨h.1, ?_⟩
  rcases h.2 with h2 | ⟨g, cap, cur, hv, hg, hcur, h3⟩
  · exact .inl h2
  · exact .inr ⟨g, cap, cur, hv, hg, hf.2 _ _ hcur rfl, h3⟩
theorem TR.free {ls : List (List Int)} {k : Nat} {x : RX} {A B : World} {b : Nat} (h : TR ls k x A) (hf : Free b A B) : TR ls k x B := ⟨h.1.free hf, own_free' h.2 hf⟩
theorem records_any (la : Option Addr) (N lc : Nat) (w : World) : CallsIn Fence.wide 6 Tryd.prog 16 #[.slice la N lc] w fun e w' => e = .returned (.func (.func 24) #[] #[.pointer (some ⟨w.heap.size, 0, none⟩)]) ∧ w' = w.alloc (.cells #[.slice la N lc] 23) := by
  refine callsIn_of_wp Tryd.func16 rfl trivial ?_ rfl
  simp only [Tryd.ntmps16, List.size_toArray, List.length_cons, List.length_nil, Nat.reduceAdd, Nat.reduceSub, Array.replicate_succ, Array.replicate_zero, List.push_toArray, List.append_toArray, List.nil_append, List.cons_append]
  gi_wp2
  go_ret
  exact ⟨rfl, rfl⟩
set_option maxRecDepth 8000 in
set_option maxHeartbeats 4000000 in
theorem records_told (n : Nat) (hn : 1 ≤ n) (we : World) (lv : Value) (N : Nat) (ls : List (List Int)) (hrl : RL .u8 we lv N ls) (Bn : Nat) (w : World) (hbe : Below we.heap.size we w) (hB : Bn < w.heap.size) (hc : w.cell? ⟨Bn, 0, none⟩ = some lv) :
    SeqTill Fence.wide n Tryd.prog 24 #[.pointer (some ⟨Bn, 0, none⟩)] (encR ls) (TR ls) (badR ls) (KpI we.heap.size) OkI (GoodF ls N) (BadF ls) N w := by
  intro l J Jx f W hb hOk hJ hJx hG hBd h0
  have hcW := (hb.cell (p := ⟨Bn, 0, none⟩) hB).trans hc
  have hbW : Below we.heap.size we W := hbe.trans (hb.mono hbe.size)
  have hll := hrl.length
  have hNl := hrl.le
  obtain ⟨la, lc, rfl, _⟩ := hrl.form
  have HJ := Lib.hid hJ
  have HG := Lib.hid hG
  have HBd := Lib.hid hBd
  have HRL := Lib.hid hrl
  have HLL := Lib.hid hll
  have HBW := Lib.hid hbW
  have hOk2 : Foot f W.heap.size := hOk
  have HOK := Lib.hid hOk2
  refine callsIn_of_wp Tryd.func24 rfl trivial ?_ rfl
  simp only [Tryd.ntmps24, List.size_toArray, List.length_cons, List.length_nil, Nat.reduceAdd, Nat.reduceSub, Array.replicate_succ, Array.replicate_zero, List.push_toArray, List.append_toArray, List.nil_append, List.cons_append]
  clear hJ hJx hG hBd hrl hOk hOk2 hbW hll
  gi_wp2
  clear hc hcW hb hbe hB
  gi_loopw [3, 10] (fun av kv wr => ∃ (k a : Nat) (fk : Nat → Bool), kv = .int .i64 (k : Int) ∧ av = .int .i64 (a : Int) ∧ k ≤ N ∧ a ≤ 832 ∧ Hid (endF (ls.take k) = a) ∧ Hid (GoodF ls k) ∧ Hid (J fk k wr) ∧ Hid (Foot fk wr.heap.size) ∧ Hid (Below we.heap.size we wr) ∧ Hid (W.heap.size ≤ wr.heap.size)) (fun _ kv _ => N - (intOf kv).toNat)
  case atStart => exact ⟨0, 0, f, rfl, rfl, by omega, by omega, Lib.hid (by simp [endF_nil]), Lib.hid (GoodF.zero ls), Lib.hid h0, HOK, HBW, Lib.hid (Nat.le_refl _)⟩
  case round =>
    obtain ⟨k, a, fk, rfl, rfl, hk, ha, HA, HGD, HJ0, HF0, HB0, HS0⟩ := hrel
    by_cases hlt : (k : Int) < (N : Int)
    · have hkl : k < ls.length := by rw [HLL.out]; omega
      obtain ⟨b, off, rfl, hat⟩ := HRL.out.at_ (by omega)
      obtain ⟨x, c, hc, hr⟩ := hat k (by omega)
      have hc := cell_keep HB0.out hc
      obtain ⟨m, hm⟩ : ∃ m, nK ls k = m := ⟨_, rfl⟩
      have hm0 : (ls.getD k []).length = m := hm
      have ha0 : endF (ls.take k) = a := HA.out
      have HEN := Lib.hid (endF_next ls k hkl)
      have HFI : Hid (fitI (endF (ls.take k) : Nat) (ls.getD k []).length = fitI (a : Nat) (m : Nat)) := Lib.hid (by rw [ha0, hm0])
      rw [ha0, hm0] at HEN
      rw [hm0] at hc hr
      have HCF : Hid (∀ w, Calls Tryd.prog 21 #[.int .i64 (a : Nat), .slice x m c] w (CutF (a : Nat) (.slice x m c) m w)) := Lib.hid fun w => cutFrom_any (a : Nat) (by unfold I63; omega) x m c w
      have HYG : fitI (a : Nat) (m : Nat) = true → ∀ (pa : Option Addr) (pc : Nat) (W1 : World), J fk k W1 → RI .u8 W1 (.slice x m c) m (ls.getD k []) → W1.ownsRow 0 60 4 (.slice pa (pcsI (a : Nat) (m : Nat)).length pc) (pcsI (a : Nat) (m : Nat)).length (pF (pcsI (a : Nat) (m : Nat))) →
          YieldAt Fence.wide (n - 1) Tryd.prog l #[.agg (rA (.slice x m c) (beginN a : Nat) (.slice pa (pcsI (a : Nat) (m : Nat)).length pc) (endI (a : Nat) (m : Nat) : Nat)), .bool true] W1 fun e W' => e = .returned (.bool true) ∧ ∃ f', J f' (k + 1) W' ∧ KpI we.heap.size fk W1 f' W' := fun hft pa pc W1 h1 h2 h3 => by
        have h := HG.out fk k ((x, c), (pa, pc)) W1 h1 (by unfold TR psK aK; rw [ha0, hm]; exact ⟨h2, h3⟩) (by omega) (by unfold badR aK; rw [ha0, hm, hft]; rfl)
        unfold encR psK aK at h
        rw [ha0, hm, hft] at h
        exact h
      have HYB : fitI (a : Nat) (m : Nat) = false → ∀ (pa : Option Addr) (pc : Nat) (W1 : World), J fk k W1 → RI .u8 W1 (.slice x m c) m (ls.getD k []) → W1.ownsRow 0 60 4 (.slice pa (pcsI (a : Nat) (m : Nat)).length pc) (pcsI (a : Nat) (m : Nat)).length (pF (pcsI (a : Nat) (m : Nat))) →
          YieldAt Fence.wide (n - 1) Tryd.prog l #[.agg (rA (.slice x m c) (beginN a : Nat) (.slice pa (pcsI (a : Nat) (m : Nat)).length pc) (endI (a : Nat) (m : Nat) : Nat)), .bool false] W1 fun e W' => e = .returned (.bool false) ∧ Jx W' := fun hft pa pc W1 h1 h2 h3 => by
        have h := HBd.out fk k ((x, c), (pa, pc)) W1 h1 (by unfold TR psK aK; rw [ha0, hm]; exact ⟨h2, h3⟩) (by omega) (by unfold badR aK; rw [ha0, hm, hft]; rfl)
        unfold encR psK aK at h
        rw [ha0, hm, hft] at h
        exact h
      have HR := Lib.hid hr
      have HKL := Lib.hid hkl
      unfold CutF at HCF
      rw [nr_nat a ha] at HCF
      have hen8 := end_le (a : Nat) (m : Nat)
      generalize pcsI (a : Nat) (m : Nat) = ps at *
      generalize endI (a : Nat) (m : Nat) = en at *
      generalize beginN a = bg at *
      clear hr hkl hm hm0 ha0
      cases hft : fitI (a : Nat) (m : Nat) with
      | true =>
        have HYK := Lib.hid (HYG hft)
        rw [hft] at HCF HFI
        clear HYG HYB hft
        gi_wp2_with (first
          | (refine ⟨trivial, ?_⟩; gi_at_call 21; refine (callsIn_wide.2 (HCF.out _)).mono ?_; rintro e w2 ⟨pa, pc, rfl, ho, hb2⟩; have HB2 := Lib.hid hb2; have HO2 := Lib.hid ho; clear ho hb2)
          | (refine wplIn_store_row rfl 48 _ _ rfl w2.heap.size (rA (.slice x m c) bg (.slice pa ps.length pc) en) rfl rfl _ _ (heap_alloc_last w2 _) (rec_info _ rfl) rfl (rec_one _ _ _ _ _ _ _ _) ?_; obtain ⟨w3, hw3⟩ : ∃ w3, (w2.alloc (.cells #[.slice none 0 0, .int .i64 0, .slice none 0 0, .int .i64 0] 48)).setRow w2.heap.size (rA (.slice x m c) bg (.slice pa ps.length pc) en) = w3 := ⟨_, rfl⟩; rw [hw3]; have hb3 : Below w2.heap.size w2 w3 := by rw [← hw3]; exact bnew _ _ _
             have HM3 : Hid (MO w3 w2.heap.size (.slice x m c) bg (.slice pa ps.length pc) en) := Lib.hid (by rw [← hw3]; exact MO.new _)
             have HO3 := Lib.hid (own_mono (own_keep HO2.out hb3) (Nat.zero_le _)); have HB3 := Lib.hid (bch HB2.out hb3); have HJ3 := Lib.hid (HJ.out _ _ _ _ HJ0.out (Free.of HB3.out HS0.out)); have HRB : Hid (fk w2.heap.size = false) := Lib.hid (by cases hq : fk w2.heap.size with | false => rfl | true => have := HF0.out _ hq; have := HB2.out.size; omega); have HF3 := Lib.hid (HF0.out.mono HB3.out.size); have HBE := Lib.hid (bch HB0.out HB3.out); obtain ⟨fn, tmps, assign, body, hy, hR⟩ := HYK.out pa pc w3 HJ3.out (HR.out.keep HBE.out) HO3.out; clear hb3 hw3)
          | (refine wplIn_load_row rfl 48 _ rfl w2.heap.size rfl HM3.out.load ?_)
          | (refine hR.mono ?_; rintro e w4 ⟨rfl, f4, hj4, hk4⟩; have HM4 := Lib.hid (show MO w4 w2.heap.size (.slice x m c) bg (.slice pa ps.length pc) en from hk4.cells _ _ HRB.out HM3.out rfl); obtain ⟨z0, z1, z2, z3⟩ := HM4.out.cells; have HK4 := Lib.hid hk4; have HJ4 := Lib.hid hj4; clear hj4 hk4))
        exact ⟨⟨k + 1, en, f4, by go_num, rfl, by omega, hen8, HEN, Lib.hid (HGD.out.next HFI.out), HJ4, Lib.hid (HK4.out.foot HF3.out), Lib.hid (HBE.out.trans (HK4.out.below HBE.out.size)), Lib.hid (by have := HS0.out; have := HB3.out.size; have := HK4.out.size; omega)⟩, by simp [intOf]; omega⟩
      | false =>
        have HYK := Lib.hid (HYB hft)
        rw [hft] at HCF HFI
        clear HYG HYB hft
        gi_wp2_with (first
          | (refine ⟨trivial, ?_⟩; gi_at_call 21; refine (callsIn_wide.2 (HCF.out _)).mono ?_; rintro e w2 ⟨pa, pc, rfl, ho, hb2⟩; have HB2 := Lib.hid hb2; have HO2 := Lib.hid ho; clear ho hb2)
          | (refine wplIn_store_row rfl 48 _ _ rfl w2.heap.size (rA (.slice x m c) bg (.slice pa ps.length pc) en) rfl rfl _ _ (heap_alloc_last w2 _) (rec_info _ rfl) rfl (rec_one _ _ _ _ _ _ _ _) ?_; obtain ⟨w3, hw3⟩ : ∃ w3, (w2.alloc (.cells #[.slice none 0 0, .int .i64 0, .slice none 0 0, .int .i64 0] 48)).setRow w2.heap.size (rA (.slice x m c) bg (.slice pa ps.length pc) en) = w3 := ⟨_, rfl⟩; rw [hw3]; have hb3 : Below w2.heap.size w2 w3 := by rw [← hw3]; exact bnew _ _ _
             have HM3 : Hid (MO w3 w2.heap.size (.slice x m c) bg (.slice pa ps.length pc) en) := Lib.hid (by rw [← hw3]; exact MO.new _)
             have HO3 := Lib.hid (own_mono (own_keep HO2.out hb3) (Nat.zero_le _)); have HB3 := Lib.hid (bch HB2.out hb3); have HJ3 := Lib.hid (HJ.out _ _ _ _ HJ0.out (Free.of HB3.out HS0.out)); have HRB : Hid (fk w2.heap.size = false) := Lib.hid (by cases hq : fk w2.heap.size with | false => rfl | true => have := HF0.out _ hq; have := HB2.out.size; omega); have HF3 := Lib.hid (HF0.out.mono HB3.out.size); have HBE := Lib.hid (bch HB0.out HB3.out); obtain ⟨fn, tmps, assign, body, hy, hR⟩ := HYK.out pa pc w3 HJ3.out (HR.out.keep HBE.out) HO3.out; clear hb3 hw3)
          | (refine wplIn_load_row rfl 48 _ rfl w2.heap.size rfl HM3.out.load ?_)
          | (refine hR.mono ?_; rintro e w4 ⟨rfl, hj4⟩; have HJ4 := Lib.hid hj4; clear hj4))
        refine bodyPost_ret (results_none rfl _ _ _) rfl ?_
        exact ⟨⟨_, rfl⟩, .inr ⟨⟨k, HKL.out, HFI.out⟩, HJ4.out⟩⟩
    · obtain rfl : k = N := by omega
      gi_wp2
      go_end0
      exact ⟨⟨_, rfl⟩, .inl ⟨HGD.out, fk, HJ0.out⟩⟩
end Go.Proofs.YtjlnceldnbpapaaDoor
