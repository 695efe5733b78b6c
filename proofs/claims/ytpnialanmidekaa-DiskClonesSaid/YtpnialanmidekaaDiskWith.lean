/-
  WHAT THE DOCUMENT'S ANSWERS OF LAYER 8 (disk) ANSWER: the reference's without, with.
-/
import Derived.Test.YtpnialanmidekaaDiskRow
namespace Go.Proofs.Ytpnialanmidekaa
open Go.RowKit
theorem withoutF_take (L : List AF) (s : ByteArray) (i : Nat) (f : AF) (h : L[i]? = some f) : withoutF (L.take (i + 1)) s = withoutF (L.take i) s ++ (if f.name = s then [] else [f]) := by
  obtain ⟨hi, rfl⟩ := List.getElem?_eq_some_iff.1 h
  unfold withoutF
  rw [List.take_succ_eq_append_getElem hi, List.filter_append]
  by_cases hs : (L[i]).name = s <;> simp [hs]
theorem withoutF_len (L : List AF) (s : ByteArray) : (withoutF L s).length ≤ L.length := List.length_filter_le ..
set_option maxRecDepth 8000 in
set_option maxHeartbeats 2000000 in
theorem rwithout_any (F : Nat → Bool) (vd : Value) (d : AD) (s : ByteArray) (w : World) (hF : Foot F w.heap.size) (h : RD (mask F w) vd d) (hn1 : d.L.length ≤ 1000000) :
    Calls Try.prog 65 #[vd, .string s] w fun e w' => ∃ v', e = .returned v' ∧ RD (mask F w') v' (d.without s) ∧ Below w.heap.size w w' := by
  obtain ⟨a, cap, rfl, hl, hc1, hc2, _⟩ := h.form
  obtain ⟨n, hn⟩ : ∃ n, d.L.length = n := ⟨_, rfl⟩
  unfold dv AD.without
  rw [hn] at hl hc1 hn1 ⊢
  have hx := Bx.start hF hn hl
  obtain ⟨L, x1, x2, x3, x4, x5⟩ := d
  dsimp only at hn hl hx ⊢
  unfold dz at hx
  obtain ⟨W2, hW2⟩ : ∃ W2, (w.alloc (.cells #[.slice a n cap, .int .i64 x1, .int .i64 x2, .bool x3, .bool x4, .int .i64 x5] 29)).alloc (.cells #[.slice none 0 0, .int .i64 0, .int .i64 0, .bool false, .bool false, .int .i64 0] 29) = W2 := ⟨_, rfl⟩
  rw [hW2] at hx
  have HX := Lib.hid hx
  have hc0 := hx.d0.cell 0
  simp only [List.getElem?_toArray, List.getElem?_cons_zero] at hc0
  clear h hl hx hn hF
  go_enter Try.func65, Try.ntmps65
  go_wp2
  go_loopw [5, 6] (fun lv iv wr => ∃ (i m : Nat) (es : List (List Value)), iv = .int .i64 i ∧ i ≤ n ∧ (withoutF (L.take i) s).length = m ∧ Hid (wr.ownsRow W2.heap.size 82 4 lv m es.flatten) ∧ Hid (RFs (mask F w) es (withoutF (L.take i) s)) ∧ Hid (Below W2.heap.size W2 wr)) (fun _ iv _ => n - (intOf iv).toNat)
  case atStart => exact ⟨0, 0, [], rfl, by omega, rfl, Lib.hid (World.ownsRow_nil _ _ _ _), Lib.hid (RFs.nil _), Lib.hid (Below.refl _ _)⟩
  case round =>
    obtain ⟨i, m, es, rfl, hi, hm, HO, HR, HB⟩ := hrel
    have hcw : wr.cell? ⟨w.heap.size, 0, none⟩ = some (.slice a n cap) := by
      have := (HX.out.d0.below HB.out (by rw [HX.out.size]; omega)).cell 0
      simpa using this
    have HM := Lib.hid hm
    have hml : m ≤ 1000000 := by have := withoutF_len (L.take i) s; simp only [List.length_take] at this; omega
    clear hm
    by_cases hlt : (i : Int) < (n : Int)
    · obtain ⟨f, hf⟩ := row_some (L := L) (i := i) (by have := HX.out.len; dsimp only at this; omega)
      obtain ⟨b, off, a1, c1, a2, c2, a3, c3, rfl, k0, k1, k2, k3, f1, f2, f3⟩ := HX.out.rlm.form4 i f hf
      have hk : Kin (mask F w) wr := ((unmask F w).trans (Kin.below HX.out.below)).trans (Kin.below HB.out)
      replace k0 := hk _ _ k0
      replace k1 := hk _ _ k1
      replace k2 := hk _ _ k2
      replace k3 := hk _ _ k3
      have HRF : Hid (RF (mask F w) [.string f.name, .slice a1 f.n c1, .slice a2 f.n c2, .slice a3 f.n c3] f) := Lib.hid ⟨_, _, _, rfl, f1, f2, f3⟩
      clear hk
      have hst := withoutF_take L s i f hf
      have HFF := Lib.hid hf
      clear hf f1 f2 f3
      by_cases hs : f.name = s
      · have hq : (f.name.toList == s.toList) = true := by rw [eqN, hs]; simp
        rw [if_pos hs, List.append_nil] at hst
        have HST := Lib.hid hst
        clear hs hst
        go_wp2
        go_roundw
        case rel => exact ⟨i + 1, m, es, by go_num, by omega, by rw [HST.out]; exact HM.out, HO, by rw [HST.out]; exact HR, HB⟩
        case measure => simp [intOf]; omega
      · have hq : (f.name.toList == s.toList) = false := by rw [eqN]; simp [hs]
        rw [if_neg hs] at hst
        have HST := Lib.hid hst
        clear hs hst
        go_wp2_with (first
          | (at_builtin; refine wpl_app_file rfl (.tmp 22) (.tmp 28) rfl W2.heap.size _ m es rfl (Lib.hid (own_keep HO.out (below_alloc _ _))) wr.heap.size [.string f.name, .slice a1 f.n c1, .slice a2 f.n c2, .slice a3 f.n c3] rfl (heap_alloc_last _ _) rfl (by simp [Value.oneCell']) (by omega) W2.heap.size W2 (Lib.hid (HB.out.alloc HB.out.size _)) (Nat.le_refl _) (by rw [alloc_size]; have := HB.out.size; omega) ?_; intro v3 w3 HO3 HB3))
        go_roundw
        case rel => exact ⟨i + 1, m + 1, es ++ [_], by go_num, by omega, by rw [HST.out, List.length_append, HM.out]; rfl, HO3, by rw [HST.out]; exact Lib.hid (HR.out.snoc HRF.out), HB3⟩
        case measure => simp [intOf]; omega
    · have hq : i = n := by omega
      subst hq
      have hall : withoutF (L.take i) s = withoutF L s := by rw [List.take_of_length_le (by have := HX.out.len; dsimp only at this; omega)]
      rw [hall] at HM HR
      obtain ⟨a5, c5, rfl⟩ := own_slice HO.out
      have hD0 := HX.out.d0.below HB.out (by rw [HX.out.size]; omega)
      have hfr := hD0.frozen 0
      have HD2 : Hid (DB (wr.setCell ⟨w.heap.size, 0, none⟩ (.slice a5 m c5)) w.heap.size #[.slice a5 m c5, .int .i64 x1, .int .i64 x2, .bool x3, .bool x4, .int .i64 x5]) := Lib.hid (by simpa using hD0.stored 0 (.slice a5 m c5))
      have HD3 := Lib.hid ((HX.out.d1.below HB.out (by rw [HX.out.size]; omega)).apart (b' := w.heap.size) (by omega) 0 (.slice a5 m c5))
      have HBW := Lib.hid (chain HX.out.below HB.out)
      clear hD0
      go_wp2_with (first
        | (refine wpList_load_row rfl 29 _ rfl w.heap.size rfl _ _ (0, 0) _ HD2.out.1 Try.underlying29 rfl HD2.out.info ?_)
        | (refine wpList_store_row rfl 29 _ _ rfl (w.heap.size + 1) #[.slice a5 m c5, .int .i64 x1, .int .i64 x2, .bool x3, .bool x4, .int .i64 x5] rfl rfl _ _ HD3.out.1 HD2.out.info (by rw [HD3.out.2]; rfl) (by simp [Value.oneCell']) ?_))
      have hbl := last_below HBW.out w.heap.size (Nat.le_refl _) (.slice a5 m c5) #[.slice a5 m c5, .int .i64 x1, .int .i64 x2, .bool x3, .bool x4, .int .i64 x5]
      refine bodyPost_ret_by (v := .agg #[.slice a5 m c5, .int .i64 x1, .int .i64 x2, .bool x3, .bool x4, .int .i64 x5]) (results_cell_row rfl _ _ (w.heap.size + 1) _ _ (0, 0) _ rfl (HD3.out.row (cs' := #[.slice a5 m c5, .int .i64 x1, .int .i64 x2, .bool x3, .bool x4, .int .i64 x5]) rfl).1 Try.underlying29 rfl disk_info) rfl ⟨_, rfl, ⟨.slice a5 m c5, rfl, ?_⟩, hbl⟩
      exact FLs.own (HX.out.foot.mono (by rw [HX.out.size]; omega)) (own_move HO.out (fun g hg => last_heap wr w.heap.size _ _ g (by rw [HX.out.size] at hg; omega))) (kin_mask hbl) HR.out HM.out
end Go.Proofs.Ytpnialanmidekaa
