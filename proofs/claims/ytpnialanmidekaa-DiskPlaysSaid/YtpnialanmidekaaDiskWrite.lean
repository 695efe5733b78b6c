/-
  WHAT THE DOCUMENT'S ANSWERS OF LAYER 8 (disk) ANSWER: the reference's Write.
-/
import Derived.Test.YtpnialanmidekaaDiskRead
namespace Go.Proofs.Ytpnialanmidekaa
open Go.RowKit
/-- what is seen behind the write, and what waits -/
def wrS (seen gs : List Int) (at_ m : Nat) : List Int := seen.take (at_ * 64) ++ gs ++ seen.drop (at_ * 64 + m * 64)
def wrW (ws : List Bool) (at_ m : Nat) : List Bool := ws.take at_ ++ List.replicate m true ++ ws.drop (at_ + m)
theorem wrS_length (seen gs : List Int) (at_ m n : Nat) (hs : seen.length = n * 64) (hg : gs.length = m * 64) (h : at_ + m ≤ n) : (wrS seen gs at_ m).length = n * 64 := by
  simp [wrS]; omega
theorem wrW_length (ws : List Bool) (at_ m n : Nat) (hs : ws.length = n) (h : at_ + m ≤ n) : (wrW ws at_ m).length = n := by
  simp [wrW]; omega
theorem wrS_get (seen gs : List Int) (at_ m n : Nat) (hs : seen.length = n * 64) (hg : gs.length = m * 64) (h : at_ + m ≤ n) (k : Nat) :
    (wrS seen gs at_ m)[k]? = if at_ * 64 ≤ k ∧ k < at_ * 64 + m * 64 then gs[k - at_ * 64]? else seen[k]? := by
  unfold wrS
  by_cases h1 : k < at_ * 64
  · rw [if_neg (by omega), List.append_assoc, List.getElem?_append_left (by simp; omega), List.getElem?_take_of_lt h1]
  · by_cases h2 : k < at_ * 64 + m * 64
    · rw [if_pos (by omega), List.append_assoc, List.getElem?_append_right (by simp; omega), List.getElem?_append_left (by simp; omega)]
      congr 1; simp; omega
    · rw [if_neg (by omega), List.getElem?_append_right (by simp; omega), List.getElem?_drop]
      congr 1; simp; omega
theorem wrS_step (seen gs : List Int) (at_ m n i : Nat) (hs : seen.length = n * 64) (hg : gs.length = m * 64) (h : at_ + m ≤ n) :
    (wrS seen gs at_ m).take ((i + 1) * 64) = (wrS seen gs at_ m).take (i * 64) ++ (if at_ ≤ i ∧ i - at_ < m then (gs.drop ((i - at_) * 64)).take 64 else (seen.drop (i * 64)).take 64) := by
  rw [show (i + 1) * 64 = i * 64 + 64 from by omega, List.take_add]
  congr 1
  refine List.ext_getElem? fun k => ?_
  by_cases hk : k < 64
  · rw [List.getElem?_take_of_lt hk, List.getElem?_drop, wrS_get seen gs at_ m n hs hg h]
    by_cases hc : at_ ≤ i ∧ i - at_ < m
    · rw [if_pos (by omega), if_pos hc, List.getElem?_take_of_lt hk, List.getElem?_drop]
      congr 1; omega
    · rw [if_neg (by omega), if_neg hc, List.getElem?_take_of_lt hk, List.getElem?_drop]
  · have e1 : ∀ l : List Int, (l.take 64)[k]? = none := fun l => List.getElem?_eq_none (by simp; omega)
    rw [e1]
    split
    · rw [e1]
    · rw [e1]
theorem wrW_step (ws : List Bool) (at_ m n i : Nat) (hs : ws.length = n) (h : at_ + m ≤ n) (hi : i < n) :
    (wrW ws at_ m).take (i + 1) = (wrW ws at_ m).take i ++ [if at_ ≤ i ∧ i - at_ < m then true else ws.getD i false] := by
  have hl := wrW_length ws at_ m n hs h
  rw [List.take_succ_eq_append_getElem (by omega)]
  congr 2
  have : (wrW ws at_ m)[i]? = some (if at_ ≤ i ∧ i - at_ < m then true else ws.getD i false) := by
    unfold wrW
    by_cases h1 : i < at_
    · rw [if_neg (by omega), List.append_assoc, List.getElem?_append_left (by simp; omega), List.getElem?_take_of_lt h1]
      simp [List.getD, hs, hi]
    · by_cases h2 : i < at_ + m
      · rw [if_pos (by omega), List.append_assoc, List.getElem?_append_right (by simp; omega), List.getElem?_append_left (by simp; omega), List.getElem?_replicate, if_pos (by simp; omega)]
      · rw [if_neg (by omega), List.getElem?_append_right (by simp; omega), List.getElem?_drop]
        rw [show at_ + m + (i - (List.take at_ ws ++ List.replicate m true).length) = i from by simp; omega]
        simp [List.getD, hs, hi]
  rw [List.getElem?_eq_getElem (by omega)] at this
  exact Option.some.inj this
set_option maxRecDepth 8000 in
set_option maxHeartbeats 4000000 in
theorem rwrite_any (F : Nat → Bool) (vd : Value) (d : AD) (s : ByteArray) (at_ : Int) (vl : Value) (m : Nat) (gs : List Int) (w : World) (hF : Foot F w.heap.size) (h : RD (mask F w) vd d) (hl : FS (mask F w) vl m gs) (hn1 : d.L.length ≤ 1000000) (ha63 : I63 at_) (_hm : (m : Int) ≤ 1000000000) (hfn : ((d.get s).n : Int) ≤ 1000000000) :
    Calls Try.prog 33 #[vd, .string s, .int .i64 at_, vl] w fun e w' => ∃ v', e = .returned (.tuple #[v', .int .i64 (d.writeR s at_ m gs).2]) ∧ RD (mask F w') v' (d.writeR s at_ m gs).1 ∧ Below w.heap.size w w' := by
  have hl0 := hl
  obtain ⟨a, n, cap, rfl, hn, hc1, hc2⟩ := h.agg
  have hst := St.start hF rfl h
  obtain ⟨W2, hW2⟩ : ∃ W2, (w.alloc (.cells #[.slice a n cap, .int .i64 d.cap, .int .i64 d.ops, .bool d.down, .bool d.told, .int .i64 d.after] 29)).alloc (.cells #[.slice none 0 0, .int .i64 0, .int .i64 0, .bool false, .bool false, .int .i64 0] 29) = W2 := ⟨_, rfl⟩
  rw [hW2] at hst
  have HS := Lib.hid hst
  have HN := Lib.hid hn
  obtain ⟨q0, q1, q2, q3, q4, q5⟩ := hst.d0.six
  clear hst hn h hF
  unfold I63 at ha63
  have HVL := Lib.hid ((hl0.kin (box_ext HS.out.below).kin))
  obtain ⟨al, cl, rfl, hgl, hcl, hcl2, _⟩ := hl0
  unfold AD.writeR
  by_cases hd : d.down = true
  · rw [if_pos hd]
    simp only [hd] at q3 hW2 HS ⊢
    clear hd
    go_enter Try.func33, Try.ntmps33
    go_wp2_with (first
      | (refine wpList_load_row rfl 29 _ rfl w.heap.size rfl _ _ (0, 0) _ HS.out.d0.1 Try.underlying29 rfl HS.out.d0.info ?_)
      | (refine wpList_store_row rfl 29 _ _ rfl (w.heap.size + 1) #[.slice a n cap, .int .i64 d.cap, .int .i64 d.ops, .bool true, .bool d.told, .int .i64 d.after] rfl rfl _ dz HS.out.d1.1 disk_info (by rfl) (by simp [Value.oneCell']) ?_))
    obtain ⟨e1, e2, e3⟩ := HS.out.done (cs' := #[.slice a n cap, .int .i64 d.cap, .int .i64 d.ops, .bool true, .bool d.told, .int .i64 d.after]) HS.out.rd rfl
    exact bodyPost_ret_by (results_row_tmp rfl _ _ (w.heap.size + 1) _ rfl (disk_load e1.1 rfl)) rfl ⟨_, rfl, e2, e3⟩
  · rw [if_neg hd]
    rw [Bool.not_eq_true] at hd
    simp only [hd] at q3 hW2 HS ⊢
    obtain ⟨i, hi⟩ : ∃ i, findI d.L s = i := ⟨_, rfl⟩
    have HFD := Lib.hid fun W (hw : RD W (.agg #[.slice a n cap, .int .i64 d.cap, .int .i64 d.ops, .bool false, .bool d.told, .int .i64 d.after]) d) => rfind_any (.agg #[.slice a n cap, .int .i64 d.cap, .int .i64 d.ops, .bool false, .bool d.told, .int .i64 d.after]) d s W hw
    rw [hi] at HFD
    have HOP := Lib.hid fun W => rop_any a n cap d W
    unfold dv at HOP
    simp only [hd] at HOP
    by_cases hh : d.has s
    · rw [if_neg (by simpa using hh)]
      have hi0 : i = (idxN d.L s : Int) := by rw [← hi]; exact d.find_has s hh
      obtain ⟨j, hj⟩ : ∃ j, idxN d.L s = j := ⟨_, rfl⟩
      have hga := d.get_at s hh
      have hgn := d.get_name s hh
      rw [hj] at hga hi0
      subst hi0
      obtain ⟨f, hf⟩ : ∃ f, d.get s = f := ⟨_, rfl⟩
      rw [hf] at hga hgn ⊢
      have hjn : j < n := by rw [← HN.out]; exact (List.getElem?_eq_some_iff.1 hga).1
      rw [hf] at hfn
      have HGA := Lib.hid hga
      have HGN := Lib.hid hgn
      clear hi hh hf hgn hga
      obtain ⟨b, off, a1, c1, a2, c2, a3, c3, rfl, k0, k1, k2, k3, f1, f2, f3⟩ := HS.out.rd.fls.form4 j f HGA.out
      have HCELL : Hid (∀ w3, Below W2.heap.size W2 w3 → w3.cell? ⟨b, off + j * 4, none⟩ = some (.string f.name) ∧ w3.cell? ⟨b, off + j * 4 + 1, none⟩ = some (.slice a1 f.n c1) ∧ w3.cell? ⟨b, off + j * 4 + 2, none⟩ = some (.slice a2 f.n c2) ∧ w3.cell? ⟨b, off + j * 4 + 3, none⟩ = some (.slice a3 f.n c3) ∧ w3.cell? ⟨w.heap.size, 0, none⟩ = some (.slice (some ⟨b, off, none⟩) n cap)) := Lib.hid fun w3 hb => by
        have hkk : Kin (mask (boxF F w) W2) w3 := (unmask _ W2).trans (Kin.below hb)
        exact ⟨hkk _ _ k0, hkk _ _ k1, hkk _ _ k2, hkk _ _ k3, (HS.out.d0.next hb).cell 0⟩
      have HF4 := Lib.hid (And.intro f1 (And.intro f2 f3))
      clear k0 k1 k2 k3 f1 f2 f3
      by_cases h1 : at_ < 0
      · rw [if_pos (.inl h1)]
        clear hd
        go_enter Try.func33, Try.ntmps33
        go_wp2_with (first
          | (refine wpList_load_row rfl 29 _ rfl w.heap.size rfl _ _ (0, 0) _ HS3f.out.d0.1 Try.underlying29 rfl HS3f.out.d0.info ?_)
          | (refine wpList_load_row rfl 29 _ rfl w.heap.size rfl _ _ (0, 0) _ HS.out.d0.1 Try.underlying29 rfl HS.out.d0.info ?_)
          | (go_at_call 63; (with_reducible refine (HFD.out _ (HS.out.rd.kin (unmask _ _))).mono ?_); rintro e w3 ⟨rfl, hb⟩; have HS3 := Lib.hid (HS.out.next hb); obtain ⟨k0, k1, k2, k3, p0⟩ := HCELL.out w3 hb; have HS3f := Lib.hid (HS3.out.next (below_alloc w3 (.cells #[.string f.name, .slice a1 f.n c1, .slice a2 f.n c2, .slice a3 f.n c3] 82))); have HB3w := Lib.hid (chain hb (below_alloc w3 (.cells #[.string f.name, .slice a1 f.n c1, .slice a2 f.n c2, .slice a3 f.n c3] 82))); have HFB3 : Hid ((w3.alloc (.cells #[.string f.name, .slice a1 f.n c1, .slice a2 f.n c2, .slice a3 f.n c3] 82)).heap[w3.heap.size]? = some (.cells #[.string f.name, .slice a1 f.n c1, .slice a2 f.n c2, .slice a3 f.n c3] 82)) := Lib.hid (heap_alloc_last w3 _); clear hb)
          | (refine wpList_store_row rfl 29 _ _ rfl (w.heap.size + 1) #[.slice (some ⟨b, off, none⟩) n cap, .int .i64 d.cap, .int .i64 d.ops, .bool false, .bool d.told, .int .i64 d.after] rfl rfl _ dz HS3f.out.d1.1 disk_info (by rfl) (by simp [Value.oneCell']) ?_))
        obtain ⟨e1, e2, e3⟩ := HS3f.out.done (cs' := #[.slice (some ⟨b, off, none⟩) n cap, .int .i64 d.cap, .int .i64 d.ops, .bool false, .bool d.told, .int .i64 d.after]) HS3f.out.rd rfl
        exact bodyPost_ret_by (results_row_tmp rfl _ _ (w.heap.size + 1) _ rfl (disk_load e1.1 rfl)) rfl ⟨_, rfl, e2, e3⟩
      by_cases h3 : (f.n : Int) < at_
      · rw [if_pos (.inr (.inl h3))]
        clear hd
        go_enter Try.func33, Try.ntmps33
        go_wp2_with (first
          | (refine wpList_load_row rfl 29 _ rfl w.heap.size rfl _ _ (0, 0) _ HS3f.out.d0.1 Try.underlying29 rfl HS3f.out.d0.info ?_)
          | (refine wpList_load_row rfl 29 _ rfl w.heap.size rfl _ _ (0, 0) _ HS.out.d0.1 Try.underlying29 rfl HS.out.d0.info ?_)
          | (go_at_call 63; (with_reducible refine (HFD.out _ (HS.out.rd.kin (unmask _ _))).mono ?_); rintro e w3 ⟨rfl, hb⟩; have HS3 := Lib.hid (HS.out.next hb); obtain ⟨k0, k1, k2, k3, p0⟩ := HCELL.out w3 hb; have HS3f := Lib.hid (HS3.out.next (below_alloc w3 (.cells #[.string f.name, .slice a1 f.n c1, .slice a2 f.n c2, .slice a3 f.n c3] 82))); have HB3w := Lib.hid (chain hb (below_alloc w3 (.cells #[.string f.name, .slice a1 f.n c1, .slice a2 f.n c2, .slice a3 f.n c3] 82))); have HFB3 : Hid ((w3.alloc (.cells #[.string f.name, .slice a1 f.n c1, .slice a2 f.n c2, .slice a3 f.n c3] 82)).heap[w3.heap.size]? = some (.cells #[.string f.name, .slice a1 f.n c1, .slice a2 f.n c2, .slice a3 f.n c3] 82)) := Lib.hid (heap_alloc_last w3 _); clear hb)
          | (refine wpList_store_row rfl 29 _ _ rfl (w.heap.size + 1) #[.slice (some ⟨b, off, none⟩) n cap, .int .i64 d.cap, .int .i64 d.ops, .bool false, .bool d.told, .int .i64 d.after] rfl rfl _ dz HS3f.out.d1.1 disk_info (by rfl) (by simp [Value.oneCell']) ?_))
        obtain ⟨e1, e2, e3⟩ := HS3f.out.done (cs' := #[.slice (some ⟨b, off, none⟩) n cap, .int .i64 d.cap, .int .i64 d.ops, .bool false, .bool d.told, .int .i64 d.after]) HS3f.out.rd rfl
        exact bodyPost_ret_by (results_row_tmp rfl _ _ (w.heap.size + 1) _ rfl (disk_load e1.1 rfl)) rfl ⟨_, rfl, e2, e3⟩
      have hsub : IntKind.i64.wrap ((f.n : Int) - at_) = (f.n : Int) - at_ := IntWalk.i64_in _ (by omega)
      by_cases h4 : (f.n : Int) - at_ < (m : Int)
      · rw [if_pos (.inr (.inr h4))]
        clear hd
        go_enter Try.func33, Try.ntmps33
        go_wp2_with (first
          | (refine wpList_load_row rfl 29 _ rfl w.heap.size rfl _ _ (0, 0) _ HS3f.out.d0.1 Try.underlying29 rfl HS3f.out.d0.info ?_)
          | (refine wpList_load_row rfl 29 _ rfl w.heap.size rfl _ _ (0, 0) _ HS.out.d0.1 Try.underlying29 rfl HS.out.d0.info ?_)
          | (go_at_call 63; (with_reducible refine (HFD.out _ (HS.out.rd.kin (unmask _ _))).mono ?_); rintro e w3 ⟨rfl, hb⟩; have HS3 := Lib.hid (HS.out.next hb); obtain ⟨k0, k1, k2, k3, p0⟩ := HCELL.out w3 hb; have HS3f := Lib.hid (HS3.out.next (below_alloc w3 (.cells #[.string f.name, .slice a1 f.n c1, .slice a2 f.n c2, .slice a3 f.n c3] 82))); have HB3w := Lib.hid (chain hb (below_alloc w3 (.cells #[.string f.name, .slice a1 f.n c1, .slice a2 f.n c2, .slice a3 f.n c3] 82))); have HFB3 : Hid ((w3.alloc (.cells #[.string f.name, .slice a1 f.n c1, .slice a2 f.n c2, .slice a3 f.n c3] 82)).heap[w3.heap.size]? = some (.cells #[.string f.name, .slice a1 f.n c1, .slice a2 f.n c2, .slice a3 f.n c3] 82)) := Lib.hid (heap_alloc_last w3 _); clear hb)
          | (refine wpList_store_row rfl 29 _ _ rfl (w.heap.size + 1) #[.slice (some ⟨b, off, none⟩) n cap, .int .i64 d.cap, .int .i64 d.ops, .bool false, .bool d.told, .int .i64 d.after] rfl rfl _ dz HS3f.out.d1.1 disk_info (by rfl) (by simp [Value.oneCell']) ?_))
        obtain ⟨e1, e2, e3⟩ := HS3f.out.done (cs' := #[.slice (some ⟨b, off, none⟩) n cap, .int .i64 d.cap, .int .i64 d.ops, .bool false, .bool d.told, .int .i64 d.after]) HS3f.out.rd rfl
        exact bodyPost_ret_by (results_row_tmp rfl _ _ (w.heap.size + 1) _ rfl (disk_load e1.1 rfl)) rfl ⟨_, rfl, e2, e3⟩
      rw [if_neg (by omega)]
      obtain ⟨A, rfl⟩ : ∃ A : Nat, at_ = (A : Int) := ⟨at_.toNat, by omega⟩
      rw [Int.toNat_natCast]
      by_cases ho : d.ope = 0
      · rw [AD.opR_done d _ ho]
        rw [ho] at HOP
        have HL2 := Lib.hid (AD.opd_L d)
        obtain ⟨d2, hd2⟩ : ∃ d2, d.opd = d2 := ⟨_, rfl⟩
        rw [hd2] at HOP HL2 ⊢
        have HLN := Lib.hid (show d2.L.length ≤ 1000000 from by rw [HL2.out]; exact hn1)
        obtain ⟨ns, hns⟩ : ∃ ns, wrS f.seen gs A m = ns := ⟨_, rfl⟩
        obtain ⟨nw, hnw⟩ : ∃ nw, wrW f.ws A m = nw := ⟨_, rfl⟩
        rw [show ({ f with seen := f.seen.take (A * 64) ++ gs ++ f.seen.drop (A * 64 + m * 64), ws := f.ws.take A ++ List.replicate m true ++ f.ws.drop (A + m) } : AF) = ⟨s, f.n, f.las, ns, nw⟩ from by rw [← HGN.out, ← hns, ← hnw]; rfl]
        have HNS := Lib.hid hns
        have HNW := Lib.hid hnw
        have HM4 := Lib.hid (show A + m ≤ f.n from by omega)
        clear ho hn1 hd2 hd hns hnw
        go_enter Try.func33, Try.ntmps33
        go_wp2_with (first
          | (refine wpList_load_row rfl 29 _ rfl w.heap.size rfl _ _ (0, 0) _ HS3f.out.d0.1 Try.underlying29 rfl HS3f.out.d0.info ?_)
          | (refine wpList_load_row rfl 29 _ rfl w.heap.size rfl _ _ (0, 0) _ HS.out.d0.1 Try.underlying29 rfl HS.out.d0.info ?_)
          | (go_at_call 63; (with_reducible refine (HFD.out _ (HS.out.rd.kin (unmask _ _))).mono ?_); rintro e w3 ⟨rfl, hb⟩; have HS3 := Lib.hid (HS.out.next hb); obtain ⟨k0, k1, k2, k3, p0⟩ := HCELL.out w3 hb; have HS3f := Lib.hid (HS3.out.next (below_alloc w3 (.cells #[.string f.name, .slice a1 f.n c1, .slice a2 f.n c2, .slice a3 f.n c3] 82))); have HB3w := Lib.hid (chain hb (below_alloc w3 (.cells #[.string f.name, .slice a1 f.n c1, .slice a2 f.n c2, .slice a3 f.n c3] 82))); have HFB3 : Hid ((w3.alloc (.cells #[.string f.name, .slice a1 f.n c1, .slice a2 f.n c2, .slice a3 f.n c3] 82)).heap[w3.heap.size]? = some (.cells #[.string f.name, .slice a1 f.n c1, .slice a2 f.n c2, .slice a3 f.n c3] 82)) := Lib.hid (heap_alloc_last w3 _); clear hb)
          | (go_at_call 64; (with_reducible refine (HOP.out _).mono ?_); rintro e w4 ⟨rfl, hb⟩; have HS4 := Lib.hid (HS3f.out.next hb); have HB4w := Lib.hid (chain HB3w.out hb); have HFB4 : Hid (w4.heap[w3.heap.size]? = some (.cells #[.string f.name, .slice a1 f.n c1, .slice a2 f.n c2, .slice a3 f.n c3] 82)) := Lib.hid ((hb.block _ (by rw [alloc_size]; omega)).trans HFB3.out); have HLT : Hid (w3.heap.size < w4.heap.size) := Lib.hid (by have h1 := hb.size; rw [alloc_size] at h1; omega); clear hb)
          | (refine wpl_store_newD rfl _ _ rfl rfl w4.heap.size rfl #[.slice (some ⟨b, off, none⟩) n cap, .int .i64 d2.cap, .int .i64 d2.ops, .bool d2.down, .bool d2.told, .int .i64 d2.after] rfl (by simp [Value.oneCell']) rfl rfl ?_; intro w5 HX5 hb5; have HS5 := Lib.hid (HS4.out.next hb5.out); have HB5w := Lib.hid (chain HB4w.out hb5.out); have HLT5 : Hid (w3.heap.size < w5.heap.size) := Lib.hid (Nat.lt_of_lt_of_le HLT.out hb5.out.size); have HFB5 : Hid (w5.heap[w3.heap.size]? = some (.cells #[.string f.name, .slice a1 f.n c1, .slice a2 f.n c2, .slice a3 f.n c3] 82)) := Lib.hid ((hb5.out.block _ HLT.out).trans HFB4.out); clear hb5)
          | (refine wpList_load_row rfl 29 _ rfl w4.heap.size rfl _ _ (0, 0) _ HX5.out.1 Try.underlying29 rfl HX5.out.info ?_))
        have hsl : f.seen.length = f.n * 64 := HF4.out.2.1.length
        have hwl : f.ws.length = f.n := HF4.out.2.2.length
        have HSL := Lib.hid hsl
        have HWL := Lib.hid hwl
        have HGL := Lib.hid hgl
        have HFCELL : Hid (∀ wx, Below w5.heap.size w5 wx → wx.cell? ⟨w3.heap.size, 0, none⟩ = some (.string f.name) ∧ wx.cell? ⟨w3.heap.size, 1, none⟩ = some (.slice a1 f.n c1) ∧ wx.cell? ⟨w3.heap.size, 2, none⟩ = some (.slice a2 f.n c2) ∧ wx.cell? ⟨w3.heap.size, 3, none⟩ = some (.slice a3 f.n c3)) := Lib.hid fun wx hb => by
          have hc := fun q => cell_of_row wx w3.heap.size q _ _ _ ((hb.block _ HLT5.out).trans HFB5.out)
          exact ⟨hc 0, hc 1, hc 2, hc 3⟩
        clear hsl hwl
        go_loopw [14, 15, 16] (fun sv_ bv_ iv wr => ∃ i : Nat, iv = .int .i64 i ∧ i ≤ f.n ∧ Hid (wr.ownsRow w5.heap.size 67 64 sv_ i (il .u8 (ns.take (i * 64)))) ∧ Hid (wr.ownsRow w5.heap.size 4 1 bv_ i ((nw.take i).map .bool)) ∧ Hid (Below w5.heap.size w5 wr)) (fun _ _ iv _ => f.n - (intOf iv).toNat)
        case atStart => exact ⟨0, rfl, by omega, Lib.hid (by rw [Nat.zero_mul, List.take_zero]; exact World.ownsRow_nil _ _ _ _), Lib.hid (by rw [List.take_zero]; exact World.ownsRow_nil _ _ _ _), Lib.hid (Below.refl _ _)⟩
        case round =>
          obtain ⟨i, rfl, hi, HO, HOB, HB⟩ := hrel
          obtain ⟨y0, y1, y2, y3⟩ := HFCELL.out wr HB.out
          by_cases hlt : (i : Int) < (f.n : Int)
          · have hin : i < f.n := by omega
            have HS1 := Lib.hid (wrS_step f.seen gs A m f.n i HSL.out HGL.out HM4.out)
            have HW1 := Lib.hid (wrW_step f.ws A m f.n i HWL.out HM4.out hin)
            rw [HNS.out] at HS1
            rw [HNW.out] at HW1
            by_cases hc : A ≤ i ∧ i - A < m
            · obtain ⟨p, hp⟩ : ∃ p, i - A = p := ⟨_, rfl⟩
              have hpi : (i : Int) - (A : Int) = (p : Int) := by omega
              have hpw : IntKind.i64.wrap (p : Int) = (p : Int) := IntWalk.i64_in _ (by omega)
              have hAi : (A : Int) ≤ (i : Int) := by omega
              have hpm : (p : Int) < (m : Int) := by omega
              obtain ⟨bl, ol, rfl, hat⟩ := (HVL.out.kin ((unmask _ _).trans (Kin.below (chain HB5w.out HB.out)))).at_ p (by omega)
              rw [if_pos hc, hp] at HS1
              rw [if_pos hc] at HW1
              obtain ⟨z, hz⟩ : ∃ z, (gs.drop (p * 64)).take 64 = z := ⟨_, rfl⟩
              rw [hz] at hat HS1
              have HA := Lib.hid hat
              clear hat hz hc hp hin
              go_wp2_with (first
                | (refine wpl_load_at rfl _ rfl bl (ol + p * 64) rfl z HA.out ?_)
                | (refine wpl_build_sec rfl (.tmp 84) rfl z HA.out.1 rfl ?_)
                | (at_builtin; (refine wpl_app_fs rfl (.tmp 78) (.tmp 85) rfl w5.heap.size u14 i _ rfl (Lib.hid (own_keep HO.out (below_alloc _ _))) _ 1 z rfl (Lib.hid (FS.blk (Blk.new wr z HA.out.1))) (by omega) w5.heap.size w5 (Lib.hid (HB.out.alloc HB.out.size _)) (Nat.le_refl _) (by rw [alloc_size]; have := HB.out.size; omega) ?_); intro v6 w6 HO6 HB6 HG6; (have HX1 := own_keep HOB.out (below_alloc wr (.cells (sv z) 67)); have HX2 := own_keep HO.out (below_alloc wr (.cells (sv z) 67)); have HOB6 := Lib.hid (own_over HX1 HG6.out (own_types HX1 HX2 (by decide))); clear HX1 HX2))
                | (at_builtin; refine wpl_app_bool rfl (.tmp 87) (.tmp 88) rfl w5.heap.size u15 i _ rfl (Lib.hid (own_keep HOB6.out (below_alloc _ _))) w6.heap.size true rfl (alloc_cell _ _ _) (by omega) w5.heap.size w5 (Lib.hid (HB6.out.alloc HB6.out.size _)) (Nat.le_refl _) (by rw [alloc_size]; have := HB6.out.size; omega) ?_; intro v7 w7 HOB7 HB7 HG7; (have HX1 := own_keep HOB6.out (below_alloc w6 (.cells #[.bool true] 4)); have HX2 := own_keep HO6.out (below_alloc w6 (.cells #[.bool true] 4)); have HO7 := Lib.hid (own_over HX2 HG7.out (own_types HX2 HX1 (by decide))); clear HX1 HX2)))
              go_roundw
              case rel => exact ⟨i + 1, by go_num, by omega, Lib.hid (by rw [HS1.out]; exact HO7.out), Lib.hid (by rw [HW1.out]; exact HOB7.out), HB7⟩
              case measure => simp [intOf]; omega
            · obtain ⟨b2, o2, e2, hat⟩ := (HF4.out.2.1.kin ((unmask _ _).trans (Kin.below (chain HB5w.out HB.out)))).at_ i hin
              obtain ⟨b3, o3, e3, hbw⟩ := (HF4.out.2.2.kin ((unmask _ _).trans (Kin.below (chain HB5w.out HB.out)))).at_ i hin
              rw [e2] at y2
              rw [e3] at y3
              have HC3 : Hid (∀ wx, Below w5.heap.size w5 wx → wx.cell? ⟨w3.heap.size, 3, none⟩ = some (.slice (some ⟨b3, o3, none⟩) f.n c3) ∧ wx.cell? ⟨b3, o3 + i, none⟩ = some (.bool (f.ws.getD i false))) := Lib.hid fun wx hb => by
                obtain ⟨_, _, _, z3⟩ := HFCELL.out wx hb
                rw [e3] at z3
                have hk := (HF4.out.2.2.kin ((unmask _ _).trans (Kin.below (chain HB5w.out hb))))
                rw [e3] at hk
                obtain ⟨b4, o4, e4, hb4⟩ := hk.at_ i hin
                simp only [Option.some.injEq, Addr.mk.injEq, and_true] at e4
                obtain ⟨rfl, rfl⟩ := e4
                exact ⟨z3, hb4⟩
              rw [if_neg hc] at HS1
              rw [if_neg hc] at HW1
              obtain ⟨z, hz⟩ : ∃ z, (f.seen.drop (i * 64)).take 64 = z := ⟨_, rfl⟩
              obtain ⟨y, hy⟩ : ∃ y, f.ws.getD i false = y := ⟨_, rfl⟩
              rw [hz] at hat HS1
              rw [hy] at hbw HC3 HW1
              have HA := Lib.hid hat
              clear hat hz hy e2 e3
              by_cases hAi : (A : Int) ≤ (i : Int)
              · obtain ⟨p, hp⟩ : ∃ p, i - A = p := ⟨_, rfl⟩
                have hpi : (i : Int) - (A : Int) = (p : Int) := by omega
                have hpw : IntKind.i64.wrap (p : Int) = (p : Int) := IntWalk.i64_in _ (by omega)
                have hpm : ¬ (p : Int) < (m : Int) := by omega
                clear hc hp hin
                go_wp2_with (first
                  | (refine wpl_load_at rfl _ rfl b2 (o2 + i * 64) rfl z HA.out ?_)
                  | (refine wpl_build_sec rfl (.tmp 95) rfl z HA.out.1 rfl ?_)
                  | (at_builtin; (refine wpl_app_fs rfl (.tmp 90) (.tmp 96) rfl w5.heap.size u14 i _ rfl (Lib.hid (own_keep HO.out (below_alloc _ _))) _ 1 z rfl (Lib.hid (FS.blk (Blk.new wr z HA.out.1))) (by omega) w5.heap.size w5 (Lib.hid (HB.out.alloc HB.out.size _)) (Nat.le_refl _) (by rw [alloc_size]; have := HB.out.size; omega) ?_); intro v6 w6 HO6 HB6 HG6; (have HX1 := own_keep HOB.out (below_alloc wr (.cells (sv z) 67)); have HX2 := own_keep HO.out (below_alloc wr (.cells (sv z) 67)); have HOB6 := Lib.hid (own_over HX1 HG6.out (own_types HX1 HX2 (by decide))); clear HX1 HX2; obtain ⟨x3, x4⟩ := HC3.out w6 HB6.out))
                  | (at_builtin; (refine wpl_app_bool rfl (.tmp 98) (.tmp 104) rfl w5.heap.size u15 i _ rfl (Lib.hid (own_keep HOB6.out (below_alloc _ _))) w6.heap.size y rfl (alloc_cell _ _ _) (by omega) w5.heap.size w5 (Lib.hid (HB6.out.alloc HB6.out.size _)) (Nat.le_refl _) (by rw [alloc_size]; have := HB6.out.size; omega) ?_); intro v7 w7 HOB7 HB7 HG7; (have HX1 := own_keep HOB6.out (below_alloc w6 (.cells #[.bool y] 4)); have HX2 := own_keep HO6.out (below_alloc w6 (.cells #[.bool y] 4)); have HO7 := Lib.hid (own_over HX2 HG7.out (own_types HX2 HX1 (by decide))); clear HX1 HX2)))
                go_roundw
                case rel => exact ⟨i + 1, by go_num, by omega, Lib.hid (by rw [HS1.out]; exact HO7.out), Lib.hid (by rw [HW1.out]; exact HOB7.out), HB7⟩
                case measure => simp [intOf]; omega
              · clear hc hin
                go_wp2_with (first
                  | (refine wpl_load_at rfl _ rfl b2 (o2 + i * 64) rfl z HA.out ?_)
                  | (refine wpl_build_sec rfl (.tmp 95) rfl z HA.out.1 rfl ?_)
                  | (at_builtin; (refine wpl_app_fs rfl (.tmp 90) (.tmp 96) rfl w5.heap.size u14 i _ rfl (Lib.hid (own_keep HO.out (below_alloc _ _))) _ 1 z rfl (Lib.hid (FS.blk (Blk.new wr z HA.out.1))) (by omega) w5.heap.size w5 (Lib.hid (HB.out.alloc HB.out.size _)) (Nat.le_refl _) (by rw [alloc_size]; have := HB.out.size; omega) ?_); intro v6 w6 HO6 HB6 HG6; (have HX1 := own_keep HOB.out (below_alloc wr (.cells (sv z) 67)); have HX2 := own_keep HO.out (below_alloc wr (.cells (sv z) 67)); have HOB6 := Lib.hid (own_over HX1 HG6.out (own_types HX1 HX2 (by decide))); clear HX1 HX2; obtain ⟨x3, x4⟩ := HC3.out w6 HB6.out))
                  | (at_builtin; (refine wpl_app_bool rfl (.tmp 98) (.tmp 104) rfl w5.heap.size u15 i _ rfl (Lib.hid (own_keep HOB6.out (below_alloc _ _))) w6.heap.size y rfl (alloc_cell _ _ _) (by omega) w5.heap.size w5 (Lib.hid (HB6.out.alloc HB6.out.size _)) (Nat.le_refl _) (by rw [alloc_size]; have := HB6.out.size; omega) ?_); intro v7 w7 HOB7 HB7 HG7; (have HX1 := own_keep HOB6.out (below_alloc w6 (.cells #[.bool y] 4)); have HX2 := own_keep HO6.out (below_alloc w6 (.cells #[.bool y] 4)); have HO7 := Lib.hid (own_over HX2 HG7.out (own_types HX2 HX1 (by decide))); clear HX1 HX2)))
                go_roundw
                case rel => exact ⟨i + 1, by go_num, by omega, Lib.hid (by rw [HS1.out]; exact HO7.out), Lib.hid (by rw [HW1.out]; exact HOB7.out), HB7⟩
                case measure => simp [intOf]; omega
          · have hq : i = f.n := by omega
            obtain ⟨nn, hnn⟩ : ∃ nn, f.n = nn := ⟨_, rfl⟩
            have hall : ns.take (i * 64) = ns := List.take_of_length_le (by rw [← HNS.out, hq]; exact Nat.le_of_eq (wrS_length f.seen gs A m f.n HSL.out HGL.out HM4.out))
            have hallw : nw.take i = nw := List.take_of_length_le (by rw [← HNW.out, hq]; exact Nat.le_of_eq (wrW_length f.ws A m f.n HWL.out HM4.out))
            rw [hall] at HO
            rw [hallw] at HOB
            rw [hq] at HO HOB hlt ⊢
            obtain ⟨a8, c8, rfl⟩ := own_slice HO.out
            obtain ⟨a9, c9, rfl⟩ := own_slice HOB.out
            have HS6 := Lib.hid (HS5.out.next HB.out)
            have HX6 := Lib.hid (HX5.out.next HB.out)
            have HRF := Lib.hid (show RF (mask (boxF F w) wr) [.string s, .slice a1 f.n c1, .slice a8 f.n c8, .slice a9 f.n c9] ⟨s, f.n, f.las, ns, nw⟩ from ⟨_, _, _, rfl, HF4.out.1.kin (kin_mask (chain HB5w.out HB.out)), FS.own (own_mask HS5.out.foot HO.out), CS.own (own_mask HS5.out.foot HOB.out)⟩)
            clear hall hallw hnn hq
            go_wp2_with (first
              | (refine wpList_load_row rfl 29 _ rfl w4.heap.size rfl _ _ (0, 0) _ HX6.out.1 Try.underlying29 rfl HX6.out.info ?_)
              | (go_at_call 47; (refine (rwith_any (boxF F w) _ d2 a1 c1 a8 c8 a9 c9 ⟨s, f.n, f.las, ns, nw⟩ _ HS6.out.foot (HS6.out.rd.re HL2.out) HRF.out HLN.out).mono ?_); rintro e w8 ⟨v8, rfl, hr8, hb⟩; have HS8 := Lib.hid (HS6.out.next hb); obtain ⟨a7, n7, c7, rfl, _⟩ := hr8.agg; have HR8 := Lib.hid hr8)
              | (refine wpList_store_row rfl 29 _ _ rfl (w.heap.size + 1) #[.slice a7 n7 c7, .int .i64 (d2.withF ⟨s, f.n, f.las, ns, nw⟩).cap, .int .i64 (d2.withF ⟨s, f.n, f.las, ns, nw⟩).ops, .bool (d2.withF ⟨s, f.n, f.las, ns, nw⟩).down, .bool (d2.withF ⟨s, f.n, f.las, ns, nw⟩).told, .int .i64 (d2.withF ⟨s, f.n, f.las, ns, nw⟩).after] rfl rfl _ dz HS8.out.d1.1 disk_info (by rfl) (by simp [Value.oneCell']) ?_))
            obtain ⟨e1, e2, e3⟩ := HS8.out.done (cs' := #[.slice a7 n7 c7, .int .i64 (d2.withF ⟨s, f.n, f.las, ns, nw⟩).cap, .int .i64 (d2.withF ⟨s, f.n, f.las, ns, nw⟩).ops, .bool (d2.withF ⟨s, f.n, f.las, ns, nw⟩).down, .bool (d2.withF ⟨s, f.n, f.las, ns, nw⟩).told, .int .i64 (d2.withF ⟨s, f.n, f.las, ns, nw⟩).after]) HR8.out rfl
            exact bodyPost_ret_by (results_row_tmp rfl _ _ (w.heap.size + 1) _ rfl (disk_load e1.1 rfl)) rfl ⟨_, rfl, e2, e3⟩
      · rw [AD.opR_not d _ ho]
        have h9 : d.ope = 9 := d.ope_or.resolve_left ho
        rw [h9] at HOP
        have HL2 := Lib.hid (AD.opd_L d)
        obtain ⟨d2, hd2⟩ : ∃ d2, d.opd = d2 := ⟨_, rfl⟩
        rw [hd2] at HOP HL2 ⊢
        have HLN := Lib.hid (show d2.L.length ≤ 1000000 from by rw [HL2.out]; exact hn1)
        clear ho hn1 hd2 hd h9
        go_enter Try.func33, Try.ntmps33
        go_wp2_with (first
          | (refine wpList_load_row rfl 29 _ rfl w.heap.size rfl _ _ (0, 0) _ HS3f.out.d0.1 Try.underlying29 rfl HS3f.out.d0.info ?_)
          | (refine wpList_load_row rfl 29 _ rfl w.heap.size rfl _ _ (0, 0) _ HS.out.d0.1 Try.underlying29 rfl HS.out.d0.info ?_)
          | (go_at_call 63; (with_reducible refine (HFD.out _ (HS.out.rd.kin (unmask _ _))).mono ?_); rintro e w3 ⟨rfl, hb⟩; have HS3 := Lib.hid (HS.out.next hb); obtain ⟨k0, k1, k2, k3, p0⟩ := HCELL.out w3 hb; have HS3f := Lib.hid (HS3.out.next (below_alloc w3 (.cells #[.string f.name, .slice a1 f.n c1, .slice a2 f.n c2, .slice a3 f.n c3] 82))); have HB3w := Lib.hid (chain hb (below_alloc w3 (.cells #[.string f.name, .slice a1 f.n c1, .slice a2 f.n c2, .slice a3 f.n c3] 82))); have HFB3 : Hid ((w3.alloc (.cells #[.string f.name, .slice a1 f.n c1, .slice a2 f.n c2, .slice a3 f.n c3] 82)).heap[w3.heap.size]? = some (.cells #[.string f.name, .slice a1 f.n c1, .slice a2 f.n c2, .slice a3 f.n c3] 82)) := Lib.hid (heap_alloc_last w3 _); clear hb)
          | (go_at_call 64; (with_reducible refine (HOP.out _).mono ?_); rintro e w4 ⟨rfl, hb⟩; have HS4 := Lib.hid (HS3f.out.next hb); clear hb)
          | (refine wpl_store_newD rfl _ _ rfl rfl w4.heap.size rfl #[.slice (some ⟨b, off, none⟩) n cap, .int .i64 d2.cap, .int .i64 d2.ops, .bool d2.down, .bool d2.told, .int .i64 d2.after] rfl (by simp [Value.oneCell']) rfl rfl ?_; intro w5 HX5 hb5; have HS5 := Lib.hid (HS4.out.next hb5.out); clear hb5)
          | (refine wpList_load_row rfl 29 _ rfl w4.heap.size rfl _ _ (0, 0) _ HX5.out.1 Try.underlying29 rfl HX5.out.info ?_)
          | (refine wpList_store_row rfl 29 _ _ rfl (w.heap.size + 1) #[.slice (some ⟨b, off, none⟩) n cap, .int .i64 d2.cap, .int .i64 d2.ops, .bool d2.down, .bool d2.told, .int .i64 d2.after] rfl rfl _ dz HS5.out.d1.1 disk_info (by rfl) (by simp [Value.oneCell']) ?_))
        obtain ⟨e1, e2, e3⟩ := HS5.out.done (cs' := #[.slice (some ⟨b, off, none⟩) n cap, .int .i64 d2.cap, .int .i64 d2.ops, .bool d2.down, .bool d2.told, .int .i64 d2.after]) (HS5.out.rd.re HL2.out) rfl
        exact bodyPost_ret_by (results_row_tmp rfl _ _ (w.heap.size + 1) _ rfl (disk_load e1.1 rfl)) rfl ⟨_, rfl, e2, e3⟩
    · rw [if_pos (by simpa using hh)]
      have hi0 : i < 0 := by rw [← hi, AD.find_neg]; exact hh
      clear hi hh hd
      go_enter Try.func33, Try.ntmps33
      go_wp2_with (first
        | (refine wpList_load_row rfl 29 _ rfl w.heap.size rfl _ _ (0, 0) _ HS3.out.d0.1 Try.underlying29 rfl HS3.out.d0.info ?_)
        | (refine wpList_load_row rfl 29 _ rfl w.heap.size rfl _ _ (0, 0) _ HS.out.d0.1 Try.underlying29 rfl HS.out.d0.info ?_)
        | (go_at_call 63; (with_reducible refine (HFD.out _ (HS.out.rd.kin (unmask _ _))).mono ?_); rintro e w3 ⟨rfl, hb⟩; have HS3 := Lib.hid (HS.out.next hb); clear hb)
        | (refine wpList_store_row rfl 29 _ _ rfl (w.heap.size + 1) #[.slice a n cap, .int .i64 d.cap, .int .i64 d.ops, .bool false, .bool d.told, .int .i64 d.after] rfl rfl _ dz HS3.out.d1.1 disk_info (by rfl) (by simp [Value.oneCell']) ?_))
      obtain ⟨e1, e2, e3⟩ := HS3.out.done (cs' := #[.slice a n cap, .int .i64 d.cap, .int .i64 d.ops, .bool false, .bool d.told, .int .i64 d.after]) HS3.out.rd rfl
      exact bodyPost_ret_by (results_row_tmp rfl _ _ (w.heap.size + 1) _ rfl (disk_load e1.1 rfl)) rfl ⟨_, rfl, e2, e3⟩
end Go.Proofs.Ytpnialanmidekaa
