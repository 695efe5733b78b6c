/-
  WHAT THE DOCUMENT'S ANSWERS OF LAYER 8 (disk) ANSWER: the reference's Read.
-/
import Derived.Test.YtpnialanmidekaaDiskMake
import Derived.Test.YtpnialanmidekaaDiskSecs
namespace Go.Proofs.Ytpnialanmidekaa
open Go.RowKit
set_option maxRecDepth 8000 in
set_option maxHeartbeats 2000000 in
theorem rread_any (F : Nat → Bool) (vd : Value) (d : AD) (s : ByteArray) (at_ k : Int) (w : World) (hF : Foot F w.heap.size) (h : RD (mask F w) vd d) (ha63 : I63 at_) (hk63 : I63 k) (hfn : ((d.get s).n : Int) ≤ 1000000000) :
    Calls Try.prog 39 #[vd, .string s, .int .i64 at_, .int .i64 k] w fun e w' => ∃ v', e = .returned (.tuple #[v', .int .i64 (d.readR s at_ k).2.2]) ∧ FS (mask F w') v' (d.readR s at_ k).2.1 (d.readR s at_ k).1 ∧ Below w.heap.size w w' := by
  obtain ⟨a, n, cap, rfl, hn, hc1, hc2⟩ := h.agg
  obtain ⟨W1, hW1⟩ : ∃ W1, w.alloc (.cells #[.slice a n cap, .int .i64 d.cap, .int .i64 d.ops, .bool d.down, .bool d.told, .int .i64 d.after] 29) = W1 := ⟨_, rfl⟩
  have hb1 : Below w.heap.size w W1 := by rw [← hW1]; exact below_alloc w _
  have hd1 : DB W1 w.heap.size #[.slice a n cap, .int .i64 d.cap, .int .i64 d.ops, .bool d.down, .bool d.told, .int .i64 d.after] := by rw [← hW1]; exact ⟨heap_alloc_last w _, rfl⟩
  have HD1 := Lib.hid hd1
  have HB1 := Lib.hid hb1
  have HRD := Lib.hid (h.kin (kin_mask hb1))
  have HN := Lib.hid hn
  obtain ⟨q0, q1, q2, q3, q4, q5⟩ := hd1.six
  clear hd1 hb1 hn h
  unfold I63 at ha63 hk63
  have HFT := Lib.hid hF
  clear hF
  unfold AD.readR
  by_cases hd : d.down = true
  · rw [if_pos hd]
    simp only [hd] at q3 hW1 HD1 HRD ⊢
    clear hd
    go_enter Try.func39, Try.ntmps39
    go_wp2
    go_ret2
    exact ⟨_, rfl, FS.nil _, HB1.out⟩
  · rw [if_neg hd]
    rw [Bool.not_eq_true] at hd
    simp only [hd] at q3 hW1 HD1 HRD ⊢
    obtain ⟨i, hi⟩ : ∃ i, findI d.L s = i := ⟨_, rfl⟩
    have HFD := Lib.hid fun W (hw : RD W (.agg #[.slice a n cap, .int .i64 d.cap, .int .i64 d.ops, .bool false, .bool d.told, .int .i64 d.after]) d) => rfind_any (.agg #[.slice a n cap, .int .i64 d.cap, .int .i64 d.ops, .bool false, .bool d.told, .int .i64 d.after]) d s W hw
    rw [hi] at HFD
    by_cases hh : d.has s
    · rw [if_neg (by simpa using hh)]
      have hi0 : i = (idxN d.L s : Int) := by rw [← hi]; exact d.find_has s hh
      obtain ⟨j, hj⟩ : ∃ j, idxN d.L s = j := ⟨_, rfl⟩
      have hga := d.get_at s hh
      have hgn := d.get_name s hh
      rw [hj] at hga hi0
      subst hi0
      obtain ⟨f, hf⟩ : ∃ f, d.get s = f := ⟨_, rfl⟩
      rw [hf] at hga hgn ⊢
      have hjn : j < n := by rw [← HN.out]; exact (List.getElem?_eq_some_iff.1 hga).1
      rw [hf] at hfn
      have HGA := Lib.hid hga
      clear hi hh hf hgn hga hd
      by_cases h1 : at_ < 0
      · rw [if_pos (.inl h1)]
        skip
        go_enter Try.func39, Try.ntmps39
        go_wp2_with (first
          | (refine wpList_load_row rfl 29 _ rfl w.heap.size rfl _ _ (0, 0) _ HD1.out.1 Try.underlying29 rfl HD1.out.info ?_)
          | (go_at_call 63; (with_reducible refine (HFD.out _ (HRD.out.kin (unmask _ _))).mono ?_); rintro e w3 ⟨rfl, hb⟩; obtain ⟨b, off, a1, c1, a2, c2, a3, c3, rfl, k0, k1, k2, k3, f1, f2, f3⟩ := HRD.out.fls.form4 j f HGA.out; have hkk : Kin (mask F W1) w3 := (unmask F W1).trans (Kin.below hb); replace k0 := hkk _ _ k0; replace k1 := hkk _ _ k1; replace k2 := hkk _ _ k2; replace k3 := hkk _ _ k3; have HF2 := Lib.hid (f2.kin (hkk)); have p0 := (HD1.out.next hb).cell 0; simp only [List.getElem?_toArray, List.getElem?_cons_zero] at p0; clear f1 f2 f3 hkk; have HB3 := Lib.hid (chain HB1.out hb); clear hb))
        go_ret2
        exact ⟨_, rfl, FS.nil _, chain HB3.out (below_alloc _ _)⟩
      by_cases h2 : k < 0
      · rw [if_pos (.inr (.inl h2))]
        skip
        go_enter Try.func39, Try.ntmps39
        go_wp2_with (first
          | (refine wpList_load_row rfl 29 _ rfl w.heap.size rfl _ _ (0, 0) _ HD1.out.1 Try.underlying29 rfl HD1.out.info ?_)
          | (go_at_call 63; (with_reducible refine (HFD.out _ (HRD.out.kin (unmask _ _))).mono ?_); rintro e w3 ⟨rfl, hb⟩; obtain ⟨b, off, a1, c1, a2, c2, a3, c3, rfl, k0, k1, k2, k3, f1, f2, f3⟩ := HRD.out.fls.form4 j f HGA.out; have hkk : Kin (mask F W1) w3 := (unmask F W1).trans (Kin.below hb); replace k0 := hkk _ _ k0; replace k1 := hkk _ _ k1; replace k2 := hkk _ _ k2; replace k3 := hkk _ _ k3; have HF2 := Lib.hid (f2.kin (hkk)); have p0 := (HD1.out.next hb).cell 0; simp only [List.getElem?_toArray, List.getElem?_cons_zero] at p0; clear f1 f2 f3 hkk; have HB3 := Lib.hid (chain HB1.out hb); clear hb))
        go_ret2
        exact ⟨_, rfl, FS.nil _, chain HB3.out (below_alloc _ _)⟩
      by_cases h3 : (f.n : Int) < at_
      · rw [if_pos (.inr (.inr (.inl h3)))]
        skip
        go_enter Try.func39, Try.ntmps39
        go_wp2_with (first
          | (refine wpList_load_row rfl 29 _ rfl w.heap.size rfl _ _ (0, 0) _ HD1.out.1 Try.underlying29 rfl HD1.out.info ?_)
          | (go_at_call 63; (with_reducible refine (HFD.out _ (HRD.out.kin (unmask _ _))).mono ?_); rintro e w3 ⟨rfl, hb⟩; obtain ⟨b, off, a1, c1, a2, c2, a3, c3, rfl, k0, k1, k2, k3, f1, f2, f3⟩ := HRD.out.fls.form4 j f HGA.out; have hkk : Kin (mask F W1) w3 := (unmask F W1).trans (Kin.below hb); replace k0 := hkk _ _ k0; replace k1 := hkk _ _ k1; replace k2 := hkk _ _ k2; replace k3 := hkk _ _ k3; have HF2 := Lib.hid (f2.kin (hkk)); have p0 := (HD1.out.next hb).cell 0; simp only [List.getElem?_toArray, List.getElem?_cons_zero] at p0; clear f1 f2 f3 hkk; have HB3 := Lib.hid (chain HB1.out hb); clear hb))
        go_ret2
        exact ⟨_, rfl, FS.nil _, chain HB3.out (below_alloc _ _)⟩
      have hsub : IntKind.i64.wrap ((f.n : Int) - at_) = (f.n : Int) - at_ := IntWalk.i64_in _ (by omega)
      by_cases h4 : (f.n : Int) - at_ < k
      · rw [if_pos (.inr (.inr (.inr h4)))]
        skip
        go_enter Try.func39, Try.ntmps39
        go_wp2_with (first
          | (refine wpList_load_row rfl 29 _ rfl w.heap.size rfl _ _ (0, 0) _ HD1.out.1 Try.underlying29 rfl HD1.out.info ?_)
          | (go_at_call 63; (with_reducible refine (HFD.out _ (HRD.out.kin (unmask _ _))).mono ?_); rintro e w3 ⟨rfl, hb⟩; obtain ⟨b, off, a1, c1, a2, c2, a3, c3, rfl, k0, k1, k2, k3, f1, f2, f3⟩ := HRD.out.fls.form4 j f HGA.out; have hkk : Kin (mask F W1) w3 := (unmask F W1).trans (Kin.below hb); replace k0 := hkk _ _ k0; replace k1 := hkk _ _ k1; replace k2 := hkk _ _ k2; replace k3 := hkk _ _ k3; have HF2 := Lib.hid (f2.kin (hkk)); have p0 := (HD1.out.next hb).cell 0; simp only [List.getElem?_toArray, List.getElem?_cons_zero] at p0; clear f1 f2 f3 hkk; have HB3 := Lib.hid (chain HB1.out hb); clear hb))
        go_ret2
        exact ⟨_, rfl, FS.nil _, chain HB3.out (below_alloc _ _)⟩
      rw [if_neg (by omega)]
      obtain ⟨A, rfl⟩ : ∃ A : Nat, at_ = (A : Int) := ⟨at_.toNat, by omega⟩
      obtain ⟨kq, rfl⟩ : ∃ kq : Nat, k = (kq : Int) := ⟨k.toNat, by omega⟩
      rw [Int.toNat_natCast, Int.toNat_natCast]
      have hadd : IntKind.i64.wrap ((A : Int) + (kq : Int)) = ((A + kq : Nat) : Int) := by rw [IntWalk.i64_in _ (by omega)]; omega
      obtain ⟨b, off, a1, c1, a2, c2, a3, c3, rfl, k0, k1, k2, k3, f1, f2, f3⟩ := HRD.out.fls.form4 j f HGA.out
      have HCELL : Hid (∀ w3, Below W1.heap.size W1 w3 → w3.cell? ⟨b, off + j * 4, none⟩ = some (.string f.name) ∧ w3.cell? ⟨b, off + j * 4 + 1, none⟩ = some (.slice a1 f.n c1) ∧ w3.cell? ⟨b, off + j * 4 + 2, none⟩ = some (.slice a2 f.n c2) ∧ w3.cell? ⟨b, off + j * 4 + 3, none⟩ = some (.slice a3 f.n c3) ∧ w3.cell? ⟨w.heap.size, 0, none⟩ = some (.slice (some ⟨b, off, none⟩) n cap)) := Lib.hid fun w3 hb => by
        have hkk : Kin (mask F W1) w3 := (unmask F W1).trans (Kin.below hb)
        exact ⟨hkk _ _ k0, hkk _ _ k1, hkk _ _ k2, hkk _ _ k3, (HD1.out.next hb).cell 0⟩
      have HF2 := Lib.hid (f2.kin (unmask F W1))
      have hc2n : f.n ≤ c2 := by obtain ⟨_, _, e, _, h5, _⟩ := f2; simp at e; omega
      clear k0 k1 k2 k3 f1 f2 f3
      by_cases hca : c2 = A
      · subst hca
        obtain rfl : kq = 0 := by omega
        have HMID : Hid (FS W1 (.slice a2 0 0) 0 ((f.seen.drop (c2 * 64)).take (0 * 64))) := Lib.hid (by have h := HF2.out.mid c2 0 (by omega); simpa [sliced] using h)
        go_enter Try.func39, Try.ntmps39
        go_wp2_with (first
          | (refine wpList_load_row rfl 29 _ rfl w.heap.size rfl _ _ (0, 0) _ HD1.out.1 Try.underlying29 rfl HD1.out.info ?_)
          | (go_at_call 63; (with_reducible refine (HFD.out _ (HRD.out.kin (unmask _ _))).mono ?_); rintro e w3 ⟨rfl, hb⟩; obtain ⟨k0, k1, k2, k3, p0⟩ := HCELL.out w3 hb; have HF3 := Lib.hid (HMID.out.keep hb); have HB3 := Lib.hid (chain HB1.out hb); clear hb)
          | (at_builtin; refine wpl_app_fs rfl (.tmp 46) (.tmp 53) rfl w.heap.size _ 0 [] rfl (own_empty64 (by rw [alloc_size]) (by have := HB3.out.size; omega)) _ 0 _ rfl (Lib.hid (HF3.out.keep (chain (below_alloc _ _) (below_alloc _ _)))) (by omega) w.heap.size w (Lib.hid (chain (chain HB3.out (below_alloc _ _)) (below_alloc _ _))) (Nat.le_refl _) (by rw [alloc_size, alloc_size]; have := HB3.out.size; omega) ?_; intro v9 w9 HO9 HB9 _))
        go_ret2
        exact ⟨_, rfl, by rw [Nat.zero_add, List.nil_append] at HO9; exact FS.own (own_mask HFT.out HO9.out), HB9.out⟩
      · have HMID : Hid (FS W1 (.slice (Option.map (fun x => x.add (A * 64)) a2) (A + kq - A) (c2 - A)) kq ((f.seen.drop (A * 64)).take (kq * 64))) := Lib.hid (by have h := HF2.out.mid A kq (by omega); simpa [sliced, hca] using h)
        have hca' : ¬ c2 = A := hca
        go_enter Try.func39, Try.ntmps39
        go_wp2_with (first
          | (refine wpList_load_row rfl 29 _ rfl w.heap.size rfl _ _ (0, 0) _ HD1.out.1 Try.underlying29 rfl HD1.out.info ?_)
          | (go_at_call 63; (with_reducible refine (HFD.out _ (HRD.out.kin (unmask _ _))).mono ?_); rintro e w3 ⟨rfl, hb⟩; obtain ⟨k0, k1, k2, k3, p0⟩ := HCELL.out w3 hb; have HF3 := Lib.hid (HMID.out.keep hb); have HB3 := Lib.hid (chain HB1.out hb); clear hb)
          | (at_builtin; refine wpl_app_fs rfl (.tmp 46) (.tmp 53) rfl w.heap.size _ 0 [] rfl (own_empty64 (by rw [alloc_size]) (by have := HB3.out.size; omega)) _ kq _ rfl (Lib.hid (HF3.out.keep (chain (below_alloc _ _) (below_alloc _ _)))) (by omega) w.heap.size w (Lib.hid (chain (chain HB3.out (below_alloc _ _)) (below_alloc _ _))) (Nat.le_refl _) (by rw [alloc_size, alloc_size]; have := HB3.out.size; omega) ?_; intro v9 w9 HO9 HB9 _))
        go_ret2
        exact ⟨_, rfl, by rw [Nat.zero_add, List.nil_append] at HO9; exact FS.own (own_mask HFT.out HO9.out), HB9.out⟩
    · rw [if_pos (by simpa using hh)]
      have hi0 : i < 0 := by rw [← hi, AD.find_neg]; exact hh
      clear hi hh hd
      go_enter Try.func39, Try.ntmps39
      go_wp2_with (first
        | (refine wpList_load_row rfl 29 _ rfl w.heap.size rfl _ _ (0, 0) _ HD1.out.1 Try.underlying29 rfl HD1.out.info ?_)
        | (go_at_call 63; (with_reducible refine (HFD.out _ (HRD.out.kin (unmask _ _))).mono ?_); rintro e w3 ⟨rfl, hb⟩; have HB3 := Lib.hid (chain HB1.out hb); clear hb))
      go_ret2
      exact ⟨_, rfl, FS.nil _, HB3.out⟩
end Go.Proofs.Ytpnialanmidekaa
