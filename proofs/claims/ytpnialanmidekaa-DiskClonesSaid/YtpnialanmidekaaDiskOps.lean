/-
  WHAT THE DOCUMENT'S ANSWERS OF LAYER 8 (disk) ANSWER: the reference's New, Fail, Remove, Rename.
-/
import Derived.Test.YtpnialanmidekaaDiskSt
import Derived.Test.YtpnialanmidekaaRegion
namespace Go.Proofs.Ytpnialanmidekaa
open Go.RowKit
set_option maxRecDepth 8000 in
set_option maxHeartbeats 1000000 in
theorem rfail_any (F : Nat → Bool) (vd : Value) (d : AD) (k : Int) (w : World) (hF : Foot F w.heap.size) (h : RD (mask F w) vd d) :
    Calls Try.prog 37 #[vd, .int .i64 k] w fun e w' => ∃ v', e = .returned (.tuple #[v', .int .i64 (d.failR k).2]) ∧ RD (mask F w') v' (d.failR k).1 ∧ Below w.heap.size w w' := by
  have HR := Lib.hid h
  obtain ⟨a, n, cap, rfl, hn, hc1, hc2⟩ := h.agg
  have hst := St.start hF rfl h
  obtain ⟨W2, hW2⟩ : ∃ W2, (w.alloc (.cells #[.slice a n cap, .int .i64 d.cap, .int .i64 d.ops, .bool d.down, .bool d.told, .int .i64 d.after] 29)).alloc (.cells #[.slice none 0 0, .int .i64 0, .int .i64 0, .bool false, .bool false, .int .i64 0] 29) = W2 := ⟨_, rfl⟩
  rw [hW2] at hst
  have HS := Lib.hid hst
  have HN := Lib.hid hn
  obtain ⟨q0, q1, q2, q3, q4, q5⟩ := hst.d0.six
  clear hst hn h hF
  unfold AD.failR
  by_cases hd : d.down = true
  · rw [if_pos hd]
    simp only [hd] at q3 hW2 HS ⊢
    clear hd
    go_enter Try.func37, Try.ntmps37
    go_wp2_with (first
      | (refine wpList_load_row rfl 29 _ rfl w.heap.size rfl _ _ (0, 0) _ HS.out.d0.1 Try.underlying29 rfl HS.out.d0.info ?_)
      | (refine wpList_store_row rfl 29 _ _ rfl (w.heap.size + 1) #[.slice a n cap, .int .i64 d.cap, .int .i64 d.ops, .bool true, .bool d.told, .int .i64 d.after] rfl rfl _ dz HS.out.d1.1 disk_info (by rfl) (by simp [Value.oneCell']) ?_))
    obtain ⟨e1, e2, e3⟩ := HS.out.done (cs' := #[.slice a n cap, .int .i64 d.cap, .int .i64 d.ops, .bool true, .bool d.told, .int .i64 d.after]) HS.out.rd rfl
    exact bodyPost_ret_by (results_row_tmp rfl _ _ (w.heap.size + 1) _ rfl (disk_load e1.1 rfl)) rfl ⟨_, rfl, e2, e3⟩
  · rw [if_neg hd]
    rw [Bool.not_eq_true] at hd
    simp only [hd] at q3 hW2 HS ⊢
    by_cases hk : k < 0
    · rw [if_pos hk]
      clear hd
      go_enter Try.func37, Try.ntmps37
      go_wp2_with (first
        | (refine wpList_load_row rfl 29 _ rfl w.heap.size rfl _ _ (0, 0) _ HS.out.d0.1 Try.underlying29 rfl HS.out.d0.info ?_)
        | (refine wpList_store_row rfl 29 _ _ rfl (w.heap.size + 1) #[.slice a n cap, .int .i64 d.cap, .int .i64 d.ops, .bool false, .bool d.told, .int .i64 d.after] rfl rfl _ dz HS.out.d1.1 disk_info (by rfl) (by simp [Value.oneCell']) ?_))
      obtain ⟨e1, e2, e3⟩ := HS.out.done (cs' := #[.slice a n cap, .int .i64 d.cap, .int .i64 d.ops, .bool false, .bool d.told, .int .i64 d.after]) HS.out.rd rfl
      exact bodyPost_ret_by (results_row_tmp rfl _ _ (w.heap.size + 1) _ rfl (disk_load e1.1 rfl)) rfl ⟨_, rfl, e2, e3⟩
    · rw [if_neg hk]
      clear hW2 q0 q1 q2 q3 q4 q5
      go_enter Try.func37, Try.ntmps37
      go_wp2
      refine bodyPost_ret_by (results_row_tmp rfl _ _ (w.heap.size + 1) _ rfl (disk_load (alloc2_last _ _ _) rfl)) rfl ⟨_, rfl, ⟨.slice a n cap, by simp only [dv], ?_⟩, below2 _ _ _⟩
      obtain ⟨vl, e, hl⟩ := HR.out
      simp only [dv, Value.agg.injEq] at e
      have e0 := congrArg (fun x : Array Value => x[0]?) e
      simp at e0
      subst e0
      exact hl.kin (kin_mask (below2 _ _ _))
set_option maxRecDepth 8000 in
set_option maxHeartbeats 1000000 in
theorem rremove_any (F : Nat → Bool) (vd : Value) (d : AD) (s : ByteArray) (w : World) (hF : Foot F w.heap.size) (h : RD (mask F w) vd d) (hn1 : d.L.length ≤ 1000000) :
    Calls Try.prog 36 #[vd, .string s] w fun e w' => ∃ v', e = .returned (.tuple #[v', .int .i64 (d.removeR s).2]) ∧ RD (mask F w') v' (d.removeR s).1 ∧ Below w.heap.size w w' := by
  obtain ⟨a, n, cap, rfl, hn, hc1, hc2⟩ := h.agg
  have hst := St.start hF rfl h
  obtain ⟨W2, hW2⟩ : ∃ W2, (w.alloc (.cells #[.slice a n cap, .int .i64 d.cap, .int .i64 d.ops, .bool d.down, .bool d.told, .int .i64 d.after] 29)).alloc (.cells #[.slice none 0 0, .int .i64 0, .int .i64 0, .bool false, .bool false, .int .i64 0] 29) = W2 := ⟨_, rfl⟩
  rw [hW2] at hst
  have HS := Lib.hid hst
  have HN := Lib.hid hn
  obtain ⟨q0, q1, q2, q3, q4, q5⟩ := hst.d0.six
  clear hst hn h hF
  unfold AD.removeR
  by_cases hd : d.down = true
  · rw [if_pos hd]
    simp only [hd] at q3 hW2 HS ⊢
    clear hd
    go_enter Try.func36, Try.ntmps36
    go_wp2_with (first
      | (refine wpList_load_row rfl 29 _ rfl w.heap.size rfl _ _ (0, 0) _ HS.out.d0.1 Try.underlying29 rfl HS.out.d0.info ?_)
      | (refine wpList_store_row rfl 29 _ _ rfl (w.heap.size + 1) #[.slice a n cap, .int .i64 d.cap, .int .i64 d.ops, .bool true, .bool d.told, .int .i64 d.after] rfl rfl _ dz HS.out.d1.1 disk_info (by rfl) (by simp [Value.oneCell']) ?_))
    obtain ⟨e1, e2, e3⟩ := HS.out.done (cs' := #[.slice a n cap, .int .i64 d.cap, .int .i64 d.ops, .bool true, .bool d.told, .int .i64 d.after]) HS.out.rd rfl
    exact bodyPost_ret_by (results_row_tmp rfl _ _ (w.heap.size + 1) _ rfl (disk_load e1.1 rfl)) rfl ⟨_, rfl, e2, e3⟩
  · rw [if_neg hd]
    rw [Bool.not_eq_true] at hd
    simp only [hd] at q3 hW2 HS ⊢
    obtain ⟨i, hi⟩ : ∃ i, findI d.L s = i := ⟨_, rfl⟩
    have HFD := Lib.hid fun W (hw : RD W (.agg #[.slice a n cap, .int .i64 d.cap, .int .i64 d.ops, .bool false, .bool d.told, .int .i64 d.after]) d) => rfind_any (.agg #[.slice a n cap, .int .i64 d.cap, .int .i64 d.ops, .bool false, .bool d.told, .int .i64 d.after]) d s W hw
    rw [hi] at HFD
    have HOP := Lib.hid fun W => rop_any a n cap d W
    unfold dv at HOP
    simp only [hd] at HOP
    by_cases hh : d.has s
    · rw [if_neg (by simpa using hh)]
      have hi0 : ¬ i < 0 := by rw [← hi, AD.find_neg]; simpa using hh
      clear hi hh
      by_cases ho : d.ope = 0
      · rw [AD.opR_done d _ ho]
        rw [ho] at HOP
        have HL2 := Lib.hid (AD.opd_L d)
        obtain ⟨d2, hd2⟩ : ∃ d2, d.opd = d2 := ⟨_, rfl⟩
        rw [hd2] at HOP HL2 ⊢
        have HLN := Lib.hid (show d2.L.length ≤ 1000000 from by rw [HL2.out]; exact hn1)
        clear ho hn1 hd2 hd
        go_enter Try.func36, Try.ntmps36
        go_wp2_with (first
          | (refine wpList_load_row rfl 29 _ rfl w.heap.size rfl _ _ (0, 0) _ HS3.out.d0.1 Try.underlying29 rfl HS3.out.d0.info ?_)
          | (refine wpList_load_row rfl 29 _ rfl w.heap.size rfl _ _ (0, 0) _ HS.out.d0.1 Try.underlying29 rfl HS.out.d0.info ?_)
          | (go_at_call 63; (with_reducible refine (HFD.out _ (HS.out.rd.kin (unmask _ _))).mono ?_); rintro e w3 ⟨rfl, hb⟩; have HS3 := Lib.hid (HS.out.next hb); clear hb)
          | (go_at_call 64; (with_reducible refine (HOP.out _).mono ?_); rintro e w4 ⟨rfl, hb⟩; have HS4 := Lib.hid (HS3.out.next hb); clear hb)
          | (refine wpl_store_newD rfl _ _ rfl rfl w4.heap.size rfl #[.slice a n cap, .int .i64 d2.cap, .int .i64 d2.ops, .bool d2.down, .bool d2.told, .int .i64 d2.after] rfl (by simp [Value.oneCell']) rfl rfl ?_; intro w5 HX5 hb5; have HS5 := Lib.hid (HS4.out.next hb5.out); clear hb5)
          | (refine wpList_load_row rfl 29 _ rfl w4.heap.size rfl _ _ (0, 0) _ HX5.out.1 Try.underlying29 rfl HX5.out.info ?_)
          | (go_at_call 65; (with_reducible refine (rwithout_any (boxF F w) _ d2 s _ HS5.out.foot (HS5.out.rd.re HL2.out) HLN.out).mono ?_); rintro e w6 ⟨v6, rfl, hr6, hb⟩; have HS6 := Lib.hid (HS5.out.next hb); clear hb; obtain ⟨a6, n6, c6, rfl, _⟩ := hr6.agg; have HR6 := Lib.hid hr6; clear hr6)
          | (refine wpList_store_row rfl 29 _ _ rfl (w.heap.size + 1) #[.slice a6 n6 c6, .int .i64 (d2.without s).cap, .int .i64 (d2.without s).ops, .bool (d2.without s).down, .bool (d2.without s).told, .int .i64 (d2.without s).after] rfl rfl _ dz HS6.out.d1.1 disk_info (by rfl) (by simp [Value.oneCell']) ?_))
        obtain ⟨e1, e2, e3⟩ := HS6.out.done (cs' := #[.slice a6 n6 c6, .int .i64 (d2.without s).cap, .int .i64 (d2.without s).ops, .bool (d2.without s).down, .bool (d2.without s).told, .int .i64 (d2.without s).after]) HR6.out rfl
        exact bodyPost_ret_by (results_row_tmp rfl _ _ (w.heap.size + 1) _ rfl (disk_load e1.1 rfl)) rfl ⟨_, rfl, e2, e3⟩
      · rw [AD.opR_not d _ ho]
        have h9 : d.ope = 9 := d.ope_or.resolve_left ho
        rw [h9] at HOP
        have HL2 := Lib.hid (AD.opd_L d)
        obtain ⟨d2, hd2⟩ : ∃ d2, d.opd = d2 := ⟨_, rfl⟩
        rw [hd2] at HOP HL2 ⊢
        have HLN := Lib.hid (show d2.L.length ≤ 1000000 from by rw [HL2.out]; exact hn1)
        clear ho hn1 hd2 hd h9
        go_enter Try.func36, Try.ntmps36
        go_wp2_with (first
          | (refine wpList_load_row rfl 29 _ rfl w.heap.size rfl _ _ (0, 0) _ HS3.out.d0.1 Try.underlying29 rfl HS3.out.d0.info ?_)
          | (refine wpList_load_row rfl 29 _ rfl w.heap.size rfl _ _ (0, 0) _ HS.out.d0.1 Try.underlying29 rfl HS.out.d0.info ?_)
          | (go_at_call 63; (with_reducible refine (HFD.out _ (HS.out.rd.kin (unmask _ _))).mono ?_); rintro e w3 ⟨rfl, hb⟩; have HS3 := Lib.hid (HS.out.next hb); clear hb)
          | (go_at_call 64; (with_reducible refine (HOP.out _).mono ?_); rintro e w4 ⟨rfl, hb⟩; have HS4 := Lib.hid (HS3.out.next hb); clear hb)
          | (refine wpl_store_newD rfl _ _ rfl rfl w4.heap.size rfl #[.slice a n cap, .int .i64 d2.cap, .int .i64 d2.ops, .bool d2.down, .bool d2.told, .int .i64 d2.after] rfl (by simp [Value.oneCell']) rfl rfl ?_; intro w5 HX5 hb5; have HS5 := Lib.hid (HS4.out.next hb5.out); clear hb5)
          | (refine wpList_load_row rfl 29 _ rfl w4.heap.size rfl _ _ (0, 0) _ HX5.out.1 Try.underlying29 rfl HX5.out.info ?_)
          | (refine wpList_store_row rfl 29 _ _ rfl (w.heap.size + 1) #[.slice a n cap, .int .i64 d2.cap, .int .i64 d2.ops, .bool d2.down, .bool d2.told, .int .i64 d2.after] rfl rfl _ dz HS5.out.d1.1 disk_info (by rfl) (by simp [Value.oneCell']) ?_))
        obtain ⟨e1, e2, e3⟩ := HS5.out.done (cs' := #[.slice a n cap, .int .i64 d2.cap, .int .i64 d2.ops, .bool d2.down, .bool d2.told, .int .i64 d2.after]) (HS5.out.rd.re HL2.out) rfl
        exact bodyPost_ret_by (results_row_tmp rfl _ _ (w.heap.size + 1) _ rfl (disk_load e1.1 rfl)) rfl ⟨_, rfl, e2, e3⟩
    · rw [if_pos (by simpa using hh)]
      have hi0 : i < 0 := by rw [← hi, AD.find_neg]; exact hh
      clear hi hh hd
      go_enter Try.func36, Try.ntmps36
      go_wp2_with (first
        | (refine wpList_load_row rfl 29 _ rfl w.heap.size rfl _ _ (0, 0) _ HS3.out.d0.1 Try.underlying29 rfl HS3.out.d0.info ?_)
        | (refine wpList_load_row rfl 29 _ rfl w.heap.size rfl _ _ (0, 0) _ HS.out.d0.1 Try.underlying29 rfl HS.out.d0.info ?_)
        | (go_at_call 63; (with_reducible refine (HFD.out _ (HS.out.rd.kin (unmask _ _))).mono ?_); rintro e w3 ⟨rfl, hb⟩; have HS3 := Lib.hid (HS.out.next hb); clear hb)
        | (refine wpList_store_row rfl 29 _ _ rfl (w.heap.size + 1) #[.slice a n cap, .int .i64 d.cap, .int .i64 d.ops, .bool false, .bool d.told, .int .i64 d.after] rfl rfl _ dz HS3.out.d1.1 disk_info (by rfl) (by simp [Value.oneCell']) ?_))
      obtain ⟨e1, e2, e3⟩ := HS3.out.done (cs' := #[.slice a n cap, .int .i64 d.cap, .int .i64 d.ops, .bool false, .bool d.told, .int .i64 d.after]) HS3.out.rd rfl
      exact bodyPost_ret_by (results_row_tmp rfl _ _ (w.heap.size + 1) _ rfl (disk_load e1.1 rfl)) rfl ⟨_, rfl, e2, e3⟩
set_option maxRecDepth 8000 in
set_option maxHeartbeats 1000000 in
theorem rrename_any (F : Nat → Bool) (vd : Value) (d : AD) (s t : ByteArray) (w : World) (hF : Foot F w.heap.size) (h : RD (mask F w) vd d) (hn1 : d.L.length ≤ 1000000) (hts : t.size ≤ 281474976710656) :
    Calls Try.prog 35 #[vd, .string s, .string t] w fun e w' => ∃ v', e = .returned (.tuple #[v', .int .i64 (d.renameR s t).2]) ∧ RD (mask F w') v' (d.renameR s t).1 ∧ Below w.heap.size w w' := by
  obtain ⟨a, n, cap, rfl, hn, hc1, hc2⟩ := h.agg
  have hst := St.start hF rfl h
  obtain ⟨W2, hW2⟩ : ∃ W2, (w.alloc (.cells #[.slice a n cap, .int .i64 d.cap, .int .i64 d.ops, .bool d.down, .bool d.told, .int .i64 d.after] 29)).alloc (.cells #[.slice none 0 0, .int .i64 0, .int .i64 0, .bool false, .bool false, .int .i64 0] 29) = W2 := ⟨_, rfl⟩
  rw [hW2] at hst
  have HS := Lib.hid hst
  have HN := Lib.hid hn
  obtain ⟨q0, q1, q2, q3, q4, q5⟩ := hst.d0.six
  clear hst hn h hF
  unfold AD.renameR
  by_cases hd : d.down = true
  · rw [if_pos hd]
    simp only [hd] at q3 hW2 HS ⊢
    clear hd
    go_enter Try.func35, Try.ntmps35
    go_wp2_with (first
      | (refine wpList_load_row rfl 29 _ rfl w.heap.size rfl _ _ (0, 0) _ HS.out.d0.1 Try.underlying29 rfl HS.out.d0.info ?_)
      | (refine wpList_store_row rfl 29 _ _ rfl (w.heap.size + 1) #[.slice a n cap, .int .i64 d.cap, .int .i64 d.ops, .bool true, .bool d.told, .int .i64 d.after] rfl rfl _ dz HS.out.d1.1 disk_info (by rfl) (by simp [Value.oneCell']) ?_))
    obtain ⟨e1, e2, e3⟩ := HS.out.done (cs' := #[.slice a n cap, .int .i64 d.cap, .int .i64 d.ops, .bool true, .bool d.told, .int .i64 d.after]) HS.out.rd rfl
    exact bodyPost_ret_by (results_row_tmp rfl _ _ (w.heap.size + 1) _ rfl (disk_load e1.1 rfl)) rfl ⟨_, rfl, e2, e3⟩
  · rw [if_neg hd]
    rw [Bool.not_eq_true] at hd
    simp only [hd] at q3 hW2 HS ⊢
    obtain ⟨i, hi⟩ : ∃ i, findI d.L s = i := ⟨_, rfl⟩
    have HFD := Lib.hid fun W (hw : RD W (.agg #[.slice a n cap, .int .i64 d.cap, .int .i64 d.ops, .bool false, .bool d.told, .int .i64 d.after]) d) => rfind_any (.agg #[.slice a n cap, .int .i64 d.cap, .int .i64 d.ops, .bool false, .bool d.told, .int .i64 d.after]) d s W hw
    rw [hi] at HFD
    have HOP := Lib.hid fun W => rop_any a n cap d W
    unfold dv at HOP
    simp only [hd] at HOP
    by_cases hh : d.has s
    · rw [if_neg (by simpa using hh)]
      have hi0 : i = (idxN d.L s : Int) := by rw [← hi]; exact d.find_has s hh
      obtain ⟨j, hj⟩ : ∃ j, idxN d.L s = j := ⟨_, rfl⟩
      have hga := d.get_at s hh
      have hgn := d.get_name s hh
      rw [hj] at hga hi0
      subst hi0
      obtain ⟨f, hf⟩ : ∃ f, d.get s = f := ⟨_, rfl⟩
      rw [hf] at hga hgn ⊢
      have hjn : j < n := by rw [← HN.out]; exact (List.getElem?_eq_some_iff.1 hga).1
      cases hr : rightB t with
      | false =>
        rw [if_pos rfl]
        have HRT : Hid (nameN t.data.toList = false) := Lib.hid hr
        clear hi hh hd hf hgn hga hr
        go_enter Try.func35, Try.ntmps35
        go_wp2_with (first
          | (refine wpList_load_row rfl 29 _ rfl w.heap.size rfl _ _ (0, 0) _ HS3.out.d0.1 Try.underlying29 rfl HS3.out.d0.info ?_)
          | (refine wpList_load_row rfl 29 _ rfl w.heap.size rfl _ _ (0, 0) _ HS.out.d0.1 Try.underlying29 rfl HS.out.d0.info ?_)
          | (go_at_call 63; (with_reducible refine (HFD.out _ (HS.out.rd.kin (unmask _ _))).mono ?_); rintro e w3 ⟨rfl, hb⟩; have HS3 := Lib.hid (HS.out.next hb); clear hb)
          | (go_at_call 62; (with_reducible refine (rright_any t _ hts).mono ?_); rintro e w' ⟨rfl, rfl⟩; rw [HRT.out])
          | (refine wpList_store_row rfl 29 _ _ rfl (w.heap.size + 1) #[.slice a n cap, .int .i64 d.cap, .int .i64 d.ops, .bool false, .bool d.told, .int .i64 d.after] rfl rfl _ dz HS3.out.d1.1 disk_info (by rfl) (by simp [Value.oneCell']) ?_))
        obtain ⟨e1, e2, e3⟩ := HS3.out.done (cs' := #[.slice a n cap, .int .i64 d.cap, .int .i64 d.ops, .bool false, .bool d.told, .int .i64 d.after]) HS3.out.rd rfl
        exact bodyPost_ret_by (results_row_tmp rfl _ _ (w.heap.size + 1) _ rfl (disk_load e1.1 rfl)) rfl ⟨_, rfl, e2, e3⟩
      | true =>
        rw [if_neg (by simp)]
        have HRT : Hid (nameN t.data.toList = true) := Lib.hid hr
        clear hr
        by_cases hst : s = t
        · rw [if_pos hst]
          have hq : (s.toList == t.toList) = true := by rw [eqN, decide_eq_true hst]
          clear hi hh hd hf hgn hga hst
          go_enter Try.func35, Try.ntmps35
          go_wp2_with (first
            | (refine wpList_load_row rfl 29 _ rfl w.heap.size rfl _ _ (0, 0) _ HS3.out.d0.1 Try.underlying29 rfl HS3.out.d0.info ?_)
            | (refine wpList_load_row rfl 29 _ rfl w.heap.size rfl _ _ (0, 0) _ HS.out.d0.1 Try.underlying29 rfl HS.out.d0.info ?_)
            | (go_at_call 63; (with_reducible refine (HFD.out _ (HS.out.rd.kin (unmask _ _))).mono ?_); rintro e w3 ⟨rfl, hb⟩; have HS3 := Lib.hid (HS.out.next hb); clear hb)
            | (go_at_call 62; (with_reducible refine (rright_any t _ hts).mono ?_); rintro e w' ⟨rfl, rfl⟩; rw [HRT.out])
            | (refine wpList_store_row rfl 29 _ _ rfl (w.heap.size + 1) #[.slice a n cap, .int .i64 d.cap, .int .i64 d.ops, .bool false, .bool d.told, .int .i64 d.after] rfl rfl _ dz HS3.out.d1.1 disk_info (by rfl) (by simp [Value.oneCell']) ?_))
          obtain ⟨e1, e2, e3⟩ := HS3.out.done (cs' := #[.slice a n cap, .int .i64 d.cap, .int .i64 d.ops, .bool false, .bool d.told, .int .i64 d.after]) HS3.out.rd rfl
          exact bodyPost_ret_by (results_row_tmp rfl _ _ (w.heap.size + 1) _ rfl (disk_load e1.1 rfl)) rfl ⟨_, rfl, e2, e3⟩
        · rw [if_neg hst]
          have hq : (s.toList == t.toList) = false := by rw [eqN, decide_eq_false hst]
          have HGA := Lib.hid hga
          have HGN := Lib.hid hgn
          clear hi hh hst hf hgn hga
          by_cases ho : d.ope = 0
          · rw [AD.opR_done d _ ho]
            rw [ho] at HOP
            have HL2 := Lib.hid (AD.opd_L d)
            obtain ⟨d2, hd2⟩ : ∃ d2, d.opd = d2 := ⟨_, rfl⟩
            rw [hd2] at HOP HL2 ⊢
            have HLN := Lib.hid (show d2.L.length ≤ 1000000 from by rw [HL2.out]; exact hn1)
            clear ho hn1 hd2 hd
            go_enter Try.func35, Try.ntmps35
            go_wp2_with (first
              | (refine wpList_load_row rfl 29 _ rfl w.heap.size rfl _ _ (0, 0) _ HS3.out.d0.1 Try.underlying29 rfl HS3.out.d0.info ?_)
              | (refine wpList_load_row rfl 29 _ rfl w.heap.size rfl _ _ (0, 0) _ HS.out.d0.1 Try.underlying29 rfl HS.out.d0.info ?_)
              | (go_at_call 63; (with_reducible refine (HFD.out _ (HS.out.rd.kin (unmask _ _))).mono ?_); rintro e w3 ⟨rfl, hb⟩; have HS3 := Lib.hid (HS.out.next hb); clear hb)
              | (go_at_call 62; (with_reducible refine (rright_any t _ hts).mono ?_); rintro e w' ⟨rfl, rfl⟩; rw [HRT.out])
              | (go_at_call 64; (with_reducible refine (HOP.out _).mono ?_); rintro e w4 ⟨rfl, hb⟩; have HS4 := Lib.hid (HS3.out.next hb); clear hb)
              | (refine wpl_store_newD rfl _ _ rfl rfl w4.heap.size rfl #[.slice a n cap, .int .i64 d2.cap, .int .i64 d2.ops, .bool d2.down, .bool d2.told, .int .i64 d2.after] rfl (by simp [Value.oneCell']) rfl rfl ?_; intro w5 HX5 hb5; have HS5 := Lib.hid (HS4.out.next hb5.out); clear hb5; obtain ⟨b, off, a1, c1, a2, c2, a3, c3, rfl, k0, k1, k2, k3, f1, f2, f3⟩ := HS5.out.rd.fls.form4 j f HGA.out; have HK := Lib.hid (And.intro k0 (And.intro k1 (And.intro k2 k3))); have HF4 := Lib.hid (And.intro f1 (And.intro f2 f3)); clear k0 k1 k2 k3 f1 f2 f3; have HU := Lib.hid (unmask (boxF F w) w5); have k0 := HU.out _ _ HK.out.1; have k1 := HU.out _ _ HK.out.2.1; have k2 := HU.out _ _ HK.out.2.2.1; have k3 := HU.out _ _ HK.out.2.2.2; have p0 := HS5.out.d0.cell 0; simp only [List.getElem?_toArray, List.getElem?_cons_zero] at p0)
              | (refine wpList_load_row rfl 29 _ rfl w4.heap.size rfl _ _ (0, 0) _ HX5.out.1 Try.underlying29 rfl HX5.out.info ?_))
            have HS6 := Lib.hid ((HS5.out.next (below_alloc w5 (.cells #[.string t, .slice a1 f.n c1, .slice a2 f.n c2, .slice a3 f.n c3] 82))).next (Below.refl _ _).drew)
            have HQ6 := Lib.hid ((Sq.start (v0 := .string t) (v1 := .slice a1 f.n c1) (v2 := .slice a2 f.n c2) (v3 := .slice a3 f.n c3) HX5.out).next (Below.refl _ _).drew)
            have HB6 := Lib.hid (below_alloc w5 (.cells #[.string t, .slice a1 f.n c1, .slice a2 f.n c2, .slice a3 f.n c3] 82)).drew
            have HLW := Lib.hid (show (d2.without s).L.length ≤ 1000000 from Nat.le_trans (withoutF_len _ _) HLN.out)
            refine wp_region_held_drew (S := (fun W' => Sq w4.heap.size #[.slice (some ⟨b, off, none⟩) n cap, .int .i64 d2.cap, .int .i64 d2.ops, .bool d2.down, .bool d2.told, .int .i64 d2.after] w5.heap.size (.string t) (.slice a1 f.n c1) (.slice a2 f.n c2) (.slice a3 f.n c3) W')) (by kernel_rfl) HQ6.out (fun hS => ?_)
            refine wpAnyH_take (i := 0) (oi := ({ dst := some 45, op := Op.load 29 (Operand.tmp 9), type := 29, pos := "ref.go:239", after := #[], guard := none } : Oper)) (v := ?_) rfl (by kernel_rfl) (by kernel_rfl) (by kernel_rfl) (fun _ _ _ h => h) (Or.inl ⟨by rfl, ?_⟩) hS ?_
            rotate_left
            · (intro w hSw; (try dsimp only at hSw); refine exec_load_db (.tmp 9) ?_ ?_ hSw.x <;> rfl)
            (try simp only [Act.put, List.setIfInBounds_toArray, List.set_cons_zero, List.set_cons_succ])
            refine wpAnyH_take (i := 1) (oi := ({ dst := some 46, op := Op.move (Operand.tmp 1), type := 9, pos := "ref.go:239", after := #[], guard := none } : Oper)) (v := ?_) rfl (by kernel_rfl) (by kernel_rfl) (by kernel_rfl) (fun _ _ _ h => h) (Or.inl ⟨by rfl, ?_⟩) hS ?_
            rotate_left
            · (intro w hSw; (try dsimp only at hSw); go_simp; try with_reducible rfl)
            (try simp only [Act.put, List.setIfInBounds_toArray, List.set_cons_zero, List.set_cons_succ])
            refine wpAnyH_take (i := 3) (oi := ({ dst := some 48, op := Op.load 82 (Operand.tmp 11), type := 82, pos := "ref.go:239", after := #[], guard := none } : Oper)) (v := ?_) rfl (by kernel_rfl) (by kernel_rfl) (by kernel_rfl) (fun _ _ _ h => h) (Or.inl ⟨by rfl, ?_⟩) hS ?_
            rotate_left
            · (intro w hSw; (try dsimp only at hSw); obtain ⟨z0, z1, z2, z3⟩ := hSw.cells; go_simp; try with_reducible rfl)
            (try simp only [Act.put, List.setIfInBounds_toArray, List.set_cons_zero, List.set_cons_succ])
            refine rg_one 2 ({ dst := some 47, op := Op.call { callee := Callee.value (Operand.func 65), args := #[Operand.tmp 45, Operand.tmp 46], argTypes := #[29, 9] }, type := 29, pos := "ref.go:239", after := #[{ on := 0, ground := Ground.data }, { on := 1, ground := Ground.data }], guard := none } : Oper) (by kernel_rfl) rfl (fun K hK => ?_)
            go_simp
            (go_at_call 65; (with_reducible refine (rwithout_any (boxF F w) _ d2 s _ HS6.out.foot (HS6.out.rd.re HL2.out) HLN.out).mono ?_); rintro e w7 ⟨v7, rfl, hr7, hb⟩; have HS7 := Lib.hid (HS6.out.next hb); have HB7 := Lib.hid (chain HB6.out hb))
            refine hK.out _ _ ?_ (fun hS1 => ?_)
            · (first | exact hS | exact hS.next hb | exact hN)
            clear hK K hS; have hS := hS1; clear hS1
            (try simp only [Act.put, List.setIfInBounds_toArray, List.set_cons_zero, List.set_cons_succ])
            refine rg_one 4 ({ dst := some 49, op := Op.call { callee := Callee.value (Operand.func 47), args := #[Operand.tmp 47, Operand.tmp 48], argTypes := #[29, 82] }, type := 29, pos := "ref.go:239", after := #[{ on := 2, ground := Ground.data }, { on := 3, ground := Ground.data }, { on := 2, ground := Ground.chain }], guard := none } : Oper) (by kernel_rfl) rfl (fun K hK => ?_)
            go_simp
            (go_at_call 47; (refine (rwith_any (boxF F w) _ (d2.without s) a1 c1 a2 c2 a3 c3 { f with name := t } _ HS7.out.foot hr7 ⟨_, _, _, rfl, HF4.out.1.kin (kin_mask HB7.out), HF4.out.2.1.kin (kin_mask HB7.out), HF4.out.2.2.kin (kin_mask HB7.out)⟩ HLW.out).mono ?_); rintro e w8 ⟨v8, rfl, hr8, hb⟩; have HS8 := Lib.hid (HS7.out.next hb); obtain ⟨a7, n7, c7, rfl, _⟩ := hr8.agg; have HR8 := Lib.hid hr8)
            refine hK.out _ _ ?_ (fun hS1 => ?_)
            · (first | exact hS | exact hS.next hb | exact hN)
            clear hK K hS; have hS := hS1; clear hS1
            (try simp only [Act.put, List.setIfInBounds_toArray, List.set_cons_zero, List.set_cons_succ])
            refine rg_one 5 ({ dst := none, op := Op.store 29 (Operand.tmp 6) (Operand.tmp 49), type := 0, pos := "ref.go:239", after := #[{ on := 4, ground := Ground.data }, { on := 4, ground := Ground.chain }, { on := 0, ground := Ground.phase }, { on := 1, ground := Ground.phase }, { on := 2, ground := Ground.phase }, { on := 3, ground := Ground.phase }, { on := 4, ground := Ground.phase }], guard := none } : Oper) (by kernel_rfl) rfl (fun K hK => ?_)
            rw [if_pos (by rfl)]; refine wp_store_row 29 (.tmp 6) (.tmp 49) rfl (w.heap.size + 1) #[.slice a7 n7 c7, .int .i64 ((d2.without s).withF { f with name := t }).cap, .int .i64 ((d2.without s).withF { f with name := t }).ops, .bool ((d2.without s).withF { f with name := t }).down, .bool ((d2.without s).withF { f with name := t }).told, .int .i64 ((d2.without s).withF { f with name := t }).after] rfl rfl _ dz HS8.out.d1.1 disk_info (by rfl) (by simp [Value.oneCell']) ?_; have hN := hS.row (w.heap.size + 1) (by have := HS4.out.size; omega) (by have := HS5.out.size; omega) #[.slice a7 n7 c7, .int .i64 ((d2.without s).withF { f with name := t }).cap, .int .i64 ((d2.without s).withF { f with name := t }).ops, .bool ((d2.without s).withF { f with name := t }).down, .bool ((d2.without s).withF { f with name := t }).told, .int .i64 ((d2.without s).withF { f with name := t }).after]
            refine hK.out _ _ ?_ (fun hS1 => ?_)
            · (first | exact hS | exact hS.next hb | exact hN)
            clear hK K hS; have hS := hS1; clear hS1
            (try simp only [Act.put])
            refine wpAnyH_take (i := 6) (oi := ({ dst := some 7, op := Op.assign (Operand.const (Value.int IntKind.i64 0)), type := 45, pos := "ref.go:239", after := #[{ on := 5, ground := Ground.chain }, { on := 0, ground := Ground.phase }, { on := 1, ground := Ground.phase }, { on := 2, ground := Ground.phase }, { on := 3, ground := Ground.phase }, { on := 4, ground := Ground.phase }, { on := 5, ground := Ground.phase }], guard := none } : Oper)) (v := ?_) rfl (by kernel_rfl) (by kernel_rfl) (by kernel_rfl) (fun _ _ _ h => h) (Or.inl ⟨by rfl, ?_⟩) hS ?_
            rotate_left
            · (intro w hSw; (try dsimp only at hSw); go_simp; try with_reducible rfl)
            (try simp only [Act.put, List.setIfInBounds_toArray, List.set_cons_zero, List.set_cons_succ])
            refine wpAnyH_done (by kernel_rfl) ?_ _
            clear hS
            go_wp2
            obtain ⟨e1, e2, e3⟩ := HS8.out.done (cs' := #[.slice a7 n7 c7, .int .i64 ((d2.without s).withF { f with name := t }).cap, .int .i64 ((d2.without s).withF { f with name := t }).ops, .bool ((d2.without s).withF { f with name := t }).down, .bool ((d2.without s).withF { f with name := t }).told, .int .i64 ((d2.without s).withF { f with name := t }).after]) HR8.out rfl
            exact bodyPost_ret_by (results_row_tmp rfl _ _ (w.heap.size + 1) _ rfl (disk_load e1.1 rfl)) rfl ⟨_, rfl, e2, e3⟩
          · rw [AD.opR_not d _ ho]
            have h9 : d.ope = 9 := d.ope_or.resolve_left ho
            rw [h9] at HOP
            have HL2 := Lib.hid (AD.opd_L d)
            obtain ⟨d2, hd2⟩ : ∃ d2, d.opd = d2 := ⟨_, rfl⟩
            rw [hd2] at HOP HL2 ⊢
            have HLN := Lib.hid (show d2.L.length ≤ 1000000 from by rw [HL2.out]; exact hn1)
            clear ho hn1 hd2 hd h9
            go_enter Try.func35, Try.ntmps35
            go_wp2_with (first
              | (refine wpList_load_row rfl 29 _ rfl w.heap.size rfl _ _ (0, 0) _ HS3.out.d0.1 Try.underlying29 rfl HS3.out.d0.info ?_)
              | (refine wpList_load_row rfl 29 _ rfl w.heap.size rfl _ _ (0, 0) _ HS.out.d0.1 Try.underlying29 rfl HS.out.d0.info ?_)
              | (go_at_call 63; (with_reducible refine (HFD.out _ (HS.out.rd.kin (unmask _ _))).mono ?_); rintro e w3 ⟨rfl, hb⟩; have HS3 := Lib.hid (HS.out.next hb); clear hb)
              | (go_at_call 62; (with_reducible refine (rright_any t _ hts).mono ?_); rintro e w' ⟨rfl, rfl⟩; rw [HRT.out])
              | (go_at_call 64; (with_reducible refine (HOP.out _).mono ?_); rintro e w4 ⟨rfl, hb⟩; have HS4 := Lib.hid (HS3.out.next hb); clear hb)
              | (refine wpl_store_newD rfl _ _ rfl rfl w4.heap.size rfl #[.slice a n cap, .int .i64 d2.cap, .int .i64 d2.ops, .bool d2.down, .bool d2.told, .int .i64 d2.after] rfl (by simp [Value.oneCell']) rfl rfl ?_; intro w5 HX5 hb5; have HS5 := Lib.hid (HS4.out.next hb5.out); clear hb5)
              | (refine wpList_load_row rfl 29 _ rfl w4.heap.size rfl _ _ (0, 0) _ HX5.out.1 Try.underlying29 rfl HX5.out.info ?_)
              | (refine wpList_store_row rfl 29 _ _ rfl (w.heap.size + 1) #[.slice a n cap, .int .i64 d2.cap, .int .i64 d2.ops, .bool d2.down, .bool d2.told, .int .i64 d2.after] rfl rfl _ dz HS5.out.d1.1 disk_info (by rfl) (by simp [Value.oneCell']) ?_))
            obtain ⟨e1, e2, e3⟩ := HS5.out.done (cs' := #[.slice a n cap, .int .i64 d2.cap, .int .i64 d2.ops, .bool d2.down, .bool d2.told, .int .i64 d2.after]) (HS5.out.rd.re HL2.out) rfl
            exact bodyPost_ret_by (results_row_tmp rfl _ _ (w.heap.size + 1) _ rfl (disk_load e1.1 rfl)) rfl ⟨_, rfl, e2, e3⟩
    · rw [if_pos (by simpa using hh)]
      have hi0 : i < 0 := by rw [← hi, AD.find_neg]; exact hh
      clear hi hh hd
      go_enter Try.func35, Try.ntmps35
      go_wp2_with (first
        | (refine wpList_load_row rfl 29 _ rfl w.heap.size rfl _ _ (0, 0) _ HS3.out.d0.1 Try.underlying29 rfl HS3.out.d0.info ?_)
        | (refine wpList_load_row rfl 29 _ rfl w.heap.size rfl _ _ (0, 0) _ HS.out.d0.1 Try.underlying29 rfl HS.out.d0.info ?_)
        | (go_at_call 63; (with_reducible refine (HFD.out _ (HS.out.rd.kin (unmask _ _))).mono ?_); rintro e w3 ⟨rfl, hb⟩; have HS3 := Lib.hid (HS.out.next hb); clear hb)
        | (refine wpList_store_row rfl 29 _ _ rfl (w.heap.size + 1) #[.slice a n cap, .int .i64 d.cap, .int .i64 d.ops, .bool false, .bool d.told, .int .i64 d.after] rfl rfl _ dz HS3.out.d1.1 disk_info (by rfl) (by simp [Value.oneCell']) ?_))
      obtain ⟨e1, e2, e3⟩ := HS3.out.done (cs' := #[.slice a n cap, .int .i64 d.cap, .int .i64 d.ops, .bool false, .bool d.told, .int .i64 d.after]) HS3.out.rd rfl
      exact bodyPost_ret_by (results_row_tmp rfl _ _ (w.heap.size + 1) _ rfl (disk_load e1.1 rfl)) rfl ⟨_, rfl, e2, e3⟩
end Go.Proofs.Ytpnialanmidekaa
