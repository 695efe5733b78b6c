/-
  LAYER 8 (disk): the law's own do, call by call, over DiskSays. No condition of ours but bounds on what comes in.
-/
import Derived.Test.YtpnialanmidekaaDiskDoSt
import Derived.Test.YtpnialanmidekaaDiskOps
import Derived.Test.YtpnialanmidekaaDiskMake
import Derived.Test.YtpnialanmidekaaDiskSync
import Derived.Test.YtpnialanmidekaaDiskCrash
namespace Go.Proofs.Ytpnialanmidekaa
open Go.RowKit
theorem get_small {d : AD} (h : Good d) (s : ByteArray) : ((d.get s).n : Int) ≤ 1000000000 := by
  by_cases hs : d.has s
  · have := (h.file _ (get_mem hs)).n64; omega
  · unfold AD.get AD.has at *
    rw [List.getElem?_eq_none (by omega)]
    simp [newF]
set_option maxRecDepth 8000 in
set_option maxHeartbeats 4000000 in
theorem do_make {DK : World → Addr → (Nat → Bool) → AD → Prop} (H : DiskSays DK) (F M : Nat → Bool) (w : World) (p : Addr) (vd : Value) (d : AD) (a : AAct) (al ak : Option Addr) (cl ck : Nat)
    (hdk : DK w p F d) (hg : Good d) (hrd : RD (mask M w) vd d) (hs : ∀ k, F k = true → M k = true) (hM : Foot M w.heap.size) (ha : GA a) (hk : a.kind.tmod 10 = 0 ∨ a.kind.tmod 10 = 1) :
    Calls Try.prog 10 #[ptr p, vd, .agg (actC a.kind a.name a.to a.at_ a.n (.slice al a.len cl) (.slice ak a.klen ck) a.torn a.cut)] w fun e w' => ∃ v' F' M', e = .returned (.tuple #[v', .bool true]) ∧ DoE DK F M w p v' (d.doR a) F' M' w' := by
  obtain ⟨cs, rfl, h6, h1c⟩ := hrd.cells
  have HDO : Hid (d.doR a = (d.makeR a.name a.n).1) := Lib.hid (by unfold AD.doR; rw [if_pos hk])
  obtain ⟨kd, s, t, x, y, len, l, klen, kp, g, h⟩ := a
  have hH := Lib.hid H
  have HS0 := Lib.hid (DoS.start H hdk hrd hs hM h6 (show (actC kd s t x y (.slice al len cl) (.slice ak klen ck) g h).size = 9 from rfl))
  obtain ⟨d', hd'⟩ : ∃ d', (d.makeR s y).1 = d' := ⟨_, rfl⟩
  obtain ⟨er, her⟩ : ∃ er, (d.makeR s y).2 = er := ⟨_, rfl⟩
  have HP : Hid (∀ w' F', DK w' p F' d → Calls Try.prog 17 #[ptr p, .string s, .int .i64 y] w' fun e w2 => ∃ F2, e = .returned (.int .i64 er) ∧ DK w2 p F2 d' ∧ Ext F' w' w2 F2) := Lib.hid (fun w' F' h => by
    have := H.make w' p F' d s y h hg ha.name ha.n; rwa [hd', her] at this)
  have HQ : Hid (∀ w' M' v, Foot M' w'.heap.size → RD (mask M' w') v d → Calls Try.prog 31 #[v, .string s, .int .i64 y] w' fun e w2 => ∃ v2, e = .returned (.tuple #[v2, .int .i64 er]) ∧ RD (mask M' w2) v2 d' ∧ Below w'.heap.size w' w2) := Lib.hid (fun w' M' v h1 h2 => by
    have := rmake_any M' v d s y w' h1 h2 (by have := hg.few; omega) (by have := hg.used; have := hg.cap1; omega) ha.name ha.n; rwa [hd', her] at this)
  simp only at HDO hk
  rw [hd'] at HDO
  rw [HDO.out]
  clear hd' her hdk hrd HDO
  have HW := Lib.hid HS0.out.act.nine
  have H1C := Lib.hid h1c
  have H6 := Lib.hid h6
  clear hg ha h1c h6 hs hM
  unfold actC at *
  unfold dz at HS0
  go_enter Try.func10, Try.ntmps10
  rcases hk with hk | hk
  all_goals
    go_wp2_with (first
      | (refine wpList_store_row rfl 29 _ _ rfl (w.heap.size + 2) cs2 rfl rfl _ dz HS3.out.d2.1 (by rw [HC6.out]; exact disk_info) (by rw [HC6.out]; rfl) HC1.out ?_)
      | (refine wpList_load_row rfl 29 _ rfl w.heap.size rfl _ cs2 (0, 0) _ HS3.out.d0.1 Try.underlying29 rfl HS3.out.d0.info ?_)
      | (refine wpList_store_row rfl 29 _ _ rfl w.heap.size cs2 rfl rfl _ cs HS2.out.d0.1 (by rw [HC6.out]; exact disk_info) (by rw [HC6.out, H6.out]) HC1.out ?_; have HS3 := Lib.hid (HS2.out.put hH.out HR2.out HC6.out))
      | (go_at_call 31; (with_reducible refine (HQ.out _ _ _ HS1.out.foot HS1.out.rd).mono ?_); rintro e w2 ⟨v2, rfl, hr2, hb2⟩; obtain ⟨cs2, rfl, h62, h12⟩ := hr2.cells; have HS2 := Lib.hid (HS1.out.next hH.out hb2); have HR2 := Lib.hid hr2; have HC6 := Lib.hid h62; have HC1 := Lib.hid h12; clear hr2 hb2 h62 h12)
      | (refine wpList_load_row rfl 29 _ rfl w.heap.size rfl _ cs (0, 0) _ HS1.out.d0.1 Try.underlying29 rfl HS1.out.d0.info ?_)
      | (go_at_call 17; (with_reducible refine (HP.out _ _ HS0.out.dk).mono ?_); rintro e w1 ⟨F1, rfl, hk1, hx1⟩; have HS1 := Lib.hid (HS0.out.prog hH.out hk1 hx1); obtain ⟨c0, c1, c2, c3, c4, c5, c6, c7, c8⟩ := HS1.out.act.nine; clear hk1 hx1))
    obtain ⟨hE, hD⟩ := HS3.out.done hH.out
    refine bodyPost_ret_by (results_row_tmp rfl _ _ (w.heap.size + 2) _ rfl (disk_load hD.1 HC6.out)) rfl ⟨_, _, _, rfl, hE⟩
set_option maxRecDepth 8000 in
set_option maxHeartbeats 4000000 in
theorem do_sync {DK : World → Addr → (Nat → Bool) → AD → Prop} (H : DiskSays DK) (F M : Nat → Bool) (w : World) (p : Addr) (vd : Value) (d : AD) (a : AAct) (al ak : Option Addr) (cl ck : Nat)
    (hdk : DK w p F d) (hg : Good d) (hrd : RD (mask M w) vd d) (hs : ∀ k, F k = true → M k = true) (hM : Foot M w.heap.size) (ha : GA a) (hk : a.kind.tmod 10 = 4) :
    Calls Try.prog 10 #[ptr p, vd, .agg (actC a.kind a.name a.to a.at_ a.n (.slice al a.len cl) (.slice ak a.klen ck) a.torn a.cut)] w fun e w' => ∃ v' F' M', e = .returned (.tuple #[v', .bool true]) ∧ DoE DK F M w p v' (d.doR a) F' M' w' := by
  obtain ⟨cs, rfl, h6, h1c⟩ := hrd.cells
  have HDO : Hid (d.doR a = (d.syncR a.name).1) := Lib.hid (by unfold AD.doR; rw [hk]; rfl)
  obtain ⟨kd, s, t, x, y, len, l, klen, kp, g, h⟩ := a
  have hH := Lib.hid H
  have HS0 := Lib.hid (DoS.start H hdk hrd hs hM h6 (show (actC kd s t x y (.slice al len cl) (.slice ak klen ck) g h).size = 9 from rfl))
  obtain ⟨d', hd'⟩ : ∃ d', (d.syncR s).1 = d' := ⟨_, rfl⟩
  obtain ⟨er, her⟩ : ∃ er, (d.syncR s).2 = er := ⟨_, rfl⟩
  have HP : Hid (∀ w' F', DK w' p F' d → Calls Try.prog 19 #[ptr p, .string s] w' fun e w2 => ∃ F2, e = .returned (.int .i64 er) ∧ DK w2 p F2 d' ∧ Ext F' w' w2 F2) := Lib.hid (fun w' F' h => by
    have := H.sync w' p F' d s h hg ha.name; rwa [hd', her] at this)
  have HQ : Hid (∀ w' M' v, Foot M' w'.heap.size → RD (mask M' w') v d → Calls Try.prog 34 #[v, .string s] w' fun e w2 => ∃ v2, e = .returned (.tuple #[v2, .int .i64 er]) ∧ RD (mask M' w2) v2 d' ∧ Below w'.heap.size w' w2) := Lib.hid (fun w' M' v h1 h2 => by
    have := rsync_any M' v d s w' h1 h2 (by have := hg.few; omega) (get_small hg s); rwa [hd', her] at this)
  simp only at HDO hk
  rw [hd'] at HDO
  rw [HDO.out]
  clear hd' her hdk hrd HDO
  have HW := Lib.hid HS0.out.act.nine
  have H1C := Lib.hid h1c
  have H6 := Lib.hid h6
  clear hg ha h1c h6 hs hM
  unfold actC at *
  unfold dz at HS0
  go_enter Try.func10, Try.ntmps10
  skip
  all_goals
    go_wp2_with (first
      | (refine wpList_store_row rfl 29 _ _ rfl (w.heap.size + 2) cs2 rfl rfl _ dz HS3.out.d2.1 (by rw [HC6.out]; exact disk_info) (by rw [HC6.out]; rfl) HC1.out ?_)
      | (refine wpList_load_row rfl 29 _ rfl w.heap.size rfl _ cs2 (0, 0) _ HS3.out.d0.1 Try.underlying29 rfl HS3.out.d0.info ?_)
      | (refine wpList_store_row rfl 29 _ _ rfl w.heap.size cs2 rfl rfl _ cs HS2.out.d0.1 (by rw [HC6.out]; exact disk_info) (by rw [HC6.out, H6.out]) HC1.out ?_; have HS3 := Lib.hid (HS2.out.put hH.out HR2.out HC6.out))
      | (go_at_call 34; (with_reducible refine (HQ.out _ _ _ HS1.out.foot HS1.out.rd).mono ?_); rintro e w2 ⟨v2, rfl, hr2, hb2⟩; obtain ⟨cs2, rfl, h62, h12⟩ := hr2.cells; have HS2 := Lib.hid (HS1.out.next hH.out hb2); have HR2 := Lib.hid hr2; have HC6 := Lib.hid h62; have HC1 := Lib.hid h12; clear hr2 hb2 h62 h12)
      | (refine wpList_load_row rfl 29 _ rfl w.heap.size rfl _ cs (0, 0) _ HS1.out.d0.1 Try.underlying29 rfl HS1.out.d0.info ?_)
      | (go_at_call 19; (with_reducible refine (HP.out _ _ HS0.out.dk).mono ?_); rintro e w1 ⟨F1, rfl, hk1, hx1⟩; have HS1 := Lib.hid (HS0.out.prog hH.out hk1 hx1); obtain ⟨c0, c1, c2, c3, c4, c5, c6, c7, c8⟩ := HS1.out.act.nine; clear hk1 hx1))
    obtain ⟨hE, hD⟩ := HS3.out.done hH.out
    refine bodyPost_ret_by (results_row_tmp rfl _ _ (w.heap.size + 2) _ rfl (disk_load hD.1 HC6.out)) rfl ⟨_, _, _, rfl, hE⟩
set_option maxRecDepth 8000 in
set_option maxHeartbeats 4000000 in
theorem do_rename {DK : World → Addr → (Nat → Bool) → AD → Prop} (H : DiskSays DK) (F M : Nat → Bool) (w : World) (p : Addr) (vd : Value) (d : AD) (a : AAct) (al ak : Option Addr) (cl ck : Nat)
    (hdk : DK w p F d) (hg : Good d) (hrd : RD (mask M w) vd d) (hs : ∀ k, F k = true → M k = true) (hM : Foot M w.heap.size) (ha : GA a) (hk : a.kind.tmod 10 = 5) :
    Calls Try.prog 10 #[ptr p, vd, .agg (actC a.kind a.name a.to a.at_ a.n (.slice al a.len cl) (.slice ak a.klen ck) a.torn a.cut)] w fun e w' => ∃ v' F' M', e = .returned (.tuple #[v', .bool true]) ∧ DoE DK F M w p v' (d.doR a) F' M' w' := by
  obtain ⟨cs, rfl, h6, h1c⟩ := hrd.cells
  have HDO : Hid (d.doR a = (d.renameR a.name a.to).1) := Lib.hid (by unfold AD.doR; rw [hk]; rfl)
  obtain ⟨kd, s, t, x, y, len, l, klen, kp, g, h⟩ := a
  have hH := Lib.hid H
  have HS0 := Lib.hid (DoS.start H hdk hrd hs hM h6 (show (actC kd s t x y (.slice al len cl) (.slice ak klen ck) g h).size = 9 from rfl))
  obtain ⟨d', hd'⟩ : ∃ d', (d.renameR s t).1 = d' := ⟨_, rfl⟩
  obtain ⟨er, her⟩ : ∃ er, (d.renameR s t).2 = er := ⟨_, rfl⟩
  have HP : Hid (∀ w' F', DK w' p F' d → Calls Try.prog 20 #[ptr p, .string s, .string t] w' fun e w2 => ∃ F2, e = .returned (.int .i64 er) ∧ DK w2 p F2 d' ∧ Ext F' w' w2 F2) := Lib.hid (fun w' F' h => by
    have := H.rename w' p F' d s t h hg ha.name ha.to; rwa [hd', her] at this)
  have HQ : Hid (∀ w' M' v, Foot M' w'.heap.size → RD (mask M' w') v d → Calls Try.prog 35 #[v, .string s, .string t] w' fun e w2 => ∃ v2, e = .returned (.tuple #[v2, .int .i64 er]) ∧ RD (mask M' w2) v2 d' ∧ Below w'.heap.size w' w2) := Lib.hid (fun w' M' v h1 h2 => by
    have := rrename_any M' v d s t w' h1 h2 (by have := hg.few; omega) ha.to; rwa [hd', her] at this)
  simp only at HDO hk
  rw [hd'] at HDO
  rw [HDO.out]
  clear hd' her hdk hrd HDO
  have HW := Lib.hid HS0.out.act.nine
  have H1C := Lib.hid h1c
  have H6 := Lib.hid h6
  clear hg ha h1c h6 hs hM
  unfold actC at *
  unfold dz at HS0
  go_enter Try.func10, Try.ntmps10
  skip
  all_goals
    go_wp2_with (first
      | (refine wpList_store_row rfl 29 _ _ rfl (w.heap.size + 2) cs2 rfl rfl _ dz HS3.out.d2.1 (by rw [HC6.out]; exact disk_info) (by rw [HC6.out]; rfl) HC1.out ?_)
      | (refine wpList_load_row rfl 29 _ rfl w.heap.size rfl _ cs2 (0, 0) _ HS3.out.d0.1 Try.underlying29 rfl HS3.out.d0.info ?_)
      | (refine wpList_store_row rfl 29 _ _ rfl w.heap.size cs2 rfl rfl _ cs HS2.out.d0.1 (by rw [HC6.out]; exact disk_info) (by rw [HC6.out, H6.out]) HC1.out ?_; have HS3 := Lib.hid (HS2.out.put hH.out HR2.out HC6.out))
      | (go_at_call 35; (with_reducible refine (HQ.out _ _ _ HS1.out.foot HS1.out.rd).mono ?_); rintro e w2 ⟨v2, rfl, hr2, hb2⟩; obtain ⟨cs2, rfl, h62, h12⟩ := hr2.cells; have HS2 := Lib.hid (HS1.out.next hH.out hb2); have HR2 := Lib.hid hr2; have HC6 := Lib.hid h62; have HC1 := Lib.hid h12; clear hr2 hb2 h62 h12)
      | (refine wpList_load_row rfl 29 _ rfl w.heap.size rfl _ cs (0, 0) _ HS1.out.d0.1 Try.underlying29 rfl HS1.out.d0.info ?_)
      | (go_at_call 20; (with_reducible refine (HP.out _ _ HS0.out.dk).mono ?_); rintro e w1 ⟨F1, rfl, hk1, hx1⟩; have HS1 := Lib.hid (HS0.out.prog hH.out hk1 hx1); obtain ⟨c0, c1, c2, c3, c4, c5, c6, c7, c8⟩ := HS1.out.act.nine; clear hk1 hx1))
    obtain ⟨hE, hD⟩ := HS3.out.done hH.out
    refine bodyPost_ret_by (results_row_tmp rfl _ _ (w.heap.size + 2) _ rfl (disk_load hD.1 HC6.out)) rfl ⟨_, _, _, rfl, hE⟩
set_option maxRecDepth 8000 in
set_option maxHeartbeats 4000000 in
theorem do_remove {DK : World → Addr → (Nat → Bool) → AD → Prop} (H : DiskSays DK) (F M : Nat → Bool) (w : World) (p : Addr) (vd : Value) (d : AD) (a : AAct) (al ak : Option Addr) (cl ck : Nat)
    (hdk : DK w p F d) (hg : Good d) (hrd : RD (mask M w) vd d) (hs : ∀ k, F k = true → M k = true) (hM : Foot M w.heap.size) (ha : GA a) (hk : a.kind.tmod 10 = 6) :
    Calls Try.prog 10 #[ptr p, vd, .agg (actC a.kind a.name a.to a.at_ a.n (.slice al a.len cl) (.slice ak a.klen ck) a.torn a.cut)] w fun e w' => ∃ v' F' M', e = .returned (.tuple #[v', .bool true]) ∧ DoE DK F M w p v' (d.doR a) F' M' w' := by
  obtain ⟨cs, rfl, h6, h1c⟩ := hrd.cells
  have HDO : Hid (d.doR a = (d.removeR a.name).1) := Lib.hid (by unfold AD.doR; rw [hk]; rfl)
  obtain ⟨kd, s, t, x, y, len, l, klen, kp, g, h⟩ := a
  have hH := Lib.hid H
  have HS0 := Lib.hid (DoS.start H hdk hrd hs hM h6 (show (actC kd s t x y (.slice al len cl) (.slice ak klen ck) g h).size = 9 from rfl))
  obtain ⟨d', hd'⟩ : ∃ d', (d.removeR s).1 = d' := ⟨_, rfl⟩
  obtain ⟨er, her⟩ : ∃ er, (d.removeR s).2 = er := ⟨_, rfl⟩
  have HP : Hid (∀ w' F', DK w' p F' d → Calls Try.prog 21 #[ptr p, .string s] w' fun e w2 => ∃ F2, e = .returned (.int .i64 er) ∧ DK w2 p F2 d' ∧ Ext F' w' w2 F2) := Lib.hid (fun w' F' h => by
    have := H.remove w' p F' d s h hg ha.name; rwa [hd', her] at this)
  have HQ : Hid (∀ w' M' v, Foot M' w'.heap.size → RD (mask M' w') v d → Calls Try.prog 36 #[v, .string s] w' fun e w2 => ∃ v2, e = .returned (.tuple #[v2, .int .i64 er]) ∧ RD (mask M' w2) v2 d' ∧ Below w'.heap.size w' w2) := Lib.hid (fun w' M' v h1 h2 => by
    have := rremove_any M' v d s w' h1 h2 (by have := hg.few; omega); rwa [hd', her] at this)
  simp only at HDO hk
  rw [hd'] at HDO
  rw [HDO.out]
  clear hd' her hdk hrd HDO
  have HW := Lib.hid HS0.out.act.nine
  have H1C := Lib.hid h1c
  have H6 := Lib.hid h6
  clear hg ha h1c h6 hs hM
  unfold actC at *
  unfold dz at HS0
  go_enter Try.func10, Try.ntmps10
  skip
  all_goals
    go_wp2_with (first
      | (refine wpList_store_row rfl 29 _ _ rfl (w.heap.size + 2) cs2 rfl rfl _ dz HS3.out.d2.1 (by rw [HC6.out]; exact disk_info) (by rw [HC6.out]; rfl) HC1.out ?_)
      | (refine wpList_load_row rfl 29 _ rfl w.heap.size rfl _ cs2 (0, 0) _ HS3.out.d0.1 Try.underlying29 rfl HS3.out.d0.info ?_)
      | (refine wpList_store_row rfl 29 _ _ rfl w.heap.size cs2 rfl rfl _ cs HS2.out.d0.1 (by rw [HC6.out]; exact disk_info) (by rw [HC6.out, H6.out]) HC1.out ?_; have HS3 := Lib.hid (HS2.out.put hH.out HR2.out HC6.out))
      | (go_at_call 36; (with_reducible refine (HQ.out _ _ _ HS1.out.foot HS1.out.rd).mono ?_); rintro e w2 ⟨v2, rfl, hr2, hb2⟩; obtain ⟨cs2, rfl, h62, h12⟩ := hr2.cells; have HS2 := Lib.hid (HS1.out.next hH.out hb2); have HR2 := Lib.hid hr2; have HC6 := Lib.hid h62; have HC1 := Lib.hid h12; clear hr2 hb2 h62 h12)
      | (refine wpList_load_row rfl 29 _ rfl w.heap.size rfl _ cs (0, 0) _ HS1.out.d0.1 Try.underlying29 rfl HS1.out.d0.info ?_)
      | (go_at_call 21; (with_reducible refine (HP.out _ _ HS0.out.dk).mono ?_); rintro e w1 ⟨F1, rfl, hk1, hx1⟩; have HS1 := Lib.hid (HS0.out.prog hH.out hk1 hx1); obtain ⟨c0, c1, c2, c3, c4, c5, c6, c7, c8⟩ := HS1.out.act.nine; clear hk1 hx1))
    obtain ⟨hE, hD⟩ := HS3.out.done hH.out
    refine bodyPost_ret_by (results_row_tmp rfl _ _ (w.heap.size + 2) _ rfl (disk_load hD.1 HC6.out)) rfl ⟨_, _, _, rfl, hE⟩
set_option maxRecDepth 8000 in
set_option maxHeartbeats 4000000 in
theorem do_fail {DK : World → Addr → (Nat → Bool) → AD → Prop} (H : DiskSays DK) (F M : Nat → Bool) (w : World) (p : Addr) (vd : Value) (d : AD) (a : AAct) (al ak : Option Addr) (cl ck : Nat)
    (hdk : DK w p F d) (hg : Good d) (hrd : RD (mask M w) vd d) (hs : ∀ k, F k = true → M k = true) (hM : Foot M w.heap.size) (ha : GA a) (hk : a.kind.tmod 10 = 7) :
    Calls Try.prog 10 #[ptr p, vd, .agg (actC a.kind a.name a.to a.at_ a.n (.slice al a.len cl) (.slice ak a.klen ck) a.torn a.cut)] w fun e w' => ∃ v' F' M', e = .returned (.tuple #[v', .bool true]) ∧ DoE DK F M w p v' (d.doR a) F' M' w' := by
  obtain ⟨cs, rfl, h6, h1c⟩ := hrd.cells
  have HDO : Hid (d.doR a = (d.failR a.n).1) := Lib.hid (by unfold AD.doR; rw [hk]; rfl)
  obtain ⟨kd, s, t, x, y, len, l, klen, kp, g, h⟩ := a
  have hH := Lib.hid H
  have HS0 := Lib.hid (DoS.start H hdk hrd hs hM h6 (show (actC kd s t x y (.slice al len cl) (.slice ak klen ck) g h).size = 9 from rfl))
  obtain ⟨d', hd'⟩ : ∃ d', (d.failR y).1 = d' := ⟨_, rfl⟩
  obtain ⟨er, her⟩ : ∃ er, (d.failR y).2 = er := ⟨_, rfl⟩
  have HP : Hid (∀ w' F', DK w' p F' d → Calls Try.prog 22 #[ptr p, .int .i64 y] w' fun e w2 => ∃ F2, e = .returned (.int .i64 er) ∧ DK w2 p F2 d' ∧ Ext F' w' w2 F2) := Lib.hid (fun w' F' h => by
    have := H.fail w' p F' d y h hg ha.n; rwa [hd', her] at this)
  have HQ : Hid (∀ w' M' v, Foot M' w'.heap.size → RD (mask M' w') v d → Calls Try.prog 37 #[v, .int .i64 y] w' fun e w2 => ∃ v2, e = .returned (.tuple #[v2, .int .i64 er]) ∧ RD (mask M' w2) v2 d' ∧ Below w'.heap.size w' w2) := Lib.hid (fun w' M' v h1 h2 => by
    have := rfail_any M' v d y w' h1 h2; rwa [hd', her] at this)
  simp only at HDO hk
  rw [hd'] at HDO
  rw [HDO.out]
  clear hd' her hdk hrd HDO
  have HW := Lib.hid HS0.out.act.nine
  have H1C := Lib.hid h1c
  have H6 := Lib.hid h6
  clear hg ha h1c h6 hs hM
  unfold actC at *
  unfold dz at HS0
  go_enter Try.func10, Try.ntmps10
  skip
  all_goals
    go_wp2_with (first
      | (refine wpList_store_row rfl 29 _ _ rfl (w.heap.size + 2) cs2 rfl rfl _ dz HS3.out.d2.1 (by rw [HC6.out]; exact disk_info) (by rw [HC6.out]; rfl) HC1.out ?_)
      | (refine wpList_load_row rfl 29 _ rfl w.heap.size rfl _ cs2 (0, 0) _ HS3.out.d0.1 Try.underlying29 rfl HS3.out.d0.info ?_)
      | (refine wpList_store_row rfl 29 _ _ rfl w.heap.size cs2 rfl rfl _ cs HS2.out.d0.1 (by rw [HC6.out]; exact disk_info) (by rw [HC6.out, H6.out]) HC1.out ?_; have HS3 := Lib.hid (HS2.out.put hH.out HR2.out HC6.out))
      | (go_at_call 37; (with_reducible refine (HQ.out _ _ _ HS1.out.foot HS1.out.rd).mono ?_); rintro e w2 ⟨v2, rfl, hr2, hb2⟩; obtain ⟨cs2, rfl, h62, h12⟩ := hr2.cells; have HS2 := Lib.hid (HS1.out.next hH.out hb2); have HR2 := Lib.hid hr2; have HC6 := Lib.hid h62; have HC1 := Lib.hid h12; clear hr2 hb2 h62 h12)
      | (refine wpList_load_row rfl 29 _ rfl w.heap.size rfl _ cs (0, 0) _ HS1.out.d0.1 Try.underlying29 rfl HS1.out.d0.info ?_)
      | (go_at_call 22; (with_reducible refine (HP.out _ _ HS0.out.dk).mono ?_); rintro e w1 ⟨F1, rfl, hk1, hx1⟩; have HS1 := Lib.hid (HS0.out.prog hH.out hk1 hx1); obtain ⟨c0, c1, c2, c3, c4, c5, c6, c7, c8⟩ := HS1.out.act.nine; clear hk1 hx1))
    obtain ⟨hE, hD⟩ := HS3.out.done hH.out
    refine bodyPost_ret_by (results_row_tmp rfl _ _ (w.heap.size + 2) _ rfl (disk_load hD.1 HC6.out)) rfl ⟨_, _, _, rfl, hE⟩
set_option maxRecDepth 8000 in
set_option maxHeartbeats 4000000 in
theorem do_crash {DK : World → Addr → (Nat → Bool) → AD → Prop} (H : DiskSays DK) (F M : Nat → Bool) (w : World) (p : Addr) (vd : Value) (d : AD) (a : AAct) (al ak : Option Addr) (cl ck : Nat)
    (hdk : DK w p F d) (hg : Good d) (hrd : RD (mask M w) vd d) (hs : ∀ k, F k = true → M k = true) (hM : Foot M w.heap.size) (ha : GA a) (hra : RI .u8 (mask M w) (.slice ak a.klen ck) a.klen a.keep) (hk : a.kind.tmod 10 = 8) :
    Calls Try.prog 10 #[ptr p, vd, .agg (actC a.kind a.name a.to a.at_ a.n (.slice al a.len cl) (.slice ak a.klen ck) a.torn a.cut)] w fun e w' => ∃ v' F' M', e = .returned (.tuple #[v', .bool true]) ∧ DoE DK F M w p v' (d.doR a) F' M' w' := by
  obtain ⟨cs, rfl, h6, h1c⟩ := hrd.cells
  have HDO : Hid (d.doR a = d.crashR a.keep a.torn a.cut) := Lib.hid (by unfold AD.doR; rw [hk]; rfl)
  obtain ⟨kd, s, t, x, y, len, l, klen, kp, g, h⟩ := a
  have hH := Lib.hid H
  have HS0 := Lib.hid (DoS.start H hdk hrd hs hM h6 (show (actC kd s t x y (.slice al len cl) (.slice ak klen ck) g h).size = 9 from rfl))
  obtain ⟨d', hd'⟩ : ∃ d', d.crashR kp g h = d' := ⟨_, rfl⟩
  have HRI := Lib.hid hra
  have HP : Hid (∀ w' F', DK w' p F' d → RI .u8 (mask F' w') (.slice ak klen ck) klen kp → Calls Try.prog 14 #[ptr p, .agg #[.slice ak klen ck, .int .i64 g, .int .i64 h]] w' fun e w2 => ∃ F2, e = .returned (.tuple #[]) ∧ DK w2 p F2 d' ∧ Ext F' w' w2 F2) := Lib.hid (fun w' F' hd hri => by
    have := H.crash w' p F' d _ klen kp g h hd hg hri ha.keep ha.torn ha.cut; rwa [hd'] at this)
  have HQ : Hid (∀ w' M' v, Foot M' w'.heap.size → RD (mask M' w') v d → RI .u8 (mask M' w') (.slice ak klen ck) klen kp → Calls Try.prog 38 #[v, .agg #[.slice ak klen ck, .int .i64 g, .int .i64 h]] w' fun e w2 => ∃ v2, e = .returned v2 ∧ RD (mask M' w2) v2 d' ∧ Below w'.heap.size w' w2) := Lib.hid (fun w' M' v h1 h2 hri => by
    have := rcrash_any M' v d _ klen kp g h w' h1 h2 hri ha.keep ha.torn ha.cut (by have := hg.few; omega) (by have := hg.used; have := hg.cap1; omega); rwa [hd'] at this)
  simp only at HDO hk
  rw [hd'] at HDO
  rw [HDO.out]
  clear hd' hdk hrd HDO hra
  have HW := Lib.hid HS0.out.act.nine
  have H1C := Lib.hid h1c
  have H6 := Lib.hid h6
  clear hg ha h1c h6 hs hM
  unfold actC at *
  unfold dz at HS0
  go_enter Try.func10, Try.ntmps10
  skip
  all_goals
    go_wp2_with (first
      | (refine wpList_store_row rfl 29 _ _ rfl (w.heap.size + 2) cs2 rfl rfl _ dz HS3.out.d2.1 (by rw [HC6.out]; exact disk_info) (by rw [HC6.out]; rfl) HC1.out ?_)
      | (refine wpList_load_row rfl 29 _ rfl w.heap.size rfl _ cs2 (0, 0) _ HS3.out.d0.1 Try.underlying29 rfl HS3.out.d0.info ?_)
      | (refine wpList_store_row rfl 29 _ _ rfl w.heap.size cs2 rfl rfl _ cs HS2.out.d0.1 (by rw [HC6.out]; exact disk_info) (by rw [HC6.out, H6.out]) HC1.out ?_; have HS3 := Lib.hid (HS2.out.put hH.out HR2.out HC6.out))
      | (go_at_call 38; (with_reducible refine (HQ.out _ _ _ HS1.out.foot HS1.out.rd (HRI.out.kin HS1.out.kin)).mono ?_); rintro e w2 ⟨v2, rfl, hr2, hb2⟩; obtain ⟨cs2, rfl, h62, h12⟩ := hr2.cells; have HS2 := Lib.hid (HS1.out.next hH.out hb2); have HR2 := Lib.hid hr2; have HC6 := Lib.hid h62; have HC1 := Lib.hid h12; clear hr2 hb2 h62 h12)
      | (refine wpList_load_row rfl 29 _ rfl w.heap.size rfl _ cs (0, 0) _ HS1.out.d0.1 Try.underlying29 rfl HS1.out.d0.info ?_)
      | (go_at_call 14; (with_reducible refine (HP.out _ _ HS0.out.dk (HRI.out.kin HS0.out.kinF)).mono ?_); rintro e w1 ⟨F1, rfl, hk1, hx1⟩; have HS1 := Lib.hid (HS0.out.prog hH.out hk1 hx1); obtain ⟨c0, c1, c2, c3, c4, c5, c6, c7, c8⟩ := HS1.out.act.nine; clear hk1 hx1))
    obtain ⟨hE, hD⟩ := HS3.out.done hH.out
    refine bodyPost_ret_by (results_row_tmp rfl _ _ (w.heap.size + 2) _ rfl (disk_load hD.1 HC6.out)) rfl ⟨_, _, _, rfl, hE⟩
end Go.Proofs.Ytpnialanmidekaa
