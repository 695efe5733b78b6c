/-
  WHAT THE PROGRAM'S OWN FUNCTIONS OF LAYER 4 (field) ANSWER: lay, cut, Put, Get, Pack, Unpack (and bytes.Clone). Bytes must lie where the slices say; sizes as the theorems say.
-/
import Derived.Test.YtkgpbkkcpcdogaaFieldRefB
import Derived.Lib.SliceRun
namespace Go.Proofs.Ytkgpbkkcpcdogaa
open Go.RowKit
set_option maxRecDepth 8000 in
theorem clone_any (v : Value) (len : Nat) (zs : List Int) (w : World) (hri : RI .u8 w v len zs) (hlen : (len : Int) ≤ 200000000000000) :
    Calls Try.prog 18 #[v] w fun e w' => ∃ v', e = .returned v' ∧ w'.ownsRow w.heap.size 5 1 v' len (il .u8 zs) ∧ Below w.heap.size w w' := by
  have HR := Lib.hid hri
  obtain ⟨a, cap, rfl, hl, hlc, _, hnil, _⟩ := hri
  cases a with
  | none =>
    obtain rfl : cap = 0 := hnil rfl
    obtain rfl : len = 0 := by omega
    obtain rfl : zs = [] := List.length_eq_zero_iff.1 hl
    have he : (binOp .eql 22 (.slice none 0 0) (.slice none 0 0)).run Try.prog w = .ok (.bool true) w := Lib.run_eql_slice_nil w _ _ none 0 0 0 0 Try.underlying22
    clear hl hlc hnil
    go_enter Try.func18, Try.ntmps18
    go_wp2
    go_ret
    exact ⟨_, rfl, World.ownsRow_nil _ _ _ _, Below.refl _ _⟩
  | some x =>
    have he : (binOp .eql 22 (.slice (some x) len cap) (.slice none 0 0)).run Try.prog w = .ok (.bool false) w := Lib.run_eql_slice_nil w _ _ (some x) len cap 0 0 Try.underlying22
    clear hl hnil
    go_enter Try.func18, Try.ntmps18
    go_wp2_with (first
      | (at_builtin; go_loud (refine wpl_appn rfl (.tmp 5) (.tmp 6) 22 rfl 5 .u8 1 Try.underlying22 Try.info_u8 w.heap.size _ 0 [] rfl (own_empty rfl (by omega)) _ len zs rfl (HR.out.keep ((Below.refl _ _).alloc (Nat.le_refl _) _)) (by omega) (by omega) w.heap.size w ((Below.refl _ _).alloc (Nat.le_refl _) _) (Nat.le_refl _) (by simp) ?_); intro v1 w4 HO1 HB1))
    go_ret
    have h5 := HO1.out
    rw [Nat.zero_add, List.nil_append] at h5
    exact ⟨_, rfl, h5, HB1.out⟩
set_option maxRecDepth 8000 in
set_option maxHeartbeats 1000000 in
theorem lay_some (v : Value) (len : Nat) (zs : List Int) (b off n cap : Nat) (ls : List (List Int)) (w : World) (hri : RI .u8 w v len zs) (hrl : RL .u8 w (.slice (some ⟨b, off, none⟩) n cap) n ls) (h0 : 0 < n) (hn : (n : Int) * 65539 + len ≤ 200000000000000) :
    Calls Try.prog 16 #[v, .slice (some ⟨b, off, none⟩) n cap] w fun e w' => ∃ v', e = .returned v' ∧ w'.ownsRow w.heap.size 5 1 v' (len + (pk ls).length) (il .u8 (zs ++ pk ls)) ∧ Below w.heap.size w w' := by
  obtain ⟨b', off', hbo, hat⟩ := hrl.at_ h0
  simp only [Option.some.injEq, Addr.mk.injEq, and_true] at hbo
  obtain ⟨rfl, rfl⟩ := hbo
  have HAT := Lib.hid hat
  have HL := Lib.hid hrl.length
  have HN := Lib.hid hn
  have hn2 : (n : Int) ≤ 9223372036854775807 := by omega
  have HR := Lib.hid hri
  clear hat hrl hn hri
  go_enter Try.func16, Try.ntmps16
  go_wp2_with (first
    | (go_at_call 18; (with_reducible refine (clone_any _ len zs _ HR.out (by have := HN.out; omega)).mono ?_); rintro e w1 ⟨v1, rfl, ho1, hb1⟩; have HO1 := Lib.hid ho1; have HB1 := Lib.hid hb1; clear ho1 hb1))
  go_loopw [5, 12] (fun x iv wr => ∃ i : Nat, iv = .int .i64 i ∧ i ≤ n ∧ Hid (wr.ownsRow w.heap.size 5 1 x (len + (pk (ls.take i)).length) (il .u8 (zs ++ pk (ls.take i)))) ∧ Hid (Below w.heap.size w wr)) (fun _ iv _ => n - (intOf iv).toNat)
  case atStart => exact ⟨0, rfl, by omega, Lib.hid (by simpa [pk_nil] using HO1.out), HB1⟩
  case round =>
    obtain ⟨i, rfl, hi, HO, HB⟩ := hrel
    by_cases hlt : (i : Int) < (n : Int)
    · obtain ⟨x1, c1, hc, hr⟩ := HAT.out i (by omega)
      have HPT := Lib.hid (pk_take ls i (by rw [HL.out]; omega))
      generalize ls.getD i [] = l at hc hr HPT
      have HR := Lib.hid hr
      have hcell := cell_keep HB.out hc
      have HLE := Lib.hid (show len + (pk (ls.take i)).length + 65539 ≤ 200000000000000 from by have h1 := pk_len (ls.take i); have h2 := HN.out; have h3 : (ls.take i).length ≤ i := (by simp; omega); omega)
      have hlr : (l.length : Int) ≤ 9223372036854775807 := by have := hr.le; omega
      clear hc hr
      by_cases hle : (l.length : Int) ≤ 65536
      · have HPF := Lib.hid (fo_small l (by omega))
        obtain ⟨m, hm⟩ : ∃ m, len + (pk (ls.take i)).length = m := ⟨_, rfl⟩
        have HM := Lib.hid hm
        rw [hm] at HO
        have HV := Lib.hid (vb_three l.length (by omega))
        clear hm
        go_wp2_with (first
          | (go_at_call 21; (with_reducible refine (put_any l.length (by omega) _ 0 [] _ (RI.nil _ _) (by omega)).mono ?_); rintro e w2 ⟨v2, rfl, ho2, hb2⟩; rw [Nat.zero_add, List.nil_append] at ho2; have HO2 := Lib.hid (own_keep HO.out hb2); have HP2 := Lib.hid (RI.own ho2); have HB2 := Lib.hid (HB.out.trans (hb2.mono HB.out.size)); clear ho2 hb2)
          | (at_builtin; (refine wpl_appn rfl (.tmp 19) (.tmp 23) 22 rfl 5 .u8 1 Try.underlying22 Try.info_u8 w.heap.size _ m _ rfl HO2 _ (vb l.length).length (vb l.length) rfl HP2 (by have := HLE.out; have := HM.out; have := HV.out; omega) (by have := HLE.out; have := HM.out; have := HV.out; omega) w.heap.size w HB2 (Nat.le_refl _) HB2.out.size ?_); intro v3 w3 HO3 HB3)
          | (at_builtin; (refine wpl_appn rfl (.tmp 25) (.tmp 26) 22 rfl 5 .u8 1 Try.underlying22 Try.info_u8 w.heap.size _ (m + (vb l.length).length) _ rfl HO3 _ l.length l rfl (HR.out.keep HB3.out) (by have := HLE.out; have := HM.out; have := HV.out; omega) (by have := HLE.out; have := HM.out; have := HV.out; omega) w.heap.size w HB3 (Nat.le_refl _) HB3.out.size ?_); intro v4 w4 HO4 HB4))
        go_roundw
        case rel =>
          refine ⟨i + 1, by go_num, by omega, ?_, HB4⟩
          have h5 := HO4.out
          rw [List.append_assoc, List.append_assoc, ← fb, ← HPF.out, ← HPT.out,
            show m + (vb l.length).length + l.length = len + (pk (ls.take (i + 1))).length from by rw [HPT.out, HPF.out, List.length_append, fb, List.length_append, ← HM.out]; omega] at h5
          exact h5
        case measure => simp [intOf]; omega
      · have HPF := Lib.hid (fo_big l (by omega))
        go_wp2
        go_roundw
        case rel => exact ⟨i + 1, by go_num, by omega, by rw [HPT.out, HPF.out, List.append_nil]; exact HO, HB⟩
        case measure => simp [intOf]; omega
    · go_wp2
      go_ret
      have h5 := HO.out
      rw [List.take_of_length_le (by rw [HL.out]; omega)] at h5
      exact ⟨_, rfl, h5, HB.out⟩
set_option maxRecDepth 8000 in
theorem lay_none (v : Value) (len : Nat) (zs : List Int) (a : Option Addr) (cap : Nat) (w : World) (hri : RI .u8 w v len zs) (hn : (len : Int) ≤ 200000000000000) :
    Calls Try.prog 16 #[v, .slice a 0 cap] w fun e w' => ∃ v', e = .returned v' ∧ w'.ownsRow w.heap.size 5 1 v' len (il .u8 zs) ∧ Below w.heap.size w w' := by
  have HR := Lib.hid hri
  clear hri
  go_enter Try.func16, Try.ntmps16
  go_wp2_with (first
    | (go_at_call 18; (with_reducible refine (clone_any _ len zs _ HR.out hn).mono ?_); rintro e w1 ⟨v1, rfl, ho1, hb1⟩; have HO1 := Lib.hid ho1; have HB1 := Lib.hid hb1; clear ho1 hb1))
  refine wp_loop_rounds 1 ?_
  rw [rounds_succ]
  go_wp2
  go_ret
  exact ⟨_, rfl, HO1.out, HB1.out⟩
theorem lay_any (v : Value) (len : Nat) (zs : List Int) (lv : Value) (n : Nat) (ls : List (List Int)) (w : World) (hri : RI .u8 w v len zs) (hrl : RL .u8 w lv n ls) (hn : (n : Int) * 65539 + len ≤ 200000000000000) :
    Calls Try.prog 16 #[v, lv] w fun e w' => ∃ v', e = .returned v' ∧ w'.ownsRow w.heap.size 5 1 v' (len + (pk ls).length) (il .u8 (zs ++ pk ls)) ∧ Below w.heap.size w w' := by
  obtain ⟨a, cap, rfl, _⟩ := hrl.form
  by_cases h0 : 0 < n
  · obtain ⟨b, off, rfl, _⟩ := hrl.at_ h0
    exact lay_some v len zs b off n cap ls w hri hrl h0 hn
  · obtain rfl : n = 0 := by omega
    obtain rfl : ls = [] := List.length_eq_zero_iff.1 hrl.length
    refine (lay_none v len zs a cap w hri (by omega)).mono fun e w' h => ?_
    simpa [pk_nil] using h
set_option maxRecDepth 8000 in
theorem fput_any (v fv : Value) (len fl : Nat) (zs fs : List Int) (w : World) (hri : RI .u8 w v len zs) (hrf : RI .u8 w fv fl fs) (hlen : (len : Int) ≤ 199999999934461) (n1 : Nat) (h1 : (zs ++ fo fs).length = n1) :
    Calls Try.prog 10 #[v, fv] w fun e w' => ∃ v', e = .returned v' ∧ w'.ownsRow w.heap.size 5 1 v' n1 (il .u8 (zs ++ fo fs)) ∧ Below w.heap.size w w' := by
  have HR := Lib.hid hri
  have hz := hri.length
  have HN := Lib.hid (show len + (pk [fs]).length = n1 from by rw [pk_one, ← h1, List.length_append, hz])
  have HRL := Lib.hid (show RL .u8 (w.alloc (.cells #[fv] 22)) (.slice (some ⟨w.heap.size, 0, none⟩) 1 1) 1 [fs] from by
    refine ⟨[fv], ⟨_, 1, rfl, rfl, by omega, by omega, fun h => by simp at h, fun _ => ⟨_, 0, rfl, fun j hj => ?_⟩⟩, rfl, fun j e l he hl => ?_⟩
    · obtain rfl : j = 0 := by omega
      simp
    · match j, he, hl with
      | 0, he, hl =>
        simp at he hl
        subst he hl
        rw [hrf.length]
        exact hrf.keep ((Below.refl _ _).alloc (Nat.le_refl _) _)
      | j + 1, he, _ => simp at he)
  obtain ⟨fa, fc, rfl, _⟩ := hrf
  clear hri h1 hz
  go_enter Try.func10, Try.ntmps10
  go_wp2_with (first
    | (go_at_call 16; (with_reducible refine (lay_any _ len zs _ 1 [fs] _ (HR.out.keep ((Below.refl _ _).alloc (Nat.le_refl _) _)) HRL.out (by omega)).mono ?_); rintro e w1 ⟨v1, rfl, ho1, hb1⟩; have HO1 := Lib.hid (own_mono ho1 (show w.heap.size ≤ _ by simp)); have HB1 := Lib.hid (((Below.refl w.heap.size w).alloc (Nat.le_refl _) _).trans (hb1.mono (by simp))); clear ho1 hb1))
  go_ret
  have h5 := HO1.out
  rw [HN.out, pk_one] at h5
  exact ⟨_, rfl, h5, HB1.out⟩
set_option maxRecDepth 8000 in
theorem fpack_own (v : Value) (n : Nat) (ls : List (List Int)) (w : World) (hri : RL .u8 w v n ls) (hn : (n : Int) * 65539 ≤ 140737488289789) (m : Nat) (hm : (pk ls).length = m) :
    Calls Try.prog 8 #[v] w fun e w' => ∃ v', e = .returned v' ∧ w'.ownsRow w.heap.size 5 1 v' m (il .u8 (pk ls)) ∧ Below w.heap.size w w' := by
  have HRL := Lib.hid hri
  have HM := Lib.hid hm
  clear hri hm
  go_enter Try.func8, Try.ntmps8
  go_wp2_with (first
    | (go_at_call 16; (with_reducible refine (lay_any _ 0 [] _ n ls _ (RI.nil _ _) HRL.out (by omega)).mono ?_); rintro e w1 ⟨v1, rfl, ho1, hb1⟩; have HO1 := Lib.hid ho1; have HB1 := Lib.hid hb1; clear ho1 hb1))
  go_ret
  have h5 := HO1.out
  rw [HM.out, List.nil_append, Nat.zero_add] at h5
  exact ⟨_, rfl, h5, HB1.out⟩
theorem fpack_any (v : Value) (n : Nat) (ls : List (List Int)) (w : World) (hri : RL .u8 w v n ls) (hn : (n : Int) * 65539 ≤ 140737488289789) (m : Nat) (hm : (pk ls).length = m) :
    Calls Try.prog 8 #[v] w fun e w' => ∃ v', e = .returned v' ∧ RI .u8 w' v' m (pk ls) ∧ Below w.heap.size w w' :=
  (fpack_own v n ls w hri hn m hm).mono fun _ _ ⟨v', he, ho, hb⟩ => ⟨v', he, RI.own ho, hb⟩
set_option maxRecDepth 8000 in
set_option maxHeartbeats 1000000 in
theorem cut_any (v : Value) (len : Nat) (zs : List Int) (w : World) (hri : RI .u8 w v len zs) (hb : isB zs) (g1 : List Int) (g2 : Nat) (g3 : Int) (hg : gf zs = (g1, g2, g3)) :
    Calls Try.prog 19 #[v] w fun e w' => ∃ v', e = .returned (.tuple #[v', .int .i64 g2, .int .i64 g3]) ∧ RI .u8 w v' g1.length g1 ∧ (∀ q, v'.ownBlock = some q → v.ownBlock = some q) ∧ w = w' := by
  obtain ⟨⟨n0, k, e⟩, hv⟩ : ∃ g, gv 0 0 zs = g := ⟨_, rfl⟩
  have HR := Lib.hid hri
  have HB := Lib.hid (show ∀ x ∈ zs, 0 ≤ x ∧ x ≤ 255 from hb)
  have HV := Lib.hid hv
  have hz := hri.length
  obtain ⟨a, cap, rfl, _, hlc, hc63, _, _⟩ := hri
  have hkl := gv_len zs 0 0
  rw [hv, hz] at hkl
  simp only [Nat.zero_add] at hkl
  by_cases h0 : e = 0
  · have hbd := gv_bd zs 0 0 (by omega) (by omega) (by simp) hb
    rw [hv] at hbd
    simp only at hbd
    obtain ⟨hn0, hn1⟩ := hbd
    obtain ⟨n, rfl⟩ : ∃ n : Nat, n0 = (n : Int) := ⟨n0.toNat, by omega⟩
    have hnu : (n : Int) ≤ 18446744073709551615 := by omega
    by_cases h1 : 65536 < (n : Int)
    · have hgg := gf_long zs (by rw [hv]; exact h0) (by rw [hv]; exact h1)
      rw [hg] at hgg
      simp only [Prod.mk.injEq] at hgg
      obtain ⟨rfl, rfl, rfl⟩ := hgg
      subst h0
      clear hg hv hb
      go_enter Try.func19, Try.ntmps19
      go_wp2_with (first
        | (go_at_call 22; (with_reducible refine (get_any HR.out HB.out HV.out).mono ?_); rintro e w' ⟨rfl, rfl⟩))
      go_ret3
      exact ⟨_, rfl, RI.nil _ _, fun q hq => by simp [Value.ownBlock] at hq, rfl⟩
    · by_cases h2 : (len : Int) - k < (n : Int)
      · have hgg := gf_short zs (by rw [hv]; exact h0) (by rw [hv]; exact h1) (by rw [hv, hz]; simp only; omega)
        rw [hg] at hgg
        simp only [Prod.mk.injEq] at hgg
        obtain ⟨rfl, rfl, rfl⟩ := hgg
        subst h0
        clear hg hv hb
        go_enter Try.func19, Try.ntmps19
        go_wp2_with (first
          | (go_at_call 22; (with_reducible refine (get_any HR.out HB.out HV.out).mono ?_); rintro e w' ⟨rfl, rfl⟩))
        go_ret3
        exact ⟨_, rfl, RI.nil _ _, fun q hq => by simp [Value.ownBlock] at hq, rfl⟩
      · have hgg := gf_good zs (by rw [hv]; exact h0) (by rw [hv]; exact h1) (by rw [hv, hz]; simp only; omega)
        rw [hg, hv] at hgg
        simp only [Prod.mk.injEq, Int.toNat_natCast] at hgg
        obtain ⟨rfl, rfl, rfl⟩ := hgg
        subst h0
        have hkn : k + n ≤ len := by omega
        have HE := Lib.hid (show ((zs.drop k).take n).length = n from by simp; omega)
        by_cases hn : n = 0
        · have HN := Lib.hid hn
          have hkk : k + n = k := by omega
          clear hg hv hb hn
          go_enter Try.func19, Try.ntmps19
          go_wp2_with (first
            | (go_at_call 22; (with_reducible refine (get_any HR.out HB.out HV.out).mono ?_); rintro e w' ⟨rfl, rfl⟩))
          go_ret3
          refine ⟨.slice a (k + n - k) (k + n - k), ?_, ?_, fun q hq => ?_, rfl⟩
          · show Ending.returned (.tuple #[.slice a (k + n - k) (k + n - k), .int .i64 ((k : Int) + n), .int .i64 0]) = _
            rw [HN.out]; simp
          · rw [Nat.add_sub_cancel_left, HN.out, List.take_zero]
            exact ⟨a, 0, by simp, rfl, by simp, by simp, fun _ => rfl, fun h => absurd h (by simp)⟩
          · cases a with
            | none => simp [Value.ownBlock] at hq
            | some x => simpa [Value.ownBlock] using hq
        · have hkk : ¬ k + n = k := by omega
          clear hg hv hb
          go_enter Try.func19, Try.ntmps19
          go_wp2_with (first
            | (go_at_call 22; (with_reducible refine (get_any HR.out HB.out HV.out).mono ?_); rintro e w' ⟨rfl, rfl⟩))
          go_ret3
          refine ⟨.slice (Option.map (fun x => x.add k) a) (k + n - k) (k + n - k), ?_, ?_, fun q hq => ?_, rfl⟩
          · show Ending.returned (.tuple #[.slice (Option.map (fun x => x.add k) a) (k + n - k) (k + n - k), .int .i64 ((k : Int) + n), .int .i64 0]) = _
            simp
          · rw [Nat.add_sub_cancel_left, HE.out]
            obtain ⟨b, off, hab, hcell⟩ := HR.out.at_ (by omega)
            obtain rfl := hab
            refine ⟨_, n, rfl, HE.out, Nat.le_refl _, by omega, fun h => by simp at h, fun _ => ⟨b, off + k, by simp [Addr.add], fun j hj => ?_⟩⟩
            rw [Nat.add_assoc, hcell (k + j) (by omega)]
            simp [List.getD, hj]
          · cases a with
            | none => simp [Value.ownBlock] at hq
            | some x => by_cases hk : k = 0 <;> simpa [Value.ownBlock, Addr.add, hk] using hq
  · have hgg := gf_bad zs (by rw [hv]; exact h0)
    rw [hg, hv] at hgg
    simp only [Prod.mk.injEq] at hgg
    obtain ⟨rfl, rfl, rfl⟩ := hgg
    clear hg hv hb
    go_enter Try.func19, Try.ntmps19
    go_wp2_with (first
      | (go_at_call 22; (with_reducible refine (get_any HR.out HB.out HV.out).mono ?_); rintro e w' ⟨rfl, rfl⟩))
    go_ret3
    exact ⟨_, rfl, RI.nil _ _, fun q hq => by simp [Value.ownBlock] at hq, rfl⟩
set_option maxRecDepth 8000 in
theorem fget_own (v : Value) (len : Nat) (zs : List Int) (w : World) (hri : RI .u8 w v len zs) (hb : isB zs) (g1 : List Int) (g2 : Nat) (g3 : Int) (hg : gf zs = (g1, g2, g3)) :
    Calls Try.prog 14 #[v] w fun e w' => ∃ v', e = .returned (.tuple #[v', .int .i64 g2, .int .i64 g3]) ∧ w'.ownsRow w.heap.size 5 1 v' g1.length (il .u8 g1) ∧ Below w.heap.size w w' := by
  have HR := Lib.hid hri
  have HB := Lib.hid hb
  have HG := Lib.hid hg
  have HL := Lib.hid (show (g1.length : Int) ≤ 65536 from by have h := gf_len zs hb; rw [hg] at h; simp only at h; omega)
  clear hri hb hg
  go_enter Try.func14, Try.ntmps14
  go_wp2_with (first
    | (go_at_call 19; (with_reducible refine (cut_any _ len zs _ HR.out HB.out g1 g2 g3 HG.out).mono ?_); rintro e w1 ⟨v1, rfl, hr1, _, rfl⟩; have HR1 := Lib.hid hr1; clear hr1)
    | (go_at_call 18; (with_reducible refine (clone_any _ _ g1 _ HR1.out (by have := HL.out; omega)).mono ?_); rintro e w2 ⟨v2, rfl, ho2, hb2⟩; have HO2 := Lib.hid ho2; have HB2 := Lib.hid hb2; clear ho2 hb2))
  go_ret3
  exact ⟨_, rfl, HO2.out, HB2.out⟩
theorem fget_any (v : Value) (len : Nat) (zs : List Int) (w : World) (hri : RI .u8 w v len zs) (hb : isB zs) (_hlen : (len : Int) ≤ 281474976710656) (g1 : List Int) (g2 : Nat) (g3 : Int) (hg : gf zs = (g1, g2, g3)) :
    Calls Try.prog 14 #[v] w fun e w' => ∃ v', e = .returned (.tuple #[v', .int .i64 g2, .int .i64 g3]) ∧ RI .u8 w' v' g1.length g1 ∧ Below w.heap.size w w' :=
  (fget_own v len zs w hri hb g1 g2 g3 hg).mono fun _ _ ⟨v', he, ho, hb⟩ => ⟨v', he, RI.own ho, hb⟩
set_option maxRecDepth 8000 in
set_option maxHeartbeats 1000000 in
theorem funpack_any (v : Value) (len : Nat) (zs : List Int) (w : World) (hri : RI .u8 w v len zs) (hb : isB zs) (hlen : (len : Int) * 24 ≤ 140737488355328) (n : Nat) (ns : List (List Int)) (e3 : Int) (hns : ur zs = ns) (hn : ns.length = n) (he : (uf zs).2 = e3) :
    Calls Try.prog 11 #[v] w fun e w' => ∃ v', e = .returned (.tuple #[v', .int .i64 e3]) ∧ RL .u8 w' v' n ns ∧ Below w.heap.size w w' := by
  have hz := hri.length
  have HR := Lib.hid hri
  have HNS := Lib.hid hns
  have HN := Lib.hid hn
  have HE := Lib.hid he
  have HB := Lib.hid hb
  have HZ := Lib.hid hz
  clear hns hn he hb hz hri
  go_enter Try.func11, Try.ntmps11
  go_wp2_with (first
    | (go_at_call 18; (with_reducible refine (clone_any _ len zs _ HR.out (by omega)).mono ?_); rintro e w1 ⟨v1, rfl, ho1, hb1⟩; have HO1 := Lib.hid ho1; have HB1 := Lib.hid hb1; clear ho1 hb1))
  go_loopw [4, 5] (fun x lv wr => ∃ (m k : Nat) (r : List Int) (pre : List (List Int)) (a : Option Addr) (cap : Nat), lv = .slice a m cap ∧ k + m ≤ len ∧ Hid (RI .u8 wr (.slice a m cap) m r) ∧ Hid (∀ q, (Value.slice a m cap).ownBlock = some q → Apart wr w.heap.size 22 q) ∧ Hid (isB r) ∧
    Hid (uf zs = (pre ++ (uf r).1, (uf r).2)) ∧ Hid (UL .u8 wr w.heap.size 22 x k pre) ∧ Hid (Below w.heap.size w wr)) (fun _ lv _ => match lv with | .slice _ m _ => m | _ => 0)
  case atStart =>
    obtain ⟨a, cap, rfl⟩ := own_form HO1.out
    exact ⟨len, 0, zs, [], a, cap, rfl, by omega, RI.own HO1.out, own_apart HO1.out (by decide), HB.out, by rw [List.nil_append]; exact rfl, UL.none _ _ _ _, HB1⟩
  case round =>
    obtain ⟨m, k, r, pre, a, cap, rfl, hkm, HR, HA, HB, HV, HU, HW⟩ := hrel
    have hz := HR.out.length
    have hcm : m ≤ cap ∧ cap ≤ 9223372036854775807 := by obtain ⟨a', cap', e, _, h1, h2, _⟩ := HR.out; simp only [Value.slice.injEq, true_and] at e; omega
    obtain ⟨hmc, hc63⟩ := hcm
    by_cases hlt : 0 < m
    · obtain ⟨⟨g1, g2, g3⟩, hg⟩ : ∃ g, gf r = g := ⟨_, rfl⟩
      have hnil : r ≠ [] := by intro h0; rw [h0] at hz; simp at hz; omega
      have HG := Lib.hid hg
      by_cases hg3 : g3 = 0
      · subst hg3
        have hv := uf_ok _ hnil HB.out (by rw [hg])
        have hp := gf_pos _ HB.out (by rw [hg])
        have hle := gf_le r HB.out
        rw [hg] at hv hp hle
        simp only at hp hv hle
        rw [hz] at hle
        have HV2 := Lib.hid hv
        have hw : IntKind.i64.wrap (g2 : Int) = g2 := by rw [IntKind.wrap_i64]; omega
        clear hg hnil hv hz
        by_cases hcap : cap = g2
        · obtain rfl : m = g2 := by omega
          subst hcap
          have HZ := Lib.hid (show ∀ w', RI .u8 w' (.slice a 0 0) 0 [] from fun w' => ⟨a, 0, rfl, rfl, by omega, by omega, fun _ => rfl, fun h => absurd h (by omega)⟩)
          have HD := Lib.hid (show r.drop cap = [] from List.drop_eq_nil_of_le (by rw [HR.out.length]; omega))
          go_wp2_with (first
            | (go_at_call 19; (with_reducible refine (cut_any _ _ r _ HR.out HB.out g1 cap 0 HG.out).mono ?_); rintro e w2 ⟨v2, rfl, hr2, ha2, rfl⟩; have HR2 := Lib.hid hr2; have HA2 := Lib.hid ha2; obtain ⟨y2, c2, rfl, _⟩ := id hr2; clear hr2 ha2)
            | (at_builtin; go_loud (refine wpl_app1g rfl (.tmp 23) (.tmp 25) 23 rfl 22 .u8 24 Try.underlying23 Try.info_sl w.heap.size _ k pre rfl (HU.out.keep ((Below.refl _ _).alloc (Nat.le_refl _) _)) ⟨wr.heap.size, 0, none⟩ (.slice y2 g1.length c2) g1 rfl (alloc_cell _ _ _) (HR2.out.keep ((Below.refl _ _).alloc (Nat.le_refl _) _)) (fun _ q hq => (HA.out q (HA2.out q hq)).keep ((Below.refl _ _).alloc (Nat.le_refl _) _)) (by omega) (by omega) w.heap.size w (HW.out.alloc HW.out.size _) (Nat.le_refl _) (HW.out.alloc HW.out.size _).size ?_); intro v' w3 HU3 HW3 HG3))
          go_roundw
          case rel =>
            obtain ⟨_, ha3⟩ := UL.over (HU.out.keep ((Below.refl wr.heap.size wr).alloc (Nat.le_refl _) _)) HG3.out (HR.out.keep ((Below.refl wr.heap.size wr).alloc (Nat.le_refl _) _)) (fun q hq => (HA.out q hq).keep ((Below.refl wr.heap.size wr).alloc (Nat.le_refl _) _))
            refine ⟨0, k + 1, [], pre ++ [g1], a, 0, by simp, by omega, HZ.out _, fun q hq => ha3 q (by rw [← hq]; exact own_same a _ _ _ _), isB.nil, ?_, HU3, HW3⟩
            have h1 := HV.out; rw [HV2.out, HD.out] at h1
            rw [List.append_assoc]
            exact h1
          case measure => simp; omega
        · go_wp2_with (first
            | (go_at_call 19; (with_reducible refine (cut_any _ _ r _ HR.out HB.out g1 g2 0 HG.out).mono ?_); rintro e w2 ⟨v2, rfl, hr2, ha2, rfl⟩; have HR2 := Lib.hid hr2; have HA2 := Lib.hid ha2; obtain ⟨y2, c2, rfl, _⟩ := id hr2; clear hr2 ha2)
            | (at_builtin; go_loud (refine wpl_app1g rfl (.tmp 23) (.tmp 25) 23 rfl 22 .u8 24 Try.underlying23 Try.info_sl w.heap.size _ k pre rfl (HU.out.keep ((Below.refl _ _).alloc (Nat.le_refl _) _)) ⟨wr.heap.size, 0, none⟩ (.slice y2 g1.length c2) g1 rfl (alloc_cell _ _ _) (HR2.out.keep ((Below.refl _ _).alloc (Nat.le_refl _) _)) (fun _ q hq => (HA.out q (HA2.out q hq)).keep ((Below.refl _ _).alloc (Nat.le_refl _) _)) (by omega) (by omega) w.heap.size w (HW.out.alloc HW.out.size _) (Nat.le_refl _) (HW.out.alloc HW.out.size _).size ?_); intro v' w3 HU3 HW3 HG3))
          go_roundw
          case rel =>
            obtain ⟨hr3, ha3⟩ := UL.over (HU.out.keep ((Below.refl wr.heap.size wr).alloc (Nat.le_refl _) _)) HG3.out (HR.out.keep ((Below.refl wr.heap.size wr).alloc (Nat.le_refl _) _)) (fun q hq => (HA.out q hq).keep ((Below.refl wr.heap.size wr).alloc (Nat.le_refl _) _))
            refine ⟨m - g2, k + 1, r.drop g2, pre ++ [g1], _, _, rfl, by omega, hr3.from' g2 (by omega) hcap, fun q hq => ha3 q (by rw [← hq]; exact (own_cut a g2 _ _ _ _).symm), HB.out.drop g2, ?_, HU3, HW3⟩
            have h1 := HV.out; rw [HV2.out] at h1
            rw [List.append_assoc]
            exact h1
          case measure => show m - g2 < m; omega
      · have hv := uf_bad _ hnil (by rw [hg]; exact hg3)
        rw [hg] at hv
        have HV2 := Lib.hid hv
        clear hg hnil hv
        go_wp2_with (first
          | (go_at_call 19; (with_reducible refine (cut_any _ _ r _ HR.out HB.out g1 g2 g3 HG.out).mono ?_); rintro e w2 ⟨v2, rfl, _, _, rfl⟩))
        go_ret2
        have h1 := HV.out; rw [HV2.out] at h1
        have h2 : (uf zs).2 = g3 := by rw [h1]
        have h3 := HE.out; rw [h2] at h3; subst h3
        have h4 := HNS.out; rw [ur_err _ (by rw [h2]; exact hg3)] at h4; subst h4
        have h5 := HN.out; simp at h5; subst h5
        exact ⟨_, rfl, RL.nil _ _, HW.out⟩
    · obtain rfl : m = 0 := by omega
      obtain rfl : r = [] := List.length_eq_zero_iff.1 hz
      go_wp2
      go_ret2
      have h1 := HV.out
      rw [uf_nil, List.append_nil] at h1
      have h2 : (uf zs).2 = 0 := by rw [h1]
      have h3 := HE.out; rw [h2] at h3; subst h3
      have h4 := HNS.out; rw [ur_zero _ h2, h1] at h4
      simp only at h4; subst h4
      have h5 := HU.out.rl.length
      have h6 := HN.out; rw [h5] at h6; subst h6
      exact ⟨_, rfl, HU.out.rl, HW.out⟩
end Go.Proofs.Ytkgpbkkcpcdogaa
