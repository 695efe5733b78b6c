/-
  THE WALK OF ScanBack: whatever records come in, and whatever epoch: the call returns true and changes nothing that was there. The table of half a byte's steps must lie in its block as start-up lays it.
-/
import Derived.Test.YthickhfbllddjaaDoorScanAwake
import Derived.Test.YthickhfbllddjaaDoorFieldSame
namespace Go.Proofs.YthickhfbllddjaaDoor
open Go.RowKit
set_option maxRecDepth 8000 in
set_option maxHeartbeats 8000000 in
theorem back_walk (x : Int) (hx : U64 x) (v : Value) (n : Nat) (ls : List (List Int)) (hlb : ∀ l ∈ ls, isB l) (W : World) (h : RL .u8 W v n ls) (hT : Tab W) :
    Calls Tryd.prog 4 #[.int .u64 x, v] W fun r w' => r = .returned (.bool true) ∧ Below W.heap.size W w' := by
  have hN : (n : Int) ≤ 9223372036854775807 := by have := h.le; omega
  have HAW : Hid (∀ w, Below W.heap.size W w → Calls Tryd.prog 6 #[] w fun r w' => r = .returned (.bool true) ∧ Below w.heap.size w w') := Lib.hid fun w hb => awake_any w (hT.keep hb)
  have HFW : Hid (∀ w, Below W.heap.size W w → Calls Tryd.prog 13 #[v] w fun r w' => r = .returned (.bool (fewB ls)) ∧ Below w.heap.size w w') := Lib.hid fun w hb => few_any v n ls w (h.keep hb)
  have HS := rsectors_any x hx v n ls hN hlb W h
  unfold SecF at HS
  have hln := h.length
  obtain ⟨la, lc, rfl, _⟩ := id h.form
  cases hf : fitsF ls with
  | false =>
    have HS0 : Hid (Calls Tryd.prog 12 #[.int .u64 x, .slice la n lc] W fun r w' => r = .returned (.tuple #[.slice none 0 0, .bool false]) ∧ Below W.heap.size W w') := Lib.hid (HS.mono fun r w' h => by
      rcases h with ⟨h1, _⟩ | ⟨_, h1, h2⟩
      · rw [hf] at h1; cases h1
      · exact ⟨h1, h2⟩)
    clear HS hf hx hlb h hT hN hln
    generalize fewB ls = z at *
    cases z with
    | false =>
      go_enter Tryd.func4, Tryd.ntmps4
      go_wp2_with (first
        | (go_at_call 12; (refine HS0.out.mono ?_); rintro r w1 ⟨rfl, hb⟩; have HB1 := Lib.hid hb; clear hb)
        | (go_at_call 13; (refine (HFW.out _ HB1.out).mono ?_); rintro r w2 ⟨rfl, hb⟩; have HB2 := Lib.hid (bch HB1.out hb); clear hb)
        | (go_at_call 6; (refine (HAW.out _ HB2.out).mono ?_); rintro r w3 ⟨rfl, hb⟩; have HB3 := Lib.hid (bch HB2.out hb); clear hb))
      go_ret
      exact ⟨rfl, HB3.out⟩
    | true =>
      go_enter Tryd.func4, Tryd.ntmps4
      go_wp2_with (first
        | (go_at_call 12; (refine HS0.out.mono ?_); rintro r w1 ⟨rfl, hb⟩; have HB1 := Lib.hid hb; clear hb)
        | (go_at_call 13; (refine (HFW.out _ HB1.out).mono ?_); rintro r w2 ⟨rfl, hb⟩; have HB2 := Lib.hid (bch HB1.out hb); clear hb)
        | (go_at_call 6; (refine (HAW.out _ HB2.out).mono ?_); rintro r w3 ⟨rfl, hb⟩; have HB3 := Lib.hid (bch HB2.out hb); clear hb))
      go_ret
      exact ⟨rfl, HB3.out⟩
  | true =>
    have hg := (fitsF_iff ls).1 hf
    obtain ⟨fs, hfs⟩ : ∃ fs, wholeK x (bodyF (x % 4294967296) ls) (touchN 0 (endF ls)).2 16 = fs := ⟨_, rfl⟩
    have hbf : isB fs := by
      have hb0 := bodyF_bytes (ep := x % 4294967296) ls hlb ls.length (Nat.le_refl _)
      rw [List.take_length] at hb0
      rw [← hfs]
      exact sc_whole_bytes x _ hb0 _ 16
    have HS0 : Hid (Calls Tryd.prog 12 #[.int .u64 x, .slice la n lc] W fun r w' => ∃ a c, r = .returned (.tuple #[.slice a 16 c, .bool true]) ∧ FS w' (.slice a 16 c) 16 fs ∧ Below W.heap.size W w') := Lib.hid (HS.mono fun r w' h => by
      rcases h with ⟨_, v, h1, h2, h3⟩ | ⟨h1, _⟩
      · rw [hfs] at h2
        obtain ⟨a, c, rfl, _⟩ := id h2
        exact ⟨a, c, h1, h2, h3⟩
      · rw [hf] at h1; cases h1)
    clear HS
    cases hw : fewB ls with
    | false =>
      rw [hw] at HFW
      clear hf hx hlb h hT hN hg hbf hfs hw hln
      go_enter Tryd.func4, Tryd.ntmps4
      go_wp2_with (first
        | (go_at_call 12; (refine HS0.out.mono ?_); rintro r w1 ⟨a1, c1, rfl, _, hb⟩; have HB1 := Lib.hid hb; clear hb)
        | (go_at_call 13; (refine (HFW.out _ HB1.out).mono ?_); rintro r w2 ⟨rfl, hb⟩; have HB2 := Lib.hid (bch HB1.out hb); clear hb)
        | (go_at_call 6; (refine (HAW.out _ HB2.out).mono ?_); rintro r w3 ⟨rfl, hb⟩; have HB3 := Lib.hid (bch HB2.out hb); clear hb))
      go_ret
      exact ⟨rfl, HB3.out⟩
    | true =>
      obtain ⟨hfew, h512⟩ := fewB_parts hw
      rw [hw] at HFW
      by_cases h0 : x = 0
      · have hx0 : (x == 0) = true := by simpa using h0
        clear hf hx hlb h hT hN hg hbf hfs hw hfew h512 hln
        subst h0
        go_enter Tryd.func4, Tryd.ntmps4
        go_wp2_with (first
          | (go_at_call 12; (refine HS0.out.mono ?_); rintro r w1 ⟨a1, c1, rfl, _, hb⟩; have HB1 := Lib.hid hb; clear hb)
          | (go_at_call 13; (refine (HFW.out _ HB1.out).mono ?_); rintro r w2 ⟨rfl, hb⟩; have HB2 := Lib.hid (bch HB1.out hb); clear hb)
          | (go_at_call 6; (refine (HAW.out _ HB2.out).mono ?_); rintro r w3 ⟨rfl, hb⟩; have HB3 := Lib.hid (bch HB2.out hb); clear hb))
        go_ret
        exact ⟨rfl, HB3.out⟩
      · have hx0 : (x == 0) = false := by simpa using h0
        have HLY : Hid (∀ w, Below W.heap.size W w → Calls Tryd.prog 14 #[.int .u64 x, .slice la n lc] w fun r w' => ∃ g pa pc, r = .returned (.tuple #[.slice (some ⟨g, 0, none⟩) 832 832, .slice pa n pc, .int .i64 (endF ls : Nat), .bool true]) ∧ RI .i64 w' (.slice pa n pc) n (placesF ls) ∧ Below w.heap.size w w') := Lib.hid fun w hb =>
          (lay_yes (rlay_any x hx _ n ls hN hlb w (h.keep hb)) hf).mono fun r w' ⟨g, pa, pc, h1, _, h2, h3⟩ => ⟨g, pa, pc, h1, RI.own h2, h3⟩
        obtain ⟨t1, t2, t3, t4⟩ := told_whole hx h0 hg h512
        rw [hfs] at t1 t2 t3 t4
        have hpl : (placesF ls).length = n := by rw [placesF_len, hln]
        have HP : Hid (∀ (w : World) (v : Value), Below W.heap.size W w → FS w v 16 fs → Calls Tryd.prog 7 #[.int .u64 x, v] w fun r w' => ∃ rv pv, r = .returned (.agg (tA rv pv (endF ls : Nat) 1)) ∧ RL .u8 w' rv n ls ∧ RI .i64 w' pv n (placesF ls) ∧ Below w.heap.size w w') := Lib.hid fun w v hb hv =>
          (scan_any x hx v 16 fs hbf w hv (hT.keep hb)).mono fun r w' ⟨rv, pv, es, h1, h2, h3, h4, h5⟩ => by
            have hr := h2.rl_ (h3.trans t1)
            have hp := RI.own h4
            unfold scOf at h1 hp
            rw [t2, hpl] at hp
            rw [hln] at hr
            rw [t3, t4] at h1
            exact ⟨rv, pv, h1, hr, hp, h5⟩
        have HSM : Hid (∀ (w : World) (va : Value), Below W.heap.size W w → RL .u8 w va n ls → Calls Tryd.prog 9 #[va, .slice la n lc] w fun r w' => r = .returned (.bool true) ∧ Below w.heap.size w w') := Lib.hid fun w va hb h1 => (same_any va _ n n ls ls w h1 (h.keep hb) hlb hlb).mono fun r w' ⟨h1, h2⟩ => ⟨by rw [h1]; simp, h2⟩
        have hn100 : n ≤ 100 := by omega
        generalize placesF ls = P at *
        generalize endF ls = F at *
        clear hf hx hlb h hT hN hg hbf hfs hw hfew h512 hln t1 t2 t3 t4 hpl h0
        go_enter Tryd.func4, Tryd.ntmps4
        go_wp2_with (first
          | (go_at_call 12; (refine HS0.out.mono ?_); rintro r w1 ⟨a1, c1, rfl, hs, hb⟩; have HS1 := Lib.hid hs; have HB1 := Lib.hid hb; clear hs hb)
          | (go_at_call 13; (refine (HFW.out _ HB1.out).mono ?_); rintro r w2 ⟨rfl, hb⟩; have HB2 := Lib.hid (bch HB1.out hb); have HS2 := Lib.hid (HS1.out.keep hb); clear hb)
          | (go_at_call 14; (refine (HLY.out _ HB2.out).mono ?_); rintro r w3 ⟨g3, pa3, pc3, rfl, hp, hb⟩; have HB3 := Lib.hid (bch HB2.out hb); have HS3 := Lib.hid (HS2.out.keep hb); have HP3 := Lib.hid hp; clear hp hb)
          | (go_at_call 7; (refine (HP.out _ _ HB3.out HS3.out).mono ?_); rintro r w4 ⟨rv, pv, rfl, hr, hp, hb⟩; obtain ⟨ra, rc, rfl, _⟩ := hr.form; obtain ⟨pa, pc, rfl⟩ : ∃ a c, pv = .slice a n c := (by obtain ⟨a, c, z, _⟩ := hp; exact ⟨a, c, z⟩); obtain ⟨w5, hw5⟩ : ∃ q', w4.alloc (.cells (tA (.slice ra n rc) (.slice pa n pc) (F : Int) 1) 28) = q' := ⟨_, rfl⟩; have hk5 : w5.heap[w4.heap.size]? = some (.cells (tA (.slice ra n rc) (.slice pa n pc) (F : Int) 1) 28 (0, 0)) := (by rw [← hw5]; exact heap_alloc_last w4 _); have hb5 : Below w4.heap.size w4 w5 := (by rw [← hw5]; exact balloc _ _); have HK5 := Lib.hid hk5; have HR5 := Lib.hid (hr.keep hb5); have HP5 := Lib.hid (hp.keep hb5); have HQ5 := Lib.hid (HP3.out.keep (bch hb hb5)); have HB5 := Lib.hid (bch HB3.out (bch hb hb5)); have y0 : w5.cell? ⟨w4.heap.size, 0, none⟩ = some (.slice ra n rc) := cell_of_row w5 _ 0 _ _ _ hk5; clear hr hp hb hk5 hb5)
          | (go_at_call 9; (refine (HSM.out _ _ HB5.out HR5.out).mono ?_); rintro r w6 ⟨rfl, hb⟩; have hk6 := (hb.block _ (Array.getElem?_eq_some_iff.1 HK5.out).1).trans HK5.out; have HP6 := Lib.hid (HP5.out.keep hb); have HQ6 := Lib.hid (HQ5.out.keep hb); have HB6 := Lib.hid (bch HB5.out hb); have a1' : w6.cell? ⟨w4.heap.size, 1, none⟩ = some (.slice pa n pc) := cell_of_row w6 _ 1 _ _ _ hk6; have a2 : w6.cell? ⟨w4.heap.size, 2, none⟩ = some (.int .i64 (F : Int)) := cell_of_row w6 _ 2 _ _ _ hk6; have a3 : w6.cell? ⟨w4.heap.size, 3, none⟩ = some (.int .i64 1) := cell_of_row w6 _ 3 _ _ _ hk6; clear hb hk6))
        obtain ⟨g7, hg7⟩ : ∃ g, w4.heap.size = g := ⟨_, rfl⟩
        rw [hg7] at a1'
        rw [hg7]
        have HA1 := Lib.hid a1'
        clear a1' a2 a3 y0 hg7 HK5 HR5 HP5 HQ5 HB5 HS1 HB1 HS2 HB2 HS3 HP3 HB3
        go_loopw [12] (fun iv wr => ∃ i : Nat, iv = .int .i64 (i : Int) ∧ i ≤ n ∧ Hid (Below w6.heap.size w6 wr)) (fun iv _ => n - (intOf iv).toNat)
        case atStart => exact ⟨0, rfl, by omega, Lib.hid (Below.refl _ _)⟩
        case round =>
          obtain ⟨i, rfl, hi, HB⟩ := hrel
          by_cases hlt : (i : Int) < (n : Int)
          · obtain ⟨b, off, rfl, hcell⟩ := (HP6.out.keep HB.out).at_ (by omega)
            obtain ⟨b', off', rfl, hcell'⟩ := (HQ6.out.keep HB.out).at_ (by omega)
            obtain ⟨z, hz⟩ : ∃ z, P.getD i 0 = z := ⟨_, rfl⟩
            have d1 := hcell i (by omega)
            have d2 := hcell' i (by omega)
            rw [hz] at d1 d2
            have HST : Hid (wr.drew.cell? ⟨g7, 1, none⟩ = some (.slice (some ⟨b, off, none⟩) n pc) ∧ wr.drew.cell? ⟨b, off + i, none⟩ = some (.int .i64 z) ∧ wr.drew.cell? ⟨b', off' + i, none⟩ = some (.int .i64 z)) := Lib.hid ⟨cell_keep (HB.out.drew) HA1.out, cell_keep (Below.refl _ wr).drew d1, cell_keep (Below.refl _ wr).drew d2⟩
            clear hcell hcell' hz d1 d2
            go_wp2_with fail
            refine wp_region_held_drew (S := (fun w' => w'.cell? ⟨g7, 1, none⟩ = some (.slice (some ⟨b, off, none⟩) n pc) ∧ w'.cell? ⟨b, off + i, none⟩ = some (.int .i64 z) ∧ w'.cell? ⟨b', off' + i, none⟩ = some (.int .i64 z))) (by kernel_rfl) HST.out (fun hS => ?_)
            refine wpAnyH_take (i := 0) (oi := ({ dst := some 72, op := Op.fieldAddr 28 (Operand.tmp 11) 1, type := 0, pos := "law.go:60", after := #[], guard := none } : Oper)) (v := ?_) rfl (by kernel_rfl) (by kernel_rfl) (by kernel_rfl) (fun _ _ _ h => h) (Or.inl ⟨by rfl, ?_⟩) hS ?_
            rotate_left
            · (intro w hSw; (try dsimp only at hSw); go_simp; try with_reducible rfl)
            (try simp only [Act.put, List.setIfInBounds_toArray, List.set_cons_zero, List.set_cons_succ])
            refine wpAnyH_take (i := 1) (oi := ({ dst := some 73, op := Op.load 26 (Operand.tmp 72), type := 26, pos := "law.go:60", after := #[{ on := 0, ground := Ground.data }], guard := none } : Oper)) (v := ?_) rfl (by kernel_rfl) (by kernel_rfl) (by kernel_rfl) (fun _ _ _ h => h) (Or.inl ⟨by rfl, ?_⟩) hS ?_
            rotate_left
            · (intro w hSw; (try dsimp only at hSw); go_simp; try with_reducible rfl)
            (try simp only [Act.put, List.setIfInBounds_toArray, List.set_cons_zero, List.set_cons_succ])
            refine wpAnyH_take (i := 2) (oi := ({ dst := some 74, op := Op.move (Operand.tmp 12), type := 3, pos := "law.go:60", after := #[], guard := none } : Oper)) (v := ?_) rfl (by kernel_rfl) (by kernel_rfl) (by kernel_rfl) (fun _ _ _ h => h) (Or.inl ⟨by rfl, ?_⟩) hS ?_
            rotate_left
            · (intro w hSw; (try dsimp only at hSw); go_simp; try with_reducible rfl)
            (try simp only [Act.put, List.setIfInBounds_toArray, List.set_cons_zero, List.set_cons_succ])
            refine wpAnyH_take (i := 3) (oi := ({ dst := some 75, op := Op.indexAddr 26 (Operand.tmp 73) (Operand.tmp 74), type := 0, pos := "law.go:60", after := #[{ on := 1, ground := Ground.data }, { on := 2, ground := Ground.data }], guard := none } : Oper)) (v := ?_) rfl (by kernel_rfl) (by kernel_rfl) (by kernel_rfl) (fun _ _ _ h => h) (Or.inl ⟨by rfl, ?_⟩) hS ?_
            rotate_left
            · (intro w hSw; (try dsimp only at hSw); go_simp; try with_reducible rfl)
            (try simp only [Act.put, List.setIfInBounds_toArray, List.set_cons_zero, List.set_cons_succ])
            refine wpAnyH_take (i := 4) (oi := ({ dst := some 76, op := Op.load 3 (Operand.tmp 75), type := 3, pos := "law.go:60", after := #[{ on := 3, ground := Ground.data }], guard := none } : Oper)) (v := ?_) rfl (by kernel_rfl) (by kernel_rfl) (by kernel_rfl) (fun _ _ _ h => h) (Or.inl ⟨by rfl, ?_⟩) hS ?_
            rotate_left
            · (intro w hSw; (try dsimp only at hSw); go_simp; try with_reducible rfl)
            (try simp only [Act.put, List.setIfInBounds_toArray, List.set_cons_zero, List.set_cons_succ])
            refine wpAnyH_take (i := 5) (oi := ({ dst := some 77, op := Op.move (Operand.tmp 8), type := 26, pos := "law.go:60", after := #[], guard := none } : Oper)) (v := ?_) rfl (by kernel_rfl) (by kernel_rfl) (by kernel_rfl) (fun _ _ _ h => h) (Or.inl ⟨by rfl, ?_⟩) hS ?_
            rotate_left
            · (intro w hSw; (try dsimp only at hSw); go_simp; try with_reducible rfl)
            (try simp only [Act.put, List.setIfInBounds_toArray, List.set_cons_zero, List.set_cons_succ])
            refine wpAnyH_take (i := 6) (oi := ({ dst := some 78, op := Op.move (Operand.tmp 12), type := 3, pos := "law.go:60", after := #[], guard := none } : Oper)) (v := ?_) rfl (by kernel_rfl) (by kernel_rfl) (by kernel_rfl) (fun _ _ _ h => h) (Or.inl ⟨by rfl, ?_⟩) hS ?_
            rotate_left
            · (intro w hSw; (try dsimp only at hSw); go_simp; try with_reducible rfl)
            (try simp only [Act.put, List.setIfInBounds_toArray, List.set_cons_zero, List.set_cons_succ])
            refine wpAnyH_take (i := 7) (oi := ({ dst := some 79, op := Op.indexAddr 26 (Operand.tmp 77) (Operand.tmp 78), type := 0, pos := "law.go:60", after := #[{ on := 5, ground := Ground.data }, { on := 6, ground := Ground.data }], guard := none } : Oper)) (v := ?_) rfl (by kernel_rfl) (by kernel_rfl) (by kernel_rfl) (fun _ _ _ h => h) (Or.inl ⟨by rfl, ?_⟩) hS ?_
            rotate_left
            · (intro w hSw; (try dsimp only at hSw); go_simp; try with_reducible rfl)
            (try simp only [Act.put, List.setIfInBounds_toArray, List.set_cons_zero, List.set_cons_succ])
            refine wpAnyH_take (i := 8) (oi := ({ dst := some 80, op := Op.load 3 (Operand.tmp 79), type := 3, pos := "law.go:60", after := #[{ on := 7, ground := Ground.data }], guard := none } : Oper)) (v := ?_) rfl (by kernel_rfl) (by kernel_rfl) (by kernel_rfl) (fun _ _ _ h => h) (Or.inl ⟨by rfl, ?_⟩) hS ?_
            rotate_left
            · (intro w hSw; (try dsimp only at hSw); go_simp; try with_reducible rfl)
            (try simp only [Act.put, List.setIfInBounds_toArray, List.set_cons_zero, List.set_cons_succ])
            refine wpAnyH_take (i := 9) (oi := ({ dst := some 81, op := Op.binOp BinOp.neq 3 (Operand.tmp 76) (Operand.tmp 80) 3, type := 4, pos := "law.go:60", after := #[{ on := 4, ground := Ground.data }, { on := 8, ground := Ground.data }], guard := none } : Oper)) (v := ?_) rfl (by kernel_rfl) (by kernel_rfl) (by kernel_rfl) (fun _ _ _ h => h) (Or.inl ⟨by rfl, ?_⟩) hS ?_
            rotate_left
            · (intro w hSw; (try dsimp only at hSw); go_simp; try with_reducible rfl)
            (try simp only [Act.put, List.setIfInBounds_toArray, List.set_cons_zero, List.set_cons_succ])
            refine wpAnyH_done (by kernel_rfl) ?_ _
            clear hS
            go_wp2
            go_roundw
            case rel => exact ⟨i + 1, by go_num, by omega, Lib.hid HB.out.drew⟩
            case measure => simp [intOf]; omega
          · have HBW := Lib.hid (bch HB6.out HB.out)
            go_wp2_with (first
              | (go_at_call 6; (refine (HAW.out _ HBW.out).mono ?_); rintro r w8 ⟨rfl, hb⟩; have HB8 := Lib.hid (bch HBW.out hb); clear hb))
            go_ret
            exact ⟨rfl, HB8.out⟩
end Go.Proofs.YthickhfbllddjaaDoor
