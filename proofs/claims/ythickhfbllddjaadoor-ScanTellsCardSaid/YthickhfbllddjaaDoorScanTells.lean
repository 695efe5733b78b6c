/-
  THE WALK OF ScanTells: whatever sectors come in, by whatever epoch, and whatever end: the call returns true and changes nothing that was there. The table of half a byte's steps must lie in its block as start-up lays it.
-/
import Derived.Test.YthickhfbllddjaaDoorScanAwake
import Derived.Test.YthickhfbllddjaaDoorScanRef
import Derived.Test.YthickhfbllddjaaDoorFieldSame
namespace Go.Proofs.YthickhfbllddjaaDoor
open Go.RowKit
theorem go_ok {ep : Int} {B : List Int} {K : List Bool} (hB : B.length = 832) : ∀ k s, s.Ok → (scGo ep B K k s).Ok
  | 0, _, hs => hs
  | k + 1, s, hs => by
    unfold scGo
    cases hn : scNext ep B K s with
    | none => exact hs
    | some t => exact go_ok hB k t (scNext_ok hB hs hn).1
/-- what is told are bytes -/
theorem go_isB {ep : Int} {B : List Int} {K : List Bool} (hb : isB B) : ∀ k s, isB s.h → (∀ r ∈ s.recs, isB r) → ∀ r ∈ (scGo ep B K k s).recs, isB r
  | 0, _, _, hs => hs
  | k + 1, s, hh, hs => by
    unfold scGo
    cases hn : scNext ep B K s with
    | none => exact hs
    | some t =>
      have hd : isB (scF ep B K (beginN s.at_)).1.data := by
        unfold scF
        split
        · exact isB.nil
        · split
          · exact isB.nil
          · exact scD_isB hb
      unfold scNext at hn
      split at hn
      · cases hn
      · obtain rfl := Option.some.inj hn
        refine go_isB hb k _ (jHad_isB hh hd) fun r hr => ?_
        unfold scStep at hr
        dsimp only at hr
        split at hr
        · rcases List.mem_append.1 hr with h | h
          · exact hs r h
          · obtain rfl : r = _ := by simpa using h
            exact jTell_isB hh hd
        · exact hs r hr
theorem end_isB {ep : Int} {B : List Int} {K : List Bool} (hb : isB B) : ∀ r ∈ (scEnd ep B K).recs, isB r := by
  unfold scEnd
  exact go_isB hb 832 sc0 isB.nil (fun r hr => by simp [sc0] at hr)
theorem end_ok {ep : Int} {B : List Int} {K : List Bool} (hB : B.length = 832) : (scEnd ep B K).Ok := by
  unfold scEnd
  exact go_ok hB 832 sc0 sc0_ok
theorem scOf_isB (x : Int) (n : Nat) (fs : List Int) (h : isB fs) : ∀ r ∈ (scOf x n fs).recs, isB r := by
  unfold scOf
  exact end_isB (flatB_bytes x n fs h 16)
theorem scOf_ok (x : Int) (n : Nat) (fs : List Int) (h : fs.length = n * 64) : (scOf x n fs).Ok := by
  unfold scOf
  exact end_ok (flatB_length x n fs h 16)
set_option maxRecDepth 8000 in
set_option maxHeartbeats 8000000 in
theorem tells_walk (x : Int) (hx : U64 x) (v : Value) (n : Nat) (fs : List Int) (hbf : isB fs) (e : Int) (he : I63 e) (W : World) (h : FS W v n fs) (hT : Tab W) :
    Calls Tryd.prog 3 #[.int .u64 x, v, .int .i64 e] W fun r w' => r = .returned (.bool true) ∧ Below W.heap.size W w' := by
  have HAW : Hid (∀ w, Below W.heap.size W w → Calls Tryd.prog 6 #[] w fun r w' => r = .returned (.bool true) ∧ Below w.heap.size w w') := Lib.hid fun w hb => awake_any w (hT.keep hb)
  have hfl := h.length
  by_cases hbig : (n : Int) > 100
  · obtain ⟨va, vc, rfl⟩ : ∃ a c, v = .slice a n c := by obtain ⟨a, c, q, _⟩ := h; exact ⟨a, c, q⟩
    clear hx hbf he h hT hfl
    go_enter Tryd.func3, Tryd.ntmps3
    go_wp2_with (first
      | (go_at_call 6; (refine (HAW.out _ (Below.refl _ _)).mono ?_); rintro r w5 ⟨rfl, hb⟩; have HB5 := Lib.hid hb; clear hb))
    go_ret
    exact ⟨rfl, HB5.out⟩
  · have hok := scOf_ok x n fs hfl
    have hib := scOf_isB x n fs hbf
    have HP : Hid (∀ w, Below W.heap.size W w → Calls Tryd.prog 7 #[.int .u64 x, v] w fun r w' => ∃ rv pv, r = .returned (.agg (tA rv pv ((scOf x n fs).fin : Nat) (scKind n fs (scOf x n fs).fin))) ∧ RL .u8 w' rv (scOf x n fs).recs.length (scOf x n fs).recs ∧ RI .i64 w' pv (scOf x n fs).places.length (scOf x n fs).places ∧ Below w.heap.size w w') := Lib.hid fun w hb =>
      (scan_any x hx v n fs hbf w (h.keep hb) (hT.keep hb)).mono fun r w' ⟨rv, pv, es, h1, h2, h3, h4, h5⟩ => ⟨rv, pv, h1, h2.rl_ h3, RI.own h4, h5⟩
    have HQ : Hid (∀ w, Below W.heap.size W w → Calls Tryd.prog 8 #[.int .u64 x, v] w fun r w' => ∃ rv pv, r = .returned (.agg (uA rv pv ((scOf x n fs).fin : Nat) (scKind n fs (scOf x n fs).fin))) ∧ RL .u8 w' rv (scOf x n fs).recs.length (scOf x n fs).recs ∧ RI .i64 w' pv (scOf x n fs).places.length (scOf x n fs).places ∧ Below w.heap.size w w') := Lib.hid fun w hb =>
      (rscan_any x hx v n fs hbf w (h.keep hb) (by omega)).mono fun r w' ⟨rv, pv, es, h1, h2, h3, h4, h5⟩ => ⟨rv, pv, h1, h2.rl_ h3, RI.own h4, h5⟩
    have HRP : Hid (∀ w, Below W.heap.size W w → Calls Tryd.prog 10 #[v, .int .i64 e] w fun r w' => r = .returned (.bool (restB n fs (nr e))) ∧ Below w.heap.size w w') := Lib.hid fun w hb => rest_any v n fs e he w (h.keep hb)
    have HRQ : Hid (∀ w, Below W.heap.size W w → Calls Tryd.prog 11 #[v, .int .i64 e] w fun r w' => r = .returned (.bool (restB n fs (nr e))) ∧ Below w.heap.size w w') := Lib.hid fun w hb => rrest_any v n fs e he w (h.keep hb) (by omega)
    generalize restB n fs (nr e) = y at *
    generalize scOf x n fs = S at *
    obtain ⟨k, hk⟩ : ∃ k, scKind n fs S.fin = k := ⟨_, rfl⟩
    rw [hk] at HP HQ
    obtain ⟨va, vc, rfl⟩ : ∃ a c, v = .slice a n c := by obtain ⟨a, c, q, _⟩ := h; exact ⟨a, c, q⟩
    have hpl : S.places.length ≤ 1000 := by have h1 := hok.few; have h2 := hok.room; have h3 := hok.at_; omega
    have HIB := Lib.hid hib
    obtain ⟨S0, S1, S2, S3, R, P, F⟩ := S
    dsimp only at *
    obtain ⟨m, hm⟩ : ∃ m, R.length = m := ⟨_, rfl⟩
    obtain ⟨q, hq⟩ : ∃ q, P.length = q := ⟨_, rfl⟩
    rw [hm, hq] at HP HQ
    rw [hq] at hpl
    have HSM : Hid (∀ (w : World) (va vb : Value), RL .u8 w va m R → RL .u8 w vb m R → Calls Tryd.prog 9 #[va, vb] w fun r w' => r = .returned (.bool true) ∧ Below w.heap.size w w') := Lib.hid fun w va vb h1 h2 => (same_any va vb m m R R w h1 h2 HIB.out HIB.out).mono fun r w' ⟨h1, h2⟩ => ⟨by rw [h1]; simp, h2⟩
    clear hx hbf he h hT hfl hok hib hk hm hq HIB
    go_enter Tryd.func3, Tryd.ntmps3
    go_wp2_with (first
      | (go_at_call 7; (refine (HP.out _ (Below.refl _ _)).mono ?_); rintro r w1 ⟨rv, pv, rfl, hr, hp, hb⟩; obtain ⟨ra, rc, rfl, _⟩ := hr.form; obtain ⟨pa, pc, rfl⟩ : ∃ a c, pv = .slice a q c := (by obtain ⟨a, c, z, _⟩ := hp; exact ⟨a, c, z⟩); obtain ⟨w2, hw2⟩ : ∃ q', w1.alloc (.cells (tA (.slice ra m rc) (.slice pa q pc) (F : Int) k) 28) = q' := ⟨_, rfl⟩; have hk2 : w2.heap[w1.heap.size]? = some (.cells (tA (.slice ra m rc) (.slice pa q pc) (F : Int) k) 28 (0, 0)) := (by rw [← hw2]; exact heap_alloc_last w1 _); have hb2 : Below w1.heap.size w1 w2 := (by rw [← hw2]; exact balloc _ _); have HK2 := Lib.hid hk2; have HR2 := Lib.hid (hr.keep hb2); have HP2 := Lib.hid (hp.keep hb2); have HB2 := Lib.hid (bch hb hb2); clear hr hp hb hk2 hb2)
      | (go_at_call 8; (refine (HQ.out _ HB2.out).mono ?_); rintro r w3 ⟨rv, pv, rfl, hr, hp, hb⟩; obtain ⟨sa, sc, rfl, _⟩ := hr.form; obtain ⟨ta, tc, rfl⟩ : ∃ a c, pv = .slice a q c := (by obtain ⟨a, c, z, _⟩ := hp; exact ⟨a, c, z⟩); obtain ⟨w4, hw4⟩ : ∃ q', w3.alloc (.cells (uA (.slice sa m sc) (.slice ta q tc) (F : Int) k) 30) = q' := ⟨_, rfl⟩; have hk4 : w4.heap[w3.heap.size]? = some (.cells (uA (.slice sa m sc) (.slice ta q tc) (F : Int) k) 30 (0, 0)) := (by rw [← hw4]; exact heap_alloc_last w3 _); have hb4 : Below w3.heap.size w3 w4 := (by rw [← hw4]; exact balloc _ _); have HL4 := Lib.hid hk4; have hk4' : w4.heap[w1.heap.size]? = some (.cells (tA (.slice ra m rc) (.slice pa q pc) (F : Int) k) 28 (0, 0)) := ((bch hb hb4).block _ (Array.getElem?_eq_some_iff.1 HK2.out).1).trans HK2.out; have HK4 := Lib.hid hk4'; have HR4 := Lib.hid (hr.keep hb4); have HP4 := Lib.hid (hp.keep hb4); have HRA := Lib.hid (HR2.out.keep (bch hb hb4)); have HPA := Lib.hid (HP2.out.keep (bch hb hb4)); have HB4 := Lib.hid (bch HB2.out (bch hb hb4)); have y0 : w4.cell? ⟨w1.heap.size, 0, none⟩ = some (.slice ra m rc) := cell_of_row w4 _ 0 _ _ _ hk4'; have z0 : w4.cell? ⟨w3.heap.size, 0, none⟩ = some (.slice sa m sc) := cell_of_row w4 _ 0 _ _ _ hk4; clear hr hp hb hk4 hk4' hb4)
      | (go_at_call 9; (refine (HSM.out _ _ _ HRA.out HR4.out).mono ?_); rintro r w5 ⟨rfl, hb⟩; have hk5 := (hb.block _ (Array.getElem?_eq_some_iff.1 HK4.out).1).trans HK4.out; have hl5 := (hb.block _ (Array.getElem?_eq_some_iff.1 HL4.out).1).trans HL4.out; have HP5 := Lib.hid (HPA.out.keep hb); have HQ5 := Lib.hid (HP4.out.keep hb); have HB5 := Lib.hid (bch HB4.out hb); have a1 : w5.cell? ⟨w1.heap.size, 1, none⟩ = some (.slice pa q pc) := cell_of_row w5 _ 1 _ _ _ hk5; have a2 : w5.cell? ⟨w1.heap.size, 2, none⟩ = some (.int .i64 (F : Int)) := cell_of_row w5 _ 2 _ _ _ hk5; have a3 : w5.cell? ⟨w1.heap.size, 3, none⟩ = some (.int .i64 k) := cell_of_row w5 _ 3 _ _ _ hk5; have b1 : w5.cell? ⟨w3.heap.size, 1, none⟩ = some (.slice ta q tc) := cell_of_row w5 _ 1 _ _ _ hl5; have b2 : w5.cell? ⟨w3.heap.size, 2, none⟩ = some (.int .i64 (F : Int)) := cell_of_row w5 _ 2 _ _ _ hl5; have b3 : w5.cell? ⟨w3.heap.size, 3, none⟩ = some (.int .i64 k) := cell_of_row w5 _ 3 _ _ _ hl5; clear hb hk5 hl5))
    obtain ⟨g7, hg7⟩ : ∃ g, w1.heap.size = g := ⟨_, rfl⟩
    obtain ⟨g8, hg8⟩ : ∃ g, w3.heap.size = g := ⟨_, rfl⟩
    rw [hg7] at a1
    rw [hg8] at b1
    rw [hg7, hg8]
    have HA1 := Lib.hid a1
    have HB1 := Lib.hid b1
    clear a1 a2 a3 b1 b2 b3 y0 z0 hg7 hg8 HK2 HR2 HP2 HB2 HK4 HL4 HR4 HP4 HRA HPA HB4
    go_loopw [9] (fun iv wr => ∃ i : Nat, iv = .int .i64 (i : Int) ∧ i ≤ q ∧ Hid (Below w5.heap.size w5 wr)) (fun iv _ => q - (intOf iv).toNat)
    case atStart => exact ⟨0, rfl, by omega, Lib.hid (Below.refl _ _)⟩
    case round =>
      obtain ⟨i, rfl, hi, HB⟩ := hrel
      have c1 := cell_keep HB.out HA1.out
      by_cases hlt : (i : Int) < (q : Int)
      · obtain ⟨b, off, rfl, hcell⟩ := (HP5.out.keep HB.out).at_ (by omega)
        obtain ⟨b', off', rfl, hcell'⟩ := (HQ5.out.keep HB.out).at_ (by omega)
        obtain ⟨z, hz⟩ : ∃ z, P.getD i 0 = z := ⟨_, rfl⟩
        have d1 := hcell i (by omega)
        have d2 := hcell' i (by omega)
        rw [hz] at d1 d2
        have HST : Hid (wr.drew.cell? ⟨g7, 1, none⟩ = some (.slice (some ⟨b, off, none⟩) q pc) ∧ wr.drew.cell? ⟨g8, 1, none⟩ = some (.slice (some ⟨b', off', none⟩) q tc) ∧ wr.drew.cell? ⟨b, off + i, none⟩ = some (.int .i64 z) ∧ wr.drew.cell? ⟨b', off' + i, none⟩ = some (.int .i64 z)) := Lib.hid ⟨cell_keep (HB.out.drew) HA1.out, cell_keep (HB.out.drew) HB1.out, cell_keep (Below.refl _ wr).drew d1, cell_keep (Below.refl _ wr).drew d2⟩
        clear hcell hcell' hz d1 d2
        go_wp2_with fail
        refine wp_region_held_drew (S := (fun w' => w'.cell? ⟨g7, 1, none⟩ = some (.slice (some ⟨b, off, none⟩) q pc) ∧ w'.cell? ⟨g8, 1, none⟩ = some (.slice (some ⟨b', off', none⟩) q tc) ∧ w'.cell? ⟨b, off + i, none⟩ = some (.int .i64 z) ∧ w'.cell? ⟨b', off' + i, none⟩ = some (.int .i64 z))) (by kernel_rfl) HST.out (fun hS => ?_)
        refine wpAnyH_take (i := 0) (oi := ({ dst := some 56, op := Op.fieldAddr 28 (Operand.tmp 7) 1, type := 0, pos := "law.go:41", after := #[], guard := none } : Oper)) (v := ?_) rfl (by kernel_rfl) (by kernel_rfl) (by kernel_rfl) (fun _ _ _ h => h) (Or.inl ⟨by rfl, ?_⟩) hS ?_
        rotate_left
        · (intro w hSw; (try dsimp only at hSw); go_simp; try with_reducible rfl)
        (try simp only [Act.put, List.setIfInBounds_toArray, List.set_cons_zero, List.set_cons_succ])
        refine wpAnyH_take (i := 1) (oi := ({ dst := some 57, op := Op.load 26 (Operand.tmp 56), type := 26, pos := "law.go:41", after := #[{ on := 0, ground := Ground.data }], guard := none } : Oper)) (v := ?_) rfl (by kernel_rfl) (by kernel_rfl) (by kernel_rfl) (fun _ _ _ h => h) (Or.inl ⟨by rfl, ?_⟩) hS ?_
        rotate_left
        · (intro w hSw; (try dsimp only at hSw); go_simp; try with_reducible rfl)
        (try simp only [Act.put, List.setIfInBounds_toArray, List.set_cons_zero, List.set_cons_succ])
        refine wpAnyH_take (i := 2) (oi := ({ dst := some 58, op := Op.move (Operand.tmp 9), type := 3, pos := "law.go:41", after := #[], guard := none } : Oper)) (v := ?_) rfl (by kernel_rfl) (by kernel_rfl) (by kernel_rfl) (fun _ _ _ h => h) (Or.inl ⟨by rfl, ?_⟩) hS ?_
        rotate_left
        · (intro w hSw; (try dsimp only at hSw); go_simp; try with_reducible rfl)
        (try simp only [Act.put, List.setIfInBounds_toArray, List.set_cons_zero, List.set_cons_succ])
        refine wpAnyH_take (i := 3) (oi := ({ dst := some 59, op := Op.indexAddr 26 (Operand.tmp 57) (Operand.tmp 58), type := 0, pos := "law.go:41", after := #[{ on := 1, ground := Ground.data }, { on := 2, ground := Ground.data }], guard := none } : Oper)) (v := ?_) rfl (by kernel_rfl) (by kernel_rfl) (by kernel_rfl) (fun _ _ _ h => h) (Or.inl ⟨by rfl, ?_⟩) hS ?_
        rotate_left
        · (intro w hSw; (try dsimp only at hSw); go_simp; try with_reducible rfl)
        (try simp only [Act.put, List.setIfInBounds_toArray, List.set_cons_zero, List.set_cons_succ])
        refine wpAnyH_take (i := 4) (oi := ({ dst := some 60, op := Op.load 3 (Operand.tmp 59), type := 3, pos := "law.go:41", after := #[{ on := 3, ground := Ground.data }], guard := none } : Oper)) (v := ?_) rfl (by kernel_rfl) (by kernel_rfl) (by kernel_rfl) (fun _ _ _ h => h) (Or.inl ⟨by rfl, ?_⟩) hS ?_
        rotate_left
        · (intro w hSw; (try dsimp only at hSw); go_simp; try with_reducible rfl)
        (try simp only [Act.put, List.setIfInBounds_toArray, List.set_cons_zero, List.set_cons_succ])
        refine wpAnyH_take (i := 5) (oi := ({ dst := some 61, op := Op.fieldAddr 30 (Operand.tmp 8) 1, type := 0, pos := "law.go:41", after := #[], guard := none } : Oper)) (v := ?_) rfl (by kernel_rfl) (by kernel_rfl) (by kernel_rfl) (fun _ _ _ h => h) (Or.inl ⟨by rfl, ?_⟩) hS ?_
        rotate_left
        · (intro w hSw; (try dsimp only at hSw); go_simp; try with_reducible rfl)
        (try simp only [Act.put, List.setIfInBounds_toArray, List.set_cons_zero, List.set_cons_succ])
        refine wpAnyH_take (i := 6) (oi := ({ dst := some 62, op := Op.load 26 (Operand.tmp 61), type := 26, pos := "law.go:41", after := #[{ on := 5, ground := Ground.data }], guard := none } : Oper)) (v := ?_) rfl (by kernel_rfl) (by kernel_rfl) (by kernel_rfl) (fun _ _ _ h => h) (Or.inl ⟨by rfl, ?_⟩) hS ?_
        rotate_left
        · (intro w hSw; (try dsimp only at hSw); go_simp; try with_reducible rfl)
        (try simp only [Act.put, List.setIfInBounds_toArray, List.set_cons_zero, List.set_cons_succ])
        refine wpAnyH_take (i := 7) (oi := ({ dst := some 63, op := Op.move (Operand.tmp 9), type := 3, pos := "law.go:41", after := #[], guard := none } : Oper)) (v := ?_) rfl (by kernel_rfl) (by kernel_rfl) (by kernel_rfl) (fun _ _ _ h => h) (Or.inl ⟨by rfl, ?_⟩) hS ?_
        rotate_left
        · (intro w hSw; (try dsimp only at hSw); go_simp; try with_reducible rfl)
        (try simp only [Act.put, List.setIfInBounds_toArray, List.set_cons_zero, List.set_cons_succ])
        refine wpAnyH_take (i := 8) (oi := ({ dst := some 64, op := Op.indexAddr 26 (Operand.tmp 62) (Operand.tmp 63), type := 0, pos := "law.go:41", after := #[{ on := 6, ground := Ground.data }, { on := 7, ground := Ground.data }], guard := none } : Oper)) (v := ?_) rfl (by kernel_rfl) (by kernel_rfl) (by kernel_rfl) (fun _ _ _ h => h) (Or.inl ⟨by rfl, ?_⟩) hS ?_
        rotate_left
        · (intro w hSw; (try dsimp only at hSw); go_simp; try with_reducible rfl)
        (try simp only [Act.put, List.setIfInBounds_toArray, List.set_cons_zero, List.set_cons_succ])
        refine wpAnyH_take (i := 9) (oi := ({ dst := some 65, op := Op.load 3 (Operand.tmp 64), type := 3, pos := "law.go:41", after := #[{ on := 8, ground := Ground.data }], guard := none } : Oper)) (v := ?_) rfl (by kernel_rfl) (by kernel_rfl) (by kernel_rfl) (fun _ _ _ h => h) (Or.inl ⟨by rfl, ?_⟩) hS ?_
        rotate_left
        · (intro w hSw; (try dsimp only at hSw); go_simp; try with_reducible rfl)
        (try simp only [Act.put, List.setIfInBounds_toArray, List.set_cons_zero, List.set_cons_succ])
        refine wpAnyH_take (i := 10) (oi := ({ dst := some 66, op := Op.binOp BinOp.neq 3 (Operand.tmp 60) (Operand.tmp 65) 3, type := 4, pos := "law.go:41", after := #[{ on := 4, ground := Ground.data }, { on := 9, ground := Ground.data }], guard := none } : Oper)) (v := ?_) rfl (by kernel_rfl) (by kernel_rfl) (by kernel_rfl) (fun _ _ _ h => h) (Or.inl ⟨by rfl, ?_⟩) hS ?_
        rotate_left
        · (intro w hSw; (try dsimp only at hSw); go_simp; try with_reducible rfl)
        (try simp only [Act.put, List.setIfInBounds_toArray, List.set_cons_zero, List.set_cons_succ])
        refine wpAnyH_done (by kernel_rfl) ?_ _
        clear hS
        go_wp2
        go_roundw
        case rel => exact ⟨i + 1, by go_num, by omega, Lib.hid HB.out.drew⟩
        case measure => simp [intOf]; omega
      · have HBW := Lib.hid (bch HB5.out HB.out)
        go_wp2_with (first
          | (go_at_call 10; (refine (HRP.out _ HBW.out).mono ?_); rintro r w6 ⟨rfl, hb⟩; have HB6 := Lib.hid (bch HBW.out hb); clear hb)
          | (go_at_call 11; (refine (HRQ.out _ HB6.out).mono ?_); rintro r w7 ⟨rfl, hb⟩; have HB7 := Lib.hid (bch HB6.out hb); clear hb)
          | (go_at_call 6; (refine (HAW.out _ HB7.out).mono ?_); rintro r w8 ⟨rfl, hb⟩; have HB8 := Lib.hid (bch HB7.out hb); clear hb))
        go_ret
        exact ⟨rfl, HB8.out⟩
end Go.Proofs.YthickhfbllddjaaDoor
