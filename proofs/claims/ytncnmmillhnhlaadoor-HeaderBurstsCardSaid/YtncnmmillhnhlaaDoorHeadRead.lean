/-
  WHAT header.read ANSWERS (layer 18): the header that a sector has, right or not. (Written by wip/gen/g25.py.)
-/
import Derived.Test.YtncnmmillhnhlaaDoorHeadOps
import Derived.Test.YtncnmmillhnhlaaDoorHeadGet
namespace Go.Proofs.YtncnmmillhnhlaaDoor
open Go.RowKit
/-- the heads that were read up to the i-th one -/
def rdl (zs : List Int) (i : Nat) : List Int := (List.range 4).map fun j => if j < i then num zs (21 + 4 * j) 4 else 0
theorem rdl_set (zs : List Int) (i : Nat) (h : i < 4) : (rdl zs i).set i (num zs (21 + 4 * i) 4) = rdl zs (i + 1) := by
  match i, h with
  | 0, _ => rfl
  | 1, _ => rfl
  | 2, _ => rfl
  | 3, _ => rfl
theorem rdl_all (zs : List Int) : rdl zs 4 = [num zs 21 4, num zs 25 4, num zs 29 4, num zs 33 4] := rfl
set_option maxRecDepth 8000 in
set_option maxHeartbeats 4000000 in
theorem hread_any (zs : List Int) (hl : zs.length = 64) (hb : isB zs) (w : World) :
    Calls Tryd.prog 18 #[.agg (sv zs)] w fun e w' => e = .returned (.agg (hv (readH zs))) ∧ Below w.heap.size w w' := by
  have HT := readH_typed hb
  obtain ⟨w0, hw0⟩ : ∃ q, (w.alloc (.cells (sv zs) 27)).alloc (.cells #[.int .u64 0, .int .i64 0, .int .i64 0, .int .i64 0, .int .i64 0, .int .i64 0, .int .i64 0] 25) = q := ⟨_, rfl⟩
  have hs1 : (w.alloc (.cells (sv zs) 27)).heap.size = w.heap.size + 1 := alloc_size w _
  have HK := Lib.hid (show Blk w0 w.heap.size zs from by rw [← hw0]; exact (Blk.new w zs hl).keep (balloc _ _))
  have HRB := Lib.hid (show HB w0 (w.heap.size + 1) noH from by rw [← hw0, ← hs1]; exact HB.new _ noH rfl)
  have HW := Lib.hid (show Below w.heap.size w w0 from by rw [← hw0]; exact bch (balloc w _) (balloc _ _))
  have HSZ := Lib.hid (show w0.heap.size = w.heap.size + 2 from by rw [← hw0, alloc_size, hs1])
  obtain ⟨e0, he0⟩ : ∃ x, num zs 5 8 = x := ⟨_, rfl⟩
  obtain ⟨s0, hs0⟩ : ∃ x, num zs 13 4 = x := ⟨_, rfl⟩
  obtain ⟨f0, hf0⟩ : ∃ x, num zs 17 4 = x := ⟨_, rfl⟩
  have HE := Lib.hid (show (⟨e0, s0, f0, [num zs 21 4, num zs 25 4, num zs 29 4, num zs 33 4]⟩ : Hdr) = readH zs from by rw [← he0, ← hs0, ← hf0]; rfl)
  have HG5 : Hid (∀ w', Blk w' w.heap.size zs → Calls Tryd.prog 28 #[.slice (some ⟨w.heap.size, 5, none⟩) 8 59] w' fun e w'' => e = .returned (.int .u64 e0) ∧ w' = w'') := Lib.hid fun w' h => sec_get w.heap.size 5 8 zs w' h hb (by omega) (by omega) (by omega) he0
  have HG13 : Hid (∀ w', Calls Tryd.prog 29 #[.agg (sv zs), .int .i64 13] w' fun e w'' => e = .returned (.int .i64 s0) ∧ Below w'.heap.size w' w'') := Lib.hid fun w' => hget_any zs hl hb 13 (by omega) w' hs0
  have HG17 : Hid (∀ w', Calls Tryd.prog 29 #[.agg (sv zs), .int .i64 17] w' fun e w'' => e = .returned (.int .i64 f0) ∧ Below w'.heap.size w' w'') := Lib.hid fun w' => hget_any zs hl hb 17 (by omega) w' hf0
  have HL := Lib.hid hl
  have HZ := Lib.hid hb
  clear hl hb he0 hs0 hf0 HT hs1
  go_enter Tryd.func18, Tryd.ntmps18
  go_wp2_with fail
  refine wp_region_held_drew (S := (fun w' => Blk w' w.heap.size zs ∧ Below w0.heap.size w0 w')) (by kernel_rfl) ⟨HK.out, (Below.refl _ _).drew⟩ (fun hS => ?_)
  refine wpAnyH_take (i := 0) (oi := ({ dst := some 5, op := Op.slice 27 (Operand.tmp 1) (some (Operand.const (Value.int IntKind.i64 5))) (some (Operand.const (Value.int IntKind.i64 13))) none, type := 42, pos := "sector.go:42", after := #[], guard := none } : Oper)) (v := ?_) rfl (by kernel_rfl) (by kernel_rfl) (by kernel_rfl) (fun _ _ _ h => h) (Or.inl ⟨by rfl, ?_⟩) hS ?_
  rotate_left
  · (intro w hSw; (try dsimp only at hSw); go_simp; try with_reducible rfl)
  (try simp only [Act.put, List.setIfInBounds_toArray, List.set_cons_zero, List.set_cons_succ])
  refine wpAnyH_take (i := 2) (oi := ({ dst := some 7, op := Op.load 27 (Operand.tmp 1), type := 27, pos := "sector.go:42", after := #[], guard := none } : Oper)) (v := ?_) rfl (by kernel_rfl) (by kernel_rfl) (by kernel_rfl) (fun _ _ _ h => h) (Or.inl ⟨by rfl, ?_⟩) hS ?_
  rotate_left
  · (intro w hSw; (try dsimp only at hSw); refine exec_load_sec (.tmp 1) ?_ ?_ hSw.1 <;> rfl)
  (try simp only [Act.put, List.setIfInBounds_toArray, List.set_cons_zero, List.set_cons_succ])
  refine wpAnyH_take (i := 4) (oi := ({ dst := some 9, op := Op.load 27 (Operand.tmp 1), type := 27, pos := "sector.go:42", after := #[], guard := none } : Oper)) (v := ?_) rfl (by kernel_rfl) (by kernel_rfl) (by kernel_rfl) (fun _ _ _ h => h) (Or.inl ⟨by rfl, ?_⟩) hS ?_
  rotate_left
  · (intro w hSw; (try dsimp only at hSw); refine exec_load_sec (.tmp 1) ?_ ?_ hSw.1 <;> rfl)
  (try simp only [Act.put, List.setIfInBounds_toArray, List.set_cons_zero, List.set_cons_succ])
  refine rg_both 1 7 ({ dst := some 6, op := Op.call { callee := Callee.value (Operand.func 28), args := #[Operand.tmp 5], argTypes := #[42] }, type := 22, pos := "sector.go:42", after := #[{ on := 0, ground := Ground.data }], guard := none } : Oper) ({ dst := some 3, op := Op.alloc 25, type := 0, pos := "sector.go:42", after := #[], guard := none } : Oper) (by kernel_rfl) rfl rfl (fun K hK => ?_) (fun K hK => ?_)
  · skip
    go_simp
    (go_at_call 28; (refine (HG5.out _ hS.1).mono ?_); rintro e w2 ⟨rfl, rfl⟩)
    refine hK.out _ _ ?_ (fun hS1 => ?_)
    · (first | exact hS | exact hN | exact ⟨hS.1.keep hb, bch hS.2 hb⟩)
    clear hK K hS; have hS := hS1; clear hS1
    (try simp only [Act.put, List.setIfInBounds_toArray, List.set_cons_zero, List.set_cons_succ])
    refine rg_both 3 7 ({ dst := some 8, op := Op.call { callee := Callee.value (Operand.func 29), args := #[Operand.tmp 7, Operand.const (Value.int IntKind.i64 13)], argTypes := #[27, 3] }, type := 3, pos := "sector.go:42", after := #[{ on := 2, ground := Ground.data }, { on := 1, ground := Ground.chain }], guard := none } : Oper) ({ dst := some 3, op := Op.alloc 25, type := 0, pos := "sector.go:42", after := #[], guard := none } : Oper) (by kernel_rfl) rfl rfl (fun K hK => ?_) (fun K hK => ?_)
    · skip
      go_simp
      (go_at_call 29; (refine (HG13.out _).mono ?_); rintro e w3 ⟨rfl, hb⟩; (try (have HA2 := Lib.hid (HA.out.keep hb); clear HA; have HA := HA2; clear HA2)))
      refine hK.out _ _ ?_ (fun hS1 => ?_)
      · (first | exact hS | exact hN | exact ⟨hS.1.keep hb, bch hS.2 hb⟩)
      clear hK K hS; have hS := hS1; clear hS1
      (try simp only [Act.put, List.setIfInBounds_toArray, List.set_cons_zero, List.set_cons_succ])
      refine rg_both 5 7 ({ dst := some 10, op := Op.call { callee := Callee.value (Operand.func 29), args := #[Operand.tmp 9, Operand.const (Value.int IntKind.i64 17)], argTypes := #[27, 3] }, type := 3, pos := "sector.go:42", after := #[{ on := 4, ground := Ground.data }, { on := 3, ground := Ground.chain }], guard := none } : Oper) ({ dst := some 3, op := Op.alloc 25, type := 0, pos := "sector.go:42", after := #[], guard := none } : Oper) (by kernel_rfl) rfl rfl (fun K hK => ?_) (fun K hK => ?_)
      · skip
        go_simp
        (go_at_call 29; (refine (HG17.out _).mono ?_); rintro e w4 ⟨rfl, hb⟩; (try (have HA2 := Lib.hid (HA.out.keep hb); clear HA; have HA := HA2; clear HA2)))
        refine hK.out _ _ ?_ (fun hS1 => ?_)
        · (first | exact hS | exact hN | exact ⟨hS.1.keep hb, bch hS.2 hb⟩)
        clear hK K hS; have hS := hS1; clear hS1
        (try simp only [Act.put, List.setIfInBounds_toArray, List.set_cons_zero, List.set_cons_succ])
        refine wpAnyH_take (i := 6) (oi := ({ dst := some 11, op := Op.build 25 #[(0, Operand.tmp 6), (1, Operand.tmp 8), (2, Operand.tmp 10)], type := 25, pos := "sector.go:42", after := #[{ on := 1, ground := Ground.data }, { on := 3, ground := Ground.data }, { on := 5, ground := Ground.data }], guard := none } : Oper)) (v := .agg (hv ⟨e0, s0, f0, [0, 0, 0, 0]⟩)) rfl (by kernel_rfl) (by kernel_rfl) (by kernel_rfl) (fun _ _ _ h => h) (Or.inl ⟨by rfl, ?_⟩) hS ?_
        · (intro w hSw; (try dsimp only at hSw); go_simp; rfl)
        (try simp only [Act.put, List.setIfInBounds_toArray, List.set_cons_zero, List.set_cons_succ])
        refine rg_one 7 ({ dst := some 3, op := Op.alloc 25, type := 0, pos := "sector.go:42", after := #[], guard := none } : Oper) (by kernel_rfl) rfl (fun K hK => ?_)
        rw [if_pos (by rfl)]; refine wp_new_hd rfl ?_; intro g w5 HA hg hb0; have hb := hb0.out; have HGE := Lib.hid (Nat.le_trans hS.2.size hg.out); clear hg hb0
        refine hK.out _ _ ?_ (fun hS1 => ?_)
        · (first | exact hS | exact hN | exact ⟨hS.1.keep hb, bch hS.2 hb⟩)
        clear hK K hS; have hS := hS1; clear hS1
        (try simp only [Act.put, List.setIfInBounds_toArray, List.set_cons_zero, List.set_cons_succ])
        refine rg_one 8 ({ dst := none, op := Op.store 25 (Operand.tmp 3) (Operand.tmp 11), type := 0, pos := "sector.go:42", after := #[{ on := 7, ground := Ground.data }, { on := 6, ground := Ground.data }, { on := 5, ground := Ground.chain }, { on := 0, ground := Ground.phase }, { on := 1, ground := Ground.phase }, { on := 2, ground := Ground.phase }, { on := 3, ground := Ground.phase }, { on := 4, ground := Ground.phase }, { on := 5, ground := Ground.phase }, { on := 6, ground := Ground.phase }, { on := 7, ground := Ground.phase }], guard := none } : Oper) (by kernel_rfl) rfl (fun K hK => ?_)
        rw [if_pos (by rfl)]; refine wp_put_hd (.tmp 3) (.tmp 11) rfl g noH ⟨e0, s0, f0, [0, 0, 0, 0]⟩ HA.out rfl rfl rfl ?_; intro w6 HA6 HG6; have HN1 := Lib.hid (show w.heap.size ≠ g by have := HGE.out; have := HSZ.out; omega); have HN2 := HGE; have hN := And.intro (hS.1.over HG6.out HN1.out) (hbelow_grown hS.2 HG6.out HGE.out hS.2.size); clear HA
        refine hK.out _ _ ?_ (fun hS1 => ?_)
        · (first | exact hS | exact hN | exact ⟨hS.1.keep hb, bch hS.2 hb⟩)
        clear hK K hS; have hS := hS1; clear hS1
        (try simp only [Act.put])
        refine wpAnyH_done (by kernel_rfl) ?_ _
        have HB6 := Lib.hid hS.2
        have HK6 := Lib.hid hS.1
        have HA := Lib.hid HA6.out
        clear hS HA6 HG6
        (try clear hN hb)
        go_wp2
        go_loopw [12] (fun v wr => ∃ i : Nat, v = .int .i64 i ∧ i ≤ 4 ∧ Hid (HB wr g ⟨e0, s0, f0, rdl zs i⟩) ∧ Hid (Blk wr w.heap.size zs) ∧ Hid (Below w0.heap.size w0 wr)) (fun v _ => 4 - (intOf v).toNat)
        case atStart => exact ⟨0, rfl, by omega, HA, HK6, HB6⟩
        case round =>
          obtain ⟨i, rfl, hi, HAR, HKR, HBR⟩ := hrel
          by_cases hlt : i < 4
          · obtain ⟨x, hx⟩ : ∃ x, num zs (21 + 4 * i) 4 = x := ⟨_, rfl⟩
            have HXS := Lib.hid (rdl_set zs i hlt)
            rw [hx] at HXS
            have HGX := Lib.hid (fun w => hget_any zs HL.out HZ.out (21 + 4 * i) (by omega) w hx)
            obtain ⟨p, hp⟩ : ∃ p : Nat, 21 + 4 * i = p := ⟨_, rfl⟩
            rw [hp] at HGX
            have hp2 : (21 : Int) + 4 * (i : Int) = (p : Int) := by omega
            have hlt2 : (i : Int) < 4 := by omega
            have hpb : (p : Int) ≤ 33 := by omega
            clear hx hp
            go_wp2_with (first
              | (refine wpl_load_sec (by rfl) (.tmp 1) rfl w.heap.size rfl zs HKR.out ?_)
              | (go_at_call 29; (with_reducible refine (HGX.out _).mono ?_); rintro r w7 ⟨rfl, hb7⟩; have HA7 := Lib.hid (HAR.out.keep hb7); have HK7 := Lib.hid (HKR.out.keep hb7); have HB7 := Lib.hid (bch HBR.out hb7); have hc7 := HA7.out.head i hlt; have hf7 := HA7.out.frozen (3 + i); dsimp only at hc7; clear hb7))
            go_roundw
            case rel =>
              refine ⟨i + 1, by go_num, by omega, Lib.hid ?_, Lib.hid (HK7.out.apart HN1.out _ _), Lib.hid (HB7.out.setCell HN2.out _)⟩
              have h1 := HA7.out.stored i x
              dsimp only at h1
              rw [HXS.out] at h1
              exact h1
            case measure => simp [intOf]; omega
          · obtain rfl : i = 4 := by omega
            have HRD := Lib.hid (rdl_all zs)
            have HAF := Lib.hid (show HB wr g (readH zs) from by have h1 := HAR.out; rw [HRD.out, HE.out] at h1; exact h1)
            have HO := Lib.hid (HRB.out.keep HBR.out)
            go_wp2_with (first
              | (refine wpl_load_hd (by rfl) (.tmp 3) rfl rfl HAF.out ?_)
              | (refine wpl_put_hd rfl (.tmp 2) (.tmp 24) rfl (w.heap.size + 1) noH (readH zs) HO.out rfl rfl rfl ?_; intro w9 HO9 HG9))
            refine bodyPost_ret_by (v := .agg (hv (readH zs))) (results_cell_row rfl _ _ (w.heap.size + 1) _ (hv (readH zs)) (0, 0) _ rfl HO9.out.1 Tryd.underlying25 rfl (hv_info rfl)) rfl ⟨rfl, ?_⟩
            exact hbelow_grown (bch HW.out HBR.out) HG9.out (by omega) (Nat.le_trans HW.out.size HBR.out.size)
      · skip
        rw [if_pos (by rfl)]; refine wp_new_hd rfl ?_; intro g w5 HA hg hb0; have hb := hb0.out; have HGE := Lib.hid (Nat.le_trans hS.2.size hg.out); clear hg hb0
        refine hK.out _ _ ?_ (fun hS1 => ?_)
        · (first | exact hS | exact hN | exact ⟨hS.1.keep hb, bch hS.2 hb⟩)
        clear hK K hS; have hS := hS1; clear hS1
        (try simp only [Act.put, List.setIfInBounds_toArray, List.set_cons_zero, List.set_cons_succ])
        refine rg_one 5 ({ dst := some 10, op := Op.call { callee := Callee.value (Operand.func 29), args := #[Operand.tmp 9, Operand.const (Value.int IntKind.i64 17)], argTypes := #[27, 3] }, type := 3, pos := "sector.go:42", after := #[{ on := 4, ground := Ground.data }, { on := 3, ground := Ground.chain }], guard := none } : Oper) (by kernel_rfl) rfl (fun K hK => ?_)
        go_simp
        (go_at_call 29; (refine (HG17.out _).mono ?_); rintro e w4 ⟨rfl, hb⟩; (try (have HA2 := Lib.hid (HA.out.keep hb); clear HA; have HA := HA2; clear HA2)))
        refine hK.out _ _ ?_ (fun hS1 => ?_)
        · (first | exact hS | exact hN | exact ⟨hS.1.keep hb, bch hS.2 hb⟩)
        clear hK K hS; have hS := hS1; clear hS1
        (try simp only [Act.put, List.setIfInBounds_toArray, List.set_cons_zero, List.set_cons_succ])
        refine wpAnyH_take (i := 6) (oi := ({ dst := some 11, op := Op.build 25 #[(0, Operand.tmp 6), (1, Operand.tmp 8), (2, Operand.tmp 10)], type := 25, pos := "sector.go:42", after := #[{ on := 1, ground := Ground.data }, { on := 3, ground := Ground.data }, { on := 5, ground := Ground.data }], guard := none } : Oper)) (v := .agg (hv ⟨e0, s0, f0, [0, 0, 0, 0]⟩)) rfl (by kernel_rfl) (by kernel_rfl) (by kernel_rfl) (fun _ _ _ h => h) (Or.inl ⟨by rfl, ?_⟩) hS ?_
        · (intro w hSw; (try dsimp only at hSw); go_simp; rfl)
        (try simp only [Act.put, List.setIfInBounds_toArray, List.set_cons_zero, List.set_cons_succ])
        refine rg_one 8 ({ dst := none, op := Op.store 25 (Operand.tmp 3) (Operand.tmp 11), type := 0, pos := "sector.go:42", after := #[{ on := 7, ground := Ground.data }, { on := 6, ground := Ground.data }, { on := 5, ground := Ground.chain }, { on := 0, ground := Ground.phase }, { on := 1, ground := Ground.phase }, { on := 2, ground := Ground.phase }, { on := 3, ground := Ground.phase }, { on := 4, ground := Ground.phase }, { on := 5, ground := Ground.phase }, { on := 6, ground := Ground.phase }, { on := 7, ground := Ground.phase }], guard := none } : Oper) (by kernel_rfl) rfl (fun K hK => ?_)
        rw [if_pos (by rfl)]; refine wp_put_hd (.tmp 3) (.tmp 11) rfl g noH ⟨e0, s0, f0, [0, 0, 0, 0]⟩ HA.out rfl rfl rfl ?_; intro w6 HA6 HG6; have HN1 := Lib.hid (show w.heap.size ≠ g by have := HGE.out; have := HSZ.out; omega); have HN2 := HGE; have hN := And.intro (hS.1.over HG6.out HN1.out) (hbelow_grown hS.2 HG6.out HGE.out hS.2.size); clear HA
        refine hK.out _ _ ?_ (fun hS1 => ?_)
        · (first | exact hS | exact hN | exact ⟨hS.1.keep hb, bch hS.2 hb⟩)
        clear hK K hS; have hS := hS1; clear hS1
        (try simp only [Act.put])
        refine wpAnyH_done (by kernel_rfl) ?_ _
        have HB6 := Lib.hid hS.2
        have HK6 := Lib.hid hS.1
        have HA := Lib.hid HA6.out
        clear hS HA6 HG6
        (try clear hN hb)
        go_wp2
        go_loopw [12] (fun v wr => ∃ i : Nat, v = .int .i64 i ∧ i ≤ 4 ∧ Hid (HB wr g ⟨e0, s0, f0, rdl zs i⟩) ∧ Hid (Blk wr w.heap.size zs) ∧ Hid (Below w0.heap.size w0 wr)) (fun v _ => 4 - (intOf v).toNat)
        case atStart => exact ⟨0, rfl, by omega, HA, HK6, HB6⟩
        case round =>
          obtain ⟨i, rfl, hi, HAR, HKR, HBR⟩ := hrel
          by_cases hlt : i < 4
          · obtain ⟨x, hx⟩ : ∃ x, num zs (21 + 4 * i) 4 = x := ⟨_, rfl⟩
            have HXS := Lib.hid (rdl_set zs i hlt)
            rw [hx] at HXS
            have HGX := Lib.hid (fun w => hget_any zs HL.out HZ.out (21 + 4 * i) (by omega) w hx)
            obtain ⟨p, hp⟩ : ∃ p : Nat, 21 + 4 * i = p := ⟨_, rfl⟩
            rw [hp] at HGX
            have hp2 : (21 : Int) + 4 * (i : Int) = (p : Int) := by omega
            have hlt2 : (i : Int) < 4 := by omega
            have hpb : (p : Int) ≤ 33 := by omega
            clear hx hp
            go_wp2_with (first
              | (refine wpl_load_sec (by rfl) (.tmp 1) rfl w.heap.size rfl zs HKR.out ?_)
              | (go_at_call 29; (with_reducible refine (HGX.out _).mono ?_); rintro r w7 ⟨rfl, hb7⟩; have HA7 := Lib.hid (HAR.out.keep hb7); have HK7 := Lib.hid (HKR.out.keep hb7); have HB7 := Lib.hid (bch HBR.out hb7); have hc7 := HA7.out.head i hlt; have hf7 := HA7.out.frozen (3 + i); dsimp only at hc7; clear hb7))
            go_roundw
            case rel =>
              refine ⟨i + 1, by go_num, by omega, Lib.hid ?_, Lib.hid (HK7.out.apart HN1.out _ _), Lib.hid (HB7.out.setCell HN2.out _)⟩
              have h1 := HA7.out.stored i x
              dsimp only at h1
              rw [HXS.out] at h1
              exact h1
            case measure => simp [intOf]; omega
          · obtain rfl : i = 4 := by omega
            have HRD := Lib.hid (rdl_all zs)
            have HAF := Lib.hid (show HB wr g (readH zs) from by have h1 := HAR.out; rw [HRD.out, HE.out] at h1; exact h1)
            have HO := Lib.hid (HRB.out.keep HBR.out)
            go_wp2_with (first
              | (refine wpl_load_hd (by rfl) (.tmp 3) rfl rfl HAF.out ?_)
              | (refine wpl_put_hd rfl (.tmp 2) (.tmp 24) rfl (w.heap.size + 1) noH (readH zs) HO.out rfl rfl rfl ?_; intro w9 HO9 HG9))
            refine bodyPost_ret_by (v := .agg (hv (readH zs))) (results_cell_row rfl _ _ (w.heap.size + 1) _ (hv (readH zs)) (0, 0) _ rfl HO9.out.1 Tryd.underlying25 rfl (hv_info rfl)) rfl ⟨rfl, ?_⟩
            exact hbelow_grown (bch HW.out HBR.out) HG9.out (by omega) (Nat.le_trans HW.out.size HBR.out.size)
    · skip
      rw [if_pos (by rfl)]; refine wp_new_hd rfl ?_; intro g w5 HA hg hb0; have hb := hb0.out; have HGE := Lib.hid (Nat.le_trans hS.2.size hg.out); clear hg hb0
      refine hK.out _ _ ?_ (fun hS1 => ?_)
      · (first | exact hS | exact hN | exact ⟨hS.1.keep hb, bch hS.2 hb⟩)
      clear hK K hS; have hS := hS1; clear hS1
      (try simp only [Act.put, List.setIfInBounds_toArray, List.set_cons_zero, List.set_cons_succ])
      refine rg_one 3 ({ dst := some 8, op := Op.call { callee := Callee.value (Operand.func 29), args := #[Operand.tmp 7, Operand.const (Value.int IntKind.i64 13)], argTypes := #[27, 3] }, type := 3, pos := "sector.go:42", after := #[{ on := 2, ground := Ground.data }, { on := 1, ground := Ground.chain }], guard := none } : Oper) (by kernel_rfl) rfl (fun K hK => ?_)
      go_simp
      (go_at_call 29; (refine (HG13.out _).mono ?_); rintro e w3 ⟨rfl, hb⟩; (try (have HA2 := Lib.hid (HA.out.keep hb); clear HA; have HA := HA2; clear HA2)))
      refine hK.out _ _ ?_ (fun hS1 => ?_)
      · (first | exact hS | exact hN | exact ⟨hS.1.keep hb, bch hS.2 hb⟩)
      clear hK K hS; have hS := hS1; clear hS1
      (try simp only [Act.put, List.setIfInBounds_toArray, List.set_cons_zero, List.set_cons_succ])
      refine rg_one 5 ({ dst := some 10, op := Op.call { callee := Callee.value (Operand.func 29), args := #[Operand.tmp 9, Operand.const (Value.int IntKind.i64 17)], argTypes := #[27, 3] }, type := 3, pos := "sector.go:42", after := #[{ on := 4, ground := Ground.data }, { on := 3, ground := Ground.chain }], guard := none } : Oper) (by kernel_rfl) rfl (fun K hK => ?_)
      go_simp
      (go_at_call 29; (refine (HG17.out _).mono ?_); rintro e w4 ⟨rfl, hb⟩; (try (have HA2 := Lib.hid (HA.out.keep hb); clear HA; have HA := HA2; clear HA2)))
      refine hK.out _ _ ?_ (fun hS1 => ?_)
      · (first | exact hS | exact hN | exact ⟨hS.1.keep hb, bch hS.2 hb⟩)
      clear hK K hS; have hS := hS1; clear hS1
      (try simp only [Act.put, List.setIfInBounds_toArray, List.set_cons_zero, List.set_cons_succ])
      refine wpAnyH_take (i := 6) (oi := ({ dst := some 11, op := Op.build 25 #[(0, Operand.tmp 6), (1, Operand.tmp 8), (2, Operand.tmp 10)], type := 25, pos := "sector.go:42", after := #[{ on := 1, ground := Ground.data }, { on := 3, ground := Ground.data }, { on := 5, ground := Ground.data }], guard := none } : Oper)) (v := .agg (hv ⟨e0, s0, f0, [0, 0, 0, 0]⟩)) rfl (by kernel_rfl) (by kernel_rfl) (by kernel_rfl) (fun _ _ _ h => h) (Or.inl ⟨by rfl, ?_⟩) hS ?_
      · (intro w hSw; (try dsimp only at hSw); go_simp; rfl)
      (try simp only [Act.put, List.setIfInBounds_toArray, List.set_cons_zero, List.set_cons_succ])
      refine rg_one 8 ({ dst := none, op := Op.store 25 (Operand.tmp 3) (Operand.tmp 11), type := 0, pos := "sector.go:42", after := #[{ on := 7, ground := Ground.data }, { on := 6, ground := Ground.data }, { on := 5, ground := Ground.chain }, { on := 0, ground := Ground.phase }, { on := 1, ground := Ground.phase }, { on := 2, ground := Ground.phase }, { on := 3, ground := Ground.phase }, { on := 4, ground := Ground.phase }, { on := 5, ground := Ground.phase }, { on := 6, ground := Ground.phase }, { on := 7, ground := Ground.phase }], guard := none } : Oper) (by kernel_rfl) rfl (fun K hK => ?_)
      rw [if_pos (by rfl)]; refine wp_put_hd (.tmp 3) (.tmp 11) rfl g noH ⟨e0, s0, f0, [0, 0, 0, 0]⟩ HA.out rfl rfl rfl ?_; intro w6 HA6 HG6; have HN1 := Lib.hid (show w.heap.size ≠ g by have := HGE.out; have := HSZ.out; omega); have HN2 := HGE; have hN := And.intro (hS.1.over HG6.out HN1.out) (hbelow_grown hS.2 HG6.out HGE.out hS.2.size); clear HA
      refine hK.out _ _ ?_ (fun hS1 => ?_)
      · (first | exact hS | exact hN | exact ⟨hS.1.keep hb, bch hS.2 hb⟩)
      clear hK K hS; have hS := hS1; clear hS1
      (try simp only [Act.put])
      refine wpAnyH_done (by kernel_rfl) ?_ _
      have HB6 := Lib.hid hS.2
      have HK6 := Lib.hid hS.1
      have HA := Lib.hid HA6.out
      clear hS HA6 HG6
      (try clear hN hb)
      go_wp2
      go_loopw [12] (fun v wr => ∃ i : Nat, v = .int .i64 i ∧ i ≤ 4 ∧ Hid (HB wr g ⟨e0, s0, f0, rdl zs i⟩) ∧ Hid (Blk wr w.heap.size zs) ∧ Hid (Below w0.heap.size w0 wr)) (fun v _ => 4 - (intOf v).toNat)
      case atStart => exact ⟨0, rfl, by omega, HA, HK6, HB6⟩
      case round =>
        obtain ⟨i, rfl, hi, HAR, HKR, HBR⟩ := hrel
        by_cases hlt : i < 4
        · obtain ⟨x, hx⟩ : ∃ x, num zs (21 + 4 * i) 4 = x := ⟨_, rfl⟩
          have HXS := Lib.hid (rdl_set zs i hlt)
          rw [hx] at HXS
          have HGX := Lib.hid (fun w => hget_any zs HL.out HZ.out (21 + 4 * i) (by omega) w hx)
          obtain ⟨p, hp⟩ : ∃ p : Nat, 21 + 4 * i = p := ⟨_, rfl⟩
          rw [hp] at HGX
          have hp2 : (21 : Int) + 4 * (i : Int) = (p : Int) := by omega
          have hlt2 : (i : Int) < 4 := by omega
          have hpb : (p : Int) ≤ 33 := by omega
          clear hx hp
          go_wp2_with (first
            | (refine wpl_load_sec (by rfl) (.tmp 1) rfl w.heap.size rfl zs HKR.out ?_)
            | (go_at_call 29; (with_reducible refine (HGX.out _).mono ?_); rintro r w7 ⟨rfl, hb7⟩; have HA7 := Lib.hid (HAR.out.keep hb7); have HK7 := Lib.hid (HKR.out.keep hb7); have HB7 := Lib.hid (bch HBR.out hb7); have hc7 := HA7.out.head i hlt; have hf7 := HA7.out.frozen (3 + i); dsimp only at hc7; clear hb7))
          go_roundw
          case rel =>
            refine ⟨i + 1, by go_num, by omega, Lib.hid ?_, Lib.hid (HK7.out.apart HN1.out _ _), Lib.hid (HB7.out.setCell HN2.out _)⟩
            have h1 := HA7.out.stored i x
            dsimp only at h1
            rw [HXS.out] at h1
            exact h1
          case measure => simp [intOf]; omega
        · obtain rfl : i = 4 := by omega
          have HRD := Lib.hid (rdl_all zs)
          have HAF := Lib.hid (show HB wr g (readH zs) from by have h1 := HAR.out; rw [HRD.out, HE.out] at h1; exact h1)
          have HO := Lib.hid (HRB.out.keep HBR.out)
          go_wp2_with (first
            | (refine wpl_load_hd (by rfl) (.tmp 3) rfl rfl HAF.out ?_)
            | (refine wpl_put_hd rfl (.tmp 2) (.tmp 24) rfl (w.heap.size + 1) noH (readH zs) HO.out rfl rfl rfl ?_; intro w9 HO9 HG9))
          refine bodyPost_ret_by (v := .agg (hv (readH zs))) (results_cell_row rfl _ _ (w.heap.size + 1) _ (hv (readH zs)) (0, 0) _ rfl HO9.out.1 Tryd.underlying25 rfl (hv_info rfl)) rfl ⟨rfl, ?_⟩
          exact hbelow_grown (bch HW.out HBR.out) HG9.out (by omega) (Nat.le_trans HW.out.size HBR.out.size)
  · skip
    rw [if_pos (by rfl)]; refine wp_new_hd rfl ?_; intro g w5 HA hg hb0; have hb := hb0.out; have HGE := Lib.hid (Nat.le_trans hS.2.size hg.out); clear hg hb0
    refine hK.out _ _ ?_ (fun hS1 => ?_)
    · (first | exact hS | exact hN | exact ⟨hS.1.keep hb, bch hS.2 hb⟩)
    clear hK K hS; have hS := hS1; clear hS1
    (try simp only [Act.put, List.setIfInBounds_toArray, List.set_cons_zero, List.set_cons_succ])
    refine rg_one 1 ({ dst := some 6, op := Op.call { callee := Callee.value (Operand.func 28), args := #[Operand.tmp 5], argTypes := #[42] }, type := 22, pos := "sector.go:42", after := #[{ on := 0, ground := Ground.data }], guard := none } : Oper) (by kernel_rfl) rfl (fun K hK => ?_)
    go_simp
    (go_at_call 28; (refine (HG5.out _ hS.1).mono ?_); rintro e w2 ⟨rfl, rfl⟩)
    refine hK.out _ _ ?_ (fun hS1 => ?_)
    · (first | exact hS | exact hN | exact ⟨hS.1.keep hb, bch hS.2 hb⟩)
    clear hK K hS; have hS := hS1; clear hS1
    (try simp only [Act.put, List.setIfInBounds_toArray, List.set_cons_zero, List.set_cons_succ])
    refine rg_one 3 ({ dst := some 8, op := Op.call { callee := Callee.value (Operand.func 29), args := #[Operand.tmp 7, Operand.const (Value.int IntKind.i64 13)], argTypes := #[27, 3] }, type := 3, pos := "sector.go:42", after := #[{ on := 2, ground := Ground.data }, { on := 1, ground := Ground.chain }], guard := none } : Oper) (by kernel_rfl) rfl (fun K hK => ?_)
    go_simp
    (go_at_call 29; (refine (HG13.out _).mono ?_); rintro e w3 ⟨rfl, hb⟩; (try (have HA2 := Lib.hid (HA.out.keep hb); clear HA; have HA := HA2; clear HA2)))
    refine hK.out _ _ ?_ (fun hS1 => ?_)
    · (first | exact hS | exact hN | exact ⟨hS.1.keep hb, bch hS.2 hb⟩)
    clear hK K hS; have hS := hS1; clear hS1
    (try simp only [Act.put, List.setIfInBounds_toArray, List.set_cons_zero, List.set_cons_succ])
    refine rg_one 5 ({ dst := some 10, op := Op.call { callee := Callee.value (Operand.func 29), args := #[Operand.tmp 9, Operand.const (Value.int IntKind.i64 17)], argTypes := #[27, 3] }, type := 3, pos := "sector.go:42", after := #[{ on := 4, ground := Ground.data }, { on := 3, ground := Ground.chain }], guard := none } : Oper) (by kernel_rfl) rfl (fun K hK => ?_)
    go_simp
    (go_at_call 29; (refine (HG17.out _).mono ?_); rintro e w4 ⟨rfl, hb⟩; (try (have HA2 := Lib.hid (HA.out.keep hb); clear HA; have HA := HA2; clear HA2)))
    refine hK.out _ _ ?_ (fun hS1 => ?_)
    · (first | exact hS | exact hN | exact ⟨hS.1.keep hb, bch hS.2 hb⟩)
    clear hK K hS; have hS := hS1; clear hS1
    (try simp only [Act.put, List.setIfInBounds_toArray, List.set_cons_zero, List.set_cons_succ])
    refine wpAnyH_take (i := 6) (oi := ({ dst := some 11, op := Op.build 25 #[(0, Operand.tmp 6), (1, Operand.tmp 8), (2, Operand.tmp 10)], type := 25, pos := "sector.go:42", after := #[{ on := 1, ground := Ground.data }, { on := 3, ground := Ground.data }, { on := 5, ground := Ground.data }], guard := none } : Oper)) (v := .agg (hv ⟨e0, s0, f0, [0, 0, 0, 0]⟩)) rfl (by kernel_rfl) (by kernel_rfl) (by kernel_rfl) (fun _ _ _ h => h) (Or.inl ⟨by rfl, ?_⟩) hS ?_
    · (intro w hSw; (try dsimp only at hSw); go_simp; rfl)
    (try simp only [Act.put, List.setIfInBounds_toArray, List.set_cons_zero, List.set_cons_succ])
    refine rg_one 8 ({ dst := none, op := Op.store 25 (Operand.tmp 3) (Operand.tmp 11), type := 0, pos := "sector.go:42", after := #[{ on := 7, ground := Ground.data }, { on := 6, ground := Ground.data }, { on := 5, ground := Ground.chain }, { on := 0, ground := Ground.phase }, { on := 1, ground := Ground.phase }, { on := 2, ground := Ground.phase }, { on := 3, ground := Ground.phase }, { on := 4, ground := Ground.phase }, { on := 5, ground := Ground.phase }, { on := 6, ground := Ground.phase }, { on := 7, ground := Ground.phase }], guard := none } : Oper) (by kernel_rfl) rfl (fun K hK => ?_)
    rw [if_pos (by rfl)]; refine wp_put_hd (.tmp 3) (.tmp 11) rfl g noH ⟨e0, s0, f0, [0, 0, 0, 0]⟩ HA.out rfl rfl rfl ?_; intro w6 HA6 HG6; have HN1 := Lib.hid (show w.heap.size ≠ g by have := HGE.out; have := HSZ.out; omega); have HN2 := HGE; have hN := And.intro (hS.1.over HG6.out HN1.out) (hbelow_grown hS.2 HG6.out HGE.out hS.2.size); clear HA
    refine hK.out _ _ ?_ (fun hS1 => ?_)
    · (first | exact hS | exact hN | exact ⟨hS.1.keep hb, bch hS.2 hb⟩)
    clear hK K hS; have hS := hS1; clear hS1
    (try simp only [Act.put])
    refine wpAnyH_done (by kernel_rfl) ?_ _
    have HB6 := Lib.hid hS.2
    have HK6 := Lib.hid hS.1
    have HA := Lib.hid HA6.out
    clear hS HA6 HG6
    (try clear hN hb)
    go_wp2
    go_loopw [12] (fun v wr => ∃ i : Nat, v = .int .i64 i ∧ i ≤ 4 ∧ Hid (HB wr g ⟨e0, s0, f0, rdl zs i⟩) ∧ Hid (Blk wr w.heap.size zs) ∧ Hid (Below w0.heap.size w0 wr)) (fun v _ => 4 - (intOf v).toNat)
    case atStart => exact ⟨0, rfl, by omega, HA, HK6, HB6⟩
    case round =>
      obtain ⟨i, rfl, hi, HAR, HKR, HBR⟩ := hrel
      by_cases hlt : i < 4
      · obtain ⟨x, hx⟩ : ∃ x, num zs (21 + 4 * i) 4 = x := ⟨_, rfl⟩
        have HXS := Lib.hid (rdl_set zs i hlt)
        rw [hx] at HXS
        have HGX := Lib.hid (fun w => hget_any zs HL.out HZ.out (21 + 4 * i) (by omega) w hx)
        obtain ⟨p, hp⟩ : ∃ p : Nat, 21 + 4 * i = p := ⟨_, rfl⟩
        rw [hp] at HGX
        have hp2 : (21 : Int) + 4 * (i : Int) = (p : Int) := by omega
        have hlt2 : (i : Int) < 4 := by omega
        have hpb : (p : Int) ≤ 33 := by omega
        clear hx hp
        go_wp2_with (first
          | (refine wpl_load_sec (by rfl) (.tmp 1) rfl w.heap.size rfl zs HKR.out ?_)
          | (go_at_call 29; (with_reducible refine (HGX.out _).mono ?_); rintro r w7 ⟨rfl, hb7⟩; have HA7 := Lib.hid (HAR.out.keep hb7); have HK7 := Lib.hid (HKR.out.keep hb7); have HB7 := Lib.hid (bch HBR.out hb7); have hc7 := HA7.out.head i hlt; have hf7 := HA7.out.frozen (3 + i); dsimp only at hc7; clear hb7))
        go_roundw
        case rel =>
          refine ⟨i + 1, by go_num, by omega, Lib.hid ?_, Lib.hid (HK7.out.apart HN1.out _ _), Lib.hid (HB7.out.setCell HN2.out _)⟩
          have h1 := HA7.out.stored i x
          dsimp only at h1
          rw [HXS.out] at h1
          exact h1
        case measure => simp [intOf]; omega
      · obtain rfl : i = 4 := by omega
        have HRD := Lib.hid (rdl_all zs)
        have HAF := Lib.hid (show HB wr g (readH zs) from by have h1 := HAR.out; rw [HRD.out, HE.out] at h1; exact h1)
        have HO := Lib.hid (HRB.out.keep HBR.out)
        go_wp2_with (first
          | (refine wpl_load_hd (by rfl) (.tmp 3) rfl rfl HAF.out ?_)
          | (refine wpl_put_hd rfl (.tmp 2) (.tmp 24) rfl (w.heap.size + 1) noH (readH zs) HO.out rfl rfl rfl ?_; intro w9 HO9 HG9))
        refine bodyPost_ret_by (v := .agg (hv (readH zs))) (results_cell_row rfl _ _ (w.heap.size + 1) _ (hv (readH zs)) (0, 0) _ rfl HO9.out.1 Tryd.underlying25 rfl (hv_info rfl)) rfl ⟨rfl, ?_⟩
        exact hbelow_grown (bch HW.out HBR.out) HG9.out (by omega) (Nat.le_trans HW.out.size HBR.out.size)
end Go.Proofs.YtncnmmillhnhlaaDoor
