/-
  TEXTS JOINED: HeadSec, DiskWrite, SegRefP, SegRefB. Each one's own words stand at its head.
-/
import Derived.Test.YtpoiapfgbbmekaaGreatDoorJ13
import Derived.Test.YtpoiapfgbbmekaaGreatDoorJ14
import Derived.Test.YtpoiapfgbbmekaaGreatDoorJ18
import Derived.Test.YtpoiapfgbbmekaaGreatDoorJ2
import Derived.Test.YtpoiapfgbbmekaaGreatDoorJ16
namespace Go.Proofs.YtpoiapfgbbmekaaGreatDoor
open Go.RowKit
theorem hrput_own (x : Int) (n : Nat) (hx : U64 x) (hn : n ≤ 8) (w : World) :
    Calls Tryz.prog 85 #[.int .u64 x, .int .i64 n] w fun e w' => ∃ a c, e = .returned (.slice a n c) ∧ w'.ownsRow w.heap.size 5 1 (.slice a n c) n (il .u8 (putL x n)) ∧ Below w.heap.size w w' :=
  (rput_any x n n hx (by unfold I63; omega) (by unfold clampI; omega) w).mono fun _ _ ⟨v, he, ho, hb⟩ => by
    obtain ⟨a, c, rfl⟩ := own_form ho
    exact ⟨a, c, he, ho, hb⟩
theorem wpl_mark_own {o : Oper} {a : Act} {w : World} {Q : Exit → Act → World → Prop} {ops : Array Oper} {rest : List Oper} (hgd : o.guard = none) (ho : o.op = .buildSlice 36 5 #[(0, .const (.int .u8 115)), (1, .const (.int .u8 116)), (2, .const (.int .u8 114)), (3, .const (.int .u8 100)), (4, .const (.int .u8 1))])
    (h : ∀ g w', Hid (w'.ownsRow w.heap.size 5 1 (.slice (some ⟨g, 0, none⟩) 5 5) 5 (il .u8 mark)) → Hid (Below w.heap.size w w') → wpList Tryz.prog ops Q rest (a.put o.dst (.slice (some ⟨g, 0, none⟩) 5 5)) w') : wpList Tryz.prog ops Q (o :: rest) a w := by
  obtain ⟨i, hi, hz0, hz1, hz2⟩ := info_parts Tryz.info_u8
  refine wpList_buildSlice hgd 36 5 5 _ ho (il .u8 mark).toArray i (.int .u8 0) Tryz.underlying36 hi hz0 (by rw [hz1]; omega) (by rw [hz1]; omega) ?_ (h w.heap.size _ (Lib.hid (World.ownsRow_lit w (il .u8 mark).toArray 5 (Nat.le_refl _) (by unfold maxLen; omega) rfl)) (balloc w _))
  rw [hz1]
  rw [parts_eval a #[(0, .const (.int .u8 115)), (1, .const (.int .u8 116)), (2, .const (.int .u8 114)), (3, .const (.int .u8 100)), (4, .const (.int .u8 1))] .u8 mark rfl]
  exact Great.fill_flat (il .u8 mark) _ (fun v hv => by obtain ⟨x, _, rfl⟩ := List.mem_map.1 hv; rfl) (by simp [il, mark])
theorem own_as {w : World} {base : Nat} {e : TypeId} {v : Value} {n m : Nat} {xs ys : List Int} (h : w.ownsRow base e 1 v n (il .u8 xs)) (hx : xs = ys) (hm : n = m) : ∃ a c, v = .slice a m c ∧ w.ownsRow base e 1 (.slice a m c) m (il .u8 ys) := by
  subst hx; subst hm
  obtain ⟨a, c, rfl⟩ := own_form h
  exact ⟨a, c, rfl, h⟩
def padk (B : List Int) (k : Nat) : List Int := B.take k ++ List.replicate (64 - k) 0
theorem padk_set (B : List Int) (k : Nat) (hk : k < B.length) (h64 : k < 64) : (padk B k).set k (B.getD k 0) = padk B (k + 1) := by
  unfold padk
  have h1 : (B.take k).length = k := by rw [List.length_take]; omega
  rw [List.set_append_right _ _ (by omega), h1, Nat.sub_self, show 64 - k = (64 - (k + 1)) + 1 from by omega, List.replicate_succ, List.set_cons_zero, List.take_succ_eq_append_getElem hk, List.append_assoc]
  simp [List.getD, hk]
theorem padk_all {h : Hdr} (hn : h.l.length = 4) : padk (headB h) 41 = secH h := by
  unfold padk secH
  rw [List.take_of_length_le (by rw [headB_length hn]; omega)]
theorem put4_takeR (l : List Int) (i : Nat) (hi : i < l.length) : put4 (l.take i) ++ putL (l.getD i 0) 4 = put4 (l.take (i + 1)) := by
  rw [List.take_succ_eq_append_getElem hi, put4_snoc]
  simp [List.getD, hi]
set_option maxRecDepth 8000 in
set_option maxHeartbeats 4000000 in
theorem rsector_any (h : Hdr) (ht : HdT h) (hk : hdOk h = true) (w : World) :
    Calls Tryz.prog 43 #[.agg (hv h)] w fun r w' => r = .returned (.agg (sv (secH h))) ∧ Below w.heap.size w w' := by
  have hok := hdOk_parts hk
  obtain ⟨w0, hw0⟩ : ∃ q, (w.alloc (.cells (hv h) 34)).alloc (.cells (sv z64) 63) = q := ⟨_, rfl⟩
  have hs1 : (w.alloc (.cells (hv h) 34)).heap.size = w.heap.size + 1 := alloc_size w _
  have HK := Lib.hid (show HB w0 w.heap.size h from by rw [← hw0]; exact (HB.new w h ht.n).keep (balloc _ _))
  have HO := Lib.hid (show Blk w0 (w.heap.size + 1) z64 from by rw [← hw0, ← hs1]; exact Blk.new _ z64 z64_length)
  have HW := Lib.hid (show Below w.heap.size w w0 from by rw [← hw0]; exact bch (balloc w _) (balloc _ _))
  have HSZ := Lib.hid (show w0.heap.size = w.heap.size + 2 from by rw [← hw0, alloc_size, hs1])
  have HLN := Lib.hid ht.n
  have HLB := Lib.hid (show ∀ x ∈ h.l, 0 ≤ x ∧ x ≤ 2147483647 from fun x hx => by have := hok.2.2.2 x hx; have := hok.2.2.1; omega)
  have HBL := Lib.hid (headB_length ht.n)
  have HPA := Lib.hid (padk_all ht.n)
  have HSL := Lib.hid (secH_length ht.n)
  have HZ := Lib.hid z64_cells
  rw [z64_cells] at hw0
  have he : 0 ≤ h.e ∧ h.e ≤ 18446744073709551615 := ht.e
  have hs := hok.2.1
  have hf := hok.2.2.1
  obtain ⟨m, hm⟩ : ∃ m, headS h = m := ⟨_, rfl⟩
  have HM : Hid (maskS (ofS (headP h)) = m) := Lib.hid hm
  have HBM := Lib.hid (show headP h ++ putL m 4 = headB h from by rw [← hm]; rfl)
  have hm9 : (m : Int) ≤ 4294967295 := by rw [← hm]; have := headS_lt h; omega
  obtain ⟨oo, hoo⟩ : ∃ q, ofS (headP h) = q := ⟨_, rfl⟩
  have HOO := Lib.hid hoo
  have HOL := Lib.hid (show oo < 4294967296 from by rw [← hoo]; exact ofS_lt _)
  have HMM := Lib.hid (show maskS oo = m from by rw [← hoo]; exact HM.out)
  have HPB : Hid (∀ x ∈ headP h, 0 ≤ x ∧ x ≤ 255) := Lib.hid (headP_bytes h)
  have HPE := Lib.hid (show headP h = mark ++ putL h.e 8 ++ putL h.s 4 ++ putL h.f 4 ++ put4 h.l from rfl)
  obtain ⟨e, s, f, l⟩ := h
  dsimp only at *
  obtain ⟨z0, z1, z2⟩ := HK.out.cells
  dsimp only at z0 z1 z2
  have HP8 : Hid (∀ w, Calls Tryz.prog 85 #[.int .u64 e, .int .i64 8] w fun r w' => ∃ a c, r = .returned (.slice a 8 c) ∧ w'.ownsRow w.heap.size 5 1 (.slice a 8 c) 8 (il .u8 (putL e 8)) ∧ Below w.heap.size w w') := Lib.hid (hrput_own e 8 (by unfold U64; omega) (by omega))
  have HPS : Hid (∀ w, Calls Tryz.prog 85 #[.int .u64 s, .int .i64 4] w fun r w' => ∃ a c, r = .returned (.slice a 4 c) ∧ w'.ownsRow w.heap.size 5 1 (.slice a 4 c) 4 (il .u8 (putL s 4)) ∧ Below w.heap.size w w') := Lib.hid (hrput_own s 4 (by unfold U64; omega) (by omega))
  have HPF : Hid (∀ w, Calls Tryz.prog 85 #[.int .u64 f, .int .i64 4] w fun r w' => ∃ a c, r = .returned (.slice a 4 c) ∧ w'.ownsRow w.heap.size 5 1 (.slice a 4 c) 4 (il .u8 (putL f 4)) ∧ Below w.heap.size w w') := Lib.hid (hrput_own f 4 (by unfold U64; omega) (by omega))
  have HPM : Hid (∀ w, Calls Tryz.prog 85 #[.int .u64 m, .int .i64 4] w fun r w' => ∃ a c, r = .returned (.slice a 4 c) ∧ w'.ownsRow w.heap.size 5 1 (.slice a 4 c) 4 (il .u8 (putL m 4)) ∧ Below w.heap.size w w') := Lib.hid (hrput_own m 4 (by unfold U64; omega) (by omega))
  clear hok hk ht hs1 hm hoo
  go_enter Tryz.func43, Tryz.ntmps43
  go_wp2_with (first
    | (at_builtin; refine wpl_appn rfl (.tmp 18) (.tmp 22) 36 rfl 5 .u8 1 Tryz.underlying36 Tryz.info_u8 w0.heap.size _ (5 + 8 + 4) (mark ++ putL e 8 ++ putL s 4) rfl HO5K _ 4 (putL f 4) rfl (RI.own HO6.out) (by omega) (by omega) w0.heap.size w0 HB6 (Nat.le_refl _) HB6.out.size ?_; intro v7 w7 HO7 HB7)
    | (at_builtin; refine wpl_appn rfl (.tmp 12) (.tmp 16) 36 rfl 5 .u8 1 Tryz.underlying36 Tryz.info_u8 w0.heap.size _ (5 + 8) (mark ++ putL e 8) rfl HO3K _ 4 (putL s 4) rfl (RI.own HO4.out) (by omega) (by omega) w0.heap.size w0 HB4 (Nat.le_refl _) HB4.out.size ?_; intro v5 w5 HO5 HB5; obtain ⟨q0, q1, q2⟩ := (HK.out.keep HB5.out).cells; dsimp only at q0 q1 q2)
    | (at_builtin; refine wpl_appn rfl (.tmp 7) (.tmp 10) 36 rfl 5 .u8 1 Tryz.underlying36 Tryz.info_u8 w0.heap.size _ 5 mark rfl HO1K _ 8 (putL e 8) rfl (RI.own HO2.out) (by omega) (by omega) w0.heap.size w0 HB2 (Nat.le_refl _) HB2.out.size ?_; intro v3 w3 HO3 HB3; obtain ⟨y0, y1, y2⟩ := (HK.out.keep HB3.out).cells; dsimp only at y0 y1 y2)
    | (refine wpl_mark_own rfl rfl ?_; intro g1 w1 HO1 HB1; obtain ⟨x0, x1, x2⟩ := (HK.out.keep HB1.out).cells; dsimp only at x0 x1 x2)
    | (go_at_call 85; (with_reducible refine (HP8.out _).mono ?_); rintro r w2 ⟨a2, c2, rfl, ho2, hb2⟩; have HO1K := Lib.hid (own_keep HO1.out hb2); have HO2 := Lib.hid ho2; have HB2 := Lib.hid (bch HB1.out hb2); clear ho2 hb2)
    | (go_at_call 85; (with_reducible refine (HPS.out _).mono ?_); rintro r w4 ⟨a4, c4, rfl, ho4, hb4⟩; have HO3K := Lib.hid (own_keep HO3.out hb4); have HO4 := Lib.hid ho4; have HB4 := Lib.hid (bch HB3.out hb4); clear ho4 hb4)
    | (go_at_call 85; (with_reducible refine (HPF.out _).mono ?_); rintro r w6 ⟨a6, c6, rfl, ho6, hb6⟩; have HO5K := Lib.hid (own_keep HO5.out hb6); have HO6 := Lib.hid ho6; have HB6 := Lib.hid (bch HB5.out hb6); clear ho6 hb6))
  go_loopw [3, 4] (fun v iv wr => ∃ (i n : Nat) (a : Option Addr) (c : Nat), iv = .int .i64 i ∧ i ≤ 4 ∧ v = .slice a n c ∧ 21 + 4 * i = n ∧ Hid (wr.ownsRow w0.heap.size 5 1 (.slice a n c) n (il .u8 (mark ++ putL e 8 ++ putL s 4 ++ putL f 4 ++ put4 (l.take i)))) ∧ Hid (Below w0.heap.size w0 wr)) (fun _ iv _ => 4 - (intOf iv).toNat)
  case atStart =>
    obtain ⟨a, c, rfl, ho⟩ := own_as (m := 21) HO7.out (show _ = mark ++ putL e 8 ++ putL s 4 ++ putL f 4 ++ put4 (l.take 0) from by simp [put4]) (by omega)
    exact ⟨0, 21, a, c, rfl, by omega, rfl, rfl, Lib.hid ho, HB7⟩
  case round =>
    obtain ⟨i, n, a, c, rfl, hi, rfl, hn, HOR, HBR⟩ := hrel
    by_cases hlt : i < 4
    · obtain ⟨x, hx⟩ : ∃ x, l.getD i 0 = x := ⟨_, rfl⟩
      have hcx := (HK.out.keep HBR.out).head i hlt
      dsimp only at hcx
      rw [hx] at hcx
      have HXB := Lib.hid (show 0 ≤ x ∧ x ≤ 2147483647 from by rw [← hx]; exact HLB.out _ (getD_memH (by rw [HLN.out]; exact hlt)))
      have HPX := Lib.hid (put4_takeR l i (by rw [HLN.out]; exact hlt))
      rw [hx] at HPX
      have hx0 := HXB.out.1
      have hx1 := HXB.out.2
      have HPU : Hid (∀ w, Calls Tryz.prog 85 #[.int .u64 x, .int .i64 4] w fun r w' => ∃ a c, r = .returned (.slice a 4 c) ∧ w'.ownsRow w.heap.size 5 1 (.slice a 4 c) 4 (il .u8 (putL x 4)) ∧ Below w.heap.size w w') := Lib.hid (hrput_own x 4 (by unfold U64; omega) (by omega))
      have hlt2 : (i : Int) < 4 := by omega
      clear hx
      go_wp2_with (first
        | (go_at_call 85; (with_reducible refine (HPU.out _).mono ?_); rintro r w8 ⟨a8, c8, rfl, ho8, hb8⟩; have HORK := Lib.hid (own_keep HOR.out hb8); have HO8 := Lib.hid ho8; have HB8 := Lib.hid (bch HBR.out hb8); clear ho8 hb8)
        | (at_builtin; refine wpl_appn rfl (.tmp 28) (.tmp 34) 36 rfl 5 .u8 1 Tryz.underlying36 Tryz.info_u8 w0.heap.size _ n _ rfl HORK _ 4 (putL x 4) rfl (RI.own HO8.out) (by omega) (by omega) w0.heap.size w0 HB8 (Nat.le_refl _) HB8.out.size ?_; intro v9 w9 HO9 HB9))
      go_roundw
      case rel =>
        obtain ⟨a9, c9, rfl, ho9⟩ := own_as (m := n + 4) HO9.out (show _ = mark ++ putL e 8 ++ putL s 4 ++ putL f 4 ++ put4 (l.take (i + 1)) from by rw [List.append_assoc, HPX.out]) rfl
        exact ⟨i + 1, n + 4, a9, c9, by go_num, by omega, rfl, by omega, Lib.hid ho9, HB9⟩
      case measure => simp [intOf]; omega
    · obtain rfl : i = 4 := by omega
      obtain rfl : n = 37 := by omega
      have HOF : Hid (wr.ownsRow w0.heap.size 5 1 (.slice a 37 c) 37 (il .u8 (headP ⟨e, s, f, l⟩))) := Lib.hid (by have h1 := HOR.out; rwa [List.take_of_length_le (by rw [HLN.out]; omega), ← HPE.out] at h1)
      obtain ⟨PP, hPP⟩ : ∃ q, headP ⟨e, s, f, l⟩ = q := ⟨_, rfl⟩
      rw [hPP] at HOF HOO HPB HBM
      obtain ⟨wz, hwz⟩ : ∃ q, q = wr := ⟨_, rfl⟩
      subst hwz
      clear hPP
      go_wp2_with (first
        | (go_at_call 87; (with_reducible refine (rof_any (RI.own HOF.out) HPB.out HOO.out).mono ?_); rintro r w' ⟨rfl, rfl⟩)
        | (go_at_call 86; (with_reducible refine (rmask_at oo m HOL.out HMM.out _).mono ?_); rintro r w' ⟨rfl, rfl⟩)
        | (go_at_call 85; (with_reducible refine (HPM.out _).mono ?_); rintro r w8 ⟨a8, c8, rfl, ho8, hb8⟩; have HOFK := Lib.hid (own_keep HOF.out hb8); have HO8 := Lib.hid ho8; have HB8 := Lib.hid (bch HBR.out hb8); clear ho8 hb8)
        | (at_builtin; refine wpl_appn rfl (.tmp 36) (.tmp 41) 36 rfl 5 .u8 1 Tryz.underlying36 Tryz.info_u8 w0.heap.size _ 37 PP rfl HOFK _ 4 (putL m 4) rfl (RI.own HO8.out) (by omega) (by omega) w0.heap.size w0 HB8 (Nat.le_refl _) HB8.out.size ?_; intro v9 w9 HO9 HB9; obtain ⟨a9, c9, rfl, ho9⟩ := own_as (m := 41) HO9.out HBM.out (by omega); have HOB := Lib.hid ho9; clear ho9)
        | (refine wpl_build_z rfl (by rfl) ?_)
        | (rw [← HZ.out]; refine wpl_put_sec rfl (.tmp 5) (.tmp 43) rfl w9.heap.size z64 z64 (Blk.new w9 z64 z64_length) z64_length rfl rfl ?_; intro wA HKA HGA))
      have HG9 : Hid (w0.heap.size ≤ w9.heap.size) := Lib.hid HB9.out.size
      have HRI : Hid (∀ wq, wA.grownBy wq (some w9.heap.size) → RI .u8 wq (.slice a9 41 c9) 41 (headB ⟨e, s, f, l⟩)) := Lib.hid fun wq hq => by
        have h1 : (w9.alloc (.cells (sv z64) 63)).grownBy wq (some w9.heap.size) := hgrown_trans HGA.out hq
        exact ((RI.own HOB.out).keep (balloc w9 _)).over _ h1 fun _ q hq2 e2 => by have := (HOB.out.lt q hq2).2; have := Option.some.inj e2; omega
      obtain ⟨BB, hBB⟩ : ∃ q, headB ⟨e, s, f, l⟩ = q := ⟨_, rfl⟩
      rw [hBB] at HRI HBL HPA
      go_loopw [6] (fun iv wr2 => ∃ k : Nat, iv = .int .i64 k ∧ k ≤ 41 ∧ Hid (Blk wr2 w9.heap.size (padk BB k)) ∧ Hid (wA.grownBy wr2 (some w9.heap.size))) (fun iv _ => 41 - (intOf iv).toNat)
      case atStart => exact ⟨0, rfl, by omega, HKA, Lib.hid (hgrown_refl _ _)⟩
      case round =>
        obtain ⟨k, rfl, hk, HKR, HGR⟩ := hrel
        by_cases hlt2 : k < 41
        · obtain ⟨b, off, cp, e1, _, _, hcell⟩ := (HRI.out _ HGR.out).open_ (by omega)
          simp only [Value.slice.injEq, true_and] at e1
          obtain ⟨rfl, rfl⟩ := e1
          have hc1 := hcell k hlt2
          obtain ⟨x, hx⟩ : ∃ x, BB.getD k 0 = x := ⟨_, rfl⟩
          rw [hx] at hc1
          have hc2 := HKR.out.cell k (by omega)
          have hf2 := HKR.out.frozen k
          have HPD := Lib.hid (padk_set BB k (by rw [HBL.out]; exact hlt2) (by omega))
          rw [hx] at HPD
          have hk41 : (k : Int) < 41 := by omega
          clear hx hcell
          go_wp2
          go_roundw
          case rel => exact ⟨k + 1, by go_num, by omega, Lib.hid (by rw [← HPD.out]; exact HKR.out.stored k x), Lib.hid (hgrown_trans HGR.out (HB.set_grown _ _ _ _))⟩
          case measure => simp [intOf]; omega
        · obtain rfl : k = 41 := by omega
          rw [HPA.out] at HKR
          have HNE := Lib.hid (show w.heap.size + 1 ≠ w9.heap.size from by have := HG9.out; have := HSZ.out; omega)
          have HOZ := Lib.hid ((((HO.out.keep HB9.out).keep (balloc w9 _)).over HGA.out HNE.out).over HGR.out HNE.out)
          have HGE := Lib.hid (show w.heap.size ≤ w9.heap.size from by have := HG9.out; have := HSZ.out; omega)
          have HWA := Lib.hid (hbelow_grown (bch (bch HW.out HB9.out) (balloc w9 _)) HGA.out HGE.out (bch (bch HW.out HB9.out) (balloc w9 _)).size)
          have HWR := Lib.hid (hbelow_grown HWA.out HGR.out HGE.out HWA.out.size)
          go_wp2_with (first
            | (refine wpl_load_sec (by rfl) (.tmp 5) rfl w9.heap.size rfl (secH ⟨e, s, f, l⟩) HKR.out ?_)
            | (refine wpl_put_sec rfl (.tmp 2) (.tmp 56) rfl (w.heap.size + 1) z64 (secH ⟨e, s, f, l⟩) HOZ.out HSL.out rfl rfl ?_; intro wf HOF2 HGF))
          refine bodyPost_ret_by (v := .agg (sv (secH ⟨e, s, f, l⟩))) (results_cell_row rfl _ _ (w.heap.size + 1) _ (sv (secH ⟨e, s, f, l⟩)) (0, 0) _ rfl HOF2.out.1 Tryz.underlying63 rfl (sv_info _ HSL.out)) rfl ⟨rfl, hbelow_grown HWR.out HGF.out (by omega) HWR.out.size⟩
end Go.Proofs.YtpoiapfgbbmekaaGreatDoor
namespace Go.Proofs.YtpoiapfgbbmekaaGreatDoor
open Go.RowKit
def wrS (seen gs : List Int) (at_ m : Nat) : List Int := seen.take (at_ * 64) ++ gs ++ seen.drop (at_ * 64 + m * 64)
def wrW (ws : List Bool) (at_ m : Nat) : List Bool := ws.take at_ ++ List.replicate m true ++ ws.drop (at_ + m)
theorem wrS_length (seen gs : List Int) (at_ m n : Nat) (hs : seen.length = n * 64) (hg : gs.length = m * 64) (h : at_ + m ≤ n) : (wrS seen gs at_ m).length = n * 64 := by
  simp [wrS]; omega
theorem wrW_length (ws : List Bool) (at_ m n : Nat) (hs : ws.length = n) (h : at_ + m ≤ n) : (wrW ws at_ m).length = n := by
  simp [wrW]; omega
theorem wrS_get (seen gs : List Int) (at_ m n : Nat) (hs : seen.length = n * 64) (hg : gs.length = m * 64) (h : at_ + m ≤ n) (k : Nat) :
    (wrS seen gs at_ m)[k]? = if at_ * 64 ≤ k ∧ k < at_ * 64 + m * 64 then gs[k - at_ * 64]? else seen[k]? := by
  unfold wrS
  by_cases h1 : k < at_ * 64
  · rw [if_neg (by omega), List.append_assoc, List.getElem?_append_left (by simp; omega), List.getElem?_take_of_lt h1]
  · by_cases h2 : k < at_ * 64 + m * 64
    · rw [if_pos (by omega), List.append_assoc, List.getElem?_append_right (by simp; omega), List.getElem?_append_left (by simp; omega)]
      congr 1; simp; omega
    · rw [if_neg (by omega), List.getElem?_append_right (by simp; omega), List.getElem?_drop]
      congr 1; simp; omega
theorem wrS_step (seen gs : List Int) (at_ m n i : Nat) (hs : seen.length = n * 64) (hg : gs.length = m * 64) (h : at_ + m ≤ n) :
    (wrS seen gs at_ m).take ((i + 1) * 64) = (wrS seen gs at_ m).take (i * 64) ++ (if at_ ≤ i ∧ i - at_ < m then (gs.drop ((i - at_) * 64)).take 64 else (seen.drop (i * 64)).take 64) := by
  rw [show (i + 1) * 64 = i * 64 + 64 from by omega, List.take_add]
  congr 1
  refine List.ext_getElem? fun k => ?_
  by_cases hk : k < 64
  · rw [List.getElem?_take_of_lt hk, List.getElem?_drop, wrS_get seen gs at_ m n hs hg h]
    by_cases hc : at_ ≤ i ∧ i - at_ < m
    · rw [if_pos (by omega), if_pos hc, List.getElem?_take_of_lt hk, List.getElem?_drop]
      congr 1; omega
    · rw [if_neg (by omega), if_neg hc, List.getElem?_take_of_lt hk, List.getElem?_drop]
  · have e1 : ∀ l : List Int, (l.take 64)[k]? = none := fun l => List.getElem?_eq_none (by simp; omega)
    rw [e1]
    split
    · rw [e1]
    · rw [e1]
theorem wrW_step (ws : List Bool) (at_ m n i : Nat) (hs : ws.length = n) (h : at_ + m ≤ n) (hi : i < n) :
    (wrW ws at_ m).take (i + 1) = (wrW ws at_ m).take i ++ [if at_ ≤ i ∧ i - at_ < m then true else ws.getD i false] := by
  have hl := wrW_length ws at_ m n hs h
  rw [List.take_succ_eq_append_getElem (by omega)]
  congr 2
  have : (wrW ws at_ m)[i]? = some (if at_ ≤ i ∧ i - at_ < m then true else ws.getD i false) := by
    unfold wrW
    by_cases h1 : i < at_
    · rw [if_neg (by omega), List.append_assoc, List.getElem?_append_left (by simp; omega), List.getElem?_take_of_lt h1]
      simp [List.getD, hs, hi]
    · by_cases h2 : i < at_ + m
      · rw [if_pos (by omega), List.append_assoc, List.getElem?_append_right (by simp; omega), List.getElem?_append_left (by simp; omega), List.getElem?_replicate, if_pos (by simp; omega)]
      · rw [if_neg (by omega), List.getElem?_append_right (by simp; omega), List.getElem?_drop]
        rw [show at_ + m + (i - (List.take at_ ws ++ List.replicate m true).length) = i from by simp; omega]
        simp [List.getD, hs, hi]
  rw [List.getElem?_eq_getElem (by omega)] at this
  exact Option.some.inj this
set_option maxRecDepth 8000 in
set_option maxHeartbeats 4000000 in
theorem rwrite_any (F : Nat → Bool) (vd : Value) (d : AD) (s : ByteArray) (at_ : Int) (vl : Value) (m : Nat) (gs : List Int) (w : World) (hF : Foot F w.heap.size) (h : RD (mask F w) vd d) (hl : FS (mask F w) vl m gs) (hn1 : d.L.length ≤ 1000000) (ha63 : I63 at_) (_hm : (m : Int) ≤ 1000000000) (hfn : ((d.get s).n : Int) ≤ 1000000000) :
    Calls Tryz.prog 20 #[vd, .string s, .int .i64 at_, vl] w fun e w' => ∃ v', e = .returned (.tuple #[v', .int .i64 (d.writeR s at_ m gs).2]) ∧ RD (mask F w') v' (d.writeR s at_ m gs).1 ∧ Below w.heap.size w w' := by
  have hl0 := hl
  obtain ⟨a, n, cap, rfl, hn, hc1, hc2⟩ := h.agg
  have hst := St.start hF rfl h
  obtain ⟨W2, hW2⟩ : ∃ W2, (w.alloc (.cells #[.slice a n cap, .int .i64 d.cap, .int .i64 d.ops, .bool d.down, .bool d.told, .int .i64 d.after] 28)).alloc (.cells #[.slice none 0 0, .int .i64 0, .int .i64 0, .bool false, .bool false, .int .i64 0] 28) = W2 := ⟨_, rfl⟩
  rw [hW2] at hst
  have HS := Lib.hid hst
  have HN := Lib.hid hn
  obtain ⟨q0, q1, q2, q3, q4, q5⟩ := hst.d0.six
  clear hst hn h hF
  unfold I63 at ha63
  have HVL := Lib.hid ((hl0.kin (box_ext HS.out.below).kin))
  obtain ⟨al, cl, rfl, hgl, hcl, hcl2, _⟩ := hl0
  unfold AD.writeR
  by_cases hd : d.down = true
  · rw [if_pos hd]
    simp only [hd] at q3 hW2 HS ⊢
    clear hd
    go_enter Tryz.func20, Tryz.ntmps20
    go_wp2_with (first
      | (refine wpList_load_row rfl 28 _ rfl w.heap.size rfl _ _ (0, 0) _ HS.out.d0.1 Tryz.underlying28 rfl HS.out.d0.info ?_)
      | (refine wpList_store_row rfl 28 _ _ rfl (w.heap.size + 1) #[.slice a n cap, .int .i64 d.cap, .int .i64 d.ops, .bool true, .bool d.told, .int .i64 d.after] rfl rfl _ dz HS.out.d1.1 disk_info (by rfl) (by simp [Value.oneCell']) ?_))
    obtain ⟨e1, e2, e3⟩ := HS.out.done (cs' := #[.slice a n cap, .int .i64 d.cap, .int .i64 d.ops, .bool true, .bool d.told, .int .i64 d.after]) HS.out.rd rfl
    exact bodyPost_ret_by (results_row_tmp rfl _ _ (w.heap.size + 1) _ rfl (disk_load e1.1 rfl)) rfl ⟨_, rfl, e2, e3⟩
  · rw [if_neg hd]
    rw [Bool.not_eq_true] at hd
    simp only [hd] at q3 hW2 HS ⊢
    obtain ⟨i, hi⟩ : ∃ i, findI d.L s = i := ⟨_, rfl⟩
    have HFD := Lib.hid fun W (hw : RD W (.agg #[.slice a n cap, .int .i64 d.cap, .int .i64 d.ops, .bool false, .bool d.told, .int .i64 d.after]) d) => rfind_any (.agg #[.slice a n cap, .int .i64 d.cap, .int .i64 d.ops, .bool false, .bool d.told, .int .i64 d.after]) d s W hw
    rw [hi] at HFD
    have HOP := Lib.hid fun W => rop_any a n cap d W
    unfold dv at HOP
    simp only [hd] at HOP
    by_cases hh : d.has s
    · rw [if_neg (by simpa using hh)]
      have hi0 : i = (idxN d.L s : Int) := by rw [← hi]; exact d.find_has s hh
      obtain ⟨j, hj⟩ : ∃ j, idxN d.L s = j := ⟨_, rfl⟩
      have hga := d.get_at s hh
      have hgn := d.get_name s hh
      rw [hj] at hga hi0
      subst hi0
      obtain ⟨f, hf⟩ : ∃ f, d.get s = f := ⟨_, rfl⟩
      rw [hf] at hga hgn ⊢
      have hjn : j < n := by rw [← HN.out]; exact (List.getElem?_eq_some_iff.1 hga).1
      rw [hf] at hfn
      have HGA := Lib.hid hga
      have HGN := Lib.hid hgn
      clear hi hh hf hgn hga
      obtain ⟨b, off, a1, c1, a2, c2, a3, c3, rfl, k0, k1, k2, k3, f1, f2, f3⟩ := HS.out.rd.fls.form4 j f HGA.out
      have HCELL : Hid (∀ w3, Below W2.heap.size W2 w3 → w3.cell? ⟨b, off + j * 4, none⟩ = some (.string f.name) ∧ w3.cell? ⟨b, off + j * 4 + 1, none⟩ = some (.slice a1 f.n c1) ∧ w3.cell? ⟨b, off + j * 4 + 2, none⟩ = some (.slice a2 f.n c2) ∧ w3.cell? ⟨b, off + j * 4 + 3, none⟩ = some (.slice a3 f.n c3) ∧ w3.cell? ⟨w.heap.size, 0, none⟩ = some (.slice (some ⟨b, off, none⟩) n cap)) := Lib.hid fun w3 hb => by
        have hkk : Kin (mask (boxF F w) W2) w3 := (unmask _ W2).trans (Kin.below hb)
        exact ⟨hkk _ _ k0, hkk _ _ k1, hkk _ _ k2, hkk _ _ k3, (HS.out.d0.next hb).cell 0⟩
      have HF4 := Lib.hid (And.intro f1 (And.intro f2 f3))
      clear k0 k1 k2 k3 f1 f2 f3
      by_cases h1 : at_ < 0
      · rw [if_pos (.inl h1)]
        clear hd
        go_enter Tryz.func20, Tryz.ntmps20
        go_wp2_with (first
          | (refine wpList_load_row rfl 28 _ rfl w.heap.size rfl _ _ (0, 0) _ HS3f.out.d0.1 Tryz.underlying28 rfl HS3f.out.d0.info ?_)
          | (refine wpList_load_row rfl 28 _ rfl w.heap.size rfl _ _ (0, 0) _ HS.out.d0.1 Tryz.underlying28 rfl HS.out.d0.info ?_)
          | (go_at_call 35; (with_reducible refine (HFD.out _ (HS.out.rd.kin (unmask _ _))).mono ?_); rintro e w3 ⟨rfl, hb⟩; have HS3 := Lib.hid (HS.out.next hb); obtain ⟨k0, k1, k2, k3, p0⟩ := HCELL.out w3 hb; have HS3f := Lib.hid (HS3.out.next (below_alloc w3 (.cells #[.string f.name, .slice a1 f.n c1, .slice a2 f.n c2, .slice a3 f.n c3] 85))); have HB3w := Lib.hid (chain hb (below_alloc w3 (.cells #[.string f.name, .slice a1 f.n c1, .slice a2 f.n c2, .slice a3 f.n c3] 85))); have HFB3 : Hid ((w3.alloc (.cells #[.string f.name, .slice a1 f.n c1, .slice a2 f.n c2, .slice a3 f.n c3] 85)).heap[w3.heap.size]? = some (.cells #[.string f.name, .slice a1 f.n c1, .slice a2 f.n c2, .slice a3 f.n c3] 85)) := Lib.hid (heap_alloc_last w3 _); clear hb)
          | (refine wpList_store_row rfl 28 _ _ rfl (w.heap.size + 1) #[.slice (some ⟨b, off, none⟩) n cap, .int .i64 d.cap, .int .i64 d.ops, .bool false, .bool d.told, .int .i64 d.after] rfl rfl _ dz HS3f.out.d1.1 disk_info (by rfl) (by simp [Value.oneCell']) ?_))
        obtain ⟨e1, e2, e3⟩ := HS3f.out.done (cs' := #[.slice (some ⟨b, off, none⟩) n cap, .int .i64 d.cap, .int .i64 d.ops, .bool false, .bool d.told, .int .i64 d.after]) HS3f.out.rd rfl
        exact bodyPost_ret_by (results_row_tmp rfl _ _ (w.heap.size + 1) _ rfl (disk_load e1.1 rfl)) rfl ⟨_, rfl, e2, e3⟩
      by_cases h3 : (f.n : Int) < at_
      · rw [if_pos (.inr (.inl h3))]
        clear hd
        go_enter Tryz.func20, Tryz.ntmps20
        go_wp2_with (first
          | (refine wpList_load_row rfl 28 _ rfl w.heap.size rfl _ _ (0, 0) _ HS3f.out.d0.1 Tryz.underlying28 rfl HS3f.out.d0.info ?_)
          | (refine wpList_load_row rfl 28 _ rfl w.heap.size rfl _ _ (0, 0) _ HS.out.d0.1 Tryz.underlying28 rfl HS.out.d0.info ?_)
          | (go_at_call 35; (with_reducible refine (HFD.out _ (HS.out.rd.kin (unmask _ _))).mono ?_); rintro e w3 ⟨rfl, hb⟩; have HS3 := Lib.hid (HS.out.next hb); obtain ⟨k0, k1, k2, k3, p0⟩ := HCELL.out w3 hb; have HS3f := Lib.hid (HS3.out.next (below_alloc w3 (.cells #[.string f.name, .slice a1 f.n c1, .slice a2 f.n c2, .slice a3 f.n c3] 85))); have HB3w := Lib.hid (chain hb (below_alloc w3 (.cells #[.string f.name, .slice a1 f.n c1, .slice a2 f.n c2, .slice a3 f.n c3] 85))); have HFB3 : Hid ((w3.alloc (.cells #[.string f.name, .slice a1 f.n c1, .slice a2 f.n c2, .slice a3 f.n c3] 85)).heap[w3.heap.size]? = some (.cells #[.string f.name, .slice a1 f.n c1, .slice a2 f.n c2, .slice a3 f.n c3] 85)) := Lib.hid (heap_alloc_last w3 _); clear hb)
          | (refine wpList_store_row rfl 28 _ _ rfl (w.heap.size + 1) #[.slice (some ⟨b, off, none⟩) n cap, .int .i64 d.cap, .int .i64 d.ops, .bool false, .bool d.told, .int .i64 d.after] rfl rfl _ dz HS3f.out.d1.1 disk_info (by rfl) (by simp [Value.oneCell']) ?_))
        obtain ⟨e1, e2, e3⟩ := HS3f.out.done (cs' := #[.slice (some ⟨b, off, none⟩) n cap, .int .i64 d.cap, .int .i64 d.ops, .bool false, .bool d.told, .int .i64 d.after]) HS3f.out.rd rfl
        exact bodyPost_ret_by (results_row_tmp rfl _ _ (w.heap.size + 1) _ rfl (disk_load e1.1 rfl)) rfl ⟨_, rfl, e2, e3⟩
      have hsub : IntKind.i64.wrap ((f.n : Int) - at_) = (f.n : Int) - at_ := IntWalk.i64_in _ (by omega)
      by_cases h4 : (f.n : Int) - at_ < (m : Int)
      · rw [if_pos (.inr (.inr h4))]
        clear hd
        go_enter Tryz.func20, Tryz.ntmps20
        go_wp2_with (first
          | (refine wpList_load_row rfl 28 _ rfl w.heap.size rfl _ _ (0, 0) _ HS3f.out.d0.1 Tryz.underlying28 rfl HS3f.out.d0.info ?_)
          | (refine wpList_load_row rfl 28 _ rfl w.heap.size rfl _ _ (0, 0) _ HS.out.d0.1 Tryz.underlying28 rfl HS.out.d0.info ?_)
          | (go_at_call 35; (with_reducible refine (HFD.out _ (HS.out.rd.kin (unmask _ _))).mono ?_); rintro e w3 ⟨rfl, hb⟩; have HS3 := Lib.hid (HS.out.next hb); obtain ⟨k0, k1, k2, k3, p0⟩ := HCELL.out w3 hb; have HS3f := Lib.hid (HS3.out.next (below_alloc w3 (.cells #[.string f.name, .slice a1 f.n c1, .slice a2 f.n c2, .slice a3 f.n c3] 85))); have HB3w := Lib.hid (chain hb (below_alloc w3 (.cells #[.string f.name, .slice a1 f.n c1, .slice a2 f.n c2, .slice a3 f.n c3] 85))); have HFB3 : Hid ((w3.alloc (.cells #[.string f.name, .slice a1 f.n c1, .slice a2 f.n c2, .slice a3 f.n c3] 85)).heap[w3.heap.size]? = some (.cells #[.string f.name, .slice a1 f.n c1, .slice a2 f.n c2, .slice a3 f.n c3] 85)) := Lib.hid (heap_alloc_last w3 _); clear hb)
          | (refine wpList_store_row rfl 28 _ _ rfl (w.heap.size + 1) #[.slice (some ⟨b, off, none⟩) n cap, .int .i64 d.cap, .int .i64 d.ops, .bool false, .bool d.told, .int .i64 d.after] rfl rfl _ dz HS3f.out.d1.1 disk_info (by rfl) (by simp [Value.oneCell']) ?_))
        obtain ⟨e1, e2, e3⟩ := HS3f.out.done (cs' := #[.slice (some ⟨b, off, none⟩) n cap, .int .i64 d.cap, .int .i64 d.ops, .bool false, .bool d.told, .int .i64 d.after]) HS3f.out.rd rfl
        exact bodyPost_ret_by (results_row_tmp rfl _ _ (w.heap.size + 1) _ rfl (disk_load e1.1 rfl)) rfl ⟨_, rfl, e2, e3⟩
      rw [if_neg (by omega)]
      obtain ⟨A, rfl⟩ : ∃ A : Nat, at_ = (A : Int) := ⟨at_.toNat, by omega⟩
      rw [Int.toNat_natCast]
      by_cases ho : d.ope = 0
      · rw [AD.opR_done d _ ho]
        rw [ho] at HOP
        have HL2 := Lib.hid (AD.opd_L d)
        obtain ⟨d2, hd2⟩ : ∃ d2, d.opd = d2 := ⟨_, rfl⟩
        rw [hd2] at HOP HL2 ⊢
        have HLN := Lib.hid (show d2.L.length ≤ 1000000 from by rw [HL2.out]; exact hn1)
        obtain ⟨ns, hns⟩ : ∃ ns, wrS f.seen gs A m = ns := ⟨_, rfl⟩
        obtain ⟨nw, hnw⟩ : ∃ nw, wrW f.ws A m = nw := ⟨_, rfl⟩
        rw [show ({ f with seen := f.seen.take (A * 64) ++ gs ++ f.seen.drop (A * 64 + m * 64), ws := f.ws.take A ++ List.replicate m true ++ f.ws.drop (A + m) } : AF) = ⟨s, f.n, f.las, ns, nw⟩ from by rw [← HGN.out, ← hns, ← hnw]; rfl]
        have HNS := Lib.hid hns
        have HNW := Lib.hid hnw
        have HM4 := Lib.hid (show A + m ≤ f.n from by omega)
        clear ho hn1 hd2 hd hns hnw
        go_enter Tryz.func20, Tryz.ntmps20
        go_wp2_with (first
          | (refine wpList_load_row rfl 28 _ rfl w.heap.size rfl _ _ (0, 0) _ HS3f.out.d0.1 Tryz.underlying28 rfl HS3f.out.d0.info ?_)
          | (refine wpList_load_row rfl 28 _ rfl w.heap.size rfl _ _ (0, 0) _ HS.out.d0.1 Tryz.underlying28 rfl HS.out.d0.info ?_)
          | (go_at_call 35; (with_reducible refine (HFD.out _ (HS.out.rd.kin (unmask _ _))).mono ?_); rintro e w3 ⟨rfl, hb⟩; have HS3 := Lib.hid (HS.out.next hb); obtain ⟨k0, k1, k2, k3, p0⟩ := HCELL.out w3 hb; have HS3f := Lib.hid (HS3.out.next (below_alloc w3 (.cells #[.string f.name, .slice a1 f.n c1, .slice a2 f.n c2, .slice a3 f.n c3] 85))); have HB3w := Lib.hid (chain hb (below_alloc w3 (.cells #[.string f.name, .slice a1 f.n c1, .slice a2 f.n c2, .slice a3 f.n c3] 85))); have HFB3 : Hid ((w3.alloc (.cells #[.string f.name, .slice a1 f.n c1, .slice a2 f.n c2, .slice a3 f.n c3] 85)).heap[w3.heap.size]? = some (.cells #[.string f.name, .slice a1 f.n c1, .slice a2 f.n c2, .slice a3 f.n c3] 85)) := Lib.hid (heap_alloc_last w3 _); clear hb)
          | (go_at_call 50; (with_reducible refine (HOP.out _).mono ?_); rintro e w4 ⟨rfl, hb⟩; have HS4 := Lib.hid (HS3f.out.next hb); have HB4w := Lib.hid (chain HB3w.out hb); have HFB4 : Hid (w4.heap[w3.heap.size]? = some (.cells #[.string f.name, .slice a1 f.n c1, .slice a2 f.n c2, .slice a3 f.n c3] 85)) := Lib.hid ((hb.block _ (by rw [alloc_size]; omega)).trans HFB3.out); have HLT : Hid (w3.heap.size < w4.heap.size) := Lib.hid (by have h1 := hb.size; rw [alloc_size] at h1; omega); clear hb)
          | (refine wpl_store_newD rfl _ _ rfl rfl w4.heap.size rfl #[.slice (some ⟨b, off, none⟩) n cap, .int .i64 d2.cap, .int .i64 d2.ops, .bool d2.down, .bool d2.told, .int .i64 d2.after] rfl (by simp [Value.oneCell']) rfl rfl ?_; intro w5 HX5 hb5; have HS5 := Lib.hid (HS4.out.next hb5.out); have HB5w := Lib.hid (chain HB4w.out hb5.out); have HLT5 : Hid (w3.heap.size < w5.heap.size) := Lib.hid (Nat.lt_of_lt_of_le HLT.out hb5.out.size); have HFB5 : Hid (w5.heap[w3.heap.size]? = some (.cells #[.string f.name, .slice a1 f.n c1, .slice a2 f.n c2, .slice a3 f.n c3] 85)) := Lib.hid ((hb5.out.block _ HLT.out).trans HFB4.out); clear hb5)
          | (refine wpList_load_row rfl 28 _ rfl w4.heap.size rfl _ _ (0, 0) _ HX5.out.1 Tryz.underlying28 rfl HX5.out.info ?_))
        have hsl : f.seen.length = f.n * 64 := HF4.out.2.1.length
        have hwl : f.ws.length = f.n := HF4.out.2.2.length
        have HSL := Lib.hid hsl
        have HWL := Lib.hid hwl
        have HGL := Lib.hid hgl
        have HFCELL : Hid (∀ wx, Below w5.heap.size w5 wx → wx.cell? ⟨w3.heap.size, 0, none⟩ = some (.string f.name) ∧ wx.cell? ⟨w3.heap.size, 1, none⟩ = some (.slice a1 f.n c1) ∧ wx.cell? ⟨w3.heap.size, 2, none⟩ = some (.slice a2 f.n c2) ∧ wx.cell? ⟨w3.heap.size, 3, none⟩ = some (.slice a3 f.n c3)) := Lib.hid fun wx hb => by
          have hc := fun q => cell_of_row wx w3.heap.size q _ _ _ ((hb.block _ HLT5.out).trans HFB5.out)
          exact ⟨hc 0, hc 1, hc 2, hc 3⟩
        clear hsl hwl
        go_loopw [14, 15, 16] (fun sv_ bv_ iv wr => ∃ i : Nat, iv = .int .i64 i ∧ i ≤ f.n ∧ Hid (wr.ownsRow w5.heap.size 63 64 sv_ i (il .u8 (ns.take (i * 64)))) ∧ Hid (wr.ownsRow w5.heap.size 4 1 bv_ i ((nw.take i).map .bool)) ∧ Hid (Below w5.heap.size w5 wr)) (fun _ _ iv _ => f.n - (intOf iv).toNat)
        case atStart => exact ⟨0, rfl, by omega, Lib.hid (by rw [Nat.zero_mul, List.take_zero]; exact World.ownsRow_nil _ _ _ _), Lib.hid (by rw [List.take_zero]; exact World.ownsRow_nil _ _ _ _), Lib.hid (Below.refl _ _)⟩
        case round =>
          obtain ⟨i, rfl, hi, HO, HOB, HB⟩ := hrel
          obtain ⟨y0, y1, y2, y3⟩ := HFCELL.out wr HB.out
          by_cases hlt : (i : Int) < (f.n : Int)
          · have hin : i < f.n := by omega
            have HS1 := Lib.hid (wrS_step f.seen gs A m f.n i HSL.out HGL.out HM4.out)
            have HW1 := Lib.hid (wrW_step f.ws A m f.n i HWL.out HM4.out hin)
            rw [HNS.out] at HS1
            rw [HNW.out] at HW1
            by_cases hc : A ≤ i ∧ i - A < m
            · obtain ⟨p, hp⟩ : ∃ p, i - A = p := ⟨_, rfl⟩
              have hpi : (i : Int) - (A : Int) = (p : Int) := by omega
              have hpw : IntKind.i64.wrap (p : Int) = (p : Int) := IntWalk.i64_in _ (by omega)
              have hAi : (A : Int) ≤ (i : Int) := by omega
              have hpm : (p : Int) < (m : Int) := by omega
              obtain ⟨bl, ol, rfl, hat⟩ := (HVL.out.kin ((unmask _ _).trans (Kin.below (chain HB5w.out HB.out)))).at_ p (by omega)
              rw [if_pos hc, hp] at HS1
              rw [if_pos hc] at HW1
              obtain ⟨z, hz⟩ : ∃ z, (gs.drop (p * 64)).take 64 = z := ⟨_, rfl⟩
              rw [hz] at hat HS1
              have HA := Lib.hid hat
              clear hat hz hc hp hin
              go_wp2_with (first
                | (refine wpl_load_at rfl _ rfl bl (ol + p * 64) rfl z HA.out ?_)
                | (refine wpl_build_sec rfl (.tmp 84) rfl z HA.out.1 rfl ?_)
                | (at_builtin; (refine wpl_app_fs rfl (.tmp 78) (.tmp 85) rfl w5.heap.size u14 i _ rfl (Lib.hid (own_keep HO.out (below_alloc _ _))) _ 1 z rfl (Lib.hid (FS.blk (Blk.new wr z HA.out.1))) (by omega) w5.heap.size w5 (Lib.hid (HB.out.alloc HB.out.size _)) (Nat.le_refl _) (by rw [alloc_size]; have := HB.out.size; omega) ?_); intro v6 w6 HO6 HB6 HG6; (have HX1 := own_keep HOB.out (below_alloc wr (.cells (sv z) 63)); have HX2 := own_keep HO.out (below_alloc wr (.cells (sv z) 63)); have HOB6 := Lib.hid (own_over HX1 HG6.out (own_types HX1 HX2 (by decide))); clear HX1 HX2))
                | (at_builtin; refine wpl_app_bool rfl (.tmp 87) (.tmp 88) rfl w5.heap.size u15 i _ rfl (Lib.hid (own_keep HOB6.out (below_alloc _ _))) w6.heap.size true rfl (alloc_cell _ _ _) (by omega) w5.heap.size w5 (Lib.hid (HB6.out.alloc HB6.out.size _)) (Nat.le_refl _) (by rw [alloc_size]; have := HB6.out.size; omega) ?_; intro v7 w7 HOB7 HB7 HG7; (have HX1 := own_keep HOB6.out (below_alloc w6 (.cells #[.bool true] 4)); have HX2 := own_keep HO6.out (below_alloc w6 (.cells #[.bool true] 4)); have HO7 := Lib.hid (own_over HX2 HG7.out (own_types HX2 HX1 (by decide))); clear HX1 HX2)))
              go_roundw
              case rel => exact ⟨i + 1, by go_num, by omega, Lib.hid (by rw [HS1.out]; exact HO7.out), Lib.hid (by rw [HW1.out]; exact HOB7.out), HB7⟩
              case measure => simp [intOf]; omega
            · obtain ⟨b2, o2, e2, hat⟩ := (HF4.out.2.1.kin ((unmask _ _).trans (Kin.below (chain HB5w.out HB.out)))).at_ i hin
              obtain ⟨b3, o3, e3, hbw⟩ := (HF4.out.2.2.kin ((unmask _ _).trans (Kin.below (chain HB5w.out HB.out)))).at_ i hin
              rw [e2] at y2
              rw [e3] at y3
              have HC3 : Hid (∀ wx, Below w5.heap.size w5 wx → wx.cell? ⟨w3.heap.size, 3, none⟩ = some (.slice (some ⟨b3, o3, none⟩) f.n c3) ∧ wx.cell? ⟨b3, o3 + i, none⟩ = some (.bool (f.ws.getD i false))) := Lib.hid fun wx hb => by
                obtain ⟨_, _, _, z3⟩ := HFCELL.out wx hb
                rw [e3] at z3
                have hk := (HF4.out.2.2.kin ((unmask _ _).trans (Kin.below (chain HB5w.out hb))))
                rw [e3] at hk
                obtain ⟨b4, o4, e4, hb4⟩ := hk.at_ i hin
                simp only [Option.some.injEq, Addr.mk.injEq, and_true] at e4
                obtain ⟨rfl, rfl⟩ := e4
                exact ⟨z3, hb4⟩
              rw [if_neg hc] at HS1
              rw [if_neg hc] at HW1
              obtain ⟨z, hz⟩ : ∃ z, (f.seen.drop (i * 64)).take 64 = z := ⟨_, rfl⟩
              obtain ⟨y, hy⟩ : ∃ y, f.ws.getD i false = y := ⟨_, rfl⟩
              rw [hz] at hat HS1
              rw [hy] at hbw HC3 HW1
              have HA := Lib.hid hat
              clear hat hz hy e2 e3
              by_cases hAi : (A : Int) ≤ (i : Int)
              · obtain ⟨p, hp⟩ : ∃ p, i - A = p := ⟨_, rfl⟩
                have hpi : (i : Int) - (A : Int) = (p : Int) := by omega
                have hpw : IntKind.i64.wrap (p : Int) = (p : Int) := IntWalk.i64_in _ (by omega)
                have hpm : ¬ (p : Int) < (m : Int) := by omega
                clear hc hp hin
                go_wp2_with (first
                  | (refine wpl_load_at rfl _ rfl b2 (o2 + i * 64) rfl z HA.out ?_)
                  | (refine wpl_build_sec rfl (.tmp 95) rfl z HA.out.1 rfl ?_)
                  | (at_builtin; (refine wpl_app_fs rfl (.tmp 90) (.tmp 96) rfl w5.heap.size u14 i _ rfl (Lib.hid (own_keep HO.out (below_alloc _ _))) _ 1 z rfl (Lib.hid (FS.blk (Blk.new wr z HA.out.1))) (by omega) w5.heap.size w5 (Lib.hid (HB.out.alloc HB.out.size _)) (Nat.le_refl _) (by rw [alloc_size]; have := HB.out.size; omega) ?_); intro v6 w6 HO6 HB6 HG6; (have HX1 := own_keep HOB.out (below_alloc wr (.cells (sv z) 63)); have HX2 := own_keep HO.out (below_alloc wr (.cells (sv z) 63)); have HOB6 := Lib.hid (own_over HX1 HG6.out (own_types HX1 HX2 (by decide))); clear HX1 HX2; obtain ⟨x3, x4⟩ := HC3.out w6 HB6.out))
                  | (at_builtin; (refine wpl_app_bool rfl (.tmp 98) (.tmp 104) rfl w5.heap.size u15 i _ rfl (Lib.hid (own_keep HOB6.out (below_alloc _ _))) w6.heap.size y rfl (alloc_cell _ _ _) (by omega) w5.heap.size w5 (Lib.hid (HB6.out.alloc HB6.out.size _)) (Nat.le_refl _) (by rw [alloc_size]; have := HB6.out.size; omega) ?_); intro v7 w7 HOB7 HB7 HG7; (have HX1 := own_keep HOB6.out (below_alloc w6 (.cells #[.bool y] 4)); have HX2 := own_keep HO6.out (below_alloc w6 (.cells #[.bool y] 4)); have HO7 := Lib.hid (own_over HX2 HG7.out (own_types HX2 HX1 (by decide))); clear HX1 HX2)))
                go_roundw
                case rel => exact ⟨i + 1, by go_num, by omega, Lib.hid (by rw [HS1.out]; exact HO7.out), Lib.hid (by rw [HW1.out]; exact HOB7.out), HB7⟩
                case measure => simp [intOf]; omega
              · clear hc hin
                go_wp2_with (first
                  | (refine wpl_load_at rfl _ rfl b2 (o2 + i * 64) rfl z HA.out ?_)
                  | (refine wpl_build_sec rfl (.tmp 95) rfl z HA.out.1 rfl ?_)
                  | (at_builtin; (refine wpl_app_fs rfl (.tmp 90) (.tmp 96) rfl w5.heap.size u14 i _ rfl (Lib.hid (own_keep HO.out (below_alloc _ _))) _ 1 z rfl (Lib.hid (FS.blk (Blk.new wr z HA.out.1))) (by omega) w5.heap.size w5 (Lib.hid (HB.out.alloc HB.out.size _)) (Nat.le_refl _) (by rw [alloc_size]; have := HB.out.size; omega) ?_); intro v6 w6 HO6 HB6 HG6; (have HX1 := own_keep HOB.out (below_alloc wr (.cells (sv z) 63)); have HX2 := own_keep HO.out (below_alloc wr (.cells (sv z) 63)); have HOB6 := Lib.hid (own_over HX1 HG6.out (own_types HX1 HX2 (by decide))); clear HX1 HX2; obtain ⟨x3, x4⟩ := HC3.out w6 HB6.out))
                  | (at_builtin; (refine wpl_app_bool rfl (.tmp 98) (.tmp 104) rfl w5.heap.size u15 i _ rfl (Lib.hid (own_keep HOB6.out (below_alloc _ _))) w6.heap.size y rfl (alloc_cell _ _ _) (by omega) w5.heap.size w5 (Lib.hid (HB6.out.alloc HB6.out.size _)) (Nat.le_refl _) (by rw [alloc_size]; have := HB6.out.size; omega) ?_); intro v7 w7 HOB7 HB7 HG7; (have HX1 := own_keep HOB6.out (below_alloc w6 (.cells #[.bool y] 4)); have HX2 := own_keep HO6.out (below_alloc w6 (.cells #[.bool y] 4)); have HO7 := Lib.hid (own_over HX2 HG7.out (own_types HX2 HX1 (by decide))); clear HX1 HX2)))
                go_roundw
                case rel => exact ⟨i + 1, by go_num, by omega, Lib.hid (by rw [HS1.out]; exact HO7.out), Lib.hid (by rw [HW1.out]; exact HOB7.out), HB7⟩
                case measure => simp [intOf]; omega
          · have hq : i = f.n := by omega
            obtain ⟨nn, hnn⟩ : ∃ nn, f.n = nn := ⟨_, rfl⟩
            have hall : ns.take (i * 64) = ns := List.take_of_length_le (by rw [← HNS.out, hq]; exact Nat.le_of_eq (wrS_length f.seen gs A m f.n HSL.out HGL.out HM4.out))
            have hallw : nw.take i = nw := List.take_of_length_le (by rw [← HNW.out, hq]; exact Nat.le_of_eq (wrW_length f.ws A m f.n HWL.out HM4.out))
            rw [hall] at HO
            rw [hallw] at HOB
            rw [hq] at HO HOB hlt ⊢
            obtain ⟨a8, c8, rfl⟩ := own_slice HO.out
            obtain ⟨a9, c9, rfl⟩ := own_slice HOB.out
            have HS6 := Lib.hid (HS5.out.next HB.out)
            have HX6 := Lib.hid (HX5.out.next HB.out)
            have HRF := Lib.hid (show RF (mask (boxF F w) wr) [.string s, .slice a1 f.n c1, .slice a8 f.n c8, .slice a9 f.n c9] ⟨s, f.n, f.las, ns, nw⟩ from ⟨_, _, _, rfl, HF4.out.1.kin (kin_mask (chain HB5w.out HB.out)), FS.own (own_mask HS5.out.foot HO.out), CS.own (own_mask HS5.out.foot HOB.out)⟩)
            clear hall hallw hnn hq
            go_wp2_with (first
              | (refine wpList_load_row rfl 28 _ rfl w4.heap.size rfl _ _ (0, 0) _ HX6.out.1 Tryz.underlying28 rfl HX6.out.info ?_)
              | (go_at_call 51; (refine (rwith_any (boxF F w) _ d2 a1 c1 a8 c8 a9 c9 ⟨s, f.n, f.las, ns, nw⟩ _ HS6.out.foot (HS6.out.rd.re HL2.out) HRF.out HLN.out).mono ?_); rintro e w8 ⟨v8, rfl, hr8, hb⟩; have HS8 := Lib.hid (HS6.out.next hb); obtain ⟨a7, n7, c7, rfl, _⟩ := hr8.agg; have HR8 := Lib.hid hr8)
              | (refine wpList_store_row rfl 28 _ _ rfl (w.heap.size + 1) #[.slice a7 n7 c7, .int .i64 (d2.withF ⟨s, f.n, f.las, ns, nw⟩).cap, .int .i64 (d2.withF ⟨s, f.n, f.las, ns, nw⟩).ops, .bool (d2.withF ⟨s, f.n, f.las, ns, nw⟩).down, .bool (d2.withF ⟨s, f.n, f.las, ns, nw⟩).told, .int .i64 (d2.withF ⟨s, f.n, f.las, ns, nw⟩).after] rfl rfl _ dz HS8.out.d1.1 disk_info (by rfl) (by simp [Value.oneCell']) ?_))
            obtain ⟨e1, e2, e3⟩ := HS8.out.done (cs' := #[.slice a7 n7 c7, .int .i64 (d2.withF ⟨s, f.n, f.las, ns, nw⟩).cap, .int .i64 (d2.withF ⟨s, f.n, f.las, ns, nw⟩).ops, .bool (d2.withF ⟨s, f.n, f.las, ns, nw⟩).down, .bool (d2.withF ⟨s, f.n, f.las, ns, nw⟩).told, .int .i64 (d2.withF ⟨s, f.n, f.las, ns, nw⟩).after]) HR8.out rfl
            exact bodyPost_ret_by (results_row_tmp rfl _ _ (w.heap.size + 1) _ rfl (disk_load e1.1 rfl)) rfl ⟨_, rfl, e2, e3⟩
      · rw [AD.opR_not d _ ho]
        have h9 : d.ope = 9 := d.ope_or.resolve_left ho
        rw [h9] at HOP
        have HL2 := Lib.hid (AD.opd_L d)
        obtain ⟨d2, hd2⟩ : ∃ d2, d.opd = d2 := ⟨_, rfl⟩
        rw [hd2] at HOP HL2 ⊢
        have HLN := Lib.hid (show d2.L.length ≤ 1000000 from by rw [HL2.out]; exact hn1)
        clear ho hn1 hd2 hd h9
        go_enter Tryz.func20, Tryz.ntmps20
        go_wp2_with (first
          | (refine wpList_load_row rfl 28 _ rfl w.heap.size rfl _ _ (0, 0) _ HS3f.out.d0.1 Tryz.underlying28 rfl HS3f.out.d0.info ?_)
          | (refine wpList_load_row rfl 28 _ rfl w.heap.size rfl _ _ (0, 0) _ HS.out.d0.1 Tryz.underlying28 rfl HS.out.d0.info ?_)
          | (go_at_call 35; (with_reducible refine (HFD.out _ (HS.out.rd.kin (unmask _ _))).mono ?_); rintro e w3 ⟨rfl, hb⟩; have HS3 := Lib.hid (HS.out.next hb); obtain ⟨k0, k1, k2, k3, p0⟩ := HCELL.out w3 hb; have HS3f := Lib.hid (HS3.out.next (below_alloc w3 (.cells #[.string f.name, .slice a1 f.n c1, .slice a2 f.n c2, .slice a3 f.n c3] 85))); have HB3w := Lib.hid (chain hb (below_alloc w3 (.cells #[.string f.name, .slice a1 f.n c1, .slice a2 f.n c2, .slice a3 f.n c3] 85))); have HFB3 : Hid ((w3.alloc (.cells #[.string f.name, .slice a1 f.n c1, .slice a2 f.n c2, .slice a3 f.n c3] 85)).heap[w3.heap.size]? = some (.cells #[.string f.name, .slice a1 f.n c1, .slice a2 f.n c2, .slice a3 f.n c3] 85)) := Lib.hid (heap_alloc_last w3 _); clear hb)
          | (go_at_call 50; (with_reducible refine (HOP.out _).mono ?_); rintro e w4 ⟨rfl, hb⟩; have HS4 := Lib.hid (HS3f.out.next hb); clear hb)
          | (refine wpl_store_newD rfl _ _ rfl rfl w4.heap.size rfl #[.slice (some ⟨b, off, none⟩) n cap, .int .i64 d2.cap, .int .i64 d2.ops, .bool d2.down, .bool d2.told, .int .i64 d2.after] rfl (by simp [Value.oneCell']) rfl rfl ?_; intro w5 HX5 hb5; have HS5 := Lib.hid (HS4.out.next hb5.out); clear hb5)
          | (refine wpList_load_row rfl 28 _ rfl w4.heap.size rfl _ _ (0, 0) _ HX5.out.1 Tryz.underlying28 rfl HX5.out.info ?_)
          | (refine wpList_store_row rfl 28 _ _ rfl (w.heap.size + 1) #[.slice (some ⟨b, off, none⟩) n cap, .int .i64 d2.cap, .int .i64 d2.ops, .bool d2.down, .bool d2.told, .int .i64 d2.after] rfl rfl _ dz HS5.out.d1.1 disk_info (by rfl) (by simp [Value.oneCell']) ?_))
        obtain ⟨e1, e2, e3⟩ := HS5.out.done (cs' := #[.slice (some ⟨b, off, none⟩) n cap, .int .i64 d2.cap, .int .i64 d2.ops, .bool d2.down, .bool d2.told, .int .i64 d2.after]) (HS5.out.rd.re HL2.out) rfl
        exact bodyPost_ret_by (results_row_tmp rfl _ _ (w.heap.size + 1) _ rfl (disk_load e1.1 rfl)) rfl ⟨_, rfl, e2, e3⟩
    · rw [if_pos (by simpa using hh)]
      have hi0 : i < 0 := by rw [← hi, AD.find_neg]; exact hh
      clear hi hh hd
      go_enter Tryz.func20, Tryz.ntmps20
      go_wp2_with (first
        | (refine wpList_load_row rfl 28 _ rfl w.heap.size rfl _ _ (0, 0) _ HS3.out.d0.1 Tryz.underlying28 rfl HS3.out.d0.info ?_)
        | (refine wpList_load_row rfl 28 _ rfl w.heap.size rfl _ _ (0, 0) _ HS.out.d0.1 Tryz.underlying28 rfl HS.out.d0.info ?_)
        | (go_at_call 35; (with_reducible refine (HFD.out _ (HS.out.rd.kin (unmask _ _))).mono ?_); rintro e w3 ⟨rfl, hb⟩; have HS3 := Lib.hid (HS.out.next hb); clear hb)
        | (refine wpList_store_row rfl 28 _ _ rfl (w.heap.size + 1) #[.slice a n cap, .int .i64 d.cap, .int .i64 d.ops, .bool false, .bool d.told, .int .i64 d.after] rfl rfl _ dz HS3.out.d1.1 disk_info (by rfl) (by simp [Value.oneCell']) ?_))
      obtain ⟨e1, e2, e3⟩ := HS3.out.done (cs' := #[.slice a n cap, .int .i64 d.cap, .int .i64 d.ops, .bool false, .bool d.told, .int .i64 d.after]) HS3.out.rd rfl
      exact bodyPost_ret_by (results_row_tmp rfl _ _ (w.heap.size + 1) _ rfl (disk_load e1.1 rfl)) rfl ⟨_, rfl, e2, e3⟩
end Go.Proofs.YtpoiapfgbbmekaaGreatDoor
namespace Go.Proofs.YtpoiapfgbbmekaaGreatDoor
open Go.RowKit
def boxH (F : Nat → Bool) (w : World) : Nat → Bool := plusF F w.heap.size (w.heap.size + 3)
structure SH (F : Nat → Bool) (w : World) (cs : Array Value) (d : AD) (x : Hdr) (W : World) : Prop where
  below : Below w.heap.size w W
  size : w.heap.size + 3 ≤ W.heap.size
  d0 : DB W w.heap.size cs
  hb : HB W (w.heap.size + 1) x
  d2 : DB W (w.heap.size + 2) dz
  foot : Foot (boxH F w) W.heap.size
  rd : RD (mask (boxH F w) W) (.agg cs) d
theorem SH.next {F : Nat → Bool} {w W W' : World} {cs : Array Value} {d : AD} {x : Hdr} (h : SH F w cs d x W) (hb : Below W.heap.size W W') : SH F w cs d x W' :=
  ⟨chain h.below hb, Nat.le_trans h.size hb.size, h.d0.below hb (by have := h.size; omega), h.hb.keep hb, h.d2.below hb (by have := h.size; omega), h.foot.mono hb.size, h.rd.kin (kin_mask hb)⟩
theorem boxH_ext {F : Nat → Bool} {w W : World} (h : Below w.heap.size w W) : Ext F w W (boxH F w) :=
  ⟨h.os, h.tape, h.output, h.size, fun k hk _ => h.block k hk, fun k hk => by simp [boxH, plusF]; intro h1; omega⟩
theorem boxH_foot {F : Nat → Bool} {w : World} (h : Foot F w.heap.size) : Foot (boxH F w) (w.heap.size + 3) := plusF_foot h (by omega)
theorem boxH_sub (F : Nat → Bool) (w : World) (k : Nat) (h : F k = true) : boxH F w k = true := plusF_mono F _ _ k h
theorem boxH_in (F : Nat → Bool) (w : World) (j : Nat) (h : j < 3) : boxH F w (w.heap.size + j) = true := plusF_in F _ _ _ (by omega) (by omega)
theorem SH.start {F : Nat → Bool} {w : World} {cs : Array Value} {d : AD} (x : Hdr) (hn : x.l.length = 4) (hF : Foot F w.heap.size) (h6 : cs.size = 6) (h : RD (mask F w) (.agg cs) d) :
    SH F w cs d x (((w.alloc (.cells cs 28)).alloc (.cells (hv x) 34)).alloc (.cells #[.slice none 0 0, .int .i64 0, .int .i64 0, .bool false, .bool false, .int .i64 0] 28)) := by
  have hb0 := below_alloc w (.cells cs 28)
  have hb1 := below_alloc (w.alloc (.cells cs 28)) (.cells (hv x) 34)
  have hb2 := below_alloc ((w.alloc (.cells cs 28)).alloc (.cells (hv x) 34)) (.cells dz 28)
  have hs : (((w.alloc (.cells cs 28)).alloc (.cells (hv x) 34)).alloc (.cells dz 28)).heap.size = w.heap.size + 3 := by rw [alloc_size, alloc_size, alloc_size]
  have hb := chain hb0 (chain hb1 hb2)
  refine ⟨hb, Nat.le_of_eq hs.symm, ?_, ?_, ?_, (boxH_foot hF).mono (Nat.le_of_eq hs.symm), h.kin (boxH_ext hb).kin⟩
  · exact ((show DB (w.alloc (.cells cs 28)) w.heap.size cs from ⟨heap_alloc_last w _, h6⟩).below hb1 (by rw [alloc_size]; omega)).below hb2 (by rw [alloc_size, alloc_size]; omega)
  · have := (HB.new (w.alloc (.cells cs 28)) x hn).keep hb2
    rwa [alloc_size] at this
  · have := heap_alloc_last ((w.alloc (.cells cs 28)).alloc (.cells (hv x) 34)) (.cells dz 28)
    rw [alloc_size, alloc_size] at this
    exact ⟨this, rfl⟩
theorem SH.done {F : Nat → Bool} {w W : World} {cs : Array Value} {d : AD} {x : Hdr} (h : SH F w cs d x W) {cs' : Array Value} {d' : AD} (hr : RD (mask (boxH F w) W) (.agg cs') d') (h6 : cs'.size = 6) :
    DB (W.setRow (w.heap.size + 2) cs') (w.heap.size + 2) cs' ∧ RD (mask F (W.setRow (w.heap.size + 2) cs')) (.agg cs') d' ∧ Below w.heap.size w (W.setRow (w.heap.size + 2) cs') :=
  ⟨h.d2.row h6, (hr.kin ((Ext.refl (boxH F w) W).setRow _ (boxH_in F w 2 (by omega)) _).kin).kin (mask_mono (boxH_sub F w) _), below_row h.below (by omega) _⟩
theorem SH.put {F : Nat → Bool} {w W : World} {cs cs' : Array Value} {d d' : AD} {x : Hdr} (h : SH F w cs d x W) (hr : RD (mask (boxH F w) W) (.agg cs') d') (h6 : cs'.size = 6) : SH F w cs' d' x (W.setRow w.heap.size cs') := by
  have hs : (W.setRow w.heap.size cs').heap.size = W.heap.size := by simp
  exact ⟨below_row h.below (Nat.le_refl _) _, by rw [hs]; exact h.size, h.d0.row h6, h.hb.apart (by omega) _, h.d2.over _ (by omega) _, by rw [hs]; exact h.foot, hr.kin ((Ext.refl (boxH F w) W).setRow _ (boxH_in F w 0 (by omega)) _).kin⟩
theorem own_blk {w : World} {g base : Nat} {z : List Int} (h : Blk w g z) (hb : base ≤ g) : w.ownsRow base 63 64 (.slice (some ⟨g, 0, none⟩) 1 1) 1 (il .u8 z) :=
  ⟨by rw [il_length, h.2], .inr ⟨g, 1, sv z, rfl, hb, h.1, Nat.le_refl _, by unfold maxLen; omega, by rw [sv_size, h.2], by rw [Nat.one_mul]; exact List.take_of_length_le (by show (il .u8 z).length ≤ 64; rw [il_length, h.2]; exact Nat.le_refl _)⟩⟩
def lenW : Value → Nat
  | .slice _ n _ => n
  | _ => 0
theorem lay_more {x : Hdr} {fs : List Int} {m k : Nat} (h : 1 + m ≤ k) : secH x ++ fs ++ List.replicate ((k - 1 - m) * 64) 0 ++ z64 = secH x ++ fs ++ List.replicate ((k + 1 - 1 - m) * 64) 0 := by
  rw [List.append_assoc (secH x ++ fs), z64, List.replicate_append_replicate, show (k - 1 - m) * 64 + 64 = (k + 1 - 1 - m) * 64 by omega]
theorem rhright_of {x : Hdr} (hx : HdT x) {b : Bool} (hk : hdOk x = b) : Hid (∀ w, Calls Tryz.prog 34 #[.agg (hv x)] w fun e w' => e = .returned (.bool b) ∧ Below w.heap.size w w') := Lib.hid fun w => by rw [← hk]; exact hrright_any x hx w
set_option maxRecDepth 8000 in
set_option maxHeartbeats 4000000 in
theorem rprep_any (F : Nat → Bool) (vd : Value) (d : AD) (s : ByteArray) (x : Hdr) (v : Value) (m : Nat) (fs : List Int) (w : World) (hF : Foot F w.heap.size) (h : RD (mask F w) vd d) (hg : Good d) (hx : HdT x) (hf : FS w v m fs) (hm : m ≤ 1000000) (hbf : Bytes fs) :
    Calls Tryz.prog 12 #[vd, .string s, .agg (hv x), v] w fun e w' => ∃ v', e = .returned (.tuple #[v', .int .i64 (d.prepR s x m fs).2]) ∧ RD (mask F w') v' (d.prepR s x m fs).1 ∧ Below w.heap.size w w' := by
  obtain ⟨a, n, cap, rfl, hn, hc1, hc2⟩ := h.agg
  have hst := SH.start x hx.n hF rfl h
  obtain ⟨W2, hW2⟩ : ∃ W2, ((w.alloc (.cells #[.slice a n cap, .int .i64 d.cap, .int .i64 d.ops, .bool d.down, .bool d.told, .int .i64 d.after] 28)).alloc (.cells (hv x) 34)).alloc (.cells #[.slice none 0 0, .int .i64 0, .int .i64 0, .bool false, .bool false, .int .i64 0] 28) = W2 := ⟨_, rfl⟩
  rw [hW2] at hst
  have HS := Lib.hid hst
  have HSZ := Lib.hid (show W2.heap.size = w.heap.size + 3 from by rw [← hW2, alloc_size, alloc_size, alloc_size])
  obtain ⟨q0, q1, q2, q3, q4, q5⟩ := hst.d0.six
  obtain ⟨av, cv, rfl, hfl, _, _, _, _⟩ := id hf
  have HF := Lib.hid (hf.keep hst.below)
  have HXN := Lib.hid hx.n
  clear hst
  unfold AD.prepR
  by_cases hk : hdOk x = false ∨ 16 < m
  · rw [if_pos hk]
    cases hok : hdOk x with
    | false =>
      have HRT := rhright_of hx hok
      clear hg hx hf h hn hk
      focus
        go_enter Tryz.func12, Tryz.ntmps12
        go_wp2_with (first
          | (refine wpl_load_hd (by rfl) (.tmp 6) rfl rfl HS.out.hb ?_)
          | (refine wpl_load_dbP (by rfl) _ rfl w.heap.size rfl _ HS1.out.d0 ?_)
          | (go_at_call 34; (with_reducible refine (HRT.out _).mono ?_); rintro e w1 ⟨rfl, hb⟩; have HS1 := Lib.hid (HS.out.next hb); have HB1 := Lib.hid hb; obtain ⟨r0, r1, r2, r3, r4, r5⟩ := HS1.out.d0.six; clear hb q0 q1 q2 q3 q4 q5)
          | (refine wpList_store_row rfl 28 _ _ rfl (w.heap.size + 2) #[.slice a n cap, .int .i64 d.cap, .int .i64 d.ops, .bool d.down, .bool d.told, .int .i64 d.after] rfl rfl _ dz HS1.out.d2.1 disk_info (by rfl) (by simp [Value.oneCell']) ?_))
        obtain ⟨e1, e2, e3⟩ := HS1.out.done (cs' := #[.slice a n cap, .int .i64 d.cap, .int .i64 d.ops, .bool d.down, .bool d.told, .int .i64 d.after]) HS1.out.rd rfl
        exact bodyPost_ret_by (results_row_tmp rfl _ _ (w.heap.size + 2) _ rfl (disk_load e1.1 rfl)) rfl ⟨_, rfl, e2, e3⟩
    | true =>
      have hm16 : (16 : Int) < (m : Int) := by
        rcases hk with hk | hk
        · rw [hok] at hk; simp at hk
        · omega
      have HRT := rhright_of hx hok
      clear hg hx hf h hn hk
      focus
        go_enter Tryz.func12, Tryz.ntmps12
        go_wp2_with (first
          | (refine wpl_load_hd (by rfl) (.tmp 6) rfl rfl HS.out.hb ?_)
          | (refine wpl_load_dbP (by rfl) _ rfl w.heap.size rfl _ HS1.out.d0 ?_)
          | (go_at_call 34; (with_reducible refine (HRT.out _).mono ?_); rintro e w1 ⟨rfl, hb⟩; have HS1 := Lib.hid (HS.out.next hb); have HB1 := Lib.hid hb; obtain ⟨r0, r1, r2, r3, r4, r5⟩ := HS1.out.d0.six; clear hb q0 q1 q2 q3 q4 q5)
          | (refine wpList_store_row rfl 28 _ _ rfl (w.heap.size + 2) #[.slice a n cap, .int .i64 d.cap, .int .i64 d.ops, .bool d.down, .bool d.told, .int .i64 d.after] rfl rfl _ dz HS1.out.d2.1 disk_info (by rfl) (by simp [Value.oneCell']) ?_))
        obtain ⟨e1, e2, e3⟩ := HS1.out.done (cs' := #[.slice a n cap, .int .i64 d.cap, .int .i64 d.ops, .bool d.down, .bool d.told, .int .i64 d.after]) HS1.out.rd rfl
        exact bodyPost_ret_by (results_row_tmp rfl _ _ (w.heap.size + 2) _ rfl (disk_load e1.1 rfl)) rfl ⟨_, rfl, e2, e3⟩
  rw [if_neg hk]
  have hm16 : ¬ (16 : Int) < (m : Int) := by omega
  have hok : hdOk x = true := by
    cases hq : hdOk x with
    | true => rfl
    | false => exact absurd (.inl hq) hk
  have HRT := rhright_of hx hok
  by_cases hd : d.down = true
  · rw [if_pos hd]
    simp only [hd] at q3 hW2 HS ⊢
    clear hg hx hf h hn hk hd
    focus
      go_enter Tryz.func12, Tryz.ntmps12
      go_wp2_with (first
        | (refine wpl_load_hd (by rfl) (.tmp 6) rfl rfl HS.out.hb ?_)
        | (refine wpl_load_dbP (by rfl) _ rfl w.heap.size rfl _ HS1.out.d0 ?_)
        | (go_at_call 34; (with_reducible refine (HRT.out _).mono ?_); rintro e w1 ⟨rfl, hb⟩; have HS1 := Lib.hid (HS.out.next hb); have HB1 := Lib.hid hb; obtain ⟨r0, r1, r2, r3, r4, r5⟩ := HS1.out.d0.six; clear hb q0 q1 q2 q3 q4 q5)
        | (refine wpList_store_row rfl 28 _ _ rfl (w.heap.size + 2) #[.slice a n cap, .int .i64 d.cap, .int .i64 d.ops, .bool true, .bool d.told, .int .i64 d.after] rfl rfl _ dz HS1.out.d2.1 disk_info (by rfl) (by simp [Value.oneCell']) ?_))
      obtain ⟨e1, e2, e3⟩ := HS1.out.done (cs' := #[.slice a n cap, .int .i64 d.cap, .int .i64 d.ops, .bool true, .bool d.told, .int .i64 d.after]) HS1.out.rd rfl
      exact bodyPost_ret_by (results_row_tmp rfl _ _ (w.heap.size + 2) _ rfl (disk_load e1.1 rfl)) rfl ⟨_, rfl, e2, e3⟩
  rw [if_neg hd]
  rw [Bool.not_eq_true] at hd
  simp only [hd] at q3 hW2 HS ⊢
  obtain ⟨i, hi⟩ : ∃ i, findI d.L s = i := ⟨_, rfl⟩
  have HFD := rfind_of hi
  by_cases hh : d.has s
  · rw [if_neg (Decidable.not_not.2 hh)]
    have hat := d.get_at s hh
    have hgf := hg.file _ (get_mem hh)
    have hii : i = (idxN d.L s : Nat) := by rw [← hi]; unfold findI; exact if_pos hh
    obtain ⟨k, hk2⟩ : ∃ k, idxN d.L s = k := ⟨_, rfl⟩
    rw [hk2] at hii hat
    have hkn : k < n := by rw [← hn]; exact (List.getElem?_eq_some_iff.1 hat).1
    obtain ⟨b, off, v1, b1, o1, c1, b2, o2, c2, v3, hfa⟩ := FA.of (HS.out.rd.kin (unmask _ _)).fls hat hgf
    obtain rfl := hfa.ha
    have HFA := Lib.hid hfa
    subst hii
    have hk63 : (k : Int) < (n : Int) := by omega
    have hn64 := hgf.n64
    have hgn : ((d.get s).n : Int) ≤ 1000000000 := by omega
    have hfew := hg.few
    obtain ⟨kn, hkn2⟩ : ∃ m, (d.get s).n = m := ⟨_, rfl⟩
    by_cases h17 : kn = 17
    · rw [if_neg (by rw [hkn2, h17]; simp)]
      have HSC : Hid (∀ w, Calls Tryz.prog 43 #[.agg (hv x)] w fun r w' => r = .returned (.agg (sv (secH x))) ∧ Below w.heap.size w w') := Lib.hid fun w => rsector_any x hx hok w
      have hlyl := layL_length hx.n (m := m) (by omega) hf.length
      have hlyb := layL_bytes x m hbf
      have HSL := Lib.hid (secH_length hx.n)
      have HEL := Lib.hid (show secH x ++ fs ++ List.replicate ((17 - 1 - m) * 64) 0 = layL x m fs from by unfold layL; rw [show 17 - 1 - m = 16 - m by omega])
      obtain ⟨ly, hly⟩ : ∃ l, layL x m fs = l := ⟨_, rfl⟩
      rw [hly] at hlyl hlyb HEL ⊢
      unfold AD.laidR
      have hgw := hg.write s 0 17 ly hlyl hlyb
      obtain ⟨⟨d2, e2⟩, hr⟩ : ∃ r, d.writeR s 0 17 ly = r := ⟨_, rfl⟩
      have HWR : Hid (∀ F W v vl, Foot F W.heap.size → RD (mask F W) v d → FS (mask F W) vl 17 ly → Calls Tryz.prog 20 #[v, .string s, .int .i64 0, vl] W fun e w' => ∃ v', e = .returned (.tuple #[v', .int .i64 e2]) ∧ RD (mask F w') v' d2 ∧ Below W.heap.size W w') := Lib.hid fun F W v vl hF hr2 hf2 => by
        have := rwrite_any F v d s 0 vl 17 ly W hF hr2 hf2 (by omega) (by unfold I63; omega) (by omega) hgn
        rwa [hr] at this
      rw [hr] at hgw ⊢
      have hm16' : m ≤ 16 := by omega
      have HEQ := Lib.hid hkn2
      have HM := Lib.hid hm16'
      by_cases he : e2 = 0
      · subst he
        rw [if_pos rfl, show (d2, (0 : Int)).1 = d2 from rfl]
        obtain ⟨⟨d3, e3⟩, hr3⟩ : ∃ r, d2.syncR s = r := ⟨_, rfl⟩
        have HSY : Hid (∀ F W v, Foot F W.heap.size → RD (mask F W) v d2 → Calls Tryz.prog 44 #[v, .string s] W fun e w' => ∃ v', e = .returned (.tuple #[v', .int .i64 e3]) ∧ RD (mask F w') v' d3 ∧ Below W.heap.size W w') := Lib.hid fun F W v hF hr2 => by
          have hfew2 : d2.L.length ≤ 64 := hgw.few
          have hgn2 : ((d2.get s).n : Int) ≤ 1000000000 := by
            unfold AD.get
            cases hq : d2.L[idxN d2.L s]? with
            | none => simp [newF]
            | some f => have := (hgw.file f (List.mem_of_getElem? hq)).n64; show ((f.n : Nat) : Int) ≤ 1000000000; omega
          have := rsync_any F v d2 s W hF hr2 (by omega) hgn2
          rwa [hr3] at this
        rw [hr3]
        clear hg hx hf h hn hk hd hi hat hgf hh hfa hk2 hlyl hlyb hgw hly hr hr3 hm hfew hgn hn64 hkn2 hbf hm16' hok
        subst h17
        focus
          go_enter Tryz.func12, Tryz.ntmps12
          go_wp2_with (first
            | (refine wpl_load_hd (by rfl) (.tmp 6) rfl rfl HS3.out.hb ?_)
            | (refine wpl_load_hd (by rfl) (.tmp 6) rfl rfl HS.out.hb ?_)
            | (refine wpl_load_dbP (by rfl) _ rfl w.heap.size rfl _ HS3.out.d0 ?_)
            | (refine wpl_load_dbP (by rfl) _ rfl w.heap.size rfl _ HS1.out.d0 ?_)
            | (go_at_call 34; (with_reducible refine (HRT.out _).mono ?_); rintro e w1 ⟨rfl, hb⟩; have HS1 := Lib.hid (HS.out.next hb); have HB1 := Lib.hid hb; obtain ⟨r0, r1, r2, r3, r4, r5⟩ := HS1.out.d0.six; clear hb q0 q1 q2 q3 q4 q5)
            | (go_at_call 35; (with_reducible refine (HFD.out _ _ (HS1.out.rd.kin (unmask _ _))).mono ?_); rintro e w3 ⟨rfl, hb⟩; have HS3 := Lib.hid (HS1.out.next hb); have HB3 := Lib.hid (chain HB1.out hb); obtain ⟨z0, z1, z2, z3, z4, z5⟩ := HS3.out.d0.six; have y2 := (HFA.out.next HB3.out).k2; rw [HEQ.out] at y2; clear hb r0 r1 r2 r3 r4 r5)
            | (go_at_call 43; (with_reducible refine (HSC.out _).mono ?_); rintro e w4 ⟨rfl, hb⟩; have HB4 := Lib.hid (chain HB3.out hb); clear hb z0 z1 z2 z3 z4 z5 y2)
            | (refine wpl_build_sec rfl (.tmp 41) rfl (secH x) HSL.out rfl ?_)
            | (at_builtin; refine wpl_app_fs rfl (.tmp 42) (.tmp 43) rfl W2.heap.size _ 1 (secH x) rfl (Lib.hid (own_blk (Blk.new w4 _ HSL.out) HB4.out.size)) _ m fs rfl (Lib.hid (HF.out.keep (chain HB4.out (below_alloc w4 _)))) (by omega) W2.heap.size W2 (Lib.hid (chain HB4.out (below_alloc w4 _))) (Nat.le_refl _) (by rw [alloc_size]; have := HB4.out.size; omega) ?_; intro v5 w5 HO5 HB5 _))
          obtain ⟨a5, c5, rfl⟩ := own_form HO5.out
          have HM2 := Lib.hid (show 1 + m ≤ 17 from by have := HM.out; omega)
          go_loopw [11] (fun lv wr => ∃ (a6 : Option Addr) (k6 c6 : Nat), lv = .slice a6 k6 c6 ∧ k6 ≤ 17 ∧ 1 + m ≤ k6 ∧ Hid (wr.ownsRow W2.heap.size 63 64 (.slice a6 k6 c6) k6 (il .u8 (secH x ++ fs ++ List.replicate ((k6 - 1 - m) * 64) 0))) ∧ Hid (Below W2.heap.size W2 wr)) (fun lv _ => 17 - lenW lv)
          case atStart => exact ⟨a5, 1 + m, c5, rfl, HM2.out, Nat.le_refl _, Lib.hid (by rw [show (1 + m - 1 - m) * 64 = 0 by omega]; simpa using HO5.out), HB5⟩
          case round =>
            obtain ⟨a6, k6, c6, rfl, hk6, hm6, HO6, HB6⟩ := hrel
            by_cases hlt : (k6 : Int) < 17
            · have HSB := Lib.hid (show W2.heap.size ≤ wr.heap.size from HB6.out.size)
              go_wp2_with (first
                | (refine wpl_build_z rfl (by rfl) ?_)
                | (refine wpl_build_sec rfl (.tmp 49) rfl z64 z64_length rfl ?_)
                | (at_builtin; refine wpl_app_fs rfl (.tmp 48) (.tmp 50) rfl W2.heap.size _ k6 _ rfl (Lib.hid (own_keep HO6.out (below_alloc wr _))) _ 1 z64 rfl (Lib.hid (FS.blk (Blk.new wr z64 z64_length))) (by omega) W2.heap.size W2 (Lib.hid (HB6.out.trans ((below_alloc wr _).mono HSB.out))) (Nat.le_refl _) (by rw [alloc_size]; have := HSB.out; omega) ?_; intro v7 w7 HO7 HB7 _))
              obtain ⟨a7, c7, rfl⟩ := own_form HO7.out
              have HO8 := HO7.out
              rw [lay_more hm6] at HO8
              exact ⟨⟨a7, k6 + 1, c7, rfl, by omega, by omega, Lib.hid HO8, HB7⟩, by simp only [lenW]; omega⟩
            · have hq : k6 = 17 := by omega
              subst hq
              have HO8 := HO6.out
              rw [HEL.out] at HO8
              have HS8 := Lib.hid (HS.out.next HB6.out)
              have HFL := Lib.hid (FS.own (own_mask (by rw [HSZ.out]; exact boxH_foot hF) HO8))
              go_wp2_with (first
                | (refine wpl_load_dbP (by rfl) _ rfl w.heap.size rfl _ HSA.out.d0 ?_)
                | (refine wpl_load_dbP (by rfl) _ rfl w.heap.size rfl _ HS8.out.d0 ?_)
                | (go_at_call 20; (with_reducible refine (HWR.out _ _ _ _ HS8.out.foot HS8.out.rd HFL.out).mono ?_); rintro e w9 ⟨v9, rfl, hr9, hb⟩; have HS9 := Lib.hid (HS8.out.next hb); clear hb; obtain ⟨a9, n9, k9, rfl, _⟩ := hr9.agg; have HR9 := Lib.hid hr9; clear hr9)
                | (refine wpList_store_row rfl 28 _ _ rfl w.heap.size #[.slice a9 n9 k9, .int .i64 d2.cap, .int .i64 d2.ops, .bool d2.down, .bool d2.told, .int .i64 d2.after] rfl rfl _ #[.slice (some ⟨b, off, none⟩) n cap, .int .i64 d.cap, .int .i64 d.ops, .bool false, .bool d.told, .int .i64 d.after] HS9.out.d0.1 disk_info (by rfl) (by simp [Value.oneCell']) ?_; have HSA := Lib.hid (HS9.out.put HR9.out rfl))
                | (go_at_call 44; (with_reducible refine (HSY.out _ _ _ HSA.out.foot HSA.out.rd).mono ?_); rintro e wB ⟨vB, rfl, hrB, hb⟩; have HSB := Lib.hid (HSA.out.next hb); clear hb; obtain ⟨aB, nB, kB, rfl, _⟩ := hrB.agg; have HRB := Lib.hid hrB; clear hrB)
                | (refine wpList_store_row rfl 28 _ _ rfl (w.heap.size + 2) #[.slice aB nB kB, .int .i64 d3.cap, .int .i64 d3.ops, .bool d3.down, .bool d3.told, .int .i64 d3.after] rfl rfl _ dz HSB.out.d2.1 disk_info (by rfl) (by simp [Value.oneCell']) ?_))
              obtain ⟨e1, e2, e3⟩ := HSB.out.done (cs' := #[.slice aB nB kB, .int .i64 d3.cap, .int .i64 d3.ops, .bool d3.down, .bool d3.told, .int .i64 d3.after]) HRB.out rfl
              exact bodyPost_ret_by (results_row_tmp rfl _ _ (w.heap.size + 2) _ rfl (disk_load e1.1 rfl)) rfl ⟨_, rfl, e2, e3⟩
      · rw [if_neg (show ¬ (d2, e2).2 = 0 from he)]
        have be : (e2 == 0) = false := by simpa using he
        clear hg hx hf h hn hk hd hi hat hgf hh hfa hk2 hlyl hlyb hgw hly hr hm hfew hgn hn64 hkn2 hbf hm16' hok
        subst h17
        focus
          go_enter Tryz.func12, Tryz.ntmps12
          go_wp2_with (first
            | (refine wpl_load_hd (by rfl) (.tmp 6) rfl rfl HS3.out.hb ?_)
            | (refine wpl_load_hd (by rfl) (.tmp 6) rfl rfl HS.out.hb ?_)
            | (refine wpl_load_dbP (by rfl) _ rfl w.heap.size rfl _ HS3.out.d0 ?_)
            | (refine wpl_load_dbP (by rfl) _ rfl w.heap.size rfl _ HS1.out.d0 ?_)
            | (go_at_call 34; (with_reducible refine (HRT.out _).mono ?_); rintro e w1 ⟨rfl, hb⟩; have HS1 := Lib.hid (HS.out.next hb); have HB1 := Lib.hid hb; obtain ⟨r0, r1, r2, r3, r4, r5⟩ := HS1.out.d0.six; clear hb q0 q1 q2 q3 q4 q5)
            | (go_at_call 35; (with_reducible refine (HFD.out _ _ (HS1.out.rd.kin (unmask _ _))).mono ?_); rintro e w3 ⟨rfl, hb⟩; have HS3 := Lib.hid (HS1.out.next hb); have HB3 := Lib.hid (chain HB1.out hb); obtain ⟨z0, z1, z2, z3, z4, z5⟩ := HS3.out.d0.six; have y2 := (HFA.out.next HB3.out).k2; rw [HEQ.out] at y2; clear hb r0 r1 r2 r3 r4 r5)
            | (go_at_call 43; (with_reducible refine (HSC.out _).mono ?_); rintro e w4 ⟨rfl, hb⟩; have HB4 := Lib.hid (chain HB3.out hb); clear hb z0 z1 z2 z3 z4 z5 y2)
            | (refine wpl_build_sec rfl (.tmp 41) rfl (secH x) HSL.out rfl ?_)
            | (at_builtin; refine wpl_app_fs rfl (.tmp 42) (.tmp 43) rfl W2.heap.size _ 1 (secH x) rfl (Lib.hid (own_blk (Blk.new w4 _ HSL.out) HB4.out.size)) _ m fs rfl (Lib.hid (HF.out.keep (chain HB4.out (below_alloc w4 _)))) (by omega) W2.heap.size W2 (Lib.hid (chain HB4.out (below_alloc w4 _))) (Nat.le_refl _) (by rw [alloc_size]; have := HB4.out.size; omega) ?_; intro v5 w5 HO5 HB5 _))
          obtain ⟨a5, c5, rfl⟩ := own_form HO5.out
          have HM2 := Lib.hid (show 1 + m ≤ 17 from by have := HM.out; omega)
          go_loopw [11] (fun lv wr => ∃ (a6 : Option Addr) (k6 c6 : Nat), lv = .slice a6 k6 c6 ∧ k6 ≤ 17 ∧ 1 + m ≤ k6 ∧ Hid (wr.ownsRow W2.heap.size 63 64 (.slice a6 k6 c6) k6 (il .u8 (secH x ++ fs ++ List.replicate ((k6 - 1 - m) * 64) 0))) ∧ Hid (Below W2.heap.size W2 wr)) (fun lv _ => 17 - lenW lv)
          case atStart => exact ⟨a5, 1 + m, c5, rfl, HM2.out, Nat.le_refl _, Lib.hid (by rw [show (1 + m - 1 - m) * 64 = 0 by omega]; simpa using HO5.out), HB5⟩
          case round =>
            obtain ⟨a6, k6, c6, rfl, hk6, hm6, HO6, HB6⟩ := hrel
            by_cases hlt : (k6 : Int) < 17
            · have HSB := Lib.hid (show W2.heap.size ≤ wr.heap.size from HB6.out.size)
              go_wp2_with (first
                | (refine wpl_build_z rfl (by rfl) ?_)
                | (refine wpl_build_sec rfl (.tmp 49) rfl z64 z64_length rfl ?_)
                | (at_builtin; refine wpl_app_fs rfl (.tmp 48) (.tmp 50) rfl W2.heap.size _ k6 _ rfl (Lib.hid (own_keep HO6.out (below_alloc wr _))) _ 1 z64 rfl (Lib.hid (FS.blk (Blk.new wr z64 z64_length))) (by omega) W2.heap.size W2 (Lib.hid (HB6.out.trans ((below_alloc wr _).mono HSB.out))) (Nat.le_refl _) (by rw [alloc_size]; have := HSB.out; omega) ?_; intro v7 w7 HO7 HB7 _))
              obtain ⟨a7, c7, rfl⟩ := own_form HO7.out
              have HO8 := HO7.out
              rw [lay_more hm6] at HO8
              exact ⟨⟨a7, k6 + 1, c7, rfl, by omega, by omega, Lib.hid HO8, HB7⟩, by simp only [lenW]; omega⟩
            · have hq : k6 = 17 := by omega
              subst hq
              have HO8 := HO6.out
              rw [HEL.out] at HO8
              have HS8 := Lib.hid (HS.out.next HB6.out)
              have HFL := Lib.hid (FS.own (own_mask (by rw [HSZ.out]; exact boxH_foot hF) HO8))
              go_wp2_with (first
                | (refine wpl_load_dbP (by rfl) _ rfl w.heap.size rfl _ HSA.out.d0 ?_)
                | (refine wpl_load_dbP (by rfl) _ rfl w.heap.size rfl _ HS8.out.d0 ?_)
                | (go_at_call 20; (with_reducible refine (HWR.out _ _ _ _ HS8.out.foot HS8.out.rd HFL.out).mono ?_); rintro e w9 ⟨v9, rfl, hr9, hb⟩; have HS9 := Lib.hid (HS8.out.next hb); clear hb; obtain ⟨a9, n9, k9, rfl, _⟩ := hr9.agg; have HR9 := Lib.hid hr9; clear hr9)
                | (refine wpList_store_row rfl 28 _ _ rfl w.heap.size #[.slice a9 n9 k9, .int .i64 d2.cap, .int .i64 d2.ops, .bool d2.down, .bool d2.told, .int .i64 d2.after] rfl rfl _ #[.slice (some ⟨b, off, none⟩) n cap, .int .i64 d.cap, .int .i64 d.ops, .bool false, .bool d.told, .int .i64 d.after] HS9.out.d0.1 disk_info (by rfl) (by simp [Value.oneCell']) ?_; have HSA := Lib.hid (HS9.out.put HR9.out rfl))
                | (refine wpList_store_row rfl 28 _ _ rfl (w.heap.size + 2) #[.slice a9 n9 k9, .int .i64 d2.cap, .int .i64 d2.ops, .bool d2.down, .bool d2.told, .int .i64 d2.after] rfl rfl _ dz HSA.out.d2.1 disk_info (by rfl) (by simp [Value.oneCell']) ?_))
              obtain ⟨e1, e2, e3⟩ := HSA.out.done (cs' := #[.slice a9 n9 k9, .int .i64 d2.cap, .int .i64 d2.ops, .bool d2.down, .bool d2.told, .int .i64 d2.after]) HSA.out.rd rfl
              exact bodyPost_ret_by (results_row_tmp rfl _ _ (w.heap.size + 2) _ rfl (disk_load e1.1 rfl)) rfl ⟨_, rfl, e2, e3⟩
    · rw [if_pos (by rw [hkn2]; exact h17)]
      have b17 : ((kn : Int) == 17) = false := by simp; omega
      have HEQ := Lib.hid hkn2
      clear hg hx hf h hn hk hd hi hat hgf hh hfa hk2 hm hfew hgn hn64 hkn2 hbf hok
      focus
        go_enter Tryz.func12, Tryz.ntmps12
        go_wp2_with (first
          | (refine wpl_load_hd (by rfl) (.tmp 6) rfl rfl HS.out.hb ?_)
          | (refine wpl_load_dbP (by rfl) _ rfl w.heap.size rfl _ HS3.out.d0 ?_)
          | (refine wpl_load_dbP (by rfl) _ rfl w.heap.size rfl _ HS1.out.d0 ?_)
          | (go_at_call 34; (with_reducible refine (HRT.out _).mono ?_); rintro e w1 ⟨rfl, hb⟩; have HS1 := Lib.hid (HS.out.next hb); have HB1 := Lib.hid hb; obtain ⟨r0, r1, r2, r3, r4, r5⟩ := HS1.out.d0.six; clear hb q0 q1 q2 q3 q4 q5)
          | (go_at_call 35; (with_reducible refine (HFD.out _ _ (HS1.out.rd.kin (unmask _ _))).mono ?_); rintro e w3 ⟨rfl, hb⟩; have HS3 := Lib.hid (HS1.out.next hb); have HB3 := Lib.hid (chain HB1.out hb); obtain ⟨z0, z1, z2, z3, z4, z5⟩ := HS3.out.d0.six; have y2 := (HFA.out.next HB3.out).k2; rw [HEQ.out] at y2; clear hb r0 r1 r2 r3 r4 r5)
          | (refine wpList_store_row rfl 28 _ _ rfl (w.heap.size + 2) #[.slice (some ⟨b, off, none⟩) n cap, .int .i64 d.cap, .int .i64 d.ops, .bool false, .bool d.told, .int .i64 d.after] rfl rfl _ dz HS3.out.d2.1 disk_info (by rfl) (by simp [Value.oneCell']) ?_))
        obtain ⟨e1, e2, e3⟩ := HS3.out.done (cs' := #[.slice (some ⟨b, off, none⟩) n cap, .int .i64 d.cap, .int .i64 d.ops, .bool false, .bool d.told, .int .i64 d.after]) HS3.out.rd rfl
        exact bodyPost_ret_by (results_row_tmp rfl _ _ (w.heap.size + 2) _ rfl (disk_load e1.1 rfl)) rfl ⟨_, rfl, e2, e3⟩
  · rw [if_pos hh]
    have hi0 : i < 0 := by rw [← hi, AD.find_neg]; exact hh
    clear hg hx hf h hn hk hd hi hh
    focus
      go_enter Tryz.func12, Tryz.ntmps12
      go_wp2_with (first
        | (refine wpl_load_hd (by rfl) (.tmp 6) rfl rfl HS.out.hb ?_)
        | (refine wpl_load_dbP (by rfl) _ rfl w.heap.size rfl _ HS3.out.d0 ?_)
        | (refine wpl_load_dbP (by rfl) _ rfl w.heap.size rfl _ HS1.out.d0 ?_)
        | (go_at_call 34; (with_reducible refine (HRT.out _).mono ?_); rintro e w1 ⟨rfl, hb⟩; have HS1 := Lib.hid (HS.out.next hb); have HB1 := Lib.hid hb; obtain ⟨r0, r1, r2, r3, r4, r5⟩ := HS1.out.d0.six; clear hb q0 q1 q2 q3 q4 q5)
        | (go_at_call 35; (with_reducible refine (HFD.out _ _ (HS1.out.rd.kin (unmask _ _))).mono ?_); rintro e w3 ⟨rfl, hb⟩; have HS3 := Lib.hid (HS1.out.next hb); have HB3 := Lib.hid (chain HB1.out hb); obtain ⟨z0, z1, z2, z3, z4, z5⟩ := HS3.out.d0.six; clear hb r0 r1 r2 r3 r4 r5)
        | (refine wpList_store_row rfl 28 _ _ rfl (w.heap.size + 2) #[.slice a n cap, .int .i64 d.cap, .int .i64 d.ops, .bool false, .bool d.told, .int .i64 d.after] rfl rfl _ dz HS3.out.d2.1 disk_info (by rfl) (by simp [Value.oneCell']) ?_))
      obtain ⟨e1, e2, e3⟩ := HS3.out.done (cs' := #[.slice a n cap, .int .i64 d.cap, .int .i64 d.ops, .bool false, .bool d.told, .int .i64 d.after]) HS3.out.rd rfl
      exact bodyPost_ret_by (results_row_tmp rfl _ _ (w.heap.size + 2) _ rfl (disk_load e1.1 rfl)) rfl ⟨_, rfl, e2, e3⟩
end Go.Proofs.YtpoiapfgbbmekaaGreatDoor
namespace Go.Proofs.YtpoiapfgbbmekaaGreatDoor
open Go.RowKit
theorem rtake_of {d d2 : AD} {u : ByteArray} {e2 : Int} (hg : Good d) (h : d.takeR = (d2, u, e2)) :
    Hid (∀ F W v, Foot F W.heap.size → RD (mask F W) v d → Calls Tryz.prog 37 #[v] W fun e w' => ∃ v', e = .returned (.tuple #[v', .string u, .int .i64 e2]) ∧ RD (mask F w') v' d2 ∧ Below W.heap.size W w') :=
  Lib.hid fun F W v hF hr => by
    have := rtake_any F v d W hF hr hg
    rwa [h] at this
theorem rprep_of {d d2 : AD} {s : ByteArray} {x : Hdr} {e2 : Int} (hg : Good d) (hx : HdT x) (h : d.prepR s x 0 [] = (d2, e2)) :
    Hid (∀ F W v, Foot F W.heap.size → RD (mask F W) v d → Calls Tryz.prog 12 #[v, .string s, .agg (hv x), .slice none 0 0] W fun e w' => ∃ v', e = .returned (.tuple #[v', .int .i64 e2]) ∧ RD (mask F w') v' d2 ∧ Below W.heap.size W w') :=
  Lib.hid fun F W v hF hr => by
    have := rprep_any F v d s x (.slice none 0 0) 0 [] W hF hr hg hx (FS.nil W) (by omega) bytes_nil
    rwa [h] at this
set_option maxRecDepth 8000 in
set_option maxHeartbeats 4000000 in
theorem rbegin_any (F : Nat → Bool) (vd : Value) (d : AD) (x : Hdr) (w : World) (hF : Foot F w.heap.size) (h : RD (mask F w) vd d) (hg : Good d) (hx : HdT x) :
    Calls Tryz.prog 10 #[vd, .agg (hv x)] w fun e w' => ∃ v', e = .returned (.tuple #[v', .int .i64 (d.beginR x).2]) ∧ RD (mask F w') v' (d.beginR x).1 ∧ Below w.heap.size w w' := by
  obtain ⟨a, n, cap, rfl, hn, hc1, hc2⟩ := h.agg
  have hst := SH.start x hx.n hF rfl h
  obtain ⟨W2, hW2⟩ : ∃ W2, ((w.alloc (.cells #[.slice a n cap, .int .i64 d.cap, .int .i64 d.ops, .bool d.down, .bool d.told, .int .i64 d.after] 28)).alloc (.cells (hv x) 34)).alloc (.cells #[.slice none 0 0, .int .i64 0, .int .i64 0, .bool false, .bool false, .int .i64 0] 28) = W2 := ⟨_, rfl⟩
  rw [hW2] at hst
  have HS := Lib.hid hst
  obtain ⟨q0, q1, q2, q3, q4, q5⟩ := hst.d0.six
  have HXN := Lib.hid hx.n
  clear hst
  unfold AD.beginR AD.beginT
  cases hok : hdOk x with
  | false =>
    rw [if_pos rfl]
    have HRT := rhright_of hx hok
    clear hg hx h hn
    focus
      go_enter Tryz.func10, Tryz.ntmps10
      go_wp2_with (first
        | (refine wpl_load_hd (by rfl) (.tmp 3) rfl rfl HS.out.hb ?_)
        | (refine wpl_load_dbP (by rfl) _ rfl w.heap.size rfl _ HS1.out.d0 ?_)
        | (go_at_call 34; (with_reducible refine (HRT.out _).mono ?_); rintro e w1 ⟨rfl, hb⟩; have HS1 := Lib.hid (HS.out.next hb); obtain ⟨r0, r1, r2, r3, r4, r5⟩ := HS1.out.d0.six; clear hb q0 q1 q2 q3 q4 q5)
        | (refine wpList_store_row rfl 28 _ _ rfl (w.heap.size + 2) #[.slice a n cap, .int .i64 d.cap, .int .i64 d.ops, .bool d.down, .bool d.told, .int .i64 d.after] rfl rfl _ dz HS1.out.d2.1 disk_info (by rfl) (by simp [Value.oneCell']) ?_))
      obtain ⟨e1, e2, e3⟩ := HS1.out.done (cs' := #[.slice a n cap, .int .i64 d.cap, .int .i64 d.ops, .bool d.down, .bool d.told, .int .i64 d.after]) HS1.out.rd rfl
      exact bodyPost_ret_by (results_row_tmp rfl _ _ (w.heap.size + 2) _ rfl (disk_load e1.1 rfl)) rfl ⟨_, rfl, e2, e3⟩
  | true =>
  rw [if_neg (by simp)]
  have HRT := rhright_of hx hok
  by_cases hd : d.down = true
  · rw [if_pos hd]
    simp only [hd] at q3 hW2 HS ⊢
    clear hg hx h hn hd
    focus
      go_enter Tryz.func10, Tryz.ntmps10
      go_wp2_with (first
        | (refine wpl_load_hd (by rfl) (.tmp 3) rfl rfl HS.out.hb ?_)
        | (refine wpl_load_dbP (by rfl) _ rfl w.heap.size rfl _ HS1.out.d0 ?_)
        | (go_at_call 34; (with_reducible refine (HRT.out _).mono ?_); rintro e w1 ⟨rfl, hb⟩; have HS1 := Lib.hid (HS.out.next hb); obtain ⟨r0, r1, r2, r3, r4, r5⟩ := HS1.out.d0.six; clear hb q0 q1 q2 q3 q4 q5)
        | (refine wpList_store_row rfl 28 _ _ rfl (w.heap.size + 2) #[.slice a n cap, .int .i64 d.cap, .int .i64 d.ops, .bool true, .bool d.told, .int .i64 d.after] rfl rfl _ dz HS1.out.d2.1 disk_info (by rfl) (by simp [Value.oneCell']) ?_))
      obtain ⟨e1, e2, e3⟩ := HS1.out.done (cs' := #[.slice a n cap, .int .i64 d.cap, .int .i64 d.ops, .bool true, .bool d.told, .int .i64 d.after]) HS1.out.rd rfl
      exact bodyPost_ret_by (results_row_tmp rfl _ _ (w.heap.size + 2) _ rfl (disk_load e1.1 rfl)) rfl ⟨_, rfl, e2, e3⟩
  rw [if_neg hd]
  rw [Bool.not_eq_true] at hd
  simp only [hd] at q3 hW2 HS ⊢
  obtain ⟨s, hs⟩ : ∃ s, walB x.s = s := ⟨_, rfl⟩
  have HWL := rwal_of hx.s hs
  have hsz : s.size ≤ 281474976710656 := by rw [← hs]; exact wal_size x.s hx.s.1 hx.s.2
  obtain ⟨i, hi⟩ : ∃ i, findI d.L s = i := ⟨_, rfl⟩
  have HFD := rfind_of hi
  by_cases hh : d.has s
  · rw [if_pos (by rw [hs]; exact hh)]
    have hi0 : 0 ≤ i := by
      have : i = (idxN d.L s : Nat) := by rw [← hi]; unfold findI; exact if_pos hh
      omega
    clear hg hx h hn hd hi hh hs
    focus
      go_enter Tryz.func10, Tryz.ntmps10
      go_wp2_with (first
        | (refine wpl_load_hd (by rfl) (.tmp 3) rfl rfl HS.out.hb ?_)
        | (go_at_call 34; (with_reducible refine (HRT.out _).mono ?_); rintro e w1 ⟨rfl, hb⟩; have HS1 := Lib.hid (HS.out.next hb); obtain ⟨r0, r1, r2, r3, r4, r5⟩ := HS1.out.d0.six; clear hb q0 q1 q2 q3 q4 q5))
      have HSD := Lib.hid (HS1.out.next (Below.refl _ _).drew)
      refine wp_region_held_drew (S := (fun W' => DB W' w.heap.size #[.slice a n cap, .int .i64 d.cap, .int .i64 d.ops, .bool false, .bool d.told, .int .i64 d.after] ∧ HB W' (w.heap.size + 1) x)) (by kernel_rfl) ⟨HSD.out.d0, HSD.out.hb⟩ (fun hS => ?_)
      refine rgw 0 ⟨some 15, .load 28 (.tmp 2), 28, _, _, none⟩ hS ?_ (hy := by intro w hSw; (try dsimp only at hSw); refine exec_load_db (.tmp 2) ?_ ?_ hSw.1 <;> rfl)
      refine rgw 1 ⟨some 16, .fieldAddr 34 (.tmp 3) 1, 0, _, _, none⟩ hS ?_
      refine rgw 2 ⟨some 17, .load 3 (.tmp 16), 3, _, _, none⟩ hS ?_ (hy := by intro w hSw; (try dsimp only at hSw); have zs := hSw.2.cells.2.1; go_simp; try with_reducible rfl)
      refine rg_one 3 ⟨some 18, .call { callee := .value (.func 36), args := #[.tmp 17], argTypes := #[3] }, 9, _, _, none⟩ (by kernel_rfl) rfl (fun K hK => ?_)
      go_simp
      (go_at_call 36; (with_reducible refine (HWL.out _).mono ?_); rintro e w2 ⟨rfl, rfl⟩)
      refine hK.out _ _ ?_ (fun hS1 => ?_)
      · (first | exact hN | exact hS | exact ⟨hS.1.next hb, hS.2.keep hb⟩)
      clear hK K hS; have hS := hS1; clear hS1
      (try simp only [rgp])
      refine rg_one 4 ⟨some 19, .call { callee := .value (.func 35), args := #[.tmp 15, .tmp 18], argTypes := #[28, 9] }, 3, _, _, none⟩ (by kernel_rfl) rfl (fun K hK => ?_)
      go_simp
      (go_at_call 35; (with_reducible refine (HFD.out _ _ (HSD.out.rd.kin (unmask _ _))).mono ?_); rintro e w3 ⟨rfl, hb⟩; have HS3 := Lib.hid (HSD.out.next hb))
      refine hK.out _ _ ?_ (fun hS1 => ?_)
      · (first | exact hN | exact hS | exact ⟨hS.1.next hb, hS.2.keep hb⟩)
      clear hK K hS; have hS := hS1; clear hS1
      (try simp only [rgp])
      refine rgw 5 ⟨some 20, .binOp .geq 3 (.tmp 19) (.const (.int .i64 0)) 3, 4, _, _, none⟩ hS ?_
      refine wpAnyH_done (by kernel_rfl) ?_ _
      (try clear hN)
      clear hS
      go_wp2_with (first
        | (refine wpl_load_dbP (by rfl) _ rfl w.heap.size rfl _ HS3.out.d0 ?_)
        | (refine wpList_store_row rfl 28 _ _ rfl (w.heap.size + 2) #[.slice a n cap, .int .i64 d.cap, .int .i64 d.ops, .bool false, .bool d.told, .int .i64 d.after] rfl rfl _ dz HS3.out.d2.1 disk_info (by rfl) (by simp [Value.oneCell']) ?_))
      obtain ⟨e1, e2, e3⟩ := HS3.out.done (cs' := #[.slice a n cap, .int .i64 d.cap, .int .i64 d.ops, .bool false, .bool d.told, .int .i64 d.after]) HS3.out.rd rfl
      exact bodyPost_ret_by (results_row_tmp rfl _ _ (w.heap.size + 2) _ rfl (disk_load e1.1 rfl)) rfl ⟨_, rfl, e2, e3⟩
  rw [if_neg (by rw [hs]; exact hh), hs]
  have hi0 : i < 0 := by rw [← hi, AD.find_neg]; exact hh
  obtain ⟨⟨d2, u, e2⟩, ht⟩ : ∃ r, d.takeR = r := ⟨_, rfl⟩
  have HTK := rtake_of hg ht
  have hg2 : Good d2 := by have := hg.take; rwa [ht] at this
  rw [ht]
  by_cases h2 : e2 = 0
  · subst h2
    rw [if_pos rfl]
    have hgp : Good (d2.prepR u x 0 []).1 := hg2.prep u hx (m := 0) (fs := []) rfl bytes_nil
    rw [show ((d2, u, (0 : Int)).1) = d2 from rfl, show ((d2, u, (0 : Int)).2.1) = u from rfl]
    obtain ⟨⟨d3, e3⟩, hp⟩ : ∃ r, d2.prepR u x 0 [] = r := ⟨_, rfl⟩
    have HPR := rprep_of hg2 hx hp
    rw [hp] at hgp ⊢
    by_cases h3 : e3 = 0
    · subst h3
      rw [if_pos rfl, show (d3, (0 : Int)).1 = d3 from rfl]
      obtain ⟨⟨d4, e4⟩, hr⟩ : ∃ r, d3.renameR u s = r := ⟨_, rfl⟩
      have HRN := rrename_of (show Good d3 from hgp) hsz hr
      rw [hr]
      clear hg hx h hn hd hi hh hs ht hg2 hgp hp hr hok
      focus
        go_enter Tryz.func10, Tryz.ntmps10
        go_wp2_with (first
          | (refine wpl_load_hd (by rfl) (.tmp 3) rfl rfl HS.out.hb ?_)
          | (go_at_call 34; (with_reducible refine (HRT.out _).mono ?_); rintro e w1 ⟨rfl, hb⟩; have HS1 := Lib.hid (HS.out.next hb); obtain ⟨r0, r1, r2, r3, r4, r5⟩ := HS1.out.d0.six; clear hb q0 q1 q2 q3 q4 q5))
        have HSD := Lib.hid (HS1.out.next (Below.refl _ _).drew)
        refine wp_region_held_drew (S := (fun W' => DB W' w.heap.size #[.slice a n cap, .int .i64 d.cap, .int .i64 d.ops, .bool false, .bool d.told, .int .i64 d.after] ∧ HB W' (w.heap.size + 1) x)) (by kernel_rfl) ⟨HSD.out.d0, HSD.out.hb⟩ (fun hS => ?_)
        refine rgw 0 ⟨some 15, .load 28 (.tmp 2), 28, _, _, none⟩ hS ?_ (hy := by intro w hSw; (try dsimp only at hSw); refine exec_load_db (.tmp 2) ?_ ?_ hSw.1 <;> rfl)
        refine rgw 1 ⟨some 16, .fieldAddr 34 (.tmp 3) 1, 0, _, _, none⟩ hS ?_
        refine rgw 2 ⟨some 17, .load 3 (.tmp 16), 3, _, _, none⟩ hS ?_ (hy := by intro w hSw; (try dsimp only at hSw); have zs := hSw.2.cells.2.1; go_simp; try with_reducible rfl)
        refine rg_one 3 ⟨some 18, .call { callee := .value (.func 36), args := #[.tmp 17], argTypes := #[3] }, 9, _, _, none⟩ (by kernel_rfl) rfl (fun K hK => ?_)
        go_simp
        (go_at_call 36; (with_reducible refine (HWL.out _).mono ?_); rintro e w2 ⟨rfl, rfl⟩)
        refine hK.out _ _ ?_ (fun hS1 => ?_)
        · (first | exact hN | exact hS | exact ⟨hS.1.next hb, hS.2.keep hb⟩)
        clear hK K hS; have hS := hS1; clear hS1
        (try simp only [rgp])
        refine rg_one 4 ⟨some 19, .call { callee := .value (.func 35), args := #[.tmp 15, .tmp 18], argTypes := #[28, 9] }, 3, _, _, none⟩ (by kernel_rfl) rfl (fun K hK => ?_)
        go_simp
        (go_at_call 35; (with_reducible refine (HFD.out _ _ (HSD.out.rd.kin (unmask _ _))).mono ?_); rintro e w3 ⟨rfl, hb⟩; have HS3 := Lib.hid (HSD.out.next hb))
        refine hK.out _ _ ?_ (fun hS1 => ?_)
        · (first | exact hN | exact hS | exact ⟨hS.1.next hb, hS.2.keep hb⟩)
        clear hK K hS; have hS := hS1; clear hS1
        (try simp only [rgp])
        refine rgw 5 ⟨some 20, .binOp .geq 3 (.tmp 19) (.const (.int .i64 0)) 3, 4, _, _, none⟩ hS ?_
        refine wpAnyH_done (by kernel_rfl) ?_ _
        (try clear hN)
        clear hS
        go_wp2_with (first
          | (refine wpl_load_dbP (by rfl) _ rfl w.heap.size rfl _ HSA.out.d0 ?_)
          | (refine wpl_load_hd (by rfl) (.tmp 3) rfl rfl HSA.out.hb ?_)
          | (refine wpl_load_dbP (by rfl) _ rfl w.heap.size rfl _ HS3.out.d0 ?_)
          | (go_at_call 37; (with_reducible refine (HTK.out _ _ _ HS3.out.foot HS3.out.rd).mono ?_); rintro e w4 ⟨v4, rfl, hr, hb⟩; have HS4 := Lib.hid (HS3.out.next hb); clear hb; obtain ⟨a4, n4, c4, rfl, _⟩ := hr.agg; have HR4 := Lib.hid hr; clear hr)
          | (refine wpList_store_row rfl 28 _ _ rfl w.heap.size #[.slice a4 n4 c4, .int .i64 d2.cap, .int .i64 d2.ops, .bool d2.down, .bool d2.told, .int .i64 d2.after] rfl rfl _ #[.slice a n cap, .int .i64 d.cap, .int .i64 d.ops, .bool false, .bool d.told, .int .i64 d.after] HS4.out.d0.1 disk_info (by rfl) (by simp [Value.oneCell']) ?_; have HSA := Lib.hid (HS4.out.put HR4.out rfl))
          | (go_at_call 12; (with_reducible refine (HPR.out _ _ _ HSA.out.foot HSA.out.rd).mono ?_); rintro e w5 ⟨v5, rfl, hr, hb⟩; have HS5 := Lib.hid (HSA.out.next hb); clear hb; obtain ⟨a5, n5, c5, rfl, _⟩ := hr.agg; have HR5 := Lib.hid hr; clear hr)
          | (refine wpList_store_row rfl 28 _ _ rfl w.heap.size #[.slice a5 n5 c5, .int .i64 d3.cap, .int .i64 d3.ops, .bool d3.down, .bool d3.told, .int .i64 d3.after] rfl rfl _ #[.slice a4 n4 c4, .int .i64 d2.cap, .int .i64 d2.ops, .bool d2.down, .bool d2.told, .int .i64 d2.after] HS5.out.d0.1 disk_info (by rfl) (by simp [Value.oneCell']) ?_; have HSB := Lib.hid (HS5.out.put HR5.out rfl)))
        have HSD := Lib.hid (HSB.out.next (Below.refl _ _).drew)
        refine wp_region_held_drew (S := (fun W' => DB W' w.heap.size #[.slice a5 n5 c5, .int .i64 d3.cap, .int .i64 d3.ops, .bool d3.down, .bool d3.told, .int .i64 d3.after] ∧ HB W' (w.heap.size + 1) x)) (by kernel_rfl) ⟨HSD.out.d0, HSD.out.hb⟩ (fun hS => ?_)
        refine rgw 0 ⟨some 43, .load 28 (.tmp 2), 28, _, _, none⟩ hS ?_ (hy := by intro w hSw; (try dsimp only at hSw); refine exec_load_db (.tmp 2) ?_ ?_ hSw.1 <;> rfl)
        refine rgw 1 ⟨some 44, .move (.tmp 6), 9, _, _, none⟩ hS ?_
        refine rgw 2 ⟨some 45, .fieldAddr 34 (.tmp 3) 1, 0, _, _, none⟩ hS ?_
        refine rgw 3 ⟨some 46, .load 3 (.tmp 45), 3, _, _, none⟩ hS ?_ (hy := by intro w hSw; (try dsimp only at hSw); have zs := hSw.2.cells.2.1; go_simp; try with_reducible rfl)
        refine rg_one 4 ⟨some 47, .call { callee := .value (.func 36), args := #[.tmp 46], argTypes := #[3] }, 9, _, _, none⟩ (by kernel_rfl) rfl (fun K hK => ?_)
        go_simp
        (go_at_call 36; (with_reducible refine (HWL.out _).mono ?_); rintro e w2 ⟨rfl, rfl⟩)
        refine hK.out _ _ ?_ (fun hS1 => ?_)
        · (first | exact hN | exact hS | exact ⟨hS.1.next hb, hS.2.keep hb⟩)
        clear hK K hS; have hS := hS1; clear hS1
        (try simp only [rgp])
        refine rg_one 5 ⟨some 48, .call { callee := .value (.func 38), args := #[.tmp 43, .tmp 44, .tmp 47], argTypes := #[28, 9, 9] }, 43, _, _, none⟩ (by kernel_rfl) rfl (fun K hK => ?_)
        go_simp
        (go_at_call 38; (with_reducible refine (HRN.out _ _ _ HSD.out.foot HSD.out.rd).mono ?_); rintro e w6 ⟨v6, rfl, hr, hb⟩; have HS6 := Lib.hid (HSD.out.next hb); obtain ⟨a6, n6, c6, rfl, _⟩ := hr.agg; have HR6 := Lib.hid hr; clear hr)
        refine hK.out _ _ ?_ (fun hS1 => ?_)
        · (first | exact hN | exact hS | exact ⟨hS.1.next hb, hS.2.keep hb⟩)
        clear hK K hS; have hS := hS1; clear hS1
        (try simp only [rgp])
        refine rgw 6 ⟨some 49, .extract (.tmp 48) 0, 28, _, _, none⟩ hS ?_
        refine rgw 7 ⟨some 50, .extract (.tmp 48) 1, 41, _, _, none⟩ hS ?_
        refine rg_one 8 ⟨none, .store 28 (.tmp 4) (.tmp 49), 0, _, _, none⟩ (by kernel_rfl) rfl (fun K hK => ?_)
        rw [if_pos (by rfl)]; refine wp_store_row 28 (.tmp 4) (.tmp 49) rfl (w.heap.size + 2) #[.slice a6 n6 c6, .int .i64 d4.cap, .int .i64 d4.ops, .bool d4.down, .bool d4.told, .int .i64 d4.after] rfl rfl _ dz HS6.out.d2.1 disk_info (by rfl) (by simp [Value.oneCell']) ?_; have hN := And.intro (HS6.out.d0.over (w.heap.size + 2) (by omega) #[.slice a6 n6 c6, .int .i64 d4.cap, .int .i64 d4.ops, .bool d4.down, .bool d4.told, .int .i64 d4.after]) (HS6.out.hb.apart (b' := w.heap.size + 2) (by omega) #[.slice a6 n6 c6, .int .i64 d4.cap, .int .i64 d4.ops, .bool d4.down, .bool d4.told, .int .i64 d4.after])
        refine hK.out _ _ ?_ (fun hS1 => ?_)
        · (first | exact hN | exact hS | exact ⟨hS.1.next hb, hS.2.keep hb⟩)
        clear hK K hS; have hS := hS1; clear hS1
        (try simp only [Act.put])
        refine rgw 9 ⟨some 5, .assign (.tmp 50), 41, _, _, none⟩ hS ?_
        refine wpAnyH_done (by kernel_rfl) ?_ _
        (try clear hN)
        clear hS
        go_wp2_with fail
        obtain ⟨e1, e2, e3⟩ := HS6.out.done (cs' := #[.slice a6 n6 c6, .int .i64 d4.cap, .int .i64 d4.ops, .bool d4.down, .bool d4.told, .int .i64 d4.after]) HR6.out rfl
        exact bodyPost_ret_by (results_row_tmp rfl _ _ (w.heap.size + 2) _ rfl (disk_load e1.1 rfl)) rfl ⟨_, rfl, e2, e3⟩
    · rw [if_neg (show ¬ (d3, e3).2 = 0 from h3)]
      have be : (e3 == 0) = false := by simpa using h3
      clear hg hx h hn hd hi hh hs ht hg2 hgp hp hok
      focus
        go_enter Tryz.func10, Tryz.ntmps10
        go_wp2_with (first
          | (refine wpl_load_hd (by rfl) (.tmp 3) rfl rfl HS.out.hb ?_)
          | (go_at_call 34; (with_reducible refine (HRT.out _).mono ?_); rintro e w1 ⟨rfl, hb⟩; have HS1 := Lib.hid (HS.out.next hb); obtain ⟨r0, r1, r2, r3, r4, r5⟩ := HS1.out.d0.six; clear hb q0 q1 q2 q3 q4 q5))
        have HSD := Lib.hid (HS1.out.next (Below.refl _ _).drew)
        refine wp_region_held_drew (S := (fun W' => DB W' w.heap.size #[.slice a n cap, .int .i64 d.cap, .int .i64 d.ops, .bool false, .bool d.told, .int .i64 d.after] ∧ HB W' (w.heap.size + 1) x)) (by kernel_rfl) ⟨HSD.out.d0, HSD.out.hb⟩ (fun hS => ?_)
        refine rgw 0 ⟨some 15, .load 28 (.tmp 2), 28, _, _, none⟩ hS ?_ (hy := by intro w hSw; (try dsimp only at hSw); refine exec_load_db (.tmp 2) ?_ ?_ hSw.1 <;> rfl)
        refine rgw 1 ⟨some 16, .fieldAddr 34 (.tmp 3) 1, 0, _, _, none⟩ hS ?_
        refine rgw 2 ⟨some 17, .load 3 (.tmp 16), 3, _, _, none⟩ hS ?_ (hy := by intro w hSw; (try dsimp only at hSw); have zs := hSw.2.cells.2.1; go_simp; try with_reducible rfl)
        refine rg_one 3 ⟨some 18, .call { callee := .value (.func 36), args := #[.tmp 17], argTypes := #[3] }, 9, _, _, none⟩ (by kernel_rfl) rfl (fun K hK => ?_)
        go_simp
        (go_at_call 36; (with_reducible refine (HWL.out _).mono ?_); rintro e w2 ⟨rfl, rfl⟩)
        refine hK.out _ _ ?_ (fun hS1 => ?_)
        · (first | exact hN | exact hS | exact ⟨hS.1.next hb, hS.2.keep hb⟩)
        clear hK K hS; have hS := hS1; clear hS1
        (try simp only [rgp])
        refine rg_one 4 ⟨some 19, .call { callee := .value (.func 35), args := #[.tmp 15, .tmp 18], argTypes := #[28, 9] }, 3, _, _, none⟩ (by kernel_rfl) rfl (fun K hK => ?_)
        go_simp
        (go_at_call 35; (with_reducible refine (HFD.out _ _ (HSD.out.rd.kin (unmask _ _))).mono ?_); rintro e w3 ⟨rfl, hb⟩; have HS3 := Lib.hid (HSD.out.next hb))
        refine hK.out _ _ ?_ (fun hS1 => ?_)
        · (first | exact hN | exact hS | exact ⟨hS.1.next hb, hS.2.keep hb⟩)
        clear hK K hS; have hS := hS1; clear hS1
        (try simp only [rgp])
        refine rgw 5 ⟨some 20, .binOp .geq 3 (.tmp 19) (.const (.int .i64 0)) 3, 4, _, _, none⟩ hS ?_
        refine wpAnyH_done (by kernel_rfl) ?_ _
        (try clear hN)
        clear hS
        go_wp2_with (first
          | (refine wpl_load_dbP (by rfl) _ rfl w.heap.size rfl _ HSB.out.d0 ?_)
          | (refine wpl_load_dbP (by rfl) _ rfl w.heap.size rfl _ HSA.out.d0 ?_)
          | (refine wpl_load_hd (by rfl) (.tmp 3) rfl rfl HSA.out.hb ?_)
          | (refine wpl_load_dbP (by rfl) _ rfl w.heap.size rfl _ HS3.out.d0 ?_)
          | (go_at_call 37; (with_reducible refine (HTK.out _ _ _ HS3.out.foot HS3.out.rd).mono ?_); rintro e w4 ⟨v4, rfl, hr, hb⟩; have HS4 := Lib.hid (HS3.out.next hb); clear hb; obtain ⟨a4, n4, c4, rfl, _⟩ := hr.agg; have HR4 := Lib.hid hr; clear hr)
          | (refine wpList_store_row rfl 28 _ _ rfl w.heap.size #[.slice a4 n4 c4, .int .i64 d2.cap, .int .i64 d2.ops, .bool d2.down, .bool d2.told, .int .i64 d2.after] rfl rfl _ #[.slice a n cap, .int .i64 d.cap, .int .i64 d.ops, .bool false, .bool d.told, .int .i64 d.after] HS4.out.d0.1 disk_info (by rfl) (by simp [Value.oneCell']) ?_; have HSA := Lib.hid (HS4.out.put HR4.out rfl))
          | (go_at_call 12; (with_reducible refine (HPR.out _ _ _ HSA.out.foot HSA.out.rd).mono ?_); rintro e w5 ⟨v5, rfl, hr, hb⟩; have HS5 := Lib.hid (HSA.out.next hb); clear hb; obtain ⟨a5, n5, c5, rfl, _⟩ := hr.agg; have HR5 := Lib.hid hr; clear hr)
          | (refine wpList_store_row rfl 28 _ _ rfl w.heap.size #[.slice a5 n5 c5, .int .i64 d3.cap, .int .i64 d3.ops, .bool d3.down, .bool d3.told, .int .i64 d3.after] rfl rfl _ #[.slice a4 n4 c4, .int .i64 d2.cap, .int .i64 d2.ops, .bool d2.down, .bool d2.told, .int .i64 d2.after] HS5.out.d0.1 disk_info (by rfl) (by simp [Value.oneCell']) ?_; have HSB := Lib.hid (HS5.out.put HR5.out rfl))
          | (refine wpList_store_row rfl 28 _ _ rfl (w.heap.size + 2) #[.slice a5 n5 c5, .int .i64 d3.cap, .int .i64 d3.ops, .bool d3.down, .bool d3.told, .int .i64 d3.after] rfl rfl _ dz HSB.out.d2.1 disk_info (by rfl) (by simp [Value.oneCell']) ?_))
        obtain ⟨e1, e2, e3⟩ := HSB.out.done (cs' := #[.slice a5 n5 c5, .int .i64 d3.cap, .int .i64 d3.ops, .bool d3.down, .bool d3.told, .int .i64 d3.after]) HSB.out.rd rfl
        exact bodyPost_ret_by (results_row_tmp rfl _ _ (w.heap.size + 2) _ rfl (disk_load e1.1 rfl)) rfl ⟨_, rfl, e2, e3⟩
  · rw [if_neg (show ¬ (d2, u, e2).2.2 = 0 from h2)]
    have be : (e2 == 0) = false := by simpa using h2
    clear hg hx h hn hd hi hh hs ht hg2 hok
    focus
      go_enter Tryz.func10, Tryz.ntmps10
      go_wp2_with (first
        | (refine wpl_load_hd (by rfl) (.tmp 3) rfl rfl HS.out.hb ?_)
        | (go_at_call 34; (with_reducible refine (HRT.out _).mono ?_); rintro e w1 ⟨rfl, hb⟩; have HS1 := Lib.hid (HS.out.next hb); obtain ⟨r0, r1, r2, r3, r4, r5⟩ := HS1.out.d0.six; clear hb q0 q1 q2 q3 q4 q5))
      have HSD := Lib.hid (HS1.out.next (Below.refl _ _).drew)
      refine wp_region_held_drew (S := (fun W' => DB W' w.heap.size #[.slice a n cap, .int .i64 d.cap, .int .i64 d.ops, .bool false, .bool d.told, .int .i64 d.after] ∧ HB W' (w.heap.size + 1) x)) (by kernel_rfl) ⟨HSD.out.d0, HSD.out.hb⟩ (fun hS => ?_)
      refine rgw 0 ⟨some 15, .load 28 (.tmp 2), 28, _, _, none⟩ hS ?_ (hy := by intro w hSw; (try dsimp only at hSw); refine exec_load_db (.tmp 2) ?_ ?_ hSw.1 <;> rfl)
      refine rgw 1 ⟨some 16, .fieldAddr 34 (.tmp 3) 1, 0, _, _, none⟩ hS ?_
      refine rgw 2 ⟨some 17, .load 3 (.tmp 16), 3, _, _, none⟩ hS ?_ (hy := by intro w hSw; (try dsimp only at hSw); have zs := hSw.2.cells.2.1; go_simp; try with_reducible rfl)
      refine rg_one 3 ⟨some 18, .call { callee := .value (.func 36), args := #[.tmp 17], argTypes := #[3] }, 9, _, _, none⟩ (by kernel_rfl) rfl (fun K hK => ?_)
      go_simp
      (go_at_call 36; (with_reducible refine (HWL.out _).mono ?_); rintro e w2 ⟨rfl, rfl⟩)
      refine hK.out _ _ ?_ (fun hS1 => ?_)
      · (first | exact hN | exact hS | exact ⟨hS.1.next hb, hS.2.keep hb⟩)
      clear hK K hS; have hS := hS1; clear hS1
      (try simp only [rgp])
      refine rg_one 4 ⟨some 19, .call { callee := .value (.func 35), args := #[.tmp 15, .tmp 18], argTypes := #[28, 9] }, 3, _, _, none⟩ (by kernel_rfl) rfl (fun K hK => ?_)
      go_simp
      (go_at_call 35; (with_reducible refine (HFD.out _ _ (HSD.out.rd.kin (unmask _ _))).mono ?_); rintro e w3 ⟨rfl, hb⟩; have HS3 := Lib.hid (HSD.out.next hb))
      refine hK.out _ _ ?_ (fun hS1 => ?_)
      · (first | exact hN | exact hS | exact ⟨hS.1.next hb, hS.2.keep hb⟩)
      clear hK K hS; have hS := hS1; clear hS1
      (try simp only [rgp])
      refine rgw 5 ⟨some 20, .binOp .geq 3 (.tmp 19) (.const (.int .i64 0)) 3, 4, _, _, none⟩ hS ?_
      refine wpAnyH_done (by kernel_rfl) ?_ _
      (try clear hN)
      clear hS
      go_wp2_with (first
        | (refine wpl_load_dbP (by rfl) _ rfl w.heap.size rfl _ HSA.out.d0 ?_)
        | (refine wpl_load_dbP (by rfl) _ rfl w.heap.size rfl _ HS3.out.d0 ?_)
        | (go_at_call 37; (with_reducible refine (HTK.out _ _ _ HS3.out.foot HS3.out.rd).mono ?_); rintro e w4 ⟨v4, rfl, hr, hb⟩; have HS4 := Lib.hid (HS3.out.next hb); clear hb; obtain ⟨a4, n4, c4, rfl, _⟩ := hr.agg; have HR4 := Lib.hid hr; clear hr)
        | (refine wpList_store_row rfl 28 _ _ rfl w.heap.size #[.slice a4 n4 c4, .int .i64 d2.cap, .int .i64 d2.ops, .bool d2.down, .bool d2.told, .int .i64 d2.after] rfl rfl _ #[.slice a n cap, .int .i64 d.cap, .int .i64 d.ops, .bool false, .bool d.told, .int .i64 d.after] HS4.out.d0.1 disk_info (by rfl) (by simp [Value.oneCell']) ?_; have HSA := Lib.hid (HS4.out.put HR4.out rfl))
        | (refine wpList_store_row rfl 28 _ _ rfl (w.heap.size + 2) #[.slice a4 n4 c4, .int .i64 d2.cap, .int .i64 d2.ops, .bool d2.down, .bool d2.told, .int .i64 d2.after] rfl rfl _ dz HSA.out.d2.1 disk_info (by rfl) (by simp [Value.oneCell']) ?_))
      obtain ⟨e1, e2, e3⟩ := HSA.out.done (cs' := #[.slice a4 n4 c4, .int .i64 d2.cap, .int .i64 d2.ops, .bool d2.down, .bool d2.told, .int .i64 d2.after]) HSA.out.rd rfl
      exact bodyPost_ret_by (results_row_tmp rfl _ _ (w.heap.size + 2) _ rfl (disk_load e1.1 rfl)) rfl ⟨_, rfl, e2, e3⟩
end Go.Proofs.YtpoiapfgbbmekaaGreatDoor
