/-
  WHAT THE REFERENCE'S Sector ANSWERS (layer 18), of a right header.
-/
import Derived.Test.YtncnmmillhnhlaaDoorHeadFd
import Derived.Test.YtncnmmillhnhlaaDoorHeadArm
import Derived.Test.YtncnmmillhnhlaaDoorCrcCode
import Derived.Test.YtncnmmillhnhlaaDoorPut
namespace Go.Proofs.YtncnmmillhnhlaaDoor
open Go.RowKit
theorem hrput_own (x : Int) (n : Nat) (hx : U64 x) (hn : n ≤ 8) (w : World) :
    Calls Tryd.prog 19 #[.int .u64 x, .int .i64 n] w fun e w' => ∃ a c, e = .returned (.slice a n c) ∧ w'.ownsRow w.heap.size 5 1 (.slice a n c) n (il .u8 (putL x n)) ∧ Below w.heap.size w w' :=
  (rput_any x n n hx (by unfold I63; omega) (by unfold clampI; omega) w).mono fun _ _ ⟨v, he, ho, hb⟩ => by
    obtain ⟨a, c, rfl⟩ := own_form ho
    exact ⟨a, c, he, ho, hb⟩
theorem wpl_mark_own {o : Oper} {a : Act} {w : World} {Q : Exit → Act → World → Prop} {ops : Array Oper} {rest : List Oper} (hgd : o.guard = none) (ho : o.op = .buildSlice 42 5 #[(0, .const (.int .u8 115)), (1, .const (.int .u8 116)), (2, .const (.int .u8 114)), (3, .const (.int .u8 100)), (4, .const (.int .u8 1))])
    (h : ∀ g w', Hid (w'.ownsRow w.heap.size 5 1 (.slice (some ⟨g, 0, none⟩) 5 5) 5 (il .u8 mark)) → Hid (Below w.heap.size w w') → wpList Tryd.prog ops Q rest (a.put o.dst (.slice (some ⟨g, 0, none⟩) 5 5)) w') : wpList Tryd.prog ops Q (o :: rest) a w := by
  obtain ⟨i, hi, hz0, hz1, hz2⟩ := info_parts Tryd.info_u8
  refine wpList_buildSlice hgd 42 5 5 _ ho (il .u8 mark).toArray i (.int .u8 0) Tryd.underlying42 hi hz0 (by rw [hz1]; omega) (by rw [hz1]; omega) ?_ (h w.heap.size _ (Lib.hid (World.ownsRow_lit w (il .u8 mark).toArray 5 (Nat.le_refl _) (by unfold maxLen; omega) rfl)) (balloc w _))
  rw [hz1]
  rw [parts_eval a #[(0, .const (.int .u8 115)), (1, .const (.int .u8 116)), (2, .const (.int .u8 114)), (3, .const (.int .u8 100)), (4, .const (.int .u8 1))] .u8 mark rfl]
  exact Great.fill_flat (il .u8 mark) _ (fun v hv => by obtain ⟨x, _, rfl⟩ := List.mem_map.1 hv; rfl) (by simp [il, mark])
/-- a row, its length and its numbers told otherwise -/
theorem own_as {w : World} {base : Nat} {e : TypeId} {v : Value} {n m : Nat} {xs ys : List Int} (h : w.ownsRow base e 1 v n (il .u8 xs)) (hx : xs = ys) (hm : n = m) : ∃ a c, v = .slice a m c ∧ w.ownsRow base e 1 (.slice a m c) m (il .u8 ys) := by
  subst hx; subst hm
  obtain ⟨a, c, rfl⟩ := own_form h
  exact ⟨a, c, rfl, h⟩
/-- bytes that are stored one by one -/
def padk (B : List Int) (k : Nat) : List Int := B.take k ++ List.replicate (64 - k) 0
theorem padk_zero (B : List Int) : padk B 0 = z64 := rfl
theorem padk_set (B : List Int) (k : Nat) (hk : k < B.length) (h64 : k < 64) : (padk B k).set k (B.getD k 0) = padk B (k + 1) := by
  unfold padk
  have h1 : (B.take k).length = k := by rw [List.length_take]; omega
  rw [List.set_append_right _ _ (by omega), h1, Nat.sub_self, show 64 - k = (64 - (k + 1)) + 1 from by omega, List.replicate_succ, List.set_cons_zero, List.take_succ_eq_append_getElem hk, List.append_assoc]
  simp [List.getD, hk]
theorem padk_all {h : Hdr} (hn : h.l.length = 4) : padk (headB h) 41 = secH h := by
  unfold padk secH
  rw [List.take_of_length_le (by rw [headB_length hn]; omega)]
theorem put4_takeR (l : List Int) (i : Nat) (hi : i < l.length) : put4 (l.take i) ++ putL (l.getD i 0) 4 = put4 (l.take (i + 1)) := by
  rw [List.take_succ_eq_append_getElem hi, put4_snoc]
  simp [List.getD, hi]
set_option maxRecDepth 8000 in
set_option maxHeartbeats 4000000 in
theorem rsector_any (h : Hdr) (ht : HdT h) (hk : hdOk h = true) (w : World) :
    Calls Tryd.prog 12 #[.agg (hv h)] w fun r w' => r = .returned (.agg (sv (secH h))) ∧ Below w.heap.size w w' := by
  have hok := hdOk_parts hk
  obtain ⟨w0, hw0⟩ : ∃ q, (w.alloc (.cells (hv h) 25)).alloc (.cells (sv z64) 27) = q := ⟨_, rfl⟩
  have hs1 : (w.alloc (.cells (hv h) 25)).heap.size = w.heap.size + 1 := alloc_size w _
  have HK := Lib.hid (show HB w0 w.heap.size h from by rw [← hw0]; exact (HB.new w h ht.n).keep (balloc _ _))
  have HO := Lib.hid (show Blk w0 (w.heap.size + 1) z64 from by rw [← hw0, ← hs1]; exact Blk.new _ z64 z64_length)
  have HW := Lib.hid (show Below w.heap.size w w0 from by rw [← hw0]; exact bch (balloc w _) (balloc _ _))
  have HSZ := Lib.hid (show w0.heap.size = w.heap.size + 2 from by rw [← hw0, alloc_size, hs1])
  have HLN := Lib.hid ht.n
  have HLB := Lib.hid (show ∀ x ∈ h.l, 0 ≤ x ∧ x ≤ 2147483647 from fun x hx => by have := hok.2.2.2 x hx; have := hok.2.2.1; omega)
  have HBL := Lib.hid (headB_length ht.n)
  have HPA := Lib.hid (padk_all ht.n)
  have HSL := Lib.hid (secH_length ht.n)
  have HZ := Lib.hid z64_cells
  rw [z64_cells] at hw0
  have he : 0 ≤ h.e ∧ h.e ≤ 18446744073709551615 := ht.e
  have hs := hok.2.1
  have hf := hok.2.2.1
  obtain ⟨m, hm⟩ : ∃ m, headS h = m := ⟨_, rfl⟩
  have HM : Hid (maskS (ofS (headP h)) = m) := Lib.hid hm
  have HBM := Lib.hid (show headP h ++ putL m 4 = headB h from by rw [← hm]; rfl)
  have hm9 : (m : Int) ≤ 4294967295 := by rw [← hm]; have := headS_lt h; omega
  obtain ⟨oo, hoo⟩ : ∃ q, ofS (headP h) = q := ⟨_, rfl⟩
  have HOO := Lib.hid hoo
  have HOL := Lib.hid (show oo < 4294967296 from by rw [← hoo]; exact ofS_lt _)
  have HMM := Lib.hid (show maskS oo = m from by rw [← hoo]; exact HM.out)
  have HPB : Hid (∀ x ∈ headP h, 0 ≤ x ∧ x ≤ 255) := Lib.hid (headP_bytes h)
  have HPE := Lib.hid (show headP h = mark ++ putL h.e 8 ++ putL h.s 4 ++ putL h.f 4 ++ put4 h.l from rfl)
  obtain ⟨e, s, f, l⟩ := h
  dsimp only at *
  obtain ⟨z0, z1, z2⟩ := HK.out.cells
  dsimp only at z0 z1 z2
  have HP8 : Hid (∀ w, Calls Tryd.prog 19 #[.int .u64 e, .int .i64 8] w fun r w' => ∃ a c, r = .returned (.slice a 8 c) ∧ w'.ownsRow w.heap.size 5 1 (.slice a 8 c) 8 (il .u8 (putL e 8)) ∧ Below w.heap.size w w') := Lib.hid (hrput_own e 8 (by unfold U64; omega) (by omega))
  have HPS : Hid (∀ w, Calls Tryd.prog 19 #[.int .u64 s, .int .i64 4] w fun r w' => ∃ a c, r = .returned (.slice a 4 c) ∧ w'.ownsRow w.heap.size 5 1 (.slice a 4 c) 4 (il .u8 (putL s 4)) ∧ Below w.heap.size w w') := Lib.hid (hrput_own s 4 (by unfold U64; omega) (by omega))
  have HPF : Hid (∀ w, Calls Tryd.prog 19 #[.int .u64 f, .int .i64 4] w fun r w' => ∃ a c, r = .returned (.slice a 4 c) ∧ w'.ownsRow w.heap.size 5 1 (.slice a 4 c) 4 (il .u8 (putL f 4)) ∧ Below w.heap.size w w') := Lib.hid (hrput_own f 4 (by unfold U64; omega) (by omega))
  have HPM : Hid (∀ w, Calls Tryd.prog 19 #[.int .u64 m, .int .i64 4] w fun r w' => ∃ a c, r = .returned (.slice a 4 c) ∧ w'.ownsRow w.heap.size 5 1 (.slice a 4 c) 4 (il .u8 (putL m 4)) ∧ Below w.heap.size w w') := Lib.hid (hrput_own m 4 (by unfold U64; omega) (by omega))
  clear hok hk ht hs1 hm hoo
  go_enter Tryd.func12, Tryd.ntmps12
  go_wp2_with (first
    | (at_builtin; refine wpl_appn rfl (.tmp 18) (.tmp 22) 42 rfl 5 .u8 1 Tryd.underlying42 Tryd.info_u8 w0.heap.size _ (5 + 8 + 4) (mark ++ putL e 8 ++ putL s 4) rfl HO5K _ 4 (putL f 4) rfl (RI.own HO6.out) (by omega) (by omega) w0.heap.size w0 HB6 (Nat.le_refl _) HB6.out.size ?_; intro v7 w7 HO7 HB7)
    | (at_builtin; refine wpl_appn rfl (.tmp 12) (.tmp 16) 42 rfl 5 .u8 1 Tryd.underlying42 Tryd.info_u8 w0.heap.size _ (5 + 8) (mark ++ putL e 8) rfl HO3K _ 4 (putL s 4) rfl (RI.own HO4.out) (by omega) (by omega) w0.heap.size w0 HB4 (Nat.le_refl _) HB4.out.size ?_; intro v5 w5 HO5 HB5; obtain ⟨q0, q1, q2⟩ := (HK.out.keep HB5.out).cells; dsimp only at q0 q1 q2)
    | (at_builtin; refine wpl_appn rfl (.tmp 7) (.tmp 10) 42 rfl 5 .u8 1 Tryd.underlying42 Tryd.info_u8 w0.heap.size _ 5 mark rfl HO1K _ 8 (putL e 8) rfl (RI.own HO2.out) (by omega) (by omega) w0.heap.size w0 HB2 (Nat.le_refl _) HB2.out.size ?_; intro v3 w3 HO3 HB3; obtain ⟨y0, y1, y2⟩ := (HK.out.keep HB3.out).cells; dsimp only at y0 y1 y2)
    | (refine wpl_mark_own rfl rfl ?_; intro g1 w1 HO1 HB1; obtain ⟨x0, x1, x2⟩ := (HK.out.keep HB1.out).cells; dsimp only at x0 x1 x2)
    | (go_at_call 19; (with_reducible refine (HP8.out _).mono ?_); rintro r w2 ⟨a2, c2, rfl, ho2, hb2⟩; have HO1K := Lib.hid (own_keep HO1.out hb2); have HO2 := Lib.hid ho2; have HB2 := Lib.hid (bch HB1.out hb2); clear ho2 hb2)
    | (go_at_call 19; (with_reducible refine (HPS.out _).mono ?_); rintro r w4 ⟨a4, c4, rfl, ho4, hb4⟩; have HO3K := Lib.hid (own_keep HO3.out hb4); have HO4 := Lib.hid ho4; have HB4 := Lib.hid (bch HB3.out hb4); clear ho4 hb4)
    | (go_at_call 19; (with_reducible refine (HPF.out _).mono ?_); rintro r w6 ⟨a6, c6, rfl, ho6, hb6⟩; have HO5K := Lib.hid (own_keep HO5.out hb6); have HO6 := Lib.hid ho6; have HB6 := Lib.hid (bch HB5.out hb6); clear ho6 hb6))
  go_loopw [3, 4] (fun v iv wr => ∃ (i n : Nat) (a : Option Addr) (c : Nat), iv = .int .i64 i ∧ i ≤ 4 ∧ v = .slice a n c ∧ 21 + 4 * i = n ∧ Hid (wr.ownsRow w0.heap.size 5 1 (.slice a n c) n (il .u8 (mark ++ putL e 8 ++ putL s 4 ++ putL f 4 ++ put4 (l.take i)))) ∧ Hid (Below w0.heap.size w0 wr)) (fun _ iv _ => 4 - (intOf iv).toNat)
  case atStart =>
    obtain ⟨a, c, rfl, ho⟩ := own_as (m := 21) HO7.out (show _ = mark ++ putL e 8 ++ putL s 4 ++ putL f 4 ++ put4 (l.take 0) from by simp [put4]) (by omega)
    exact ⟨0, 21, a, c, rfl, by omega, rfl, rfl, Lib.hid ho, HB7⟩
  case round =>
    obtain ⟨i, n, a, c, rfl, hi, rfl, hn, HOR, HBR⟩ := hrel
    by_cases hlt : i < 4
    · obtain ⟨x, hx⟩ : ∃ x, l.getD i 0 = x := ⟨_, rfl⟩
      have hcx := (HK.out.keep HBR.out).head i hlt
      dsimp only at hcx
      rw [hx] at hcx
      have HXB := Lib.hid (show 0 ≤ x ∧ x ≤ 2147483647 from by rw [← hx]; exact HLB.out _ (getD_memL (by rw [HLN.out]; exact hlt)))
      have HPX := Lib.hid (put4_takeR l i (by rw [HLN.out]; exact hlt))
      rw [hx] at HPX
      have hx0 := HXB.out.1
      have hx1 := HXB.out.2
      have HPU : Hid (∀ w, Calls Tryd.prog 19 #[.int .u64 x, .int .i64 4] w fun r w' => ∃ a c, r = .returned (.slice a 4 c) ∧ w'.ownsRow w.heap.size 5 1 (.slice a 4 c) 4 (il .u8 (putL x 4)) ∧ Below w.heap.size w w') := Lib.hid (hrput_own x 4 (by unfold U64; omega) (by omega))
      have hlt2 : (i : Int) < 4 := by omega
      clear hx
      go_wp2_with (first
        | (go_at_call 19; (with_reducible refine (HPU.out _).mono ?_); rintro r w8 ⟨a8, c8, rfl, ho8, hb8⟩; have HORK := Lib.hid (own_keep HOR.out hb8); have HO8 := Lib.hid ho8; have HB8 := Lib.hid (bch HBR.out hb8); clear ho8 hb8)
        | (at_builtin; refine wpl_appn rfl (.tmp 28) (.tmp 34) 42 rfl 5 .u8 1 Tryd.underlying42 Tryd.info_u8 w0.heap.size _ n _ rfl HORK _ 4 (putL x 4) rfl (RI.own HO8.out) (by omega) (by omega) w0.heap.size w0 HB8 (Nat.le_refl _) HB8.out.size ?_; intro v9 w9 HO9 HB9))
      go_roundw
      case rel =>
        obtain ⟨a9, c9, rfl, ho9⟩ := own_as (m := n + 4) HO9.out (show _ = mark ++ putL e 8 ++ putL s 4 ++ putL f 4 ++ put4 (l.take (i + 1)) from by rw [List.append_assoc, HPX.out]) rfl
        exact ⟨i + 1, n + 4, a9, c9, by go_num, by omega, rfl, by omega, Lib.hid ho9, HB9⟩
      case measure => simp [intOf]; omega
    · obtain rfl : i = 4 := by omega
      obtain rfl : n = 37 := by omega
      have HOF : Hid (wr.ownsRow w0.heap.size 5 1 (.slice a 37 c) 37 (il .u8 (headP ⟨e, s, f, l⟩))) := Lib.hid (by have h1 := HOR.out; rwa [List.take_of_length_le (by rw [HLN.out]; omega), ← HPE.out] at h1)
      obtain ⟨PP, hPP⟩ : ∃ q, headP ⟨e, s, f, l⟩ = q := ⟨_, rfl⟩
      rw [hPP] at HOF HOO HPB HBM
      obtain ⟨wz, hwz⟩ : ∃ q, q = wr := ⟨_, rfl⟩
      subst hwz
      clear hPP
      go_wp2_with (first
        | (go_at_call 21; (with_reducible refine (rof_any (RI.own HOF.out) HPB.out HOO.out).mono ?_); rintro r w' ⟨rfl, rfl⟩)
        | (go_at_call 20; (with_reducible refine (rmask_at oo m HOL.out HMM.out _).mono ?_); rintro r w' ⟨rfl, rfl⟩)
        | (go_at_call 19; (with_reducible refine (HPM.out _).mono ?_); rintro r w8 ⟨a8, c8, rfl, ho8, hb8⟩; have HOFK := Lib.hid (own_keep HOF.out hb8); have HO8 := Lib.hid ho8; have HB8 := Lib.hid (bch HBR.out hb8); clear ho8 hb8)
        | (at_builtin; refine wpl_appn rfl (.tmp 36) (.tmp 41) 42 rfl 5 .u8 1 Tryd.underlying42 Tryd.info_u8 w0.heap.size _ 37 PP rfl HOFK _ 4 (putL m 4) rfl (RI.own HO8.out) (by omega) (by omega) w0.heap.size w0 HB8 (Nat.le_refl _) HB8.out.size ?_; intro v9 w9 HO9 HB9; obtain ⟨a9, c9, rfl, ho9⟩ := own_as (m := 41) HO9.out HBM.out (by omega); have HOB := Lib.hid ho9; clear ho9)
        | (refine wpl_build_sec rfl (by rfl) ?_)
        | (rw [← HZ.out]; refine wpl_put_sec rfl (.tmp 5) (.tmp 43) rfl w9.heap.size z64 z64 (Blk.new w9 z64 z64_length) z64_length rfl rfl ?_; intro wA HKA HGA))
      have HG9 : Hid (w0.heap.size ≤ w9.heap.size) := Lib.hid HB9.out.size
      have HRI : Hid (∀ wq, wA.grownBy wq (some w9.heap.size) → RI .u8 wq (.slice a9 41 c9) 41 (headB ⟨e, s, f, l⟩)) := Lib.hid fun wq hq => by
        have h1 : (w9.alloc (.cells (sv z64) 27)).grownBy wq (some w9.heap.size) := hgrown_trans HGA.out hq
        exact ((RI.own HOB.out).keep (balloc w9 _)).over _ h1 fun _ q hq2 e2 => by have := (HOB.out.lt q hq2).2; have := Option.some.inj e2; omega
      obtain ⟨BB, hBB⟩ : ∃ q, headB ⟨e, s, f, l⟩ = q := ⟨_, rfl⟩
      rw [hBB] at HRI HBL HPA
      go_loopw [6] (fun iv wr2 => ∃ k : Nat, iv = .int .i64 k ∧ k ≤ 41 ∧ Hid (Blk wr2 w9.heap.size (padk BB k)) ∧ Hid (wA.grownBy wr2 (some w9.heap.size))) (fun iv _ => 41 - (intOf iv).toNat)
      case atStart => exact ⟨0, rfl, by omega, HKA, Lib.hid (hgrown_refl _ _)⟩
      case round =>
        obtain ⟨k, rfl, hk, HKR, HGR⟩ := hrel
        by_cases hlt2 : k < 41
        · obtain ⟨b, off, cp, e1, _, _, hcell⟩ := (HRI.out _ HGR.out).open_ (by omega)
          simp only [Value.slice.injEq, true_and] at e1
          obtain ⟨rfl, rfl⟩ := e1
          have hc1 := hcell k hlt2
          obtain ⟨x, hx⟩ : ∃ x, BB.getD k 0 = x := ⟨_, rfl⟩
          rw [hx] at hc1
          have hc2 := HKR.out.cell k (by omega)
          have hf2 := HKR.out.frozen k
          have HPD := Lib.hid (padk_set BB k (by rw [HBL.out]; exact hlt2) (by omega))
          rw [hx] at HPD
          have hk41 : (k : Int) < 41 := by omega
          clear hx hcell
          go_wp2
          go_roundw
          case rel => exact ⟨k + 1, by go_num, by omega, Lib.hid (by rw [← HPD.out]; exact HKR.out.stored k x), Lib.hid (hgrown_trans HGR.out (HB.set_grown _ _ _ _))⟩
          case measure => simp [intOf]; omega
        · obtain rfl : k = 41 := by omega
          rw [HPA.out] at HKR
          have HNE := Lib.hid (show w.heap.size + 1 ≠ w9.heap.size from by have := HG9.out; have := HSZ.out; omega)
          have HOZ := Lib.hid ((((HO.out.keep HB9.out).keep (balloc w9 _)).over HGA.out HNE.out).over HGR.out HNE.out)
          have HGE := Lib.hid (show w.heap.size ≤ w9.heap.size from by have := HG9.out; have := HSZ.out; omega)
          have HWA := Lib.hid (hbelow_grown (bch (bch HW.out HB9.out) (balloc w9 _)) HGA.out HGE.out (bch (bch HW.out HB9.out) (balloc w9 _)).size)
          have HWR := Lib.hid (hbelow_grown HWA.out HGR.out HGE.out HWA.out.size)
          go_wp2_with (first
            | (refine wpl_load_sec (by rfl) (.tmp 5) rfl w9.heap.size rfl (secH ⟨e, s, f, l⟩) HKR.out ?_)
            | (refine wpl_put_sec rfl (.tmp 2) (.tmp 56) rfl (w.heap.size + 1) z64 (secH ⟨e, s, f, l⟩) HOZ.out HSL.out rfl rfl ?_; intro wf HOF2 HGF))
          refine bodyPost_ret_by (v := .agg (sv (secH ⟨e, s, f, l⟩))) (results_cell_row rfl _ _ (w.heap.size + 1) _ (sv (secH ⟨e, s, f, l⟩)) (0, 0) _ rfl HOF2.out.1 Tryd.underlying27 rfl (sv_info _ HSL.out)) rfl ⟨rfl, hbelow_grown HWR.out HGF.out (by omega) HWR.out.size⟩
end Go.Proofs.YtncnmmillhnhlaaDoor
