/-
  LAYER 20 (tear), the reference's Lengths: of records that fit. No condition of ours.
-/
import Derived.Test.YtepaghohojomeaaDoorJ10
import Derived.Test.YtepaghohojomeaaDoorJ12
import Derived.Test.YtepaghohojomeaaDoorJ11
import Derived.Test.YtepaghohojomeaaDoorJ24
namespace Go.Proofs.YtepaghohojomeaaDoor
open Go.RowKit
theorem ri_new2 (w : World) (x y : Int) : RI .i64 (w.alloc (.cells #[.int .i64 x, .int .i64 y] 3)) (.slice (some ⟨w.heap.size, 0, none⟩) 2 2) 2 [x, y] := by
  refine ⟨_, 2, rfl, rfl, Nat.le_refl _, by omega, fun h => by simp at h, fun _ => ⟨w.heap.size, 0, rfl, fun j hj => ?_⟩⟩
  match j, hj with
  | 0, _ => exact cell_of_row _ w.heap.size 0 _ _ _ (heap_alloc_last w _)
  | 1, _ => exact cell_of_row _ w.heap.size 1 _ _ _ (heap_alloc_last w _)
theorem RI.drew {k : IntKind} {w : World} {v : Value} {n : Nat} {zs : List Int} (h : RI k w v n zs) : RI k w.drew v n zs := h.keep (Below.refl _ w).drew
set_option maxRecDepth 8000 in
set_option maxHeartbeats 8000000 in
theorem rlengths_any (lv : Value) (N : Nat) (ls : List (List Int)) (hN : N ≤ 1000000) (hlb : ∀ l ∈ ls, isB l) (hf : fitsF ls = true) (w : World) (hrl : RL .u8 w lv N ls) :
    Calls Tryd.prog 16 #[lv] w fun r w' => ∃ a nn c, r = .returned (.slice a nn c) ∧ RI .i64 w' (.slice a nn c) nn (lenF ls ls.length) ∧ Below w.heap.size w w' := by
  have hll := hrl.length
  have hu1 : U64 1 := by unfold U64; omega
  have HLY := rlay_any 1 hu1 lv N ls (by omega) hlb w hrl
  obtain ⟨la, lc, rfl, _⟩ := hrl.form
  have HRL := Lib.hid hrl
  have HLL := Lib.hid hll
  have HL0 : Hid (Calls Tryd.prog 18 #[.int .u64 1, .slice la N lc] w fun r w' => ∃ g pa pc e, r = .returned (.tuple #[.slice (some ⟨g, 0, none⟩) 832 832, .slice pa N pc, .int .i64 e, .bool true]) ∧ RI .i64 w' (.slice pa N pc) N (placesF ls) ∧ Below w.heap.size w w') := Lib.hid ((lay_yes HLY hf).mono fun r w' ⟨g, pa, pc, h1, _, h2, h3⟩ => ⟨g, pa, pc, _, h1, RI.own h2, h3⟩)
  have HPG : Hid (∀ i, i < N → (placesF ls).getD i 0 = ((beginN (endF (ls.take i)) : Nat) : Int)) := Lib.hid fun i hi => by
    have hil : i < ls.length := by rw [HLL.out]; exact hi
    simp [placesF, List.getD, hil]
  have HCF : Hid (∀ (i : Nat) (n : Nat), pcsI ((beginN (endF (ls.take i)) : Nat) : Int) (n : Int) = pcsI ((endF (ls.take i) : Nat) : Int) (n : Int)) := Lib.hid fun i n => by
    have := (pcs_begin ((endF (ls.take i) : Nat) : Int) (n : Int)).2
    rwa [nr_nat _ (endF_le _)] at this
  clear HLY hf hlb hrl hll hu1
  go_enter Tryd.func16, Tryd.ntmps16
  go_wp2_with (first
    | (go_at_call 18; (refine HL0.out.mono ?_); rintro r wf ⟨g1, pa, pc, e1, rfl, hp, hb⟩; have HBF := Lib.hid hb; have HPF := Lib.hid hp; clear hb hp))
  go_loopw [7, 8] (fun ov iv wr => ∃ (i on : Nat) (oa : Option Addr) (oc : Nat), iv = .int .i64 (i : Int) ∧ ov = .slice oa on oc ∧ i ≤ N ∧ on ≤ 150 * i ∧ Hid (wr.ownsRow wf.heap.size 3 1 (.slice oa on oc) on (il .i64 (lenF ls i))) ∧ Hid (Below wf.heap.size wf wr)) (fun _ iv _ => N - (intOf iv).toNat)
  case atStart => exact ⟨0, 0, none, 0, rfl, rfl, by omega, by omega, Lib.hid (World.ownsRow_nil _ _ _ _), Lib.hid (Below.refl _ _)⟩
  case round =>
    obtain ⟨i, on, oa, oc, rfl, rfl, hi, hon, HO, HB⟩ := hrel
    rename World => wo
    by_cases hlt : (i : Int) < (N : Int)
    · obtain ⟨pb, po, rfl, hcell⟩ := HPF.out.at_ (by omega)
      have d1 := hcell i (by omega)
      rw [HPG.out i (by omega)] at d1
      obtain ⟨lb, lo, rfl, hat⟩ := (HRL.out.keep HBF.out).at_ (by omega)
      obtain ⟨xa, c, hc, hr⟩ := hat i (by omega)
      obtain ⟨zs, hzs⟩ : ∃ zs, ls.getD i [] = zs := ⟨_, rfl⟩
      rw [hzs] at hc hr
      obtain ⟨q, hq⟩ : ∃ q, zs.length = q := ⟨_, rfl⟩
      rw [hq] at hc hr
      have hq63 := hr.le
      have HCN : Hid (lenF ls (i + 1) = lenF ls i ++ lenR (pcsI ((endF (ls.take i) : Nat) : Int) (q : Int))) := Lib.hid (by rw [lenF, hzs, hq])
      have hbe := HCF.out i q
      have hb8 : beginN (endF (ls.take i)) ≤ 832 := begin_le _ (endF_le _)
      obtain ⟨bg, hbg⟩ : ∃ bg, beginN (endF (ls.take i)) = bg := ⟨_, rfl⟩
      rw [hbg] at d1 hbe hb8
      have HPT : Hid (∀ (j : Nat) (c : PC), (pcsI ((endF (ls.take i) : Nat) : Int) (q : Int))[j]? = some c → ∃ (p : Nat), c.at_ = (p : Int) ∧ p + 11 ≤ 832) := Lib.hid fun j c h => by
        obtain ⟨_, p, l, k, _, hf⟩ := pc_fit h
        exact ⟨p, hf.at_, by have := hf.room; omega⟩
      have h75 := pcs_len ((endF (ls.take i) : Nat) : Int) (q : Int)
      generalize pcsI ((endF (ls.take i) : Nat) : Int) (q : Int) = ps at *
      have HCT : Hid (∀ w, Calls Tryd.prog 20 #[.int .i64 (bg : Int), .int .i64 (q : Int)] w fun r w' => ∃ v e f, r = .returned (.tuple #[v, .int .i64 e, .bool f]) ∧ w'.ownsRow w.heap.size 67 4 v ps.length (pF ps) ∧ Below w.heap.size w w') := Lib.hid fun w => (rcut_any (bg : Int) (q : Int) (by unfold I63; omega) (by unfold I63; omega) w).mono fun r w' ⟨v, h1, h2, h3⟩ => by
        rw [hbe] at h2
        exact ⟨v, _, _, h1, h2, h3⟩
      obtain ⟨m, hm⟩ : ∃ m, ps.length = m := ⟨_, rfl⟩
      rw [hm] at HCT h75
      have HM := Lib.hid hm
      have HST : Hid (wo.drew.cell? ⟨pb, po + i, none⟩ = some (.int .i64 (bg : Int)) ∧ wo.drew.cell? ⟨lb, lo + i, none⟩ = some (.slice xa q c)) := Lib.hid ⟨cell_keep HB.out.drew d1, cell_keep HB.out.drew hc⟩
      clear hcell hat hzs hq hbe hr hm hbg hb8 HPG HCF HL0 d1 hc hq63
      go_wp2_with fail
      refine wp_region_held_drew (S := (fun w' => w'.cell? ⟨pb, po + i, none⟩ = some (.int .i64 (bg : Int)) ∧ w'.cell? ⟨lb, lo + i, none⟩ = some (.slice xa q c))) (by kernel_rfl) HST.out (fun hS => ?_)
      refine wpAnyH_take (i := 0) (oi := ({ dst := some 27, op := Op.move (Operand.tmp 4), type := 32, pos := "ref.go:39", after := #[], guard := none } : Oper)) (v := ?_) rfl (by kernel_rfl) (by kernel_rfl) (by kernel_rfl) (fun _ _ _ h => h) (Or.inl ⟨by rfl, ?_⟩) hS ?_
      rotate_left
      · (intro w hSw; (try dsimp only at hSw); go_simp; try with_reducible rfl)
      (try simp only [Act.put, List.setIfInBounds_toArray, List.set_cons_zero, List.set_cons_succ])
      refine wpAnyH_take (i := 1) (oi := ({ dst := some 28, op := Op.move (Operand.tmp 8), type := 3, pos := "ref.go:39", after := #[], guard := none } : Oper)) (v := ?_) rfl (by kernel_rfl) (by kernel_rfl) (by kernel_rfl) (fun _ _ _ h => h) (Or.inl ⟨by rfl, ?_⟩) hS ?_
      rotate_left
      · (intro w hSw; (try dsimp only at hSw); go_simp; try with_reducible rfl)
      (try simp only [Act.put, List.setIfInBounds_toArray, List.set_cons_zero, List.set_cons_succ])
      refine wpAnyH_take (i := 2) (oi := ({ dst := some 29, op := Op.indexAddr 32 (Operand.tmp 27) (Operand.tmp 28), type := 0, pos := "ref.go:39", after := #[{ on := 0, ground := Ground.data }, { on := 1, ground := Ground.data }], guard := none } : Oper)) (v := ?_) rfl (by kernel_rfl) (by kernel_rfl) (by kernel_rfl) (fun _ _ _ h => h) (Or.inl ⟨by rfl, ?_⟩) hS ?_
      rotate_left
      · (intro w hSw; (try dsimp only at hSw); go_simp; try with_reducible rfl)
      (try simp only [Act.put, List.setIfInBounds_toArray, List.set_cons_zero, List.set_cons_succ])
      refine wpAnyH_take (i := 3) (oi := ({ dst := some 30, op := Op.load 3 (Operand.tmp 29), type := 3, pos := "ref.go:39", after := #[{ on := 2, ground := Ground.data }], guard := none } : Oper)) (v := ?_) rfl (by kernel_rfl) (by kernel_rfl) (by kernel_rfl) (fun _ _ _ h => h) (Or.inl ⟨by rfl, ?_⟩) hS ?_
      rotate_left
      · (intro w hSw; (try dsimp only at hSw); go_simp; try with_reducible rfl)
      (try simp only [Act.put, List.setIfInBounds_toArray, List.set_cons_zero, List.set_cons_succ])
      refine wpAnyH_take (i := 4) (oi := ({ dst := some 31, op := Op.move (Operand.tmp 0), type := 23, pos := "ref.go:39", after := #[], guard := none } : Oper)) (v := ?_) rfl (by kernel_rfl) (by kernel_rfl) (by kernel_rfl) (fun _ _ _ h => h) (Or.inl ⟨by rfl, ?_⟩) hS ?_
      rotate_left
      · (intro w hSw; (try dsimp only at hSw); go_simp; try with_reducible rfl)
      (try simp only [Act.put, List.setIfInBounds_toArray, List.set_cons_zero, List.set_cons_succ])
      refine wpAnyH_take (i := 5) (oi := ({ dst := some 32, op := Op.move (Operand.tmp 8), type := 3, pos := "ref.go:39", after := #[], guard := none } : Oper)) (v := ?_) rfl (by kernel_rfl) (by kernel_rfl) (by kernel_rfl) (fun _ _ _ h => h) (Or.inl ⟨by rfl, ?_⟩) hS ?_
      rotate_left
      · (intro w hSw; (try dsimp only at hSw); go_simp; try with_reducible rfl)
      (try simp only [Act.put, List.setIfInBounds_toArray, List.set_cons_zero, List.set_cons_succ])
      refine wpAnyH_take (i := 6) (oi := ({ dst := some 33, op := Op.indexAddr 23 (Operand.tmp 31) (Operand.tmp 32), type := 0, pos := "ref.go:39", after := #[{ on := 4, ground := Ground.data }, { on := 5, ground := Ground.data }], guard := none } : Oper)) (v := ?_) rfl (by kernel_rfl) (by kernel_rfl) (by kernel_rfl) (fun _ _ _ h => h) (Or.inl ⟨by rfl, ?_⟩) hS ?_
      rotate_left
      · (intro w hSw; (try dsimp only at hSw); go_simp; try with_reducible rfl)
      (try simp only [Act.put, List.setIfInBounds_toArray, List.set_cons_zero, List.set_cons_succ])
      refine wpAnyH_take (i := 7) (oi := ({ dst := some 34, op := Op.load 43 (Operand.tmp 33), type := 43, pos := "ref.go:39", after := #[{ on := 6, ground := Ground.data }], guard := none } : Oper)) (v := ?_) rfl (by kernel_rfl) (by kernel_rfl) (by kernel_rfl) (fun _ _ _ h => h) (Or.inl ⟨by rfl, ?_⟩) hS ?_
      rotate_left
      · (intro w hSw; (try dsimp only at hSw); go_simp; try with_reducible rfl)
      (try simp only [Act.put, List.setIfInBounds_toArray, List.set_cons_zero, List.set_cons_succ])
      refine wpAnyH_take (i := 8) (oi := ({ dst := some 35, op := Op.call { callee := Callee.builtin Builtin.len, args := #[Operand.tmp 34], argTypes := #[43] }, type := 3, pos := "ref.go:39", after := #[{ on := 7, ground := Ground.data }], guard := none } : Oper)) (v := ?_) rfl (by kernel_rfl) (by kernel_rfl) (by kernel_rfl) (fun _ _ _ h => h) (Or.inl ⟨by rfl, ?_⟩) hS ?_
      rotate_left
      · (intro w hSw; (try dsimp only at hSw); go_simp; try with_reducible rfl)
      (try simp only [Act.put, List.setIfInBounds_toArray, List.set_cons_zero, List.set_cons_succ])
      refine rg_one 9 ({ dst := some 36, op := Op.call { callee := Callee.value (Operand.func 20), args := #[Operand.tmp 30, Operand.tmp 35], argTypes := #[3, 3] }, type := 64, pos := "ref.go:39", after := #[{ on := 3, ground := Ground.data }, { on := 8, ground := Ground.data }], guard := none } : Oper) (by kernel_rfl) rfl (fun K hK => ?_)
      go_simp
      (go_at_call 20; (refine (HCT.out _).mono ?_); rintro r w2 ⟨v2, e2, f2, rfl, ho, hb⟩; have hN := (show w2.cell? ⟨pb, po + i, none⟩ = some (.int .i64 (bg : Int)) ∧ w2.cell? ⟨lb, lo + i, none⟩ = some (.slice xa q c) from ⟨cell_keep hb HST.out.1, cell_keep hb HST.out.2⟩); have HP2 := Lib.hid ho; have HB2 := Lib.hid (bch (Below.refl wo.heap.size wo).drew hb); clear hb ho)
      refine hK.out _ _ ?_ (fun hS1 => ?_)
      · (first | exact hN | exact hS)
      clear hK K hS; have hS := hS1; clear hS1
      (try simp only [Act.put, List.setIfInBounds_toArray, List.set_cons_zero, List.set_cons_succ])
      refine wpAnyH_take (i := 10) (oi := ({ dst := some 26, op := Op.move (Operand.tmp 36), type := 64, pos := "ref.go:39", after := #[{ on := 9, ground := Ground.data }], guard := none } : Oper)) (v := ?_) rfl (by kernel_rfl) (by kernel_rfl) (by kernel_rfl) (fun _ _ _ h => h) (Or.inl ⟨by rfl, ?_⟩) hS ?_
      rotate_left
      · (intro w hSw; (try dsimp only at hSw); go_simp; try with_reducible rfl)
      (try simp only [Act.put, List.setIfInBounds_toArray, List.set_cons_zero, List.set_cons_succ])
      refine wpAnyH_take (i := 11) (oi := ({ dst := some 37, op := Op.extract (Operand.tmp 26) 0, type := 63, pos := "ref.go:39", after := #[{ on := 10, ground := Ground.data }], guard := none } : Oper)) (v := ?_) rfl (by kernel_rfl) (by kernel_rfl) (by kernel_rfl) (fun _ _ _ h => h) (Or.inl ⟨by rfl, ?_⟩) hS ?_
      rotate_left
      · (intro w hSw; (try dsimp only at hSw); go_simp; try with_reducible rfl)
      (try simp only [Act.put, List.setIfInBounds_toArray, List.set_cons_zero, List.set_cons_succ])
      refine wpAnyH_take (i := 12) (oi := ({ dst := some 38, op := Op.extract (Operand.tmp 26) 1, type := 3, pos := "ref.go:39", after := #[{ on := 10, ground := Ground.data }, { on := 14, ground := Ground.gcOnly Departure.lateStores }], guard := none } : Oper)) (v := ?_) rfl (by kernel_rfl) (by kernel_rfl) (by kernel_rfl) (fun _ _ _ h => h) (Or.inl ⟨by rfl, ?_⟩) hS ?_
      rotate_left
      · (intro w hSw; (try dsimp only at hSw); go_simp; try with_reducible rfl)
      (try simp only [Act.put, List.setIfInBounds_toArray, List.set_cons_zero, List.set_cons_succ])
      refine wpAnyH_take (i := 13) (oi := ({ dst := some 39, op := Op.extract (Operand.tmp 26) 2, type := 4, pos := "ref.go:39", after := #[{ on := 10, ground := Ground.data }, { on := 15, ground := Ground.gcOnly Departure.lateStores }], guard := none } : Oper)) (v := ?_) rfl (by kernel_rfl) (by kernel_rfl) (by kernel_rfl) (fun _ _ _ h => h) (Or.inl ⟨by rfl, ?_⟩) hS ?_
      rotate_left
      · (intro w hSw; (try dsimp only at hSw); go_simp; try with_reducible rfl)
      (try simp only [Act.put, List.setIfInBounds_toArray, List.set_cons_zero, List.set_cons_succ])
      refine wpAnyH_take (i := 14) (oi := ({ dst := some 9, op := Op.assign (Operand.tmp 37), type := 63, pos := "ref.go:39", after := #[{ on := 11, ground := Ground.data }, { on := 9, ground := Ground.chain }, { on := 0, ground := Ground.phase }, { on := 1, ground := Ground.phase }, { on := 2, ground := Ground.phase }, { on := 3, ground := Ground.phase }, { on := 4, ground := Ground.phase }, { on := 5, ground := Ground.phase }, { on := 6, ground := Ground.phase }, { on := 7, ground := Ground.phase }, { on := 8, ground := Ground.phase }, { on := 9, ground := Ground.phase }, { on := 10, ground := Ground.phase }, { on := 11, ground := Ground.phase }, { on := 12, ground := Ground.textOnly Departure.lateStores }, { on := 13, ground := Ground.textOnly Departure.lateStores }], guard := none } : Oper)) (v := ?_) rfl (by kernel_rfl) (by kernel_rfl) (by kernel_rfl) (fun _ _ _ h => h) (Or.inl ⟨by rfl, ?_⟩) hS ?_
      rotate_left
      · (intro w hSw; (try dsimp only at hSw); go_simp; try with_reducible rfl)
      (try simp only [Act.put, List.setIfInBounds_toArray, List.set_cons_zero, List.set_cons_succ])
      refine wpAnyH_take (i := 15) (oi := ({ dst := some 10, op := Op.assign (Operand.tmp 38), type := 3, pos := "ref.go:39", after := #[{ on := 12, ground := Ground.data }, { on := 14, ground := Ground.chain }, { on := 0, ground := Ground.phase }, { on := 1, ground := Ground.phase }, { on := 2, ground := Ground.phase }, { on := 3, ground := Ground.phase }, { on := 4, ground := Ground.phase }, { on := 5, ground := Ground.phase }, { on := 6, ground := Ground.phase }, { on := 7, ground := Ground.phase }, { on := 8, ground := Ground.phase }, { on := 9, ground := Ground.phase }, { on := 10, ground := Ground.phase }, { on := 11, ground := Ground.phase }, { on := 12, ground := Ground.phase }, { on := 13, ground := Ground.textOnly Departure.lateStores }, { on := 14, ground := Ground.phase }], guard := none } : Oper)) (v := ?_) rfl (by kernel_rfl) (by kernel_rfl) (by kernel_rfl) (fun _ _ _ h => h) (Or.inl ⟨by rfl, ?_⟩) hS ?_
      rotate_left
      · (intro w hSw; (try dsimp only at hSw); go_simp; try with_reducible rfl)
      (try simp only [Act.put, List.setIfInBounds_toArray, List.set_cons_zero, List.set_cons_succ])
      refine wpAnyH_take (i := 16) (oi := ({ dst := some 11, op := Op.assign (Operand.tmp 39), type := 4, pos := "ref.go:39", after := #[{ on := 13, ground := Ground.data }, { on := 15, ground := Ground.chain }, { on := 0, ground := Ground.phase }, { on := 1, ground := Ground.phase }, { on := 2, ground := Ground.phase }, { on := 3, ground := Ground.phase }, { on := 4, ground := Ground.phase }, { on := 5, ground := Ground.phase }, { on := 6, ground := Ground.phase }, { on := 7, ground := Ground.phase }, { on := 8, ground := Ground.phase }, { on := 9, ground := Ground.phase }, { on := 10, ground := Ground.phase }, { on := 11, ground := Ground.phase }, { on := 12, ground := Ground.phase }, { on := 13, ground := Ground.phase }, { on := 14, ground := Ground.phase }, { on := 15, ground := Ground.phase }], guard := none } : Oper)) (v := ?_) rfl (by kernel_rfl) (by kernel_rfl) (by kernel_rfl) (fun _ _ _ h => h) (Or.inl ⟨by rfl, ?_⟩) hS ?_
      rotate_left
      · (intro w hSw; (try dsimp only at hSw); go_simp; try with_reducible rfl)
      (try simp only [Act.put, List.setIfInBounds_toArray, List.set_cons_zero, List.set_cons_succ])
      refine wpAnyH_done (by kernel_rfl) ?_ _
      clear hN hS
      obtain ⟨a2, c2, rfl⟩ := own_form HP2.out
      obtain ⟨C1, hC1⟩ : ∃ C1, lenF ls (i + 1) = C1 := ⟨_, rfl⟩
      rw [hC1] at HCN
      have HCE := Lib.hid hC1
      obtain ⟨C0, hC0⟩ : ∃ C0, lenF ls i = C0 := ⟨_, rfl⟩
      rw [hC0] at HCN HO
      clear hC1 hC0 HST
      have HO2 := Lib.hid (own_keep HO.out HB2.out)
      have HP3 := Lib.hid (own_mono HP2.out HB.out.size)
      have HW2 := Lib.hid (bch HB.out HB2.out)
      clear HP2 HB2
      go_wp2
      go_loopw [7, 12] (fun ov kv wr => ∃ (k n' : Nat) (oa : Option Addr) (oc : Nat), kv = .int .i64 (k : Int) ∧ ov = .slice oa n' oc ∧ k ≤ m ∧ n' ≤ on + 2 * k ∧ Hid (wr.ownsRow wf.heap.size 3 1 (.slice oa n' oc) n' (il .i64 (C0 ++ lenR (ps.take k)))) ∧ Hid (wr.ownsRow wf.heap.size 67 4 (.slice a2 m c2) m (pF ps)) ∧ Hid (Below wf.heap.size wf wr)) (fun _ kv _ => m - (intOf kv).toNat)
      case atStart => exact ⟨0, on, oa, oc, rfl, rfl, by omega, by omega, Lib.hid (by rw [List.take_zero, show lenR [] = [] from rfl, List.append_nil]; exact HO2.out), HP3, HW2⟩
      case round =>
        obtain ⟨k, n', oa', oc', rfl, rfl, hk, hn', HOi, HPi, HBi⟩ := hrel
        rename World => wi
        clear HO2 HP3 HW2
        by_cases hkm : (k : Int) < (m : Int)
        · have hci : ps[k]? = some (ps[k]'(by have := HM.out; omega)) := List.getElem?_eq_getElem _
          obtain ⟨pcc, hpc⟩ : ∃ c, ps[k]'(by have := HM.out; omega) = c := ⟨_, rfl⟩
          rw [hpc] at hci
          obtain ⟨p, hp1, hp2⟩ := HPT.out k pcc hci
          have HPS : Hid (PS wi (.slice a2 m c2) ps) := Lib.hid (PS.own (by rw [HM.out]; exact HPi.out))
          obtain ⟨b1, o1, rfl, r1⟩ := HPS.out.at_ k pcc hci
          have HLN := Lib.hid (lenR_next hci)
          have HCI := Lib.hid hci
          obtain ⟨ca, kd, cf, ct⟩ := pcc
          obtain rfl : ca = (p : Int) := hp1
          have z0 := (pc_cells r1).1
          have HW4 : Hid (IntKind.i64.wrap ((p : Int) + 4) = (p : Int) + 4) := Lib.hid (IntWalk.i64_in _ (by omega))
          have HW5 : Hid (IntKind.i64.wrap ((p : Int) + 5) = (p : Int) + 5) := Lib.hid (IntWalk.i64_in _ (by omega))
          have HST : Hid (wi.drew.cell? ⟨b1, o1 + k * 4, none⟩ = some (.int .i64 (p : Int))) := Lib.hid z0
          have HNB : Hid (n' ≤ 150000200) := Lib.hid (by omega)
          have HOa : Hid (((wi.alloc (.cells #[.int .i64 ((p : Int) + 4), .int .i64 ((p : Int) + 5)] 3)).drew).ownsRow wf.heap.size 3 1 (.slice oa' n' oc') n' (il .i64 (C0 ++ lenR (ps.take k)))) := Lib.hid (own_keep HOi.out (bdrew0 wi _))
          have HPa : Hid (((wi.alloc (.cells #[.int .i64 ((p : Int) + 4), .int .i64 ((p : Int) + 5)] 3)).drew).ownsRow wf.heap.size 67 4 (.slice (some ⟨b1, o1, none⟩) m c2) m (pF ps)) := Lib.hid (own_keep HPi.out (bdrew0 wi _))
          have HBa : Hid (Below wf.heap.size wf ((wi.alloc (.cells #[.int .i64 ((p : Int) + 4), .int .i64 ((p : Int) + 5)] 3)).drew)) := Lib.hid (bch HBi.out (bdrew0 wi _))
          have HRa : Hid (RI .i64 ((wi.alloc (.cells #[.int .i64 ((p : Int) + 4), .int .i64 ((p : Int) + 5)] 3)).drew) (.slice (some ⟨wi.heap.size, 0, none⟩) 2 2) 2 [(p : Int) + 4, (p : Int) + 5]) := Lib.hid (ri_new2 wi _ _).drew
          have HZa : Hid (((wi.alloc (.cells #[.int .i64 ((p : Int) + 4), .int .i64 ((p : Int) + 5)] 3)).drew).cell? ⟨b1, o1 + k * 4, none⟩ = some (.int .i64 (p : Int))) := Lib.hid (cell_keep (bdrew0 wi _) z0)
          clear hci hpc HPS r1 hp2 z0
          go_wp2_with fail
          refine wp_region_held_drew (S := (fun w' => w'.cell? ⟨b1, o1 + k * 4, none⟩ = some (.int .i64 (p : Int)))) (by kernel_rfl) HST.out (fun hS => ?_)
          refine wpAnyH_take (i := 0) (oi := ({ dst := some 46, op := Op.move (Operand.tmp 7), type := 32, pos := "ref.go:41", after := #[], guard := none } : Oper)) (v := ?_) rfl (by kernel_rfl) (by kernel_rfl) (by kernel_rfl) (fun _ _ _ h => h) (Or.inl ⟨by rfl, ?_⟩) hS ?_
          rotate_left
          · (intro w hSw; (try dsimp only at hSw); go_simp; try with_reducible rfl)
          (try simp only [Act.put, List.setIfInBounds_toArray, List.set_cons_zero, List.set_cons_succ])
          refine wpAnyH_take (i := 1) (oi := ({ dst := some 47, op := Op.move (Operand.tmp 9), type := 63, pos := "ref.go:41", after := #[], guard := none } : Oper)) (v := ?_) rfl (by kernel_rfl) (by kernel_rfl) (by kernel_rfl) (fun _ _ _ h => h) (Or.inl ⟨by rfl, ?_⟩) hS ?_
          rotate_left
          · (intro w hSw; (try dsimp only at hSw); go_simp; try with_reducible rfl)
          (try simp only [Act.put, List.setIfInBounds_toArray, List.set_cons_zero, List.set_cons_succ])
          refine wpAnyH_take (i := 2) (oi := ({ dst := some 48, op := Op.move (Operand.tmp 12), type := 3, pos := "ref.go:41", after := #[], guard := none } : Oper)) (v := ?_) rfl (by kernel_rfl) (by kernel_rfl) (by kernel_rfl) (fun _ _ _ h => h) (Or.inl ⟨by rfl, ?_⟩) hS ?_
          rotate_left
          · (intro w hSw; (try dsimp only at hSw); go_simp; try with_reducible rfl)
          (try simp only [Act.put, List.setIfInBounds_toArray, List.set_cons_zero, List.set_cons_succ])
          refine wpAnyH_take (i := 3) (oi := ({ dst := some 49, op := Op.indexAddr 63 (Operand.tmp 47) (Operand.tmp 48), type := 0, pos := "ref.go:41", after := #[{ on := 1, ground := Ground.data }, { on := 2, ground := Ground.data }], guard := none } : Oper)) (v := ?_) rfl (by kernel_rfl) (by kernel_rfl) (by kernel_rfl) (fun _ _ _ h => h) (Or.inl ⟨by rfl, ?_⟩) hS ?_
          rotate_left
          · (intro w hSw; (try dsimp only at hSw); go_simp; try with_reducible rfl)
          (try simp only [Act.put, List.setIfInBounds_toArray, List.set_cons_zero, List.set_cons_succ])
          refine wpAnyH_take (i := 4) (oi := ({ dst := some 50, op := Op.fieldAddr 67 (Operand.tmp 49) 0, type := 0, pos := "ref.go:41", after := #[{ on := 3, ground := Ground.data }], guard := none } : Oper)) (v := ?_) rfl (by kernel_rfl) (by kernel_rfl) (by kernel_rfl) (fun _ _ _ h => h) (Or.inl ⟨by rfl, ?_⟩) hS ?_
          rotate_left
          · (intro w hSw; (try dsimp only at hSw); go_simp; try with_reducible rfl)
          (try simp only [Act.put, List.setIfInBounds_toArray, List.set_cons_zero, List.set_cons_succ])
          refine wpAnyH_take (i := 5) (oi := ({ dst := some 51, op := Op.load 3 (Operand.tmp 50), type := 3, pos := "ref.go:41", after := #[{ on := 4, ground := Ground.data }], guard := none } : Oper)) (v := ?_) rfl (by kernel_rfl) (by kernel_rfl) (by kernel_rfl) (fun _ _ _ h => h) (Or.inl ⟨by rfl, ?_⟩) hS ?_
          rotate_left
          · (intro w hSw; (try dsimp only at hSw); go_simp; try with_reducible rfl)
          (try simp only [Act.put, List.setIfInBounds_toArray, List.set_cons_zero, List.set_cons_succ])
          refine wpAnyH_take (i := 6) (oi := ({ dst := some 52, op := Op.binOp BinOp.add 3 (Operand.tmp 51) (Operand.const (Value.int IntKind.i64 4)) 3, type := 3, pos := "ref.go:41", after := #[{ on := 5, ground := Ground.data }], guard := none } : Oper)) (v := .int .i64 ((p : Int) + 4)) rfl (by kernel_rfl) (by kernel_rfl) (by kernel_rfl) (fun _ _ _ h => h) (Or.inl ⟨by rfl, ?_⟩) hS ?_
          · (intro w hSw; (try dsimp only at hSw); have z := HW4.out; go_simp; (try exact z))
          (try simp only [Act.put, List.setIfInBounds_toArray, List.set_cons_zero, List.set_cons_succ])
          refine wpAnyH_take (i := 7) (oi := ({ dst := some 53, op := Op.move (Operand.tmp 9), type := 63, pos := "ref.go:41", after := #[], guard := none } : Oper)) (v := ?_) rfl (by kernel_rfl) (by kernel_rfl) (by kernel_rfl) (fun _ _ _ h => h) (Or.inl ⟨by rfl, ?_⟩) hS ?_
          rotate_left
          · (intro w hSw; (try dsimp only at hSw); go_simp; try with_reducible rfl)
          (try simp only [Act.put, List.setIfInBounds_toArray, List.set_cons_zero, List.set_cons_succ])
          refine wpAnyH_take (i := 8) (oi := ({ dst := some 54, op := Op.move (Operand.tmp 12), type := 3, pos := "ref.go:41", after := #[], guard := none } : Oper)) (v := ?_) rfl (by kernel_rfl) (by kernel_rfl) (by kernel_rfl) (fun _ _ _ h => h) (Or.inl ⟨by rfl, ?_⟩) hS ?_
          rotate_left
          · (intro w hSw; (try dsimp only at hSw); go_simp; try with_reducible rfl)
          (try simp only [Act.put, List.setIfInBounds_toArray, List.set_cons_zero, List.set_cons_succ])
          refine wpAnyH_take (i := 9) (oi := ({ dst := some 55, op := Op.indexAddr 63 (Operand.tmp 53) (Operand.tmp 54), type := 0, pos := "ref.go:41", after := #[{ on := 7, ground := Ground.data }, { on := 8, ground := Ground.data }], guard := none } : Oper)) (v := ?_) rfl (by kernel_rfl) (by kernel_rfl) (by kernel_rfl) (fun _ _ _ h => h) (Or.inl ⟨by rfl, ?_⟩) hS ?_
          rotate_left
          · (intro w hSw; (try dsimp only at hSw); go_simp; try with_reducible rfl)
          (try simp only [Act.put, List.setIfInBounds_toArray, List.set_cons_zero, List.set_cons_succ])
          refine wpAnyH_take (i := 10) (oi := ({ dst := some 56, op := Op.fieldAddr 67 (Operand.tmp 55) 0, type := 0, pos := "ref.go:41", after := #[{ on := 9, ground := Ground.data }], guard := none } : Oper)) (v := ?_) rfl (by kernel_rfl) (by kernel_rfl) (by kernel_rfl) (fun _ _ _ h => h) (Or.inl ⟨by rfl, ?_⟩) hS ?_
          rotate_left
          · (intro w hSw; (try dsimp only at hSw); go_simp; try with_reducible rfl)
          (try simp only [Act.put, List.setIfInBounds_toArray, List.set_cons_zero, List.set_cons_succ])
          refine wpAnyH_take (i := 11) (oi := ({ dst := some 57, op := Op.load 3 (Operand.tmp 56), type := 3, pos := "ref.go:41", after := #[{ on := 10, ground := Ground.data }], guard := none } : Oper)) (v := ?_) rfl (by kernel_rfl) (by kernel_rfl) (by kernel_rfl) (fun _ _ _ h => h) (Or.inl ⟨by rfl, ?_⟩) hS ?_
          rotate_left
          · (intro w hSw; (try dsimp only at hSw); go_simp; try with_reducible rfl)
          (try simp only [Act.put, List.setIfInBounds_toArray, List.set_cons_zero, List.set_cons_succ])
          refine wpAnyH_take (i := 12) (oi := ({ dst := some 58, op := Op.binOp BinOp.add 3 (Operand.tmp 57) (Operand.const (Value.int IntKind.i64 5)) 3, type := 3, pos := "ref.go:41", after := #[{ on := 11, ground := Ground.data }], guard := none } : Oper)) (v := .int .i64 ((p : Int) + 5)) rfl (by kernel_rfl) (by kernel_rfl) (by kernel_rfl) (fun _ _ _ h => h) (Or.inl ⟨by rfl, ?_⟩) hS ?_
          · (intro w hSw; (try dsimp only at hSw); have z := HW5.out; go_simp; (try exact z))
          (try simp only [Act.put, List.setIfInBounds_toArray, List.set_cons_zero, List.set_cons_succ])
          refine rg_one 13 ({ dst := some 59, op := Op.buildSlice 32 2 #[(0, Operand.tmp 52), (1, Operand.tmp 58)], type := 32, pos := "ref.go:41", after := #[{ on := 6, ground := Ground.data }, { on := 12, ground := Ground.data }], guard := none } : Oper) (by kernel_rfl) rfl (fun K hK => ?_)
          go_simp
          (obtain ⟨w5, hw5⟩ : ∃ q, (wi.alloc (.cells #[.int .i64 ((p : Int) + 4), .int .i64 ((p : Int) + 5)] 3)).drew = q := ⟨_, rfl⟩; rw [hw5] at HOa HPa HBa HRa HZa; rw [hw5]; have hN := HZa.out; clear hw5)
          refine hK.out _ _ ?_ (fun hS1 => ?_)
          · (first | exact hN | exact hS)
          clear hK K hS; have hS := hS1; clear hS1
          (try simp only [Act.put, List.setIfInBounds_toArray, List.set_cons_zero, List.set_cons_succ])
          refine rg_one 14 ({ dst := some 60, op := Op.call { callee := Callee.builtin Builtin.append, args := #[Operand.tmp 46, Operand.tmp 59], argTypes := #[32, 32] }, type := 32, pos := "ref.go:41", after := #[{ on := 0, ground := Ground.data }, { on := 13, ground := Ground.data }], guard := none } : Oper) (by kernel_rfl) rfl (fun K hK => ?_)
          (rw [if_pos (by rfl)]; refine wp_appn (.tmp 46) (.tmp 59) 32 rfl 3 .i64 8 Tryd.underlying32 Tryd.info_i64 wf.heap.size _ n' _ rfl HOa.out _ 2 _ rfl HRa.out (by have := HNB.out; omega) (by have := HNB.out; omega) HBa.out.size ?_; intro v6 w6 ho6 hg6 _; obtain ⟨a6, c6, rfl⟩ := own_form ho6; have HO6 := Lib.hid ho6; have HP6 := Lib.hid (own_over HPa.out hg6 (own_types HPa.out HOa.out (by decide))); have HB6 : Hid (Below wf.heap.size wf w6) := Lib.hid (HBa.out.grown hg6 HBa.out.size (fun q hq => (HOa.out.lt q hq).1)); have hN := (pc_cells (PS.at2 (PS.own (by rw [HM.out]; exact HP6.out)) k _ HCI.out)).1; clear ho6 hg6)
          refine hK.out _ _ ?_ (fun hS1 => ?_)
          · (first | exact hN | exact hS)
          clear hK K hS; have hS := hS1; clear hS1
          (try simp only [Act.put, List.setIfInBounds_toArray, List.set_cons_zero, List.set_cons_succ])
          refine wpAnyH_take (i := 15) (oi := ({ dst := some 7, op := Op.assign (Operand.tmp 60), type := 32, pos := "ref.go:41", after := #[{ on := 14, ground := Ground.data }, { on := 14, ground := Ground.chain }, { on := 0, ground := Ground.phase }, { on := 1, ground := Ground.phase }, { on := 2, ground := Ground.phase }, { on := 3, ground := Ground.phase }, { on := 4, ground := Ground.phase }, { on := 5, ground := Ground.phase }, { on := 6, ground := Ground.phase }, { on := 7, ground := Ground.phase }, { on := 8, ground := Ground.phase }, { on := 9, ground := Ground.phase }, { on := 10, ground := Ground.phase }, { on := 11, ground := Ground.phase }, { on := 12, ground := Ground.phase }, { on := 13, ground := Ground.phase }, { on := 14, ground := Ground.phase }], guard := none } : Oper)) (v := ?_) rfl (by kernel_rfl) (by kernel_rfl) (by kernel_rfl) (fun _ _ _ h => h) (Or.inl ⟨by rfl, ?_⟩) hS ?_
          rotate_left
          · (intro w hSw; (try dsimp only at hSw); go_simp; try with_reducible rfl)
          (try simp only [Act.put, List.setIfInBounds_toArray, List.set_cons_zero, List.set_cons_succ])
          refine wpAnyH_done (by kernel_rfl) ?_ _
          clear hS hN
          go_wp2
          go_roundw
          case rel => exact ⟨k + 1, n' + 2, a6, c6, by go_num, rfl, by omega, by omega, by rw [HLN.out, ← List.append_assoc]; exact HO6, HP6, HB6⟩
          case measure => simp [intOf]; omega
        · obtain rfl : k = m := by omega
          have HCL : Hid (C0 ++ lenR (ps.take k) = C1) := Lib.hid (by rw [HCN.out, List.take_of_length_le (by rw [HM.out]; omega)])
          rw [HCL.out] at HOi
          have hm75 : n' ≤ 150 * (i + 1) := by omega
          rw [← HCE.out] at HOi
          go_wp2
          go_roundw
          case rel => exact ⟨i + 1, n', oa', oc', by go_num, rfl, by omega, hm75, HOi, HBi⟩
          case measure => simp [intOf]; omega
    · obtain rfl : i = N := by omega
      go_wp2
      go_ret
      exact ⟨oa, on, oc, rfl, by rw [HLL.out]; exact RI.own HO.out, bch HBF.out HB.out⟩
end Go.Proofs.YtepaghohojomeaaDoor
