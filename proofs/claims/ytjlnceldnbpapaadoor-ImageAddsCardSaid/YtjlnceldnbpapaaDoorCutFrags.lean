/-
  WHAT THE PROGRAM'S OWN Frags OF LAYER 14 ANSWERS, of any epoch, place and bytes. Bytes must lie where the slice says.
-/
import Derived.Test.YtjlnceldnbpapaaDoorJCut
import Derived.Test.YtjlnceldnbpapaaDoorCut
import Derived.Test.YtjlnceldnbpapaaDoorClone
import Derived.Test.YtjlnceldnbpapaaDoorFragList
namespace Go.Proofs.YtjlnceldnbpapaaDoor
open Go.RowKit
noncomputable def fragsI (ep x : Int) (zs : List Int) : List FR := (pcsI x zs.length).map (frOf ep zs)
abbrev pA (p : PC) : Array Value := #[.int .i64 p.at_, .int .i64 p.kind, .int .i64 p.from_, .int .i64 p.to]
theorem pA_info (p : PC) : (Tryd.prog.info? 60).map (·.size) = some (pA p).size := pc_info
theorem pA_one (p : PC) : (pA p).all (·.oneCell') = true := by simp [pA, Value.oneCell']
theorem pc_blk {w : World} {g : Nat} {p : PC} (h : w.heap[g]? = some (.cells (pA p) 60 (0, 0))) : w.cell? ⟨g, 1, none⟩ = some (.int .i64 p.kind) ∧ w.cell? ⟨g, 2, none⟩ = some (.int .i64 p.from_) ∧ w.cell? ⟨g, 3, none⟩ = some (.int .i64 p.to) :=
  ⟨cell_of_row w g 1 _ _ _ h, cell_of_row w g 2 _ _ _ h, cell_of_row w g 3 _ _ _ h⟩
set_option maxRecDepth 8000 in
set_option maxHeartbeats 4000000 in
theorem frags_any (ep x : Int) (dv : Value) (n : Nat) (zs : List Int) (hx : I63 x) (w : World) (hri : RI .u8 w dv n zs) :
    Calls Tryd.prog 25 #[.int .u32 ep, .int .i64 x, dv] w fun e w' =>
      ∃ v es, e = .returned (.tuple #[v, .bool (fitI x n)]) ∧ FL w.heap.size w' v es.length es ∧ es.map Prod.fst = fragsI ep x zs ∧ Below w.heap.size w w' := by
  have hzl := hri.length
  have HC : Hid (∀ w, Calls Tryd.prog 32 #[.int .i64 x, .int .i64 (n : Int)] w fun e w' =>
    ∃ v, e = .returned (.tuple #[v, .int .i64 (endI x n : Int), .bool (fitI x n)]) ∧ w'.ownsRow w.heap.size 60 4 v (pcsI x n).length (pF (pcsI x n)) ∧ Below w.heap.size w w') := fun w => cut_any x n hx w
  have HPC : Hid (∀ (i : Nat) (c : PC), (pcsI x n)[i]? = some c → ∃ l k : Nat, c.from_ = (l : Int) ∧ c.to = ((l + k : Nat) : Int) ∧ ((l + k : Nat) : Int) ≤ n ∧ l + k ≤ 832) := Lib.hid fun i c h => pc_ok h
  have HFI : Hid (fragsI ep x zs = (pcsI x n).map (frOf ep zs)) := Lib.hid (by unfold fragsI; rw [hzl])
  have hpl := pcs_len x n
  have HR := Lib.hid hri
  have HZL := Lib.hid hzl
  obtain ⟨da, dc, rfl, _, hdc, hdm, _⟩ := hri
  generalize fragsI ep x zs = fi at *
  generalize pcsI x n = ps at *
  generalize endI x n = en at *
  generalize fitI x n = fit at *
  obtain ⟨m, hm⟩ : ∃ m, ps.length = m := ⟨_, rfl⟩
  rw [hm] at HC hpl
  have HM := Lib.hid hm
  clear hx hzl hm
  go_enter Tryd.func25, Tryd.ntmps25
  go_wp2_with (first
    | (go_at_call 32; (with_reducible refine (HC.out _).mono ?_); rintro e w1 ⟨v1, rfl, ho, hb⟩; obtain ⟨a1, c1, rfl⟩ := own_form ho; have HO1 := Lib.hid ho; have HB1 := Lib.hid hb; clear ho hb))
  go_loopw [11, 24] (fun lv iv wr => ∃ (i : Nat) (va : Option Addr) (vc : Nat) (es : List (FR × Value)), iv = .int .i64 (i : Int) ∧ lv = .slice va i vc ∧ i ≤ m ∧ Hid (FL w.heap.size wr (.slice va i vc) i es) ∧ Hid (es.map Prod.fst = (ps.take i).map (frOf ep zs)) ∧ Hid (wr.ownsRow w.heap.size 60 4 (.slice a1 m c1) m (pF ps)) ∧ Hid (Below w.heap.size w wr)) (fun _ iv _ => m - (intOf iv).toNat)
  case atStart => exact ⟨0, none, 0, [], rfl, rfl, by omega, Lib.hid (FL.nil _ _), Lib.hid (by simp), HO1, HB1⟩
  case round =>
    obtain ⟨i, va, vc, es, rfl, rfl, him, HFL, HES, HO, HB⟩ := hrel
    by_cases hlt : (i : Int) < (m : Int)
    · have hci : ps[i]? = some (ps[i]'(by have := HM.out; omega)) := List.getElem?_eq_getElem _
      obtain ⟨c, hc⟩ : ∃ c, ps[i]'(by have := HM.out; omega) = c := ⟨_, rfl⟩
      rw [hc] at hci
      have HCI := Lib.hid hci
      obtain ⟨l, k, hl, hk, hkn, hk8⟩ := HPC.out i c hci
      have HPS : Hid (PS wr (.slice a1 m c1) ps) := Lib.hid (PS.own (by rw [HM.out]; exact HO.out))
      obtain ⟨b1, o1, rfl, r1⟩ := HPS.out.at_ i c hci
      have HR1 := Lib.hid r1
      have HFD := Lib.hid (frOf_data (ep := ep) (zs := zs) hl hk)
      obtain ⟨ca, kd, cf, ct⟩ := c
      obtain rfl : cf = (l : Int) := hl
      obtain ⟨h, hh⟩ : ∃ h, l + k = h := ⟨_, rfl⟩
      have HH := Lib.hid hh
      rw [hh] at hk hkn hk8
      obtain rfl : ct = (h : Int) := hk
      have hln : (l : Int) ≤ h := by omega
      have hkl : (k : Int) ≤ 832 := by omega
      obtain ⟨q, qc, hsl⟩ := sliced_form da l k dc 1
      have HRC := Lib.hid (HR.out.cut l k dc (by omega) (by omega) (Nat.le_refl _))
      rw [hsl] at HRC
      have HSL := Lib.hid hsl
      have HDC : Hid (l + k ≤ dc ∧ l + k ≤ n) := Lib.hid (by omega)
      clear hci hc r1 hsl hh
      go_wp2_with (first
        | (refine wpl_load_pc rfl (.tmp 26) rfl rfl HR1.out ?_)
        | (refine wpList_store_row rfl 60 _ _ rfl wr.heap.size (pA ⟨ca, kd, l, h⟩) rfl rfl _ _ (heap_alloc_last wr _) (pA_info _) rfl (pA_one _) ?_))
      obtain ⟨w5, hw5⟩ : ∃ q, (wr.alloc (.cells (pA ⟨0, 0, 0, 0⟩) 60)).setRow wr.heap.size (pA ⟨ca, kd, l, h⟩) = q := ⟨_, rfl⟩
      rw [hw5]
      obtain ⟨g, hg⟩ : ∃ g, wr.heap.size = g := ⟨_, rfl⟩
      rw [hg]
      have hb5 : Below wr.heap.size wr w5 := by rw [← hw5]; exact bnew wr _ _
      have HK5 : Hid (w5.heap[g]? = some (.cells (pA ⟨ca, kd, l, h⟩) 60 (0, 0))) := Lib.hid (by rw [← hw5, ← hg]; exact setRow_heap _ _ _ _ _ _ (heap_alloc_last wr _))
      have HB5 := Lib.hid (bch HB.out hb5)
      have HFL5 := Lib.hid (HFL.out.keep hb5)
      have HO5 := Lib.hid (own_keep HO.out hb5)
      clear hb5 hw5 hg HR1 HPS HFL HO
      refine wp_region_held_drew (S := (fun w' => w'.cell? ⟨g, 1, none⟩ = some (.int .i64 kd) ∧ w'.cell? ⟨g, 2, none⟩ = some (.int .i64 (l : Int)) ∧ w'.cell? ⟨g, 3, none⟩ = some (.int .i64 (h : Int)))) (by kernel_rfl) (let z := pc_blk (((Below.refl w5.heap.size w5).drew.block g (Array.getElem?_eq_some_iff.1 HK5.out).1).trans HK5.out); ⟨z.1, z.2.1, z.2.2⟩) (fun hS => ?_)
      refine wpAnyH_take (i := 0) (oi := ({ dst := some 28, op := Op.move (Operand.tmp 11), type := 65, pos := "cut.go:53", after := #[], guard := none } : Oper)) (v := ?_) rfl (by kernel_rfl) (by kernel_rfl) (by kernel_rfl) (fun _ _ _ h => h) (Or.inl ⟨by rfl, ?_⟩) hS ?_
      rotate_left
      · (intro w hSw; (try dsimp only at hSw); go_simp; try with_reducible rfl)
      (try simp only [Act.put, List.setIfInBounds_toArray, List.set_cons_zero, List.set_cons_succ])
      refine wpAnyH_take (i := 1) (oi := ({ dst := some 29, op := Op.fieldAddr 60 (Operand.tmp 13) 1, type := 0, pos := "cut.go:53", after := #[], guard := none } : Oper)) (v := ?_) rfl (by kernel_rfl) (by kernel_rfl) (by kernel_rfl) (fun _ _ _ h => h) (Or.inl ⟨by rfl, ?_⟩) hS ?_
      rotate_left
      · (intro w hSw; (try dsimp only at hSw); go_simp; try with_reducible rfl)
      (try simp only [Act.put, List.setIfInBounds_toArray, List.set_cons_zero, List.set_cons_succ])
      refine wpAnyH_take (i := 2) (oi := ({ dst := some 30, op := Op.load 3 (Operand.tmp 29), type := 3, pos := "cut.go:53", after := #[{ on := 1, ground := Ground.data }], guard := none } : Oper)) (v := ?_) rfl (by kernel_rfl) (by kernel_rfl) (by kernel_rfl) (fun _ _ _ h => h) (Or.inl ⟨by rfl, ?_⟩) hS ?_
      rotate_left
      · (intro w hSw; (try dsimp only at hSw); go_simp; try with_reducible rfl)
      (try simp only [Act.put, List.setIfInBounds_toArray, List.set_cons_zero, List.set_cons_succ])
      refine wpAnyH_take (i := 3) (oi := ({ dst := some 31, op := Op.move (Operand.tmp 0), type := 61, pos := "cut.go:53", after := #[], guard := none } : Oper)) (v := ?_) rfl (by kernel_rfl) (by kernel_rfl) (by kernel_rfl) (fun _ _ _ h => h) (Or.inl ⟨by rfl, ?_⟩) hS ?_
      rotate_left
      · (intro w hSw; (try dsimp only at hSw); go_simp; try with_reducible rfl)
      (try simp only [Act.put, List.setIfInBounds_toArray, List.set_cons_zero, List.set_cons_succ])
      refine wpAnyH_take (i := 4) (oi := ({ dst := some 32, op := Op.move (Operand.tmp 2), type := 26, pos := "cut.go:53", after := #[], guard := none } : Oper)) (v := ?_) rfl (by kernel_rfl) (by kernel_rfl) (by kernel_rfl) (fun _ _ _ h => h) (Or.inl ⟨by rfl, ?_⟩) hS ?_
      rotate_left
      · (intro w hSw; (try dsimp only at hSw); go_simp; try with_reducible rfl)
      (try simp only [Act.put, List.setIfInBounds_toArray, List.set_cons_zero, List.set_cons_succ])
      refine wpAnyH_take (i := 5) (oi := ({ dst := some 33, op := Op.fieldAddr 60 (Operand.tmp 13) 2, type := 0, pos := "cut.go:53", after := #[], guard := none } : Oper)) (v := ?_) rfl (by kernel_rfl) (by kernel_rfl) (by kernel_rfl) (fun _ _ _ h => h) (Or.inl ⟨by rfl, ?_⟩) hS ?_
      rotate_left
      · (intro w hSw; (try dsimp only at hSw); go_simp; try with_reducible rfl)
      (try simp only [Act.put, List.setIfInBounds_toArray, List.set_cons_zero, List.set_cons_succ])
      refine wpAnyH_take (i := 6) (oi := ({ dst := some 34, op := Op.load 3 (Operand.tmp 33), type := 3, pos := "cut.go:53", after := #[{ on := 5, ground := Ground.data }], guard := none } : Oper)) (v := ?_) rfl (by kernel_rfl) (by kernel_rfl) (by kernel_rfl) (fun _ _ _ h => h) (Or.inl ⟨by rfl, ?_⟩) hS ?_
      rotate_left
      · (intro w hSw; (try dsimp only at hSw); go_simp; try with_reducible rfl)
      (try simp only [Act.put, List.setIfInBounds_toArray, List.set_cons_zero, List.set_cons_succ])
      refine wpAnyH_take (i := 7) (oi := ({ dst := some 35, op := Op.fieldAddr 60 (Operand.tmp 13) 3, type := 0, pos := "cut.go:53", after := #[], guard := none } : Oper)) (v := ?_) rfl (by kernel_rfl) (by kernel_rfl) (by kernel_rfl) (fun _ _ _ h => h) (Or.inl ⟨by rfl, ?_⟩) hS ?_
      rotate_left
      · (intro w hSw; (try dsimp only at hSw); go_simp; try with_reducible rfl)
      (try simp only [Act.put, List.setIfInBounds_toArray, List.set_cons_zero, List.set_cons_succ])
      refine wpAnyH_take (i := 8) (oi := ({ dst := some 36, op := Op.load 3 (Operand.tmp 35), type := 3, pos := "cut.go:53", after := #[{ on := 7, ground := Ground.data }], guard := none } : Oper)) (v := ?_) rfl (by kernel_rfl) (by kernel_rfl) (by kernel_rfl) (fun _ _ _ h => h) (Or.inl ⟨by rfl, ?_⟩) hS ?_
      rotate_left
      · (intro w hSw; (try dsimp only at hSw); go_simp; try with_reducible rfl)
      (try simp only [Act.put, List.setIfInBounds_toArray, List.set_cons_zero, List.set_cons_succ])
      refine wpAnyH_take (i := 9) (oi := ({ dst := some 37, op := Op.slice 26 (Operand.tmp 32) (some (Operand.tmp 34)) (some (Operand.tmp 36)) none, type := 26, pos := "cut.go:53", after := #[{ on := 4, ground := Ground.data }, { on := 6, ground := Ground.data }, { on := 8, ground := Ground.data }], guard := none } : Oper)) (v := .slice q k qc) rfl (by kernel_rfl) (by kernel_rfl) (by kernel_rfl) (fun _ _ _ h => h) (Or.inl ⟨by rfl, ?_⟩) hS ?_
      · (intro w hSw; (try dsimp only at hSw); exact (exec_cut_lh (.tmp 32) (.tmp 34) (.tmp 36) rfl da n dc l k rfl rfl (by rw [HH.out]; rfl) HDC.out.1).trans (by rw [HSL.out]))
      (try simp only [Act.put, List.setIfInBounds_toArray, List.set_cons_zero, List.set_cons_succ])
      refine rg_one 10 ({ dst := some 38, op := Op.call { callee := Callee.value (Operand.func 38), args := #[Operand.tmp 37], argTypes := #[26] }, type := 26, pos := "cut.go:53", after := #[{ on := 9, ground := Ground.data }], guard := none } : Oper) (by kernel_rfl) rfl (fun K hK => ?_)
      go_simp
      (go_at_call 38; (with_reducible refine (clone_any _ k _ _ (HRC.out.keep (HB5.out.trans ((Below.refl w5.heap.size w5).drew.mono HB5.out.size))) (by omega)).mono ?_); rintro e w6 ⟨v6, rfl, ho6, hb6⟩; have hb56 := (Below.refl w5.heap.size w5).drew.trans hb6; obtain ⟨a6, c6, rfl⟩ := own_form ho6; have HB6 := Lib.hid (bch HB5.out hb56); have HFL6 := Lib.hid (HFL5.out.keep hb56); have HO6 := Lib.hid (own_keep HO5.out hb56); have HD6 := Lib.hid (own_mono ho6 HB5.out.size); have HK6 := Lib.hid ((hb56.block g (Array.getElem?_eq_some_iff.1 HK5.out).1).trans HK5.out); have hN := (let z := pc_blk HK6.out; (⟨z.1, z.2.1, z.2.2⟩ : (w6.cell? ⟨g, 1, none⟩ = some (.int .i64 kd) ∧ w6.cell? ⟨g, 2, none⟩ = some (.int .i64 (l : Int)) ∧ w6.cell? ⟨g, 3, none⟩ = some (.int .i64 (h : Int))))); clear ho6 hb6 hb56)
      refine hK.out _ _ ?_ (fun hS1 => ?_)
      · (exact hN)
      clear hK K hS; have hS := hS1; clear hS1
      (try simp only [Act.put, List.setIfInBounds_toArray, List.set_cons_zero, List.set_cons_succ])
      refine wpAnyH_take (i := 11) (oi := ({ dst := some 39, op := Op.build 63 #[(0, Operand.tmp 30), (1, Operand.tmp 31), (2, Operand.tmp 38)], type := 63, pos := "cut.go:53", after := #[{ on := 2, ground := Ground.data }, { on := 3, ground := Ground.data }, { on := 10, ground := Ground.data }], guard := none } : Oper)) (v := .agg #[.int .i64 kd, .int .u32 ep, .slice a6 k c6]) rfl (by kernel_rfl) (by kernel_rfl) (by kernel_rfl) (fun _ _ _ h => h) (Or.inl ⟨by rfl, ?_⟩) hS ?_
      · (intro w hSw; (try dsimp only at hSw); go_simp)
      (try simp only [Act.put, List.setIfInBounds_toArray, List.set_cons_zero, List.set_cons_succ])
      refine rg_one 12 ({ dst := some 40, op := Op.buildSlice 65 1 #[(0, Operand.tmp 39)], type := 65, pos := "cut.go:53", after := #[{ on := 11, ground := Ground.data }], guard := none } : Oper) (by kernel_rfl) rfl (fun K hK => ?_)
      go_simp
      (obtain ⟨w7, hw7⟩ : ∃ q, w6.alloc (.cells (fA kd ep (.slice a6 k c6)) 63) = q := ⟨_, rfl⟩; rw [hw7]; have hb7 : Below w6.heap.size w6 w7 := hw7 ▸ balloc w6 _; have HL7 : Hid (w7.heap[w6.heap.size]? = some (.cells (fA kd ep (.slice a6 k c6)) 63 (0, 0))) := Lib.hid (by rw [← hw7]; exact heap_alloc_last w6 _); have HB7 := Lib.hid (bch HB6.out hb7); have HFL7 := Lib.hid (HFL6.out.keep hb7); have HO7 := Lib.hid (own_keep HO6.out hb7); have HD7 := Lib.hid (own_keep HD6.out hb7); have HK7 := Lib.hid ((hb7.block g (Array.getElem?_eq_some_iff.1 HK6.out).1).trans HK6.out); clear hN; have hN := (let z := pc_blk HK7.out; (⟨z.1, z.2.1, z.2.2⟩ : (w7.cell? ⟨g, 1, none⟩ = some (.int .i64 kd) ∧ w7.cell? ⟨g, 2, none⟩ = some (.int .i64 (l : Int)) ∧ w7.cell? ⟨g, 3, none⟩ = some (.int .i64 (h : Int))))); clear hb7 hw7)
      refine hK.out _ _ ?_ (fun hS1 => ?_)
      · (exact hN)
      clear hK K hS; have hS := hS1; clear hS1
      (try simp only [Act.put, List.setIfInBounds_toArray, List.set_cons_zero, List.set_cons_succ])
      refine rg_one 13 ({ dst := some 41, op := Op.call { callee := Callee.builtin Builtin.append, args := #[Operand.tmp 28, Operand.tmp 40], argTypes := #[65, 65] }, type := 65, pos := "cut.go:53", after := #[{ on := 0, ground := Ground.data }, { on := 12, ground := Ground.data }, { on := 10, ground := Ground.chain }], guard := none } : Oper) (by kernel_rfl) rfl (fun K hK => ?_)
      (rw [if_pos (by rfl)]; refine wp_app_fr (.tmp 28) (.tmp 40) rfl rfl HFL7.out w6.heap.size (⟨kd, ep, (zs.drop l).take k⟩, .slice a6 k c6) k c6 a6 rfl rfl HL7.out (by rw [show ((zs.drop l).take k).length = k from by rw [List.length_take, List.length_drop]; have := HZL.out; have := HDC.out.2; omega]; exact HD7.out) (by omega) HB7.out.size ?_; intro v8 w8 HFL8 HQ8; obtain ⟨a8, c8, rfl⟩ := own_form HFL8.out.row; have HB8 := Lib.hid (HB7.out.grown HQ8.out HB7.out.size (fun q hq => (HFL7.out.row.lt q hq).1)); have HO8 := Lib.hid (HFL7.out.other HQ8.out HO7.out (by decide)); have HK8 := Lib.hid (HFL7.out.blk HQ8.out HK7.out (by decide)); clear hN; have hN := (let z := pc_blk HK8.out; (⟨z.1, z.2.1, z.2.2⟩ : (w8.cell? ⟨g, 1, none⟩ = some (.int .i64 kd) ∧ w8.cell? ⟨g, 2, none⟩ = some (.int .i64 (l : Int)) ∧ w8.cell? ⟨g, 3, none⟩ = some (.int .i64 (h : Int))))))
      refine hK.out _ _ ?_ (fun hS1 => ?_)
      · (exact hN)
      clear hK K hS; have hS := hS1; clear hS1
      (try simp only [Act.put, List.setIfInBounds_toArray, List.set_cons_zero, List.set_cons_succ])
      refine wpAnyH_take (i := 14) (oi := ({ dst := some 11, op := Op.assign (Operand.tmp 41), type := 65, pos := "cut.go:53", after := #[{ on := 13, ground := Ground.data }, { on := 13, ground := Ground.chain }, { on := 0, ground := Ground.phase }, { on := 1, ground := Ground.phase }, { on := 2, ground := Ground.phase }, { on := 3, ground := Ground.phase }, { on := 4, ground := Ground.phase }, { on := 5, ground := Ground.phase }, { on := 6, ground := Ground.phase }, { on := 7, ground := Ground.phase }, { on := 8, ground := Ground.phase }, { on := 9, ground := Ground.phase }, { on := 10, ground := Ground.phase }, { on := 11, ground := Ground.phase }, { on := 12, ground := Ground.phase }, { on := 13, ground := Ground.phase }], guard := none } : Oper)) (v := ?_) rfl (by kernel_rfl) (by kernel_rfl) (by kernel_rfl) (fun _ _ _ h => h) (Or.inl ⟨by rfl, ?_⟩) hS ?_
      rotate_left
      · (intro w hSw; (try dsimp only at hSw); go_simp; try with_reducible rfl)
      (try simp only [Act.put, List.setIfInBounds_toArray, List.set_cons_zero, List.set_cons_succ])
      refine wpAnyH_done (by kernel_rfl) ?_ _
      clear hS hN
      go_wp2
      go_roundw
      case rel =>
        refine ⟨i + 1, a8, c8, _, by go_num, rfl, by omega, HFL8, Lib.hid ?_, HO8, HB8⟩
        rw [List.map_append, HES.out, List.take_add_one, HCI.out, List.map_append]
        simp [HFD.out]
      case measure => simp [intOf]; omega
    · obtain rfl : i = m := by omega
      go_wp2
      go_ret2
      refine ⟨_, rfl, es, ?_, ?_, HB.out⟩
      · rw [HFL.out.len]; exact HFL.out
      · rw [HFI.out, HES.out, List.take_of_length_le (by rw [HM.out]; omega)]
end Go.Proofs.YtjlnceldnbpapaaDoor
