/-
  THE WALK OF THE LAW ImageAdds: whatever body, data, epoch and place come in: the call returns true and changes nothing that was there.
-/
import Derived.Test.YtjlnceldnbpapaaDoorImgB
import Derived.Test.YtjlnceldnbpapaaDoorImgRefA
namespace Go.Proofs.YtjlnceldnbpapaaDoor
open Go.RowKit
set_option maxRecDepth 8000 in
set_option maxHeartbeats 4000000 in
theorem adds_walk (v1 : Value) (n1 : Nat) (z1 : List Int) (v2 : Value) (n2 : Nat) (z2 : List Int) (ep : Int) (hep : U64 ep) (x : Int) (hx : I63 x) (W : World) (ht : Tab W) (h1 : RI .u8 W v1 n1 z1) (h2 : RI .u8 W v2 n2 z2) (hb2 : isB z2) :
    Calls Tryd.prog 4 #[.agg #[v1, v2], .int .u64 ep, .int .i64 x] W fun e w' => e = .returned (.bool true) ∧ Below W.heap.size W w' := by
  have hl1 := h1.le
  have hl2 := h2.le
  obtain ⟨a1, c1, rfl, _⟩ := id h1
  obtain ⟨a2, c2, rfl, _⟩ := id h2
  obtain ⟨w0, hw0⟩ : ∃ w0, W.alloc (.cells #[.slice a1 n1 c1, .slice a2 n2 c2] 39) = w0 := ⟨_, rfl⟩
  have hbx : Below W.heap.size W w0 := by rw [← hw0]; exact balloc W _
  have hg0 : w0.heap[W.heap.size]? = some (.cells #[.slice a1 n1 c1, .slice a2 n2 c2] 39 (0, 0)) := by rw [← hw0]; exact heap_alloc_last W _
  have hc0 : w0.cell? ⟨W.heap.size, 0, none⟩ = some (.slice a1 n1 c1) := cell_of_row _ _ 0 _ _ _ hg0
  have hc1 : w0.cell? ⟨W.heap.size, 1, none⟩ = some (.slice a2 n2 c2) := cell_of_row _ _ 1 _ _ _ hg0
  have HB0 := Lib.hid hbx
  have HR1 := Lib.hid (h1.keep hbx)
  have HR2 := Lib.hid (h2.keep hbx)
  have HT0 := Lib.hid (ht.keep hbx)
  have HC0 := Lib.hid hc0
  have HC1 := Lib.hid hc1
  clear hbx hg0 h1 h2
  go_enter Tryd.func4, Tryd.ntmps4
  go_wp2_with fail
  refine wp_region_held_drew (S := (fun w' => w'.cell? ⟨W.heap.size, 0, none⟩ = some (.slice a1 n1 c1) ∧ w'.cell? ⟨W.heap.size, 1, none⟩ = some (.slice a2 n2 c2))) (by kernel_rfl) ⟨cell_keep (Below.refl _ _).drew HC0.out, cell_keep (Below.refl _ _).drew HC1.out⟩ (fun hS => ?_)
  refine wpAnyH_take (i := 0) (oi := ({ dst := some 16, op := Op.indexAddr 39 (Operand.tmp 3) (Operand.const (Value.int IntKind.i64 0)), type := 0, pos := "law.go:45", after := #[], guard := none } : Oper)) (v := ?_) rfl (by kernel_rfl) (by kernel_rfl) (by kernel_rfl) (fun _ _ _ h => h) (Or.inl ⟨by rfl, ?_⟩) hS ?_
  rotate_left
  · (intro w hSw; (try dsimp only at hSw); go_simp; try with_reducible rfl)
  (try simp only [Act.put, List.setIfInBounds_toArray, List.set_cons_zero, List.set_cons_succ])
  refine wpAnyH_take (i := 1) (oi := ({ dst := some 17, op := Op.load 26 (Operand.tmp 16), type := 26, pos := "law.go:45", after := #[{ on := 0, ground := Ground.data }], guard := none } : Oper)) (v := ?_) rfl (by kernel_rfl) (by kernel_rfl) (by kernel_rfl) (fun _ _ _ h => h) (Or.inl ⟨by rfl, ?_⟩) hS ?_
  rotate_left
  · (intro w hSw; (try dsimp only at hSw); have z := hSw.1; go_simp; try with_reducible rfl)
  (try simp only [Act.put, List.setIfInBounds_toArray, List.set_cons_zero, List.set_cons_succ])
  refine wpAnyH_take (i := 2) (oi := ({ dst := some 18, op := Op.indexAddr 39 (Operand.tmp 3) (Operand.const (Value.int IntKind.i64 1)), type := 0, pos := "law.go:45", after := #[{ on := 4, ground := Ground.gcOnly Departure.lateStores }], guard := none } : Oper)) (v := ?_) rfl (by kernel_rfl) (by kernel_rfl) (by kernel_rfl) (fun _ _ _ h => h) (Or.inl ⟨by rfl, ?_⟩) hS ?_
  rotate_left
  · (intro w hSw; (try dsimp only at hSw); go_simp; try with_reducible rfl)
  (try simp only [Act.put, List.setIfInBounds_toArray, List.set_cons_zero, List.set_cons_succ])
  refine wpAnyH_take (i := 3) (oi := ({ dst := some 19, op := Op.load 26 (Operand.tmp 18), type := 26, pos := "law.go:45", after := #[{ on := 2, ground := Ground.data }, { on := 4, ground := Ground.gcOnly Departure.lateStores }], guard := none } : Oper)) (v := ?_) rfl (by kernel_rfl) (by kernel_rfl) (by kernel_rfl) (fun _ _ _ h => h) (Or.inl ⟨by rfl, ?_⟩) hS ?_
  rotate_left
  · (intro w hSw; (try dsimp only at hSw); have z := hSw.2; go_simp; try with_reducible rfl)
  (try simp only [Act.put, List.setIfInBounds_toArray, List.set_cons_zero, List.set_cons_succ])
  refine wpAnyH_take (i := 4) (oi := ({ dst := some 7, op := Op.assign (Operand.tmp 17), type := 26, pos := "law.go:45", after := #[{ on := 1, ground := Ground.data }, { on := 0, ground := Ground.phase }, { on := 1, ground := Ground.phase }, { on := 2, ground := Ground.textOnly Departure.lateStores }, { on := 3, ground := Ground.textOnly Departure.lateStores }], guard := none } : Oper)) (v := ?_) rfl (by kernel_rfl) (by kernel_rfl) (by kernel_rfl) (fun _ _ _ h => h) (Or.inl ⟨by rfl, ?_⟩) hS ?_
  rotate_left
  · (intro w hSw; (try dsimp only at hSw); go_simp; try with_reducible rfl)
  (try simp only [Act.put, List.setIfInBounds_toArray, List.set_cons_zero, List.set_cons_succ])
  refine wpAnyH_take (i := 5) (oi := ({ dst := some 8, op := Op.assign (Operand.tmp 19), type := 26, pos := "law.go:45", after := #[{ on := 3, ground := Ground.data }, { on := 4, ground := Ground.chain }, { on := 0, ground := Ground.phase }, { on := 1, ground := Ground.phase }, { on := 2, ground := Ground.phase }, { on := 3, ground := Ground.phase }, { on := 4, ground := Ground.phase }], guard := none } : Oper)) (v := ?_) rfl (by kernel_rfl) (by kernel_rfl) (by kernel_rfl) (fun _ _ _ h => h) (Or.inl ⟨by rfl, ?_⟩) hS ?_
  rotate_left
  · (intro w hSw; (try dsimp only at hSw); go_simp; try with_reducible rfl)
  (try simp only [Act.put, List.setIfInBounds_toArray, List.set_cons_zero, List.set_cons_succ])
  refine wpAnyH_done (by kernel_rfl) ?_ _
  obtain ⟨wd, hwd⟩ : ∃ q, World.drew w0 = q := ⟨_, rfl⟩
  have HBD : Hid (Below W.heap.size W wd) := Lib.hid (by rw [← hwd]; exact HB0.out.drew)
  have hbd : Below w0.heap.size w0 wd := by rw [← hwd]; exact (Below.refl _ _).drew
  have HD1 := Lib.hid (HR1.out.keep hbd)
  have HD2 := Lib.hid (HR2.out.keep hbd)
  have HTD := Lib.hid (HT0.out.keep hbd)
  rw [hwd]
  clear hS hbd hwd hc0 hc1 HC0 HC1 HR1 HR2 HT0 HB0
  by_cases hn1 : (n1 : Int) > 2000
  · go_wp2_with (first
      | (go_at_call 7; (with_reducible refine (awake_any _).mono ?_); rintro e w9 ⟨rfl, hb⟩; have HB9 := Lib.hid (bch HBD.out hb); clear hb))
    go_ret
    exact ⟨rfl, HB9.out⟩
  by_cases hn2 : (n2 : Int) > 2000
  · go_wp2_with (first
      | (go_at_call 7; (with_reducible refine (awake_any _).mono ?_); rintro e w9 ⟨rfl, hb⟩; have HB9 := Lib.hid (bch HBD.out hb); clear hb))
    go_ret
    exact ⟨rfl, HB9.out⟩
  obtain ⟨s1, hs1⟩ : ∃ s, strOfNums z1 = s := ⟨_, rfl⟩
  have HS1 := Lib.hid hs1
  have k1 := conv_ri HD1.out
  rw [hs1] at k1
  clear hs1
  have HEP := Lib.hid hep
  have HX := Lib.hid hx
  have HZB := Lib.hid hb2
  clear hep hx hb2
  cases hft : fitI x n2 with
  | true =>
    have HP : Hid (∀ w, Tab w → RI .u8 w (.slice a1 n1 c1) n1 z1 → RI .u8 w (.slice a2 n2 c2) n2 z2 → Calls Tryd.prog 14 #[.int .u64 ep, .slice a1 n1 c1, .int .i64 x, .slice a2 n2 c2] w fun e w' => ∃ g, e = .returned (.tuple #[.slice (some ⟨g, 0, none⟩) 832 832, .int .i64 (endI x n2 : Nat), .bool true]) ∧ YB w' g (layR (ep % 4294967296) (pad8 z1) x z2) ∧ w.heap.size ≤ g ∧ Below w.heap.size w w') := Lib.hid fun w q1 q2 q3 => add_fit ep x HX.out _ n1 z1 _ n2 z2 HZB.out w q1 q2 q3 hft
    have HQ : Hid (∀ w, RI .u8 w (.slice a1 n1 c1) n1 z1 → RI .u8 w (.slice a2 n2 c2) n2 z2 → Calls Tryd.prog 15 #[.int .u64 ep, .slice a1 n1 c1, .int .i64 x, .slice a2 n2 c2] w fun e w' => ∃ g, e = .returned (.tuple #[.slice (some ⟨g, 0, none⟩) 832 832, .int .i64 (endI x n2 : Nat), .bool true]) ∧ YB w' g (layR (ep % 4294967296) (pad8 z1) x z2) ∧ w.heap.size ≤ g ∧ Below w.heap.size w w') := Lib.hid fun w q1 q2 => radd_fit ep x HX.out HEP.out _ n1 z1 _ n2 z2 HZB.out w q1 q2 hft
    have HLN : Hid ((layR (ep % 4294967296) (pad8 z1) x z2).length = 832) := Lib.hid (layR_len (pad8_len z1))
    generalize layR (ep % 4294967296) (pad8 z1) x z2 = out at *
    generalize endI x n2 = en at *
    obtain ⟨s2, hs2⟩ : ∃ s, strOfNums out = s := ⟨_, rfl⟩
    have HS2 := Lib.hid hs2
    clear hs2 hft
    go_wp2_with (first
      | (go_at_call 14; (with_reducible refine (HP.out _ HTD.out HD1.out HD2.out).mono ?_); rintro e w1 ⟨g1, rfl, hy, _, hb⟩; have HY1 := Lib.hid hy; have HB1 := Lib.hid (bch HBD.out hb); have HE1 := Lib.hid (HD1.out.keep hb); have HE2 := Lib.hid (HD2.out.keep hb); clear hy hb)
      | (go_at_call 15; (with_reducible refine (HQ.out _ HE1.out HE2.out).mono ?_); rintro e w2 ⟨g2, rfl, hy, _, hb⟩; have HB2 := Lib.hid (bch HB1.out hb); have k2 := conv_ri ((HY1.out.keep hb).ri HLN.out (by omega)); have k3 := conv_ri (hy.ri HLN.out (by omega)); have k4 := conv_ri (HE1.out.keep hb); rw [HS2.out] at k2 k3; rw [HS1.out] at k4; clear hy hb)
      | (go_at_call 7; (with_reducible refine (awake_any _).mono ?_); rintro e w9 ⟨rfl, hb⟩; have HB9 := Lib.hid (bch HB2.out hb); clear hb))
    go_ret
    exact ⟨rfl, HB9.out⟩
  | false =>
    have HP : Hid (∀ w, Calls Tryd.prog 14 #[.int .u64 ep, .slice a1 n1 c1, .int .i64 x, .slice a2 n2 c2] w fun e w' => e = .returned (.tuple #[.slice none 0 0, .int .i64 0, .bool false]) ∧ Below w.heap.size w w') := Lib.hid fun w => add_no ep x HX.out _ a2 n2 c2 w hft
    have HQ : Hid (∀ w, Calls Tryd.prog 15 #[.int .u64 ep, .slice a1 n1 c1, .int .i64 x, .slice a2 n2 c2] w fun e w' => e = .returned (.tuple #[.slice none 0 0, .int .i64 0, .bool false]) ∧ Below w.heap.size w w') := Lib.hid fun w => radd_no ep x HX.out _ a2 n2 c2 (by omega) w hft
    clear hft
    go_wp2_with (first
      | (go_at_call 14; (with_reducible refine (HP.out _).mono ?_); rintro e w1 ⟨rfl, hb⟩; have HB1 := Lib.hid (bch HBD.out hb); have HE1 := Lib.hid (HD1.out.keep hb); clear hb)
      | (go_at_call 15; (with_reducible refine (HQ.out _).mono ?_); rintro e w2 ⟨rfl, hb⟩; have HB2 := Lib.hid (bch HB1.out hb); have k2 := conv_ri (RI.nil .u8 w2); have k4 := conv_ri (HE1.out.keep hb); rw [HS1.out] at k4; clear hb)
      | (go_at_call 7; (with_reducible refine (awake_any _).mono ?_); rintro e w9 ⟨rfl, hb⟩; have HB9 := Lib.hid (bch HB2.out hb); clear hb))
    go_ret
    exact ⟨rfl, HB9.out⟩
end Go.Proofs.YtjlnceldnbpapaaDoor
