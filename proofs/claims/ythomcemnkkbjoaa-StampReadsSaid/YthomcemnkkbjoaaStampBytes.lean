/-
  THE WALK OF THE LAW StampBytes: whatever bytes come in: the call returns true and changes nothing that was there.
-/
import Derived.Test.YthomcemnkkbjoaaStampB
import Derived.Deep.RegionHeld3
namespace Go.Proofs.Ythomcemnkkbjoaa
open Go.RowKit
/-- the text of what a slice of bytes holds -/
theorem conv_ri {w : World} {v : Value} {n : Nat} {zs : List Int} (h : RI .u8 w v n zs) : (convert 25 9 v).run Try.prog w = .ok (.string (strOfNums zs)) w :=
  conv_of Try.underlying25 Try.underlying5 Try.underlying9 h
/-- what is kept through the law's region: the sectors, their first bytes, the bytes -/
structure SB (W : World) (lv wv cv bv : Value) (n m len : Nat) (zs : List Int) (s : ByteArray) (w : World) : Prop where
  c1 : (convert 25 9 cv).run Try.prog w = .ok (.string s) w
  c2 : (convert 25 9 bv).run Try.prog w = .ok (.string s) w
  fs : FS w lv n (padn zs)
  whole : RI .u8 w wv m (padn zs)
  cut : RI .u8 w cv len zs
  arg : RI .u8 w bv len zs
  text : s = strOfNums zs
  below : Below W.heap.size W w
theorem SB.start {W w : World} {lv wv cv bv : Value} {n m len : Nat} {zs : List Int} {s : ByteArray} (hs : s = strOfNums zs) (h1 : FS w lv n (padn zs)) (h0 : RI .u8 w wv m (padn zs)) (h2 : RI .u8 w cv len zs) (h3 : RI .u8 w bv len zs) (hb : Below W.heap.size W w) : SB W lv wv cv bv n m len zs s w :=
  ⟨by rw [hs]; exact conv_ri h2, by rw [hs]; exact conv_ri h3, h1, h0, h2, h3, hs, hb⟩
theorem SB.next {W w w' : World} {lv wv cv bv : Value} {n m len : Nat} {zs : List Int} {s : ByteArray} (h : SB W lv wv cv bv n m len zs s w) (hb : Below w.heap.size w w') : SB W lv wv cv bv n m len zs s w' :=
  SB.start h.text (h.fs.keep hb) (h.whole.keep hb) (h.cut.keep hb) (h.arg.keep hb) (chain h.below hb)
set_option maxRecDepth 8000 in
set_option maxHeartbeats 1000000 in
theorem bytes_pos (b off len cap : Nat) (zs : List Int) (W : World) (hri : RI .u8 W (.slice (some ⟨b, off, none⟩) len cap) len zs) (h0 : 0 < len) (hlen : (len : Int) ≤ 5000) :
    Calls Try.prog 5 #[.slice (some ⟨b, off, none⟩) len cap] W fun e w' => e = .returned (.bool true) ∧ Below W.heap.size W w' := by
  have HR := Lib.hid hri
  have hz := hri.length
  have HL := Lib.hid hz
  obtain ⟨n, hn⟩ : ∃ n, (len + 63) / 64 = n := ⟨_, rfl⟩
  have hn1 : 1 ≤ n := by omega
  have hn2 : (n : Int) ≤ 100 := by omega
  have hpl : (padn zs).length = n * 64 := by rw [padn_length, hz, hn]
  have hlm : len ≤ n * 64 := by omega
  obtain ⟨m, hm'⟩ : ∃ m, n * 64 = m := ⟨_, rfl⟩
  have hm : (m : Int) = 64 * (n : Int) := by omega
  have hlm' : (len : Int) ≤ 64 * (n : Int) := by omega
  have HP := Lib.hid (show (padn zs).take len = zs from by rw [← hz]; exact padn_take zs)
  have HN := Lib.hid hn
  have HM := Lib.hid hm'
  have HPL := Lib.hid (show (padn zs).length = m from by rw [hpl, hm'])
  obtain ⟨s, hs⟩ : ∃ s, s = strOfNums zs := ⟨_, rfl⟩
  have HS := Lib.hid hs
  have HC : Hid (∀ (v : Value) (w : World), FS w v n (padn zs) → Calls Try.prog 15 #[v] w fun e w' => ∃ b2 off2 cap2, e = .returned (.slice (some ⟨b2, off2, none⟩) m cap2) ∧ ¬ cap2 = 0 ∧ (len : Int) ≤ (cap2 : Int) ∧ RI .u8 w' (.slice (some ⟨b2, off2, none⟩) m cap2) m (padn zs) ∧ RI .u8 w' (.slice (some ⟨b2, off2, none⟩) len cap2) len zs ∧ Below w.heap.size w w') := fun v w h => by
    refine (bytes_any v n (padn zs) w h (by omega)).mono ?_
    rintro e w' ⟨v', rfl, hr, hb⟩
    rw [hm'] at hr
    obtain ⟨b2, off2, cap2, rfl, hc2, _, _⟩ := hr.open_ (by omega)
    refine ⟨b2, off2, cap2, rfl, by omega, by omega, hr, ?_, hb⟩
    have hu := hr.upto len (by omega)
    rw [HP.out] at hu
    have hsl : sliced (some ⟨b2, off2, none⟩) 0 len cap2 1 = .slice (some ⟨b2, off2, none⟩) len cap2 := by
      unfold sliced; split <;> simp [Addr.add]
    rwa [hsl] at hu
  clear hri hz hn hpl hlm hm' hs
  go_enter Try.func5, Try.ntmps5
  go_wp2_with (first
    | (go_at_call 14; (with_reducible refine (secs_any _ len zs _ HR.out (by omega)).mono ?_); rintro e w1 ⟨v1, rfl, hf, hb⟩; rw [HN.out] at hf; have HF1 := Lib.hid hf; have HB1 := Lib.hid hb; clear hf hb)
    | (go_at_call 15; (with_reducible refine (HC.out _ _ HF1.out).mono ?_); rintro e w2 ⟨b2, off2, cap2, rfl, hc0, hc2, hr, hu, hb⟩; have HR2 := Lib.hid hr; have HU2 := Lib.hid hu; have HF2 := Lib.hid (HF1.out.keep hb); have HB2 := Lib.hid (chain HB1.out hb); clear hr hu hb))
  obtain ⟨a1, c1, e1⟩ : ∃ a1 c1, v1 = .slice a1 n c1 := by
    obtain ⟨a1, c1, e1, _⟩ := HF2.out; exact ⟨a1, c1, e1⟩
  subst e1
  have HS0 := Lib.hid (SB.start (W := W) HS.out HF2.out HR2.out HU2.out (HR.out.keep HB2.out) HB2.out)
  have hwr : IntKind.i64.wrap (64 * (n : Int)) = 64 * (n : Int) := IntWalk.i64_in _ (by omega)
  refine wp_region_held_drew (S := (fun w' => SB W (.slice a1 n c1) (.slice (some ⟨b2, off2, none⟩) m cap2) (.slice (some ⟨b2, off2, none⟩) len cap2) (.slice (some ⟨b, off, none⟩) len cap) n m len zs s w')) (by kernel_rfl) (SB.next HS0.out ((Below.refl _ _).drew)) (fun hS => ?_)
  refine wpAnyH_take (i := 0) (oi := ({ dst := some 13, op := Op.move (Operand.tmp 3), type := 39, pos := "law.go:43", after := #[], guard := none } : Oper)) (v := ?_) rfl (by kernel_rfl) (by kernel_rfl) (by kernel_rfl) (fun _ _ _ h => h) (Or.inl ⟨by rfl, ?_⟩) hS ?_
  rotate_left
  · (intro w hSw; (try dsimp only at hSw); go_simp; try with_reducible rfl)
  (try simp only [Act.put, List.setIfInBounds_toArray, List.set_cons_zero, List.set_cons_succ])
  refine wpAnyH_take (i := 1) (oi := ({ dst := some 14, op := Op.move (Operand.tmp 0), type := 25, pos := "law.go:43", after := #[], guard := none } : Oper)) (v := ?_) rfl (by kernel_rfl) (by kernel_rfl) (by kernel_rfl) (fun _ _ _ h => h) (Or.inl ⟨by rfl, ?_⟩) hS ?_
  rotate_left
  · (intro w hSw; (try dsimp only at hSw); go_simp; try with_reducible rfl)
  (try simp only [Act.put, List.setIfInBounds_toArray, List.set_cons_zero, List.set_cons_succ])
  refine rg_one 2 ({ dst := some 15, op := Op.call { callee := Callee.value (Operand.func 17), args := #[Operand.tmp 14], argTypes := #[25] }, type := 39, pos := "law.go:43", after := #[{ on := 1, ground := Ground.data }], guard := none } : Oper) (by kernel_rfl) rfl (fun K hK => ?_)
  go_simp
  (go_at_call 17; (with_reducible refine (rsecs_any _ len zs _ hS.arg (by omega)).mono ?_); rintro e w3 ⟨v3, rfl, hf3, hb⟩; rw [HN.out] at hf3)
  refine hK.out _ _ ?_ (fun hS1 => ?_)
  · (first | exact hS | exact SB.next hS hb)
  clear hK K hS; have hS := hS1; clear hS1
  (try simp only [Act.put, List.setIfInBounds_toArray, List.set_cons_zero, List.set_cons_succ])
  refine rg_one 3 ({ dst := some 16, op := Op.call { callee := Callee.value (Operand.func 16), args := #[Operand.tmp 13, Operand.tmp 15], argTypes := #[39, 39] }, type := 4, pos := "law.go:43", after := #[{ on := 0, ground := Ground.data }, { on := 2, ground := Ground.data }, { on := 2, ground := Ground.chain }], guard := none } : Oper) (by kernel_rfl) rfl (fun K hK => ?_)
  go_simp
  (go_at_call 16; (with_reducible refine (same_true _ _ n (padn zs) _ (hS.fs) hf3).mono ?_); rintro e w4 ⟨rfl, hb⟩)
  refine hK.out _ _ ?_ (fun hS1 => ?_)
  · (first | exact hS | exact SB.next hS hb)
  clear hK K hS; have hS := hS1; clear hS1
  (try simp only [Act.put, List.setIfInBounds_toArray, List.set_cons_zero, List.set_cons_succ])
  refine wpAnyH_take (i := 4) (oi := ({ dst := some 17, op := Op.unOp UnOp.not 4 (Operand.tmp 16), type := 4, pos := "law.go:43", after := #[{ on := 3, ground := Ground.data }], guard := none } : Oper)) (v := ?_) rfl (by kernel_rfl) (by kernel_rfl) (by kernel_rfl) (fun _ _ _ h => h) (Or.inl ⟨by rfl, ?_⟩) hS ?_
  rotate_left
  · (intro w hSw; (try dsimp only at hSw); go_simp; try with_reducible rfl)
  (try simp only [Act.put, List.setIfInBounds_toArray, List.set_cons_zero, List.set_cons_succ])
  refine wpAnyH_take (i := 5) (oi := ({ dst := some 18, op := Op.move (Operand.tmp 17), type := 4, pos := "law.go:43", after := #[{ on := 4, ground := Ground.data }, { on := 3, ground := Ground.chain }], guard := none } : Oper)) (v := ?_) rfl (by kernel_rfl) (by kernel_rfl) (by kernel_rfl) (fun _ _ _ h => h) (Or.inl ⟨by rfl, ?_⟩) hS ?_
  rotate_left
  · (intro w hSw; (try dsimp only at hSw); go_simp; try with_reducible rfl)
  (try simp only [Act.put, List.setIfInBounds_toArray, List.set_cons_zero, List.set_cons_succ])
  refine wpAnyH_take (i := 6) (oi := ({ dst := some 19, op := Op.move (Operand.tmp 4), type := 25, pos := "law.go:43", after := #[{ on := 5, ground := Ground.guard }], guard := some (5, false) } : Oper)) (v := ?_) rfl (by kernel_rfl) (by kernel_rfl) (by kernel_rfl) (fun _ _ _ h => h) (Or.inl ⟨by rfl, ?_⟩) hS ?_
  rotate_left
  · (intro w hSw; (try dsimp only at hSw); go_simp; try with_reducible rfl)
  (try simp only [Act.put, List.setIfInBounds_toArray, List.set_cons_zero, List.set_cons_succ])
  refine wpAnyH_take (i := 7) (oi := ({ dst := some 20, op := Op.call { callee := Callee.builtin Builtin.len, args := #[Operand.tmp 19], argTypes := #[25] }, type := 3, pos := "law.go:43", after := #[{ on := 6, ground := Ground.data }, { on := 5, ground := Ground.guard }], guard := some (5, false) } : Oper)) (v := ?_) rfl (by kernel_rfl) (by kernel_rfl) (by kernel_rfl) (fun _ _ _ h => h) (Or.inl ⟨by rfl, ?_⟩) hS ?_
  rotate_left
  · (intro w hSw; (try dsimp only at hSw); go_simp; try with_reducible rfl)
  (try simp only [Act.put, List.setIfInBounds_toArray, List.set_cons_zero, List.set_cons_succ])
  refine wpAnyH_take (i := 8) (oi := ({ dst := some 21, op := Op.move (Operand.tmp 3), type := 39, pos := "law.go:43", after := #[{ on := 5, ground := Ground.guard }], guard := some (5, false) } : Oper)) (v := ?_) rfl (by kernel_rfl) (by kernel_rfl) (by kernel_rfl) (fun _ _ _ h => h) (Or.inl ⟨by rfl, ?_⟩) hS ?_
  rotate_left
  · (intro w hSw; (try dsimp only at hSw); go_simp; try with_reducible rfl)
  (try simp only [Act.put, List.setIfInBounds_toArray, List.set_cons_zero, List.set_cons_succ])
  refine wpAnyH_take (i := 9) (oi := ({ dst := some 22, op := Op.call { callee := Callee.builtin Builtin.len, args := #[Operand.tmp 21], argTypes := #[39] }, type := 3, pos := "law.go:43", after := #[{ on := 8, ground := Ground.data }, { on := 5, ground := Ground.guard }], guard := some (5, false) } : Oper)) (v := ?_) rfl (by kernel_rfl) (by kernel_rfl) (by kernel_rfl) (fun _ _ _ h => h) (Or.inl ⟨by rfl, ?_⟩) hS ?_
  rotate_left
  · (intro w hSw; (try dsimp only at hSw); go_simp; try with_reducible rfl)
  (try simp only [Act.put, List.setIfInBounds_toArray, List.set_cons_zero, List.set_cons_succ])
  refine wpAnyH_take (i := 10) (oi := ({ dst := some 23, op := Op.binOp BinOp.mul 3 (Operand.const (Value.int IntKind.i64 64)) (Operand.tmp 22) 3, type := 3, pos := "law.go:43", after := #[{ on := 9, ground := Ground.data }, { on := 5, ground := Ground.guard }], guard := some (5, false) } : Oper)) (v := ?_) rfl (by kernel_rfl) (by kernel_rfl) (by kernel_rfl) (fun _ _ _ h => h) (Or.inl ⟨by rfl, ?_⟩) hS ?_
  rotate_left
  · (intro w hSw; (try dsimp only at hSw); go_simp; try with_reducible rfl)
  (try simp only [Act.put, List.setIfInBounds_toArray, List.set_cons_zero, List.set_cons_succ])
  refine wpAnyH_take (i := 11) (oi := ({ dst := some 24, op := Op.binOp BinOp.neq 3 (Operand.tmp 20) (Operand.tmp 23) 3, type := 4, pos := "law.go:43", after := #[{ on := 7, ground := Ground.data }, { on := 10, ground := Ground.data }, { on := 5, ground := Ground.guard }], guard := some (5, false) } : Oper)) (v := ?_) rfl (by kernel_rfl) (by kernel_rfl) (by kernel_rfl) (fun _ _ _ h => h) (Or.inl ⟨by rfl, ?_⟩) hS ?_
  rotate_left
  · (intro w hSw; (try dsimp only at hSw); go_simp; try with_reducible rfl)
  (try simp only [Act.put, List.setIfInBounds_toArray, List.set_cons_zero, List.set_cons_succ])
  refine wpAnyH_take (i := 12) (oi := ({ dst := some 25, op := Op.pick (Operand.tmp 18) (Operand.const (Value.bool true)) (Operand.tmp 24), type := 4, pos := "law.go:43", after := #[{ on := 5, ground := Ground.data }, { on := 11, ground := Ground.data }], guard := none } : Oper)) (v := ?_) rfl (by kernel_rfl) (by kernel_rfl) (by kernel_rfl) (fun _ _ _ h => h) (Or.inl ⟨by rfl, ?_⟩) hS ?_
  rotate_left
  · (intro w hSw; (try dsimp only at hSw); go_simp; try with_reducible rfl)
  (try simp only [Act.put, List.setIfInBounds_toArray, List.set_cons_zero, List.set_cons_succ])
  refine wpAnyH_take (i := 13) (oi := ({ dst := some 26, op := Op.move (Operand.tmp 25), type := 4, pos := "law.go:43", after := #[{ on := 12, ground := Ground.data }, { on := 5, ground := Ground.chain }], guard := none } : Oper)) (v := ?_) rfl (by kernel_rfl) (by kernel_rfl) (by kernel_rfl) (fun _ _ _ h => h) (Or.inl ⟨by rfl, ?_⟩) hS ?_
  rotate_left
  · (intro w hSw; (try dsimp only at hSw); go_simp; try with_reducible rfl)
  (try simp only [Act.put, List.setIfInBounds_toArray, List.set_cons_zero, List.set_cons_succ])
  refine wpAnyH_take (i := 14) (oi := ({ dst := some 27, op := Op.move (Operand.tmp 4), type := 25, pos := "law.go:43", after := #[{ on := 13, ground := Ground.guard }], guard := some (13, false) } : Oper)) (v := ?_) rfl (by kernel_rfl) (by kernel_rfl) (by kernel_rfl) (fun _ _ _ h => h) (Or.inl ⟨by rfl, ?_⟩) hS ?_
  rotate_left
  · (intro w hSw; (try dsimp only at hSw); go_simp; try with_reducible rfl)
  (try simp only [Act.put, List.setIfInBounds_toArray, List.set_cons_zero, List.set_cons_succ])
  refine wpAnyH_take (i := 15) (oi := ({ dst := some 28, op := Op.move (Operand.tmp 0), type := 25, pos := "law.go:43", after := #[{ on := 13, ground := Ground.guard }], guard := some (13, false) } : Oper)) (v := ?_) rfl (by kernel_rfl) (by kernel_rfl) (by kernel_rfl) (fun _ _ _ h => h) (Or.inl ⟨by rfl, ?_⟩) hS ?_
  rotate_left
  · (intro w hSw; (try dsimp only at hSw); go_simp; try with_reducible rfl)
  (try simp only [Act.put, List.setIfInBounds_toArray, List.set_cons_zero, List.set_cons_succ])
  refine wpAnyH_take (i := 16) (oi := ({ dst := some 29, op := Op.call { callee := Callee.builtin Builtin.len, args := #[Operand.tmp 28], argTypes := #[25] }, type := 3, pos := "law.go:43", after := #[{ on := 15, ground := Ground.data }, { on := 13, ground := Ground.guard }], guard := some (13, false) } : Oper)) (v := ?_) rfl (by kernel_rfl) (by kernel_rfl) (by kernel_rfl) (fun _ _ _ h => h) (Or.inl ⟨by rfl, ?_⟩) hS ?_
  rotate_left
  · (intro w hSw; (try dsimp only at hSw); go_simp; try with_reducible rfl)
  (try simp only [Act.put, List.setIfInBounds_toArray, List.set_cons_zero, List.set_cons_succ])
  refine wpAnyH_take (i := 17) (oi := ({ dst := some 30, op := Op.slice 25 (Operand.tmp 27) none (some (Operand.tmp 29)) none, type := 25, pos := "law.go:43", after := #[{ on := 14, ground := Ground.data }, { on := 16, ground := Ground.data }, { on := 13, ground := Ground.guard }], guard := some (13, false) } : Oper)) (v := ?_) rfl (by kernel_rfl) (by kernel_rfl) (by kernel_rfl) (fun _ _ _ h => h) (Or.inl ⟨by rfl, ?_⟩) hS ?_
  rotate_left
  · (intro w hSw; (try dsimp only at hSw); go_simp; try with_reducible rfl)
  (try simp only [Act.put, List.setIfInBounds_toArray, List.set_cons_zero, List.set_cons_succ])
  refine wpAnyH_take (i := 18) (oi := ({ dst := some 31, op := Op.convert 25 9 (Operand.tmp 30), type := 9, pos := "law.go:43", after := #[{ on := 17, ground := Ground.data }, { on := 13, ground := Ground.guard }], guard := some (13, false) } : Oper)) (v := ?_) rfl (by kernel_rfl) (by kernel_rfl) (by kernel_rfl) (fun _ _ _ h => h) (Or.inl ⟨by rfl, ?_⟩) hS ?_
  rotate_left
  · (intro w hSw; (try dsimp only at hSw); have hc1 := hSw.c1; go_simp; try with_reducible rfl)
  (try simp only [Act.put, List.setIfInBounds_toArray, List.set_cons_zero, List.set_cons_succ])
  refine wpAnyH_take (i := 19) (oi := ({ dst := some 32, op := Op.move (Operand.tmp 0), type := 25, pos := "law.go:43", after := #[{ on := 13, ground := Ground.guard }], guard := some (13, false) } : Oper)) (v := ?_) rfl (by kernel_rfl) (by kernel_rfl) (by kernel_rfl) (fun _ _ _ h => h) (Or.inl ⟨by rfl, ?_⟩) hS ?_
  rotate_left
  · (intro w hSw; (try dsimp only at hSw); go_simp; try with_reducible rfl)
  (try simp only [Act.put, List.setIfInBounds_toArray, List.set_cons_zero, List.set_cons_succ])
  refine wpAnyH_take (i := 20) (oi := ({ dst := some 33, op := Op.convert 25 9 (Operand.tmp 32), type := 9, pos := "law.go:43", after := #[{ on := 19, ground := Ground.data }, { on := 13, ground := Ground.guard }], guard := some (13, false) } : Oper)) (v := ?_) rfl (by kernel_rfl) (by kernel_rfl) (by kernel_rfl) (fun _ _ _ h => h) (Or.inl ⟨by rfl, ?_⟩) hS ?_
  rotate_left
  · (intro w hSw; (try dsimp only at hSw); have hc1 := hSw.c2; go_simp; try with_reducible rfl)
  (try simp only [Act.put, List.setIfInBounds_toArray, List.set_cons_zero, List.set_cons_succ])
  refine wpAnyH_take (i := 21) (oi := ({ dst := some 34, op := Op.binOp BinOp.neq 9 (Operand.tmp 31) (Operand.tmp 33) 9, type := 4, pos := "law.go:43", after := #[{ on := 18, ground := Ground.data }, { on := 20, ground := Ground.data }, { on := 13, ground := Ground.guard }], guard := some (13, false) } : Oper)) (v := ?_) rfl (by kernel_rfl) (by kernel_rfl) (by kernel_rfl) (fun _ _ _ h => h) (Or.inl ⟨by rfl, ?_⟩) hS ?_
  rotate_left
  · (intro w hSw; (try dsimp only at hSw); go_simp; try with_reducible rfl)
  (try simp only [Act.put, List.setIfInBounds_toArray, List.set_cons_zero, List.set_cons_succ])
  refine wpAnyH_take (i := 22) (oi := ({ dst := some 35, op := Op.pick (Operand.tmp 26) (Operand.const (Value.bool true)) (Operand.tmp 34), type := 4, pos := "law.go:43", after := #[{ on := 13, ground := Ground.data }, { on := 21, ground := Ground.data }], guard := none } : Oper)) (v := ?_) rfl (by kernel_rfl) (by kernel_rfl) (by kernel_rfl) (fun _ _ _ h => h) (Or.inl ⟨by rfl, ?_⟩) hS ?_
  rotate_left
  · (intro w hSw; (try dsimp only at hSw); go_simp; try with_reducible rfl)
  (try simp only [Act.put, List.setIfInBounds_toArray, List.set_cons_zero, List.set_cons_succ])
  refine wpAnyH_done (by kernel_rfl) ?_ _
  have HQ := Lib.hid hS
  have HPP := Lib.hid (show padn (padn zs) = padn zs from padn_whole _ n (by rw [HPL.out, HM.out]))
  have HMN := Lib.hid (show (m + 63) / 64 = n from by have := HM.out; omega)
  have hm63 : (m : Int) ≤ 100000000000 := by omega
  go_wp2_with (first
    | (go_at_call 14; (with_reducible refine (secs_any _ m (padn zs) _ HQ.out.whole hm63).mono ?_); rintro e w5 ⟨v5, rfl, hf, hb⟩; rw [HPP.out, HMN.out] at hf; have HF5 := Lib.hid hf; have HQ5 := Lib.hid (HQ.out.next hb); clear hf hb)
    | (go_at_call 16; (with_reducible refine (same_true _ _ n (padn zs) _ HF5.out HQ5.out.fs).mono ?_); rintro e w6 ⟨rfl, hb⟩; have HQ6 := Lib.hid (HQ5.out.next hb); clear hb)
    | (go_at_call 10; (with_reducible refine (awake_any _).mono ?_); rintro e w7 ⟨rfl, hb⟩; have HB7 := Lib.hid (chain HQ6.out.below hb); clear hb))
  go_ret
  exact ⟨rfl, HB7.out⟩
set_option maxRecDepth 8000 in
set_option maxHeartbeats 1000000 in
theorem bytes_none (a : Option Addr) (cap : Nat) (W : World) (hri : RI .u8 W (.slice a 0 cap) 0 []) :
    Calls Try.prog 5 #[.slice a 0 cap] W fun e w' => e = .returned (.bool true) ∧ Below W.heap.size W w' := by
  have HR := Lib.hid hri
  have HC : Hid (∀ (v : Value) (w : World), FS w v 0 [] → Calls Try.prog 15 #[v] w fun e w' => ∃ v2, e = .returned v2 ∧ RI .u8 w' v2 0 [] ∧ Below w.heap.size w w') := fun v w h => bytes_any v 0 [] w h (by omega)
  have HSC : Hid (∀ (v : Value) (w : World), RI .u8 w v 0 [] → Calls Try.prog 14 #[v] w fun e w' => ∃ v', e = .returned v' ∧ FS w' v' 0 [] ∧ Below w.heap.size w w') := fun v w h => secs_any v 0 [] w h (by omega)
  have HRS : Hid (∀ (v : Value) (w : World), RI .u8 w v 0 [] → Calls Try.prog 17 #[v] w fun e w' => ∃ v', e = .returned v' ∧ FS w' v' 0 [] ∧ Below w.heap.size w w') := fun v w h => rsecs_any v 0 [] w h (by omega)
  clear hri
  go_enter Try.func5, Try.ntmps5
  go_wp2_with (first
    | (go_at_call 14; (with_reducible refine (HSC.out _ _ HR.out).mono ?_); rintro e w1 ⟨v1, rfl, hf, hb⟩; have HF1 := Lib.hid hf; have HB1 := Lib.hid hb; clear hf hb)
    | (go_at_call 15; (with_reducible refine (HC.out _ _ HF1.out).mono ?_); rintro e w2 ⟨v2, rfl, hr, hb⟩; have HR2 := Lib.hid hr; have HF2 := Lib.hid (HF1.out.keep hb); have HB2 := Lib.hid (chain HB1.out hb); clear hr hb))
  obtain ⟨a1, c1, e1⟩ : ∃ a1 c1, v1 = .slice a1 0 c1 := by
    obtain ⟨a1, c1, e1, _⟩ := HF2.out; exact ⟨a1, c1, e1⟩
  subst e1
  obtain ⟨a2, c2, e2, hn2⟩ : ∃ a2 c2, v2 = .slice a2 0 c2 ∧ (a2 = none → c2 = 0) := by
    obtain ⟨a2, c2, e2, _, _, _, h, _⟩ := HR2.out; exact ⟨a2, c2, e2, h⟩
  subst e2
  clear hn2
  have HS0 := Lib.hid (SB.start (W := W) (s := strOfNums []) rfl HF2.out HR2.out HR2.out (HR.out.keep HB2.out) HB2.out)
  refine wp_region_held_drew (S := (fun w' => SB W (.slice a1 0 c1) (.slice a2 0 c2) (.slice a2 0 c2) (.slice a 0 cap) 0 0 0 [] (strOfNums []) w')) (by kernel_rfl) (SB.next HS0.out ((Below.refl _ _).drew)) (fun hS => ?_)
  refine wpAnyH_take (i := 0) (oi := ({ dst := some 13, op := Op.move (Operand.tmp 3), type := 39, pos := "law.go:43", after := #[], guard := none } : Oper)) (v := ?_) rfl (by kernel_rfl) (by kernel_rfl) (by kernel_rfl) (fun _ _ _ h => h) (Or.inl ⟨by rfl, ?_⟩) hS ?_
  rotate_left
  · (intro w hSw; (try dsimp only at hSw); go_simp; try with_reducible rfl)
  (try simp only [Act.put, List.setIfInBounds_toArray, List.set_cons_zero, List.set_cons_succ])
  refine wpAnyH_take (i := 1) (oi := ({ dst := some 14, op := Op.move (Operand.tmp 0), type := 25, pos := "law.go:43", after := #[], guard := none } : Oper)) (v := ?_) rfl (by kernel_rfl) (by kernel_rfl) (by kernel_rfl) (fun _ _ _ h => h) (Or.inl ⟨by rfl, ?_⟩) hS ?_
  rotate_left
  · (intro w hSw; (try dsimp only at hSw); go_simp; try with_reducible rfl)
  (try simp only [Act.put, List.setIfInBounds_toArray, List.set_cons_zero, List.set_cons_succ])
  refine rg_one 2 ({ dst := some 15, op := Op.call { callee := Callee.value (Operand.func 17), args := #[Operand.tmp 14], argTypes := #[25] }, type := 39, pos := "law.go:43", after := #[{ on := 1, ground := Ground.data }], guard := none } : Oper) (by kernel_rfl) rfl (fun K hK => ?_)
  go_simp
  (go_at_call 17; (with_reducible refine (HRS.out _ _ hS.arg).mono ?_); rintro e w3 ⟨v3, rfl, hf3, hb⟩)
  refine hK.out _ _ ?_ (fun hS1 => ?_)
  · (first | exact hS | exact SB.next hS hb)
  clear hK K hS; have hS := hS1; clear hS1
  (try simp only [Act.put, List.setIfInBounds_toArray, List.set_cons_zero, List.set_cons_succ])
  refine rg_one 3 ({ dst := some 16, op := Op.call { callee := Callee.value (Operand.func 16), args := #[Operand.tmp 13, Operand.tmp 15], argTypes := #[39, 39] }, type := 4, pos := "law.go:43", after := #[{ on := 0, ground := Ground.data }, { on := 2, ground := Ground.data }, { on := 2, ground := Ground.chain }], guard := none } : Oper) (by kernel_rfl) rfl (fun K hK => ?_)
  go_simp
  (go_at_call 16; (with_reducible refine (same_true _ _ 0 [] _ (hS.fs) hf3).mono ?_); rintro e w4 ⟨rfl, hb⟩)
  refine hK.out _ _ ?_ (fun hS1 => ?_)
  · (first | exact hS | exact SB.next hS hb)
  clear hK K hS; have hS := hS1; clear hS1
  (try simp only [Act.put, List.setIfInBounds_toArray, List.set_cons_zero, List.set_cons_succ])
  refine wpAnyH_take (i := 4) (oi := ({ dst := some 17, op := Op.unOp UnOp.not 4 (Operand.tmp 16), type := 4, pos := "law.go:43", after := #[{ on := 3, ground := Ground.data }], guard := none } : Oper)) (v := ?_) rfl (by kernel_rfl) (by kernel_rfl) (by kernel_rfl) (fun _ _ _ h => h) (Or.inl ⟨by rfl, ?_⟩) hS ?_
  rotate_left
  · (intro w hSw; (try dsimp only at hSw); go_simp; try with_reducible rfl)
  (try simp only [Act.put, List.setIfInBounds_toArray, List.set_cons_zero, List.set_cons_succ])
  refine wpAnyH_take (i := 5) (oi := ({ dst := some 18, op := Op.move (Operand.tmp 17), type := 4, pos := "law.go:43", after := #[{ on := 4, ground := Ground.data }, { on := 3, ground := Ground.chain }], guard := none } : Oper)) (v := ?_) rfl (by kernel_rfl) (by kernel_rfl) (by kernel_rfl) (fun _ _ _ h => h) (Or.inl ⟨by rfl, ?_⟩) hS ?_
  rotate_left
  · (intro w hSw; (try dsimp only at hSw); go_simp; try with_reducible rfl)
  (try simp only [Act.put, List.setIfInBounds_toArray, List.set_cons_zero, List.set_cons_succ])
  refine wpAnyH_take (i := 6) (oi := ({ dst := some 19, op := Op.move (Operand.tmp 4), type := 25, pos := "law.go:43", after := #[{ on := 5, ground := Ground.guard }], guard := some (5, false) } : Oper)) (v := ?_) rfl (by kernel_rfl) (by kernel_rfl) (by kernel_rfl) (fun _ _ _ h => h) (Or.inl ⟨by rfl, ?_⟩) hS ?_
  rotate_left
  · (intro w hSw; (try dsimp only at hSw); go_simp; try with_reducible rfl)
  (try simp only [Act.put, List.setIfInBounds_toArray, List.set_cons_zero, List.set_cons_succ])
  refine wpAnyH_take (i := 7) (oi := ({ dst := some 20, op := Op.call { callee := Callee.builtin Builtin.len, args := #[Operand.tmp 19], argTypes := #[25] }, type := 3, pos := "law.go:43", after := #[{ on := 6, ground := Ground.data }, { on := 5, ground := Ground.guard }], guard := some (5, false) } : Oper)) (v := ?_) rfl (by kernel_rfl) (by kernel_rfl) (by kernel_rfl) (fun _ _ _ h => h) (Or.inl ⟨by rfl, ?_⟩) hS ?_
  rotate_left
  · (intro w hSw; (try dsimp only at hSw); go_simp; try with_reducible rfl)
  (try simp only [Act.put, List.setIfInBounds_toArray, List.set_cons_zero, List.set_cons_succ])
  refine wpAnyH_take (i := 8) (oi := ({ dst := some 21, op := Op.move (Operand.tmp 3), type := 39, pos := "law.go:43", after := #[{ on := 5, ground := Ground.guard }], guard := some (5, false) } : Oper)) (v := ?_) rfl (by kernel_rfl) (by kernel_rfl) (by kernel_rfl) (fun _ _ _ h => h) (Or.inl ⟨by rfl, ?_⟩) hS ?_
  rotate_left
  · (intro w hSw; (try dsimp only at hSw); go_simp; try with_reducible rfl)
  (try simp only [Act.put, List.setIfInBounds_toArray, List.set_cons_zero, List.set_cons_succ])
  refine wpAnyH_take (i := 9) (oi := ({ dst := some 22, op := Op.call { callee := Callee.builtin Builtin.len, args := #[Operand.tmp 21], argTypes := #[39] }, type := 3, pos := "law.go:43", after := #[{ on := 8, ground := Ground.data }, { on := 5, ground := Ground.guard }], guard := some (5, false) } : Oper)) (v := ?_) rfl (by kernel_rfl) (by kernel_rfl) (by kernel_rfl) (fun _ _ _ h => h) (Or.inl ⟨by rfl, ?_⟩) hS ?_
  rotate_left
  · (intro w hSw; (try dsimp only at hSw); go_simp; try with_reducible rfl)
  (try simp only [Act.put, List.setIfInBounds_toArray, List.set_cons_zero, List.set_cons_succ])
  refine wpAnyH_take (i := 10) (oi := ({ dst := some 23, op := Op.binOp BinOp.mul 3 (Operand.const (Value.int IntKind.i64 64)) (Operand.tmp 22) 3, type := 3, pos := "law.go:43", after := #[{ on := 9, ground := Ground.data }, { on := 5, ground := Ground.guard }], guard := some (5, false) } : Oper)) (v := ?_) rfl (by kernel_rfl) (by kernel_rfl) (by kernel_rfl) (fun _ _ _ h => h) (Or.inl ⟨by rfl, ?_⟩) hS ?_
  rotate_left
  · (intro w hSw; (try dsimp only at hSw); go_simp; try with_reducible rfl)
  (try simp only [Act.put, List.setIfInBounds_toArray, List.set_cons_zero, List.set_cons_succ])
  refine wpAnyH_take (i := 11) (oi := ({ dst := some 24, op := Op.binOp BinOp.neq 3 (Operand.tmp 20) (Operand.tmp 23) 3, type := 4, pos := "law.go:43", after := #[{ on := 7, ground := Ground.data }, { on := 10, ground := Ground.data }, { on := 5, ground := Ground.guard }], guard := some (5, false) } : Oper)) (v := ?_) rfl (by kernel_rfl) (by kernel_rfl) (by kernel_rfl) (fun _ _ _ h => h) (Or.inl ⟨by rfl, ?_⟩) hS ?_
  rotate_left
  · (intro w hSw; (try dsimp only at hSw); go_simp; try with_reducible rfl)
  (try simp only [Act.put, List.setIfInBounds_toArray, List.set_cons_zero, List.set_cons_succ])
  refine wpAnyH_take (i := 12) (oi := ({ dst := some 25, op := Op.pick (Operand.tmp 18) (Operand.const (Value.bool true)) (Operand.tmp 24), type := 4, pos := "law.go:43", after := #[{ on := 5, ground := Ground.data }, { on := 11, ground := Ground.data }], guard := none } : Oper)) (v := ?_) rfl (by kernel_rfl) (by kernel_rfl) (by kernel_rfl) (fun _ _ _ h => h) (Or.inl ⟨by rfl, ?_⟩) hS ?_
  rotate_left
  · (intro w hSw; (try dsimp only at hSw); go_simp; try with_reducible rfl)
  (try simp only [Act.put, List.setIfInBounds_toArray, List.set_cons_zero, List.set_cons_succ])
  refine wpAnyH_take (i := 13) (oi := ({ dst := some 26, op := Op.move (Operand.tmp 25), type := 4, pos := "law.go:43", after := #[{ on := 12, ground := Ground.data }, { on := 5, ground := Ground.chain }], guard := none } : Oper)) (v := ?_) rfl (by kernel_rfl) (by kernel_rfl) (by kernel_rfl) (fun _ _ _ h => h) (Or.inl ⟨by rfl, ?_⟩) hS ?_
  rotate_left
  · (intro w hSw; (try dsimp only at hSw); go_simp; try with_reducible rfl)
  (try simp only [Act.put, List.setIfInBounds_toArray, List.set_cons_zero, List.set_cons_succ])
  refine wpAnyH_take (i := 14) (oi := ({ dst := some 27, op := Op.move (Operand.tmp 4), type := 25, pos := "law.go:43", after := #[{ on := 13, ground := Ground.guard }], guard := some (13, false) } : Oper)) (v := ?_) rfl (by kernel_rfl) (by kernel_rfl) (by kernel_rfl) (fun _ _ _ h => h) (Or.inl ⟨by rfl, ?_⟩) hS ?_
  rotate_left
  · (intro w hSw; (try dsimp only at hSw); go_simp; try with_reducible rfl)
  (try simp only [Act.put, List.setIfInBounds_toArray, List.set_cons_zero, List.set_cons_succ])
  refine wpAnyH_take (i := 15) (oi := ({ dst := some 28, op := Op.move (Operand.tmp 0), type := 25, pos := "law.go:43", after := #[{ on := 13, ground := Ground.guard }], guard := some (13, false) } : Oper)) (v := ?_) rfl (by kernel_rfl) (by kernel_rfl) (by kernel_rfl) (fun _ _ _ h => h) (Or.inl ⟨by rfl, ?_⟩) hS ?_
  rotate_left
  · (intro w hSw; (try dsimp only at hSw); go_simp; try with_reducible rfl)
  (try simp only [Act.put, List.setIfInBounds_toArray, List.set_cons_zero, List.set_cons_succ])
  refine wpAnyH_take (i := 16) (oi := ({ dst := some 29, op := Op.call { callee := Callee.builtin Builtin.len, args := #[Operand.tmp 28], argTypes := #[25] }, type := 3, pos := "law.go:43", after := #[{ on := 15, ground := Ground.data }, { on := 13, ground := Ground.guard }], guard := some (13, false) } : Oper)) (v := ?_) rfl (by kernel_rfl) (by kernel_rfl) (by kernel_rfl) (fun _ _ _ h => h) (Or.inl ⟨by rfl, ?_⟩) hS ?_
  rotate_left
  · (intro w hSw; (try dsimp only at hSw); go_simp; try with_reducible rfl)
  (try simp only [Act.put, List.setIfInBounds_toArray, List.set_cons_zero, List.set_cons_succ])
  refine wpAnyH_take (i := 17) (oi := ({ dst := some 30, op := Op.slice 25 (Operand.tmp 27) none (some (Operand.tmp 29)) none, type := 25, pos := "law.go:43", after := #[{ on := 14, ground := Ground.data }, { on := 16, ground := Ground.data }, { on := 13, ground := Ground.guard }], guard := some (13, false) } : Oper)) (v := ?_) rfl (by kernel_rfl) (by kernel_rfl) (by kernel_rfl) (fun _ _ _ h => h) (Or.inl ⟨by rfl, ?_⟩) hS ?_
  rotate_left
  · (intro w hSw; (try dsimp only at hSw); go_simp; try with_reducible rfl)
  (try simp only [Act.put, List.setIfInBounds_toArray, List.set_cons_zero, List.set_cons_succ])
  refine wpAnyH_take (i := 18) (oi := ({ dst := some 31, op := Op.convert 25 9 (Operand.tmp 30), type := 9, pos := "law.go:43", after := #[{ on := 17, ground := Ground.data }, { on := 13, ground := Ground.guard }], guard := some (13, false) } : Oper)) (v := ?_) rfl (by kernel_rfl) (by kernel_rfl) (by kernel_rfl) (fun _ _ _ h => h) (Or.inl ⟨by rfl, ?_⟩) hS ?_
  rotate_left
  · (intro w hSw; (try dsimp only at hSw); have hc1 := hSw.c1; go_simp; try with_reducible rfl)
  (try simp only [Act.put, List.setIfInBounds_toArray, List.set_cons_zero, List.set_cons_succ])
  refine wpAnyH_take (i := 19) (oi := ({ dst := some 32, op := Op.move (Operand.tmp 0), type := 25, pos := "law.go:43", after := #[{ on := 13, ground := Ground.guard }], guard := some (13, false) } : Oper)) (v := ?_) rfl (by kernel_rfl) (by kernel_rfl) (by kernel_rfl) (fun _ _ _ h => h) (Or.inl ⟨by rfl, ?_⟩) hS ?_
  rotate_left
  · (intro w hSw; (try dsimp only at hSw); go_simp; try with_reducible rfl)
  (try simp only [Act.put, List.setIfInBounds_toArray, List.set_cons_zero, List.set_cons_succ])
  refine wpAnyH_take (i := 20) (oi := ({ dst := some 33, op := Op.convert 25 9 (Operand.tmp 32), type := 9, pos := "law.go:43", after := #[{ on := 19, ground := Ground.data }, { on := 13, ground := Ground.guard }], guard := some (13, false) } : Oper)) (v := ?_) rfl (by kernel_rfl) (by kernel_rfl) (by kernel_rfl) (fun _ _ _ h => h) (Or.inl ⟨by rfl, ?_⟩) hS ?_
  rotate_left
  · (intro w hSw; (try dsimp only at hSw); have hc1 := hSw.c2; go_simp; try with_reducible rfl)
  (try simp only [Act.put, List.setIfInBounds_toArray, List.set_cons_zero, List.set_cons_succ])
  refine wpAnyH_take (i := 21) (oi := ({ dst := some 34, op := Op.binOp BinOp.neq 9 (Operand.tmp 31) (Operand.tmp 33) 9, type := 4, pos := "law.go:43", after := #[{ on := 18, ground := Ground.data }, { on := 20, ground := Ground.data }, { on := 13, ground := Ground.guard }], guard := some (13, false) } : Oper)) (v := ?_) rfl (by kernel_rfl) (by kernel_rfl) (by kernel_rfl) (fun _ _ _ h => h) (Or.inl ⟨by rfl, ?_⟩) hS ?_
  rotate_left
  · (intro w hSw; (try dsimp only at hSw); go_simp; try with_reducible rfl)
  (try simp only [Act.put, List.setIfInBounds_toArray, List.set_cons_zero, List.set_cons_succ])
  refine wpAnyH_take (i := 22) (oi := ({ dst := some 35, op := Op.pick (Operand.tmp 26) (Operand.const (Value.bool true)) (Operand.tmp 34), type := 4, pos := "law.go:43", after := #[{ on := 13, ground := Ground.data }, { on := 21, ground := Ground.data }], guard := none } : Oper)) (v := ?_) rfl (by kernel_rfl) (by kernel_rfl) (by kernel_rfl) (fun _ _ _ h => h) (Or.inl ⟨by rfl, ?_⟩) hS ?_
  rotate_left
  · (intro w hSw; (try dsimp only at hSw); go_simp; try with_reducible rfl)
  (try simp only [Act.put, List.setIfInBounds_toArray, List.set_cons_zero, List.set_cons_succ])
  refine wpAnyH_done (by kernel_rfl) ?_ _
  have HQ := Lib.hid hS
  go_wp2_with (first
    | (go_at_call 14; (with_reducible refine (HSC.out _ _ HQ.out.whole).mono ?_); rintro e w5 ⟨v5, rfl, hf, hb⟩; have HF5 := Lib.hid hf; have HQ5 := Lib.hid (HQ.out.next hb); clear hf hb)
    | (go_at_call 16; (with_reducible refine (same_true _ _ 0 [] _ HF5.out HQ5.out.fs).mono ?_); rintro e w6 ⟨rfl, hb⟩; have HQ6 := Lib.hid (HQ5.out.next hb); clear hb)
    | (go_at_call 10; (with_reducible refine (awake_any _).mono ?_); rintro e w7 ⟨rfl, hb⟩; have HB7 := Lib.hid (chain HQ6.out.below hb); clear hb))
  go_ret
  exact ⟨rfl, HB7.out⟩
theorem bytes_long (a : Option Addr) (len cap : Nat) (W : World) (hl : 5000 < (len : Int)) :
    Calls Try.prog 5 #[.slice a len cap] W fun e w' => e = .returned (.bool true) ∧ Below W.heap.size W w' := by
  go_enter Try.func5, Try.ntmps5
  go_wp2_with (first
    | (go_at_call 10; (with_reducible refine (awake_any _).mono ?_); rintro e w7 ⟨rfl, hb⟩; have HB7 := Lib.hid hb; clear hb))
  go_ret
  exact ⟨rfl, HB7.out⟩
theorem bytes_walk (a : Option Addr) (len cap : Nat) (zs : List Int) (W : World) (hri : RI .u8 W (.slice a len cap) len zs) :
    Calls Try.prog 5 #[.slice a len cap] W fun e w' => e = .returned (.bool true) ∧ Below W.heap.size W w' := by
  by_cases h : 5000 < (len : Int)
  · exact bytes_long a len cap W h
  · by_cases h0 : len = 0
    · subst h0
      obtain rfl : zs = [] := List.length_eq_zero_iff.1 hri.length
      exact bytes_none a cap W hri
    · obtain ⟨b, off, c, e, _⟩ := hri.open_ (by omega)
      simp only [Value.slice.injEq, true_and] at e
      obtain ⟨rfl, rfl⟩ := e
      exact bytes_pos b off len cap zs W hri (by omega) (by omega)
end Go.Proofs.Ythomcemnkkbjoaa
