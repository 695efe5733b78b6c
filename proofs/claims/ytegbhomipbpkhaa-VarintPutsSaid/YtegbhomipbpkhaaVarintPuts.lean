/-
  THE WALK OF THE LAW VarintPuts: whatever bytes, number and bytes behind come in (within the form's own reach): the call returns true and changes nothing that was there.
-/
import Derived.Test.YtegbhomipbpkhaaVarintB
namespace Go.Proofs.Ytegbhomipbpkhaa
open Go.RowKit
/-- what is kept through the law's region: the row x, the bytes b and the bytes rest, and that nothing old has changed -/
def PP (W : World) (x bv rv : Value) (n1 len rl : Nat) (xs zs rs : List Int) (w : World) : Prop := RI .u8 w x n1 xs ∧ RI .u8 w bv len zs ∧ RI .u8 w rv rl rs ∧ Below W.heap.size W w
theorem PP.next {W : World} {x bv rv : Value} {n1 len rl : Nat} {xs zs rs : List Int} {s : ByteArray} {w w' : World} (hs : s = strOfNums xs)
    (h : (convert 22 9 x).run Try.prog w = .ok (.string s) w ∧ PP W x bv rv n1 len rl xs zs rs w) (hb : Below w.heap.size w w') :
    (convert 22 9 x).run Try.prog w' = .ok (.string s) w' ∧ PP W x bv rv n1 len rl xs zs rs w' :=
  ⟨by rw [hs]; exact conv_ri (h.2.1.keep hb), h.2.1.keep hb, h.2.2.1.keep hb, h.2.2.2.1.keep hb, h.2.2.2.2.trans (hb.mono h.2.2.2.2.size)⟩
theorem PP.x {W : World} {x bv rv : Value} {n1 len rl : Nat} {xs zs rs : List Int} {w : World} (h : PP W x bv rv n1 len rl xs zs rs w) : RI .u8 w x n1 xs := h.1
theorem PP.b {W : World} {x bv rv : Value} {n1 len rl : Nat} {xs zs rs : List Int} {w : World} (h : PP W x bv rv n1 len rl xs zs rs w) : RI .u8 w bv len zs := h.2.1
theorem PP.r {W : World} {x bv rv : Value} {n1 len rl : Nat} {xs zs rs : List Int} {w : World} (h : PP W x bv rv n1 len rl xs zs rs w) : RI .u8 w rv rl rs := h.2.2.1
theorem PP.out {W : World} {x bv rv : Value} {n1 len rl : Nat} {xs zs rs : List Int} {w : World} (h : PP W x bv rv n1 len rl xs zs rs w) : Below W.heap.size W w := h.2.2.2
/-- Put's row: what it is, and where -/
theorem put_ri (n : Nat) (h : n < 18446744073709551616) (v : Value) (len n1 : Nat) (zs : List Int) (w : World) (hri : RI .u8 w v len zs) (hlen : len ≤ 140737488355318) (hn : len + (vb n).length = n1) :
    Calls Try.prog 6 #[v, .int .u64 n] w fun e w' => ∃ a cap, e = .returned (.slice a n1 cap) ∧ ¬ cap = len ∧ RI .u8 w' (.slice a n1 cap) n1 (zs ++ vb n) ∧ Below w.heap.size w w' :=
  (put_any n h v len zs w hri hlen).mono fun _ _ ⟨v', he, ho, hb⟩ => by
    rw [hn] at ho
    have hr := RI.own ho
    obtain ⟨a, cap, rfl, _, hlc, _⟩ := RI.own ho
    have := vb_pos n
    exact ⟨a, cap, he, by omega, hr, hb⟩
/-- the reference's row, as a text -/
theorem rput_text (n : Nat) (h : n < 18446744073709551616) (v : Value) (len : Nat) (zs : List Int) (w : World) (hri : RI .u8 w v len zs) (hlen : len ≤ 140737488355318) (s : ByteArray) (hs : s = strOfNums (zs ++ vb n)) :
    Calls Try.prog 7 #[v, .int .u64 n] w fun e w' => ∃ v', e = .returned v' ∧ (convert 22 9 v').run Try.prog w' = .ok (.string s) w' ∧ Below w.heap.size w w' :=
  (rput_any n h v len zs w hri hlen).mono fun _ _ ⟨v', he, ho, hb⟩ => ⟨v', he, by rw [hs]; exact conv_ri (RI.own ho), hb⟩

set_option maxRecDepth 8000 in
set_option maxHeartbeats 1000000 in
theorem puts_walk (a : Option Addr) (len cap : Nat) (zs : List Int) (n : Nat) (ra : Option Addr) (rl rc : Nat) (rs : List Int) (W : World) (hri : RI .u8 W (.slice a len cap) len zs)
    (h : n < 18446744073709551616) (hrr : RI .u8 W (.slice ra rl rc) rl rs) (hb : ∀ x ∈ rs, 0 ≤ x ∧ x ≤ 255) (hlen : len ≤ 140737488355318) (hrl : rl ≤ 140737488355318) :
    Calls Try.prog 3 #[.slice a len cap, .int .u64 n, .slice ra rl rc] W fun e w' => e = .returned (.bool true) ∧ Below W.heap.size W w' := by
  obtain ⟨q, hq⟩ : ∃ q, (vb n).length = q := ⟨_, rfl⟩
  have hq10 : q ≤ 10 := by rw [← hq]; exact vb_len n h
  have hq0 : 0 < q := by rw [← hq]; exact vb_pos n
  obtain ⟨n1, hn1⟩ : ∃ n1, len + q = n1 := ⟨_, rfl⟩
  obtain ⟨s, hs⟩ : ∃ s, s = strOfNums (zs ++ vb n) := ⟨_, rfl⟩
  have hz := hri.length
  have hd : (zs ++ vb n).drop len = vb n := by rw [← hz, List.drop_left]
  have hgv : gv 0 0 ([] ++ (zs ++ vb n).drop len ++ rs) = ((n : Int), q, 0) := by
    rw [hd, List.nil_append]
    have := gv_put (n : Int) (by unfold U64; omega) rs
    rw [Int.toNat_natCast, hq] at this
    exact this
  have hby : ∀ x ∈ [] ++ (zs ++ vb n).drop len ++ rs, 0 ≤ x ∧ x ≤ 255 := by
    rw [hd, List.nil_append]
    intro x hx
    rcases List.mem_append.1 hx with h1 | h1
    · exact vb_bytes n x h1
    · exact hb x h1
  have hsub : IntKind.i64.wrap ((n1 : Int) - (len : Int)) = (q : Int) := by rw [IntWalk.i64_in _ (by omega)]; omega
  have hn1l : (len : Int) ≤ (n1 : Int) := by omega
  have HN := Lib.hid h
  have HR := Lib.hid hri
  have HRR := Lib.hid hrr
  have HL := Lib.hid hlen
  have HRL := Lib.hid hrl
  have HQ := Lib.hid hq
  have HN1 := Lib.hid (show len + (vb n).length = n1 by omega)
  have HQ10 := Lib.hid (show n1 - len = q ∧ q ≤ 10 ∧ len ≤ n1 by omega)
  have HS := Lib.hid hs
  have HGV := Lib.hid hgv
  have HBY := Lib.hid hby
  clear h hri hrr hlen hrl hq hs hgv hby hb hz hd hn1 hq10 hq0
  go_enter Try.func3, Try.ntmps3
  go_wp2_with (first | (go_at_call 6; (with_reducible refine (put_ri n HN.out _ len n1 zs _ HR.out HL.out HN1.out).mono ?_); rintro e w1 ⟨xa, xc, rfl, hxc, hx, hb⟩; have HX := Lib.hid hx; have HB := Lib.hid hb; clear hx hb))
  have hS0 : (convert 22 9 (.slice xa n1 xc)).run Try.prog w1 = .ok (.string s) w1 ∧ PP W (.slice xa n1 xc) (.slice a len cap) (.slice ra rl rc) n1 len rl (zs ++ vb n) zs rs w1 :=
    ⟨by rw [HS.out]; exact conv_ri HX.out, HX.out, HR.out.keep HB.out, HRR.out.keep HB.out, HB.out⟩
  have HS0 := Lib.hid hS0
  clear hS0
  refine wp_region_held_drew (S := (fun w' => (convert 22 9 (.slice xa n1 xc)).run Try.prog w' = .ok (.string s) w' ∧ PP W (.slice xa n1 xc) (.slice a len cap) (.slice ra rl rc) n1 len rl (zs ++ vb n) zs rs w')) (by kernel_rfl) (PP.next HS.out HS0.out ((Below.refl _ _).drew)) (fun hS => ?_)
  refine wpAnyH_take (i := 0) (oi := ({ dst := some 14, op := Op.move (Operand.tmp 7), type := 22, pos := "law.go:19", after := #[], guard := none } : Oper)) (v := ?_) rfl (by kernel_rfl) (by kernel_rfl) (by kernel_rfl) (fun _ _ _ h => h) (Or.inl ⟨by rfl, ?_⟩) hS ?_
  rotate_left
  · (intro w hSw; (try dsimp only at hSw); go_simp; try with_reducible rfl)
  (try simp only [Act.put, List.setIfInBounds_toArray, List.set_cons_zero, List.set_cons_succ])
  refine wpAnyH_take (i := 1) (oi := ({ dst := some 15, op := Op.convert 22 9 (Operand.tmp 14), type := 9, pos := "law.go:19", after := #[{ on := 0, ground := Ground.data }], guard := none } : Oper)) (v := ?_) rfl (by kernel_rfl) (by kernel_rfl) (by kernel_rfl) (fun _ _ _ h => h) (Or.inl ⟨by rfl, ?_⟩) hS ?_
  rotate_left
  · (intro w hSw; (try dsimp only at hSw); go_simp; try with_reducible rfl)
  (try simp only [Act.put, List.setIfInBounds_toArray, List.set_cons_zero, List.set_cons_succ])
  refine wpAnyH_take (i := 2) (oi := ({ dst := some 16, op := Op.move (Operand.tmp 0), type := 22, pos := "law.go:19", after := #[], guard := none } : Oper)) (v := ?_) rfl (by kernel_rfl) (by kernel_rfl) (by kernel_rfl) (fun _ _ _ h => h) (Or.inl ⟨by rfl, ?_⟩) hS ?_
  rotate_left
  · (intro w hSw; (try dsimp only at hSw); go_simp; try with_reducible rfl)
  (try simp only [Act.put, List.setIfInBounds_toArray, List.set_cons_zero, List.set_cons_succ])
  refine wpAnyH_take (i := 3) (oi := ({ dst := some 17, op := Op.move (Operand.tmp 1), type := 23, pos := "law.go:19", after := #[], guard := none } : Oper)) (v := ?_) rfl (by kernel_rfl) (by kernel_rfl) (by kernel_rfl) (fun _ _ _ h => h) (Or.inl ⟨by rfl, ?_⟩) hS ?_
  rotate_left
  · (intro w hSw; (try dsimp only at hSw); go_simp; try with_reducible rfl)
  (try simp only [Act.put, List.setIfInBounds_toArray, List.set_cons_zero, List.set_cons_succ])
  refine rg_one 4 ({ dst := some 18, op := Op.call { callee := Callee.value (Operand.func 7), args := #[Operand.tmp 16, Operand.tmp 17], argTypes := #[22, 23] }, type := 22, pos := "law.go:19", after := #[{ on := 2, ground := Ground.data }, { on := 3, ground := Ground.data }], guard := none } : Oper) (by kernel_rfl) rfl (fun K hK => ?_)
  go_simp
  (go_at_call 7; (with_reducible refine (rput_text n HN.out _ len zs _ hS.2.b HL.out s HS.out).mono ?_); rintro e w2 ⟨v, rfl, hcv, hb⟩)
  refine hK.out _ _ ?_ (fun hS1 => ?_)
  · (first | exact hS | exact PP.next HS.out hS hb)
  clear hK K hS; have hS := hS1; clear hS1
  (try simp only [Act.put, List.setIfInBounds_toArray, List.set_cons_zero, List.set_cons_succ])
  refine rg_one 5 ({ dst := some 19, op := Op.convert 22 9 (Operand.tmp 18), type := 9, pos := "law.go:19", after := #[{ on := 4, ground := Ground.data }], guard := none } : Oper) (by kernel_rfl) rfl (fun K hK => ?_)
  go_simp
  refine hK.out _ _ ?_ (fun hS1 => ?_)
  · (first | exact hS | exact PP.next HS.out hS hb)
  clear hK K hS; have hS := hS1; clear hS1
  (try simp only [Act.put, List.setIfInBounds_toArray, List.set_cons_zero, List.set_cons_succ])
  refine wpAnyH_take (i := 6) (oi := ({ dst := some 20, op := Op.binOp BinOp.neq 9 (Operand.tmp 15) (Operand.tmp 19) 9, type := 4, pos := "law.go:19", after := #[{ on := 1, ground := Ground.data }, { on := 5, ground := Ground.data }], guard := none } : Oper)) (v := ?_) rfl (by kernel_rfl) (by kernel_rfl) (by kernel_rfl) (fun _ _ _ h => h) (Or.inl ⟨by rfl, ?_⟩) hS ?_
  rotate_left
  · (intro w hSw; (try dsimp only at hSw); go_simp; try with_reducible rfl)
  (try simp only [Act.put, List.setIfInBounds_toArray, List.set_cons_zero, List.set_cons_succ])
  refine wpAnyH_take (i := 7) (oi := ({ dst := some 21, op := Op.move (Operand.tmp 20), type := 4, pos := "law.go:19", after := #[{ on := 6, ground := Ground.data }, { on := 4, ground := Ground.chain }], guard := none } : Oper)) (v := ?_) rfl (by kernel_rfl) (by kernel_rfl) (by kernel_rfl) (fun _ _ _ h => h) (Or.inl ⟨by rfl, ?_⟩) hS ?_
  rotate_left
  · (intro w hSw; (try dsimp only at hSw); go_simp; try with_reducible rfl)
  (try simp only [Act.put, List.setIfInBounds_toArray, List.set_cons_zero, List.set_cons_succ])
  refine wpAnyH_take (i := 8) (oi := ({ dst := some 22, op := Op.move (Operand.tmp 1), type := 23, pos := "law.go:19", after := #[{ on := 7, ground := Ground.guard }], guard := some (7, false) } : Oper)) (v := ?_) rfl (by kernel_rfl) (by kernel_rfl) (by kernel_rfl) (fun _ _ _ h => h) (Or.inl ⟨by rfl, ?_⟩) hS ?_
  rotate_left
  · (intro w hSw; (try dsimp only at hSw); go_simp; try with_reducible rfl)
  (try simp only [Act.put, List.setIfInBounds_toArray, List.set_cons_zero, List.set_cons_succ])
  refine wpAnyH_take (i := 10) (oi := ({ dst := some 24, op := Op.move (Operand.tmp 7), type := 22, pos := "law.go:19", after := #[{ on := 7, ground := Ground.guard }], guard := some (7, false) } : Oper)) (v := ?_) rfl (by kernel_rfl) (by kernel_rfl) (by kernel_rfl) (fun _ _ _ h => h) (Or.inl ⟨by rfl, ?_⟩) hS ?_
  rotate_left
  · (intro w hSw; (try dsimp only at hSw); go_simp; try with_reducible rfl)
  (try simp only [Act.put, List.setIfInBounds_toArray, List.set_cons_zero, List.set_cons_succ])
  refine wpAnyH_take (i := 11) (oi := ({ dst := some 25, op := Op.call { callee := Callee.builtin Builtin.len, args := #[Operand.tmp 24], argTypes := #[22] }, type := 3, pos := "law.go:19", after := #[{ on := 10, ground := Ground.data }, { on := 7, ground := Ground.guard }], guard := some (7, false) } : Oper)) (v := ?_) rfl (by kernel_rfl) (by kernel_rfl) (by kernel_rfl) (fun _ _ _ h => h) (Or.inl ⟨by rfl, ?_⟩) hS ?_
  rotate_left
  · (intro w hSw; (try dsimp only at hSw); go_simp; try with_reducible rfl)
  (try simp only [Act.put, List.setIfInBounds_toArray, List.set_cons_zero, List.set_cons_succ])
  refine wpAnyH_take (i := 12) (oi := ({ dst := some 26, op := Op.move (Operand.tmp 0), type := 22, pos := "law.go:19", after := #[{ on := 7, ground := Ground.guard }], guard := some (7, false) } : Oper)) (v := ?_) rfl (by kernel_rfl) (by kernel_rfl) (by kernel_rfl) (fun _ _ _ h => h) (Or.inl ⟨by rfl, ?_⟩) hS ?_
  rotate_left
  · (intro w hSw; (try dsimp only at hSw); go_simp; try with_reducible rfl)
  (try simp only [Act.put, List.setIfInBounds_toArray, List.set_cons_zero, List.set_cons_succ])
  refine wpAnyH_take (i := 13) (oi := ({ dst := some 27, op := Op.call { callee := Callee.builtin Builtin.len, args := #[Operand.tmp 26], argTypes := #[22] }, type := 3, pos := "law.go:19", after := #[{ on := 12, ground := Ground.data }, { on := 7, ground := Ground.guard }], guard := some (7, false) } : Oper)) (v := ?_) rfl (by kernel_rfl) (by kernel_rfl) (by kernel_rfl) (fun _ _ _ h => h) (Or.inl ⟨by rfl, ?_⟩) hS ?_
  rotate_left
  · (intro w hSw; (try dsimp only at hSw); go_simp; try with_reducible rfl)
  (try simp only [Act.put, List.setIfInBounds_toArray, List.set_cons_zero, List.set_cons_succ])
  refine wpAnyH_take (i := 14) (oi := ({ dst := some 28, op := Op.binOp BinOp.sub 3 (Operand.tmp 25) (Operand.tmp 27) 3, type := 3, pos := "law.go:19", after := #[{ on := 11, ground := Ground.data }, { on := 13, ground := Ground.data }, { on := 7, ground := Ground.guard }], guard := some (7, false) } : Oper)) (v := ?_) rfl (by kernel_rfl) (by kernel_rfl) (by kernel_rfl) (fun _ _ _ h => h) (Or.inl ⟨by rfl, ?_⟩) hS ?_
  rotate_left
  · (intro w hSw; (try dsimp only at hSw); go_simp; try with_reducible rfl)
  (try simp only [Act.put, List.setIfInBounds_toArray, List.set_cons_zero, List.set_cons_succ])
  refine rg_one 9 ({ dst := some 23, op := Op.call { callee := Callee.value (Operand.func 8), args := #[Operand.tmp 22], argTypes := #[23] }, type := 3, pos := "law.go:19", after := #[{ on := 8, ground := Ground.data }, { on := 7, ground := Ground.chain }, { on := 7, ground := Ground.guard }], guard := some (7, false) } : Oper) (by kernel_rfl) rfl (fun K hK => ?_)
  go_simp
  (go_at_call 8; (with_reducible refine (size_at n q HN.out HQ.out _).mono ?_); rintro e w2 ⟨rfl, rfl⟩)
  refine hK.out _ _ ?_ (fun hS1 => ?_)
  · (first | exact hS | exact PP.next HS.out hS hb)
  clear hK K hS; have hS := hS1; clear hS1
  (try simp only [Act.put, List.setIfInBounds_toArray, List.set_cons_zero, List.set_cons_succ])
  refine wpAnyH_take (i := 15) (oi := ({ dst := some 29, op := Op.binOp BinOp.neq 3 (Operand.tmp 23) (Operand.tmp 28) 3, type := 4, pos := "law.go:19", after := #[{ on := 9, ground := Ground.data }, { on := 14, ground := Ground.data }, { on := 7, ground := Ground.guard }], guard := some (7, false) } : Oper)) (v := ?_) rfl (by kernel_rfl) (by kernel_rfl) (by kernel_rfl) (fun _ _ _ h => h) (Or.inl ⟨by rfl, ?_⟩) hS ?_
  rotate_left
  · (intro w hSw; (try dsimp only at hSw); go_simp; try with_reducible rfl)
  (try simp only [Act.put, List.setIfInBounds_toArray, List.set_cons_zero, List.set_cons_succ])
  refine wpAnyH_take (i := 16) (oi := ({ dst := some 30, op := Op.pick (Operand.tmp 21) (Operand.const (Value.bool true)) (Operand.tmp 29), type := 4, pos := "law.go:19", after := #[{ on := 7, ground := Ground.data }, { on := 15, ground := Ground.data }], guard := none } : Oper)) (v := ?_) rfl (by kernel_rfl) (by kernel_rfl) (by kernel_rfl) (fun _ _ _ h => h) (Or.inl ⟨by rfl, ?_⟩) hS ?_
  rotate_left
  · (intro w hSw; (try dsimp only at hSw); go_simp; try with_reducible rfl)
  (try simp only [Act.put, List.setIfInBounds_toArray, List.set_cons_zero, List.set_cons_succ])
  refine wpAnyH_done (by kernel_rfl) ?_ _
  have HX2 := Lib.hid (hS.2.x.from' len HQ10.out.2.2 hxc)
  have HR2 := Lib.hid hS.2.r
  have HB2 := Lib.hid hS.2.out
  clear hS
  go_wp2_with (first
    | (at_builtin; refine wpl_appn rfl (.tmp 32) (.tmp 36) 22 rfl 5 .u8 1 Try.underlying22 Try.info_u8 W.heap.size _ 0 [] rfl (World.ownsRow_lit _ #[] 0 HB2.out.size (by unfold maxLen; omega) rfl) _ (n1 - len) _ rfl (HX2.out.keep ((Below.refl _ _).alloc (Nat.le_refl _) _)) (by have := HQ10.out; omega) (by have := HQ10.out; omega) W.heap.size W (HB2.out.alloc HB2.out.size _) (Nat.le_refl _) (by have := HB2.out.size; simp; omega) ?_; intro v1 w4 HO1 HB3)
    | (at_builtin; refine wpl_appn rfl (.tmp 37) (.tmp 38) 22 rfl 5 .u8 1 Try.underlying22 Try.info_u8 W.heap.size _ (0 + (n1 - len)) _ rfl HO1 _ rl rs rfl (HRR.out.keep HB3.out) (by have := HQ10.out; have := HRL.out; omega) (by have := HQ10.out; have := HRL.out; omega) W.heap.size W HB3 (Nat.le_refl _) HB3.out.size ?_; intro v2 w5 HO2 HB4)
    | (go_at_call 9; (with_reducible refine (get_any (RI.own HO2.out) HBY.out HGV.out).mono ?_); rintro e w' ⟨rfl, rfl⟩)
    | (go_at_call 8; (with_reducible refine (size_at n q HN.out HQ.out _).mono ?_); rintro e w2 ⟨rfl, rfl⟩)
    | (go_at_call 10; (with_reducible refine (awake_any _).mono ?_); rintro e w2 ⟨rfl, hb⟩; have HB5 := Lib.hid hb; clear hb))
  go_ret
  exact ⟨rfl, HB4.out.trans (HB5.out.mono HB4.out.size)⟩
end Go.Proofs.Ytegbhomipbpkhaa
