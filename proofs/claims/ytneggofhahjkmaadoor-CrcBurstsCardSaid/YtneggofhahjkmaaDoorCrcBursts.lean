/-
  THE WALK OF THE LAW CrcBursts: whatever bytes, place and four bytes come in: the call returns true and changes nothing that was there.
-/
import Derived.Test.YtneggofhahjkmaaDoorCrcCode
import Derived.Test.YtneggofhahjkmaaDoorRegion
import Derived.Deep.RegionHeld3
import Derived.Deep.AppendLies
namespace Go.Proofs.YtneggofhahjkmaaDoor
open Go.RowKit
/-- zs, its bytes from at on replaced by the first k of ws -/
def pat (zs ws : List Int) (at_ : Nat) : Nat → List Int
  | 0 => zs
  | k + 1 => (pat zs ws at_ k).set (at_ + k) (ws.getD k 0)
theorem pat_length (zs ws : List Int) (at_ k : Nat) : (pat zs ws at_ k).length = zs.length := by
  induction k with
  | zero => rfl
  | succ k ih => simp [pat, ih]
theorem pat_bytes (zs ws : List Int) (at_ k : Nat) (hz : ∀ x ∈ zs, 0 ≤ x ∧ x ≤ 255) (hw : ∀ x ∈ ws, 0 ≤ x ∧ x ≤ 255) : ∀ x ∈ pat zs ws at_ k, 0 ≤ x ∧ x ≤ 255 := by
  induction k with
  | zero => exact hz
  | succ k ih =>
    intro x hx
    rcases List.mem_or_eq_of_mem_set hx with h | h
    · exact ih x h
    · subst h; exact (bytes_of_mem hw) k
theorem pat_split (zs ws : List Int) (at_ k : Nat) (h : at_ + k ≤ zs.length) (hk : k ≤ ws.length) : pat zs ws at_ k = zs.take at_ ++ (ws.take k ++ zs.drop (at_ + k)) := by
  induction k with
  | zero => simp [pat]
  | succ k ih =>
    rw [pat, ih (by omega) (by omega), List.set_append_right _ _ (by simp; omega)]
    congr 1
    rw [List.set_append_right _ _ (by simp; omega)]
    have e : at_ + k - (zs.take at_).length - (ws.take k).length = 0 := by simp; omega
    rw [e, drop_getD zs (at_ + k) (by omega), List.set_cons_zero, List.take_succ_eq_append_getElem (by omega : k < ws.length), List.append_assoc, Nat.add_assoc]
    simp [List.getD, show k < ws.length by omega]
/-- a burst is seen -/
theorem pat_of (zs ws : List Int) (at_ k : Nat) (h : at_ + k ≤ zs.length) (hk : k ≤ ws.length) (h4 : k ≤ 4) (hz : ∀ x ∈ zs, 0 ≤ x ∧ x ≤ 255) (hw : ∀ x ∈ ws, 0 ≤ x ∧ x ≤ 255) (e : ofS (pat zs ws at_ k) = ofS zs) : pat zs ws at_ k = zs := by
  have hs := pat_split zs ws at_ k h hk
  have e1 : zs = zs.take at_ ++ ((zs.drop at_).take k ++ zs.drop (at_ + k)) := by
    rw [← List.drop_drop, List.take_append_drop, List.take_append_drop]
  have hb : ∀ l : List Int, (∀ x ∈ l, x ∈ zs) → ∀ x ∈ l, 0 ≤ x ∧ x ≤ 255 := fun l hl x hx => hz x (hl x hx)
  have e2 : ws.take k = (zs.drop at_).take k := by
    refine burst (zs.take at_) _ _ (zs.drop (at_ + k)) (hb _ fun x hx => List.mem_of_mem_take hx) (fun x hx => hw x (List.mem_of_mem_take hx)) (hb _ fun x hx => List.mem_of_mem_drop (List.mem_of_mem_take hx)) (hb _ fun x hx => List.mem_of_mem_drop hx) (by simp; omega) (by simp; omega) ?_
    rw [← hs, ← e1]; exact e
  rw [hs, e2, ← e1]
theorem Tryd.info_u8 : (Tryd.prog.info? 5).map (fun i => (i.zero, i.size, i.bytes)) = some (some (.int .u8 0), 1, 1) := by kernel_rfl
/-- what is kept through the law's region -/
def PB (W : World) (cv bv : Value) (n : Nat) (cs zs : List Int) (w : World) : Prop := RI .u8 w cv n cs ∧ RI .u8 w bv n zs ∧ Tab w ∧ Below W.heap.size W w
theorem PB.c {W : World} {cv bv : Value} {n : Nat} {cs zs : List Int} {w : World} (h : PB W cv bv n cs zs w) : RI .u8 w cv n cs := h.1
theorem PB.b {W : World} {cv bv : Value} {n : Nat} {cs zs : List Int} {w : World} (h : PB W cv bv n cs zs w) : RI .u8 w bv n zs := h.2.1
theorem PB.t {W : World} {cv bv : Value} {n : Nat} {cs zs : List Int} {w : World} (h : PB W cv bv n cs zs w) : Tab w := h.2.2.1
theorem PB.out {W : World} {cv bv : Value} {n : Nat} {cs zs : List Int} {w : World} (h : PB W cv bv n cs zs w) : Below W.heap.size W w := h.2.2.2
theorem PB.keep {W : World} {cv bv : Value} {n : Nat} {cs zs : List Int} {w w' : World} (h : PB W cv bv n cs zs w) (hb : Below w.heap.size w w') : PB W cv bv n cs zs w' :=
  ⟨h.1.keep hb, h.2.1.keep hb, h.2.2.1.keep hb, h.2.2.2.trans (hb.mono h.2.2.2.size)⟩
theorem PB.conv {W : World} {cv bv : Value} {n : Nat} {cs zs : List Int} {sc sb : ByteArray} {w : World} (hc : sc = strOfNums cs) (hb : sb = strOfNums zs) (h : PB W cv bv n cs zs w) :
    (convert 23 9 cv).run Tryd.prog w = .ok (.string sc) w ∧ (convert 23 9 bv).run Tryd.prog w = .ok (.string sb) w ∧ PB W cv bv n cs zs w :=
  ⟨by rw [hc]; exact conv_of Tryd.underlying23 Tryd.underlying5 Tryd.underlying9 h.1, by rw [hb]; exact conv_of Tryd.underlying23 Tryd.underlying5 Tryd.underlying9 h.2.1, h⟩
set_option maxRecDepth 8000 in
set_option maxHeartbeats 2000000 in
theorem bursts_walk (a : Option Addr) (len cap : Nat) (zs : List Int) (at_ : Int) (x0 x1 x2 x3 : Int) (W : World) (ht : Tab W) (hri : RI .u8 W (.slice a len cap) len zs) (hb : ∀ x ∈ zs, 0 ≤ x ∧ x ≤ 255)
    (hw : ∀ x ∈ [x0, x1, x2, x3], 0 ≤ x ∧ x ≤ 255) :
    Calls Tryd.prog 5 #[.slice a len cap, .int .i64 at_, .agg #[.int .u8 x0, .int .u8 x1, .int .u8 x2, .int .u8 x3]] W fun e w' => e = .returned (.bool true) ∧ Below W.heap.size W w' := by
  have HT := Lib.hid ht
  have HR := Lib.hid hri
  have HB := Lib.hid hb
  have HW := Lib.hid hw
  have HZ := Lib.hid hri.length
  have hl63 : (len : Int) ≤ 9223372036854775807 := by have := hri.le; omega
  clear ht hri hb hw
  rcases (by omega : (20000 < (len : Int) ∨ len = 0) ∨ ((len : Int) ≤ 20000 ∧ 0 < len)) with h2 | ⟨h2, h3⟩
  · have hd : (decide (20000 < (len : Int)) || (len : Int) == 0) = true := by
      rcases h2 with h | h
      · simp [h]
      · subst h; rfl
    have HT2 := Lib.hid (HT.out.keep ((Below.refl _ _).alloc (Nat.le_refl _) (.cells #[.int .u8 x0, .int .u8 x1, .int .u8 x2, .int .u8 x3] 33)))
    have HB2 := Lib.hid ((Below.refl W.heap.size W).alloc (Nat.le_refl _) (.cells #[.int .u8 x0, .int .u8 x1, .int .u8 x2, .int .u8 x3] 33))
    clear h2
    go_enter Tryd.func5, Tryd.ntmps5
    go_wp2_with (first
      | (go_at_call 6; (with_reducible refine (awake_any HT2.out).mono ?_); rintro e w2 ⟨rfl, hb⟩; have HB5 := Lib.hid hb; clear hb))
    all_goals
      go_ret
      exact ⟨rfl, HB2.out.trans (HB5.out.mono HB2.out.size)⟩
  · have hd : (decide (20000 < (len : Int)) || (len : Int) == 0) = false := by
      rw [Bool.or_eq_false_iff]; exact ⟨by simp; omega, by simp; omega⟩
    have HB2 := Lib.hid ((Below.refl W.heap.size W).alloc (Nat.le_refl _) (.cells #[.int .u8 x0, .int .u8 x1, .int .u8 x2, .int .u8 x3] 33))
    have HR2 := Lib.hid (HR.out.keep HB2.out)
    obtain ⟨p, hp, hpl⟩ : ∃ p : Nat, (IntKind.u64.wrap at_).tmod (len : Int) = (p : Int) ∧ p < len := by
      have h0 : 0 ≤ IntKind.u64.wrap at_ := by rw [Go.IntKind.wrap_u64]; omega
      refine ⟨((IntKind.u64.wrap at_).tmod (len : Int)).toNat, ?_, ?_⟩ <;> rw [Int.tmod_eq_emod_of_nonneg h0] <;> have h1 := Int.emod_nonneg (IntKind.u64.wrap at_) (show (len : Int) ≠ 0 by omega) <;> have h2 := Int.emod_lt_of_pos (IntKind.u64.wrap at_) (show (0 : Int) < len by omega) <;> omega
    have hpl2 : (p : Int) < (len : Int) := by omega
    have hwp : wrap64 (p : Int) = (p : Int) := by simp [wrap64]; omega
    have HX := Lib.hid (show ∀ j, j < 4 → (W.alloc (.cells #[.int .u8 x0, .int .u8 x1, .int .u8 x2, .int .u8 x3] 33)).cell? ⟨W.heap.size, j, none⟩ = some (.int .u8 ([x0, x1, x2, x3].getD j 0)) from fun j hj => by
      match j, hj with
      | 0, _ => simp
      | 1, _ => simp
      | 2, _ => simp
      | 3, _ => simp)
    go_enter Tryd.func5, Tryd.ntmps5
    go_wp2_with (first
      | (at_builtin; refine wpl_appn rfl (.tmp 18) (.tmp 19) 23 rfl 5 .u8 1 Tryd.underlying23 Tryd.info_u8 (W.heap.size + 1) _ 0 [] rfl (own_empty (by simp) (Nat.le_refl _)) _ len zs rfl (HR2.out.keep ((Below.refl _ _).alloc (Nat.le_refl _) _)) (by omega) (by omega) (W.heap.size + 1) (W.alloc (.cells #[.int .u8 x0, .int .u8 x1, .int .u8 x2, .int .u8 x3] 33)) ((Below.refl _ _).alloc (by simp) _) (Nat.le_refl _) (by simp) ?_; intro v1 w4 HO1 HB3; rw [Nat.zero_add, List.nil_append] at HO1; obtain ⟨g, gc, rfl, hg1, hg2⟩ := HO1.out.form h3))
    have HBX := Lib.hid (fun wr (h : Below (W.heap.size + 1) (W.alloc (.cells #[.int .u8 x0, .int .u8 x1, .int .u8 x2, .int .u8 x3] 33)) wr) => (show Below W.heap.size W wr from HB2.out.trans (h.mono (Nat.le_succ _))))
    have HCX := Lib.hid (fun wr (h : Below (W.heap.size + 1) (W.alloc (.cells #[.int .u8 x0, .int .u8 x1, .int .u8 x2, .int .u8 x3] 33)) wr) (j : Nat) (hj : j < 4) => (show wr.cell? ⟨W.heap.size, j, none⟩ = some (.int .u8 ([x0, x1, x2, x3].getD j 0)) from (h.cell (Nat.lt_succ_self _)).trans (HX.out j hj)))
    have hg0 : ¬ g = W.heap.size := by omega
    go_loopw [8] (fun i wr => ∃ k : Nat, i = .int .i64 k ∧ k ≤ 4 ∧ p + k ≤ len ∧ Hid (wr.ownsRow (W.heap.size + 1) 5 1 (.slice (some ⟨g, 0, none⟩) len gc) len (il .u8 (pat zs [x0, x1, x2, x3] p k))) ∧ Hid (Below (W.heap.size + 1) (W.alloc (.cells #[.int .u8 x0, .int .u8 x1, .int .u8 x2, .int .u8 x3] 33)) wr)) (fun i _ => 4 - (intOf i).toNat)
    case atStart => exact ⟨0, rfl, by omega, by omega, HO1, HB3⟩
    case round =>
      obtain ⟨k, rfl, hk4, hkl, HO, HB4⟩ := hrel
      by_cases hlt : k < 4 ∧ p + k < len
      · obtain ⟨hlt1, hlt2⟩ := hlt
        have hcell : wr.cell? ⟨g, p + k, none⟩ = some (.int .u8 ((pat zs [x0, x1, x2, x3] p k).getD (p + k) 0)) := by
          rw [HO.out.cellAt (p + k) (by omega), il_get _ _ _ (by rw [pat_length, HZ.out]; omega)]
        have hfr : wr.frozen? ⟨g, p + k, none⟩ = false := HO.out.frozenAt (p + k)
        obtain ⟨x, hx⟩ : ∃ x, [x0, x1, x2, x3].getD k 0 = x := ⟨_, rfl⟩
        have hc2 : wr.cell? ⟨W.heap.size, k, none⟩ = some (.int .u8 x) := by rw [← hx]; exact HCX.out wr HB4.out k hlt1
        have HP := Lib.hid (show pat zs [x0, x1, x2, x3] p (k + 1) = (pat zs [x0, x1, x2, x3] p k).set (p + k) x from by rw [← hx]; rfl)
        have h5 : (p : Int) + (k : Int) < (len : Int) := by omega
        have h6 : (k : Int) < 4 := by omega
        clear hx
        go_wp2
        go_roundw
        case rel => exact ⟨k + 1, by go_num, by omega, by omega, by rw [HP.out, ← il_set]; exact (HO.out.stored (p + k) _).1, HB4.out.setCell (by show W.heap.size + 1 ≤ g; exact hg1) _⟩
        case measure => simp [intOf]; omega
      · have HPB := Lib.hid (show PB W (.slice (some ⟨g, 0, none⟩) len gc) (.slice a len cap) len (pat zs [x0, x1, x2, x3] p k) zs wr from ⟨RI.own HO.out, HR.out.keep (HBX.out wr HB4.out), HT.out.keep (HBX.out wr HB4.out), HBX.out wr HB4.out⟩)
        have HCB := Lib.hid (pat_bytes zs [x0, x1, x2, x3] p k HB.out HW.out)
        have HEQ := Lib.hid (pat_of zs [x0, x1, x2, x3] p k (by rw [HZ.out]; exact hkl) (by simp; omega) hk4 HB.out HW.out)
        by_cases hcz : pat zs [x0, x1, x2, x3] p k = zs
        · obtain ⟨s, hs⟩ : ∃ s, s = strOfNums zs := ⟨_, rfl⟩
          obtain ⟨o, ho⟩ : ∃ o, ofS zs = o := ⟨_, rfl⟩
          have HSC := Lib.hid (show s = strOfNums (pat zs [x0, x1, x2, x3] p k) from by rw [hcz]; exact hs)
          have HSB := Lib.hid hs
          have HOC := Lib.hid (show ofS (pat zs [x0, x1, x2, x3] p k) = o from by rw [hcz]; exact ho)
          have HOB := Lib.hid ho
          clear hs ho hcz
          go_wp2_with fail
          all_goals
            refine wp_region_held_drew (S := (fun w' => (convert 23 9 (.slice (some ⟨g, 0, none⟩) len gc)).run Tryd.prog w' = .ok (.string s) w' ∧ (convert 23 9 (.slice a len cap)).run Tryd.prog w' = .ok (.string s) w' ∧ PB W (.slice (some ⟨g, 0, none⟩) len gc) (.slice a len cap) len (pat zs [x0, x1, x2, x3] p k) zs w')) (by kernel_rfl) (PB.conv HSC.out HSB.out (HPB.out.keep ((Below.refl _ _).drew))) (fun hS => ?_)
            refine wpAnyH_take (i := 0) (oi := ({ dst := some 48, op := Op.move (Operand.tmp 7), type := 23, pos := "law.go:40", after := #[], guard := none } : Oper)) (v := ?_) rfl (by kernel_rfl) (by kernel_rfl) (by kernel_rfl) (fun _ _ _ h => h) (Or.inl ⟨by rfl, ?_⟩) hS ?_
            rotate_left
            · (intro w hSw; (try dsimp only at hSw); go_simp; try with_reducible rfl)
            (try simp only [Act.put, List.setIfInBounds_toArray, List.set_cons_zero, List.set_cons_succ])
            refine wpAnyH_take (i := 2) (oi := ({ dst := some 50, op := Op.move (Operand.tmp 0), type := 23, pos := "law.go:40", after := #[], guard := none } : Oper)) (v := ?_) rfl (by kernel_rfl) (by kernel_rfl) (by kernel_rfl) (fun _ _ _ h => h) (Or.inl ⟨by rfl, ?_⟩) hS ?_
            rotate_left
            · (intro w hSw; (try dsimp only at hSw); go_simp; try with_reducible rfl)
            (try simp only [Act.put, List.setIfInBounds_toArray, List.set_cons_zero, List.set_cons_succ])
            refine wpAnyH_take (i := 5) (oi := ({ dst := some 53, op := Op.move (Operand.tmp 7), type := 23, pos := "law.go:40", after := #[], guard := none } : Oper)) (v := ?_) rfl (by kernel_rfl) (by kernel_rfl) (by kernel_rfl) (fun _ _ _ h => h) (Or.inl ⟨by rfl, ?_⟩) hS ?_
            rotate_left
            · (intro w hSw; (try dsimp only at hSw); go_simp; try with_reducible rfl)
            (try simp only [Act.put, List.setIfInBounds_toArray, List.set_cons_zero, List.set_cons_succ])
            refine wpAnyH_take (i := 6) (oi := ({ dst := some 54, op := Op.convert 23 9 (Operand.tmp 53), type := 9, pos := "law.go:40", after := #[{ on := 5, ground := Ground.data }], guard := none } : Oper)) (v := ?_) rfl (by kernel_rfl) (by kernel_rfl) (by kernel_rfl) (fun _ _ _ h => h) (Or.inl ⟨by rfl, ?_⟩) hS ?_
            rotate_left
            · (intro w hSw; (try dsimp only at hSw); go_simp; try with_reducible rfl)
            (try simp only [Act.put, List.setIfInBounds_toArray, List.set_cons_zero, List.set_cons_succ])
            refine wpAnyH_take (i := 7) (oi := ({ dst := some 55, op := Op.move (Operand.tmp 0), type := 23, pos := "law.go:40", after := #[], guard := none } : Oper)) (v := ?_) rfl (by kernel_rfl) (by kernel_rfl) (by kernel_rfl) (fun _ _ _ h => h) (Or.inl ⟨by rfl, ?_⟩) hS ?_
            rotate_left
            · (intro w hSw; (try dsimp only at hSw); go_simp; try with_reducible rfl)
            (try simp only [Act.put, List.setIfInBounds_toArray, List.set_cons_zero, List.set_cons_succ])
            refine wpAnyH_take (i := 8) (oi := ({ dst := some 56, op := Op.convert 23 9 (Operand.tmp 55), type := 9, pos := "law.go:40", after := #[{ on := 7, ground := Ground.data }], guard := none } : Oper)) (v := ?_) rfl (by kernel_rfl) (by kernel_rfl) (by kernel_rfl) (fun _ _ _ h => h) (Or.inl ⟨by rfl, ?_⟩) hS ?_
            rotate_left
            · (intro w hSw; (try dsimp only at hSw); go_simp; try with_reducible rfl)
            (try simp only [Act.put, List.setIfInBounds_toArray, List.set_cons_zero, List.set_cons_succ])
            refine wpAnyH_take (i := 9) (oi := ({ dst := some 57, op := Op.binOp BinOp.eql 9 (Operand.tmp 54) (Operand.tmp 56) 9, type := 4, pos := "law.go:40", after := #[{ on := 6, ground := Ground.data }, { on := 8, ground := Ground.data }], guard := none } : Oper)) (v := ?_) rfl (by kernel_rfl) (by kernel_rfl) (by kernel_rfl) (fun _ _ _ h => h) (Or.inl ⟨by rfl, ?_⟩) hS ?_
            rotate_left
            · (intro w hSw; (try dsimp only at hSw); go_simp; try with_reducible rfl)
            (try simp only [Act.put, List.setIfInBounds_toArray, List.set_cons_zero, List.set_cons_succ])
            refine rg_one 1 ({ dst := some 49, op := Op.call { callee := Callee.value (Operand.func 7), args := #[Operand.tmp 48], argTypes := #[23] }, type := 22, pos := "law.go:40", after := #[{ on := 0, ground := Ground.data }], guard := none } : Oper) (by kernel_rfl) rfl (fun K hK => ?_)
            go_simp
            (go_at_call 7; (with_reducible refine (of_any hS.2.2.t hS.2.2.c HCB.out HOC.out).mono ?_); rintro e w2 ⟨rfl, rfl⟩)
            refine hK.out _ _ ?_ (fun hS1 => ?_)
            · (first | exact hS | exact PB.conv HSC.out HSB.out (hS.2.2.keep hb))
            clear hK K hS; have hS := hS1; clear hS1
            (try simp only [Act.put, List.setIfInBounds_toArray, List.set_cons_zero, List.set_cons_succ])
            refine rg_one 3 ({ dst := some 51, op := Op.call { callee := Callee.value (Operand.func 7), args := #[Operand.tmp 50], argTypes := #[23] }, type := 22, pos := "law.go:40", after := #[{ on := 2, ground := Ground.data }, { on := 1, ground := Ground.chain }], guard := none } : Oper) (by kernel_rfl) rfl (fun K hK => ?_)
            go_simp
            (go_at_call 7; (with_reducible refine (of_any hS.2.2.t hS.2.2.b HB.out HOB.out).mono ?_); rintro e w2 ⟨rfl, rfl⟩)
            refine hK.out _ _ ?_ (fun hS1 => ?_)
            · (first | exact hS | exact PB.conv HSC.out HSB.out (hS.2.2.keep hb))
            clear hK K hS; have hS := hS1; clear hS1
            (try simp only [Act.put, List.setIfInBounds_toArray, List.set_cons_zero, List.set_cons_succ])
            refine wpAnyH_take (i := 4) (oi := ({ dst := some 52, op := Op.binOp BinOp.eql 22 (Operand.tmp 49) (Operand.tmp 51) 22, type := 4, pos := "law.go:40", after := #[{ on := 1, ground := Ground.data }, { on := 3, ground := Ground.data }], guard := none } : Oper)) (v := ?_) rfl (by kernel_rfl) (by kernel_rfl) (by kernel_rfl) (fun _ _ _ h => h) (Or.inl ⟨by rfl, ?_⟩) hS ?_
            rotate_left
            · (intro w hSw; (try dsimp only at hSw); go_simp; try with_reducible rfl)
            (try simp only [Act.put, List.setIfInBounds_toArray, List.set_cons_zero, List.set_cons_succ])
            refine wpAnyH_take (i := 10) (oi := ({ dst := some 58, op := Op.binOp BinOp.eql 4 (Operand.tmp 52) (Operand.tmp 57) 4, type := 4, pos := "law.go:40", after := #[{ on := 4, ground := Ground.data }, { on := 9, ground := Ground.data }], guard := none } : Oper)) (v := ?_) rfl (by kernel_rfl) (by kernel_rfl) (by kernel_rfl) (fun _ _ _ h => h) (Or.inl ⟨by rfl, ?_⟩) hS ?_
            rotate_left
            · (intro w hSw; (try dsimp only at hSw); go_simp; try with_reducible rfl)
            (try simp only [Act.put, List.setIfInBounds_toArray, List.set_cons_zero, List.set_cons_succ])
            refine wpAnyH_take (i := 11) (oi := ({ dst := some 59, op := Op.move (Operand.tmp 58), type := 4, pos := "law.go:40", after := #[{ on := 10, ground := Ground.data }, { on := 3, ground := Ground.chain }], guard := none } : Oper)) (v := ?_) rfl (by kernel_rfl) (by kernel_rfl) (by kernel_rfl) (fun _ _ _ h => h) (Or.inl ⟨by rfl, ?_⟩) hS ?_
            rotate_left
            · (intro w hSw; (try dsimp only at hSw); go_simp; try with_reducible rfl)
            (try simp only [Act.put, List.setIfInBounds_toArray, List.set_cons_zero, List.set_cons_succ])
            refine rg_one 12 ({ dst := some 60, op := Op.call { callee := Callee.value (Operand.func 6), args := #[], argTypes := #[] }, type := 4, pos := "law.go:40", after := #[{ on := 11, ground := Ground.chain }, { on := 11, ground := Ground.guard }], guard := some (11, true) } : Oper) (by kernel_rfl) rfl (fun K hK => ?_)
            go_simp
            (go_at_call 6; (with_reducible refine (awake_any hS.2.2.t).mono ?_); rintro e w2 ⟨rfl, hb⟩)
            refine hK.out _ _ ?_ (fun hS1 => ?_)
            · (first | exact hS | exact PB.conv HSC.out HSB.out (hS.2.2.keep hb))
            clear hK K hS; have hS := hS1; clear hS1
            (try simp only [Act.put, List.setIfInBounds_toArray, List.set_cons_zero, List.set_cons_succ])
            refine wpAnyH_take (i := 13) (oi := ({ dst := some 61, op := Op.pick (Operand.tmp 59) (Operand.tmp 60) (Operand.const (Value.bool false)), type := 4, pos := "law.go:40", after := #[{ on := 11, ground := Ground.data }, { on := 12, ground := Ground.data }], guard := none } : Oper)) (v := ?_) rfl (by kernel_rfl) (by kernel_rfl) (by kernel_rfl) (fun _ _ _ h => h) (Or.inl ⟨by rfl, ?_⟩) hS ?_
            rotate_left
            · (intro w hSw; (try dsimp only at hSw); go_simp; try with_reducible rfl)
            (try simp only [Act.put, List.setIfInBounds_toArray, List.set_cons_zero, List.set_cons_succ])
            refine wpAnyH_take (i := 14) (oi := ({ dst := some 6, op := Op.assign (Operand.tmp 61), type := 4, pos := "law.go:40", after := #[{ on := 13, ground := Ground.data }, { on := 12, ground := Ground.chain }, { on := 0, ground := Ground.phase }, { on := 1, ground := Ground.phase }, { on := 2, ground := Ground.phase }, { on := 3, ground := Ground.phase }, { on := 4, ground := Ground.phase }, { on := 5, ground := Ground.phase }, { on := 6, ground := Ground.phase }, { on := 7, ground := Ground.phase }, { on := 8, ground := Ground.phase }, { on := 9, ground := Ground.phase }, { on := 10, ground := Ground.phase }, { on := 11, ground := Ground.phase }, { on := 12, ground := Ground.phase }, { on := 13, ground := Ground.phase }], guard := none } : Oper)) (v := ?_) rfl (by kernel_rfl) (by kernel_rfl) (by kernel_rfl) (fun _ _ _ h => h) (Or.inl ⟨by rfl, ?_⟩) hS ?_
            rotate_left
            · (intro w hSw; (try dsimp only at hSw); go_simp; try with_reducible rfl)
            (try simp only [Act.put, List.setIfInBounds_toArray, List.set_cons_zero, List.set_cons_succ])
            refine wpAnyH_done (by kernel_rfl) ?_ _
            go_wp2
            go_ret
            exact ⟨rfl, hS.2.2.out⟩
        · obtain ⟨sb, hsb⟩ : ∃ s, s = strOfNums zs := ⟨_, rfl⟩
          obtain ⟨sc, hsc⟩ : ∃ s, s = strOfNums (pat zs [x0, x1, x2, x3] p k) := ⟨_, rfl⟩
          obtain ⟨ob, hob⟩ : ∃ o, ofS zs = o := ⟨_, rfl⟩
          obtain ⟨oc, hoc⟩ : ∃ o, ofS (pat zs [x0, x1, x2, x3] p k) = o := ⟨_, rfl⟩
          have hne : ¬ sc = sb := fun h => hcz (strOfNums_inj HCB.out HB.out (by rw [← hsc, ← hsb]; exact h))
          have hno : ¬ oc = ob := fun h => hcz (HEQ.out (by rw [hoc, hob]; exact h))
          have hno2 : ((oc : Int) == (ob : Int)) = false := by rw [beq_eq_false_iff_ne]; omega
          have hne2 := str_ne hne
          have HSC := Lib.hid hsc
          have HSB := Lib.hid hsb
          have HOC := Lib.hid hoc
          have HOB := Lib.hid hob
          clear hsb hsc hob hoc hcz
          go_wp2_with fail
          all_goals
            refine wp_region_held_drew (S := (fun w' => (convert 23 9 (.slice (some ⟨g, 0, none⟩) len gc)).run Tryd.prog w' = .ok (.string sc) w' ∧ (convert 23 9 (.slice a len cap)).run Tryd.prog w' = .ok (.string sb) w' ∧ PB W (.slice (some ⟨g, 0, none⟩) len gc) (.slice a len cap) len (pat zs [x0, x1, x2, x3] p k) zs w')) (by kernel_rfl) (PB.conv HSC.out HSB.out (HPB.out.keep ((Below.refl _ _).drew))) (fun hS => ?_)
            refine wpAnyH_take (i := 0) (oi := ({ dst := some 48, op := Op.move (Operand.tmp 7), type := 23, pos := "law.go:40", after := #[], guard := none } : Oper)) (v := ?_) rfl (by kernel_rfl) (by kernel_rfl) (by kernel_rfl) (fun _ _ _ h => h) (Or.inl ⟨by rfl, ?_⟩) hS ?_
            rotate_left
            · (intro w hSw; (try dsimp only at hSw); go_simp; try with_reducible rfl)
            (try simp only [Act.put, List.setIfInBounds_toArray, List.set_cons_zero, List.set_cons_succ])
            refine wpAnyH_take (i := 2) (oi := ({ dst := some 50, op := Op.move (Operand.tmp 0), type := 23, pos := "law.go:40", after := #[], guard := none } : Oper)) (v := ?_) rfl (by kernel_rfl) (by kernel_rfl) (by kernel_rfl) (fun _ _ _ h => h) (Or.inl ⟨by rfl, ?_⟩) hS ?_
            rotate_left
            · (intro w hSw; (try dsimp only at hSw); go_simp; try with_reducible rfl)
            (try simp only [Act.put, List.setIfInBounds_toArray, List.set_cons_zero, List.set_cons_succ])
            refine wpAnyH_take (i := 5) (oi := ({ dst := some 53, op := Op.move (Operand.tmp 7), type := 23, pos := "law.go:40", after := #[], guard := none } : Oper)) (v := ?_) rfl (by kernel_rfl) (by kernel_rfl) (by kernel_rfl) (fun _ _ _ h => h) (Or.inl ⟨by rfl, ?_⟩) hS ?_
            rotate_left
            · (intro w hSw; (try dsimp only at hSw); go_simp; try with_reducible rfl)
            (try simp only [Act.put, List.setIfInBounds_toArray, List.set_cons_zero, List.set_cons_succ])
            refine wpAnyH_take (i := 6) (oi := ({ dst := some 54, op := Op.convert 23 9 (Operand.tmp 53), type := 9, pos := "law.go:40", after := #[{ on := 5, ground := Ground.data }], guard := none } : Oper)) (v := ?_) rfl (by kernel_rfl) (by kernel_rfl) (by kernel_rfl) (fun _ _ _ h => h) (Or.inl ⟨by rfl, ?_⟩) hS ?_
            rotate_left
            · (intro w hSw; (try dsimp only at hSw); go_simp; try with_reducible rfl)
            (try simp only [Act.put, List.setIfInBounds_toArray, List.set_cons_zero, List.set_cons_succ])
            refine wpAnyH_take (i := 7) (oi := ({ dst := some 55, op := Op.move (Operand.tmp 0), type := 23, pos := "law.go:40", after := #[], guard := none } : Oper)) (v := ?_) rfl (by kernel_rfl) (by kernel_rfl) (by kernel_rfl) (fun _ _ _ h => h) (Or.inl ⟨by rfl, ?_⟩) hS ?_
            rotate_left
            · (intro w hSw; (try dsimp only at hSw); go_simp; try with_reducible rfl)
            (try simp only [Act.put, List.setIfInBounds_toArray, List.set_cons_zero, List.set_cons_succ])
            refine wpAnyH_take (i := 8) (oi := ({ dst := some 56, op := Op.convert 23 9 (Operand.tmp 55), type := 9, pos := "law.go:40", after := #[{ on := 7, ground := Ground.data }], guard := none } : Oper)) (v := ?_) rfl (by kernel_rfl) (by kernel_rfl) (by kernel_rfl) (fun _ _ _ h => h) (Or.inl ⟨by rfl, ?_⟩) hS ?_
            rotate_left
            · (intro w hSw; (try dsimp only at hSw); go_simp; try with_reducible rfl)
            (try simp only [Act.put, List.setIfInBounds_toArray, List.set_cons_zero, List.set_cons_succ])
            refine wpAnyH_take (i := 9) (oi := ({ dst := some 57, op := Op.binOp BinOp.eql 9 (Operand.tmp 54) (Operand.tmp 56) 9, type := 4, pos := "law.go:40", after := #[{ on := 6, ground := Ground.data }, { on := 8, ground := Ground.data }], guard := none } : Oper)) (v := ?_) rfl (by kernel_rfl) (by kernel_rfl) (by kernel_rfl) (fun _ _ _ h => h) (Or.inl ⟨by rfl, ?_⟩) hS ?_
            rotate_left
            · (intro w hSw; (try dsimp only at hSw); go_simp; try with_reducible rfl)
            (try simp only [Act.put, List.setIfInBounds_toArray, List.set_cons_zero, List.set_cons_succ])
            refine rg_one 1 ({ dst := some 49, op := Op.call { callee := Callee.value (Operand.func 7), args := #[Operand.tmp 48], argTypes := #[23] }, type := 22, pos := "law.go:40", after := #[{ on := 0, ground := Ground.data }], guard := none } : Oper) (by kernel_rfl) rfl (fun K hK => ?_)
            go_simp
            (go_at_call 7; (with_reducible refine (of_any hS.2.2.t hS.2.2.c HCB.out HOC.out).mono ?_); rintro e w2 ⟨rfl, rfl⟩)
            refine hK.out _ _ ?_ (fun hS1 => ?_)
            · (first | exact hS | exact PB.conv HSC.out HSB.out (hS.2.2.keep hb))
            clear hK K hS; have hS := hS1; clear hS1
            (try simp only [Act.put, List.setIfInBounds_toArray, List.set_cons_zero, List.set_cons_succ])
            refine rg_one 3 ({ dst := some 51, op := Op.call { callee := Callee.value (Operand.func 7), args := #[Operand.tmp 50], argTypes := #[23] }, type := 22, pos := "law.go:40", after := #[{ on := 2, ground := Ground.data }, { on := 1, ground := Ground.chain }], guard := none } : Oper) (by kernel_rfl) rfl (fun K hK => ?_)
            go_simp
            (go_at_call 7; (with_reducible refine (of_any hS.2.2.t hS.2.2.b HB.out HOB.out).mono ?_); rintro e w2 ⟨rfl, rfl⟩)
            refine hK.out _ _ ?_ (fun hS1 => ?_)
            · (first | exact hS | exact PB.conv HSC.out HSB.out (hS.2.2.keep hb))
            clear hK K hS; have hS := hS1; clear hS1
            (try simp only [Act.put, List.setIfInBounds_toArray, List.set_cons_zero, List.set_cons_succ])
            refine wpAnyH_take (i := 4) (oi := ({ dst := some 52, op := Op.binOp BinOp.eql 22 (Operand.tmp 49) (Operand.tmp 51) 22, type := 4, pos := "law.go:40", after := #[{ on := 1, ground := Ground.data }, { on := 3, ground := Ground.data }], guard := none } : Oper)) (v := ?_) rfl (by kernel_rfl) (by kernel_rfl) (by kernel_rfl) (fun _ _ _ h => h) (Or.inl ⟨by rfl, ?_⟩) hS ?_
            rotate_left
            · (intro w hSw; (try dsimp only at hSw); go_simp; try with_reducible rfl)
            (try simp only [Act.put, List.setIfInBounds_toArray, List.set_cons_zero, List.set_cons_succ])
            refine wpAnyH_take (i := 10) (oi := ({ dst := some 58, op := Op.binOp BinOp.eql 4 (Operand.tmp 52) (Operand.tmp 57) 4, type := 4, pos := "law.go:40", after := #[{ on := 4, ground := Ground.data }, { on := 9, ground := Ground.data }], guard := none } : Oper)) (v := ?_) rfl (by kernel_rfl) (by kernel_rfl) (by kernel_rfl) (fun _ _ _ h => h) (Or.inl ⟨by rfl, ?_⟩) hS ?_
            rotate_left
            · (intro w hSw; (try dsimp only at hSw); go_simp; try with_reducible rfl)
            (try simp only [Act.put, List.setIfInBounds_toArray, List.set_cons_zero, List.set_cons_succ])
            refine wpAnyH_take (i := 11) (oi := ({ dst := some 59, op := Op.move (Operand.tmp 58), type := 4, pos := "law.go:40", after := #[{ on := 10, ground := Ground.data }, { on := 3, ground := Ground.chain }], guard := none } : Oper)) (v := ?_) rfl (by kernel_rfl) (by kernel_rfl) (by kernel_rfl) (fun _ _ _ h => h) (Or.inl ⟨by rfl, ?_⟩) hS ?_
            rotate_left
            · (intro w hSw; (try dsimp only at hSw); go_simp; try with_reducible rfl)
            (try simp only [Act.put, List.setIfInBounds_toArray, List.set_cons_zero, List.set_cons_succ])
            refine rg_one 12 ({ dst := some 60, op := Op.call { callee := Callee.value (Operand.func 6), args := #[], argTypes := #[] }, type := 4, pos := "law.go:40", after := #[{ on := 11, ground := Ground.chain }, { on := 11, ground := Ground.guard }], guard := some (11, true) } : Oper) (by kernel_rfl) rfl (fun K hK => ?_)
            go_simp
            (go_at_call 6; (with_reducible refine (awake_any hS.2.2.t).mono ?_); rintro e w2 ⟨rfl, hb⟩)
            refine hK.out _ _ ?_ (fun hS1 => ?_)
            · (first | exact hS | exact PB.conv HSC.out HSB.out (hS.2.2.keep hb))
            clear hK K hS; have hS := hS1; clear hS1
            (try simp only [Act.put, List.setIfInBounds_toArray, List.set_cons_zero, List.set_cons_succ])
            refine wpAnyH_take (i := 13) (oi := ({ dst := some 61, op := Op.pick (Operand.tmp 59) (Operand.tmp 60) (Operand.const (Value.bool false)), type := 4, pos := "law.go:40", after := #[{ on := 11, ground := Ground.data }, { on := 12, ground := Ground.data }], guard := none } : Oper)) (v := ?_) rfl (by kernel_rfl) (by kernel_rfl) (by kernel_rfl) (fun _ _ _ h => h) (Or.inl ⟨by rfl, ?_⟩) hS ?_
            rotate_left
            · (intro w hSw; (try dsimp only at hSw); go_simp; try with_reducible rfl)
            (try simp only [Act.put, List.setIfInBounds_toArray, List.set_cons_zero, List.set_cons_succ])
            refine wpAnyH_take (i := 14) (oi := ({ dst := some 6, op := Op.assign (Operand.tmp 61), type := 4, pos := "law.go:40", after := #[{ on := 13, ground := Ground.data }, { on := 12, ground := Ground.chain }, { on := 0, ground := Ground.phase }, { on := 1, ground := Ground.phase }, { on := 2, ground := Ground.phase }, { on := 3, ground := Ground.phase }, { on := 4, ground := Ground.phase }, { on := 5, ground := Ground.phase }, { on := 6, ground := Ground.phase }, { on := 7, ground := Ground.phase }, { on := 8, ground := Ground.phase }, { on := 9, ground := Ground.phase }, { on := 10, ground := Ground.phase }, { on := 11, ground := Ground.phase }, { on := 12, ground := Ground.phase }, { on := 13, ground := Ground.phase }], guard := none } : Oper)) (v := ?_) rfl (by kernel_rfl) (by kernel_rfl) (by kernel_rfl) (fun _ _ _ h => h) (Or.inl ⟨by rfl, ?_⟩) hS ?_
            rotate_left
            · (intro w hSw; (try dsimp only at hSw); go_simp; try with_reducible rfl)
            (try simp only [Act.put, List.setIfInBounds_toArray, List.set_cons_zero, List.set_cons_succ])
            refine wpAnyH_done (by kernel_rfl) ?_ _
            go_wp2
            go_ret
            exact ⟨rfl, hS.2.2.out⟩
end Go.Proofs.YtneggofhahjkmaaDoor
