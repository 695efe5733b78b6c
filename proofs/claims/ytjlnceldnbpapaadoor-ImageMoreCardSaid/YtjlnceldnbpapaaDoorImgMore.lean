/-
  THE WALK OF THE LAW ImageMore: whatever epoch, records and one record more come in: the call returns true and changes nothing that was there.
-/
import Derived.Test.YtjlnceldnbpapaaDoorImgB
import Derived.Test.YtjlnceldnbpapaaDoorImgSecs
import Derived.Test.YtjlnceldnbpapaaDoorImgAdd
import Derived.Test.YtjlnceldnbpapaaDoorAppv
namespace Go.Proofs.YtjlnceldnbpapaaDoor
open Go.RowKit
theorem Tryd.info_sl : (Tryd.prog.info? 26).map (fun i => (i.zero, i.size, i.bytes)) = some (some (.slice none 0 0), 1, 24) := by kernel_rfl
/-- the first m of a block's bytes -/
theorem YB.pre {w : World} {g n : Nat} {zs : List Int} (h : YB w g zs) (hz : zs.length = n) (hn : n ≤ 1000000) (m : Nat) (hm : m ≤ n) : RI .u8 w (.slice (some ⟨g, 0, none⟩) m n) m (zs.take m) := by
  refine ⟨_, n, rfl, by rw [List.length_take]; omega, hm, by omega, fun h => by simp at h, fun _ => ⟨g, 0, rfl, fun j hj => ?_⟩⟩
  rw [Nat.zero_add, h.cell j (by omega)]
  simp [List.getD, hj]
theorem YB.grownR {w w' : World} {g : Nat} {zs : List Int} (h : YB w g zs) {base n size : Nat} {e : TypeId} {u : Value} {xs : List Value} (ho : w.ownsRow base e size u n xs) (he : 5 ≠ e) (hg : w.grownBy w' u.ownBlock) : YB w' g zs :=
  (hg.block g h.lt (fun e' => h.ne_row ho he g e'.symm rfl)).trans h
theorem own_none {w : World} {e : TypeId} {base b : Nat} (hb : w.heap.size = b) (h : base ≤ b) : (w.alloc (.cells #[] e)).ownsRow base e 1 (.slice (some ⟨b, 0, none⟩) 0 0) 0 [] := by
  subst hb
  exact World.ownsRow_lit w #[] 0 h (by unfold maxLen; omega) rfl
theorem rv_one (w : World) (y : Value) : RV (w.alloc (.cells #[y] 26)) (.slice (some ⟨w.heap.size, 0, none⟩) 1 1) 1 [y] := by
  refine ⟨_, 1, rfl, rfl, Nat.le_refl _, by omega, fun h => by simp at h, fun _ => ⟨w.heap.size, 0, rfl, fun j hj => ?_⟩⟩
  obtain rfl : j = 0 := by omega
  rw [Nat.zero_add, cell_of_row _ w.heap.size 0 _ _ _ (heap_alloc_last w _)]
  rfl
set_option maxRecDepth 8000 in
set_option maxHeartbeats 8000000 in
theorem more_walk (ep : Int) (lv : Value) (N : Nat) (ls : List (List Int)) (hlb : ∀ l ∈ ls, isB l) (mv : Value) (m : Nat) (z : List Int) (hzb : isB z) (W : World) (ht : Tab W) (hrl : RL .u8 W lv N ls) (hrm : RI .u8 W mv m z) :
    Calls Tryd.prog 5 #[.int .u64 ep, lv, mv] W fun e w' => e = .returned (.bool true) ∧ Below W.heap.size W w' := by
  obtain ⟨la, lc, rfl, _⟩ := hrl.form
  have hml := hrm.length
  have hmle := hrm.le
  obtain ⟨ma, mc, rfl, _⟩ := id hrm
  have HFW : Hid (∀ w, Calls Tryd.prog 6 #[.slice la N lc] w fun e w' => e = .returned (.bool (decide (N ≤ 100))) ∧ w = w') := Lib.hid fun w => few_any la N lc w
  by_cases hN : N ≤ 100
  · rw [decide_eq_true hN] at HFW
    have hN1 : (N : Int) ≤ 100 := by omega
    have hlb2 : ∀ l ∈ ls ++ [z], isB l := fun l hl => by
      rcases List.mem_append.1 hl with h | h
      · exact hlb l h
      · rw [List.mem_singleton.1 h]; exact hzb
    have hfs := fitsF_snoc ls z
    have hes := endF_snoc ls z
    have hbs := bodyF_snoc (ep % 4294967296) ls z
    rw [hml] at hfs hes
    have HT := Lib.hid ht
    have HRM := Lib.hid hrm
    have HRL := Lib.hid hrl
    have HBL := Lib.hid (bodyF_len (ep % 4294967296) ls)
    have HBL2 := Lib.hid (bodyF_len (ep % 4294967296) (ls ++ [z]))
    have HEL := endF_le ls
    obtain ⟨es, hrv, hll, hel⟩ := id hrl
    have HRV := Lib.hid hrv
    have HES : Hid (∀ u ∈ es, u.oneCell' = true) := Lib.hid fun u hu => by
      obtain ⟨j, hj, rfl⟩ := List.getElem_of_mem hu
      have hjl : j < ls.length := by have := hrv.length; omega
      exact ri_one (hel j _ _ (List.getElem?_eq_getElem hj) (List.getElem?_eq_getElem hjl))
    have HGR : Hid (∀ (base : Nat) (w' : World) (v' : Value), Below W.heap.size W w' → w'.ownsRow base 26 1 v' (N + 1) (es ++ [.slice ma m mc]) → RL .u8 w' v' (N + 1) (ls ++ [z])) := Lib.hid fun base w' v' q1 q2 => rl_grow hll hrv.length hel hrm hml q1 q2
    have HB0 : Hid (∀ w, Tab w → RL .u8 w (.slice la N lc) N ls → Calls Tryd.prog 8 #[.int .u64 ep, .slice la N lc] w (BodyF w ls (ep % 4294967296))) := Lib.hid fun w q1 q2 => body_any ep _ N ls hlb w q1 q2
    have HB2 : Hid (∀ w v, Tab w → RL .u8 w v (N + 1) (ls ++ [z]) → Calls Tryd.prog 8 #[.int .u64 ep, v] w (BodyF w (ls ++ [z]) (ep % 4294967296))) := Lib.hid fun w v q1 q2 => body_any ep v (N + 1) (ls ++ [z]) hlb2 w q1 q2
    cases hf : fitsF ls with
    | true =>
      cases hft : fitI (endF ls : Nat) (m : Nat) with
      | true =>
        have hf2 : fitsF (ls ++ [z]) = true := by rw [hfs, hf, hft]; rfl
        have hgt := end_gt hft
        rw [nr_nat _ HEL] at hgt
        have HADD : Hid (∀ w v, Tab w → RI .u8 w v 832 (bodyF (ep % 4294967296) ls) → RI .u8 w (.slice ma m mc) m z → Calls Tryd.prog 14 #[.int .u64 ep, v, .int .i64 (endF ls : Nat), .slice ma m mc] w fun e w' => ∃ g, e = .returned (.tuple #[.slice (some ⟨g, 0, none⟩) 832 832, .int .i64 (endF (ls ++ [z]) : Nat), .bool true]) ∧
            YB w' g (bodyF (ep % 4294967296) (ls ++ [z])) ∧ w.heap.size ≤ g ∧ Below w.heap.size w w') := Lib.hid fun w v q1 q2 q3 => by
          have h := add_fit ep (endF ls : Nat) (by unfold I63; omega) v 832 _ _ m z hzb w q1 q2 q3 hft
          rw [pad8_full HBL.out] at h
          rw [hbs, hes]; exact h
        have HTK : Hid ((bodyF (ep % 4294967296) (ls ++ [z])).take (endF ls) = (bodyF (ep % 4294967296) ls).take (endF ls)) := Lib.hid (by
          have h := layR_take (ep := ep % 4294967296) (zs := z) (x := ((endF ls : Nat) : Int)) HBL.out
          rw [nr_nat _ HEL] at h
          rw [hbs]; exact h)
        have HP : Hid (∀ w, Tab w → RL .u8 w (.slice la N lc) N ls → Calls Tryd.prog 8 #[.int .u64 ep, .slice la N lc] w _) := Lib.hid fun w q1 q2 => body_yes (HB0.out w q1 q2) hf
        have HQ : Hid (∀ w v, Tab w → RL .u8 w v (N + 1) (ls ++ [z]) → Calls Tryd.prog 8 #[.int .u64 ep, v] w _) := Lib.hid fun w v q1 q2 => body_yes (HB2.out w v q1 q2) hf2
        rw [← hes] at hgt
        generalize bodyF (ep % 4294967296) ls = bd at *
        generalize endF ls = en at *
        generalize bodyF (ep % 4294967296) (ls ++ [z]) = out at *
        generalize endF (ls ++ [z]) = en2 at *
        have hen : (en : Int) ≤ 832 := by omega
        have hen2 : (en : Int) < (en2 : Int) := by omega
        obtain ⟨s1, hs1⟩ : ∃ s, strOfNums (bd.take en) = s := ⟨_, rfl⟩
        obtain ⟨s2, hs2⟩ : ∃ s, strOfNums out = s := ⟨_, rfl⟩
        rw [← HTK.out] at hs1
        have HS1 := Lib.hid hs1
        have HS2 := Lib.hid hs2
        have HEN : Hid (en ≤ 832) := Lib.hid HEL
        clear hf hf2 hfs hes hbs HB0 HB2 hel hrv hll hlb hlb2 hzb ht hrl hrm hft hs1 hs2 HEL hgt
        go_enter Tryd.func5, Tryd.ntmps5
        go_wp2_with (first
          | (go_at_call 6; (with_reducible refine (HFW.out _).mono ?_); rintro e w0 ⟨rfl, rfl⟩)
          | (at_builtin; refine wpl_appv rfl (.tmp 31) (.tmp 33) 23 rfl 26 (.slice none 0 0) 24 Tryd.underlying23 Tryd.info_sl rfl W.heap.size _ N es rfl (HO2.out.alloc _) _ 1 [.slice ma m mc] rfl (rv_one w2 _) (by simp [Value.oneCell']) (by omega) (by omega) (by have := HW2.out.size; simp; omega) ?_; intro v3 w3 HO3 HG3; have HW3 : Hid (Below W.heap.size W w3) := Lib.hid ((HW2.out.alloc HW2.out.size _).grown HG3.out (by have := HW2.out.size; simp; omega) (fun q hq => (HO2.out.lt q hq).1)); have HY3 := Lib.hid (YB.grownR (HY2.out.keep (balloc w2 _)) (HO2.out.alloc _) (by decide) HG3.out); have HQ3 := Lib.hid (HQ.out w3 v3 (HT.out.keep HW3.out) (HGR.out _ _ _ HW3.out HO3.out)))
          | (at_builtin; refine wpl_appv rfl (.tmp 29) (.tmp 30) 23 rfl 26 (.slice none 0 0) 24 Tryd.underlying23 Tryd.info_sl rfl W.heap.size (.slice (some ⟨w1.heap.size, 0, none⟩) 0 0) 0 [] rfl (own_none rfl HW1.out.size) _ N es rfl ((HRV.out.keep HW1.out).keep (balloc w1 _)) HES.out (by omega) (by omega) (by have := HW1.out.size; simp; omega) ?_; intro v2 w2 HO2 HG2; rw [Nat.zero_add, List.nil_append] at HO2; obtain ⟨a2, c2, rfl⟩ := own_form HO2.out; have HW2 : Hid (Below W.heap.size W w2) := Lib.hid ((HW1.out.alloc HW1.out.size _).grown HG2.out (by have := HW1.out.size; simp; omega) (fun q hq => by have := HW1.out.size; simp [Value.ownBlock] at hq; omega)); have HY2 := Lib.hid ((HY1.out.keep (balloc w1 _)).over HG2.out (show g1 ≠ w1.heap.size from by have := HY1.out.lt; omega)))
          | (go_at_call 8; (with_reducible refine (HP.out _ HT.out HRL.out).mono ?_); rintro e w1 ⟨g1, rfl, hy, _, hb⟩; have HW1 := Lib.hid hb; have HY1 := Lib.hid hy; clear hb hy)
          | (go_at_call 8; (with_reducible refine (HQ3.out).mono ?_); rintro e w4 ⟨g4, rfl, hy, _, hb⟩; have HW4 := Lib.hid (bch HW3.out hb); have HY4 := Lib.hid (HY3.out.keep hb); have HZ4 := Lib.hid hy; clear hb hy)
          | (go_at_call 14; (with_reducible refine (HADD.out _ _ (HT.out.keep HW4.out) (HY4.out.ri HBL.out (by omega)) (HRM.out.keep HW4.out)).mono ?_); rintro e w5 ⟨g5, rfl, hy, _, hb⟩; have HW5 := Lib.hid (bch HW4.out hb); have HY5 := Lib.hid (HY4.out.keep hb); have HZ5 := Lib.hid (HZ4.out.keep hb); have HV5 := Lib.hid hy; clear hb hy))
        have K1 : Hid (∀ w', Below w5.heap.size w5 w' → (convert 26 9 (.slice (some ⟨g1, 0, none⟩) en 832)).run Tryd.prog w' = .ok (.string s1) w') := Lib.hid fun w' hb => by rw [conv_ri ((HY5.out.keep hb).pre HBL.out (by omega) en HEN.out), ← HTK.out, HS1.out]
        have K2 : Hid (∀ w', Below w5.heap.size w5 w' → (convert 26 9 (.slice (some ⟨g4, 0, none⟩) en 832)).run Tryd.prog w' = .ok (.string s1) w') := Lib.hid fun w' hb => by rw [conv_ri ((HZ5.out.keep hb).pre HBL2.out (by omega) en HEN.out), HS1.out]
        have K3 : Hid (∀ w', Below w5.heap.size w5 w' → (convert 26 9 (.slice (some ⟨g4, 0, none⟩) 832 832)).run Tryd.prog w' = .ok (.string s2) w') := Lib.hid fun w' hb => by rw [conv_ri ((HZ5.out.keep hb).ri HBL2.out (by omega)), HS2.out]
        have K4 : Hid (∀ w', Below w5.heap.size w5 w' → (convert 26 9 (.slice (some ⟨g5, 0, none⟩) 832 832)).run Tryd.prog w' = .ok (.string s2) w') := Lib.hid fun w' hb => by rw [conv_ri ((HV5.out.keep hb).ri HBL2.out (by omega)), HS2.out]
        refine wp_region_held_drew (S := (fun w' => Below w5.heap.size w5 w')) (by kernel_rfl) ((Below.refl _ _).drew) (fun hS => ?_)
        refine wpAnyH_take (i := 0) (oi := ({ dst := some 62, op := Op.move (Operand.tmp 7), type := 26, pos := "law.go:66", after := #[], guard := none } : Oper)) (v := ?_) rfl (by kernel_rfl) (by kernel_rfl) (by kernel_rfl) (fun _ _ _ h => h) (Or.inl ⟨by rfl, ?_⟩) hS ?_
        rotate_left
        · (intro w hSw; (try dsimp only at hSw); go_simp; try with_reducible rfl)
        (try simp only [Act.put, List.setIfInBounds_toArray, List.set_cons_zero, List.set_cons_succ])
        refine wpAnyH_take (i := 1) (oi := ({ dst := some 63, op := Op.call { callee := Callee.builtin Builtin.len, args := #[Operand.tmp 62], argTypes := #[26] }, type := 3, pos := "law.go:66", after := #[{ on := 0, ground := Ground.data }], guard := none } : Oper)) (v := ?_) rfl (by kernel_rfl) (by kernel_rfl) (by kernel_rfl) (fun _ _ _ h => h) (Or.inl ⟨by rfl, ?_⟩) hS ?_
        rotate_left
        · (intro w hSw; (try dsimp only at hSw); go_simp; try with_reducible rfl)
        (try simp only [Act.put, List.setIfInBounds_toArray, List.set_cons_zero, List.set_cons_succ])
        refine wpAnyH_take (i := 2) (oi := ({ dst := some 64, op := Op.binOp BinOp.eql 3 (Operand.tmp 63) (Operand.const (Value.int IntKind.i64 832)) 3, type := 4, pos := "law.go:66", after := #[{ on := 1, ground := Ground.data }], guard := none } : Oper)) (v := .bool true) rfl (by kernel_rfl) (by kernel_rfl) (by kernel_rfl) (fun _ _ _ h => h) (Or.inl ⟨by rfl, ?_⟩) hS ?_
        · (intro w hSw; (try dsimp only at hSw); go_simp)
        (try simp only [Act.put, List.setIfInBounds_toArray, List.set_cons_zero, List.set_cons_succ])
        refine wpAnyH_take (i := 3) (oi := ({ dst := some 65, op := Op.move (Operand.tmp 64), type := 4, pos := "law.go:66", after := #[{ on := 2, ground := Ground.data }], guard := none } : Oper)) (v := ?_) rfl (by kernel_rfl) (by kernel_rfl) (by kernel_rfl) (fun _ _ _ h => h) (Or.inl ⟨by rfl, ?_⟩) hS ?_
        rotate_left
        · (intro w hSw; (try dsimp only at hSw); go_simp; try with_reducible rfl)
        (try simp only [Act.put, List.setIfInBounds_toArray, List.set_cons_zero, List.set_cons_succ])
        refine wpAnyH_take (i := 4) (oi := ({ dst := some 66, op := Op.move (Operand.tmp 10), type := 26, pos := "law.go:66", after := #[{ on := 3, ground := Ground.guard }], guard := some (3, true) } : Oper)) (v := ?_) rfl (by kernel_rfl) (by kernel_rfl) (by kernel_rfl) (fun _ _ _ h => h) (Or.inl ⟨by rfl, ?_⟩) hS ?_
        rotate_left
        · (intro w hSw; (try dsimp only at hSw); go_simp; try with_reducible rfl)
        (try simp only [Act.put, List.setIfInBounds_toArray, List.set_cons_zero, List.set_cons_succ])
        refine wpAnyH_take (i := 5) (oi := ({ dst := some 67, op := Op.call { callee := Callee.builtin Builtin.len, args := #[Operand.tmp 66], argTypes := #[26] }, type := 3, pos := "law.go:66", after := #[{ on := 4, ground := Ground.data }, { on := 3, ground := Ground.guard }], guard := some (3, true) } : Oper)) (v := ?_) rfl (by kernel_rfl) (by kernel_rfl) (by kernel_rfl) (fun _ _ _ h => h) (Or.inl ⟨by rfl, ?_⟩) hS ?_
        rotate_left
        · (intro w hSw; (try dsimp only at hSw); go_simp; try with_reducible rfl)
        (try simp only [Act.put, List.setIfInBounds_toArray, List.set_cons_zero, List.set_cons_succ])
        refine wpAnyH_take (i := 6) (oi := ({ dst := some 68, op := Op.binOp BinOp.eql 3 (Operand.tmp 67) (Operand.const (Value.int IntKind.i64 832)) 3, type := 4, pos := "law.go:66", after := #[{ on := 5, ground := Ground.data }, { on := 3, ground := Ground.guard }], guard := some (3, true) } : Oper)) (v := .bool true) rfl (by kernel_rfl) (by kernel_rfl) (by kernel_rfl) (fun _ _ _ h => h) (Or.inl ⟨by rfl, ?_⟩) hS ?_
        · (intro w hSw; (try dsimp only at hSw); go_simp)
        (try simp only [Act.put, List.setIfInBounds_toArray, List.set_cons_zero, List.set_cons_succ])
        refine wpAnyH_take (i := 7) (oi := ({ dst := some 69, op := Op.pick (Operand.tmp 65) (Operand.tmp 68) (Operand.const (Value.bool false)), type := 4, pos := "law.go:66", after := #[{ on := 3, ground := Ground.data }, { on := 6, ground := Ground.data }], guard := none } : Oper)) (v := .bool true) rfl (by kernel_rfl) (by kernel_rfl) (by kernel_rfl) (fun _ _ _ h => h) (Or.inl ⟨by rfl, ?_⟩) hS ?_
        · (intro w hSw; (try dsimp only at hSw); go_simp)
        (try simp only [Act.put, List.setIfInBounds_toArray, List.set_cons_zero, List.set_cons_succ])
        refine wpAnyH_take (i := 8) (oi := ({ dst := some 70, op := Op.move (Operand.tmp 69), type := 4, pos := "law.go:66", after := #[{ on := 7, ground := Ground.data }, { on := 3, ground := Ground.chain }], guard := none } : Oper)) (v := ?_) rfl (by kernel_rfl) (by kernel_rfl) (by kernel_rfl) (fun _ _ _ h => h) (Or.inl ⟨by rfl, ?_⟩) hS ?_
        rotate_left
        · (intro w hSw; (try dsimp only at hSw); go_simp; try with_reducible rfl)
        (try simp only [Act.put, List.setIfInBounds_toArray, List.set_cons_zero, List.set_cons_succ])
        refine wpAnyH_take (i := 9) (oi := ({ dst := some 71, op := Op.move (Operand.tmp 11), type := 3, pos := "law.go:66", after := #[{ on := 8, ground := Ground.guard }], guard := some (8, true) } : Oper)) (v := ?_) rfl (by kernel_rfl) (by kernel_rfl) (by kernel_rfl) (fun _ _ _ h => h) (Or.inl ⟨by rfl, ?_⟩) hS ?_
        rotate_left
        · (intro w hSw; (try dsimp only at hSw); go_simp; try with_reducible rfl)
        (try simp only [Act.put, List.setIfInBounds_toArray, List.set_cons_zero, List.set_cons_succ])
        refine wpAnyH_take (i := 10) (oi := ({ dst := some 72, op := Op.move (Operand.tmp 8), type := 3, pos := "law.go:66", after := #[{ on := 8, ground := Ground.guard }], guard := some (8, true) } : Oper)) (v := ?_) rfl (by kernel_rfl) (by kernel_rfl) (by kernel_rfl) (fun _ _ _ h => h) (Or.inl ⟨by rfl, ?_⟩) hS ?_
        rotate_left
        · (intro w hSw; (try dsimp only at hSw); go_simp; try with_reducible rfl)
        (try simp only [Act.put, List.setIfInBounds_toArray, List.set_cons_zero, List.set_cons_succ])
        refine wpAnyH_take (i := 11) (oi := ({ dst := some 73, op := Op.binOp BinOp.gtr 3 (Operand.tmp 71) (Operand.tmp 72) 3, type := 4, pos := "law.go:66", after := #[{ on := 9, ground := Ground.data }, { on := 10, ground := Ground.data }, { on := 8, ground := Ground.guard }], guard := some (8, true) } : Oper)) (v := .bool true) rfl (by kernel_rfl) (by kernel_rfl) (by kernel_rfl) (fun _ _ _ h => h) (Or.inl ⟨by rfl, ?_⟩) hS ?_
        · (intro w hSw; (try dsimp only at hSw); go_simp)
        (try simp only [Act.put, List.setIfInBounds_toArray, List.set_cons_zero, List.set_cons_succ])
        refine wpAnyH_take (i := 12) (oi := ({ dst := some 74, op := Op.pick (Operand.tmp 70) (Operand.tmp 73) (Operand.const (Value.bool false)), type := 4, pos := "law.go:66", after := #[{ on := 8, ground := Ground.data }, { on := 11, ground := Ground.data }], guard := none } : Oper)) (v := .bool true) rfl (by kernel_rfl) (by kernel_rfl) (by kernel_rfl) (fun _ _ _ h => h) (Or.inl ⟨by rfl, ?_⟩) hS ?_
        · (intro w hSw; (try dsimp only at hSw); go_simp)
        (try simp only [Act.put, List.setIfInBounds_toArray, List.set_cons_zero, List.set_cons_succ])
        refine wpAnyH_take (i := 13) (oi := ({ dst := some 75, op := Op.move (Operand.tmp 74), type := 4, pos := "law.go:66", after := #[{ on := 12, ground := Ground.data }, { on := 8, ground := Ground.chain }], guard := none } : Oper)) (v := ?_) rfl (by kernel_rfl) (by kernel_rfl) (by kernel_rfl) (fun _ _ _ h => h) (Or.inl ⟨by rfl, ?_⟩) hS ?_
        rotate_left
        · (intro w hSw; (try dsimp only at hSw); go_simp; try with_reducible rfl)
        (try simp only [Act.put, List.setIfInBounds_toArray, List.set_cons_zero, List.set_cons_succ])
        refine wpAnyH_take (i := 14) (oi := ({ dst := some 76, op := Op.move (Operand.tmp 7), type := 26, pos := "law.go:66", after := #[{ on := 13, ground := Ground.guard }], guard := some (13, true) } : Oper)) (v := ?_) rfl (by kernel_rfl) (by kernel_rfl) (by kernel_rfl) (fun _ _ _ h => h) (Or.inl ⟨by rfl, ?_⟩) hS ?_
        rotate_left
        · (intro w hSw; (try dsimp only at hSw); go_simp; try with_reducible rfl)
        (try simp only [Act.put, List.setIfInBounds_toArray, List.set_cons_zero, List.set_cons_succ])
        refine wpAnyH_take (i := 15) (oi := ({ dst := some 77, op := Op.move (Operand.tmp 8), type := 3, pos := "law.go:66", after := #[{ on := 13, ground := Ground.guard }], guard := some (13, true) } : Oper)) (v := ?_) rfl (by kernel_rfl) (by kernel_rfl) (by kernel_rfl) (fun _ _ _ h => h) (Or.inl ⟨by rfl, ?_⟩) hS ?_
        rotate_left
        · (intro w hSw; (try dsimp only at hSw); go_simp; try with_reducible rfl)
        (try simp only [Act.put, List.setIfInBounds_toArray, List.set_cons_zero, List.set_cons_succ])
        refine wpAnyH_take (i := 16) (oi := ({ dst := some 78, op := Op.slice 26 (Operand.tmp 76) none (some (Operand.tmp 77)) none, type := 26, pos := "law.go:66", after := #[{ on := 14, ground := Ground.data }, { on := 15, ground := Ground.data }, { on := 13, ground := Ground.guard }], guard := some (13, true) } : Oper)) (v := .slice (some ⟨g1, 0, none⟩) en 832) rfl (by kernel_rfl) (by kernel_rfl) (by kernel_rfl) (fun _ _ _ h => h) (Or.inl ⟨by rfl, ?_⟩) hS ?_
        · (intro w hSw; (try dsimp only at hSw); go_simp)
        (try simp only [Act.put, List.setIfInBounds_toArray, List.set_cons_zero, List.set_cons_succ])
        refine wpAnyH_take (i := 17) (oi := ({ dst := some 79, op := Op.convert 26 9 (Operand.tmp 78), type := 9, pos := "law.go:66", after := #[{ on := 16, ground := Ground.data }, { on := 13, ground := Ground.guard }], guard := some (13, true) } : Oper)) (v := .string s1) rfl (by kernel_rfl) (by kernel_rfl) (by kernel_rfl) (fun _ _ _ h => h) (Or.inl ⟨by rfl, ?_⟩) hS ?_
        · (intro w hSw; (try dsimp only at hSw); have z := K1.out w hSw; go_simp)
        (try simp only [Act.put, List.setIfInBounds_toArray, List.set_cons_zero, List.set_cons_succ])
        refine wpAnyH_take (i := 18) (oi := ({ dst := some 80, op := Op.move (Operand.tmp 10), type := 26, pos := "law.go:66", after := #[{ on := 13, ground := Ground.guard }], guard := some (13, true) } : Oper)) (v := ?_) rfl (by kernel_rfl) (by kernel_rfl) (by kernel_rfl) (fun _ _ _ h => h) (Or.inl ⟨by rfl, ?_⟩) hS ?_
        rotate_left
        · (intro w hSw; (try dsimp only at hSw); go_simp; try with_reducible rfl)
        (try simp only [Act.put, List.setIfInBounds_toArray, List.set_cons_zero, List.set_cons_succ])
        refine wpAnyH_take (i := 19) (oi := ({ dst := some 81, op := Op.move (Operand.tmp 8), type := 3, pos := "law.go:66", after := #[{ on := 13, ground := Ground.guard }], guard := some (13, true) } : Oper)) (v := ?_) rfl (by kernel_rfl) (by kernel_rfl) (by kernel_rfl) (fun _ _ _ h => h) (Or.inl ⟨by rfl, ?_⟩) hS ?_
        rotate_left
        · (intro w hSw; (try dsimp only at hSw); go_simp; try with_reducible rfl)
        (try simp only [Act.put, List.setIfInBounds_toArray, List.set_cons_zero, List.set_cons_succ])
        refine wpAnyH_take (i := 20) (oi := ({ dst := some 82, op := Op.slice 26 (Operand.tmp 80) none (some (Operand.tmp 81)) none, type := 26, pos := "law.go:66", after := #[{ on := 18, ground := Ground.data }, { on := 19, ground := Ground.data }, { on := 13, ground := Ground.guard }], guard := some (13, true) } : Oper)) (v := .slice (some ⟨g4, 0, none⟩) en 832) rfl (by kernel_rfl) (by kernel_rfl) (by kernel_rfl) (fun _ _ _ h => h) (Or.inl ⟨by rfl, ?_⟩) hS ?_
        · (intro w hSw; (try dsimp only at hSw); go_simp)
        (try simp only [Act.put, List.setIfInBounds_toArray, List.set_cons_zero, List.set_cons_succ])
        refine wpAnyH_take (i := 21) (oi := ({ dst := some 83, op := Op.convert 26 9 (Operand.tmp 82), type := 9, pos := "law.go:66", after := #[{ on := 20, ground := Ground.data }, { on := 13, ground := Ground.guard }], guard := some (13, true) } : Oper)) (v := .string s1) rfl (by kernel_rfl) (by kernel_rfl) (by kernel_rfl) (fun _ _ _ h => h) (Or.inl ⟨by rfl, ?_⟩) hS ?_
        · (intro w hSw; (try dsimp only at hSw); have z := K2.out w hSw; go_simp)
        (try simp only [Act.put, List.setIfInBounds_toArray, List.set_cons_zero, List.set_cons_succ])
        refine wpAnyH_take (i := 22) (oi := ({ dst := some 84, op := Op.binOp BinOp.eql 9 (Operand.tmp 79) (Operand.tmp 83) 9, type := 4, pos := "law.go:66", after := #[{ on := 17, ground := Ground.data }, { on := 21, ground := Ground.data }, { on := 13, ground := Ground.guard }], guard := some (13, true) } : Oper)) (v := .bool true) rfl (by kernel_rfl) (by kernel_rfl) (by kernel_rfl) (fun _ _ _ h => h) (Or.inl ⟨by rfl, ?_⟩) hS ?_
        · (intro w hSw; (try dsimp only at hSw); go_simp)
        (try simp only [Act.put, List.setIfInBounds_toArray, List.set_cons_zero, List.set_cons_succ])
        refine wpAnyH_take (i := 23) (oi := ({ dst := some 85, op := Op.pick (Operand.tmp 75) (Operand.tmp 84) (Operand.const (Value.bool false)), type := 4, pos := "law.go:66", after := #[{ on := 13, ground := Ground.data }, { on := 22, ground := Ground.data }], guard := none } : Oper)) (v := .bool true) rfl (by kernel_rfl) (by kernel_rfl) (by kernel_rfl) (fun _ _ _ h => h) (Or.inl ⟨by rfl, ?_⟩) hS ?_
        · (intro w hSw; (try dsimp only at hSw); go_simp)
        (try simp only [Act.put, List.setIfInBounds_toArray, List.set_cons_zero, List.set_cons_succ])
        refine wpAnyH_take (i := 24) (oi := ({ dst := some 86, op := Op.move (Operand.tmp 85), type := 4, pos := "law.go:66", after := #[{ on := 23, ground := Ground.data }, { on := 13, ground := Ground.chain }], guard := none } : Oper)) (v := ?_) rfl (by kernel_rfl) (by kernel_rfl) (by kernel_rfl) (fun _ _ _ h => h) (Or.inl ⟨by rfl, ?_⟩) hS ?_
        rotate_left
        · (intro w hSw; (try dsimp only at hSw); go_simp; try with_reducible rfl)
        (try simp only [Act.put, List.setIfInBounds_toArray, List.set_cons_zero, List.set_cons_succ])
        refine wpAnyH_take (i := 25) (oi := ({ dst := some 87, op := Op.move (Operand.tmp 15), type := 4, pos := "law.go:66", after := #[{ on := 24, ground := Ground.guard }], guard := some (24, true) } : Oper)) (v := ?_) rfl (by kernel_rfl) (by kernel_rfl) (by kernel_rfl) (fun _ _ _ h => h) (Or.inl ⟨by rfl, ?_⟩) hS ?_
        rotate_left
        · (intro w hSw; (try dsimp only at hSw); go_simp; try with_reducible rfl)
        (try simp only [Act.put, List.setIfInBounds_toArray, List.set_cons_zero, List.set_cons_succ])
        refine wpAnyH_take (i := 26) (oi := ({ dst := some 88, op := Op.pick (Operand.tmp 86) (Operand.tmp 87) (Operand.const (Value.bool false)), type := 4, pos := "law.go:66", after := #[{ on := 24, ground := Ground.data }, { on := 25, ground := Ground.data }], guard := none } : Oper)) (v := .bool true) rfl (by kernel_rfl) (by kernel_rfl) (by kernel_rfl) (fun _ _ _ h => h) (Or.inl ⟨by rfl, ?_⟩) hS ?_
        · (intro w hSw; (try dsimp only at hSw); go_simp)
        (try simp only [Act.put, List.setIfInBounds_toArray, List.set_cons_zero, List.set_cons_succ])
        refine wpAnyH_take (i := 27) (oi := ({ dst := some 89, op := Op.move (Operand.tmp 88), type := 4, pos := "law.go:66", after := #[{ on := 26, ground := Ground.data }, { on := 24, ground := Ground.chain }], guard := none } : Oper)) (v := ?_) rfl (by kernel_rfl) (by kernel_rfl) (by kernel_rfl) (fun _ _ _ h => h) (Or.inl ⟨by rfl, ?_⟩) hS ?_
        rotate_left
        · (intro w hSw; (try dsimp only at hSw); go_simp; try with_reducible rfl)
        (try simp only [Act.put, List.setIfInBounds_toArray, List.set_cons_zero, List.set_cons_succ])
        refine wpAnyH_take (i := 28) (oi := ({ dst := some 90, op := Op.move (Operand.tmp 14), type := 3, pos := "law.go:66", after := #[{ on := 27, ground := Ground.guard }], guard := some (27, true) } : Oper)) (v := ?_) rfl (by kernel_rfl) (by kernel_rfl) (by kernel_rfl) (fun _ _ _ h => h) (Or.inl ⟨by rfl, ?_⟩) hS ?_
        rotate_left
        · (intro w hSw; (try dsimp only at hSw); go_simp; try with_reducible rfl)
        (try simp only [Act.put, List.setIfInBounds_toArray, List.set_cons_zero, List.set_cons_succ])
        refine wpAnyH_take (i := 29) (oi := ({ dst := some 91, op := Op.move (Operand.tmp 11), type := 3, pos := "law.go:66", after := #[{ on := 27, ground := Ground.guard }], guard := some (27, true) } : Oper)) (v := ?_) rfl (by kernel_rfl) (by kernel_rfl) (by kernel_rfl) (fun _ _ _ h => h) (Or.inl ⟨by rfl, ?_⟩) hS ?_
        rotate_left
        · (intro w hSw; (try dsimp only at hSw); go_simp; try with_reducible rfl)
        (try simp only [Act.put, List.setIfInBounds_toArray, List.set_cons_zero, List.set_cons_succ])
        refine wpAnyH_take (i := 30) (oi := ({ dst := some 92, op := Op.binOp BinOp.eql 3 (Operand.tmp 90) (Operand.tmp 91) 3, type := 4, pos := "law.go:66", after := #[{ on := 28, ground := Ground.data }, { on := 29, ground := Ground.data }, { on := 27, ground := Ground.guard }], guard := some (27, true) } : Oper)) (v := .bool true) rfl (by kernel_rfl) (by kernel_rfl) (by kernel_rfl) (fun _ _ _ h => h) (Or.inl ⟨by rfl, ?_⟩) hS ?_
        · (intro w hSw; (try dsimp only at hSw); go_simp)
        (try simp only [Act.put, List.setIfInBounds_toArray, List.set_cons_zero, List.set_cons_succ])
        refine wpAnyH_take (i := 31) (oi := ({ dst := some 93, op := Op.pick (Operand.tmp 89) (Operand.tmp 92) (Operand.const (Value.bool false)), type := 4, pos := "law.go:66", after := #[{ on := 27, ground := Ground.data }, { on := 30, ground := Ground.data }], guard := none } : Oper)) (v := .bool true) rfl (by kernel_rfl) (by kernel_rfl) (by kernel_rfl) (fun _ _ _ h => h) (Or.inl ⟨by rfl, ?_⟩) hS ?_
        · (intro w hSw; (try dsimp only at hSw); go_simp)
        (try simp only [Act.put, List.setIfInBounds_toArray, List.set_cons_zero, List.set_cons_succ])
        refine wpAnyH_take (i := 32) (oi := ({ dst := some 94, op := Op.move (Operand.tmp 93), type := 4, pos := "law.go:66", after := #[{ on := 31, ground := Ground.data }, { on := 27, ground := Ground.chain }], guard := none } : Oper)) (v := ?_) rfl (by kernel_rfl) (by kernel_rfl) (by kernel_rfl) (fun _ _ _ h => h) (Or.inl ⟨by rfl, ?_⟩) hS ?_
        rotate_left
        · (intro w hSw; (try dsimp only at hSw); go_simp; try with_reducible rfl)
        (try simp only [Act.put, List.setIfInBounds_toArray, List.set_cons_zero, List.set_cons_succ])
        refine wpAnyH_take (i := 33) (oi := ({ dst := some 95, op := Op.move (Operand.tmp 13), type := 26, pos := "law.go:66", after := #[{ on := 32, ground := Ground.guard }], guard := some (32, true) } : Oper)) (v := ?_) rfl (by kernel_rfl) (by kernel_rfl) (by kernel_rfl) (fun _ _ _ h => h) (Or.inl ⟨by rfl, ?_⟩) hS ?_
        rotate_left
        · (intro w hSw; (try dsimp only at hSw); go_simp; try with_reducible rfl)
        (try simp only [Act.put, List.setIfInBounds_toArray, List.set_cons_zero, List.set_cons_succ])
        refine wpAnyH_take (i := 34) (oi := ({ dst := some 96, op := Op.convert 26 9 (Operand.tmp 95), type := 9, pos := "law.go:66", after := #[{ on := 33, ground := Ground.data }, { on := 32, ground := Ground.guard }], guard := some (32, true) } : Oper)) (v := .string s2) rfl (by kernel_rfl) (by kernel_rfl) (by kernel_rfl) (fun _ _ _ h => h) (Or.inl ⟨by rfl, ?_⟩) hS ?_
        · (intro w hSw; (try dsimp only at hSw); have z := K4.out w hSw; go_simp)
        (try simp only [Act.put, List.setIfInBounds_toArray, List.set_cons_zero, List.set_cons_succ])
        refine wpAnyH_take (i := 35) (oi := ({ dst := some 97, op := Op.move (Operand.tmp 10), type := 26, pos := "law.go:66", after := #[{ on := 32, ground := Ground.guard }], guard := some (32, true) } : Oper)) (v := ?_) rfl (by kernel_rfl) (by kernel_rfl) (by kernel_rfl) (fun _ _ _ h => h) (Or.inl ⟨by rfl, ?_⟩) hS ?_
        rotate_left
        · (intro w hSw; (try dsimp only at hSw); go_simp; try with_reducible rfl)
        (try simp only [Act.put, List.setIfInBounds_toArray, List.set_cons_zero, List.set_cons_succ])
        refine wpAnyH_take (i := 36) (oi := ({ dst := some 98, op := Op.convert 26 9 (Operand.tmp 97), type := 9, pos := "law.go:66", after := #[{ on := 35, ground := Ground.data }, { on := 32, ground := Ground.guard }], guard := some (32, true) } : Oper)) (v := .string s2) rfl (by kernel_rfl) (by kernel_rfl) (by kernel_rfl) (fun _ _ _ h => h) (Or.inl ⟨by rfl, ?_⟩) hS ?_
        · (intro w hSw; (try dsimp only at hSw); have z := K3.out w hSw; go_simp)
        (try simp only [Act.put, List.setIfInBounds_toArray, List.set_cons_zero, List.set_cons_succ])
        refine wpAnyH_take (i := 37) (oi := ({ dst := some 99, op := Op.binOp BinOp.eql 9 (Operand.tmp 96) (Operand.tmp 98) 9, type := 4, pos := "law.go:66", after := #[{ on := 34, ground := Ground.data }, { on := 36, ground := Ground.data }, { on := 32, ground := Ground.guard }], guard := some (32, true) } : Oper)) (v := .bool true) rfl (by kernel_rfl) (by kernel_rfl) (by kernel_rfl) (fun _ _ _ h => h) (Or.inl ⟨by rfl, ?_⟩) hS ?_
        · (intro w hSw; (try dsimp only at hSw); go_simp)
        (try simp only [Act.put, List.setIfInBounds_toArray, List.set_cons_zero, List.set_cons_succ])
        refine wpAnyH_take (i := 38) (oi := ({ dst := some 100, op := Op.pick (Operand.tmp 94) (Operand.tmp 99) (Operand.const (Value.bool false)), type := 4, pos := "law.go:66", after := #[{ on := 32, ground := Ground.data }, { on := 37, ground := Ground.data }], guard := none } : Oper)) (v := .bool true) rfl (by kernel_rfl) (by kernel_rfl) (by kernel_rfl) (fun _ _ _ h => h) (Or.inl ⟨by rfl, ?_⟩) hS ?_
        · (intro w hSw; (try dsimp only at hSw); go_simp)
        (try simp only [Act.put, List.setIfInBounds_toArray, List.set_cons_zero, List.set_cons_succ])
        refine wpAnyH_take (i := 39) (oi := ({ dst := some 101, op := Op.move (Operand.tmp 100), type := 4, pos := "law.go:66", after := #[{ on := 38, ground := Ground.data }, { on := 32, ground := Ground.chain }], guard := none } : Oper)) (v := ?_) rfl (by kernel_rfl) (by kernel_rfl) (by kernel_rfl) (fun _ _ _ h => h) (Or.inl ⟨by rfl, ?_⟩) hS ?_
        rotate_left
        · (intro w hSw; (try dsimp only at hSw); go_simp; try with_reducible rfl)
        (try simp only [Act.put, List.setIfInBounds_toArray, List.set_cons_zero, List.set_cons_succ])
        refine rg_one 40 ({ dst := some 102, op := Op.call { callee := Callee.value (Operand.func 7), args := #[], argTypes := #[] }, type := 4, pos := "law.go:66", after := #[{ on := 39, ground := Ground.chain }, { on := 39, ground := Ground.guard }], guard := some (39, true) } : Oper) (by kernel_rfl) rfl (fun K hK => ?_)
        go_simp
        (go_at_call 7; (with_reducible refine (awake_any _).mono ?_); rintro e w9 ⟨rfl, hb⟩; have hN := bch hS hb; have HB9 := Lib.hid (bch HW5.out hN))
        refine hK.out _ _ ?_ (fun hS1 => ?_)
        · (exact hN)
        clear hK K hS; have hS := hS1; clear hS1
        (try simp only [Act.put, List.setIfInBounds_toArray, List.set_cons_zero, List.set_cons_succ])
        refine wpAnyH_take (i := 41) (oi := ({ dst := some 103, op := Op.pick (Operand.tmp 101) (Operand.tmp 102) (Operand.const (Value.bool false)), type := 4, pos := "law.go:66", after := #[{ on := 39, ground := Ground.data }, { on := 40, ground := Ground.data }], guard := none } : Oper)) (v := ?_) rfl (by kernel_rfl) (by kernel_rfl) (by kernel_rfl) (fun _ _ _ h => h) (Or.inl ⟨by rfl, ?_⟩) hS ?_
        rotate_left
        · (intro w hSw; (try dsimp only at hSw); go_simp; try with_reducible rfl)
        (try simp only [Act.put, List.setIfInBounds_toArray, List.set_cons_zero, List.set_cons_succ])
        refine wpAnyH_take (i := 42) (oi := ({ dst := some 6, op := Op.assign (Operand.tmp 103), type := 4, pos := "law.go:66", after := #[{ on := 41, ground := Ground.data }, { on := 40, ground := Ground.chain }, { on := 0, ground := Ground.phase }, { on := 1, ground := Ground.phase }, { on := 2, ground := Ground.phase }, { on := 3, ground := Ground.phase }, { on := 4, ground := Ground.phase }, { on := 5, ground := Ground.phase }, { on := 6, ground := Ground.phase }, { on := 7, ground := Ground.phase }, { on := 8, ground := Ground.phase }, { on := 9, ground := Ground.phase }, { on := 10, ground := Ground.phase }, { on := 11, ground := Ground.phase }, { on := 12, ground := Ground.phase }, { on := 13, ground := Ground.phase }, { on := 14, ground := Ground.phase }, { on := 15, ground := Ground.phase }, { on := 16, ground := Ground.phase }, { on := 17, ground := Ground.phase }, { on := 18, ground := Ground.phase }, { on := 19, ground := Ground.phase }, { on := 20, ground := Ground.phase }, { on := 21, ground := Ground.phase }, { on := 22, ground := Ground.phase }, { on := 23, ground := Ground.phase }, { on := 24, ground := Ground.phase }, { on := 25, ground := Ground.phase }, { on := 26, ground := Ground.phase }, { on := 27, ground := Ground.phase }, { on := 28, ground := Ground.phase }, { on := 29, ground := Ground.phase }, { on := 30, ground := Ground.phase }, { on := 31, ground := Ground.phase }, { on := 32, ground := Ground.phase }, { on := 33, ground := Ground.phase }, { on := 34, ground := Ground.phase }, { on := 35, ground := Ground.phase }, { on := 36, ground := Ground.phase }, { on := 37, ground := Ground.phase }, { on := 38, ground := Ground.phase }, { on := 39, ground := Ground.phase }, { on := 40, ground := Ground.phase }, { on := 41, ground := Ground.phase }], guard := none } : Oper)) (v := ?_) rfl (by kernel_rfl) (by kernel_rfl) (by kernel_rfl) (fun _ _ _ h => h) (Or.inl ⟨by rfl, ?_⟩) hS ?_
        rotate_left
        · (intro w hSw; (try dsimp only at hSw); go_simp; try with_reducible rfl)
        (try simp only [Act.put, List.setIfInBounds_toArray, List.set_cons_zero, List.set_cons_succ])
        refine wpAnyH_done (by kernel_rfl) ?_ _
        go_wp2
        go_ret
        exact ⟨rfl, HB9.out⟩
      | false =>
        have hf2 : fitsF (ls ++ [z]) = false := by rw [hfs, hf, hft]; rfl
        have HP : Hid (∀ w, Tab w → RL .u8 w (.slice la N lc) N ls → Calls Tryd.prog 8 #[.int .u64 ep, .slice la N lc] w _) := Lib.hid fun w q1 q2 => body_yes (HB0.out w q1 q2) hf
        have HQ : Hid (∀ w v, Tab w → RL .u8 w v (N + 1) (ls ++ [z]) → Calls Tryd.prog 8 #[.int .u64 ep, v] w _) := Lib.hid fun w v q1 q2 => body_not (HB2.out w v q1 q2) hf2
        generalize bodyF (ep % 4294967296) ls = bd at *
        generalize endF ls = en at *
        clear hf hf2 hfs hes hbs HB0 HB2 HBL HBL2 hel hrv hll hlb hlb2 hzb ht hrl hrm hft
        go_enter Tryd.func5, Tryd.ntmps5
        go_wp2_with (first
          | (go_at_call 6; (with_reducible refine (HFW.out _).mono ?_); rintro e w0 ⟨rfl, rfl⟩)
          | (at_builtin; refine wpl_appv rfl (.tmp 31) (.tmp 33) 23 rfl 26 (.slice none 0 0) 24 Tryd.underlying23 Tryd.info_sl rfl W.heap.size _ N es rfl (HO2.out.alloc _) _ 1 [.slice ma m mc] rfl (rv_one w2 _) (by simp [Value.oneCell']) (by omega) (by omega) (by have := HW2.out.size; simp; omega) ?_; intro v3 w3 HO3 HG3; have HW3 : Hid (Below W.heap.size W w3) := Lib.hid ((HW2.out.alloc HW2.out.size _).grown HG3.out (by have := HW2.out.size; simp; omega) (fun q hq => (HO2.out.lt q hq).1)); have HQ3 := Lib.hid (HQ.out w3 v3 (HT.out.keep HW3.out) (HGR.out _ _ _ HW3.out HO3.out)))
          | (at_builtin; refine wpl_appv rfl (.tmp 29) (.tmp 30) 23 rfl 26 (.slice none 0 0) 24 Tryd.underlying23 Tryd.info_sl rfl W.heap.size (.slice (some ⟨w1.heap.size, 0, none⟩) 0 0) 0 [] rfl (own_none rfl HW1.out.size) _ N es rfl ((HRV.out.keep HW1.out).keep (balloc w1 _)) HES.out (by omega) (by omega) (by have := HW1.out.size; simp; omega) ?_; intro v2 w2 HO2 HG2; rw [Nat.zero_add, List.nil_append] at HO2; obtain ⟨a2, c2, rfl⟩ := own_form HO2.out; have HW2 : Hid (Below W.heap.size W w2) := Lib.hid ((HW1.out.alloc HW1.out.size _).grown HG2.out (by have := HW1.out.size; simp; omega) (fun q hq => by have := HW1.out.size; simp [Value.ownBlock] at hq; omega)); skip)
          | (go_at_call 8; (with_reducible refine (HP.out _ HT.out HRL.out).mono ?_); rintro e w1 ⟨g1, rfl, _, _, hb⟩; have HW1 := Lib.hid hb; clear hb)
          | (go_at_call 8; (with_reducible refine (HQ3.out).mono ?_); rintro e w4 ⟨rfl, hb⟩; have HW4 := Lib.hid (bch HW3.out hb); clear hb)
          | (go_at_call 7; (with_reducible refine (awake_any _).mono ?_); rintro e w9 ⟨rfl, hb⟩; have HB9 := Lib.hid (bch HW4.out hb); clear hb))
        go_ret
        exact ⟨rfl, HB9.out⟩
    | false =>
      have hf2 : fitsF (ls ++ [z]) = false := by rw [hfs, hf]; rfl
      have HP : Hid (∀ w, Tab w → RL .u8 w (.slice la N lc) N ls → Calls Tryd.prog 8 #[.int .u64 ep, .slice la N lc] w _) := Lib.hid fun w q1 q2 => body_not (HB0.out w q1 q2) hf
      have HQ : Hid (∀ w v, Tab w → RL .u8 w v (N + 1) (ls ++ [z]) → Calls Tryd.prog 8 #[.int .u64 ep, v] w _) := Lib.hid fun w v q1 q2 => body_not (HB2.out w v q1 q2) hf2
      clear hf hf2 hfs hes hbs HB0 HB2 HBL HBL2 hel hrv hll hlb hlb2 hzb ht hrl hrm HEL
      go_enter Tryd.func5, Tryd.ntmps5
      go_wp2_with (first
        | (go_at_call 6; (with_reducible refine (HFW.out _).mono ?_); rintro e w0 ⟨rfl, rfl⟩)
        | (at_builtin; refine wpl_appv rfl (.tmp 31) (.tmp 33) 23 rfl 26 (.slice none 0 0) 24 Tryd.underlying23 Tryd.info_sl rfl W.heap.size _ N es rfl (HO2.out.alloc _) _ 1 [.slice ma m mc] rfl (rv_one w2 _) (by simp [Value.oneCell']) (by omega) (by omega) (by have := HW2.out.size; simp; omega) ?_; intro v3 w3 HO3 HG3; have HW3 : Hid (Below W.heap.size W w3) := Lib.hid ((HW2.out.alloc HW2.out.size _).grown HG3.out (by have := HW2.out.size; simp; omega) (fun q hq => (HO2.out.lt q hq).1)); have HQ3 := Lib.hid (HQ.out w3 v3 (HT.out.keep HW3.out) (HGR.out _ _ _ HW3.out HO3.out)))
        | (at_builtin; refine wpl_appv rfl (.tmp 29) (.tmp 30) 23 rfl 26 (.slice none 0 0) 24 Tryd.underlying23 Tryd.info_sl rfl W.heap.size (.slice (some ⟨w1.heap.size, 0, none⟩) 0 0) 0 [] rfl (own_none rfl HW1.out.size) _ N es rfl ((HRV.out.keep HW1.out).keep (balloc w1 _)) HES.out (by omega) (by omega) (by have := HW1.out.size; simp; omega) ?_; intro v2 w2 HO2 HG2; rw [Nat.zero_add, List.nil_append] at HO2; obtain ⟨a2, c2, rfl⟩ := own_form HO2.out; have HW2 : Hid (Below W.heap.size W w2) := Lib.hid ((HW1.out.alloc HW1.out.size _).grown HG2.out (by have := HW1.out.size; simp; omega) (fun q hq => by have := HW1.out.size; simp [Value.ownBlock] at hq; omega)); skip)
        | (go_at_call 8; (with_reducible refine (HP.out _ HT.out HRL.out).mono ?_); rintro e w1 ⟨rfl, hb⟩; have HW1 := Lib.hid hb; clear hb)
        | (go_at_call 8; (with_reducible refine (HQ3.out).mono ?_); rintro e w4 ⟨rfl, hb⟩; have HW4 := Lib.hid (bch HW3.out hb); clear hb)
        | (go_at_call 7; (with_reducible refine (awake_any _).mono ?_); rintro e w9 ⟨rfl, hb⟩; have HB9 := Lib.hid (bch HW4.out hb); clear hb))
      go_ret
      exact ⟨rfl, HB9.out⟩
  · rw [decide_eq_false hN] at HFW
    clear hlb ht hrl hrm
    go_enter Tryd.func5, Tryd.ntmps5
    go_wp2_with (first
      | (go_at_call 6; (with_reducible refine (HFW.out _).mono ?_); rintro e w0 ⟨rfl, rfl⟩)
      | (go_at_call 7; (with_reducible refine (awake_any _).mono ?_); rintro e w9 ⟨rfl, hb⟩; have HB9 := Lib.hid hb; clear hb))
    go_ret
    exact ⟨rfl, HB9.out⟩
end Go.Proofs.YtjlnceldnbpapaaDoor
