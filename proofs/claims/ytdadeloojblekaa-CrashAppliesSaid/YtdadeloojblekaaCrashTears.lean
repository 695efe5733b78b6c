/-
  WHAT THE DOCUMENT'S ANSWERS OF LAYER 9 (crash) ANSWER: the reference's Tears, Same. No condition.
-/
import Derived.Test.YtdadeloojblekaaCrashList
namespace Go.Proofs.Ytdadeloojblekaa
open Go.RowKit
theorem allN_at {m k : Nat} (h : k < m) : (allN m)[k]? = some (oneC k) := by unfold allN; rw [List.getElem?_map, List.getElem?_range h]; rfl
def tearC (k : Nat) (cut : Int) (i : Nat) : AC := ⟨1, [(k : Int)], (i : Int), cut⟩
/-- those of the first k crashes, m each -/
def tearsN (m : Nat) (cut : Int) (k : Nat) : List AC := (List.range k).flatMap fun k => (List.range m).map (tearC k cut)
theorem tearsN_succ (m : Nat) (cut : Int) (k : Nat) : tearsN m cut (k + 1) = tearsN m cut k ++ (List.range m).map (tearC k cut) := by
  simp [tearsN, List.range_succ]
theorem tears_step (m : Nat) (cut : Int) (k i : Nat) : tearsN m cut k ++ (List.range (i + 1)).map (tearC k cut) = (tearsN m cut k ++ (List.range i).map (tearC k cut)) ++ [tearC k cut i] := by
  rw [List.range_succ, List.map_append, List.append_assoc]; rfl
theorem tearsN_length (m : Nat) (cut : Int) : ∀ k, (tearsN m cut k).length = k * m
  | 0 => by simp [tearsN]
  | k + 1 => by rw [tearsN_succ, List.length_append, tearsN_length m cut k]; simp; rw [Nat.add_mul]; omega
set_option maxRecDepth 8000 in
set_option maxHeartbeats 2000000 in
theorem rtears_any (n cut : Int) (hn : I63 n) (w : World) :
    Calls Try.prog 19 #[.int .i64 n, .int .i64 cut] w fun e w' => ∃ v', e = .returned v' ∧ CRs w' v' (tearsN (lim n 6) cut (2 ^ lim n 6)) ∧ Below w.heap.size w w' := by
  have HL := Lib.hid fun w => limit_any n 6 hn (by omega) w
  obtain ⟨kk, hkk⟩ : ∃ kk : Nat, lim n 6 = kk := ⟨_, rfl⟩
  have hkk2 : min (max n 0) 6 = (kk : Int) := by unfold lim at hkk; omega
  have hk6 : kk ≤ 6 := by omega
  have hk6i : (kk : Int) ≤ 6 := by omega
  rw [hkk2] at HL
  have HA := Lib.hid fun w => rall_any (kk : Int) (by unfold I63; omega) w
  have hcn : cntA (kk : Int) 8 = 2 ^ kk := by unfold cntA lim; congr 1; omega
  rw [hcn] at HA
  rw [hkk]
  have hm : 2 ^ kk ≤ 64 := Nat.pow_le_pow_right (by omega : 0 < 2) hk6
  generalize 2 ^ kk = m at *
  have hm2 : (m : Int) ≤ 64 := by omega
  clear hkk hkk2 hcn
  go_enter Try.func19, Try.ntmps19
  go_wp2_with (first
    | (go_at_call 26; (with_reducible refine (HL.out _).mono ?_); rintro e w' ⟨rfl, rfl⟩)
    | (go_at_call 17; (with_reducible refine (HA.out _).mono ?_); rintro e w1 ⟨v1, rfl, hv1, hb1⟩; have HV := Lib.hid hv1; have HB1 := Lib.hid hb1; clear hv1 hb1))
  obtain ⟨a1, c1, rfl, hc1, hc2, _⟩ := HV.out.form
  rw [show (allN m).length = m from by simp [allN]] at HV hc1 ⊢
  go_loopw [5, 7] (fun x kv wr => ∃ (k : Nat) (es : List (List Value)), kv = .int .i64 k ∧ k ≤ m ∧ Hid (wr.ownsRow w1.heap.size 25 3 x (k * kk) es.flatten) ∧ Hid (CrF w1 es (tearsN kk cut k)) ∧ Hid (Below w1.heap.size w1 wr)) (fun _ kv _ => m - (intOf kv).toNat)
  case atStart => exact ⟨0, [], rfl, by omega, Lib.hid (by rw [Nat.zero_mul]; exact World.ownsRow_nil _ _ _ _), Lib.hid (by simpa [tearsN] using CrF.nil w1), Lib.hid (Below.refl _ _)⟩
  case round =>
    obtain ⟨k, es, rfl, hk, HO, HF, HB⟩ := hrel
    obtain ⟨wo, hwo⟩ : ∃ wo, wo = wr := ⟨_, rfl⟩
    subst hwo
    by_cases hlt : (k : Int) < (m : Int)
    · obtain ⟨b, off, ak, ck, rfl, z0, z1, z2, hr⟩ := HV.out.at_ k (oneC k) (allN_at (by omega))
      have HR := Lib.hid hr
      have HZ0 := Lib.hid z0
      simp only [oneC] at HZ0
      clear z0 z1 z2 hr
      have hkm : k * kk ≤ 64 * 6 := Nat.mul_le_mul (by omega) hk6
      have HKM := Lib.hid hkm
      clear hkm
      go_wp2
      go_loopw [5, 8] (fun x iv wr => ∃ (i : Nat) (es : List (List Value)), iv = .int .i64 i ∧ i ≤ kk ∧ Hid (wr.ownsRow w1.heap.size 25 3 x (k * kk + i) es.flatten) ∧ Hid (CrF w1 es (tearsN kk cut k ++ (List.range i).map (tearC k cut))) ∧ Hid (Below w1.heap.size w1 wr)) (fun _ iv _ => kk - (intOf iv).toNat)
      case atStart => exact ⟨0, es, rfl, by omega, HO, Lib.hid (by simpa using HF.out), HB⟩
      case round =>
        obtain ⟨i, es, rfl, hi, HO, HF, HB⟩ := hrel
        by_cases hli : (i : Int) < (kk : Int)
        · have z0 := cell_keep HB.out HZ0.out
          have HB2 := Lib.hid (below_alloc wr (.cells #[.slice ak 1 ck, .int .i64 i, .int .i64 cut] 25))
          go_wp2_with (first
            | (go_at_call 26; (with_reducible refine (HL.out _).mono ?_); rintro e w' ⟨rfl, rfl⟩)
            | (at_builtin; refine wpl_app_crash rfl (.tmp 24) (.tmp 33) rfl w1.heap.size _ (k * kk + i) es rfl (Lib.hid (own_keep HO.out HB2.out)) wr.heap.size [.slice ak 1 ck, .int .i64 i, .int .i64 cut] rfl (heap_alloc_last wr _) rfl (by simp [Value.oneCell']) (by have := HKM.out; omega) w1.heap.size w1 (Lib.hid (chain HB.out HB2.out)) (Nat.le_refl _) (Nat.le_trans HB.out.size HB2.out.size) ?_; intro v9 w9 HO9 HB9 _))
          go_roundw
          case rel => exact ⟨i + 1, _, by go_num, by omega, Lib.hid HO9.out, Lib.hid (by rw [tears_step]; exact HF.out.snoc ⟨_, rfl, HR.out⟩), HB9⟩
          case measure => simp [intOf]; omega
        · have hq : i = kk := by omega
          subst hq
          go_wp2_with (first
            | (go_at_call 26; (with_reducible refine (HL.out _).mono ?_); rintro e w' ⟨rfl, rfl⟩))
          go_roundw
          case rel => exact ⟨k + 1, es, by go_num, by omega, Lib.hid (by rw [Nat.add_mul, Nat.one_mul]; exact HO.out), Lib.hid (by rw [tearsN_succ]; exact HF.out), HB⟩
          case measure => simp [intOf]; omega
    · have hq : k = m := by omega
      subst hq
      go_wp2
      go_ret
      refine ⟨_, rfl, ⟨es, ?_, HF.out.kin (Kin.below HB.out)⟩, chain HB1.out HB.out⟩
      rw [tearsN_length]
      exact CS.own HO.out
theorem conv_bytes {w : World} {v : Value} {n : Nat} {zs : List Int} (h : RI .u8 w v n zs) : (convert 23 9 v).run Try.prog w = .ok (.string (strOfNums zs)) w :=
  conv_of Try.underlying23 Try.underlying5 Try.underlying9 h
set_option maxRecDepth 8000 in
set_option maxHeartbeats 4000000 in
/-- two lists of the same crashes are the same -/
theorem csame_true (v1 v2 : Value) (l : List AC) (w : World) (h1 : CRs w v1 l) (h2 : CRs w v2 l) (hl : l.length ≤ 1000000) :
    Calls Try.prog 16 #[v1, v2] w fun e w' => e = .returned (.bool true) ∧ Below w.heap.size w w' := by
  have H1 := Lib.hid h1
  have H2 := Lib.hid h2
  obtain ⟨a1, c1, rfl, hc1, hm1, _⟩ := h1.form
  obtain ⟨a2, c2, rfl, hc2, hm2, _⟩ := h2.form
  obtain ⟨n, hn⟩ : ∃ n, l.length = n := ⟨_, rfl⟩
  rw [hn] at H1 H2 hc1 hc2 hl ⊢
  have HN := Lib.hid hn
  clear h1 h2 hn
  go_enter Try.func16, Try.ntmps16
  go_wp2
  go_loopw [5] (fun iv wr => ∃ i : Nat, iv = .int .i64 i ∧ i ≤ n ∧ Hid (Below w.heap.size w wr)) (fun iv _ => n - (intOf iv).toNat)
  case atStart => exact ⟨0, rfl, by omega, Lib.hid (Below.refl _ _)⟩
  case round =>
    obtain ⟨i, rfl, hi, HB⟩ := hrel
    by_cases hlt : (i : Int) < (n : Int)
    · obtain ⟨c, hc⟩ : ∃ c, l[i]? = some c := ⟨_, List.getElem?_eq_getElem (by rw [HN.out]; omega)⟩
      obtain ⟨b1, o1, ak1, ck1, rfl, x0, x1, x2, r1⟩ := H1.out.at_ i c hc
      obtain ⟨b2, o2, ak2, ck2, rfl, y0, y1, y2, r2⟩ := H2.out.at_ i c hc
      have HX := Lib.hid (And.intro x0 (And.intro x1 (And.intro x2 (And.intro y0 (And.intro y1 y2)))))
      have HR1 := Lib.hid r1
      have HR2 := Lib.hid r2
      clear x0 x1 x2 y0 y1 y2 r1 r2 hc
      go_wp2_with fail
      refine wp_region_held_drew (S := (fun W' => Below w.heap.size w W')) (by kernel_rfl) (HB.out.drew) (fun hS => ?_)
      refine wpAnyH_take (i := 0) (oi := ({ dst := some 17, op := Op.move (Operand.tmp 0), type := 38, pos := "ref.go:31", after := #[], guard := none } : Oper)) (v := ?_) rfl (by kernel_rfl) (by kernel_rfl) (by kernel_rfl) (fun _ _ _ h => h) (Or.inl ⟨by rfl, ?_⟩) hS ?_
      rotate_left
      · (intro w hSw; (try dsimp only at hSw); go_simp; try with_reducible rfl)
      (try simp only [Act.put, List.setIfInBounds_toArray, List.set_cons_zero, List.set_cons_succ])
      refine wpAnyH_take (i := 1) (oi := ({ dst := some 18, op := Op.move (Operand.tmp 5), type := 3, pos := "ref.go:31", after := #[], guard := none } : Oper)) (v := ?_) rfl (by kernel_rfl) (by kernel_rfl) (by kernel_rfl) (fun _ _ _ h => h) (Or.inl ⟨by rfl, ?_⟩) hS ?_
      rotate_left
      · (intro w hSw; (try dsimp only at hSw); go_simp; try with_reducible rfl)
      (try simp only [Act.put, List.setIfInBounds_toArray, List.set_cons_zero, List.set_cons_succ])
      refine wpAnyH_take (i := 2) (oi := ({ dst := some 19, op := Op.indexAddr 38 (Operand.tmp 17) (Operand.tmp 18), type := 0, pos := "ref.go:31", after := #[{ on := 0, ground := Ground.data }, { on := 1, ground := Ground.data }], guard := none } : Oper)) (v := ?_) rfl (by kernel_rfl) (by kernel_rfl) (by kernel_rfl) (fun _ _ _ h => h) (Or.inl ⟨by rfl, ?_⟩) hS ?_
      rotate_left
      · (intro w hSw; (try dsimp only at hSw); go_simp; try with_reducible rfl)
      (try simp only [Act.put, List.setIfInBounds_toArray, List.set_cons_zero, List.set_cons_succ])
      refine wpAnyH_take (i := 3) (oi := ({ dst := some 20, op := Op.fieldAddr 25 (Operand.tmp 19) 0, type := 0, pos := "ref.go:31", after := #[{ on := 2, ground := Ground.data }], guard := none } : Oper)) (v := ?_) rfl (by kernel_rfl) (by kernel_rfl) (by kernel_rfl) (fun _ _ _ h => h) (Or.inl ⟨by rfl, ?_⟩) hS ?_
      rotate_left
      · (intro w hSw; (try dsimp only at hSw); go_simp; try with_reducible rfl)
      (try simp only [Act.put, List.setIfInBounds_toArray, List.set_cons_zero, List.set_cons_succ])
      refine wpAnyH_take (i := 4) (oi := ({ dst := some 21, op := Op.load 23 (Operand.tmp 20), type := 23, pos := "ref.go:31", after := #[{ on := 3, ground := Ground.data }], guard := none } : Oper)) (v := ?_) rfl (by kernel_rfl) (by kernel_rfl) (by kernel_rfl) (fun _ _ _ h => h) (Or.inl ⟨by rfl, ?_⟩) hS ?_
      rotate_left
      · (intro w hSw; (try dsimp only at hSw); obtain ⟨x0, x1, x2, y0, y1, y2⟩ := HX.out; have x0' := cell_keep hSw x0; have x1' := cell_keep hSw x1; have x2' := cell_keep hSw x2; have y0' := cell_keep hSw y0; have y1' := cell_keep hSw y1; have y2' := cell_keep hSw y2; go_simp; try with_reducible rfl)
      (try simp only [Act.put, List.setIfInBounds_toArray, List.set_cons_zero, List.set_cons_succ])
      refine wpAnyH_take (i := 5) (oi := ({ dst := some 22, op := Op.convert 23 9 (Operand.tmp 21), type := 9, pos := "ref.go:31", after := #[{ on := 4, ground := Ground.data }], guard := none } : Oper)) (v := ?_) rfl (by kernel_rfl) (by kernel_rfl) (by kernel_rfl) (fun _ _ _ h => h) (Or.inl ⟨by rfl, ?_⟩) hS ?_
      rotate_left
      · (intro w hSw; (try dsimp only at hSw); have hq := conv_bytes (HR1.out.keep hSw); go_simp; try with_reducible rfl)
      (try simp only [Act.put, List.setIfInBounds_toArray, List.set_cons_zero, List.set_cons_succ])
      refine wpAnyH_take (i := 6) (oi := ({ dst := some 23, op := Op.move (Operand.tmp 1), type := 38, pos := "ref.go:31", after := #[], guard := none } : Oper)) (v := ?_) rfl (by kernel_rfl) (by kernel_rfl) (by kernel_rfl) (fun _ _ _ h => h) (Or.inl ⟨by rfl, ?_⟩) hS ?_
      rotate_left
      · (intro w hSw; (try dsimp only at hSw); go_simp; try with_reducible rfl)
      (try simp only [Act.put, List.setIfInBounds_toArray, List.set_cons_zero, List.set_cons_succ])
      refine wpAnyH_take (i := 7) (oi := ({ dst := some 24, op := Op.move (Operand.tmp 5), type := 3, pos := "ref.go:31", after := #[], guard := none } : Oper)) (v := ?_) rfl (by kernel_rfl) (by kernel_rfl) (by kernel_rfl) (fun _ _ _ h => h) (Or.inl ⟨by rfl, ?_⟩) hS ?_
      rotate_left
      · (intro w hSw; (try dsimp only at hSw); go_simp; try with_reducible rfl)
      (try simp only [Act.put, List.setIfInBounds_toArray, List.set_cons_zero, List.set_cons_succ])
      refine wpAnyH_take (i := 8) (oi := ({ dst := some 25, op := Op.indexAddr 38 (Operand.tmp 23) (Operand.tmp 24), type := 0, pos := "ref.go:31", after := #[{ on := 6, ground := Ground.data }, { on := 7, ground := Ground.data }], guard := none } : Oper)) (v := ?_) rfl (by kernel_rfl) (by kernel_rfl) (by kernel_rfl) (fun _ _ _ h => h) (Or.inl ⟨by rfl, ?_⟩) hS ?_
      rotate_left
      · (intro w hSw; (try dsimp only at hSw); go_simp; try with_reducible rfl)
      (try simp only [Act.put, List.setIfInBounds_toArray, List.set_cons_zero, List.set_cons_succ])
      refine wpAnyH_take (i := 9) (oi := ({ dst := some 26, op := Op.fieldAddr 25 (Operand.tmp 25) 0, type := 0, pos := "ref.go:31", after := #[{ on := 8, ground := Ground.data }], guard := none } : Oper)) (v := ?_) rfl (by kernel_rfl) (by kernel_rfl) (by kernel_rfl) (fun _ _ _ h => h) (Or.inl ⟨by rfl, ?_⟩) hS ?_
      rotate_left
      · (intro w hSw; (try dsimp only at hSw); go_simp; try with_reducible rfl)
      (try simp only [Act.put, List.setIfInBounds_toArray, List.set_cons_zero, List.set_cons_succ])
      refine wpAnyH_take (i := 10) (oi := ({ dst := some 27, op := Op.load 23 (Operand.tmp 26), type := 23, pos := "ref.go:31", after := #[{ on := 9, ground := Ground.data }], guard := none } : Oper)) (v := ?_) rfl (by kernel_rfl) (by kernel_rfl) (by kernel_rfl) (fun _ _ _ h => h) (Or.inl ⟨by rfl, ?_⟩) hS ?_
      rotate_left
      · (intro w hSw; (try dsimp only at hSw); obtain ⟨x0, x1, x2, y0, y1, y2⟩ := HX.out; have x0' := cell_keep hSw x0; have x1' := cell_keep hSw x1; have x2' := cell_keep hSw x2; have y0' := cell_keep hSw y0; have y1' := cell_keep hSw y1; have y2' := cell_keep hSw y2; go_simp; try with_reducible rfl)
      (try simp only [Act.put, List.setIfInBounds_toArray, List.set_cons_zero, List.set_cons_succ])
      refine wpAnyH_take (i := 11) (oi := ({ dst := some 28, op := Op.convert 23 9 (Operand.tmp 27), type := 9, pos := "ref.go:31", after := #[{ on := 10, ground := Ground.data }], guard := none } : Oper)) (v := ?_) rfl (by kernel_rfl) (by kernel_rfl) (by kernel_rfl) (fun _ _ _ h => h) (Or.inl ⟨by rfl, ?_⟩) hS ?_
      rotate_left
      · (intro w hSw; (try dsimp only at hSw); have hq := conv_bytes (HR2.out.keep hSw); go_simp; try with_reducible rfl)
      (try simp only [Act.put, List.setIfInBounds_toArray, List.set_cons_zero, List.set_cons_succ])
      refine wpAnyH_take (i := 12) (oi := ({ dst := some 29, op := Op.binOp BinOp.neq 9 (Operand.tmp 22) (Operand.tmp 28) 9, type := 4, pos := "ref.go:31", after := #[{ on := 5, ground := Ground.data }, { on := 11, ground := Ground.data }], guard := none } : Oper)) (v := ?_) rfl (by kernel_rfl) (by kernel_rfl) (by kernel_rfl) (fun _ _ _ h => h) (Or.inl ⟨by rfl, ?_⟩) hS ?_
      rotate_left
      · (intro w hSw; (try dsimp only at hSw); go_simp; try with_reducible rfl)
      (try simp only [Act.put, List.setIfInBounds_toArray, List.set_cons_zero, List.set_cons_succ])
      refine wpAnyH_take (i := 13) (oi := ({ dst := some 30, op := Op.move (Operand.tmp 29), type := 4, pos := "ref.go:31", after := #[{ on := 12, ground := Ground.data }], guard := none } : Oper)) (v := ?_) rfl (by kernel_rfl) (by kernel_rfl) (by kernel_rfl) (fun _ _ _ h => h) (Or.inl ⟨by rfl, ?_⟩) hS ?_
      rotate_left
      · (intro w hSw; (try dsimp only at hSw); go_simp; try with_reducible rfl)
      (try simp only [Act.put, List.setIfInBounds_toArray, List.set_cons_zero, List.set_cons_succ])
      refine wpAnyH_take (i := 14) (oi := ({ dst := some 31, op := Op.move (Operand.tmp 0), type := 38, pos := "ref.go:31", after := #[{ on := 13, ground := Ground.guard }], guard := some (13, false) } : Oper)) (v := ?_) rfl (by kernel_rfl) (by kernel_rfl) (by kernel_rfl) (fun _ _ _ h => h) (Or.inl ⟨by rfl, ?_⟩) hS ?_
      rotate_left
      · (intro w hSw; (try dsimp only at hSw); go_simp; try with_reducible rfl)
      (try simp only [Act.put, List.setIfInBounds_toArray, List.set_cons_zero, List.set_cons_succ])
      refine wpAnyH_take (i := 15) (oi := ({ dst := some 32, op := Op.move (Operand.tmp 5), type := 3, pos := "ref.go:31", after := #[{ on := 13, ground := Ground.guard }], guard := some (13, false) } : Oper)) (v := ?_) rfl (by kernel_rfl) (by kernel_rfl) (by kernel_rfl) (fun _ _ _ h => h) (Or.inl ⟨by rfl, ?_⟩) hS ?_
      rotate_left
      · (intro w hSw; (try dsimp only at hSw); go_simp; try with_reducible rfl)
      (try simp only [Act.put, List.setIfInBounds_toArray, List.set_cons_zero, List.set_cons_succ])
      refine wpAnyH_take (i := 16) (oi := ({ dst := some 33, op := Op.indexAddr 38 (Operand.tmp 31) (Operand.tmp 32), type := 0, pos := "ref.go:31", after := #[{ on := 14, ground := Ground.data }, { on := 15, ground := Ground.data }, { on := 13, ground := Ground.guard }], guard := some (13, false) } : Oper)) (v := ?_) rfl (by kernel_rfl) (by kernel_rfl) (by kernel_rfl) (fun _ _ _ h => h) (Or.inl ⟨by rfl, ?_⟩) hS ?_
      rotate_left
      · (intro w hSw; (try dsimp only at hSw); go_simp; try with_reducible rfl)
      (try simp only [Act.put, List.setIfInBounds_toArray, List.set_cons_zero, List.set_cons_succ])
      refine wpAnyH_take (i := 17) (oi := ({ dst := some 34, op := Op.fieldAddr 25 (Operand.tmp 33) 1, type := 0, pos := "ref.go:31", after := #[{ on := 16, ground := Ground.data }, { on := 13, ground := Ground.guard }], guard := some (13, false) } : Oper)) (v := ?_) rfl (by kernel_rfl) (by kernel_rfl) (by kernel_rfl) (fun _ _ _ h => h) (Or.inl ⟨by rfl, ?_⟩) hS ?_
      rotate_left
      · (intro w hSw; (try dsimp only at hSw); go_simp; try with_reducible rfl)
      (try simp only [Act.put, List.setIfInBounds_toArray, List.set_cons_zero, List.set_cons_succ])
      refine wpAnyH_take (i := 18) (oi := ({ dst := some 35, op := Op.load 3 (Operand.tmp 34), type := 3, pos := "ref.go:31", after := #[{ on := 17, ground := Ground.data }, { on := 13, ground := Ground.guard }], guard := some (13, false) } : Oper)) (v := ?_) rfl (by kernel_rfl) (by kernel_rfl) (by kernel_rfl) (fun _ _ _ h => h) (Or.inl ⟨by rfl, ?_⟩) hS ?_
      rotate_left
      · (intro w hSw; (try dsimp only at hSw); obtain ⟨x0, x1, x2, y0, y1, y2⟩ := HX.out; have x0' := cell_keep hSw x0; have x1' := cell_keep hSw x1; have x2' := cell_keep hSw x2; have y0' := cell_keep hSw y0; have y1' := cell_keep hSw y1; have y2' := cell_keep hSw y2; go_simp; try with_reducible rfl)
      (try simp only [Act.put, List.setIfInBounds_toArray, List.set_cons_zero, List.set_cons_succ])
      refine wpAnyH_take (i := 19) (oi := ({ dst := some 36, op := Op.move (Operand.tmp 1), type := 38, pos := "ref.go:31", after := #[{ on := 13, ground := Ground.guard }], guard := some (13, false) } : Oper)) (v := ?_) rfl (by kernel_rfl) (by kernel_rfl) (by kernel_rfl) (fun _ _ _ h => h) (Or.inl ⟨by rfl, ?_⟩) hS ?_
      rotate_left
      · (intro w hSw; (try dsimp only at hSw); go_simp; try with_reducible rfl)
      (try simp only [Act.put, List.setIfInBounds_toArray, List.set_cons_zero, List.set_cons_succ])
      refine wpAnyH_take (i := 20) (oi := ({ dst := some 37, op := Op.move (Operand.tmp 5), type := 3, pos := "ref.go:31", after := #[{ on := 13, ground := Ground.guard }], guard := some (13, false) } : Oper)) (v := ?_) rfl (by kernel_rfl) (by kernel_rfl) (by kernel_rfl) (fun _ _ _ h => h) (Or.inl ⟨by rfl, ?_⟩) hS ?_
      rotate_left
      · (intro w hSw; (try dsimp only at hSw); go_simp; try with_reducible rfl)
      (try simp only [Act.put, List.setIfInBounds_toArray, List.set_cons_zero, List.set_cons_succ])
      refine wpAnyH_take (i := 21) (oi := ({ dst := some 38, op := Op.indexAddr 38 (Operand.tmp 36) (Operand.tmp 37), type := 0, pos := "ref.go:31", after := #[{ on := 19, ground := Ground.data }, { on := 20, ground := Ground.data }, { on := 13, ground := Ground.guard }], guard := some (13, false) } : Oper)) (v := ?_) rfl (by kernel_rfl) (by kernel_rfl) (by kernel_rfl) (fun _ _ _ h => h) (Or.inl ⟨by rfl, ?_⟩) hS ?_
      rotate_left
      · (intro w hSw; (try dsimp only at hSw); go_simp; try with_reducible rfl)
      (try simp only [Act.put, List.setIfInBounds_toArray, List.set_cons_zero, List.set_cons_succ])
      refine wpAnyH_take (i := 22) (oi := ({ dst := some 39, op := Op.fieldAddr 25 (Operand.tmp 38) 1, type := 0, pos := "ref.go:31", after := #[{ on := 21, ground := Ground.data }, { on := 13, ground := Ground.guard }], guard := some (13, false) } : Oper)) (v := ?_) rfl (by kernel_rfl) (by kernel_rfl) (by kernel_rfl) (fun _ _ _ h => h) (Or.inl ⟨by rfl, ?_⟩) hS ?_
      rotate_left
      · (intro w hSw; (try dsimp only at hSw); go_simp; try with_reducible rfl)
      (try simp only [Act.put, List.setIfInBounds_toArray, List.set_cons_zero, List.set_cons_succ])
      refine wpAnyH_take (i := 23) (oi := ({ dst := some 40, op := Op.load 3 (Operand.tmp 39), type := 3, pos := "ref.go:31", after := #[{ on := 22, ground := Ground.data }, { on := 13, ground := Ground.guard }], guard := some (13, false) } : Oper)) (v := ?_) rfl (by kernel_rfl) (by kernel_rfl) (by kernel_rfl) (fun _ _ _ h => h) (Or.inl ⟨by rfl, ?_⟩) hS ?_
      rotate_left
      · (intro w hSw; (try dsimp only at hSw); obtain ⟨x0, x1, x2, y0, y1, y2⟩ := HX.out; have x0' := cell_keep hSw x0; have x1' := cell_keep hSw x1; have x2' := cell_keep hSw x2; have y0' := cell_keep hSw y0; have y1' := cell_keep hSw y1; have y2' := cell_keep hSw y2; go_simp; try with_reducible rfl)
      (try simp only [Act.put, List.setIfInBounds_toArray, List.set_cons_zero, List.set_cons_succ])
      refine wpAnyH_take (i := 24) (oi := ({ dst := some 41, op := Op.binOp BinOp.neq 3 (Operand.tmp 35) (Operand.tmp 40) 3, type := 4, pos := "ref.go:31", after := #[{ on := 18, ground := Ground.data }, { on := 23, ground := Ground.data }, { on := 13, ground := Ground.guard }], guard := some (13, false) } : Oper)) (v := ?_) rfl (by kernel_rfl) (by kernel_rfl) (by kernel_rfl) (fun _ _ _ h => h) (Or.inl ⟨by rfl, ?_⟩) hS ?_
      rotate_left
      · (intro w hSw; (try dsimp only at hSw); go_simp; try with_reducible rfl)
      (try simp only [Act.put, List.setIfInBounds_toArray, List.set_cons_zero, List.set_cons_succ])
      refine wpAnyH_take (i := 25) (oi := ({ dst := some 42, op := Op.pick (Operand.tmp 30) (Operand.const (Value.bool true)) (Operand.tmp 41), type := 4, pos := "ref.go:31", after := #[{ on := 13, ground := Ground.data }, { on := 24, ground := Ground.data }], guard := none } : Oper)) (v := ?_) rfl (by kernel_rfl) (by kernel_rfl) (by kernel_rfl) (fun _ _ _ h => h) (Or.inl ⟨by rfl, ?_⟩) hS ?_
      rotate_left
      · (intro w hSw; (try dsimp only at hSw); go_simp; try with_reducible rfl)
      (try simp only [Act.put, List.setIfInBounds_toArray, List.set_cons_zero, List.set_cons_succ])
      refine wpAnyH_take (i := 26) (oi := ({ dst := some 43, op := Op.move (Operand.tmp 42), type := 4, pos := "ref.go:31", after := #[{ on := 25, ground := Ground.data }, { on := 13, ground := Ground.chain }], guard := none } : Oper)) (v := ?_) rfl (by kernel_rfl) (by kernel_rfl) (by kernel_rfl) (fun _ _ _ h => h) (Or.inl ⟨by rfl, ?_⟩) hS ?_
      rotate_left
      · (intro w hSw; (try dsimp only at hSw); go_simp; try with_reducible rfl)
      (try simp only [Act.put, List.setIfInBounds_toArray, List.set_cons_zero, List.set_cons_succ])
      refine wpAnyH_take (i := 27) (oi := ({ dst := some 44, op := Op.move (Operand.tmp 0), type := 38, pos := "ref.go:31", after := #[{ on := 26, ground := Ground.guard }], guard := some (26, false) } : Oper)) (v := ?_) rfl (by kernel_rfl) (by kernel_rfl) (by kernel_rfl) (fun _ _ _ h => h) (Or.inl ⟨by rfl, ?_⟩) hS ?_
      rotate_left
      · (intro w hSw; (try dsimp only at hSw); go_simp; try with_reducible rfl)
      (try simp only [Act.put, List.setIfInBounds_toArray, List.set_cons_zero, List.set_cons_succ])
      refine wpAnyH_take (i := 28) (oi := ({ dst := some 45, op := Op.move (Operand.tmp 5), type := 3, pos := "ref.go:31", after := #[{ on := 26, ground := Ground.guard }], guard := some (26, false) } : Oper)) (v := ?_) rfl (by kernel_rfl) (by kernel_rfl) (by kernel_rfl) (fun _ _ _ h => h) (Or.inl ⟨by rfl, ?_⟩) hS ?_
      rotate_left
      · (intro w hSw; (try dsimp only at hSw); go_simp; try with_reducible rfl)
      (try simp only [Act.put, List.setIfInBounds_toArray, List.set_cons_zero, List.set_cons_succ])
      refine wpAnyH_take (i := 29) (oi := ({ dst := some 46, op := Op.indexAddr 38 (Operand.tmp 44) (Operand.tmp 45), type := 0, pos := "ref.go:31", after := #[{ on := 27, ground := Ground.data }, { on := 28, ground := Ground.data }, { on := 26, ground := Ground.guard }], guard := some (26, false) } : Oper)) (v := ?_) rfl (by kernel_rfl) (by kernel_rfl) (by kernel_rfl) (fun _ _ _ h => h) (Or.inl ⟨by rfl, ?_⟩) hS ?_
      rotate_left
      · (intro w hSw; (try dsimp only at hSw); go_simp; try with_reducible rfl)
      (try simp only [Act.put, List.setIfInBounds_toArray, List.set_cons_zero, List.set_cons_succ])
      refine wpAnyH_take (i := 30) (oi := ({ dst := some 47, op := Op.fieldAddr 25 (Operand.tmp 46) 2, type := 0, pos := "ref.go:31", after := #[{ on := 29, ground := Ground.data }, { on := 26, ground := Ground.guard }], guard := some (26, false) } : Oper)) (v := ?_) rfl (by kernel_rfl) (by kernel_rfl) (by kernel_rfl) (fun _ _ _ h => h) (Or.inl ⟨by rfl, ?_⟩) hS ?_
      rotate_left
      · (intro w hSw; (try dsimp only at hSw); go_simp; try with_reducible rfl)
      (try simp only [Act.put, List.setIfInBounds_toArray, List.set_cons_zero, List.set_cons_succ])
      refine wpAnyH_take (i := 31) (oi := ({ dst := some 48, op := Op.load 3 (Operand.tmp 47), type := 3, pos := "ref.go:31", after := #[{ on := 30, ground := Ground.data }, { on := 26, ground := Ground.guard }], guard := some (26, false) } : Oper)) (v := ?_) rfl (by kernel_rfl) (by kernel_rfl) (by kernel_rfl) (fun _ _ _ h => h) (Or.inl ⟨by rfl, ?_⟩) hS ?_
      rotate_left
      · (intro w hSw; (try dsimp only at hSw); obtain ⟨x0, x1, x2, y0, y1, y2⟩ := HX.out; have x0' := cell_keep hSw x0; have x1' := cell_keep hSw x1; have x2' := cell_keep hSw x2; have y0' := cell_keep hSw y0; have y1' := cell_keep hSw y1; have y2' := cell_keep hSw y2; go_simp; try with_reducible rfl)
      (try simp only [Act.put, List.setIfInBounds_toArray, List.set_cons_zero, List.set_cons_succ])
      refine wpAnyH_take (i := 32) (oi := ({ dst := some 49, op := Op.move (Operand.tmp 1), type := 38, pos := "ref.go:31", after := #[{ on := 26, ground := Ground.guard }], guard := some (26, false) } : Oper)) (v := ?_) rfl (by kernel_rfl) (by kernel_rfl) (by kernel_rfl) (fun _ _ _ h => h) (Or.inl ⟨by rfl, ?_⟩) hS ?_
      rotate_left
      · (intro w hSw; (try dsimp only at hSw); go_simp; try with_reducible rfl)
      (try simp only [Act.put, List.setIfInBounds_toArray, List.set_cons_zero, List.set_cons_succ])
      refine wpAnyH_take (i := 33) (oi := ({ dst := some 50, op := Op.move (Operand.tmp 5), type := 3, pos := "ref.go:31", after := #[{ on := 26, ground := Ground.guard }], guard := some (26, false) } : Oper)) (v := ?_) rfl (by kernel_rfl) (by kernel_rfl) (by kernel_rfl) (fun _ _ _ h => h) (Or.inl ⟨by rfl, ?_⟩) hS ?_
      rotate_left
      · (intro w hSw; (try dsimp only at hSw); go_simp; try with_reducible rfl)
      (try simp only [Act.put, List.setIfInBounds_toArray, List.set_cons_zero, List.set_cons_succ])
      refine wpAnyH_take (i := 34) (oi := ({ dst := some 51, op := Op.indexAddr 38 (Operand.tmp 49) (Operand.tmp 50), type := 0, pos := "ref.go:31", after := #[{ on := 32, ground := Ground.data }, { on := 33, ground := Ground.data }, { on := 26, ground := Ground.guard }], guard := some (26, false) } : Oper)) (v := ?_) rfl (by kernel_rfl) (by kernel_rfl) (by kernel_rfl) (fun _ _ _ h => h) (Or.inl ⟨by rfl, ?_⟩) hS ?_
      rotate_left
      · (intro w hSw; (try dsimp only at hSw); go_simp; try with_reducible rfl)
      (try simp only [Act.put, List.setIfInBounds_toArray, List.set_cons_zero, List.set_cons_succ])
      refine wpAnyH_take (i := 35) (oi := ({ dst := some 52, op := Op.fieldAddr 25 (Operand.tmp 51) 2, type := 0, pos := "ref.go:31", after := #[{ on := 34, ground := Ground.data }, { on := 26, ground := Ground.guard }], guard := some (26, false) } : Oper)) (v := ?_) rfl (by kernel_rfl) (by kernel_rfl) (by kernel_rfl) (fun _ _ _ h => h) (Or.inl ⟨by rfl, ?_⟩) hS ?_
      rotate_left
      · (intro w hSw; (try dsimp only at hSw); go_simp; try with_reducible rfl)
      (try simp only [Act.put, List.setIfInBounds_toArray, List.set_cons_zero, List.set_cons_succ])
      refine wpAnyH_take (i := 36) (oi := ({ dst := some 53, op := Op.load 3 (Operand.tmp 52), type := 3, pos := "ref.go:31", after := #[{ on := 35, ground := Ground.data }, { on := 26, ground := Ground.guard }], guard := some (26, false) } : Oper)) (v := ?_) rfl (by kernel_rfl) (by kernel_rfl) (by kernel_rfl) (fun _ _ _ h => h) (Or.inl ⟨by rfl, ?_⟩) hS ?_
      rotate_left
      · (intro w hSw; (try dsimp only at hSw); obtain ⟨x0, x1, x2, y0, y1, y2⟩ := HX.out; have x0' := cell_keep hSw x0; have x1' := cell_keep hSw x1; have x2' := cell_keep hSw x2; have y0' := cell_keep hSw y0; have y1' := cell_keep hSw y1; have y2' := cell_keep hSw y2; go_simp; try with_reducible rfl)
      (try simp only [Act.put, List.setIfInBounds_toArray, List.set_cons_zero, List.set_cons_succ])
      refine wpAnyH_take (i := 37) (oi := ({ dst := some 54, op := Op.binOp BinOp.neq 3 (Operand.tmp 48) (Operand.tmp 53) 3, type := 4, pos := "ref.go:31", after := #[{ on := 31, ground := Ground.data }, { on := 36, ground := Ground.data }, { on := 26, ground := Ground.guard }], guard := some (26, false) } : Oper)) (v := ?_) rfl (by kernel_rfl) (by kernel_rfl) (by kernel_rfl) (fun _ _ _ h => h) (Or.inl ⟨by rfl, ?_⟩) hS ?_
      rotate_left
      · (intro w hSw; (try dsimp only at hSw); go_simp; try with_reducible rfl)
      (try simp only [Act.put, List.setIfInBounds_toArray, List.set_cons_zero, List.set_cons_succ])
      refine wpAnyH_take (i := 38) (oi := ({ dst := some 55, op := Op.pick (Operand.tmp 43) (Operand.const (Value.bool true)) (Operand.tmp 54), type := 4, pos := "ref.go:31", after := #[{ on := 26, ground := Ground.data }, { on := 37, ground := Ground.data }], guard := none } : Oper)) (v := ?_) rfl (by kernel_rfl) (by kernel_rfl) (by kernel_rfl) (fun _ _ _ h => h) (Or.inl ⟨by rfl, ?_⟩) hS ?_
      rotate_left
      · (intro w hSw; (try dsimp only at hSw); go_simp; try with_reducible rfl)
      (try simp only [Act.put, List.setIfInBounds_toArray, List.set_cons_zero, List.set_cons_succ])
      refine wpAnyH_done (by kernel_rfl) ?_ _
      have HB2 := Lib.hid hS
      clear hS
      go_wp2
      go_roundw
      case rel => exact ⟨i + 1, by go_num, by omega, HB2⟩
      case measure => simp [intOf]; omega
    · have hq : i = n := by omega
      subst hq
      go_wp2
      go_ret
      exact ⟨rfl, HB.out⟩
end Go.Proofs.Ytdadeloojblekaa
