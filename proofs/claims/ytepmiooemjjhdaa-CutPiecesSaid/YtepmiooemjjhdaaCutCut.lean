/-
  WHAT THE PROGRAM'S OWN Cut OF LAYER 14 ANSWERS, of any place and any number. No condition.
-/
import Derived.Test.YtepmiooemjjhdaaCutGo
namespace Go.Proofs.Ytepmiooemjjhdaa
open Go.RowKit
theorem mf_run (fn : Fn) (first cap : Array Value) (w : World) : (Instr.makeFunc fn first cap).run Try.prog w = .ok (.func fn first cap) w := rfl
/-- how far a place in a cell is from the body's end -/
def mz : Option Value → Nat
  | some (.int _ x) => (832 - x).toNat
  | _ => 0
/-- the variables, just made -/
theorem GS.start (w w1 : World) (x n : Int) (hb : Below ((w.alloc (.cells #[.int .i64 x] 3)).alloc (.cells #[.int .i64 n] 3)).heap.size ((w.alloc (.cells #[.int .i64 x] 3)).alloc (.cells #[.int .i64 n] 3)) w1) :
    GS w.heap.size w ((w1.alloc (.cells #[.slice none 0 0] 22)).alloc (.cells #[.int .i64 0] 3)) w.heap.size (w1.heap.size + 1) (w.heap.size + 1) w1.heap.size x 0 n (.slice none 0 0) 0 [] := by
  obtain ⟨v1, hv1⟩ : ∃ q, w.alloc (.cells #[.int .i64 x] 3) = q := ⟨_, rfl⟩
  have e1 : v1.heap.size = w.heap.size + 1 := by rw [← hv1]; simp
  have a0 : v1.heap[w.heap.size]? = some (.cells #[.int .i64 x] 3 (0, 0)) := by rw [← hv1]; exact heap_alloc_last w _
  have b1 : Below w.heap.size w v1 := by rw [← hv1]; exact balloc w _
  rw [hv1] at hb
  obtain ⟨v2, hv2⟩ : ∃ q, v1.alloc (.cells #[.int .i64 n] 3) = q := ⟨_, rfl⟩
  have e2 : v2.heap.size = w.heap.size + 2 := by rw [← hv2]; simp [e1]
  have a1 : v2.heap[w.heap.size]? = some (.cells #[.int .i64 x] 3 (0, 0)) := by rw [← hv2]; exact ((balloc v1 _).block _ (by omega)).trans a0
  have a2 : v2.heap[w.heap.size + 1]? = some (.cells #[.int .i64 n] 3 (0, 0)) := by rw [← hv2, ← e1]; exact heap_alloc_last v1 _
  have b2 : Below w.heap.size w v2 := by rw [← hv2]; exact bch b1 (balloc v1 _)
  rw [hv2] at hb
  have hs1 := hb.size
  have a3 := (hb.block w.heap.size (by omega)).trans a1
  have a4 := (hb.block (w.heap.size + 1) (by omega)).trans a2
  obtain ⟨v3, hv3⟩ : ∃ q, w1.alloc (.cells #[.slice none 0 0] 22) = q := ⟨_, rfl⟩
  have e3 : v3.heap.size = w1.heap.size + 1 := by rw [← hv3]; simp
  have hb3 : Below w1.heap.size w1 v3 := by rw [← hv3]; exact balloc w1 _
  have a5 := (hb3.block w.heap.size (by omega)).trans a3
  have a6 := (hb3.block (w.heap.size + 1) (by omega)).trans a4
  have a7 : v3.heap[w1.heap.size]? = some (.cells #[.slice none 0 0] 22 (0, 0)) := by rw [← hv3]; exact heap_alloc_last w1 _
  rw [hv3]
  have hb4 := balloc v3 (.cells #[.int .i64 0] 3)
  refine ⟨bch (bch (bch b2 hb) hb3) hb4, Nat.le_refl _, by omega, by omega, (hb4.block _ (by omega)).trans a5, ?_, (hb4.block _ (by omega)).trans a6, (hb4.block _ (by omega)).trans a7, World.ownsRow_nil _ _ _ _⟩
  rw [← e3]
  exact heap_alloc_last v3 _
set_option maxRecDepth 8000 in
set_option maxHeartbeats 4000000 in
theorem cut_no (x n : Int) (hx : I63 x) (hf : fitI x n = false) (w : World) : Calls Try.prog 6 #[.int .i64 x, .int .i64 n] w fun e w' => e = .returned (.tuple #[.slice none 0 0, .int .i64 0, .bool false]) ∧ Below w.heap.size w w' := by
  have H1 : Hid (∀ w, Calls Try.prog 9 #[.int .i64 x, .int .i64 n] w fun e w' => e = .returned (.bool false) ∧ Below w.heap.size w w') := fun w => by
    have := fits_any x n hx w; rwa [hf] at this
  clear hf hx
  go_enter Try.func6, Try.ntmps6
  go_wp2_with (first
    | (go_at_call 9; (with_reducible refine (H1.out _).mono ?_); rintro e w1 ⟨rfl, hb⟩; have HB1 := Lib.hid (bch (bch (balloc w _) (balloc _ _)) hb); clear hb))
  go_ret3
  exact ⟨rfl, HB1.out⟩
set_option maxRecDepth 8000 in
set_option maxHeartbeats 4000000 in
theorem cut_yes (x : Int) (n m : Nat) (hx : I63 x) (hn : n ≤ 832) (hc : Cuts (nr x) n m) (hft : Fit (nr x) n) (w : World) : Calls Try.prog 6 #[.int .i64 x, .int .i64 (n : Int)] w fun e w' =>
    ∃ v, e = .returned (.tuple #[v, .int .i64 (pS (nr x) n m : Int), .bool true]) ∧ w'.ownsRow w.heap.size 28 4 v m (pF (firstP (nr x) n m)) ∧ Below w.heap.size w w' := by
  have H1 : Hid (∀ w, Calls Try.prog 9 #[.int .i64 x, .int .i64 (n : Int)] w fun e w' => e = .returned (.bool true) ∧ Below w.heap.size w w') := fun w => by
    have := fits_any x n hx w; rwa [(fit_nat x n).2 hft] at this
  have HA := Lib.hid (nr_le x)
  have HX := Lib.hid hx
  have HF := Lib.hid hft
  have HC := Lib.hid hc
  have HN := Lib.hid hn
  obtain ⟨a, ha⟩ : ∃ a, nr x = a := ⟨_, rfl⟩
  have HAX := Lib.hid ha
  rw [ha] at HA HC HF
  rw [ha]
  clear ha hft hc hn hx
  have hmf := mf_run
  go_enter Try.func6, Try.ntmps6
  go_wp2_with (first
    | (go_at_call 9; (with_reducible refine (H1.out _).mono ?_); rintro e w1 ⟨rfl, hb⟩; have HB0 := Lib.hid hb; clear hb))
  have HG0 : Hid (GS w.heap.size w ((w1.alloc (.cells #[.slice none 0 0] 22)).alloc (.cells #[.int .i64 0] 3)) w.heap.size (w1.heap.size + 1) (w.heap.size + 1) w1.heap.size x 0 (n : Int) (.slice none 0 0) 0 []) := Lib.hid (GS.start w w1 x n HB0.out)
  obtain ⟨w2, hw2⟩ : ∃ q, (w1.alloc (.cells #[.slice none 0 0] 22)).alloc (.cells #[.int .i64 0] 3) = q := ⟨_, rfl⟩
  rw [hw2] at HG0 ⊢
  obtain ⟨g2, hg2⟩ : ∃ g, w.heap.size + 1 = g := ⟨_, rfl⟩
  obtain ⟨g3, hg3⟩ : ∃ g, w1.heap.size = g := ⟨_, rfl⟩
  obtain ⟨g1, hg1⟩ : ∃ g, w1.heap.size + 1 = g := ⟨_, rfl⟩
  rw [hg1, hg2, hg3] at HG0 ⊢
  clear hw2 hg2 hg3 hg1 HB0 H1
  go_loopw [] (fun wr => ∃ (i : Nat) (p : Int) (v : Value), Hid (I63 p ∧ nr p = pS a n i ∧ Run a n i ∧ (i = 0 ∨ fS a n i < n)) ∧ Hid (GS w.heap.size w wr w.heap.size g1 g2 g3 p (fS a n i : Nat) (n : Int) v i (firstP a n i))) (fun wr => mz (wr.cell? ⟨w.heap.size, 0, none⟩))
  case atStart => exact ⟨0, x, _, ⟨HX.out, HAX.out, Run.zero HA.out, .inl rfl⟩, HG0⟩
  case round =>
    obtain ⟨i, p, v, HR, HG⟩ := hrel
    obtain ⟨hp, hpn, hr, hi⟩ := HR.out
    have hb := hr.go hi HF.out
    have hst := hr.step hb
    have hrn := hr.next hi hb
    have hi7 : i ≤ 1000 := by have := hr.p_ge; have := hr.p_le; omega
    have HGT := Lib.hid (gather_any w.heap.size w wr w.heap.size g1 g2 g3 p v a n i hp hpn hst HN.out hi7 HG.out)
    have HM : Hid ((832 - (pS a n (i + 1) : Int)).toNat < (832 - p).toNat) := Lib.hid (by
      have h1 := hst.p_eq
      have h2 := hrn.p_le
      have h3 : pS a n i ≤ bS a n i := by unfold bS beginN; split <;> omega
      have h4 : p ≤ (nr p : Int) ∨ 832 ≤ p := by unfold nr; omega
      have h5 := hr.begin_le
      rcases h4 with h4 | h4
      · omega
      · have h6 : nr p = 832 := by unfold nr; omega
        omega)
    have HRN := Lib.hid hrn
    have HCN : Hid (¬ fS a n (i + 1) < n → i + 1 = m) := Lib.hid (fun hlt => by
      have := (hrn.end_ HA.out (by omega) (by have := hrn.f_le; omega)).2
      rw [cnt_eq HC.out] at this
      exact this.symm)
    clear hp hpn hr hi hb hst hrn hi7
    by_cases hlt : fS a n (i + 1) < n
    · have HLT := Lib.hid hlt
      rw [decide_eq_true hlt] at HGT
      clear hlt HCN
      go_wp2_with (first
        | (go_at_call 15; (with_reducible refine (HGT.out).mono ?_); rintro e w3 ⟨rfl, v3, hg⟩; have HG3 := Lib.hid hg; clear hg))
      go_roundw
      case rel => exact ⟨i + 1, _, v3, Lib.hid ⟨by unfold I63; have := HRN.out.p_le; omega, nr_nat _ HRN.out.p_le, HRN.out, .inr HLT.out⟩, HG3⟩
      case measure =>
        have h1 := HG.out.cells.1
        have h2 := HG3.out.cells.1
        rw [h1, h2]
        exact HM.out
    · have hm := HCN.out hlt
      subst hm
      rw [decide_eq_false hlt] at HGT
      clear hlt HCN
      go_wp2_with (first
        | (go_at_call 15; (with_reducible refine (HGT.out).mono ?_); rintro e w3 ⟨rfl, v3, hg⟩; have HG3 := Lib.hid hg; clear hg))
      obtain ⟨a3, c3, rfl⟩ := own_form HG3.out.own
      have d0 := HG3.out.cells.1
      have d3 := HG3.out.cells.2.2.2
      refine wp_region_held_drew (S := (fun w' => w'.cell? ⟨w.heap.size, 0, none⟩ = some (.int .i64 (pS a n (i + 1) : Int)) ∧ w'.cell? ⟨g3, 0, none⟩ = some (.slice a3 (i + 1) c3))) (by kernel_rfl) (let c := (HG3.out.keep ((Below.refl _ _).drew)).cells; ⟨c.1, c.2.2.2⟩) (fun hS => ?_)
      refine wpAnyH_take (i := 0) (oi := ({ dst := some 17, op := Op.load 22 (Operand.tmp 7), type := 22, pos := "cut.go:28", after := #[], guard := none } : Oper)) (v := ?_) rfl (by kernel_rfl) (by kernel_rfl) (by kernel_rfl) (fun _ _ _ h => h) (Or.inl ⟨by rfl, ?_⟩) hS ?_
      rotate_left
      · (intro w hSw; (try dsimp only at hSw); go_simp; try with_reducible rfl)
      (try simp only [Act.put, List.setIfInBounds_toArray, List.set_cons_zero, List.set_cons_succ])
      refine wpAnyH_take (i := 1) (oi := ({ dst := some 18, op := Op.load 3 (Operand.tmp 2), type := 3, pos := "cut.go:28", after := #[{ on := 2, ground := Ground.gcOnly Departure.lateStores }], guard := none } : Oper)) (v := ?_) rfl (by kernel_rfl) (by kernel_rfl) (by kernel_rfl) (fun _ _ _ h => h) (Or.inl ⟨by rfl, ?_⟩) hS ?_
      rotate_left
      · (intro w hSw; (try dsimp only at hSw); go_simp; try with_reducible rfl)
      (try simp only [Act.put, List.setIfInBounds_toArray, List.set_cons_zero, List.set_cons_succ])
      refine wpAnyH_take (i := 2) (oi := ({ dst := some 4, op := Op.assign (Operand.tmp 17), type := 22, pos := "cut.go:28", after := #[{ on := 0, ground := Ground.data }, { on := 0, ground := Ground.phase }, { on := 1, ground := Ground.textOnly Departure.lateStores }], guard := none } : Oper)) (v := ?_) rfl (by kernel_rfl) (by kernel_rfl) (by kernel_rfl) (fun _ _ _ h => h) (Or.inl ⟨by rfl, ?_⟩) hS ?_
      rotate_left
      · (intro w hSw; (try dsimp only at hSw); go_simp; try with_reducible rfl)
      (try simp only [Act.put, List.setIfInBounds_toArray, List.set_cons_zero, List.set_cons_succ])
      refine wpAnyH_take (i := 3) (oi := ({ dst := some 5, op := Op.assign (Operand.tmp 18), type := 3, pos := "cut.go:28", after := #[{ on := 1, ground := Ground.data }, { on := 2, ground := Ground.chain }, { on := 0, ground := Ground.phase }, { on := 1, ground := Ground.phase }, { on := 2, ground := Ground.phase }], guard := none } : Oper)) (v := ?_) rfl (by kernel_rfl) (by kernel_rfl) (by kernel_rfl) (fun _ _ _ h => h) (Or.inl ⟨by rfl, ?_⟩) hS ?_
      rotate_left
      · (intro w hSw; (try dsimp only at hSw); go_simp; try with_reducible rfl)
      (try simp only [Act.put, List.setIfInBounds_toArray, List.set_cons_zero, List.set_cons_succ])
      refine wpAnyH_take (i := 4) (oi := ({ dst := some 6, op := Op.assign (Operand.const (Value.bool true)), type := 4, pos := "cut.go:28", after := #[{ on := 3, ground := Ground.chain }, { on := 0, ground := Ground.phase }, { on := 1, ground := Ground.phase }, { on := 2, ground := Ground.phase }, { on := 3, ground := Ground.phase }], guard := none } : Oper)) (v := ?_) rfl (by kernel_rfl) (by kernel_rfl) (by kernel_rfl) (fun _ _ _ h => h) (Or.inl ⟨by rfl, ?_⟩) hS ?_
      rotate_left
      · (intro w hSw; (try dsimp only at hSw); go_simp; try with_reducible rfl)
      (try simp only [Act.put, List.setIfInBounds_toArray, List.set_cons_zero, List.set_cons_succ])
      refine wpAnyH_done (by kernel_rfl) ?_ _
      clear hS
      go_wp2
      go_ret3
      exact ⟨_, rfl, HG3.out.own.drew, HG3.out.below.drew⟩
/-- whatever comes in -/
theorem cut_any (x n : Int) (hx : I63 x) (w : World) : Calls Try.prog 6 #[.int .i64 x, .int .i64 n] w fun e w' =>
    ∃ v, e = .returned (.tuple #[v, .int .i64 (endI x n : Int), .bool (fitI x n)]) ∧ w'.ownsRow w.heap.size 28 4 v (pcsI x n).length (pF (pcsI x n)) ∧ Below w.heap.size w w' := by
  by_cases hf : fitI x n = true
  · obtain ⟨k, m, rfl, hk, _, hc, hft⟩ := told_of hf
    obtain ⟨h1, h2, h3⟩ := told_yes hc hft
    rw [h1, h2, h3, firstP_len]
    exact cut_yes x k m hx hk hc hft w
  · have hf : fitI x n = false := by simpa using hf
    obtain ⟨h1, h2⟩ := told_no hf
    rw [h1, h2, hf]
    exact (cut_no x n hx hf w).mono fun e w' ⟨he, hb⟩ => ⟨_, he, World.ownsRow_nil _ _ _ _, hb⟩
end Go.Proofs.Ytepmiooemjjhdaa
