/-
  THE WALK OF TearScans: whatever records and whatever crash come in: the call returns true and changes nothing that was there. The table of half a byte's steps must lie in its block as start-up lays it.
-/
import Derived.Test.YtepaghohojomeaaDoorJ19
import Derived.Test.YtepaghohojomeaaDoorScanAll
import Derived.Test.YtepaghohojomeaaDoorJ20
import Derived.Test.YtepaghohojomeaaDoorJ16
namespace Go.Proofs.YtepaghohojomeaaDoor
open Go.RowKit
set_option maxRecDepth 8000 in
set_option maxHeartbeats 8000000 in
theorem scans_walk (x : Int) (hx : U64 x) (la : Option Addr) (n lc : Nat) (ls : List (List Int)) (hlb : ∀ l ∈ ls, isB l) (N : Int) (hN : U64 N) (ka : Option Addr) (kn kc : Nat) (kb : List Int) (hkb : Bytes kb) (torn cut : Int) (ht : I63 torn) (hct : I63 cut) (w : World)
    (h : RL .u8 w (.slice la n lc) n ls) (hk : RI .u8 w (.slice ka kn kc) kn kb) (hT : Tab w) :
    Calls Tryd.prog 4 #[yV x (.slice la n lc) N, cV (.slice ka kn kc) torn cut] w fun r w' => r = .returned (.bool true) ∧ Below w.heap.size w w' := by
  have hln := h.length
  obtain ⟨w0, hw0⟩ : ∃ q, (w.alloc (.cells #[.int .u64 x, .slice la n lc, .int .u64 N] 42)).alloc (.cells #[.slice ka kn kc, .int .i64 torn, .int .i64 cut] 45) = q := ⟨_, rfl⟩
  have hz1 : (w.alloc (.cells #[.int .u64 x, .slice la n lc, .int .u64 N] 42)).heap.size = w.heap.size + 1 := alloc_size w _
  have hb0 : Below w.heap.size w w0 := by rw [← hw0]; exact bch (balloc w _) (balloc _ _)
  have HB0 := Lib.hid hb0
  have hy0 : w0.heap[w.heap.size]? = some (.cells #[.int .u64 x, .slice la n lc, .int .u64 N] 42 (0, 0)) := by
    rw [← hw0]
    exact ((balloc (w.alloc (.cells #[.int .u64 x, .slice la n lc, .int .u64 N] 42)) _).block w.heap.size (by rw [hz1]; omega)).trans (heap_alloc_last w _)
  have hc0 : w0.heap[w.heap.size + 1]? = some (.cells #[.slice ka kn kc, .int .i64 torn, .int .i64 cut] 45 (0, 0)) := by
    rw [← hw0, ← hz1]; exact heap_alloc_last _ _
  have HY0 := Lib.hid hy0
  have HC0 := Lib.hid hc0
  have HY : Hid (∀ w', Below w0.heap.size w0 w' → w'.cell? ⟨w.heap.size, 0, none⟩ = some (.int .u64 x) ∧ w'.cell? ⟨w.heap.size, 1, none⟩ = some (.slice la n lc)) := Lib.hid fun w' hb =>
    ⟨cell_keep hb (cell_of_row w0 _ 0 _ _ _ hy0), cell_keep hb (cell_of_row w0 _ 1 _ _ _ hy0)⟩
  have HAW : Hid (∀ w', Below w0.heap.size w0 w' → Calls Tryd.prog 7 #[] w' fun r w'' => r = .returned (.bool true) ∧ Below w'.heap.size w' w'') := Lib.hid fun w' hb => tawake_any w' (hT.keep (bch hb0 hb))
  have hAF := after_any x hx la n lc ls hlb N hN ka kn kc kb hkb torn cut ht hct w0 (h.keep hb0) (hk.keep hb0)
  cases hok : synOk x ls with
  | false =>
    have HAF : Hid (Calls Tryd.prog 12 #[yV x (.slice la n lc) N, cV (.slice ka kn kc) torn cut] w0 fun r w' => r = .returned (.tuple #[.slice none 0 0, .int .i64 0, .bool false]) ∧ Below w0.heap.size w0 w') := Lib.hid (hAF.mono fun r w' h => by
      rcases h with ⟨_, h1, h2⟩ | ⟨h1, _⟩
      · exact ⟨h1, h2⟩
      · rw [hok] at h1; cases h1)
    clear hAF hx hlb hN hkb ht hct h hk hT hln hz1 hb0 hy0 hc0 hok
    go_enter Tryd.func4, Tryd.ntmps4
    go_wp2_with (first
      | (refine wpList_load_row rfl 42 (.tmp 2) rfl w.heap.size rfl _ #[.int .u64 x, .slice la n lc, .int .u64 N] (0, 0) _ HY0.out Tryd.underlying42 rfl syn_info ?_)
      | (refine wpList_load_row rfl 45 (.tmp 3) rfl (w.heap.size + 1) rfl _ #[.slice ka kn kc, .int .i64 torn, .int .i64 cut] (0, 0) _ HC0.out Tryd.underlying45 rfl crash_info ?_)
      | (go_at_call 12; (refine HAF.out.mono ?_); rintro r w1 ⟨rfl, hb⟩; have HB1 := Lib.hid hb; clear hb)
      | (go_at_call 7; (refine (HAW.out _ HB1.out).mono ?_); rintro r w2 ⟨rfl, hb⟩; have HB2 := Lib.hid (bch HB1.out hb); clear hb))
    go_ret
    exact ⟨rfl, bch HB0.out HB2.out⟩
  | true =>
    obtain ⟨hw, hf, h0⟩ := synOk_parts hok
    obtain ⟨hfew, h512⟩ := fewB_parts hw
    have hg := (fitsF_iff ls).1 hf
    have hsn := synN_le N ls
    have hbf0 := synF_isB x ls hlb N kb torn cut
    obtain ⟨fs, hfs⟩ : ∃ fs, synF x ls N kb torn cut = fs := ⟨_, rfl⟩
    rw [hfs] at hbf0
    have HAF : Hid (Calls Tryd.prog 12 #[yV x (.slice la n lc) N, cV (.slice ka kn kc) torn cut] w0 fun r w' => ∃ a c, r = .returned (.tuple #[.slice a 16 c, .int .i64 (synN N ls : Nat), .bool true]) ∧ FS w' (.slice a 16 c) 16 fs ∧ Below w0.heap.size w0 w') := Lib.hid (hAF.mono fun r w' h => by
      rcases h with ⟨h1, _⟩ | ⟨_, a, c, h1, h2, h3⟩
      · rw [hok] at h1; cases h1
      · rw [hfs] at h2; exact ⟨a, c, h1, h2, h3⟩)
    clear hAF
    have hfree : ∀ (w' : World) (v : Value), Below w0.heap.size w0 w' → FS w' v 16 fs → Calls Tryd.prog 10 #[.int .u64 x, .slice la n lc, v] w' fun r w'' => r = .returned (.bool (decide ((tclF x 16 fs ls).length = 0))) ∧ Below w'.heap.size w' w'' := fun w' v hb hv => by
      have := tfree_any x hx (.slice la n lc) n ls (by omega) hlb v 16 fs hbf0 w' (hT.keep (bch hb0 hb)) (h.keep (bch hb0 hb)) hv
      rwa [hf, Bool.true_and] at this
    by_cases hcl : (tclF x 16 fs ls).length = 0
    · have HFE := Lib.hid hfree
      rw [decide_eq_true hcl] at HFE
      have hcl2 : clF (x % 4294967296) (flatB x 16 fs 16) (flatK x 16 fs 16) ls ls.length = [] := by
        have := List.eq_nil_of_length_eq_zero hcl
        unfold tclF at this
        rwa [hf, if_pos rfl] at this
      obtain ⟨m, hm1, hm2, hm3⟩ := told_torn hg h512 (synN N ls) hsn kb torn cut fs hfs hcl2
      have hml : (ls.take m).length = m := by rw [List.length_take]; omega
      have HP : Hid (∀ (w' : World) (v : Value), Below w0.heap.size w0 w' → FS w' v 16 fs → Calls Tryd.prog 13 #[.int .u64 x, v] w' fun r w'' => ∃ (ra : Option Addr) (rc : Nat) (pa : Option Addr) (pn pc : Nat) (F k : Int), r = .returned (.agg (tA (.slice ra m rc) (.slice pa pn pc) F k)) ∧ RL .u8 w'' (.slice ra m rc) m (ls.take m) ∧ Below w'.heap.size w' w'') := Lib.hid fun w' v hb hv =>
        (scan_any x hx v 16 fs hbf0 w' hv (hT.keep (bch hb0 hb))).mono fun r w'' ⟨rv, pv, es, h1, h2, h3, h4, h5⟩ => by
          unfold scOf at h3
          have hr := h2.rl_ (h3.trans hm3)
          rw [hml] at hr
          obtain ⟨ra, rc, rfl, _⟩ := hr.form
          obtain ⟨pa, pc, hp⟩ := own_form h4
          subst hp
          exact ⟨ra, rc, pa, _, pc, _, _, h1, hr, h5⟩
      have hmn : m ≤ n := by omega
      obtain ⟨ma, mc, hsl⟩ : ∃ a c, sliced la 0 m lc 1 = .slice a m c := by
        have := sliced_form la 0 m lc 1
        rwa [Nat.zero_add] at this
      have HSL := Lib.hid hsl
      have hmlc : m ≤ lc := by obtain ⟨_, _, e, h1, _⟩ := h.form; cases e; omega
      have HML := Lib.hid hmlc
      have hlbm : ∀ l ∈ ls.take m, isB l := fun l hl => hlb l (List.mem_of_mem_take hl)
      have HSM : Hid (∀ (w' : World) (v : Value), Below w0.heap.size w0 w' → RL .u8 w' v m (ls.take m) → Calls Tryd.prog 14 #[v, .slice ma m mc] w' fun r w'' => r = .returned (.bool true) ∧ Below w'.heap.size w' w'') := Lib.hid fun w' v hb hv => by
        have hr := (h.keep (bch hb0 hb)).pre m hmn
        rw [hsl] at hr
        exact (same_any v _ m m _ _ w' hv hr hlbm hlbm).mono fun r w'' ⟨h1, h2⟩ => ⟨by rw [h1]; simp, h2⟩
      have hqm : ((synN N ls : Nat) : Int) ≤ (m : Int) := by omega
      have hmn' : (m : Int) ≤ (n : Int) := by omega
      have HMI : Hid (min (m : Int) (n : Int) = (m : Int)) := Lib.hid (by omega)
      generalize synN N ls = q at *
      generalize ls.take m = lm at *
      clear hx hlb hN hkb ht hct h hk hT hln hz1 hb0 hy0 hc0 hok hw hf h0 hfew h512 hg hsn hfs hbf0 hm1 hm2 hm3 hml hmn hsl hmlc hlbm hcl hcl2 hfree
      go_enter Tryd.func4, Tryd.ntmps4
      go_wp2_with (first
        | (refine wpList_load_row rfl 42 (.tmp 2) rfl w.heap.size rfl _ #[.int .u64 x, .slice la n lc, .int .u64 N] (0, 0) _ HY0.out Tryd.underlying42 rfl syn_info ?_)
        | (refine wpList_load_row rfl 45 (.tmp 3) rfl (w.heap.size + 1) rfl _ #[.slice ka kn kc, .int .i64 torn, .int .i64 cut] (0, 0) _ HC0.out Tryd.underlying45 rfl crash_info ?_)
        | (go_at_call 12; (refine HAF.out.mono ?_); rintro r w1 ⟨a1, c1, rfl, hs, hb⟩; have HB1 := Lib.hid hb; have HS1 := Lib.hid hs; obtain ⟨t0, t1⟩ := HY.out w1 hb; clear hb hs)
        | (go_at_call 10; (with_reducible refine (HFE.out _ _ HB1.out HS1.out).mono ?_); rintro r wg ⟨rfl, hb⟩; have HBg := Lib.hid (bch HB1.out hb); have HSg := Lib.hid (HS1.out.keep hb); obtain ⟨s0, s1⟩ := HY.out wg HBg.out; clear hb)
        | (go_at_call 13; (refine (HP.out _ _ HBg.out HSg.out).mono ?_); rintro r w2 ⟨ra, rc, pa, pn, pc, F, k, rfl, hr, hb⟩; obtain ⟨w3, hw3⟩ : ∃ q', w2.alloc (.cells (tA (.slice ra m rc) (.slice pa pn pc) F k) 49) = q' := ⟨_, rfl⟩; have hk3 : w3.heap[w2.heap.size]? = some (.cells (tA (.slice ra m rc) (.slice pa pn pc) F k) 49 (0, 0)) := (by rw [← hw3]; exact heap_alloc_last w2 _); have hb3 : Below w2.heap.size w2 w3 := (by rw [← hw3]; exact balloc _ _); have HR3 := Lib.hid (hr.keep hb3); have HB3 := Lib.hid (bch HBg.out (bch hb hb3)); have HK3 := Lib.hid hk3; clear hr hb hk3 hb3))
      have HST : Hid (w3.drew.cell? ⟨w2.heap.size, 0, none⟩ = some (.slice ra m rc) ∧ w3.drew.cell? ⟨w.heap.size, 1, none⟩ = some (.slice la n lc)) := Lib.hid ⟨cell_keep (Below.refl _ w3).drew (cell_of_row w3 _ 0 _ _ _ HK3.out), (HY.out _ HB3.out.drew).2⟩
      obtain ⟨g8, hg8⟩ : ∃ g, w2.heap.size = g := ⟨_, rfl⟩
      rw [hg8] at HST
      rw [hg8]
      clear HK3 hg8
      (try go_wp2_with fail)
      refine wp_region_held_drew (S := (fun w' => w'.cell? ⟨g8, 0, none⟩ = some (.slice ra m rc) ∧ w'.cell? ⟨w.heap.size, 1, none⟩ = some (.slice la n lc))) (by kernel_rfl) HST.out (fun hS => ?_)
      refine wpAnyH_take (i := 0) (oi := ({ dst := some 32, op := Op.fieldAddr 49 (Operand.tmp 8) 0, type := 0, pos := "law.go:60", after := #[], guard := none } : Oper)) (v := ?_) rfl (by kernel_rfl) (by kernel_rfl) (by kernel_rfl) (fun _ _ _ h => h) (Or.inl ⟨by rfl, ?_⟩) hS ?_
      rotate_left
      · (intro w hSw; (try dsimp only at hSw); go_simp; try with_reducible rfl)
      (try simp only [Act.put, List.setIfInBounds_toArray, List.set_cons_zero, List.set_cons_succ])
      refine wpAnyH_take (i := 1) (oi := ({ dst := some 33, op := Op.load 23 (Operand.tmp 32), type := 23, pos := "law.go:60", after := #[{ on := 0, ground := Ground.data }], guard := none } : Oper)) (v := ?_) rfl (by kernel_rfl) (by kernel_rfl) (by kernel_rfl) (fun _ _ _ h => h) (Or.inl ⟨by rfl, ?_⟩) hS ?_
      rotate_left
      · (intro w hSw; (try dsimp only at hSw); go_simp; try with_reducible rfl)
      (try simp only [Act.put, List.setIfInBounds_toArray, List.set_cons_zero, List.set_cons_succ])
      refine wpAnyH_take (i := 2) (oi := ({ dst := some 34, op := Op.call { callee := Callee.builtin Builtin.len, args := #[Operand.tmp 33], argTypes := #[23] }, type := 3, pos := "law.go:60", after := #[{ on := 1, ground := Ground.data }], guard := none } : Oper)) (v := ?_) rfl (by kernel_rfl) (by kernel_rfl) (by kernel_rfl) (fun _ _ _ h => h) (Or.inl ⟨by rfl, ?_⟩) hS ?_
      rotate_left
      · (intro w hSw; (try dsimp only at hSw); go_simp; try with_reducible rfl)
      (try simp only [Act.put, List.setIfInBounds_toArray, List.set_cons_zero, List.set_cons_succ])
      refine wpAnyH_take (i := 3) (oi := ({ dst := some 35, op := Op.move (Operand.tmp 6), type := 3, pos := "law.go:60", after := #[], guard := none } : Oper)) (v := ?_) rfl (by kernel_rfl) (by kernel_rfl) (by kernel_rfl) (fun _ _ _ h => h) (Or.inl ⟨by rfl, ?_⟩) hS ?_
      rotate_left
      · (intro w hSw; (try dsimp only at hSw); go_simp; try with_reducible rfl)
      (try simp only [Act.put, List.setIfInBounds_toArray, List.set_cons_zero, List.set_cons_succ])
      refine wpAnyH_take (i := 4) (oi := ({ dst := some 36, op := Op.binOp BinOp.geq 3 (Operand.tmp 34) (Operand.tmp 35) 3, type := 4, pos := "law.go:60", after := #[{ on := 2, ground := Ground.data }, { on := 3, ground := Ground.data }], guard := none } : Oper)) (v := ?_) rfl (by kernel_rfl) (by kernel_rfl) (by kernel_rfl) (fun _ _ _ h => h) (Or.inl ⟨by rfl, ?_⟩) hS ?_
      rotate_left
      · (intro w hSw; (try dsimp only at hSw); go_simp; try with_reducible rfl)
      (try simp only [Act.put, List.setIfInBounds_toArray, List.set_cons_zero, List.set_cons_succ])
      refine wpAnyH_take (i := 5) (oi := ({ dst := some 37, op := Op.move (Operand.tmp 36), type := 4, pos := "law.go:60", after := #[{ on := 4, ground := Ground.data }], guard := none } : Oper)) (v := ?_) rfl (by kernel_rfl) (by kernel_rfl) (by kernel_rfl) (fun _ _ _ h => h) (Or.inl ⟨by rfl, ?_⟩) hS ?_
      rotate_left
      · (intro w hSw; (try dsimp only at hSw); go_simp; try with_reducible rfl)
      (try simp only [Act.put, List.setIfInBounds_toArray, List.set_cons_zero, List.set_cons_succ])
      refine wpAnyH_take (i := 6) (oi := ({ dst := some 38, op := Op.fieldAddr 49 (Operand.tmp 8) 0, type := 0, pos := "law.go:60", after := #[{ on := 5, ground := Ground.guard }], guard := some (5, true) } : Oper)) (v := ?_) rfl (by kernel_rfl) (by kernel_rfl) (by kernel_rfl) (fun _ _ _ h => h) (Or.inl ⟨by rfl, ?_⟩) hS ?_
      rotate_left
      · (intro w hSw; (try dsimp only at hSw); go_simp; try with_reducible rfl)
      (try simp only [Act.put, List.setIfInBounds_toArray, List.set_cons_zero, List.set_cons_succ])
      refine wpAnyH_take (i := 7) (oi := ({ dst := some 39, op := Op.load 23 (Operand.tmp 38), type := 23, pos := "law.go:60", after := #[{ on := 6, ground := Ground.data }, { on := 5, ground := Ground.guard }], guard := some (5, true) } : Oper)) (v := ?_) rfl (by kernel_rfl) (by kernel_rfl) (by kernel_rfl) (fun _ _ _ h => h) (Or.inl ⟨by rfl, ?_⟩) hS ?_
      rotate_left
      · (intro w hSw; (try dsimp only at hSw); go_simp; try with_reducible rfl)
      (try simp only [Act.put, List.setIfInBounds_toArray, List.set_cons_zero, List.set_cons_succ])
      refine wpAnyH_take (i := 8) (oi := ({ dst := some 40, op := Op.call { callee := Callee.builtin Builtin.len, args := #[Operand.tmp 39], argTypes := #[23] }, type := 3, pos := "law.go:60", after := #[{ on := 7, ground := Ground.data }, { on := 5, ground := Ground.guard }], guard := some (5, true) } : Oper)) (v := ?_) rfl (by kernel_rfl) (by kernel_rfl) (by kernel_rfl) (fun _ _ _ h => h) (Or.inl ⟨by rfl, ?_⟩) hS ?_
      rotate_left
      · (intro w hSw; (try dsimp only at hSw); go_simp; try with_reducible rfl)
      (try simp only [Act.put, List.setIfInBounds_toArray, List.set_cons_zero, List.set_cons_succ])
      refine wpAnyH_take (i := 9) (oi := ({ dst := some 41, op := Op.fieldAddr 42 (Operand.tmp 2) 1, type := 0, pos := "law.go:60", after := #[{ on := 5, ground := Ground.guard }], guard := some (5, true) } : Oper)) (v := ?_) rfl (by kernel_rfl) (by kernel_rfl) (by kernel_rfl) (fun _ _ _ h => h) (Or.inl ⟨by rfl, ?_⟩) hS ?_
      rotate_left
      · (intro w hSw; (try dsimp only at hSw); go_simp; try with_reducible rfl)
      (try simp only [Act.put, List.setIfInBounds_toArray, List.set_cons_zero, List.set_cons_succ])
      refine wpAnyH_take (i := 10) (oi := ({ dst := some 42, op := Op.load 23 (Operand.tmp 41), type := 23, pos := "law.go:60", after := #[{ on := 9, ground := Ground.data }, { on := 5, ground := Ground.guard }], guard := some (5, true) } : Oper)) (v := ?_) rfl (by kernel_rfl) (by kernel_rfl) (by kernel_rfl) (fun _ _ _ h => h) (Or.inl ⟨by rfl, ?_⟩) hS ?_
      rotate_left
      · (intro w hSw; (try dsimp only at hSw); go_simp; try with_reducible rfl)
      (try simp only [Act.put, List.setIfInBounds_toArray, List.set_cons_zero, List.set_cons_succ])
      refine wpAnyH_take (i := 11) (oi := ({ dst := some 43, op := Op.call { callee := Callee.builtin Builtin.len, args := #[Operand.tmp 42], argTypes := #[23] }, type := 3, pos := "law.go:60", after := #[{ on := 10, ground := Ground.data }, { on := 5, ground := Ground.guard }], guard := some (5, true) } : Oper)) (v := ?_) rfl (by kernel_rfl) (by kernel_rfl) (by kernel_rfl) (fun _ _ _ h => h) (Or.inl ⟨by rfl, ?_⟩) hS ?_
      rotate_left
      · (intro w hSw; (try dsimp only at hSw); go_simp; try with_reducible rfl)
      (try simp only [Act.put, List.setIfInBounds_toArray, List.set_cons_zero, List.set_cons_succ])
      refine wpAnyH_take (i := 12) (oi := ({ dst := some 44, op := Op.binOp BinOp.leq 3 (Operand.tmp 40) (Operand.tmp 43) 3, type := 4, pos := "law.go:60", after := #[{ on := 8, ground := Ground.data }, { on := 11, ground := Ground.data }, { on := 5, ground := Ground.guard }], guard := some (5, true) } : Oper)) (v := ?_) rfl (by kernel_rfl) (by kernel_rfl) (by kernel_rfl) (fun _ _ _ h => h) (Or.inl ⟨by rfl, ?_⟩) hS ?_
      rotate_left
      · (intro w hSw; (try dsimp only at hSw); go_simp; try with_reducible rfl)
      (try simp only [Act.put, List.setIfInBounds_toArray, List.set_cons_zero, List.set_cons_succ])
      refine wpAnyH_take (i := 13) (oi := ({ dst := some 45, op := Op.pick (Operand.tmp 37) (Operand.tmp 44) (Operand.const (Value.bool false)), type := 4, pos := "law.go:60", after := #[{ on := 5, ground := Ground.data }, { on := 12, ground := Ground.data }], guard := none } : Oper)) (v := ?_) rfl (by kernel_rfl) (by kernel_rfl) (by kernel_rfl) (fun _ _ _ h => h) (Or.inl ⟨by rfl, ?_⟩) hS ?_
      rotate_left
      · (intro w hSw; (try dsimp only at hSw); go_simp; try with_reducible rfl)
      (try simp only [Act.put, List.setIfInBounds_toArray, List.set_cons_zero, List.set_cons_succ])
      refine wpAnyH_take (i := 14) (oi := ({ dst := some 46, op := Op.move (Operand.tmp 45), type := 4, pos := "law.go:60", after := #[{ on := 13, ground := Ground.data }, { on := 5, ground := Ground.chain }], guard := none } : Oper)) (v := ?_) rfl (by kernel_rfl) (by kernel_rfl) (by kernel_rfl) (fun _ _ _ h => h) (Or.inl ⟨by rfl, ?_⟩) hS ?_
      rotate_left
      · (intro w hSw; (try dsimp only at hSw); go_simp; try with_reducible rfl)
      (try simp only [Act.put, List.setIfInBounds_toArray, List.set_cons_zero, List.set_cons_succ])
      refine wpAnyH_take (i := 15) (oi := ({ dst := some 47, op := Op.fieldAddr 49 (Operand.tmp 8) 0, type := 0, pos := "law.go:60", after := #[{ on := 14, ground := Ground.guard }], guard := some (14, true) } : Oper)) (v := ?_) rfl (by kernel_rfl) (by kernel_rfl) (by kernel_rfl) (fun _ _ _ h => h) (Or.inl ⟨by rfl, ?_⟩) hS ?_
      rotate_left
      · (intro w hSw; (try dsimp only at hSw); go_simp; try with_reducible rfl)
      (try simp only [Act.put, List.setIfInBounds_toArray, List.set_cons_zero, List.set_cons_succ])
      refine wpAnyH_take (i := 16) (oi := ({ dst := some 48, op := Op.load 23 (Operand.tmp 47), type := 23, pos := "law.go:60", after := #[{ on := 15, ground := Ground.data }, { on := 14, ground := Ground.guard }], guard := some (14, true) } : Oper)) (v := ?_) rfl (by kernel_rfl) (by kernel_rfl) (by kernel_rfl) (fun _ _ _ h => h) (Or.inl ⟨by rfl, ?_⟩) hS ?_
      rotate_left
      · (intro w hSw; (try dsimp only at hSw); go_simp; try with_reducible rfl)
      (try simp only [Act.put, List.setIfInBounds_toArray, List.set_cons_zero, List.set_cons_succ])
      refine wpAnyH_take (i := 17) (oi := ({ dst := some 49, op := Op.fieldAddr 42 (Operand.tmp 2) 1, type := 0, pos := "law.go:60", after := #[{ on := 14, ground := Ground.guard }], guard := some (14, true) } : Oper)) (v := ?_) rfl (by kernel_rfl) (by kernel_rfl) (by kernel_rfl) (fun _ _ _ h => h) (Or.inl ⟨by rfl, ?_⟩) hS ?_
      rotate_left
      · (intro w hSw; (try dsimp only at hSw); go_simp; try with_reducible rfl)
      (try simp only [Act.put, List.setIfInBounds_toArray, List.set_cons_zero, List.set_cons_succ])
      refine wpAnyH_take (i := 18) (oi := ({ dst := some 50, op := Op.load 23 (Operand.tmp 49), type := 23, pos := "law.go:60", after := #[{ on := 17, ground := Ground.data }, { on := 14, ground := Ground.guard }], guard := some (14, true) } : Oper)) (v := ?_) rfl (by kernel_rfl) (by kernel_rfl) (by kernel_rfl) (fun _ _ _ h => h) (Or.inl ⟨by rfl, ?_⟩) hS ?_
      rotate_left
      · (intro w hSw; (try dsimp only at hSw); go_simp; try with_reducible rfl)
      (try simp only [Act.put, List.setIfInBounds_toArray, List.set_cons_zero, List.set_cons_succ])
      refine wpAnyH_take (i := 19) (oi := ({ dst := some 51, op := Op.fieldAddr 49 (Operand.tmp 8) 0, type := 0, pos := "law.go:60", after := #[{ on := 14, ground := Ground.guard }], guard := some (14, true) } : Oper)) (v := ?_) rfl (by kernel_rfl) (by kernel_rfl) (by kernel_rfl) (fun _ _ _ h => h) (Or.inl ⟨by rfl, ?_⟩) hS ?_
      rotate_left
      · (intro w hSw; (try dsimp only at hSw); go_simp; try with_reducible rfl)
      (try simp only [Act.put, List.setIfInBounds_toArray, List.set_cons_zero, List.set_cons_succ])
      refine wpAnyH_take (i := 20) (oi := ({ dst := some 52, op := Op.load 23 (Operand.tmp 51), type := 23, pos := "law.go:60", after := #[{ on := 19, ground := Ground.data }, { on := 14, ground := Ground.guard }], guard := some (14, true) } : Oper)) (v := ?_) rfl (by kernel_rfl) (by kernel_rfl) (by kernel_rfl) (fun _ _ _ h => h) (Or.inl ⟨by rfl, ?_⟩) hS ?_
      rotate_left
      · (intro w hSw; (try dsimp only at hSw); go_simp; try with_reducible rfl)
      (try simp only [Act.put, List.setIfInBounds_toArray, List.set_cons_zero, List.set_cons_succ])
      refine wpAnyH_take (i := 21) (oi := ({ dst := some 53, op := Op.call { callee := Callee.builtin Builtin.len, args := #[Operand.tmp 52], argTypes := #[23] }, type := 3, pos := "law.go:60", after := #[{ on := 20, ground := Ground.data }, { on := 14, ground := Ground.guard }], guard := some (14, true) } : Oper)) (v := ?_) rfl (by kernel_rfl) (by kernel_rfl) (by kernel_rfl) (fun _ _ _ h => h) (Or.inl ⟨by rfl, ?_⟩) hS ?_
      rotate_left
      · (intro w hSw; (try dsimp only at hSw); go_simp; try with_reducible rfl)
      (try simp only [Act.put, List.setIfInBounds_toArray, List.set_cons_zero, List.set_cons_succ])
      refine wpAnyH_take (i := 22) (oi := ({ dst := some 54, op := Op.fieldAddr 42 (Operand.tmp 2) 1, type := 0, pos := "law.go:60", after := #[{ on := 14, ground := Ground.guard }], guard := some (14, true) } : Oper)) (v := ?_) rfl (by kernel_rfl) (by kernel_rfl) (by kernel_rfl) (fun _ _ _ h => h) (Or.inl ⟨by rfl, ?_⟩) hS ?_
      rotate_left
      · (intro w hSw; (try dsimp only at hSw); go_simp; try with_reducible rfl)
      (try simp only [Act.put, List.setIfInBounds_toArray, List.set_cons_zero, List.set_cons_succ])
      refine wpAnyH_take (i := 23) (oi := ({ dst := some 55, op := Op.load 23 (Operand.tmp 54), type := 23, pos := "law.go:60", after := #[{ on := 22, ground := Ground.data }, { on := 14, ground := Ground.guard }], guard := some (14, true) } : Oper)) (v := ?_) rfl (by kernel_rfl) (by kernel_rfl) (by kernel_rfl) (fun _ _ _ h => h) (Or.inl ⟨by rfl, ?_⟩) hS ?_
      rotate_left
      · (intro w hSw; (try dsimp only at hSw); go_simp; try with_reducible rfl)
      (try simp only [Act.put, List.setIfInBounds_toArray, List.set_cons_zero, List.set_cons_succ])
      refine wpAnyH_take (i := 24) (oi := ({ dst := some 56, op := Op.call { callee := Callee.builtin Builtin.len, args := #[Operand.tmp 55], argTypes := #[23] }, type := 3, pos := "law.go:60", after := #[{ on := 23, ground := Ground.data }, { on := 14, ground := Ground.guard }], guard := some (14, true) } : Oper)) (v := ?_) rfl (by kernel_rfl) (by kernel_rfl) (by kernel_rfl) (fun _ _ _ h => h) (Or.inl ⟨by rfl, ?_⟩) hS ?_
      rotate_left
      · (intro w hSw; (try dsimp only at hSw); go_simp; try with_reducible rfl)
      (try simp only [Act.put, List.setIfInBounds_toArray, List.set_cons_zero, List.set_cons_succ])
      refine wpAnyH_take (i := 25) (oi := ({ dst := some 57, op := Op.call { callee := Callee.builtin Builtin.min, args := #[Operand.tmp 53, Operand.tmp 56], argTypes := #[3, 3] }, type := 3, pos := "law.go:60", after := #[{ on := 21, ground := Ground.data }, { on := 24, ground := Ground.data }, { on := 14, ground := Ground.guard }], guard := some (14, true) } : Oper)) (v := .int .i64 (m : Int)) rfl (by kernel_rfl) (by kernel_rfl) (by kernel_rfl) (fun _ _ _ h => h) (Or.inl ⟨by rfl, ?_⟩) hS ?_
      · (intro w hSw; (try dsimp only at hSw); have z := HMI.out; go_simp; (try exact z))
      (try simp only [Act.put, List.setIfInBounds_toArray, List.set_cons_zero, List.set_cons_succ])
      refine wpAnyH_take (i := 26) (oi := ({ dst := some 58, op := Op.slice 23 (Operand.tmp 50) none (some (Operand.tmp 57)) none, type := 23, pos := "law.go:60", after := #[{ on := 18, ground := Ground.data }, { on := 25, ground := Ground.data }, { on := 14, ground := Ground.guard }], guard := some (14, true) } : Oper)) (v := .slice ma m mc) rfl (by kernel_rfl) (by kernel_rfl) (by kernel_rfl) (fun _ _ _ h => h) (Or.inl ⟨by rfl, ?_⟩) hS ?_
      · (intro w hSw; (try dsimp only at hSw); exact (exec_cutr_h (.tmp 50) (.tmp 57) rfl la n lc m rfl rfl HML.out).trans (by rw [HSL.out]))
      (try simp only [Act.put, List.setIfInBounds_toArray, List.set_cons_zero, List.set_cons_succ])
      refine rg_one 27 ({ dst := some 59, op := Op.call { callee := Callee.value (Operand.func 14), args := #[Operand.tmp 48, Operand.tmp 58], argTypes := #[23, 23] }, type := 4, pos := "law.go:60", after := #[{ on := 16, ground := Ground.data }, { on := 26, ground := Ground.data }, { on := 14, ground := Ground.chain }, { on := 14, ground := Ground.guard }], guard := some (14, true) } : Oper) (by kernel_rfl) rfl (fun K hK => ?_)
      go_simp
      (go_at_call 14; (refine (HSM.out _ _ HB3.out.drew (HR3.out.keep (Below.refl _ w3).drew)).mono ?_); rintro r w4 ⟨rfl, hb⟩; have HB4 := Lib.hid (bch HB3.out.drew hb); have hN := (show w4.cell? ⟨g8, 0, none⟩ = some (.slice ra m rc) ∧ w4.cell? ⟨w.heap.size, 1, none⟩ = some (.slice la n lc) from ⟨cell_keep hb HST.out.1, cell_keep hb HST.out.2⟩); clear hb)
      refine hK.out _ _ ?_ (fun hS1 => ?_)
      · (first | exact hN | exact hS)
      clear hK K hS; have hS := hS1; clear hS1
      (try simp only [Act.put, List.setIfInBounds_toArray, List.set_cons_zero, List.set_cons_succ])
      refine wpAnyH_take (i := 28) (oi := ({ dst := some 60, op := Op.pick (Operand.tmp 46) (Operand.tmp 59) (Operand.const (Value.bool false)), type := 4, pos := "law.go:60", after := #[{ on := 14, ground := Ground.data }, { on := 27, ground := Ground.data }], guard := none } : Oper)) (v := ?_) rfl (by kernel_rfl) (by kernel_rfl) (by kernel_rfl) (fun _ _ _ h => h) (Or.inl ⟨by rfl, ?_⟩) hS ?_
      rotate_left
      · (intro w hSw; (try dsimp only at hSw); go_simp; try with_reducible rfl)
      (try simp only [Act.put, List.setIfInBounds_toArray, List.set_cons_zero, List.set_cons_succ])
      refine wpAnyH_take (i := 29) (oi := ({ dst := some 61, op := Op.move (Operand.tmp 60), type := 4, pos := "law.go:60", after := #[{ on := 28, ground := Ground.data }, { on := 27, ground := Ground.chain }], guard := none } : Oper)) (v := ?_) rfl (by kernel_rfl) (by kernel_rfl) (by kernel_rfl) (fun _ _ _ h => h) (Or.inl ⟨by rfl, ?_⟩) hS ?_
      rotate_left
      · (intro w hSw; (try dsimp only at hSw); go_simp; try with_reducible rfl)
      (try simp only [Act.put, List.setIfInBounds_toArray, List.set_cons_zero, List.set_cons_succ])
      refine rg_one 30 ({ dst := some 62, op := Op.call { callee := Callee.value (Operand.func 7), args := #[], argTypes := #[] }, type := 4, pos := "law.go:60", after := #[{ on := 29, ground := Ground.chain }, { on := 29, ground := Ground.guard }], guard := some (29, true) } : Oper) (by kernel_rfl) rfl (fun K hK => ?_)
      go_simp
      (go_at_call 7; (refine (HAW.out _ HB4.out).mono ?_); rintro r w5 ⟨rfl, hb⟩; have HB5 := Lib.hid (bch HB4.out hb); have hN := (show w5.cell? ⟨g8, 0, none⟩ = some (.slice ra m rc) ∧ w5.cell? ⟨w.heap.size, 1, none⟩ = some (.slice la n lc) from ⟨cell_keep hb hS.1, cell_keep hb hS.2⟩); clear hb)
      refine hK.out _ _ ?_ (fun hS1 => ?_)
      · (first | exact hN | exact hS)
      clear hK K hS; have hS := hS1; clear hS1
      (try simp only [Act.put, List.setIfInBounds_toArray, List.set_cons_zero, List.set_cons_succ])
      refine wpAnyH_take (i := 31) (oi := ({ dst := some 63, op := Op.pick (Operand.tmp 61) (Operand.tmp 62) (Operand.const (Value.bool false)), type := 4, pos := "law.go:60", after := #[{ on := 29, ground := Ground.data }, { on := 30, ground := Ground.data }], guard := none } : Oper)) (v := ?_) rfl (by kernel_rfl) (by kernel_rfl) (by kernel_rfl) (fun _ _ _ h => h) (Or.inl ⟨by rfl, ?_⟩) hS ?_
      rotate_left
      · (intro w hSw; (try dsimp only at hSw); go_simp; try with_reducible rfl)
      (try simp only [Act.put, List.setIfInBounds_toArray, List.set_cons_zero, List.set_cons_succ])
      refine wpAnyH_take (i := 32) (oi := ({ dst := some 4, op := Op.assign (Operand.tmp 63), type := 4, pos := "law.go:60", after := #[{ on := 31, ground := Ground.data }, { on := 30, ground := Ground.chain }, { on := 0, ground := Ground.phase }, { on := 1, ground := Ground.phase }, { on := 2, ground := Ground.phase }, { on := 3, ground := Ground.phase }, { on := 4, ground := Ground.phase }, { on := 5, ground := Ground.phase }, { on := 6, ground := Ground.phase }, { on := 7, ground := Ground.phase }, { on := 8, ground := Ground.phase }, { on := 9, ground := Ground.phase }, { on := 10, ground := Ground.phase }, { on := 11, ground := Ground.phase }, { on := 12, ground := Ground.phase }, { on := 13, ground := Ground.phase }, { on := 14, ground := Ground.phase }, { on := 15, ground := Ground.phase }, { on := 16, ground := Ground.phase }, { on := 17, ground := Ground.phase }, { on := 18, ground := Ground.phase }, { on := 19, ground := Ground.phase }, { on := 20, ground := Ground.phase }, { on := 21, ground := Ground.phase }, { on := 22, ground := Ground.phase }, { on := 23, ground := Ground.phase }, { on := 24, ground := Ground.phase }, { on := 25, ground := Ground.phase }, { on := 26, ground := Ground.phase }, { on := 27, ground := Ground.phase }, { on := 28, ground := Ground.phase }, { on := 29, ground := Ground.phase }, { on := 30, ground := Ground.phase }, { on := 31, ground := Ground.phase }], guard := none } : Oper)) (v := ?_) rfl (by kernel_rfl) (by kernel_rfl) (by kernel_rfl) (fun _ _ _ h => h) (Or.inl ⟨by rfl, ?_⟩) hS ?_
      rotate_left
      · (intro w hSw; (try dsimp only at hSw); go_simp; try with_reducible rfl)
      (try simp only [Act.put, List.setIfInBounds_toArray, List.set_cons_zero, List.set_cons_succ])
      refine wpAnyH_done (by kernel_rfl) ?_ _
      clear hS
      go_wp2
      go_ret
      exact ⟨rfl, bch HB0.out HB5.out⟩
    · have HFE := Lib.hid hfree
      rw [decide_eq_false hcl] at HFE
      generalize synN N ls = q at *
      clear hx hlb hN hkb ht hct h hk hT hln hz1 hb0 hy0 hc0 hok hw hf h0 hfew h512 hg hsn hfs hbf0 hfree hcl
      go_enter Tryd.func4, Tryd.ntmps4
      go_wp2_with (first
        | (refine wpList_load_row rfl 42 (.tmp 2) rfl w.heap.size rfl _ #[.int .u64 x, .slice la n lc, .int .u64 N] (0, 0) _ HY0.out Tryd.underlying42 rfl syn_info ?_)
        | (refine wpList_load_row rfl 45 (.tmp 3) rfl (w.heap.size + 1) rfl _ #[.slice ka kn kc, .int .i64 torn, .int .i64 cut] (0, 0) _ HC0.out Tryd.underlying45 rfl crash_info ?_)
        | (go_at_call 12; (refine HAF.out.mono ?_); rintro r w1 ⟨a1, c1, rfl, hs, hb⟩; have HB1 := Lib.hid hb; have HS1 := Lib.hid hs; obtain ⟨t0, t1⟩ := HY.out w1 hb; clear hb hs)
        | (go_at_call 10; (with_reducible refine (HFE.out _ _ HB1.out HS1.out).mono ?_); rintro r wg ⟨rfl, hb⟩; have HBg := Lib.hid (bch HB1.out hb); clear hb)
        | (go_at_call 7; (refine (HAW.out _ HBg.out).mono ?_); rintro r w2 ⟨rfl, hb⟩; have HB2 := Lib.hid (bch HBg.out hb); clear hb))
      go_ret
      exact ⟨rfl, bch HB0.out HB2.out⟩
end Go.Proofs.YtepaghohojomeaaDoor
