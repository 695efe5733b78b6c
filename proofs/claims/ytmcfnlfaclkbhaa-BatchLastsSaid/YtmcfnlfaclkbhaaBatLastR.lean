/-
  LAYER 12 (batch): of each key the last operation: the reference's Last. Written by wip/gen/g18.py. No condition but a bound on the length.
-/
import Derived.Test.YtmcfnlfaclkbhaaBatLast
import Derived.Test.YtmcfnlfaclkbhaaBatDecR
namespace Go.Proofs.Ytmcfnlfaclkbhaa
open Go.RowKit
theorem bch2 {a b : World} (h : Below a.heap.size a b) : Below a.heap.size a b.drew := h.trans (((Below.refl _ _).drew).mono h.size)
theorem key_at {w : World} {b o : Nat} {c : AO} (h : w.rangeAt b o (oL c)) : w.cell? ⟨b, o + 1, none⟩ = some (.string c.key) := h 1 _ rfl
/-- the last ones of the first i -/
def lastI (l : List AO) (i : Nat) : List AO := lastOf (l.take i)
theorem lastI_next {l : List AO} {i : Nat} {o : AO} (ho : l[i]? = some o) : lastI l (i + 1) = ins (lastI l i) o := lastOf_take ho
theorem lastI_len (l : List AO) (i : Nat) : (lastI l i).length ≤ l.length := by
  have := lastOf_len (l.take i)
  rw [List.length_take] at this
  unfold lastI; omega
set_option maxRecDepth 8000 in
set_option maxHeartbeats 4000000 in
theorem rblast_any (v : Value) (l : List AO) (w : World) (h : OS w v l) (hl : l.length ≤ 1000) :
    Calls Try.prog 15 #[v] w fun e w' => ∃ v', e = .returned v' ∧ OS w' v' (lastOf l) ∧ Below w.heap.size w w' := by
  obtain ⟨a, c, rfl, hc, hm, _⟩ := h.form
  obtain ⟨n, hn⟩ : ∃ n, l.length = n := ⟨_, rfl⟩
  obtain ⟨m, hlm⟩ : ∃ m, lastOf l = m := ⟨_, rfl⟩
  rw [hlm]
  rw [hn] at h hc hl ⊢
  have HLM := Lib.hid hlm
  have H1 := Lib.hid h
  have HN := Lib.hid hn
  clear h hn hlm
  go_enter Try.func15, Try.ntmps15
  go_wp2
  go_loopw [3, 4] (fun x iv wr => ∃ i : Nat, iv = .int .i64 i ∧ i ≤ n ∧ Hid (wr.ownsRow w.heap.size 36 3 x (lastI l i).length (oF (lastI l i))) ∧ Hid (Below w.heap.size w wr)) (fun _ iv _ => n - (intOf iv).toNat)
  case atStart => exact ⟨0, rfl, by omega, Lib.hid (World.ownsRow_nil _ _ _ _), Lib.hid (Below.refl _ _)⟩
  case round =>
    rename World => wo
    obtain ⟨i, rfl, hi, HO, HB⟩ := hrel
    obtain ⟨pl, cl, rfl⟩ := own_form HO.out
    by_cases hlt : (i : Int) < (n : Int)
    · obtain ⟨o, b, off, ho, rfl, r1⟩ := os_at H1.out HN.out i (by omega)
      have HR1 := Lib.hid (rangeAt_keep HB.out r1)
      have HLN := Lib.hid (lastI_next ho)
      have HAK : Hid (AscK (lastI l i)) := Lib.hid (lastOf_asc _)
      have HQL : Hid ((lastI l i).length ≤ 1000) := Lib.hid (by have := lastI_len l i; have := HN.out; omega)
      obtain ⟨out, hout⟩ : ∃ out, lastI l i = out := ⟨_, rfl⟩
      rw [hout] at HLN HAK HQL HO ⊢
      have HOS := Lib.hid (OS.own HO.out)
      obtain ⟨q, hq⟩ : ∃ q, out.length = q := ⟨_, rfl⟩
      rw [hq] at HOS HQL ⊢
      have hcl : q ≤ cl ∧ cl ≤ 9223372036854775807 := by
        obtain ⟨_, _, e, h1, h2, _⟩ := HOS.out.form
        simp only [Value.slice.injEq] at e
        obtain ⟨_, _, rfl⟩ := e
        have := hq
        omega
      obtain ⟨hcl1, hcl2⟩ := hcl
      have HQ := Lib.hid hq
      clear ho r1 hout hq
      go_wp2
      go_loopw [5, 6, 7] (fun x pv kv wi => ∃ (k : Nat) (nx : List AO) (p : Bool), kv = .int .i64 k ∧ k ≤ q ∧ pv = .bool p ∧ Hid (nextF o out k = (nx, p)) ∧ Hid (wi.ownsRow wo.heap.size 36 3 x nx.length (oF nx)) ∧ Hid (Below wo.heap.size wo wi)) (fun _ _ kv _ => q - (intOf kv).toNat)
      case atStart => exact ⟨0, [], false, rfl, by omega, rfl, Lib.hid (nextF_zero _ _), Lib.hid (World.ownsRow_nil _ _ _ _), Lib.hid (Below.refl _ _)⟩
      case round =>
        rename World => wi
        obtain ⟨k, nx, p, rfl, hk, rfl, HNX, HO2, HB2⟩ := hrel
        obtain ⟨pn, cn, rfl⟩ := own_form HO2.out
        have HRO := Lib.hid (rangeAt_keep HB2.out HR1.out)
        by_cases hlt2 : (k : Int) < (q : Int)
        · obtain ⟨y, b1, off1, hy, rfl, r2⟩ := os_at HOS.out HQ.out k (by omega)
          have HRY := Lib.hid (rangeAt_keep HB2.out r2)
          have hcy := key_at HRY.out
          have hco := key_at HRO.out
          have HSU := Lib.hid (nextF_succ o out k y hy)
          have HNL : Hid (nx.length ≤ 2 * k) := Lib.hid (by have := nextF_len o out k (by have := HQ.out; omega); rw [HNX.out] at this; exact this)
          rw [HNX.out] at HSU
          have hge := fun w => geq_run (P := Try.prog) 9 y.key o.key w
          have HR0 := Lib.hid (And.intro r2 HR1.out)
          clear hy r2
          obtain ⟨g, hg⟩ : ∃ g, gtN o.key y.key = g := ⟨_, rfl⟩
          obtain ⟨e, he⟩ : ∃ e, decide (y.key = o.key) = e := ⟨_, rfl⟩
          rw [hg] at hge
          have hke : (y.key.toList == o.key.toList) = e := (same_toList _ _).trans he
          have HG : Hid (gtN o.key y.key = g) := Lib.hid hg
          have HE := Lib.hid he
          clear hg he
          rcases p with _ | _
          · rcases g with _ | _
            · skip
              go_wp2_with fail
              refine wp_region_held_drew (S := (fun W' => Below wo.heap.size wo W' ∧ W'.ownsRow wo.heap.size 36 3 (.slice pn nx.length cn) (nx.length) (oF (nx)))) (by kernel_rfl) ⟨bch2 HB2.out, own_keep HO2.out ((Below.refl _ _).drew)⟩ (fun hS => ?_)
              refine wpAnyH_take (i := 0) (oi := ({ dst := some 20, op := Op.move (Operand.tmp 6), type := 4, pos := "ref.go:52", after := #[], guard := none } : Oper)) (v := ?_) rfl (by kernel_rfl) (by kernel_rfl) (by kernel_rfl) (fun _ _ _ h => h) (Or.inl ⟨by rfl, ?_⟩) hS ?_
              rotate_left
              · (intro w hSw; (try dsimp only at hSw); go_simp; try with_reducible rfl)
              (try simp only [Act.put, List.setIfInBounds_toArray, List.set_cons_zero, List.set_cons_succ])
              refine wpAnyH_take (i := 1) (oi := ({ dst := some 21, op := Op.unOp UnOp.not 4 (Operand.tmp 20), type := 4, pos := "ref.go:52", after := #[{ on := 0, ground := Ground.data }], guard := none } : Oper)) (v := ?_) rfl (by kernel_rfl) (by kernel_rfl) (by kernel_rfl) (fun _ _ _ h => h) (Or.inl ⟨by rfl, ?_⟩) hS ?_
              rotate_left
              · (intro w hSw; (try dsimp only at hSw); go_simp; try with_reducible rfl)
              (try simp only [Act.put, List.setIfInBounds_toArray, List.set_cons_zero, List.set_cons_succ])
              refine wpAnyH_take (i := 2) (oi := ({ dst := some 22, op := Op.move (Operand.tmp 21), type := 4, pos := "ref.go:52", after := #[{ on := 1, ground := Ground.data }], guard := none } : Oper)) (v := ?_) rfl (by kernel_rfl) (by kernel_rfl) (by kernel_rfl) (fun _ _ _ h => h) (Or.inl ⟨by rfl, ?_⟩) hS ?_
              rotate_left
              · (intro w hSw; (try dsimp only at hSw); go_simp; try with_reducible rfl)
              (try simp only [Act.put, List.setIfInBounds_toArray, List.set_cons_zero, List.set_cons_succ])
              refine wpAnyH_take (i := 3) (oi := ({ dst := some 23, op := Op.move (Operand.tmp 3), type := 22, pos := "ref.go:52", after := #[{ on := 2, ground := Ground.guard }], guard := some (2, true) } : Oper)) (v := ?_) rfl (by kernel_rfl) (by kernel_rfl) (by kernel_rfl) (fun _ _ _ h => h) (Or.inl ⟨by rfl, ?_⟩) hS ?_
              rotate_left
              · (intro w hSw; (try dsimp only at hSw); go_simp; try with_reducible rfl)
              (try simp only [Act.put, List.setIfInBounds_toArray, List.set_cons_zero, List.set_cons_succ])
              refine wpAnyH_take (i := 4) (oi := ({ dst := some 24, op := Op.move (Operand.tmp 7), type := 3, pos := "ref.go:52", after := #[{ on := 2, ground := Ground.guard }], guard := some (2, true) } : Oper)) (v := ?_) rfl (by kernel_rfl) (by kernel_rfl) (by kernel_rfl) (fun _ _ _ h => h) (Or.inl ⟨by rfl, ?_⟩) hS ?_
              rotate_left
              · (intro w hSw; (try dsimp only at hSw); go_simp; try with_reducible rfl)
              (try simp only [Act.put, List.setIfInBounds_toArray, List.set_cons_zero, List.set_cons_succ])
              refine wpAnyH_take (i := 5) (oi := ({ dst := some 25, op := Op.indexAddr 22 (Operand.tmp 23) (Operand.tmp 24), type := 0, pos := "ref.go:52", after := #[{ on := 3, ground := Ground.data }, { on := 4, ground := Ground.data }, { on := 2, ground := Ground.guard }], guard := some (2, true) } : Oper)) (v := ?_) rfl (by kernel_rfl) (by kernel_rfl) (by kernel_rfl) (fun _ _ _ h => h) (Or.inl ⟨by rfl, ?_⟩) hS ?_
              rotate_left
              · (intro w hSw; (try dsimp only at hSw); go_simp; try with_reducible rfl)
              (try simp only [Act.put, List.setIfInBounds_toArray, List.set_cons_zero, List.set_cons_succ])
              refine wpAnyH_take (i := 6) (oi := ({ dst := some 26, op := Op.fieldAddr 36 (Operand.tmp 25) 1, type := 0, pos := "ref.go:52", after := #[{ on := 5, ground := Ground.data }, { on := 2, ground := Ground.guard }], guard := some (2, true) } : Oper)) (v := ?_) rfl (by kernel_rfl) (by kernel_rfl) (by kernel_rfl) (fun _ _ _ h => h) (Or.inl ⟨by rfl, ?_⟩) hS ?_
              rotate_left
              · (intro w hSw; (try dsimp only at hSw); go_simp; try with_reducible rfl)
              (try simp only [Act.put, List.setIfInBounds_toArray, List.set_cons_zero, List.set_cons_succ])
              refine wpAnyH_take (i := 7) (oi := ({ dst := some 27, op := Op.load 9 (Operand.tmp 26), type := 9, pos := "ref.go:52", after := #[{ on := 6, ground := Ground.data }, { on := 2, ground := Ground.guard }], guard := some (2, true) } : Oper)) (v := ?_) rfl (by kernel_rfl) (by kernel_rfl) (by kernel_rfl) (fun _ _ _ h => h) (Or.inl ⟨by rfl, ?_⟩) hS ?_
              rotate_left
              · (intro w hSw; (try dsimp only at hSw); have z := key_at (rangeAt_keep hSw.1 HR0.out.1); go_simp; try with_reducible rfl)
              (try simp only [Act.put, List.setIfInBounds_toArray, List.set_cons_zero, List.set_cons_succ])
              refine wpAnyH_take (i := 8) (oi := ({ dst := some 28, op := Op.move (Operand.tmp 0), type := 22, pos := "ref.go:52", after := #[{ on := 2, ground := Ground.guard }], guard := some (2, true) } : Oper)) (v := ?_) rfl (by kernel_rfl) (by kernel_rfl) (by kernel_rfl) (fun _ _ _ h => h) (Or.inl ⟨by rfl, ?_⟩) hS ?_
              rotate_left
              · (intro w hSw; (try dsimp only at hSw); go_simp; try with_reducible rfl)
              (try simp only [Act.put, List.setIfInBounds_toArray, List.set_cons_zero, List.set_cons_succ])
              refine wpAnyH_take (i := 9) (oi := ({ dst := some 29, op := Op.move (Operand.tmp 4), type := 3, pos := "ref.go:52", after := #[{ on := 2, ground := Ground.guard }], guard := some (2, true) } : Oper)) (v := ?_) rfl (by kernel_rfl) (by kernel_rfl) (by kernel_rfl) (fun _ _ _ h => h) (Or.inl ⟨by rfl, ?_⟩) hS ?_
              rotate_left
              · (intro w hSw; (try dsimp only at hSw); go_simp; try with_reducible rfl)
              (try simp only [Act.put, List.setIfInBounds_toArray, List.set_cons_zero, List.set_cons_succ])
              refine wpAnyH_take (i := 10) (oi := ({ dst := some 30, op := Op.indexAddr 22 (Operand.tmp 28) (Operand.tmp 29), type := 0, pos := "ref.go:52", after := #[{ on := 8, ground := Ground.data }, { on := 9, ground := Ground.data }, { on := 2, ground := Ground.guard }], guard := some (2, true) } : Oper)) (v := ?_) rfl (by kernel_rfl) (by kernel_rfl) (by kernel_rfl) (fun _ _ _ h => h) (Or.inl ⟨by rfl, ?_⟩) hS ?_
              rotate_left
              · (intro w hSw; (try dsimp only at hSw); go_simp; try with_reducible rfl)
              (try simp only [Act.put, List.setIfInBounds_toArray, List.set_cons_zero, List.set_cons_succ])
              refine wpAnyH_take (i := 11) (oi := ({ dst := some 31, op := Op.fieldAddr 36 (Operand.tmp 30) 1, type := 0, pos := "ref.go:52", after := #[{ on := 10, ground := Ground.data }, { on := 2, ground := Ground.guard }], guard := some (2, true) } : Oper)) (v := ?_) rfl (by kernel_rfl) (by kernel_rfl) (by kernel_rfl) (fun _ _ _ h => h) (Or.inl ⟨by rfl, ?_⟩) hS ?_
              rotate_left
              · (intro w hSw; (try dsimp only at hSw); go_simp; try with_reducible rfl)
              (try simp only [Act.put, List.setIfInBounds_toArray, List.set_cons_zero, List.set_cons_succ])
              refine wpAnyH_take (i := 12) (oi := ({ dst := some 32, op := Op.load 9 (Operand.tmp 31), type := 9, pos := "ref.go:52", after := #[{ on := 11, ground := Ground.data }, { on := 2, ground := Ground.guard }], guard := some (2, true) } : Oper)) (v := ?_) rfl (by kernel_rfl) (by kernel_rfl) (by kernel_rfl) (fun _ _ _ h => h) (Or.inl ⟨by rfl, ?_⟩) hS ?_
              rotate_left
              · (intro w hSw; (try dsimp only at hSw); have z := key_at (rangeAt_keep hSw.1 HR0.out.2); go_simp; try with_reducible rfl)
              (try simp only [Act.put, List.setIfInBounds_toArray, List.set_cons_zero, List.set_cons_succ])
              refine wpAnyH_take (i := 13) (oi := ({ dst := some 33, op := Op.binOp BinOp.geq 9 (Operand.tmp 27) (Operand.tmp 32) 9, type := 4, pos := "ref.go:52", after := #[{ on := 7, ground := Ground.data }, { on := 12, ground := Ground.data }, { on := 2, ground := Ground.guard }], guard := some (2, true) } : Oper)) (v := .bool (!false)) rfl (by kernel_rfl) (by kernel_rfl) (by kernel_rfl) (fun _ _ _ h => h) (Or.inl ⟨by rfl, ?_⟩) hS ?_
              · (intro w hSw; (try dsimp only at hSw); have z := hge; go_simp; (try simp [z]))
              (try simp only [Act.put, List.setIfInBounds_toArray, List.set_cons_zero, List.set_cons_succ])
              refine wpAnyH_take (i := 14) (oi := ({ dst := some 34, op := Op.pick (Operand.tmp 22) (Operand.tmp 33) (Operand.const (Value.bool false)), type := 4, pos := "ref.go:52", after := #[{ on := 2, ground := Ground.data }, { on := 13, ground := Ground.data }], guard := none } : Oper)) (v := ?_) rfl (by kernel_rfl) (by kernel_rfl) (by kernel_rfl) (fun _ _ _ h => h) (Or.inl ⟨by rfl, ?_⟩) hS ?_
              rotate_left
              · (intro w hSw; (try dsimp only at hSw); go_simp; try with_reducible rfl)
              (try simp only [Act.put, List.setIfInBounds_toArray, List.set_cons_zero, List.set_cons_succ])
              refine wpAnyH_done (by kernel_rfl) ?_ _
              obtain ⟨w3, hww3⟩ : ∃ q, World.drew wi = q := ⟨_, rfl⟩
              rw [hww3] at hS
              simp only [hww3]
              clear hww3
              have Hw3 := Lib.hid hS
              clear hS
              have HRO3 := Lib.hid (rangeAt_keep Hw3.out.1 HR0.out.2)
              go_wp2_with (first
                | (refine wpl_load_op rfl (.tmp 38) rfl rfl HRO3.out ?_)
                | (at_builtin; go_loud (refine wpl_app_op rfl (.tmp 35) (.tmp 40) rfl wo.heap.size _ (nx.length) (nx) rfl (Lib.hid (own_keep Hw3.out.2 (balloc _ _))) w3.heap.size o rfl (heap_alloc_last w3 _) (by have := HNL.out; have := HQL.out; omega) wo.heap.size wo (Lib.hid (bch Hw3.out.1 (balloc _ _))) (Nat.le_refl _) (Nat.le_trans (Hw3.out.1).size (balloc _ _).size) ?_); intro vw5 w5 HOw5 HBw5 HGw5; obtain ⟨pw5, cw5, rfl⟩ := own_form HOw5.out))
              refine wp_region_held_drew (S := (fun W' => Below wo.heap.size wo W' ∧ W'.ownsRow wo.heap.size 36 3 (.slice pw5 (nx.length + 1) cw5) (nx.length + 1) (oF (nx ++ [o])))) (by kernel_rfl) ⟨bch2 HBw5.out, own_keep HOw5.out ((Below.refl _ _).drew)⟩ (fun hS => ?_)
              refine wpAnyH_take (i := 0) (oi := ({ dst := some 42, op := Op.move (Operand.tmp 3), type := 22, pos := "ref.go:56", after := #[], guard := none } : Oper)) (v := ?_) rfl (by kernel_rfl) (by kernel_rfl) (by kernel_rfl) (fun _ _ _ h => h) (Or.inl ⟨by rfl, ?_⟩) hS ?_
              rotate_left
              · (intro w hSw; (try dsimp only at hSw); go_simp; try with_reducible rfl)
              (try simp only [Act.put, List.setIfInBounds_toArray, List.set_cons_zero, List.set_cons_succ])
              refine wpAnyH_take (i := 1) (oi := ({ dst := some 43, op := Op.move (Operand.tmp 7), type := 3, pos := "ref.go:56", after := #[], guard := none } : Oper)) (v := ?_) rfl (by kernel_rfl) (by kernel_rfl) (by kernel_rfl) (fun _ _ _ h => h) (Or.inl ⟨by rfl, ?_⟩) hS ?_
              rotate_left
              · (intro w hSw; (try dsimp only at hSw); go_simp; try with_reducible rfl)
              (try simp only [Act.put, List.setIfInBounds_toArray, List.set_cons_zero, List.set_cons_succ])
              refine wpAnyH_take (i := 2) (oi := ({ dst := some 44, op := Op.indexAddr 22 (Operand.tmp 42) (Operand.tmp 43), type := 0, pos := "ref.go:56", after := #[{ on := 0, ground := Ground.data }, { on := 1, ground := Ground.data }], guard := none } : Oper)) (v := ?_) rfl (by kernel_rfl) (by kernel_rfl) (by kernel_rfl) (fun _ _ _ h => h) (Or.inl ⟨by rfl, ?_⟩) hS ?_
              rotate_left
              · (intro w hSw; (try dsimp only at hSw); go_simp; try with_reducible rfl)
              (try simp only [Act.put, List.setIfInBounds_toArray, List.set_cons_zero, List.set_cons_succ])
              refine wpAnyH_take (i := 3) (oi := ({ dst := some 45, op := Op.fieldAddr 36 (Operand.tmp 44) 1, type := 0, pos := "ref.go:56", after := #[{ on := 2, ground := Ground.data }], guard := none } : Oper)) (v := ?_) rfl (by kernel_rfl) (by kernel_rfl) (by kernel_rfl) (fun _ _ _ h => h) (Or.inl ⟨by rfl, ?_⟩) hS ?_
              rotate_left
              · (intro w hSw; (try dsimp only at hSw); go_simp; try with_reducible rfl)
              (try simp only [Act.put, List.setIfInBounds_toArray, List.set_cons_zero, List.set_cons_succ])
              refine wpAnyH_take (i := 4) (oi := ({ dst := some 46, op := Op.load 9 (Operand.tmp 45), type := 9, pos := "ref.go:56", after := #[{ on := 3, ground := Ground.data }], guard := none } : Oper)) (v := ?_) rfl (by kernel_rfl) (by kernel_rfl) (by kernel_rfl) (fun _ _ _ h => h) (Or.inl ⟨by rfl, ?_⟩) hS ?_
              rotate_left
              · (intro w hSw; (try dsimp only at hSw); have z := key_at (rangeAt_keep hSw.1 HR0.out.1); go_simp; try with_reducible rfl)
              (try simp only [Act.put, List.setIfInBounds_toArray, List.set_cons_zero, List.set_cons_succ])
              refine wpAnyH_take (i := 5) (oi := ({ dst := some 47, op := Op.move (Operand.tmp 0), type := 22, pos := "ref.go:56", after := #[], guard := none } : Oper)) (v := ?_) rfl (by kernel_rfl) (by kernel_rfl) (by kernel_rfl) (fun _ _ _ h => h) (Or.inl ⟨by rfl, ?_⟩) hS ?_
              rotate_left
              · (intro w hSw; (try dsimp only at hSw); go_simp; try with_reducible rfl)
              (try simp only [Act.put, List.setIfInBounds_toArray, List.set_cons_zero, List.set_cons_succ])
              refine wpAnyH_take (i := 6) (oi := ({ dst := some 48, op := Op.move (Operand.tmp 4), type := 3, pos := "ref.go:56", after := #[], guard := none } : Oper)) (v := ?_) rfl (by kernel_rfl) (by kernel_rfl) (by kernel_rfl) (fun _ _ _ h => h) (Or.inl ⟨by rfl, ?_⟩) hS ?_
              rotate_left
              · (intro w hSw; (try dsimp only at hSw); go_simp; try with_reducible rfl)
              (try simp only [Act.put, List.setIfInBounds_toArray, List.set_cons_zero, List.set_cons_succ])
              refine wpAnyH_take (i := 7) (oi := ({ dst := some 49, op := Op.indexAddr 22 (Operand.tmp 47) (Operand.tmp 48), type := 0, pos := "ref.go:56", after := #[{ on := 5, ground := Ground.data }, { on := 6, ground := Ground.data }], guard := none } : Oper)) (v := ?_) rfl (by kernel_rfl) (by kernel_rfl) (by kernel_rfl) (fun _ _ _ h => h) (Or.inl ⟨by rfl, ?_⟩) hS ?_
              rotate_left
              · (intro w hSw; (try dsimp only at hSw); go_simp; try with_reducible rfl)
              (try simp only [Act.put, List.setIfInBounds_toArray, List.set_cons_zero, List.set_cons_succ])
              refine wpAnyH_take (i := 8) (oi := ({ dst := some 50, op := Op.fieldAddr 36 (Operand.tmp 49) 1, type := 0, pos := "ref.go:56", after := #[{ on := 7, ground := Ground.data }], guard := none } : Oper)) (v := ?_) rfl (by kernel_rfl) (by kernel_rfl) (by kernel_rfl) (fun _ _ _ h => h) (Or.inl ⟨by rfl, ?_⟩) hS ?_
              rotate_left
              · (intro w hSw; (try dsimp only at hSw); go_simp; try with_reducible rfl)
              (try simp only [Act.put, List.setIfInBounds_toArray, List.set_cons_zero, List.set_cons_succ])
              refine wpAnyH_take (i := 9) (oi := ({ dst := some 51, op := Op.load 9 (Operand.tmp 50), type := 9, pos := "ref.go:56", after := #[{ on := 8, ground := Ground.data }], guard := none } : Oper)) (v := ?_) rfl (by kernel_rfl) (by kernel_rfl) (by kernel_rfl) (fun _ _ _ h => h) (Or.inl ⟨by rfl, ?_⟩) hS ?_
              rotate_left
              · (intro w hSw; (try dsimp only at hSw); have z := key_at (rangeAt_keep hSw.1 HR0.out.2); go_simp; try with_reducible rfl)
              (try simp only [Act.put, List.setIfInBounds_toArray, List.set_cons_zero, List.set_cons_succ])
              refine wpAnyH_take (i := 10) (oi := ({ dst := some 52, op := Op.binOp BinOp.neq 9 (Operand.tmp 46) (Operand.tmp 51) 9, type := 4, pos := "ref.go:56", after := #[{ on := 4, ground := Ground.data }, { on := 9, ground := Ground.data }], guard := none } : Oper)) (v := .bool (!e)) rfl (by kernel_rfl) (by kernel_rfl) (by kernel_rfl) (fun _ _ _ h => h) (Or.inl ⟨by rfl, ?_⟩) hS ?_
              · (intro w hSw; (try dsimp only at hSw); have z := hke; go_simp; (try simp [z]))
              (try simp only [Act.put, List.setIfInBounds_toArray, List.set_cons_zero, List.set_cons_succ])
              refine wpAnyH_done (by kernel_rfl) ?_ _
              obtain ⟨w4, hww4⟩ : ∃ q, World.drew w5 = q := ⟨_, rfl⟩
              rw [hww4] at hS
              simp only [hww4]
              clear hww4
              have Hw4 := Lib.hid hS
              clear hS
              rcases e with _ | _
              · have HST : Hid (stepF o (nx, false) y = (nx ++ [o] ++ [y], true)) := Lib.hid (by unfold stepF; simp only [HG.out]; simp [of_decide_eq_false HE.out])
                clear HG HE
                have HRY4 := Lib.hid (rangeAt_keep Hw4.out.1 HR0.out.1)
                go_wp2_with (first
                  | (refine wpl_load_op rfl (.tmp 56) rfl rfl HRY4.out ?_)
                  | (at_builtin; go_loud (refine wpl_app_op rfl (.tmp 53) (.tmp 58) rfl wo.heap.size _ (nx.length + 1) (nx ++ [o]) rfl (Lib.hid (own_keep Hw4.out.2 (balloc _ _))) w4.heap.size y rfl (heap_alloc_last w4 _) (by have := HNL.out; have := HQL.out; omega) wo.heap.size wo (Lib.hid (bch Hw4.out.1 (balloc _ _))) (Nat.le_refl _) (Nat.le_trans (Hw4.out.1).size (balloc _ _).size) ?_); intro vw6 w6 HOw6 HBw6 HGw6; obtain ⟨pw6, cw6, rfl⟩ := own_form HOw6.out))
                go_roundw
                case rel => exact ⟨k + 1, _, true, by go_num, by omega, rfl, Lib.hid (HSU.out.trans HST.out), Lib.hid (by rw [List.length_append, List.length_append]; exact HOw6.out), HBw6⟩
                case measure => simp [intOf]; omega
              · have HST : Hid (stepF o (nx, false) y = (nx ++ [o], true)) := Lib.hid (by unfold stepF; simp only [HG.out]; simp [of_decide_eq_true HE.out])
                clear HG HE
                go_wp2
                go_roundw
                case rel => exact ⟨k + 1, _, true, by go_num, by omega, rfl, Lib.hid (HSU.out.trans HST.out), Lib.hid (by rw [List.length_append]; exact Hw4.out.2), Lib.hid Hw4.out.1⟩
                case measure => simp [intOf]; omega
            · skip
              go_wp2_with fail
              refine wp_region_held_drew (S := (fun W' => Below wo.heap.size wo W' ∧ W'.ownsRow wo.heap.size 36 3 (.slice pn nx.length cn) (nx.length) (oF (nx)))) (by kernel_rfl) ⟨bch2 HB2.out, own_keep HO2.out ((Below.refl _ _).drew)⟩ (fun hS => ?_)
              refine wpAnyH_take (i := 0) (oi := ({ dst := some 20, op := Op.move (Operand.tmp 6), type := 4, pos := "ref.go:52", after := #[], guard := none } : Oper)) (v := ?_) rfl (by kernel_rfl) (by kernel_rfl) (by kernel_rfl) (fun _ _ _ h => h) (Or.inl ⟨by rfl, ?_⟩) hS ?_
              rotate_left
              · (intro w hSw; (try dsimp only at hSw); go_simp; try with_reducible rfl)
              (try simp only [Act.put, List.setIfInBounds_toArray, List.set_cons_zero, List.set_cons_succ])
              refine wpAnyH_take (i := 1) (oi := ({ dst := some 21, op := Op.unOp UnOp.not 4 (Operand.tmp 20), type := 4, pos := "ref.go:52", after := #[{ on := 0, ground := Ground.data }], guard := none } : Oper)) (v := ?_) rfl (by kernel_rfl) (by kernel_rfl) (by kernel_rfl) (fun _ _ _ h => h) (Or.inl ⟨by rfl, ?_⟩) hS ?_
              rotate_left
              · (intro w hSw; (try dsimp only at hSw); go_simp; try with_reducible rfl)
              (try simp only [Act.put, List.setIfInBounds_toArray, List.set_cons_zero, List.set_cons_succ])
              refine wpAnyH_take (i := 2) (oi := ({ dst := some 22, op := Op.move (Operand.tmp 21), type := 4, pos := "ref.go:52", after := #[{ on := 1, ground := Ground.data }], guard := none } : Oper)) (v := ?_) rfl (by kernel_rfl) (by kernel_rfl) (by kernel_rfl) (fun _ _ _ h => h) (Or.inl ⟨by rfl, ?_⟩) hS ?_
              rotate_left
              · (intro w hSw; (try dsimp only at hSw); go_simp; try with_reducible rfl)
              (try simp only [Act.put, List.setIfInBounds_toArray, List.set_cons_zero, List.set_cons_succ])
              refine wpAnyH_take (i := 3) (oi := ({ dst := some 23, op := Op.move (Operand.tmp 3), type := 22, pos := "ref.go:52", after := #[{ on := 2, ground := Ground.guard }], guard := some (2, true) } : Oper)) (v := ?_) rfl (by kernel_rfl) (by kernel_rfl) (by kernel_rfl) (fun _ _ _ h => h) (Or.inl ⟨by rfl, ?_⟩) hS ?_
              rotate_left
              · (intro w hSw; (try dsimp only at hSw); go_simp; try with_reducible rfl)
              (try simp only [Act.put, List.setIfInBounds_toArray, List.set_cons_zero, List.set_cons_succ])
              refine wpAnyH_take (i := 4) (oi := ({ dst := some 24, op := Op.move (Operand.tmp 7), type := 3, pos := "ref.go:52", after := #[{ on := 2, ground := Ground.guard }], guard := some (2, true) } : Oper)) (v := ?_) rfl (by kernel_rfl) (by kernel_rfl) (by kernel_rfl) (fun _ _ _ h => h) (Or.inl ⟨by rfl, ?_⟩) hS ?_
              rotate_left
              · (intro w hSw; (try dsimp only at hSw); go_simp; try with_reducible rfl)
              (try simp only [Act.put, List.setIfInBounds_toArray, List.set_cons_zero, List.set_cons_succ])
              refine wpAnyH_take (i := 5) (oi := ({ dst := some 25, op := Op.indexAddr 22 (Operand.tmp 23) (Operand.tmp 24), type := 0, pos := "ref.go:52", after := #[{ on := 3, ground := Ground.data }, { on := 4, ground := Ground.data }, { on := 2, ground := Ground.guard }], guard := some (2, true) } : Oper)) (v := ?_) rfl (by kernel_rfl) (by kernel_rfl) (by kernel_rfl) (fun _ _ _ h => h) (Or.inl ⟨by rfl, ?_⟩) hS ?_
              rotate_left
              · (intro w hSw; (try dsimp only at hSw); go_simp; try with_reducible rfl)
              (try simp only [Act.put, List.setIfInBounds_toArray, List.set_cons_zero, List.set_cons_succ])
              refine wpAnyH_take (i := 6) (oi := ({ dst := some 26, op := Op.fieldAddr 36 (Operand.tmp 25) 1, type := 0, pos := "ref.go:52", after := #[{ on := 5, ground := Ground.data }, { on := 2, ground := Ground.guard }], guard := some (2, true) } : Oper)) (v := ?_) rfl (by kernel_rfl) (by kernel_rfl) (by kernel_rfl) (fun _ _ _ h => h) (Or.inl ⟨by rfl, ?_⟩) hS ?_
              rotate_left
              · (intro w hSw; (try dsimp only at hSw); go_simp; try with_reducible rfl)
              (try simp only [Act.put, List.setIfInBounds_toArray, List.set_cons_zero, List.set_cons_succ])
              refine wpAnyH_take (i := 7) (oi := ({ dst := some 27, op := Op.load 9 (Operand.tmp 26), type := 9, pos := "ref.go:52", after := #[{ on := 6, ground := Ground.data }, { on := 2, ground := Ground.guard }], guard := some (2, true) } : Oper)) (v := ?_) rfl (by kernel_rfl) (by kernel_rfl) (by kernel_rfl) (fun _ _ _ h => h) (Or.inl ⟨by rfl, ?_⟩) hS ?_
              rotate_left
              · (intro w hSw; (try dsimp only at hSw); have z := key_at (rangeAt_keep hSw.1 HR0.out.1); go_simp; try with_reducible rfl)
              (try simp only [Act.put, List.setIfInBounds_toArray, List.set_cons_zero, List.set_cons_succ])
              refine wpAnyH_take (i := 8) (oi := ({ dst := some 28, op := Op.move (Operand.tmp 0), type := 22, pos := "ref.go:52", after := #[{ on := 2, ground := Ground.guard }], guard := some (2, true) } : Oper)) (v := ?_) rfl (by kernel_rfl) (by kernel_rfl) (by kernel_rfl) (fun _ _ _ h => h) (Or.inl ⟨by rfl, ?_⟩) hS ?_
              rotate_left
              · (intro w hSw; (try dsimp only at hSw); go_simp; try with_reducible rfl)
              (try simp only [Act.put, List.setIfInBounds_toArray, List.set_cons_zero, List.set_cons_succ])
              refine wpAnyH_take (i := 9) (oi := ({ dst := some 29, op := Op.move (Operand.tmp 4), type := 3, pos := "ref.go:52", after := #[{ on := 2, ground := Ground.guard }], guard := some (2, true) } : Oper)) (v := ?_) rfl (by kernel_rfl) (by kernel_rfl) (by kernel_rfl) (fun _ _ _ h => h) (Or.inl ⟨by rfl, ?_⟩) hS ?_
              rotate_left
              · (intro w hSw; (try dsimp only at hSw); go_simp; try with_reducible rfl)
              (try simp only [Act.put, List.setIfInBounds_toArray, List.set_cons_zero, List.set_cons_succ])
              refine wpAnyH_take (i := 10) (oi := ({ dst := some 30, op := Op.indexAddr 22 (Operand.tmp 28) (Operand.tmp 29), type := 0, pos := "ref.go:52", after := #[{ on := 8, ground := Ground.data }, { on := 9, ground := Ground.data }, { on := 2, ground := Ground.guard }], guard := some (2, true) } : Oper)) (v := ?_) rfl (by kernel_rfl) (by kernel_rfl) (by kernel_rfl) (fun _ _ _ h => h) (Or.inl ⟨by rfl, ?_⟩) hS ?_
              rotate_left
              · (intro w hSw; (try dsimp only at hSw); go_simp; try with_reducible rfl)
              (try simp only [Act.put, List.setIfInBounds_toArray, List.set_cons_zero, List.set_cons_succ])
              refine wpAnyH_take (i := 11) (oi := ({ dst := some 31, op := Op.fieldAddr 36 (Operand.tmp 30) 1, type := 0, pos := "ref.go:52", after := #[{ on := 10, ground := Ground.data }, { on := 2, ground := Ground.guard }], guard := some (2, true) } : Oper)) (v := ?_) rfl (by kernel_rfl) (by kernel_rfl) (by kernel_rfl) (fun _ _ _ h => h) (Or.inl ⟨by rfl, ?_⟩) hS ?_
              rotate_left
              · (intro w hSw; (try dsimp only at hSw); go_simp; try with_reducible rfl)
              (try simp only [Act.put, List.setIfInBounds_toArray, List.set_cons_zero, List.set_cons_succ])
              refine wpAnyH_take (i := 12) (oi := ({ dst := some 32, op := Op.load 9 (Operand.tmp 31), type := 9, pos := "ref.go:52", after := #[{ on := 11, ground := Ground.data }, { on := 2, ground := Ground.guard }], guard := some (2, true) } : Oper)) (v := ?_) rfl (by kernel_rfl) (by kernel_rfl) (by kernel_rfl) (fun _ _ _ h => h) (Or.inl ⟨by rfl, ?_⟩) hS ?_
              rotate_left
              · (intro w hSw; (try dsimp only at hSw); have z := key_at (rangeAt_keep hSw.1 HR0.out.2); go_simp; try with_reducible rfl)
              (try simp only [Act.put, List.setIfInBounds_toArray, List.set_cons_zero, List.set_cons_succ])
              refine wpAnyH_take (i := 13) (oi := ({ dst := some 33, op := Op.binOp BinOp.geq 9 (Operand.tmp 27) (Operand.tmp 32) 9, type := 4, pos := "ref.go:52", after := #[{ on := 7, ground := Ground.data }, { on := 12, ground := Ground.data }, { on := 2, ground := Ground.guard }], guard := some (2, true) } : Oper)) (v := .bool (!true)) rfl (by kernel_rfl) (by kernel_rfl) (by kernel_rfl) (fun _ _ _ h => h) (Or.inl ⟨by rfl, ?_⟩) hS ?_
              · (intro w hSw; (try dsimp only at hSw); have z := hge; go_simp; (try simp [z]))
              (try simp only [Act.put, List.setIfInBounds_toArray, List.set_cons_zero, List.set_cons_succ])
              refine wpAnyH_take (i := 14) (oi := ({ dst := some 34, op := Op.pick (Operand.tmp 22) (Operand.tmp 33) (Operand.const (Value.bool false)), type := 4, pos := "ref.go:52", after := #[{ on := 2, ground := Ground.data }, { on := 13, ground := Ground.data }], guard := none } : Oper)) (v := ?_) rfl (by kernel_rfl) (by kernel_rfl) (by kernel_rfl) (fun _ _ _ h => h) (Or.inl ⟨by rfl, ?_⟩) hS ?_
              rotate_left
              · (intro w hSw; (try dsimp only at hSw); go_simp; try with_reducible rfl)
              (try simp only [Act.put, List.setIfInBounds_toArray, List.set_cons_zero, List.set_cons_succ])
              refine wpAnyH_done (by kernel_rfl) ?_ _
              obtain ⟨w3, hww3⟩ : ∃ q, World.drew wi = q := ⟨_, rfl⟩
              rw [hww3] at hS
              simp only [hww3]
              clear hww3
              have Hw3 := Lib.hid hS
              clear hS
              go_wp2_with fail
              have HOw3 := Lib.hid Hw3.out.2
              have HBw3 := Lib.hid Hw3.out.1
              refine wp_region_held_drew (S := (fun W' => Below wo.heap.size wo W' ∧ W'.ownsRow wo.heap.size 36 3 (.slice pn nx.length cn) (nx.length) (oF (nx)))) (by kernel_rfl) ⟨bch2 HBw3.out, own_keep HOw3.out ((Below.refl _ _).drew)⟩ (fun hS => ?_)
              refine wpAnyH_take (i := 0) (oi := ({ dst := some 42, op := Op.move (Operand.tmp 3), type := 22, pos := "ref.go:56", after := #[], guard := none } : Oper)) (v := ?_) rfl (by kernel_rfl) (by kernel_rfl) (by kernel_rfl) (fun _ _ _ h => h) (Or.inl ⟨by rfl, ?_⟩) hS ?_
              rotate_left
              · (intro w hSw; (try dsimp only at hSw); go_simp; try with_reducible rfl)
              (try simp only [Act.put, List.setIfInBounds_toArray, List.set_cons_zero, List.set_cons_succ])
              refine wpAnyH_take (i := 1) (oi := ({ dst := some 43, op := Op.move (Operand.tmp 7), type := 3, pos := "ref.go:56", after := #[], guard := none } : Oper)) (v := ?_) rfl (by kernel_rfl) (by kernel_rfl) (by kernel_rfl) (fun _ _ _ h => h) (Or.inl ⟨by rfl, ?_⟩) hS ?_
              rotate_left
              · (intro w hSw; (try dsimp only at hSw); go_simp; try with_reducible rfl)
              (try simp only [Act.put, List.setIfInBounds_toArray, List.set_cons_zero, List.set_cons_succ])
              refine wpAnyH_take (i := 2) (oi := ({ dst := some 44, op := Op.indexAddr 22 (Operand.tmp 42) (Operand.tmp 43), type := 0, pos := "ref.go:56", after := #[{ on := 0, ground := Ground.data }, { on := 1, ground := Ground.data }], guard := none } : Oper)) (v := ?_) rfl (by kernel_rfl) (by kernel_rfl) (by kernel_rfl) (fun _ _ _ h => h) (Or.inl ⟨by rfl, ?_⟩) hS ?_
              rotate_left
              · (intro w hSw; (try dsimp only at hSw); go_simp; try with_reducible rfl)
              (try simp only [Act.put, List.setIfInBounds_toArray, List.set_cons_zero, List.set_cons_succ])
              refine wpAnyH_take (i := 3) (oi := ({ dst := some 45, op := Op.fieldAddr 36 (Operand.tmp 44) 1, type := 0, pos := "ref.go:56", after := #[{ on := 2, ground := Ground.data }], guard := none } : Oper)) (v := ?_) rfl (by kernel_rfl) (by kernel_rfl) (by kernel_rfl) (fun _ _ _ h => h) (Or.inl ⟨by rfl, ?_⟩) hS ?_
              rotate_left
              · (intro w hSw; (try dsimp only at hSw); go_simp; try with_reducible rfl)
              (try simp only [Act.put, List.setIfInBounds_toArray, List.set_cons_zero, List.set_cons_succ])
              refine wpAnyH_take (i := 4) (oi := ({ dst := some 46, op := Op.load 9 (Operand.tmp 45), type := 9, pos := "ref.go:56", after := #[{ on := 3, ground := Ground.data }], guard := none } : Oper)) (v := ?_) rfl (by kernel_rfl) (by kernel_rfl) (by kernel_rfl) (fun _ _ _ h => h) (Or.inl ⟨by rfl, ?_⟩) hS ?_
              rotate_left
              · (intro w hSw; (try dsimp only at hSw); have z := key_at (rangeAt_keep hSw.1 HR0.out.1); go_simp; try with_reducible rfl)
              (try simp only [Act.put, List.setIfInBounds_toArray, List.set_cons_zero, List.set_cons_succ])
              refine wpAnyH_take (i := 5) (oi := ({ dst := some 47, op := Op.move (Operand.tmp 0), type := 22, pos := "ref.go:56", after := #[], guard := none } : Oper)) (v := ?_) rfl (by kernel_rfl) (by kernel_rfl) (by kernel_rfl) (fun _ _ _ h => h) (Or.inl ⟨by rfl, ?_⟩) hS ?_
              rotate_left
              · (intro w hSw; (try dsimp only at hSw); go_simp; try with_reducible rfl)
              (try simp only [Act.put, List.setIfInBounds_toArray, List.set_cons_zero, List.set_cons_succ])
              refine wpAnyH_take (i := 6) (oi := ({ dst := some 48, op := Op.move (Operand.tmp 4), type := 3, pos := "ref.go:56", after := #[], guard := none } : Oper)) (v := ?_) rfl (by kernel_rfl) (by kernel_rfl) (by kernel_rfl) (fun _ _ _ h => h) (Or.inl ⟨by rfl, ?_⟩) hS ?_
              rotate_left
              · (intro w hSw; (try dsimp only at hSw); go_simp; try with_reducible rfl)
              (try simp only [Act.put, List.setIfInBounds_toArray, List.set_cons_zero, List.set_cons_succ])
              refine wpAnyH_take (i := 7) (oi := ({ dst := some 49, op := Op.indexAddr 22 (Operand.tmp 47) (Operand.tmp 48), type := 0, pos := "ref.go:56", after := #[{ on := 5, ground := Ground.data }, { on := 6, ground := Ground.data }], guard := none } : Oper)) (v := ?_) rfl (by kernel_rfl) (by kernel_rfl) (by kernel_rfl) (fun _ _ _ h => h) (Or.inl ⟨by rfl, ?_⟩) hS ?_
              rotate_left
              · (intro w hSw; (try dsimp only at hSw); go_simp; try with_reducible rfl)
              (try simp only [Act.put, List.setIfInBounds_toArray, List.set_cons_zero, List.set_cons_succ])
              refine wpAnyH_take (i := 8) (oi := ({ dst := some 50, op := Op.fieldAddr 36 (Operand.tmp 49) 1, type := 0, pos := "ref.go:56", after := #[{ on := 7, ground := Ground.data }], guard := none } : Oper)) (v := ?_) rfl (by kernel_rfl) (by kernel_rfl) (by kernel_rfl) (fun _ _ _ h => h) (Or.inl ⟨by rfl, ?_⟩) hS ?_
              rotate_left
              · (intro w hSw; (try dsimp only at hSw); go_simp; try with_reducible rfl)
              (try simp only [Act.put, List.setIfInBounds_toArray, List.set_cons_zero, List.set_cons_succ])
              refine wpAnyH_take (i := 9) (oi := ({ dst := some 51, op := Op.load 9 (Operand.tmp 50), type := 9, pos := "ref.go:56", after := #[{ on := 8, ground := Ground.data }], guard := none } : Oper)) (v := ?_) rfl (by kernel_rfl) (by kernel_rfl) (by kernel_rfl) (fun _ _ _ h => h) (Or.inl ⟨by rfl, ?_⟩) hS ?_
              rotate_left
              · (intro w hSw; (try dsimp only at hSw); have z := key_at (rangeAt_keep hSw.1 HR0.out.2); go_simp; try with_reducible rfl)
              (try simp only [Act.put, List.setIfInBounds_toArray, List.set_cons_zero, List.set_cons_succ])
              refine wpAnyH_take (i := 10) (oi := ({ dst := some 52, op := Op.binOp BinOp.neq 9 (Operand.tmp 46) (Operand.tmp 51) 9, type := 4, pos := "ref.go:56", after := #[{ on := 4, ground := Ground.data }, { on := 9, ground := Ground.data }], guard := none } : Oper)) (v := .bool (!e)) rfl (by kernel_rfl) (by kernel_rfl) (by kernel_rfl) (fun _ _ _ h => h) (Or.inl ⟨by rfl, ?_⟩) hS ?_
              · (intro w hSw; (try dsimp only at hSw); have z := hke; go_simp; (try simp [z]))
              (try simp only [Act.put, List.setIfInBounds_toArray, List.set_cons_zero, List.set_cons_succ])
              refine wpAnyH_done (by kernel_rfl) ?_ _
              obtain ⟨w4, hww4⟩ : ∃ q, World.drew w3 = q := ⟨_, rfl⟩
              rw [hww4] at hS
              simp only [hww4]
              clear hww4
              have Hw4 := Lib.hid hS
              clear hS
              rcases e with _ | _
              · have HST : Hid (stepF o (nx, false) y = (nx ++ [y], false)) := Lib.hid (by unfold stepF; simp only [HG.out]; simp [of_decide_eq_false HE.out])
                clear HG HE
                have HRY4 := Lib.hid (rangeAt_keep Hw4.out.1 HR0.out.1)
                go_wp2_with (first
                  | (refine wpl_load_op rfl (.tmp 56) rfl rfl HRY4.out ?_)
                  | (at_builtin; go_loud (refine wpl_app_op rfl (.tmp 53) (.tmp 58) rfl wo.heap.size _ (nx.length) (nx) rfl (Lib.hid (own_keep Hw4.out.2 (balloc _ _))) w4.heap.size y rfl (heap_alloc_last w4 _) (by have := HNL.out; have := HQL.out; omega) wo.heap.size wo (Lib.hid (bch Hw4.out.1 (balloc _ _))) (Nat.le_refl _) (Nat.le_trans (Hw4.out.1).size (balloc _ _).size) ?_); intro vw6 w6 HOw6 HBw6 HGw6; obtain ⟨pw6, cw6, rfl⟩ := own_form HOw6.out))
                go_roundw
                case rel => exact ⟨k + 1, _, false, by go_num, by omega, rfl, Lib.hid (HSU.out.trans HST.out), Lib.hid (by rw [List.length_append]; exact HOw6.out), HBw6⟩
                case measure => simp [intOf]; omega
              · have HST : Hid (stepF o (nx, false) y = (nx, false)) := Lib.hid (by unfold stepF; simp only [HG.out]; simp [of_decide_eq_true HE.out])
                clear HG HE
                go_wp2
                go_roundw
                case rel => exact ⟨k + 1, _, false, by go_num, by omega, rfl, Lib.hid (HSU.out.trans HST.out), Lib.hid (by exact Hw4.out.2), Lib.hid Hw4.out.1⟩
                case measure => simp [intOf]; omega
          · skip
            go_wp2_with fail
            refine wp_region_held_drew (S := (fun W' => Below wo.heap.size wo W' ∧ W'.ownsRow wo.heap.size 36 3 (.slice pn nx.length cn) (nx.length) (oF (nx)))) (by kernel_rfl) ⟨bch2 HB2.out, own_keep HO2.out ((Below.refl _ _).drew)⟩ (fun hS => ?_)
            refine wpAnyH_take (i := 0) (oi := ({ dst := some 20, op := Op.move (Operand.tmp 6), type := 4, pos := "ref.go:52", after := #[], guard := none } : Oper)) (v := ?_) rfl (by kernel_rfl) (by kernel_rfl) (by kernel_rfl) (fun _ _ _ h => h) (Or.inl ⟨by rfl, ?_⟩) hS ?_
            rotate_left
            · (intro w hSw; (try dsimp only at hSw); go_simp; try with_reducible rfl)
            (try simp only [Act.put, List.setIfInBounds_toArray, List.set_cons_zero, List.set_cons_succ])
            refine wpAnyH_take (i := 1) (oi := ({ dst := some 21, op := Op.unOp UnOp.not 4 (Operand.tmp 20), type := 4, pos := "ref.go:52", after := #[{ on := 0, ground := Ground.data }], guard := none } : Oper)) (v := ?_) rfl (by kernel_rfl) (by kernel_rfl) (by kernel_rfl) (fun _ _ _ h => h) (Or.inl ⟨by rfl, ?_⟩) hS ?_
            rotate_left
            · (intro w hSw; (try dsimp only at hSw); go_simp; try with_reducible rfl)
            (try simp only [Act.put, List.setIfInBounds_toArray, List.set_cons_zero, List.set_cons_succ])
            refine wpAnyH_take (i := 2) (oi := ({ dst := some 22, op := Op.move (Operand.tmp 21), type := 4, pos := "ref.go:52", after := #[{ on := 1, ground := Ground.data }], guard := none } : Oper)) (v := ?_) rfl (by kernel_rfl) (by kernel_rfl) (by kernel_rfl) (fun _ _ _ h => h) (Or.inl ⟨by rfl, ?_⟩) hS ?_
            rotate_left
            · (intro w hSw; (try dsimp only at hSw); go_simp; try with_reducible rfl)
            (try simp only [Act.put, List.setIfInBounds_toArray, List.set_cons_zero, List.set_cons_succ])
            refine wpAnyH_take (i := 3) (oi := ({ dst := some 23, op := Op.move (Operand.tmp 3), type := 22, pos := "ref.go:52", after := #[{ on := 2, ground := Ground.guard }], guard := some (2, true) } : Oper)) (v := undef) rfl (by kernel_rfl) (by kernel_rfl) (by kernel_rfl) (fun _ _ _ h => h) (Or.inr ⟨by rfl, rfl⟩) hS ?_
            (try simp only [Act.put, List.setIfInBounds_toArray, List.set_cons_zero, List.set_cons_succ])
            refine wpAnyH_take (i := 4) (oi := ({ dst := some 24, op := Op.move (Operand.tmp 7), type := 3, pos := "ref.go:52", after := #[{ on := 2, ground := Ground.guard }], guard := some (2, true) } : Oper)) (v := undef) rfl (by kernel_rfl) (by kernel_rfl) (by kernel_rfl) (fun _ _ _ h => h) (Or.inr ⟨by rfl, rfl⟩) hS ?_
            (try simp only [Act.put, List.setIfInBounds_toArray, List.set_cons_zero, List.set_cons_succ])
            refine wpAnyH_take (i := 5) (oi := ({ dst := some 25, op := Op.indexAddr 22 (Operand.tmp 23) (Operand.tmp 24), type := 0, pos := "ref.go:52", after := #[{ on := 3, ground := Ground.data }, { on := 4, ground := Ground.data }, { on := 2, ground := Ground.guard }], guard := some (2, true) } : Oper)) (v := undef) rfl (by kernel_rfl) (by kernel_rfl) (by kernel_rfl) (fun _ _ _ h => h) (Or.inr ⟨by rfl, rfl⟩) hS ?_
            (try simp only [Act.put, List.setIfInBounds_toArray, List.set_cons_zero, List.set_cons_succ])
            refine wpAnyH_take (i := 6) (oi := ({ dst := some 26, op := Op.fieldAddr 36 (Operand.tmp 25) 1, type := 0, pos := "ref.go:52", after := #[{ on := 5, ground := Ground.data }, { on := 2, ground := Ground.guard }], guard := some (2, true) } : Oper)) (v := undef) rfl (by kernel_rfl) (by kernel_rfl) (by kernel_rfl) (fun _ _ _ h => h) (Or.inr ⟨by rfl, rfl⟩) hS ?_
            (try simp only [Act.put, List.setIfInBounds_toArray, List.set_cons_zero, List.set_cons_succ])
            refine wpAnyH_take (i := 7) (oi := ({ dst := some 27, op := Op.load 9 (Operand.tmp 26), type := 9, pos := "ref.go:52", after := #[{ on := 6, ground := Ground.data }, { on := 2, ground := Ground.guard }], guard := some (2, true) } : Oper)) (v := undef) rfl (by kernel_rfl) (by kernel_rfl) (by kernel_rfl) (fun _ _ _ h => h) (Or.inr ⟨by rfl, rfl⟩) hS ?_
            (try simp only [Act.put, List.setIfInBounds_toArray, List.set_cons_zero, List.set_cons_succ])
            refine wpAnyH_take (i := 8) (oi := ({ dst := some 28, op := Op.move (Operand.tmp 0), type := 22, pos := "ref.go:52", after := #[{ on := 2, ground := Ground.guard }], guard := some (2, true) } : Oper)) (v := undef) rfl (by kernel_rfl) (by kernel_rfl) (by kernel_rfl) (fun _ _ _ h => h) (Or.inr ⟨by rfl, rfl⟩) hS ?_
            (try simp only [Act.put, List.setIfInBounds_toArray, List.set_cons_zero, List.set_cons_succ])
            refine wpAnyH_take (i := 9) (oi := ({ dst := some 29, op := Op.move (Operand.tmp 4), type := 3, pos := "ref.go:52", after := #[{ on := 2, ground := Ground.guard }], guard := some (2, true) } : Oper)) (v := undef) rfl (by kernel_rfl) (by kernel_rfl) (by kernel_rfl) (fun _ _ _ h => h) (Or.inr ⟨by rfl, rfl⟩) hS ?_
            (try simp only [Act.put, List.setIfInBounds_toArray, List.set_cons_zero, List.set_cons_succ])
            refine wpAnyH_take (i := 10) (oi := ({ dst := some 30, op := Op.indexAddr 22 (Operand.tmp 28) (Operand.tmp 29), type := 0, pos := "ref.go:52", after := #[{ on := 8, ground := Ground.data }, { on := 9, ground := Ground.data }, { on := 2, ground := Ground.guard }], guard := some (2, true) } : Oper)) (v := undef) rfl (by kernel_rfl) (by kernel_rfl) (by kernel_rfl) (fun _ _ _ h => h) (Or.inr ⟨by rfl, rfl⟩) hS ?_
            (try simp only [Act.put, List.setIfInBounds_toArray, List.set_cons_zero, List.set_cons_succ])
            refine wpAnyH_take (i := 11) (oi := ({ dst := some 31, op := Op.fieldAddr 36 (Operand.tmp 30) 1, type := 0, pos := "ref.go:52", after := #[{ on := 10, ground := Ground.data }, { on := 2, ground := Ground.guard }], guard := some (2, true) } : Oper)) (v := undef) rfl (by kernel_rfl) (by kernel_rfl) (by kernel_rfl) (fun _ _ _ h => h) (Or.inr ⟨by rfl, rfl⟩) hS ?_
            (try simp only [Act.put, List.setIfInBounds_toArray, List.set_cons_zero, List.set_cons_succ])
            refine wpAnyH_take (i := 12) (oi := ({ dst := some 32, op := Op.load 9 (Operand.tmp 31), type := 9, pos := "ref.go:52", after := #[{ on := 11, ground := Ground.data }, { on := 2, ground := Ground.guard }], guard := some (2, true) } : Oper)) (v := undef) rfl (by kernel_rfl) (by kernel_rfl) (by kernel_rfl) (fun _ _ _ h => h) (Or.inr ⟨by rfl, rfl⟩) hS ?_
            (try simp only [Act.put, List.setIfInBounds_toArray, List.set_cons_zero, List.set_cons_succ])
            refine wpAnyH_take (i := 13) (oi := ({ dst := some 33, op := Op.binOp BinOp.geq 9 (Operand.tmp 27) (Operand.tmp 32) 9, type := 4, pos := "ref.go:52", after := #[{ on := 7, ground := Ground.data }, { on := 12, ground := Ground.data }, { on := 2, ground := Ground.guard }], guard := some (2, true) } : Oper)) (v := undef) rfl (by kernel_rfl) (by kernel_rfl) (by kernel_rfl) (fun _ _ _ h => h) (Or.inr ⟨by rfl, rfl⟩) hS ?_
            (try simp only [Act.put, List.setIfInBounds_toArray, List.set_cons_zero, List.set_cons_succ])
            refine wpAnyH_take (i := 14) (oi := ({ dst := some 34, op := Op.pick (Operand.tmp 22) (Operand.tmp 33) (Operand.const (Value.bool false)), type := 4, pos := "ref.go:52", after := #[{ on := 2, ground := Ground.data }, { on := 13, ground := Ground.data }], guard := none } : Oper)) (v := ?_) rfl (by kernel_rfl) (by kernel_rfl) (by kernel_rfl) (fun _ _ _ h => h) (Or.inl ⟨by rfl, ?_⟩) hS ?_
            rotate_left
            · (intro w hSw; (try dsimp only at hSw); go_simp; try with_reducible rfl)
            (try simp only [Act.put, List.setIfInBounds_toArray, List.set_cons_zero, List.set_cons_succ])
            refine wpAnyH_done (by kernel_rfl) ?_ _
            obtain ⟨w3, hww3⟩ : ∃ q, World.drew wi = q := ⟨_, rfl⟩
            rw [hww3] at hS
            simp only [hww3]
            clear hww3
            have Hw3 := Lib.hid hS
            clear hS
            go_wp2_with fail
            have HOw3 := Lib.hid Hw3.out.2
            have HBw3 := Lib.hid Hw3.out.1
            refine wp_region_held_drew (S := (fun W' => Below wo.heap.size wo W' ∧ W'.ownsRow wo.heap.size 36 3 (.slice pn nx.length cn) (nx.length) (oF (nx)))) (by kernel_rfl) ⟨bch2 HBw3.out, own_keep HOw3.out ((Below.refl _ _).drew)⟩ (fun hS => ?_)
            refine wpAnyH_take (i := 0) (oi := ({ dst := some 42, op := Op.move (Operand.tmp 3), type := 22, pos := "ref.go:56", after := #[], guard := none } : Oper)) (v := ?_) rfl (by kernel_rfl) (by kernel_rfl) (by kernel_rfl) (fun _ _ _ h => h) (Or.inl ⟨by rfl, ?_⟩) hS ?_
            rotate_left
            · (intro w hSw; (try dsimp only at hSw); go_simp; try with_reducible rfl)
            (try simp only [Act.put, List.setIfInBounds_toArray, List.set_cons_zero, List.set_cons_succ])
            refine wpAnyH_take (i := 1) (oi := ({ dst := some 43, op := Op.move (Operand.tmp 7), type := 3, pos := "ref.go:56", after := #[], guard := none } : Oper)) (v := ?_) rfl (by kernel_rfl) (by kernel_rfl) (by kernel_rfl) (fun _ _ _ h => h) (Or.inl ⟨by rfl, ?_⟩) hS ?_
            rotate_left
            · (intro w hSw; (try dsimp only at hSw); go_simp; try with_reducible rfl)
            (try simp only [Act.put, List.setIfInBounds_toArray, List.set_cons_zero, List.set_cons_succ])
            refine wpAnyH_take (i := 2) (oi := ({ dst := some 44, op := Op.indexAddr 22 (Operand.tmp 42) (Operand.tmp 43), type := 0, pos := "ref.go:56", after := #[{ on := 0, ground := Ground.data }, { on := 1, ground := Ground.data }], guard := none } : Oper)) (v := ?_) rfl (by kernel_rfl) (by kernel_rfl) (by kernel_rfl) (fun _ _ _ h => h) (Or.inl ⟨by rfl, ?_⟩) hS ?_
            rotate_left
            · (intro w hSw; (try dsimp only at hSw); go_simp; try with_reducible rfl)
            (try simp only [Act.put, List.setIfInBounds_toArray, List.set_cons_zero, List.set_cons_succ])
            refine wpAnyH_take (i := 3) (oi := ({ dst := some 45, op := Op.fieldAddr 36 (Operand.tmp 44) 1, type := 0, pos := "ref.go:56", after := #[{ on := 2, ground := Ground.data }], guard := none } : Oper)) (v := ?_) rfl (by kernel_rfl) (by kernel_rfl) (by kernel_rfl) (fun _ _ _ h => h) (Or.inl ⟨by rfl, ?_⟩) hS ?_
            rotate_left
            · (intro w hSw; (try dsimp only at hSw); go_simp; try with_reducible rfl)
            (try simp only [Act.put, List.setIfInBounds_toArray, List.set_cons_zero, List.set_cons_succ])
            refine wpAnyH_take (i := 4) (oi := ({ dst := some 46, op := Op.load 9 (Operand.tmp 45), type := 9, pos := "ref.go:56", after := #[{ on := 3, ground := Ground.data }], guard := none } : Oper)) (v := ?_) rfl (by kernel_rfl) (by kernel_rfl) (by kernel_rfl) (fun _ _ _ h => h) (Or.inl ⟨by rfl, ?_⟩) hS ?_
            rotate_left
            · (intro w hSw; (try dsimp only at hSw); have z := key_at (rangeAt_keep hSw.1 HR0.out.1); go_simp; try with_reducible rfl)
            (try simp only [Act.put, List.setIfInBounds_toArray, List.set_cons_zero, List.set_cons_succ])
            refine wpAnyH_take (i := 5) (oi := ({ dst := some 47, op := Op.move (Operand.tmp 0), type := 22, pos := "ref.go:56", after := #[], guard := none } : Oper)) (v := ?_) rfl (by kernel_rfl) (by kernel_rfl) (by kernel_rfl) (fun _ _ _ h => h) (Or.inl ⟨by rfl, ?_⟩) hS ?_
            rotate_left
            · (intro w hSw; (try dsimp only at hSw); go_simp; try with_reducible rfl)
            (try simp only [Act.put, List.setIfInBounds_toArray, List.set_cons_zero, List.set_cons_succ])
            refine wpAnyH_take (i := 6) (oi := ({ dst := some 48, op := Op.move (Operand.tmp 4), type := 3, pos := "ref.go:56", after := #[], guard := none } : Oper)) (v := ?_) rfl (by kernel_rfl) (by kernel_rfl) (by kernel_rfl) (fun _ _ _ h => h) (Or.inl ⟨by rfl, ?_⟩) hS ?_
            rotate_left
            · (intro w hSw; (try dsimp only at hSw); go_simp; try with_reducible rfl)
            (try simp only [Act.put, List.setIfInBounds_toArray, List.set_cons_zero, List.set_cons_succ])
            refine wpAnyH_take (i := 7) (oi := ({ dst := some 49, op := Op.indexAddr 22 (Operand.tmp 47) (Operand.tmp 48), type := 0, pos := "ref.go:56", after := #[{ on := 5, ground := Ground.data }, { on := 6, ground := Ground.data }], guard := none } : Oper)) (v := ?_) rfl (by kernel_rfl) (by kernel_rfl) (by kernel_rfl) (fun _ _ _ h => h) (Or.inl ⟨by rfl, ?_⟩) hS ?_
            rotate_left
            · (intro w hSw; (try dsimp only at hSw); go_simp; try with_reducible rfl)
            (try simp only [Act.put, List.setIfInBounds_toArray, List.set_cons_zero, List.set_cons_succ])
            refine wpAnyH_take (i := 8) (oi := ({ dst := some 50, op := Op.fieldAddr 36 (Operand.tmp 49) 1, type := 0, pos := "ref.go:56", after := #[{ on := 7, ground := Ground.data }], guard := none } : Oper)) (v := ?_) rfl (by kernel_rfl) (by kernel_rfl) (by kernel_rfl) (fun _ _ _ h => h) (Or.inl ⟨by rfl, ?_⟩) hS ?_
            rotate_left
            · (intro w hSw; (try dsimp only at hSw); go_simp; try with_reducible rfl)
            (try simp only [Act.put, List.setIfInBounds_toArray, List.set_cons_zero, List.set_cons_succ])
            refine wpAnyH_take (i := 9) (oi := ({ dst := some 51, op := Op.load 9 (Operand.tmp 50), type := 9, pos := "ref.go:56", after := #[{ on := 8, ground := Ground.data }], guard := none } : Oper)) (v := ?_) rfl (by kernel_rfl) (by kernel_rfl) (by kernel_rfl) (fun _ _ _ h => h) (Or.inl ⟨by rfl, ?_⟩) hS ?_
            rotate_left
            · (intro w hSw; (try dsimp only at hSw); have z := key_at (rangeAt_keep hSw.1 HR0.out.2); go_simp; try with_reducible rfl)
            (try simp only [Act.put, List.setIfInBounds_toArray, List.set_cons_zero, List.set_cons_succ])
            refine wpAnyH_take (i := 10) (oi := ({ dst := some 52, op := Op.binOp BinOp.neq 9 (Operand.tmp 46) (Operand.tmp 51) 9, type := 4, pos := "ref.go:56", after := #[{ on := 4, ground := Ground.data }, { on := 9, ground := Ground.data }], guard := none } : Oper)) (v := .bool (!e)) rfl (by kernel_rfl) (by kernel_rfl) (by kernel_rfl) (fun _ _ _ h => h) (Or.inl ⟨by rfl, ?_⟩) hS ?_
            · (intro w hSw; (try dsimp only at hSw); have z := hke; go_simp; (try simp [z]))
            (try simp only [Act.put, List.setIfInBounds_toArray, List.set_cons_zero, List.set_cons_succ])
            refine wpAnyH_done (by kernel_rfl) ?_ _
            obtain ⟨w4, hww4⟩ : ∃ q, World.drew w3 = q := ⟨_, rfl⟩
            rw [hww4] at hS
            simp only [hww4]
            clear hww4
            have Hw4 := Lib.hid hS
            clear hS
            rcases e with _ | _
            · have HST : Hid (stepF o (nx, true) y = (nx ++ [y], true)) := Lib.hid (by unfold stepF; simp only [HG.out]; simp [of_decide_eq_false HE.out])
              clear HG HE
              have HRY4 := Lib.hid (rangeAt_keep Hw4.out.1 HR0.out.1)
              go_wp2_with (first
                | (refine wpl_load_op rfl (.tmp 56) rfl rfl HRY4.out ?_)
                | (at_builtin; go_loud (refine wpl_app_op rfl (.tmp 53) (.tmp 58) rfl wo.heap.size _ (nx.length) (nx) rfl (Lib.hid (own_keep Hw4.out.2 (balloc _ _))) w4.heap.size y rfl (heap_alloc_last w4 _) (by have := HNL.out; have := HQL.out; omega) wo.heap.size wo (Lib.hid (bch Hw4.out.1 (balloc _ _))) (Nat.le_refl _) (Nat.le_trans (Hw4.out.1).size (balloc _ _).size) ?_); intro vw6 w6 HOw6 HBw6 HGw6; obtain ⟨pw6, cw6, rfl⟩ := own_form HOw6.out))
              go_roundw
              case rel => exact ⟨k + 1, _, true, by go_num, by omega, rfl, Lib.hid (HSU.out.trans HST.out), Lib.hid (by rw [List.length_append]; exact HOw6.out), HBw6⟩
              case measure => simp [intOf]; omega
            · have HST : Hid (stepF o (nx, true) y = (nx, true)) := Lib.hid (by unfold stepF; simp only [HG.out]; simp [of_decide_eq_true HE.out])
              clear HG HE
              go_wp2
              go_roundw
              case rel => exact ⟨k + 1, _, true, by go_num, by omega, rfl, Lib.hid (HSU.out.trans HST.out), Lib.hid (by exact Hw4.out.2), Lib.hid Hw4.out.1⟩
              case measure => simp [intOf]; omega
        · have hq2 : k = q := by omega
          subst hq2
          have hend := nextF_end o out HAK.out k (by have := HQ.out; omega)
          rw [HNX.out] at hend
          have HEN := Lib.hid hend
          have HNL : Hid (nx.length ≤ 2 * k) := Lib.hid (by have := nextF_len o out k (by have := HQ.out; omega); rw [HNX.out] at this; exact this)
          clear hend
          rcases p with _ | _
          · have HX : Hid (nx ++ [o] = lastI l (i + 1)) := Lib.hid (HEN.out.trans HLN.out.symm)
            go_wp2_with (first
              | (refine wpl_load_op rfl (.tmp 65) rfl rfl HRO.out ?_)
              | (at_builtin; refine wpl_app_op rfl (.tmp 62) (.tmp 67) rfl wo.heap.size _ _ nx rfl (Lib.hid (own_keep HO2.out (balloc _ _))) wi.heap.size o rfl (heap_alloc_last wi _) (by have := HNL.out; have := HQL.out; omega) wo.heap.size wo (Lib.hid (bch HB2.out (balloc _ _))) (Nat.le_refl _) (Nat.le_trans HB2.out.size (balloc _ _).size) ?_; intro v6 w6 HO6 HB6 HG6))
            go_roundw
            case rel => exact ⟨i + 1, by go_num, by omega, Lib.hid (by rw [← HX.out, List.length_append]; exact own_mono HO6.out HB.out.size), Lib.hid (bch HB.out HB6.out)⟩
            case measure => simp [intOf]; omega
          · have HX : Hid (nx = lastI l (i + 1)) := Lib.hid (HEN.out.trans HLN.out.symm)
            go_wp2
            go_roundw
            case rel => exact ⟨i + 1, by go_num, by omega, Lib.hid (by rw [← HX.out]; exact own_mono HO2.out HB.out.size), Lib.hid (bch HB.out HB2.out)⟩
            case measure => simp [intOf]; omega
    · have hq : i = n := by omega
      subst hq
      have hfin : lastI l i = m := by unfold lastI; rw [List.take_of_length_le (by have := HN.out; omega), HLM.out]
      have HF := Lib.hid hfin
      clear hfin
      go_wp2
      go_ret
      have h1 := HO.out
      refine ⟨_, rfl, ?_, HB.out⟩
      exact (OS.own h1).cast HF.out
end Go.Proofs.Ytmcfnlfaclkbhaa
