/-
  TEXTS JOINED: ImgSet, InRow, SeqExit, RdSeq, JoinBlk, Appw, JoinCode. Each one's own words stand at its head.
-/
import Derived.Test.YtnmplnemnfonfaaGreatDoorJ16
import Derived.Test.YtnmplnemnfonfaaGreatDoorJ1
import Derived.Deep.WholeRow
import Derived.Test.YtnmplnemnfonfaaGreatDoorJ15
import Derived.Shelf.RegionOpen
import Derived.Test.YtnmplnemnfonfaaGreatDoorJ11
import Derived.Test.YtnmplnemnfonfaaGreatDoorJ0
import Derived.WalkMore
namespace Go.Proofs.YtnmplnemnfonfaaGreatDoor
open Go.RowKit
theorem alloc2 (w : World) (a b : Obj) : ((w.alloc a).alloc b).heap[w.heap.size]? = some a ∧ ((w.alloc a).alloc b).heap[w.heap.size + 1]? = some b ∧ Below w.heap.size w ((w.alloc a).alloc b) ∧ ((w.alloc a).alloc b).heap.size = w.heap.size + 1 + 1 := by
  refine ⟨(Below.heap_alloc (w.alloc a) b _ (by simp)).trans (heap_alloc_last w a), ?_, bch (balloc w a) (balloc _ b), by simp⟩
  have := heap_alloc_last (w.alloc a) b
  rwa [alloc_size] at this
theorem alloc4 (w : World) (a b c d : Obj) : ((((w.alloc a).alloc b).alloc c).alloc d).heap[w.heap.size]? = some a ∧ ((((w.alloc a).alloc b).alloc c).alloc d).heap[w.heap.size + 1]? = some b ∧ ((((w.alloc a).alloc b).alloc c).alloc d).heap[w.heap.size + 1 + 1]? = some c ∧
    ((((w.alloc a).alloc b).alloc c).alloc d).heap[w.heap.size + 1 + 1 + 1]? = some d ∧ Below w.heap.size w ((((w.alloc a).alloc b).alloc c).alloc d) ∧ ((((w.alloc a).alloc b).alloc c).alloc d).heap.size = w.heap.size + 1 + 1 + 1 + 1 := by
  obtain ⟨h1, h2, h3, h4⟩ := alloc2 w a b
  obtain ⟨k1, k2, k3, k4⟩ := alloc2 ((w.alloc a).alloc b) c d
  rw [h4] at k1 k2 k4
  have kk : ∀ q, q < w.heap.size + 1 + 1 → ((((w.alloc a).alloc b).alloc c).alloc d).heap[q]? = ((w.alloc a).alloc b).heap[q]? := fun q hq => k3.block q (by rw [h4]; exact hq)
  exact ⟨(kk _ (by omega)).trans h1, (kk _ (by omega)).trans h2, k1, k2, h3.trans (k3.mono h3.size), k4⟩
theorem set1 {W : World} {b : Nat} {u : Value} {t : TypeId} (h : W.heap[b]? = some (.cells #[u] t (0, 0))) (v : Value) : (W.setCell ⟨b, 0, none⟩ v).heap[b]? = some (.cells #[v] t (0, 0)) := by
  have := Joins.block_setCell (i := 0) h v
  simpa using this
theorem set_other {W : World} {b b' : Nat} (h : b ≠ b') (v : Value) : (W.setCell ⟨b', 0, none⟩ v).heap[b]? = W.heap[b]? := heap_setCell_other W ⟨b', 0, none⟩ b v h
theorem cell1 {W : World} {b : Nat} {u : Value} {t : TypeId} (h : W.heap[b]? = some (.cells #[u] t (0, 0))) : W.cell? ⟨b, 0, none⟩ = some u := cell_of_row W b 0 _ _ _ h
theorem frozen1 {W : World} {b : Nat} {u : Value} {t : TypeId} (h : W.heap[b]? = some (.cells #[u] t (0, 0))) : W.frozen? ⟨b, 0, none⟩ = false := Joins.unfrozen_of_block h 0
theorem NoC.ne {W : World} {k b : Nat} {c : Array Value} {t : TypeId} {m : Nat × Nat} (h : NoC W k) (hb : W.heap[b]? = some (.cells c t m)) : k ≠ b := by
  rintro rfl
  obtain ⟨o, ho, hc⟩ := h
  rw [hb] at ho
  cases ho
  cases hc
end Go.Proofs.YtnmplnemnfonfaaGreatDoor
namespace Go.Proofs.YtnmplnemnfonfaaGreatDoor
open Go.RowKit
variable {F : Fence} {n : Nat} {P : Program} {ops : Array Oper} {rest : List Oper} {o : Oper} {a : Act} {w : World} {Q : Exit → Act → World → Prop}
theorem wplIn_val (hgd : o.guard = none) (hab : o.about P w a.eval = none) (hd : ∀ c, o.op ≠ .defer c) {v : Value} (he : (execOp a.eval o).run P w = .ok (.value v) w) (h : wpListIn F n P ops Q rest (a.put o.dst v) w) : wpListIn F n P ops Q (o :: rest) a w := by
  refine wpListIn_plain hgd fun K hK => ⟨by rw [hab]; simp, ?_⟩
  rw [Oper.semAt_plain F _ _ hd, he]
  exact hK _ _ h
theorem wplIn_load_row (hgd : o.guard = none) (ty : TypeId) (x : Operand) (ho : o.op = .load ty x) (g : Nat) (hx : a.eval x = .pointer (some ⟨g, 0, none⟩)) {v : Value} (hr : (loadVar ty ⟨g, 0, none⟩).run P w = .ok v w)
    (h : wpListIn F n P ops Q rest (a.put o.dst v) w) : wpListIn F n P ops Q (o :: rest) a w :=
  wplIn_val hgd (by simp [Oper.about, ho]) (by rw [ho]; intro c hc; cases hc) (by
    unfold execOp
    simp only [ho, hx, Instr.loadAt, Instr.sureAddr, Sem.run_bind, Sem.run_pure, Result.andThen_ok, hr]) h
theorem wplIn_load_roww (hw : Region.wanted o (yielded ops a.tmps) = true) (ty : TypeId) (x : Operand) (ho : o.op = .load ty x) (g : Nat) (hx : a.eval x = .pointer (some ⟨g, 0, none⟩)) {v : Value} (hr : (loadVar ty ⟨g, 0, none⟩).run P w = .ok v w)
    (h : wpListIn F n P ops Q rest (a.put o.dst v) w) : wpListIn F n P ops Q (o :: rest) a w := by
  refine wpListIn_step fun K hK => ?_
  rw [if_pos hw]
  refine ⟨by rw [show o.about P w a.eval = none from by simp [Oper.about, ho]]; simp, ?_⟩
  rw [Oper.semAt_plain F _ _ (by rw [ho]; intro c hc; cases hc), show (execOp a.eval o).run P w = .ok (.value v) w from by
    unfold execOp
    simp only [ho, hx, Instr.loadAt, Instr.sureAddr, Sem.run_bind, Sem.run_pure, Result.andThen_ok, hr]]
  exact hK _ _ h
theorem wplIn_store_row (hgd : o.guard = none) (ty : TypeId) (x y : Operand) (ho : o.op = .store ty x y) (g : Nat) (cells : Array Value) (hx : a.eval x = .pointer (some ⟨g, 0, none⟩)) (hy : a.eval y = .agg cells)
    (t : TypeId) (old : Array Value) (hg : w.heap[g]? = some (.cells old t (0, 0))) (hi : (P.info? ty).map (·.size) = some cells.size)
    (hold : old.size = cells.size) (h1 : cells.all (·.oneCell') = true)
    (h : wpListIn F n P ops Q rest (a.put o.dst undef) (w.setRow g cells)) : wpListIn F n P ops Q (o :: rest) a w := by
  refine wpListIn_plain hgd fun K hK => ⟨by simp [Oper.about, ho], ?_⟩
  rw [Oper.semAt_plain F _ _ (by rw [ho]; intro c hc; cases hc)]
  unfold execOp
  simp only [ho, hx, hy, Instr.storeAt, Instr.sureAddr, Sem.run_bind, Sem.run_pure, Result.andThen_ok, run_storeVar_row w g t ty old cells hg hi hold h1]
  exact hK _ _ h
end Go.Proofs.YtnmplnemnfonfaaGreatDoor
namespace Go.Proofs.YtnmplnemnfonfaaGreatDoor
open Go.RowKit
variable {F : Fence} {n : Nat} {P : Program}
structure FreeG (G b : Nat) (A B : World) : Prop where
  os : B.os = A.os
  tape : B.tape = A.tape
  output : B.output = A.output
  size : A.heap.size ≤ B.heap.size
  block : ∀ k, k < b → k ≠ G → B.heap[k]? = A.heap[k]?
  cells : ∀ (k : Nat) (o : Obj), k ≠ G → A.heap[k]? = some o → o.isCells = true → B.heap[k]? = some o
theorem FreeG.of {G b : Nat} {A B : World} (h : Free b A B) : FreeG G b A B := ⟨h.1.os, h.1.tape, h.1.output, h.1.size, fun k hk _ => h.1.block k hk, fun k o _ ho hc => h.2 k o ho hc⟩
theorem FreeG.trans {G b : Nat} {A B C : World} (h : FreeG G b A B) (k : FreeG G b B C) : FreeG G b A C :=
  ⟨k.os.trans h.os, k.tape.trans h.tape, k.output.trans h.output, Nat.le_trans h.size k.size, fun i hi hg => (k.block i hi hg).trans (h.block i hi hg), fun i o hg ho hc => k.cells i o hg (h.cells i o hg ho hc) hc⟩
theorem FreeG.mono {G b b' : Nat} {A B : World} (h : FreeG G b A B) (hb : b' ≤ b) : FreeG G b' A B := ⟨h.os, h.tape, h.output, h.size, fun k hk => h.block k (by omega), h.cells⟩
theorem FreeG.below {G b n : Nat} {A B : World} (h : FreeG G b A B) (hb : n ≤ b) (hG : n ≤ G) : Below n A B := ⟨h.os, h.tape, h.output, h.size, fun k hk => h.block k (by omega) (by omega)⟩
theorem FreeG.set {G b : Nat} (W : World) (j : Nat) (v : Value) : FreeG G b W (W.setCell ⟨G, j, none⟩ v) :=
  ⟨rfl, rfl, rfl, by simp, fun k _ hk => heap_setCell_other W ⟨G, j, none⟩ k v hk, fun k o hk ho _ => (heap_setCell_other W ⟨G, j, none⟩ k v hk).trans ho⟩
def SeqG {α σ : Type} (F : Fence) (n : Nat) (P : Program) (g : Nat) (lb : Array Value) (G : Nat) (encs : Nat → α → Array Value) (T : σ → Nat → α → World → Prop) (bad : Nat → Bool) (Kp : σ → World → σ → World → Prop) (Ok : σ → World → World → Prop) (S B : Prop) (N : Nat) (w : World) : Prop :=
  ∀ (l : Nat) (J : σ → Nat → World → Prop) (Jx : World → Prop) (f : σ) (W : World), Below w.heap.size w W → Ok f w W → (∀ f s A B, J f s A → FreeG G W.heap.size A B → J f s B) → (∀ A B, Jx A → FreeG G W.heap.size A B → Jx B) →
    (∀ f k x W1, J f k W1 → T f k x W1 → k < N → bad k = false → YieldAt F (n - 1) P l (encs k x) W1 fun e W' => e = .returned (.bool true) ∧ ∃ f', J f' (k + 1) W' ∧ Kp f W1 f' W') →
    (∀ f k x W1, J f k W1 → T f k x W1 → k < N → bad k = true → YieldAt F (n - 1) P l (encs k x) W1 fun e W' => e = .returned (.bool false) ∧ Jx W') →
    J f 0 W →
    CallsIn F n P g (#[.func (.yield l) #[] #[]] ++ lb) W fun e W' => (∃ v, e = .returned v) ∧ ((S ∧ ∃ f', J f' N W') ∨ (B ∧ Jx W'))
def jumpC : Option Nat → Code
  | none => .ret
  | some i => .exit i
def exitPost {σ : Type} (B : Nat) (Kp : σ → World → σ → World → Prop) (I : σ → Nat → World → Prop) (Ix : World → Prop) (px : Option Nat) (bad : Bool) (f : σ) (k : Nat) (W : World) : Exit → Act → World → Prop
  | .normal, _, W' => bad = false ∧ ∃ f', W'.heap[B]? = W.heap[B]? ∧ W'.heap[B + 1]? = W.heap[B + 1]? ∧ Kp f W f' W' ∧ I f' (k + 1) W'
  | .ret, _, W' => px = none ∧ bad = true ∧ W'.heap[B]? = W.heap[B]? ∧ W'.heap[B + 1]? = W.heap[B + 1]? ∧ Ix W'
  | .exit i, _, W' => px = some i ∧ bad = true ∧ W'.heap[B]? = W.heap[B]? ∧ W'.heap[B + 1]? = W.heap[B + 1]? ∧ Ix W'
  | _, _, _ => False
theorem wpIn_rangeFunc_exit {α σ : Type} {g : Operand} {ps : Array Tmp} {assign body : Code} {Q : Exit → Act → World → Prop} {a : Act} {w : World}
    (px : Option Nat) (hro : F.round = none) (h1 : 1 ≤ n) {gf : Nat} {lb : Array Value} (hg : a.eval g = .func (.func gf) #[] lb) (hFg : F.fn gf) (eg : ∀ args w, (callFunc gf args).run P w = .ok (.enter gf args) w)
    {G : Nat} (hGl : G < w.heap.size) {encs : Nat → α → Array Value} {T : σ → Nat → α → World → Prop} {bad : Nat → Bool} {Kp : σ → World → σ → World → Prop} {Ok : σ → World → World → Prop} {S Bd : Prop} {N : Nat} {w0 : World} (hseq : SeqG F (n - 1) P gf lb G encs T bad Kp Ok S Bd N w0)
    (hb0 : Below w0.heap.size w0 w) (hps : ∀ k x, (encs k x).size = ps.size) (f0 : σ) (ok : ∀ o o', Ok f0 w0 ((w.alloc o).alloc o'))
    (hKt : ∀ {a A b B c C}, Kp a A b B → Kp b B c C → Kp a A c C) (hKx : ∀ {f W W'}, Below W.heap.size W W' → Kp f W f W')
    (I : σ → Nat → World → Prop) (Ix : World → Prop) (hI : ∀ f s A B, I f s A → FreeG G w.heap.size A B → I f s B) (hIx : ∀ A B, Ix A → FreeG G w.heap.size A B → Ix B) (hT : ∀ f k x A B, T f k x A → Free w.heap.size A B → T f k x B)
    (hKb : ∀ f s W (o o' : Obj), I f s W → W.heap[w.heap.size + 1]? = some o → o.isCells = false → Kp f W f (W.putObj (w.heap.size + 1) o')) (h0 : ∀ o o', I f0 0 ((w.alloc o).alloc o'))
    (Ax : σ → Nat → α → Act → World → Prop) (hAx : ∀ f k x a' A B, Ax f k x a' A → Free w.heap.size A B → Ax f k x a' B)
    (hassign : ∀ (l : Nat) (f : σ) (k : Nat) (x : α) (W : World) (K : Act → World → Prop), I f k W → T f k x W → (∀ a' W', Below W.heap.size W W' → Ax f k x a' W' → K a' W') →
      assign.wpIn (F.inRound l) (n - 1 - 1) P (Exit.then K (fun _ _ _ => False)) { tmps := (ps.zip (encs k x)).foldl (fun t (p, v) => t.setIfInBounds p v) a.tmps, defers := [] } W)
    (hbody : ∀ (l : Nat) (f : σ) (k : Nat) (x : α) (a' : Act) (W : World), NoC W w.heap.size → NoC W (w.heap.size + 1) → I f k W → T f k x W → Ax f k x a' W → k < N → body.wpIn (F.inRound l) (n - 1 - 1) P (exitPost w.heap.size Kp I Ix px (bad k) f k W) a' W)
    (hdone : ∀ (f : σ) (W : World), S → I f N W → W.heap[w.heap.size]? = some (.deferred (some [])) → Q .normal { a with defers := { target := .collected w.heap.size, args := #[] } :: a.defers } W)
    (hstop : ∀ (W : World), Bd → Ix W → W.heap[w.heap.size]? = some (.deferred (some [])) → (jumpC px).wpIn F n P Q { a with defers := { target := .collected w.heap.size, args := #[] } :: a.defers } W) :
    (Code.rangeFunc g ps assign body).wpIn F n P Q a w := by
  refine wpIn_rangeFunc ?_
  intro fn hfn
  rw [hro]
  obtain ⟨rec, hrec⟩ : ∃ rec : LoopState → Option Code → Loop, rec = fun st pe => { state := st, pending := pe, fn, tmps := a.tmps, params := ps, assign, body, defers := w.heap.size } := ⟨_, rfl⟩
  obtain ⟨W1, hW1⟩ : ∃ W1, (w.alloc (.deferred (some []))).alloc (.loop (rec .ready none)) = W1 := ⟨_, rfl⟩
  have hL1 : W1.heap[w.heap.size + 1]? = some (.loop (rec .ready none)) := by
    rw [← hW1]; have := World.alloc_heap_new (w.alloc (.deferred (some []))) (.loop (rec .ready none)); rwa [World.size_alloc] at this
  have hK1 : W1.heap[w.heap.size]? = some (.deferred (some [])) := by
    rw [← hW1]; exact (Below.heap_alloc _ _ _ (by simp)).trans (World.alloc_heap_new w _)
  have hbw : Below w.heap.size w W1 := by rw [← hW1]; exact ((Below.refl _ w).alloc (Nat.le_refl _) _).alloc (by simp) _
  have hs1 : W1.heap.size = w.heap.size + 2 := by rw [← hW1]; simp
  have hI1 : I f0 0 W1 := by rw [← hW1]; exact h0 _ _
  have hb1 : Below w0.heap.size w0 W1 := hb0.trans (hbw.mono hb0.size)
  refine ⟨w.heap.size + 1, [{ target := .collected w.heap.size, args := #[] }], W1, { target := .fn (.func gf) lb, args := #[.func (.yield (w.heap.size + 1)) #[] #[]] }, W1, gf,
    #[.func (.yield (w.heap.size + 1)) #[] #[]] ++ lb, W1, ?_, ?_, ?_, ?_, fun _ => h1, ?_⟩
  · rw [← hW1, hrec]; exact run_enterLoop_outer _ _ _ _ _
  · simp only [resolve, hg]
    simp [go_sem]
  · intro f' hf'; simp [Target.leads] at hf'; subst hf'; exact hFg
  · simp [invoke, go_sem, eg]
  · -- what a round leaves, whichever way
    have key : ∀ f k x W, I f k W → T f k x W → k < N → W.heap[w.heap.size + 1]? = some (.loop (rec .ready none)) → W.heap[w.heap.size]? = some (.deferred (some [])) → YieldAt F (n - 1 - 1) P (w.heap.size + 1) (encs k x) W fun e W' =>
        (bad k = false ∧ e = .returned (.bool true) ∧ ∃ f', (I f' (k + 1) W' ∧ W'.heap[w.heap.size + 1]? = some (.loop (rec .ready none)) ∧ W'.heap[w.heap.size]? = some (.deferred (some []))) ∧ Kp f W f' W') ∨
        (bad k = true ∧ e = .returned (.bool false) ∧ Ix W' ∧ W'.heap[w.heap.size + 1]? = some (.loop (rec .done (some (jumpC px)))) ∧ W'.heap[w.heap.size]? = some (.deferred (some []))) := by
      intro f k x W hi htx hkn hl hk
      have hlt : w.heap.size + 1 < W.heap.size := (Array.getElem?_eq_some_iff.1 hl).1
      have hy := run_yield (P := P) (args := encs k x) hl (by rw [hrec]; exact hps k x)
      rw [hrec] at hy
      refine ⟨fn, _, assign, body, hy, roundIn_of_wpIn hfn (hassign _ f k x W _ hi htx ?_)⟩
      clear hy
      intro a' Wa hba hax
      have hfa : Free w.heap.size W Wa := Free.of hba (by omega)
      have hla : Wa.heap[w.heap.size + 1]? = some (.loop (rec .ready none)) := (hba.block _ (by omega)).trans hl
      have hka : Wa.heap[w.heap.size]? = some (.deferred (some [])) := (hba.block _ (by omega)).trans hk
      have hlta : w.heap.size + 1 < Wa.heap.size := (Array.getElem?_eq_some_iff.1 hla).1
      have hia := hI _ _ _ _ hi (.of hfa)
      refine ⟨_, run_beginRound hla (by rw [hrec]), ?_⟩
      have hf2 : Free w.heap.size Wa (Wa.putObj (w.heap.size + 1) (.loop { rec .ready none with state := .busy })) := Free.put _ (by omega) hla rfl
      have hl2 : (Wa.putObj (w.heap.size + 1) (.loop { rec .ready none with state := .busy })).heap[w.heap.size + 1]? = some (.loop { rec .ready none with state := .busy }) := World.putObj_heap_same hlta
      have hk2 : (Wa.putObj (w.heap.size + 1) (.loop { rec .ready none with state := .busy })).heap[w.heap.size]? = some (.deferred (some [])) := (World.putObj_heap_other (by omega)).trans hka
      have hw2 : Kp f Wa f (Wa.putObj (w.heap.size + 1) (.loop { rec .ready none with state := .busy })) := hKb _ _ _ _ _ hia hla rfl
      refine wpIn_mono (hbody _ f k x a' _ ⟨_, hk2, rfl⟩ ⟨_, hl2, rfl⟩ (hI _ _ _ _ hia (.of hf2)) (hT _ _ _ _ _ (hT _ _ _ _ _ htx hfa) hf2) (hAx _ _ _ _ _ _ hax hf2) hkn) ?_
      rintro e a3 W3 hp
      cases e with
      | normal =>
        obtain ⟨hbd, f', hk3, hl3, hkp3, hi3⟩ := hp
        replace hk3 := hk3.trans hk2
        replace hl3 := hl3.trans hl2
        have hr := run_endRound (P := P) none hl3
        rw [hrec] at hr
        refine ⟨_, _, hr, .inl ⟨hbd, rfl, f', ⟨hI _ _ _ _ hi3 (.of (Free.put _ (by omega) hl3 rfl)), ?_, (World.putObj_heap_other (by omega)).trans hk3⟩, hKt (hKx hba) (hKt (hKt hw2 hkp3) (hKb _ _ _ _ _ hi3 hl3 rfl))⟩⟩
        rw [hrec]
        exact World.putObj_heap_same (Array.getElem?_eq_some_iff.1 hl3).1
      | ret =>
        obtain ⟨rfl, hbd, hk3, hl3, hi3⟩ := hp
        replace hk3 := hk3.trans hk2
        replace hl3 := hl3.trans hl2
        have hr := run_endRound (P := P) (some .ret) hl3
        rw [hrec] at hr
        refine ⟨_, _, hr, .inr ⟨hbd, rfl, hIx _ _ hi3 (.of (Free.put _ (by omega) hl3 rfl)), ?_, (World.putObj_heap_other (by omega)).trans hk3⟩⟩
        rw [hrec]
        exact World.putObj_heap_same (Array.getElem?_eq_some_iff.1 hl3).1
      | exit i =>
        obtain ⟨rfl, hbd, hk3, hl3, hi3⟩ := hp
        replace hk3 := hk3.trans hk2
        replace hl3 := hl3.trans hl2
        have hr := run_endRound (P := P) (some (.exit i)) hl3
        rw [hrec] at hr
        refine ⟨_, _, hr, .inr ⟨hbd, rfl, hIx _ _ hi3 (.of (Free.put _ (by omega) hl3 rfl)), ?_, (World.putObj_heap_other (by omega)).trans hk3⟩⟩
        rw [hrec]
        exact World.putObj_heap_same (Array.getElem?_eq_some_iff.1 hl3).1
      | _ => exact hp.elim
    refine (hseq (w.heap.size + 1)
      (fun f k W => I f k W ∧ W.heap[w.heap.size + 1]? = some (.loop (rec .ready none)) ∧ W.heap[w.heap.size]? = some (.deferred (some [])))
      (fun W => Ix W ∧ W.heap[w.heap.size + 1]? = some (.loop (rec .done (some (jumpC px)))) ∧ W.heap[w.heap.size]? = some (.deferred (some [])))
      f0 W1 hb1 (by rw [← hW1]; exact ok _ _)
      (fun f s A B hs hf => ⟨hI f s A B hs.1 (hf.mono (by omega)), (hf.block _ (by omega) (by omega)).trans hs.2.1, (hf.block _ (by omega) (by omega)).trans hs.2.2⟩)
      (fun A B hs hf => ⟨hIx A B hs.1 (hf.mono (by omega)), (hf.block _ (by omega) (by omega)).trans hs.2.1, (hf.block _ (by omega) (by omega)).trans hs.2.2⟩)
      ?_ ?_ ⟨hI1, hL1, hK1⟩).mono ?_
    · rintro f k x W ⟨hi, hl, hk⟩ htx hkn hbd
      refine (key f k x W hi htx hkn hl hk).mono ?_
      rintro e W' (⟨_, he, h⟩ | ⟨h, _⟩)
      · exact ⟨he, h⟩
      · rw [hbd] at h; cases h
    · rintro f k x W ⟨hi, hl, hk⟩ htx hkn hbd
      refine (key f k x W hi htx hkn hl hk).mono ?_
      rintro e W' (⟨h, _⟩ | ⟨_, he, h⟩)
      · rw [hbd] at h; cases h
      · exact ⟨he, h⟩
    · -- behind the iterator
      rintro e W2 ⟨⟨v, rfl⟩, (⟨hS, f', hi, hl, hk⟩ | ⟨hB, hi, hl, hk⟩)⟩
      · exact ⟨none, _, by have := run_endLoop (P := P) hl (by rw [hrec]; simp); rw [hrec] at this; exact this, hdone f' _ hS (hI _ _ _ _ hi (.of (Free.put _ (by omega) hl rfl))) ((World.putObj_heap_other (by omega)).trans hk)⟩
      · exact ⟨some (jumpC px), _, by have := run_endLoop (P := P) hl (by rw [hrec]; simp); rw [hrec] at this; exact this, hstop _ hB (hIx _ _ hi (.of (Free.put _ (by omega) hl rfl))) ((World.putObj_heap_other (by omega)).trans hk)⟩
end Go.Proofs.YtnmplnemnfonfaaGreatDoor
namespace Go.Proofs.YtnmplnemnfonfaaGreatDoor
open Go.RowKit
attribute [local go_sem] Oper.semAt_some
theorem bd_info (c : Array Value) (h : c.size = 3) : (Tryz.prog.info? 134).map (·.size) = some c.size := by rw [h]; kernel_rfl
theorem bd_one (e : Int) (a b : Option Addr) (n m n' m' : Nat) : (rbA e (.slice a n m) (.slice b n' m')).all (·.oneCell') = true := by simp [rbA, Value.oneCell']
def RO (w : World) (b : Nat) (e : Int) (rv kv : Value) : Prop := w.heap[b]? = some (.cells (rbA e rv kv) 134 (0, 0))
theorem RO.load {w : World} {b : Nat} {e : Int} {rv kv : Value} (h : RO w b e rv kv) : (loadVar 134 ⟨b, 0, none⟩).run Tryz.prog w = .ok (.agg (rbA e rv kv)) w :=
  run_loadVar_row w b _ 134 (rbA e rv kv) (0, 0) _ h Tryz.underlying134 rfl (bd_info _ rfl)
theorem RO.new {w : World} (c : Array Value) (e : Int) (rv kv : Value) : RO ((w.alloc (.cells c 134)).setRow w.heap.size (rbA e rv kv)) w.heap.size e rv kv := setRow_heap _ _ _ _ _ _ (heap_alloc_last w _)
abbrev FrX := Option Addr × Nat
def encG (pl : Nat → Int) (fr : Nat → FR × Nat) (k : Nat) (x : FrX) : Array Value :=
  #[.agg (fA (fr k).1.kind (fr k).1.epoch (.slice x.1 (fr k).1.data.length x.2)), .int .i64 (pl k + ((fr k).2 : Nat))]
def TG (fr : Nat → FR × Nat) (f : Nat → Bool) (k : Nat) (x : FrX) (W : World) : Prop :=
  ∃ base, W.ownsRow base 5 1 (.slice x.1 (fr k).1.data.length x.2) (fr k).1.data.length (il .u8 (fr k).1.data) ∧ ∀ q, f q = true → q < base
theorem TG.free {fr : Nat → FR × Nat} {f : Nat → Bool} {k : Nat} {x : FrX} {A B : World} {b : Nat} (h : TG fr f k x A) (hf : Free b A B) : TG fr f k x B := by
  obtain ⟨base, h1, h2⟩ := h
  exact ⟨base, own_free' h1 hf, h2⟩
def badG (k0 : Nat) (st : Bool) (k : Nat) : Bool := decide (k = k0) && !st
def OkG (Ba : Nat) (f : Nat → Bool) (_ W : World) : Prop := Foot f W.heap.size ∧ f Ba = false
def numG (k0 : Nat) (st : Bool) : Nat := if st = true then k0 else k0 + 1
def rdM : Option Value → Nat
  | some (.int _ n) => (832 - n).toNat
  | _ => 0
theorem frags_any (x : Int) (va : Option Addr) (m vc : Nat) (p : Int) (w : World) : CallsIn Fence.wide 6 Tryz.prog 38 #[.int .u64 x, .slice va m vc, .int .i64 p] w fun e w' =>
    e = .returned (.func (.func 64) #[] #[.pointer (some ⟨w.heap.size, 0, none⟩), .pointer (some ⟨w.heap.size + 1, 0, none⟩), .pointer (some ⟨w.heap.size + 1 + 1, 0, none⟩)]) ∧
    w' = ((w.alloc (.cells #[.int .u64 x] 22)).alloc (.cells #[.slice va m vc] 29)).alloc (.cells #[.int .i64 p] 3) := by
  refine callsIn_of_wp Tryz.func38 rfl trivial ?_ rfl
  simp only [Tryz.ntmps38, List.size_toArray, List.length_cons, List.length_nil, Nat.reduceAdd, Nat.reduceSub, Array.replicate_succ, Array.replicate_zero, List.push_toArray, List.append_toArray, List.nil_append, List.cons_append]
  gi_wp2
  go_ret
  exact ⟨rfl, rfl⟩
structure RI3 (we W : World) (x : Int) (B : List Int) (K : List Bool) (Be Bl Ba bb g1 g2 : Nat) (pl : Nat → Int) (k : Nat) (f : Nat → Bool) (w : World) : Prop where
  va : w.heap[Ba]? = some (.cells #[.int .i64 (pl k)] 3 (0, 0))
  bo : RO w bb (x % 4294967296) (.slice (some ⟨g1, 0, none⟩) 832 832) (.slice (some ⟨g2, 0, none⟩) 16 16)
  y : YB w g1 B
  kb : KB w g2 K
  foot : Foot f w.heap.size
  fa : f Ba = false
  fb : f bb = false
  f1 : f g1 = false
  f2 : f g2 = false
  below : Below we.heap.size we w
  size : W.heap.size ≤ w.heap.size
theorem RI3.next {we W : World} {x : Int} {B : List Int} {K : List Bool} {Be Bl Ba bb g1 g2 : Nat} {pl : Nat → Int} {k : Nat} {f : Nat → Bool} {w w' : World} (h : RI3 we W x B K Be Bl Ba bb g1 g2 pl k f w) (hb : Below w.heap.size w w') : RI3 we W x B K Be Bl Ba bb g1 g2 pl k f w' := by
  have hk : ∀ (q : Nat) (o : Obj), w.heap[q]? = some o → w'.heap[q]? = some o := fun q o ho => (hb.block q (Array.getElem?_eq_some_iff.1 ho).1).trans ho
  exact ⟨hk _ _ h.va, hk _ _ h.bo, hk _ _ h.y, hk _ _ h.kb, h.foot.mono hb.size, h.fa, h.fb, h.f1, h.f2, bch h.below hb, Nat.le_trans h.size hb.size⟩
theorem RI3.round {we W : World} {x : Int} {B : List Int} {K : List Bool} {Be Bl Ba bb g1 g2 : Nat} {pl : Nat → Int} {k : Nat} {f f' : Nat → Bool} {w w' : World} (h : RI3 we W x B K Be Bl Ba bb g1 g2 pl k f w) (hk : KpI we.heap.size f w f' w') : RI3 we W x B K Be Bl Ba bb g1 g2 pl k f' w' := by
  have hl : ∀ (q : Nat) (o : Obj), w.heap[q]? = some o → q < w.heap.size := fun q o ho => (Array.getElem?_eq_some_iff.1 ho).1
  exact ⟨hk.cells _ _ h.fa h.va rfl, hk.cells _ _ h.fb h.bo rfl, hk.cells _ _ h.f1 h.y rfl, hk.cells _ _ h.f2 h.kb rfl, hk.foot h.foot, (hk.old _ (hl _ _ h.va)).trans h.fa, (hk.old _ (hl _ _ h.bo)).trans h.fb, (hk.old _ (hl _ _ h.y)).trans h.f1, (hk.old _ (hl _ _ h.kb)).trans h.f2,
    h.below.trans (hk.below h.below.size), Nat.le_trans h.size hk.size⟩
theorem RI3.set {we W : World} {x : Int} {B : List Int} {K : List Bool} {Be Bl Ba bb g1 g2 : Nat} {pl : Nat → Int} {k : Nat} {f : Nat → Bool} {w : World} (h : RI3 we W x B K Be Bl Ba bb g1 g2 pl k f w) (hwe : we.heap.size ≤ Ba) {p : Int} (hp : p = pl (k + 1)) :
    RI3 we W x B K Be Bl Ba bb g1 g2 pl (k + 1) f (w.setCell ⟨Ba, 0, none⟩ (.int .i64 p)) := by
  subst hp
  have hne : ∀ {q : Nat} {c : Array Value} {t : TypeId}, t ≠ 3 → w.heap[q]? = some (.cells c t (0, 0)) → (w.setCell ⟨Ba, 0, none⟩ (.int .i64 (pl (k + 1)))).heap[q]? = some (.cells c t (0, 0)) := fun ht hq => by
    rw [set_other]
    · exact hq
    · intro e
      subst e
      rw [h.va] at hq
      simp only [Option.some.injEq, Obj.cells.injEq] at hq
      exact ht hq.2.1.symm
  exact ⟨set1 h.va _, hne (by decide) h.bo, hne (by decide) h.y, hne (by decide) h.kb, by simpa using h.foot, h.fa, h.fb, h.f1, h.f2, bset h.below hwe (Nat.le_refl _) 0 _, by simpa using h.size⟩
set_option maxRecDepth 8000 in
set_option maxHeartbeats 4000000 in
theorem frags_told (n : Nat) (hn : 1 ≤ n) (x : Int) (hx : U64 x) (we : World) (v : Value) (m : Nat) (fs : List Int) (hbf : Bytes fs) (hfs : FS we v m fs) (pl : Nat → Int) (fr : Nat → FR × Nat) (k0 : Nat) (st : Bool)
    (hfr : ∀ k, k ≤ k0 → ∀ (w' : World) (bv kv : Value), Below we.heap.size we w' → RI .u8 w' bv 832 (flatB x m fs 16) → BS w' kv 16 (flatK x m fs 16) → Calls Tryz.prog 66 #[.agg (rbA (x % 4294967296) bv kv), .int .i64 (pl k)] w' (BFragT (fr k) (pl k) w'))
    (hst : (fr k0).2 = 0 ↔ st = true) (hgo : ∀ k, k < k0 → (fr k).2 ≠ 0)
    (hpl : ∀ k, k < k0 → pl (k + 1) = (beginN (nr (pl k + ((fr k).2 : Nat))) : Nat) ∧ I63 (pl k + ((fr k).2 : Nat)) ∧ pl k < pl (k + 1) ∧ pl (k + 1) ≤ 832)
    (w : World) (Be Bl Ba : Nat) (hbe : Below we.heap.size we w) (hBe : Be < w.heap.size) (hBl : Bl < w.heap.size) (hBa : Ba < w.heap.size) (hwe : we.heap.size ≤ Ba)
    (ce : w.heap[Be]? = some (.cells #[.int .u64 x] 22 (0, 0))) (cl : w.heap[Bl]? = some (.cells #[v] 29 (0, 0))) (ca : w.heap[Ba]? = some (.cells #[.int .i64 (pl 0)] 3 (0, 0))) :
    SeqG Fence.wide n Tryz.prog 64 #[.pointer (some ⟨Be, 0, none⟩), .pointer (some ⟨Bl, 0, none⟩), .pointer (some ⟨Ba, 0, none⟩)] Ba (encG pl fr) (TG fr) (badG k0 st) (KpI we.heap.size) (OkG Ba) (st = true) (st = false) (numG k0 st) w := by
  intro l J Jx f W hb hOk hJ hJx hG hBd h0
  have hEW := (hb.block Be hBe).trans ce
  have hLW := (hb.block Bl hBl).trans cl
  have hAW := (hb.block Ba hBa).trans ca
  have hbW : Below we.heap.size we W := hbe.trans (hb.mono hbe.size)
  obtain ⟨hfo, hfa⟩ := hOk
  have hxx : 0 ≤ x ∧ x ≤ 18446744073709551615 := hx
  have HCV : Hid (IntKind.u32.wrap x = x % 4294967296) := Lib.hid (by simp [IntKind.wrap, IntKind.signed, IntKind.bits])
  have HFL : Hid (Calls Tryz.prog 65 #[.int .u64 x, v] W fun e w' => ∃ g1 g2, e = .returned (.tuple #[.slice (some ⟨g1, 0, none⟩) 832 832, .slice (some ⟨g2, 0, none⟩) 16 16]) ∧
      YB w' g1 (flatB x m fs 16) ∧ KB w' g2 (flatK x m fs 16) ∧ W.heap.size ≤ g1 ∧ W.heap.size ≤ g2 ∧ Below W.heap.size W w') := Lib.hid (flat_rows x hx v m fs hbf W (hfs.keep hbW))
  have hfl := hfs.length
  have hyl := flatB_length x m fs hfl 16
  have hkl := flatK_length x m fs 16
  have HJ := Lib.hid hJ
  have HG := Lib.hid hG
  have HBd := Lib.hid hBd
  have HFR := Lib.hid hfr
  have HST := Lib.hid hst
  have HGO := Lib.hid hgo
  have HPL := Lib.hid hpl
  have HBW := Lib.hid hbW
  have HFO := Lib.hid (show Foot f W.heap.size ∧ f Ba = false from ⟨hfo, hfa⟩)
  have HLN : Hid ((flatB x m fs 16).length = 832 ∧ (flatK x m fs 16).length = 16) := Lib.hid ⟨hyl, hkl⟩
  have HWE := Lib.hid hwe
  have HAW := Lib.hid hAW
  generalize flatB x m fs 16 = B at *
  generalize flatK x m fs 16 = K at *
  have c1 := cell1 hEW
  have c2 := cell1 hLW
  obtain ⟨va, vc, rfl⟩ : ∃ a c, v = .slice a m c := by obtain ⟨a, c, q, _⟩ := hfs; exact ⟨a, c, q⟩
  refine callsIn_of_wp Tryz.func64 rfl trivial ?_ rfl
  simp only [Tryz.ntmps64, List.size_toArray, List.length_cons, List.length_nil, Nat.reduceAdd, Nat.reduceSub, Array.replicate_succ, Array.replicate_zero, List.push_toArray, List.append_toArray, List.nil_append, List.cons_append]
  have HE := Lib.hid hEW
  clear hJ hJx hG hBd hfr hst hgo hpl hfo hfa hbW hxx hfl hyl hkl hAW hwe hbf hfs hb hbe hEW hLW ce cl ca hx
  gi_wp2_with (first
    | (refine ⟨trivial, ?_⟩; gi_at_call 65; refine (callsIn_wide.2 HFL.out).mono ?_; rintro e w1 ⟨g1, g2, rfl, hy1, hk1, hg1, hg2, hb1⟩; have HY1 := Lib.hid hy1; have HK1 := Lib.hid hk1; have HG1 := Lib.hid (show W.heap.size ≤ g1 ∧ W.heap.size ≤ g2 from ⟨hg1, hg2⟩); have c3 := cell1 ((hb1.block Be (Array.getElem?_eq_some_iff.1 HE.out).1).trans HE.out); have HB1 := Lib.hid hb1; clear hy1 hk1 hg1 hg2 hb1)
    | (refine wplIn_store_row rfl 134 _ _ rfl w1.heap.size (rbA (x % 4294967296) (.slice (some ⟨g1, 0, none⟩) 832 832) (.slice (some ⟨g2, 0, none⟩) 16 16)) rfl (by rw [← HCV.out]; rfl) _ _ (heap_alloc_last w1 _) (bd_info _ rfl) rfl (bd_one _ _ _ _ _ _ _) ?_))
  have e1 : ∀ (q : Nat) (o : Obj), w1.heap[q]? = some o → ((w1.alloc (.cells #[.int .u32 0, .slice none 0 0, .slice none 0 0] 134)).setRow w1.heap.size (rbA (x % 4294967296) (.slice (some ⟨g1, 0, none⟩) 832 832) (.slice (some ⟨g2, 0, none⟩) 16 16))).heap[q]? = some o := fun q o ho =>
    ((bnew w1 _ _).block q (Array.getElem?_eq_some_iff.1 ho).1).trans ho
  have HI0 : RI3 we W x B K Be Bl Ba w1.heap.size g1 g2 pl 0 f ((w1.alloc (.cells #[.int .u32 0, .slice none 0 0, .slice none 0 0] 134)).setRow w1.heap.size (rbA (x % 4294967296) (.slice (some ⟨g1, 0, none⟩) 832 832) (.slice (some ⟨g2, 0, none⟩) 16 16))) := by
    have hb1 := HB1.out
    have hfo := HFO.out.1
    have hno : ∀ q, W.heap.size ≤ q → f q = false := fun q hq => by
      cases h : f q with
      | false => rfl
      | true => have := hfo q h; omega
    have hb2 := bnew w1 (.cells #[.int .u32 0, .slice none 0 0, .slice none 0 0] 134) (rbA (x % 4294967296) (.slice (some ⟨g1, 0, none⟩) 832 832) (.slice (some ⟨g2, 0, none⟩) 16 16))
    have hb3 := bch hb1 hb2
    exact ⟨e1 _ _ ((hb1.block Ba (Array.getElem?_eq_some_iff.1 HAW.out).1).trans HAW.out), RO.new _ _ _ _, e1 _ _ HY1.out, e1 _ _ HK1.out, hfo.mono hb3.size, HFO.out.2, hno _ hb1.size, hno _ HG1.out.1, hno _ HG1.out.2, bch HBW.out hb3, hb3.size⟩
  have HJ0 : J f 0 ((w1.alloc (.cells #[.int .u32 0, .slice none 0 0, .slice none 0 0] 134)).setRow w1.heap.size (rbA (x % 4294967296) (.slice (some ⟨g1, 0, none⟩) 832 832) (.slice (some ⟨g2, 0, none⟩) 16 16))) :=
    HJ.out _ _ _ _ h0 (.of (Free.of (bch HB1.out (bnew w1 _ _)) (Nat.le_refl _)))
  obtain ⟨w2, hw2⟩ : ∃ q, (w1.alloc (.cells #[.int .u32 0, .slice none 0 0, .slice none 0 0] 134)).setRow w1.heap.size (rbA (x % 4294967296) (.slice (some ⟨g1, 0, none⟩) 832 832) (.slice (some ⟨g2, 0, none⟩) 16 16)) = q := ⟨_, rfl⟩
  rw [hw2] at HI0 HJ0
  rw [hw2]
  obtain ⟨bb, hbb⟩ : ∃ q, w1.heap.size = q := ⟨_, rfl⟩
  rw [hbb] at HI0
  rw [hbb]
  clear hw2 hbb
  clear e1 c1 c2 c3 HB1 HY1 HK1 HG1 HFO HE HAW h0 HBW hBe hBl hBa
  have HI0 := Lib.hid HI0
  have HJ0 := Lib.hid HJ0
  simp only [Act.put]
  gi_loopw [] (fun wr => ∃ (k : Nat) (fk : Nat → Bool), k ≤ k0 ∧ Hid (J fk k wr) ∧ Hid (RI3 we W x B K Be Bl Ba bb g1 g2 pl k fk wr)) (fun wr => rdM (wr.cell? ⟨Ba, 0, none⟩))
  case atStart => exact ⟨0, f, Nat.zero_le _, HJ0, HI0⟩
  case round =>
    obtain ⟨k, fk, hk, HJK, HI⟩ := hrel
    obtain ⟨p, hp⟩ : ∃ p, pl k = p := ⟨_, rfl⟩
    obtain ⟨⟨⟨fk1, fe1, fd1⟩, m1⟩, hF⟩ : ∃ F, fr k = F := ⟨_, rfl⟩
    have c1 := cell1 HI.out.va
    have HFC := Lib.hid (HFR.out k hk wr _ _ HI.out.below (HI.out.y.ri (by rw [HLN.out.1]) (by omega)) (HI.out.kb.bs HLN.out.2 (by omega)))
    rw [hp] at c1 HFC
    rw [hF] at HFC
    have HBO := Lib.hid HI.out.bo
    by_cases hm : m1 = 0
    · have HFN : Hid (Calls Tryz.prog 66 #[.agg (rbA (x % 4294967296) (.slice (some ⟨g1, 0, none⟩) 832 832) (.slice (some ⟨g2, 0, none⟩) 16 16)), .int .i64 p] wr fun e w' => (∃ k e1 x n c m, e = .returned (.tuple #[.agg (fA k e1 (.slice x n c)), .int .i64 m, .bool false])) ∧ Below wr.heap.size wr w') := Lib.hid (HFC.out.mono fun e w' h => by
        rcases h with ⟨hb, ⟨_, h⟩ | ⟨h, _⟩⟩
        · exact ⟨h, hb⟩
        · exact absurd hm h)
      have HEND : Hid (k = k0 ∧ st = true) := Lib.hid (by
        have h1 : k = k0 := by
          rcases Nat.lt_or_ge k k0 with h | h
          · exact absurd (by rw [hF]; exact hm) (HGO.out k h)
          · omega
        subst h1
        exact ⟨rfl, HST.out.1 (by rw [hF]; exact hm)⟩)
      clear hF hp hm HFC
      gi_wp2_with (first
        | (refine wplIn_load_row rfl 134 _ rfl bb rfl HBO.out.load ?_)
        | (refine ⟨trivial, ?_⟩; gi_at_call 66; refine (callsIn_wide.2 HFN.out).mono ?_; rintro e w3 ⟨⟨q1, q2, q3, q4, q5, q6, rfl⟩, hb3⟩; have HB3 := Lib.hid hb3; clear hb3)
        | (refine wplIn_store_row rfl 82 _ _ rfl w3.heap.size (fA q1 q2 (.slice q3 q4 q5)) rfl rfl _ _ (heap_alloc_last w3 _) (fr_info _ rfl) rfl (fr_one _ _ _ _ _) ?_)
        | (refine wpListIn_skip (by rfl) (by rfl) ?_))
      refine bodyPost_ret (results_none rfl _ _ _) rfl ?_
      obtain ⟨rfl, rfl⟩ := HEND.out
      exact ⟨⟨_, rfl⟩, .inl ⟨rfl, fk, HJ.out _ _ _ _ HJK.out (.of (Free.of (bch HB3.out (bnew w3 _ _)) HI.out.size))⟩⟩
    · obtain ⟨t, ht⟩ : ∃ t, p + (m1 : Nat) = t := ⟨_, rfl⟩
      have HFY : Hid (Calls Tryz.prog 66 #[.agg (rbA (x % 4294967296) (.slice (some ⟨g1, 0, none⟩) 832 832) (.slice (some ⟨g2, 0, none⟩) 16 16)), .int .i64 p] wr fun e w' => ∃ y c, e = .returned (.tuple #[.agg (fA fk1 fe1 (.slice y fd1.length c)), .int .i64 t, .bool true]) ∧
          w'.ownsRow wr.heap.size 5 1 (.slice y fd1.length c) fd1.length (il .u8 fd1) ∧ Below wr.heap.size wr w') := Lib.hid (HFC.out.mono fun e w' h => by
        rcases h with ⟨hb, ⟨h, _⟩ | ⟨_, y, c, h1, h2⟩⟩
        · exact absurd h hm
        · exact ⟨y, c, by rw [h1, ← ht], h2, hb⟩)
      have HTG : Hid (∀ (y : Option Addr) (c : Nat) (W1 : World), W1.ownsRow wr.heap.size 5 1 (.slice y fd1.length c) fd1.length (il .u8 fd1) → TG fr fk k (y, c) W1) := Lib.hid fun y c W1 h => by
        refine ⟨wr.heap.size, ?_, HI.out.foot⟩
        rw [hF]; exact h
      have HEN : Hid (∀ (y : Option Addr) (c : Nat), encG pl fr k (y, c) = #[.agg (fA fk1 fe1 (.slice y fd1.length c)), .int .i64 t]) := Lib.hid fun y c => by
        unfold encG; rw [hF, hp, ← ht]
      by_cases hlt : k < k0
      · have HYG : Hid (∀ (y : Option Addr) (c : Nat) (W1 : World), J fk k W1 → W1.ownsRow wr.heap.size 5 1 (.slice y fd1.length c) fd1.length (il .u8 fd1) →
            YieldAt Fence.wide (n - 1) Tryz.prog l #[.agg (fA fk1 fe1 (.slice y fd1.length c)), .int .i64 t] W1 fun e W' => e = .returned (.bool true) ∧ ∃ f', J f' (k + 1) W' ∧ KpI we.heap.size fk W1 f' W') := Lib.hid fun y c W1 h1 h2 => by
          have h := HG.out fk k (y, c) W1 h1 (HTG.out y c W1 h2) (by unfold numG; split <;> omega) (by unfold badG; rw [decide_eq_false (by omega)]; rfl)
          rwa [HEN.out] at h
        obtain ⟨h1, h2, h3, h4⟩ := HPL.out k hlt
        obtain ⟨p2, hp2⟩ : ∃ q, pl (k + 1) = q := ⟨_, rfl⟩
        rw [hF] at h1 h2
        dsimp only at h1 h2
        rw [hp, ht] at h1 h2
        rw [hp, hp2] at h3
        rw [hp2] at h1 h4
        have HBG : Hid (∀ w, Calls Tryz.prog 67 #[.int .i64 t] w fun e w' => e = .returned (.int .i64 p2) ∧ Below w.heap.size w w') := Lib.hid fun w => by
          have := begin_any t h2 w; rwa [← h1] at this
        have HP2 := Lib.hid (show p2 = pl (k + 1) from hp2.symm)
        have HLT := Lib.hid (show p < p2 ∧ p2 ≤ 832 ∧ k + 1 ≤ k0 from ⟨h3, h4, by omega⟩)
        clear HFC hF hm h1 h2 h3 h4 hp2 hlt
        gi_wp2_with (first
          | (refine wplIn_load_row rfl 134 _ rfl bb rfl HBO.out.load ?_)
          | (refine ⟨trivial, ?_⟩; gi_at_call 66; refine (callsIn_wide.2 HFY.out).mono ?_; rintro e w3 ⟨y, c, rfl, ho3, hb3⟩; have HO3 := Lib.hid ho3; have HB3 := Lib.hid hb3; clear ho3 hb3)
          | (refine wplIn_store_row rfl 82 _ _ rfl w3.heap.size (fA fk1 fe1 (.slice y fd1.length c)) rfl rfl _ _ (heap_alloc_last w3 _) (fr_info _ rfl) rfl (fr_one _ _ _ _ _) ?_; obtain ⟨w4, hw4⟩ : ∃ q, (w3.alloc (.cells #[.int .i64 0, .int .u32 0, .slice none 0 0] 82)).setRow w3.heap.size (fA fk1 fe1 (.slice y fd1.length c)) = q := ⟨_, rfl⟩; rw [hw4]; have hb4 : Below w3.heap.size w3 w4 := by rw [← hw4]; exact bnew _ _ _
             have HM4 : Hid (FO w4 w3.heap.size fk1 fe1 (.slice y fd1.length c)) := Lib.hid (by rw [← hw4]; exact setRow_heap _ _ _ _ _ _ (heap_alloc_last w3 _))
             have HO4 := Lib.hid (own_keep HO3.out hb4); have HB4 := Lib.hid (bch HB3.out hb4); have HJ4 := Lib.hid (HJ.out _ _ _ _ HJK.out (.of (Free.of HB4.out HI.out.size))); have HI4 := Lib.hid (HI.out.next HB4.out); obtain ⟨fn, tmps, assign, body, hy, hR⟩ := HYG.out y c w4 HJ4.out HO4.out; clear hb4 hw4)
          | (refine wplIn_load_roww (by rfl) 82 _ rfl w3.heap.size rfl HM4.out.load ?_)
          | (refine hR.mono ?_; rintro e w5 ⟨rfl, f5, hj5, hk5⟩; have HI5 := Lib.hid (HI4.out.round hk5); have HJ5 := Lib.hid hj5; clear hj5 hk5)
          | (refine ⟨trivial, ?_⟩; gi_at_call 67; refine (callsIn_wide.2 (HBG.out _)).mono ?_; rintro e w6 ⟨rfl, hb6⟩; have HI6 := Lib.hid (HI5.out.next hb6); have c6 := cell1 HI6.out.va; have f6 := frozen1 HI6.out.va; have HJ6 := Lib.hid (HJ.out _ _ _ _ HJ5.out (.of (Free.of hb6 HI5.out.size))); clear hb6)
          | (refine wpListIn_skip (by rfl) (by rfl) ?_))
        refine ⟨⟨k + 1, f5, HLT.out.2.2, Lib.hid (HJ.out _ _ _ _ HJ6.out (FreeG.set _ _ _)), Lib.hid (HI6.out.set HWE.out HP2.out)⟩, ?_⟩
        rw [cell1 HI.out.va, cell1 (set1 HI6.out.va _), hp]
        have := HLT.out
        simp only [rdM]
        omega
      · have HEND : Hid (k = k0 ∧ st = false) := Lib.hid (by
          have h1 : k = k0 := by omega
          subst h1
          refine ⟨rfl, ?_⟩
          cases st with
          | false => rfl
          | true => exact absurd (HST.out.2 rfl) (by rw [hF]; exact hm))
        have HYB : Hid (∀ (y : Option Addr) (c : Nat) (W1 : World), J fk k W1 → W1.ownsRow wr.heap.size 5 1 (.slice y fd1.length c) fd1.length (il .u8 fd1) →
            YieldAt Fence.wide (n - 1) Tryz.prog l #[.agg (fA fk1 fe1 (.slice y fd1.length c)), .int .i64 t] W1 fun e W' => e = .returned (.bool false) ∧ Jx W') := Lib.hid fun y c W1 h1 h2 => by
          obtain ⟨e1, e2⟩ := HEND.out
          have h := HBd.out fk k (y, c) W1 h1 (HTG.out y c W1 h2) (by unfold numG; rw [e2, if_neg (by decide)]; omega) (by unfold badG; rw [decide_eq_true e1, e2]; rfl)
          rwa [HEN.out] at h
        clear HFC hF hm hp hlt
        gi_wp2_with (first
          | (refine wplIn_load_row rfl 134 _ rfl bb rfl HBO.out.load ?_)
          | (refine ⟨trivial, ?_⟩; gi_at_call 66; refine (callsIn_wide.2 HFY.out).mono ?_; rintro e w3 ⟨y, c, rfl, ho3, hb3⟩; have HO3 := Lib.hid ho3; have HB3 := Lib.hid hb3; clear ho3 hb3)
          | (refine wplIn_store_row rfl 82 _ _ rfl w3.heap.size (fA fk1 fe1 (.slice y fd1.length c)) rfl rfl _ _ (heap_alloc_last w3 _) (fr_info _ rfl) rfl (fr_one _ _ _ _ _) ?_; obtain ⟨w4, hw4⟩ : ∃ q, (w3.alloc (.cells #[.int .i64 0, .int .u32 0, .slice none 0 0] 82)).setRow w3.heap.size (fA fk1 fe1 (.slice y fd1.length c)) = q := ⟨_, rfl⟩; rw [hw4]; have hb4 : Below w3.heap.size w3 w4 := by rw [← hw4]; exact bnew _ _ _
             have HM4 : Hid (FO w4 w3.heap.size fk1 fe1 (.slice y fd1.length c)) := Lib.hid (by rw [← hw4]; exact setRow_heap _ _ _ _ _ _ (heap_alloc_last w3 _))
             have HO4 := Lib.hid (own_keep HO3.out hb4); have HB4 := Lib.hid (bch HB3.out hb4); have HJ4 := Lib.hid (HJ.out _ _ _ _ HJK.out (.of (Free.of HB4.out HI.out.size))); obtain ⟨fn, tmps, assign, body, hy, hR⟩ := HYB.out y c w4 HJ4.out HO4.out; clear hb4 hw4)
          | (refine wplIn_load_roww (by rfl) 82 _ rfl w3.heap.size rfl HM4.out.load ?_)
          | (refine hR.mono ?_; rintro e w5 ⟨rfl, hj5⟩; have HJ5 := Lib.hid hj5; clear hj5)
          | (refine wpListIn_skip (by rfl) (by rfl) ?_))
        refine bodyPost_ret (results_none rfl _ _ _) rfl ?_
        exact ⟨⟨_, rfl⟩, .inr ⟨HEND.out.2, HJ5.out⟩⟩
end Go.Proofs.YtnmplnemnfonfaaGreatDoor
namespace Go.Proofs.YtnmplnemnfonfaaGreatDoor
open Go.RowKit
abbrev jA (o : Bool) (v : Value) : Array Value := #[.bool o, v]
theorem jo_info (o : Bool) (v : Value) : (Tryz.prog.info? 131).map (·.size) = some (jA o v).size := by
  rw [show (jA o v).size = 2 from rfl]; kernel_rfl
theorem jo_one (o : Bool) (a : Option Addr) (n m : Nat) : (jA o (.slice a n m)).all (·.oneCell') = true := by simp [jA, Value.oneCell']
def JO (w : World) (b : Nat) (o : Bool) (v : Value) : Prop := w.heap[b]? = some (.cells (jA o v) 131 (0, 0))
section
variable {w w' : World} {b b' : Nat} {o : Bool} {v : Value}
theorem JO.lt (h : JO w b o v) : b < w.heap.size := (Array.getElem?_eq_some_iff.1 h).1
theorem JO.keep (h : JO w b o v) (hb : Below w.heap.size w w') : JO w' b o v := (hb.block b h.lt).trans h
theorem JO.row (h : JO w b o v) (o' : Bool) (v' : Value) : JO (w.setRow b (jA o' v')) b o' v' := setRow_heap w b _ _ _ _ h
theorem JO.cells (h : JO w b o v) : w.cell? ⟨b, 0, none⟩ = some (.bool o) ∧ w.cell? ⟨b, 1, none⟩ = some v := ⟨cell_of_row w b 0 _ _ _ h, cell_of_row w b 1 _ _ _ h⟩
theorem JO.ne (h : JO w b o v) {g : Nat} {c : Array Value} {t : TypeId} {q : Nat × Nat} (hg : w.heap[g]? = some (.cells c t q)) (ht : t ≠ 131) : g ≠ b := by
  intro e; subst e
  rw [h] at hg
  simp only [Option.some.injEq, Obj.cells.injEq] at hg
  exact ht hg.2.1.symm
theorem JO.ne_own (h : JO w b o v) {base n k : Nat} {t : TypeId} {u : Value} {xs : List Value} (ho : w.ownsRow base t k u n xs) (ht : t ≠ 131) : ∀ q, u.ownBlock = some q → q ≠ b := by
  intro q hq
  rcases ho.2 with ⟨rfl, _⟩ | ⟨q', cap, cur, rfl, _, hcur, _⟩
  · simp [Value.ownBlock] at hq
  · simp only [Value.ownBlock, Option.some.injEq] at hq
    subst hq
    exact h.ne hcur ht
theorem JO.row_own (h : JO w b o v) (x : Array Value) {base n k : Nat} {t : TypeId} {u : Value} {xs : List Value} (ho : w.ownsRow base t k u n xs) (ht : t ≠ 131) : (w.setRow b x).ownsRow base t k u n xs :=
  own_over ho ⟨rfl, rfl, rfl, by simp, fun i _ hne => setRow_other w b i x (fun e => hne (by rw [e]))⟩ (fun g hg e => h.ne_own ho ht g hg (Option.some.inj e))
theorem JO.grown (h : JO w b o v) {base n k : Nat} {t : TypeId} {u : Value} {xs : List Value} (ho : w.ownsRow base t k u n xs) (ht : t ≠ 131) (hg : w.grownBy w' u.ownBlock) : JO w' b o v :=
  (hg.block b h.lt (fun e => h.ne_own ho ht b e.symm rfl)).trans h
end
structure JB (w : World) (base jb : Nat) (o : Bool) (v : Value) (h : List Int) : Prop where
  blk : JO w jb o v
  row : w.ownsRow base 5 1 v h.length (il .u8 h)
  idle : o = false → v = .slice none 0 0 ∧ h = []
  few : h.length ≤ 512
  low : base ≤ jb
theorem JB.keep {w w' : World} {base jb : Nat} {o : Bool} {v : Value} {h : List Int} (j : JB w base jb o v h) (hb : Below w.heap.size w w') : JB w' base jb o v h :=
  ⟨j.blk.keep hb, own_keep j.row hb, j.idle, j.few, j.low⟩
structure Oth (w w' : World) (jb : Nat) (v : Value) : Prop where
  os : w'.os = w.os
  tape : w'.tape = w.tape
  output : w'.output = w.output
  size : w.heap.size ≤ w'.heap.size
  block : ∀ g, g < w.heap.size → g ≠ jb → some g ≠ v.ownBlock → w'.heap[g]? = w.heap[g]?
theorem Oth.refl (w : World) (jb : Nat) (v : Value) : Oth w w jb v := ⟨rfl, rfl, rfl, Nat.le_refl _, fun _ _ _ _ => rfl⟩
theorem Oth.of_below {w w' : World} {jb : Nat} {v : Value} (h : Below w.heap.size w w') : Oth w w' jb v := ⟨h.os, h.tape, h.output, h.size, fun g hg _ _ => h.block g hg⟩
theorem Oth.trans {a b c : World} {jb : Nat} {v : Value} (h : Oth a b jb v) (k : Oth b c jb v) : Oth a c jb v :=
  ⟨k.os.trans h.os, k.tape.trans h.tape, k.output.trans h.output, Nat.le_trans h.size k.size, fun g hg h1 h2 => (k.block g (Nat.lt_of_lt_of_le hg h.size) h1 h2).trans (h.block g hg h1 h2)⟩
theorem Oth.row (w : World) (jb : Nat) (v : Value) (x : Array Value) : Oth w (w.setRow jb x) jb v := ⟨rfl, rfl, rfl, by simp, fun i _ hne _ => setRow_other w jb i x hne⟩
theorem Oth.grown {w w' : World} {jb : Nat} {v : Value} (h : w.grownBy w' v.ownBlock) : Oth w w' jb v := ⟨h.os, h.tape, h.output, h.size, fun g hg _ hn => h.block g hg hn⟩
theorem JB.below {w w' : World} {base jb : Nat} {o : Bool} {v : Value} {h : List Int} (j : JB w base jb o v h) (k : Oth w w' jb v) : Below base w w' :=
  ⟨k.os, k.tape, k.output, k.size, fun g hg => k.block g (Nat.lt_trans (Nat.lt_of_lt_of_le hg j.low) j.blk.lt) (fun e => by have := j.low; omega) (fun e => by have := (j.row.lt g e.symm).1; omega)⟩
theorem JB.oth {w w' : World} {base jb : Nat} {o : Bool} {v : Value} {h : List Int} (j : JB w base jb o v h) (k : Oth w w' jb v) {base' s n : Nat} {t : TypeId} {u : Value} {xs : List Value} (ho : w.ownsRow base' t s u n xs) (ht : t ≠ 131)
    (hne : ∀ g, u.ownBlock = some g → some g ≠ v.ownBlock) : w'.ownsRow base' t s u n xs := by
  refine ⟨ho.1, ?_⟩
  rcases id ho.2 with h2 | ⟨g, cap, cur, hv, hb, hcur, h3⟩
  · exact .inl h2
  · refine .inr ⟨g, cap, cur, hv, hb, ?_, h3⟩
    rw [k.block g (Array.getElem?_eq_some_iff.1 hcur).1 (j.blk.ne_own ho ht g (by rw [hv]; rfl)) (hne g (by rw [hv]; rfl))]; exact hcur
theorem JB.oth_blk {w w' : World} {base jb : Nat} {o : Bool} {v : Value} {h : List Int} (j : JB w base jb o v h) (k : Oth w w' jb v) {g : Nat} {c : Array Value} {t : TypeId} {q : Nat × Nat} (hg : w.heap[g]? = some (.cells c t q))
    (h1 : t ≠ 131) (h2 : t ≠ 5) : w'.heap[g]? = some (.cells c t q) := by
  refine (k.block g (Array.getElem?_eq_some_iff.1 hg).1 (j.blk.ne hg h1) (fun e => ?_)).trans hg
  rcases j.row.2 with ⟨rfl, _⟩ | ⟨q', cap, cur, rfl, _, hcur, _⟩
  · simp [Value.ownBlock] at e
  · simp only [Value.ownBlock, Option.some.injEq] at e
    subst e
    rw [hg] at hcur
    simp only [Option.some.injEq, Obj.cells.injEq] at hcur
    exact h2 hcur.2.1
def Lies (w : World) (v u : Value) : Prop := ∀ g, u.ownBlock = some g → some g = v.ownBlock ∨ w.heap.size ≤ g
theorem Lies.nil (w : World) (v : Value) (n c : Nat) : Lies w v (.slice none n c) := fun g hg => by simp [Value.ownBlock] at hg
end Go.Proofs.YtnmplnemnfonfaaGreatDoor
namespace Go.Proofs.YtnmplnemnfonfaaGreatDoor
open Go.RowKit
section
variable {P : Program} {w : World} {ops : Array Oper} {rest : List Oper} {o : Oper} {a : Act} {Q : Exit → Act → World → Prop}
theorem wpl_appw (hgd : o.guard = none) (s x : Operand) (t : TypeId) (ho : o.op = .call { callee := .builtin .append, args := #[s, x], argTypes := #[t, t] })
    (e : TypeId) (k : IntKind) (bytes : Nat) (ht : P.underlying t = some (.slice e)) (hinfo : (P.info? e).map (fun i => (i.zero, i.size, i.bytes)) = some (some (.int k 0), 1, bytes))
    (base : Nat) (v : Value) (n : Nat) (xs : List Int) (hs : a.eval s = v) (hown : w.ownsRow base e 1 v n (il k xs))
    (v2 : Value) (m : Nat) (ys : List Int) (hx : a.eval x = v2) (hri : RI k w v2 m ys) (hbytes : ((n + m) + (n + m) / 4 + 192) * bytes ≤ 281474976710656) (h63 : n + m ≤ 9223372036854775807) (hbase : base ≤ w.heap.size)
    (h : ∀ v' w', Hid (w'.ownsRow base e 1 v' (n + m) (il k (xs ++ ys))) → Hid (w.grownBy w' v.ownBlock) → Hid (v'.ownBlock = v.ownBlock ∨ v'.ownBlock = some w.heap.size) → wpList P ops Q rest (a.put o.dst v') w') : wpList P ops Q (o :: rest) a w :=
  wpList_plain hgd fun _ hK => wp_appn s x t ho e k bytes ht hinfo base v n xs hs hown v2 m ys hx hri hbytes h63 hbase fun v' w' h1 h2 h3 => hK _ _ (h v' w' h1 h2 h3)
end
end Go.Proofs.YtnmplnemnfonfaaGreatDoor
namespace Go.Proofs.YtnmplnemnfonfaaGreatDoor
open Go.RowKit
set_option maxRecDepth 8000 in
theorem new_any (w : World) : Calls Tryz.prog 37 #[] w fun e w' => e = .returned (.pointer (some ⟨w.heap.size, 0, none⟩)) ∧ JB w' w.heap.size w.heap.size false (.slice none 0 0) [] ∧ Below w.heap.size w w' := by
  go_enter Tryz.func37, Tryz.ntmps37
  go_wp2
  go_ret
  exact ⟨rfl, ⟨heap_alloc_last w _, World.ownsRow_nil _ _ _ _, fun _ => ⟨rfl, rfl⟩, by simp, Nat.le_refl _⟩, balloc w _⟩
set_option maxRecDepth 8000 in
theorem idle_any (o : Bool) (v : Value) (jb : Nat) (w : World) (h : JO w jb o v) : Calls Tryz.prog 68 #[.pointer (some ⟨jb, 0, none⟩)] w fun e w' => e = .returned (.bool (!o)) ∧ w = w' := by
  obtain ⟨h0, h1⟩ := h.cells
  clear h
  go_enter Tryz.func68, Tryz.ntmps68
  go_wp2
  go_ret
  exact ⟨rfl, rfl⟩
end Go.Proofs.YtnmplnemnfonfaaGreatDoor
