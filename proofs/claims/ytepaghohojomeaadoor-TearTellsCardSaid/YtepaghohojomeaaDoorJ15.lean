/-
  TEXTS JOINED: SeqTill, InRow, InAppw, PlanPart, StampSeal, StampOpen, PlanFlat. Each one's own words stand at its head.
-/
import Derived.Test.YtepaghohojomeaaDoorJ13
import Derived.Deep.WholeRow
import Derived.Test.YtepaghohojomeaaDoorJ1
import Derived.Test.YtepaghohojomeaaDoorJ5
import Derived.Test.YtepaghohojomeaaDoorJ9
import Derived.Lib.SliceRun
import Derived.Test.YtepaghohojomeaaDoorJ8
/-
  A RANGE OVER A FUNCTION WHOSE ROUNDS GO ON WHILE WHAT IS HANDED OVER IS GOOD, AND LEAVE BY A RETURN AT THE FIRST THAT IS BAD: a contract (SeqTill) and the law of the caller (wpIn_rangeFunc_till). What is handed over is told by its number k; T says what lies behind it. Nothing here speaks of the program. No condition.
-/
namespace Go.Proofs.YtepaghohojomeaaDoor
open Go.RowKit
variable {F : Fence} {n : Nat} {P : Program}
def SeqTill {α σ : Type} (F : Fence) (n : Nat) (P : Program) (g : Nat) (lb : Array Value) (encs : Nat → α → Array Value) (T : Nat → α → World → Prop) (bad : Nat → Bool) (Kp : σ → World → σ → World → Prop) (Ok : σ → World → World → Prop) (S B : Prop) (N : Nat) (w : World) : Prop :=
  ∀ (l : Nat) (J : σ → Nat → World → Prop) (Jx : World → Prop) (f : σ) (W : World), Below w.heap.size w W → Ok f w W → (∀ f s A B, J f s A → Free W.heap.size A B → J f s B) → (∀ A B, Jx A → Free W.heap.size A B → Jx B) →
    (∀ f k x W1, J f k W1 → T k x W1 → k < N → bad k = false → YieldAt F (n - 1) P l (encs k x) W1 fun e W' => e = .returned (.bool true) ∧ ∃ f', J f' (k + 1) W' ∧ Kp f W1 f' W') →
    (∀ f k x W1, J f k W1 → T k x W1 → k < N → bad k = true → YieldAt F (n - 1) P l (encs k x) W1 fun e W' => e = .returned (.bool false) ∧ Jx W') →
    J f 0 W →
    CallsIn F n P g (#[.func (.yield l) #[] #[]] ++ lb) W fun e W' => (∃ v, e = .returned v) ∧ ((S ∧ ∃ f', J f' N W') ∨ (B ∧ Jx W'))
/-- how the body of a round is left -/
def tillPost {σ : Type} (B : Nat) (Kp : σ → World → σ → World → Prop) (I : σ → Nat → World → Prop) (Ix : World → Prop) (bad : Bool) (f : σ) (k : Nat) (W : World) : Exit → Act → World → Prop
  | .normal, _, W' => bad = false ∧ ∃ f', W'.heap[B]? = W.heap[B]? ∧ W'.heap[B + 1]? = W.heap[B + 1]? ∧ Kp f W f' W' ∧ I f' (k + 1) W'
  | .ret, _, W' => bad = true ∧ W'.heap[B]? = W.heap[B]? ∧ W'.heap[B + 1]? = W.heap[B + 1]? ∧ Ix W'
  | _, _, _ => False
theorem wpIn_rangeFunc_till {α σ : Type} {g : Operand} {ps : Array Tmp} {assign body : Code} {Q : Exit → Act → World → Prop} {a : Act} {w : World}
    (hro : F.round = none) (h1 : 1 ≤ n) {gf : Nat} {lb : Array Value} (hg : a.eval g = .func (.func gf) #[] lb) (hFg : F.fn gf) (eg : ∀ args w, (callFunc gf args).run P w = .ok (.enter gf args) w)
    {encs : Nat → α → Array Value} {T : Nat → α → World → Prop} {bad : Nat → Bool} {Kp : σ → World → σ → World → Prop} {Ok : σ → World → World → Prop} {S Bd : Prop} {N : Nat} {w0 : World} (hseq : SeqTill F (n - 1) P gf lb encs T bad Kp Ok S Bd N w0)
    (hb0 : Below w0.heap.size w0 w) (hps : ∀ k x, (encs k x).size = ps.size) (f0 : σ) (ok : ∀ o o', Ok f0 w0 ((w.alloc o).alloc o'))
    (hKt : ∀ {a A b B c C}, Kp a A b B → Kp b B c C → Kp a A c C) (hKx : ∀ {f W W'}, Below W.heap.size W W' → Kp f W f W')
    (I : σ → Nat → World → Prop) (Ix : World → Prop) (hI : ∀ f s A B, I f s A → Free w.heap.size A B → I f s B) (hIx : ∀ A B, Ix A → Free w.heap.size A B → Ix B) (hT : ∀ k x A B, T k x A → Free w.heap.size A B → T k x B)
    (hKb : ∀ f s W (o o' : Obj), I f s W → W.heap[w.heap.size + 1]? = some o → o.isCells = false → Kp f W f (W.putObj (w.heap.size + 1) o')) (h0 : ∀ o o', I f0 0 ((w.alloc o).alloc o'))
    (Ax : σ → Nat → α → Act → World → Prop) (hAx : ∀ f k x a' A B, Ax f k x a' A → Free w.heap.size A B → Ax f k x a' B)
    (hassign : ∀ (l : Nat) (f : σ) (k : Nat) (x : α) (W : World) (K : Act → World → Prop), I f k W → T k x W → (∀ a' W', Below W.heap.size W W' → Ax f k x a' W' → K a' W') →
      assign.wpIn (F.inRound l) (n - 1 - 1) P (Exit.then K (fun _ _ _ => False)) { tmps := (ps.zip (encs k x)).foldl (fun t (p, v) => t.setIfInBounds p v) a.tmps, defers := [] } W)
    (hbody : ∀ (l : Nat) (f : σ) (k : Nat) (x : α) (a' : Act) (W : World), NoC W w.heap.size → NoC W (w.heap.size + 1) → I f k W → T k x W → Ax f k x a' W → k < N → body.wpIn (F.inRound l) (n - 1 - 1) P (tillPost w.heap.size Kp I Ix (bad k) f k W) a' W)
    (hdone : ∀ (f : σ) (W : World), S → I f N W → W.heap[w.heap.size]? = some (.deferred (some [])) → Q .normal { a with defers := { target := .collected w.heap.size, args := #[] } :: a.defers } W)
    (hstop : ∀ (W : World), Bd → Ix W → W.heap[w.heap.size]? = some (.deferred (some [])) → Code.ret.wpIn F n P Q { a with defers := { target := .collected w.heap.size, args := #[] } :: a.defers } W) :
    (Code.rangeFunc g ps assign body).wpIn F n P Q a w := by
  refine wpIn_rangeFunc ?_
  intro fn hfn
  rw [hro]
  obtain ⟨rec, hrec⟩ : ∃ rec : LoopState → Option Code → Loop, rec = fun st pe => { state := st, pending := pe, fn, tmps := a.tmps, params := ps, assign, body, defers := w.heap.size } := ⟨_, rfl⟩
  obtain ⟨W1, hW1⟩ : ∃ W1, (w.alloc (.deferred (some []))).alloc (.loop (rec .ready none)) = W1 := ⟨_, rfl⟩
  have hL1 : W1.heap[w.heap.size + 1]? = some (.loop (rec .ready none)) := by
    rw [← hW1]; have := World.alloc_heap_new (w.alloc (.deferred (some []))) (.loop (rec .ready none)); rwa [World.size_alloc] at this
  have hK1 : W1.heap[w.heap.size]? = some (.deferred (some [])) := by
    rw [← hW1]; exact (Below.heap_alloc _ _ _ (by simp)).trans (World.alloc_heap_new w _)
  have hbw : Below w.heap.size w W1 := by rw [← hW1]; exact ((Below.refl _ w).alloc (Nat.le_refl _) _).alloc (by simp) _
  have hs1 : W1.heap.size = w.heap.size + 2 := by rw [← hW1]; simp
  have hI1 : I f0 0 W1 := by rw [← hW1]; exact h0 _ _
  have hb1 : Below w0.heap.size w0 W1 := hb0.trans (hbw.mono hb0.size)
  refine ⟨w.heap.size + 1, [{ target := .collected w.heap.size, args := #[] }], W1, { target := .fn (.func gf) lb, args := #[.func (.yield (w.heap.size + 1)) #[] #[]] }, W1, gf,
    #[.func (.yield (w.heap.size + 1)) #[] #[]] ++ lb, W1, ?_, ?_, ?_, ?_, fun _ => h1, ?_⟩
  · rw [← hW1, hrec]; exact run_enterLoop_outer _ _ _ _ _
  · simp only [resolve, hg]
    simp [go_sem]
  · intro f' hf'; simp [Target.leads] at hf'; subst hf'; exact hFg
  · simp [invoke, go_sem, eg]
  · -- what a round leaves, whichever way
    have key : ∀ f k x W, I f k W → T k x W → k < N → W.heap[w.heap.size + 1]? = some (.loop (rec .ready none)) → W.heap[w.heap.size]? = some (.deferred (some [])) → YieldAt F (n - 1 - 1) P (w.heap.size + 1) (encs k x) W fun e W' =>
        (bad k = false ∧ e = .returned (.bool true) ∧ ∃ f', (I f' (k + 1) W' ∧ W'.heap[w.heap.size + 1]? = some (.loop (rec .ready none)) ∧ W'.heap[w.heap.size]? = some (.deferred (some []))) ∧ Kp f W f' W') ∨
        (bad k = true ∧ e = .returned (.bool false) ∧ Ix W' ∧ W'.heap[w.heap.size + 1]? = some (.loop (rec .done (some .ret))) ∧ W'.heap[w.heap.size]? = some (.deferred (some []))) := by
      intro f k x W hi htx hkn hl hk
      have hlt : w.heap.size + 1 < W.heap.size := (Array.getElem?_eq_some_iff.1 hl).1
      have hy := run_yield (P := P) (args := encs k x) hl (by rw [hrec]; exact hps k x)
      rw [hrec] at hy
      refine ⟨fn, _, assign, body, hy, roundIn_of_wpIn hfn (hassign _ f k x W _ hi htx ?_)⟩
      clear hy
      intro a' Wa hba hax
      have hfa : Free w.heap.size W Wa := Free.of hba (by omega)
      have hla : Wa.heap[w.heap.size + 1]? = some (.loop (rec .ready none)) := (hba.block _ (by omega)).trans hl
      have hka : Wa.heap[w.heap.size]? = some (.deferred (some [])) := (hba.block _ (by omega)).trans hk
      have hlta : w.heap.size + 1 < Wa.heap.size := (Array.getElem?_eq_some_iff.1 hla).1
      have hia := hI _ _ _ _ hi hfa
      refine ⟨_, run_beginRound hla (by rw [hrec]), ?_⟩
      have hf2 : Free w.heap.size Wa (Wa.putObj (w.heap.size + 1) (.loop { rec .ready none with state := .busy })) := Free.put _ (by omega) hla rfl
      have hl2 : (Wa.putObj (w.heap.size + 1) (.loop { rec .ready none with state := .busy })).heap[w.heap.size + 1]? = some (.loop { rec .ready none with state := .busy }) := World.putObj_heap_same hlta
      have hk2 : (Wa.putObj (w.heap.size + 1) (.loop { rec .ready none with state := .busy })).heap[w.heap.size]? = some (.deferred (some [])) := (World.putObj_heap_other (by omega)).trans hka
      have hw2 : Kp f Wa f (Wa.putObj (w.heap.size + 1) (.loop { rec .ready none with state := .busy })) := hKb _ _ _ _ _ hia hla rfl
      refine wpIn_mono (hbody _ f k x a' _ ⟨_, hk2, rfl⟩ ⟨_, hl2, rfl⟩ (hI _ _ _ _ hia hf2) (hT _ _ _ _ (hT _ _ _ _ htx hfa) hf2) (hAx _ _ _ _ _ _ hax hf2) hkn) ?_
      rintro e a3 W3 hp
      cases e with
      | normal =>
        obtain ⟨hbd, f', hk3, hl3, hkp3, hi3⟩ := hp
        replace hk3 := hk3.trans hk2
        replace hl3 := hl3.trans hl2
        have hr := run_endRound (P := P) none hl3
        rw [hrec] at hr
        refine ⟨_, _, hr, .inl ⟨hbd, rfl, f', ⟨hI _ _ _ _ hi3 (Free.put _ (by omega) hl3 rfl), ?_, (World.putObj_heap_other (by omega)).trans hk3⟩, hKt (hKx hba) (hKt (hKt hw2 hkp3) (hKb _ _ _ _ _ hi3 hl3 rfl))⟩⟩
        rw [hrec]
        exact World.putObj_heap_same (Array.getElem?_eq_some_iff.1 hl3).1
      | ret =>
        obtain ⟨hbd, hk3, hl3, hi3⟩ := hp
        replace hk3 := hk3.trans hk2
        replace hl3 := hl3.trans hl2
        have hr := run_endRound (P := P) (some .ret) hl3
        rw [hrec] at hr
        refine ⟨_, _, hr, .inr ⟨hbd, rfl, hIx _ _ hi3 (Free.put _ (by omega) hl3 rfl), ?_, (World.putObj_heap_other (by omega)).trans hk3⟩⟩
        rw [hrec]
        exact World.putObj_heap_same (Array.getElem?_eq_some_iff.1 hl3).1
      | _ => exact hp.elim
    refine (hseq (w.heap.size + 1)
      (fun f k W => I f k W ∧ W.heap[w.heap.size + 1]? = some (.loop (rec .ready none)) ∧ W.heap[w.heap.size]? = some (.deferred (some [])))
      (fun W => Ix W ∧ W.heap[w.heap.size + 1]? = some (.loop (rec .done (some .ret))) ∧ W.heap[w.heap.size]? = some (.deferred (some [])))
      f0 W1 hb1 (by rw [← hW1]; exact ok _ _)
      (fun f s A B hs hf => ⟨hI f s A B hs.1 (hf.mono (by omega)), (hf.1.block _ (by omega)).trans hs.2.1, (hf.1.block _ (by omega)).trans hs.2.2⟩)
      (fun A B hs hf => ⟨hIx A B hs.1 (hf.mono (by omega)), (hf.1.block _ (by omega)).trans hs.2.1, (hf.1.block _ (by omega)).trans hs.2.2⟩)
      ?_ ?_ ⟨hI1, hL1, hK1⟩).mono ?_
    · rintro f k x W ⟨hi, hl, hk⟩ htx hkn hbd
      refine (key f k x W hi htx hkn hl hk).mono ?_
      rintro e W' (⟨_, he, h⟩ | ⟨h, _⟩)
      · exact ⟨he, h⟩
      · rw [hbd] at h; cases h
    · rintro f k x W ⟨hi, hl, hk⟩ htx hkn hbd
      refine (key f k x W hi htx hkn hl hk).mono ?_
      rintro e W' (⟨h, _⟩ | ⟨_, he, h⟩)
      · rw [hbd] at h; cases h
      · exact ⟨he, h⟩
    · -- behind the iterator
      rintro e W2 ⟨⟨v, rfl⟩, (⟨hS, f', hi, hl, hk⟩ | ⟨hB, hi, hl, hk⟩)⟩
      · exact ⟨none, _, by have := run_endLoop (P := P) hl (by rw [hrec]; simp); rw [hrec] at this; exact this, hdone f' _ hS (hI _ _ _ _ hi (Free.put _ (by omega) hl rfl)) ((World.putObj_heap_other (by omega)).trans hk)⟩
      · exact ⟨some .ret, _, by have := run_endLoop (P := P) hl (by rw [hrec]; simp); rw [hrec] at this; exact this, hstop _ hB (hIx _ _ hi (Free.put _ (by omega) hl rfl)) ((World.putObj_heap_other (by omega)).trans hk)⟩
end Go.Proofs.YtepaghohojomeaaDoor
/-
  LOADS AND STORES OF WHOLE STRUCTS WITHIN A FENCE, as steps of the walk. Nothing here speaks of the program's functions. No condition.
-/
namespace Go.Proofs.YtepaghohojomeaaDoor
open Go.RowKit
variable {F : Fence} {n : Nat} {P : Program} {ops : Array Oper} {rest : List Oper} {o : Oper} {a : Act} {w : World} {Q : Exit → Act → World → Prop}
theorem wplIn_val (hgd : o.guard = none) (hab : o.about P w a.eval = none) (hd : ∀ c, o.op ≠ .defer c) {v : Value} (he : (execOp a.eval o).run P w = .ok (.value v) w) (h : wpListIn F n P ops Q rest (a.put o.dst v) w) : wpListIn F n P ops Q (o :: rest) a w := by
  refine wpListIn_plain hgd fun K hK => ⟨by rw [hab]; simp, ?_⟩
  rw [Oper.semAt_plain F _ _ hd, he]
  exact hK _ _ h
theorem wplIn_run (hgd : o.guard = none) (hab : o.about P w a.eval = none) (hd : ∀ c, o.op ≠ .defer c) {v : Value} {w' : World} (he : (execOp a.eval o).run P w = .ok (.value v) w') (h : wpListIn F n P ops Q rest (a.put o.dst v) w') : wpListIn F n P ops Q (o :: rest) a w := by
  refine wpListIn_plain hgd fun K hK => ⟨by rw [hab]; simp, ?_⟩
  rw [Oper.semAt_plain F _ _ hd, he]
  exact hK _ _ h
theorem wplIn_load_row (hgd : o.guard = none) (ty : TypeId) (x : Operand) (ho : o.op = .load ty x) (g : Nat) (hx : a.eval x = .pointer (some ⟨g, 0, none⟩)) {v : Value} (hr : (loadVar ty ⟨g, 0, none⟩).run P w = .ok v w)
    (h : wpListIn F n P ops Q rest (a.put o.dst v) w) : wpListIn F n P ops Q (o :: rest) a w :=
  wplIn_val hgd (by simp [Oper.about, ho]) (by rw [ho]; intro c hc; cases hc) (by
    unfold execOp
    simp only [ho, hx, Instr.loadAt, Instr.sureAddr, Sem.run_bind, Sem.run_pure, Result.andThen_ok, hr]) h
theorem wplIn_store_row (hgd : o.guard = none) (ty : TypeId) (x y : Operand) (ho : o.op = .store ty x y) (g : Nat) (cells : Array Value) (hx : a.eval x = .pointer (some ⟨g, 0, none⟩)) (hy : a.eval y = .agg cells)
    (t : TypeId) (old : Array Value) (hg : w.heap[g]? = some (.cells old t (0, 0))) (hi : (P.info? ty).map (·.size) = some cells.size)
    (hold : old.size = cells.size) (h1 : cells.all (·.oneCell') = true)
    (h : wpListIn F n P ops Q rest (a.put o.dst undef) (w.setRow g cells)) : wpListIn F n P ops Q (o :: rest) a w := by
  refine wpListIn_plain hgd fun K hK => ⟨by simp [Oper.about, ho], ?_⟩
  rw [Oper.semAt_plain F _ _ (by rw [ho]; intro c hc; cases hc)]
  unfold execOp
  simp only [ho, hx, hy, Instr.storeAt, Instr.sureAddr, Sem.run_bind, Sem.run_pure, Result.andThen_ok, run_storeVar_row w g t ty old cells hg hi hold h1]
  exact hK _ _ h
end Go.Proofs.YtepaghohojomeaaDoor
/-
  APPEND OF A SLICE'S NUMBERS TO A ROW THAT A CALL MADE, within a fence: where the row lies then, and that nothing but its block has changed. Nothing here speaks of the program's functions. No condition.
-/
namespace Go.Proofs.YtepaghohojomeaaDoor
open Go.RowKit
theorem wplIn_appw {F : Fence} {d : Nat} {P : Program} {w : World} {ops : Array Oper} {rest : List Oper} {o : Oper} {a : Act} {Q : Exit → Act → World → Prop} (hgd : o.guard = none) (s x : Operand) (t : TypeId) (ho : o.op = .call { callee := .builtin .append, args := #[s, x], argTypes := #[t, t] })
    (e : TypeId) (k : IntKind) (bytes : Nat) (ht : P.underlying t = some (.slice e)) (hinfo : (P.info? e).map (fun i => (i.zero, i.size, i.bytes)) = some (some (.int k 0), 1, bytes))
    (base : Nat) (v : Value) (n : Nat) (xs : List Int) (hs : a.eval s = v) (hown : w.ownsRow base e 1 v n (il k xs))
    (ad : Addr) (m cap : Nat) (ys : List Int) (hx : a.eval x = .slice (some ad) m cap) (hl : ys.length = m) (hnews : ∀ (j : Nat) (u : Value), (il k ys)[j]? = some u → w.cell? (ad.add j) = some u) (hbytes : ((n + m) + (n + m) / 4 + 192) * bytes ≤ 281474976710656) (h63 : n + m ≤ 9223372036854775807) (hbase : base ≤ w.heap.size)
    (h : ∀ v' w', w'.ownsRow base e 1 v' (n + m) (il k (xs ++ ys)) → w.grownBy w' v.ownBlock → (v'.ownBlock = v.ownBlock ∨ v'.ownBlock = some w.heap.size) → wpListIn F d P ops Q rest (a.put o.dst v') w') : wpListIn F d P ops Q (o :: rest) a w := by
  obtain ⟨i, hi, hz0, hz1, hz2⟩ := info_parts hinfo
  have hml : n + m ≤ maxLen := by unfold maxLen; omega
  obtain ⟨v', w', hr, h2, h3, _⟩ := run_append_own_wide (P := P) w base t o.type e i (.int k 0) 1 bytes ht hi hz0 hz1 hz2 rfl (by omega) v n (il k xs) hown ad m cap (il k ys) (by rw [il_length]; omega) hnews (il_one k _) hml hbytes hbase
  have h4 := append_where (P := P) w base t o.type e i (.int k 0) 1 bytes ht hi hz0 hz1 hz2 v n (il k xs) hown ad m cap (il k ys) (by rw [il_length]; omega) hnews (il_one k _) hml hbytes hr
  refine wplIn_run hgd (by simp [Oper.about, ho, resolve, Target.leads, Sem.run_pure]) (by rw [ho]; intro c hc; cases hc) (v := v') (w' := w') ?_ (h v' w' (by rw [il_append]; exact h2) h3 h4)
  unfold execOp
  simp only [ho, resolve, invoke, builtin, Sem.run_bind, Sem.run_pure, Result.andThen_ok, List.map_toArray, List.map_cons, List.map_nil, hs, hx, hr]
end Go.Proofs.YtepaghohojomeaaDoor
/-
  LAYER 16 (plan), part: the bytes of a body that its sector has. No condition.
-/
namespace Go.Proofs.YtepaghohojomeaaDoor
open Go.RowKit
/-- where a part begins, and how many bytes it has -/
def qF (len i : Nat) : Nat := min (i * 52) len
def qN (len i : Nat) : Nat := min (qF len i + 52) len - qF len i
theorem part_list (zs : List Int) (len i : Nat) (h : zs.length = len) : (zs.drop (qF len i)).take (qN len i) = partB zs i := by
  unfold qN qF partB
  by_cases h1 : i * 52 ≤ len
  · rw [Nat.min_eq_left h1, Nat.mul_comm]
    by_cases h2 : 52 * i + 52 ≤ len
    · rw [Nat.min_eq_left h2]; congr 1; omega
    · rw [Nat.min_eq_right (by omega), List.take_of_length_le (by simp; omega), List.take_of_length_le (by simp; omega)]
  · rw [Nat.min_eq_right (by omega), List.drop_eq_nil_of_le (by omega), List.drop_eq_nil_of_le (by omega)]; simp
set_option maxRecDepth 8000 in
set_option maxHeartbeats 800000 in
theorem part_any (a : Option Addr) (len cap i : Nat) (hlc : len ≤ cap) (hl : len ≤ 1000000) (hi : i ≤ 1000) (w : World) :
    Calls Tryd.prog 71 #[.slice a len cap, .int .i64 (i : Int)] w fun e w' => e = .returned (sliced a (qF len i) (qF len i + qN len i) (qF len i + qN len i) 1) ∧ w' = w := by
  have h1 : ((qF len i : Nat) : Int) = min ((i : Int) * 52) (len : Int) := by unfold qF; omega
  have h2 : ((qF len i + qN len i : Nat) : Int) = min (((qF len i : Nat) : Int) + 52) (len : Int) := by unfold qN; have : qF len i ≤ len := by unfold qF; omega
                                                                                                        omega
  generalize qF len i = f at *
  generalize qN len i = n at *
  have hfn : f + n ≤ len := by omega
  rw [h1] at h2
  obtain ⟨v, hv⟩ : ∃ v, sliced a f (f + n) (f + n) 1 = v := ⟨_, rfl⟩
  rw [hv]
  have HV := Lib.hid hv
  clear hv
  by_cases c1 : (len : Int) < (i : Int) * 52
  · have h4 : (len : Int) < len + 52 := by omega
    obtain rfl : f = len := by omega
    obtain rfl : n = 0 := by omega
    clear h1 h2
    go_enter Tryd.func71, Tryd.ntmps71
    go_wp2
    go_ret
    exact ⟨by rw [← HV.out]; simp [sliced], rfl⟩
  · obtain rfl : f = i * 52 := by omega
    by_cases c2 : (len : Int) < (i : Int) * 52 + 52
    · obtain ⟨m, rfl⟩ : ∃ m, len = i * 52 + m := ⟨len - i * 52, by omega⟩
      obtain rfl : n = m := by omega
      clear h1 h2
      by_cases h0 : n = 0
      · subst h0
        go_enter Tryd.func71, Tryd.ntmps71
        go_wp2
        go_ret
        exact ⟨by rw [← HV.out]; simp [sliced], rfl⟩
      · go_enter Tryd.func71, Tryd.ntmps71
        go_wp2
        go_ret
        exact ⟨by rw [← HV.out]; simp [sliced, h0], rfl⟩
    · obtain rfl : n = 52 := by omega
      clear h1 h2
      go_enter Tryd.func71, Tryd.ntmps71
      go_wp2
      go_ret
      exact ⟨by rw [← HV.out]; simp [sliced], rfl⟩
/-- .. as a slice -/
theorem part_ri (v : Value) (len i : Nat) (zs : List Int) (hl : len ≤ 1000000) (hi : i ≤ 1000) (w : World) (h : RI .u8 w v len zs) :
    Calls Tryd.prog 71 #[v, .int .i64 (i : Int)] w fun e w' => ∃ v', e = .returned v' ∧ RI .u8 w v' (qN len i) (partB zs i) ∧ w' = w := by
  have hzl := h.length
  obtain ⟨a, cap, rfl, _, hc, _⟩ := id h
  refine (part_any a len cap i hc hl hi w).mono ?_
  rintro e w' ⟨rfl, rfl⟩
  refine ⟨_, rfl, ?_, rfl⟩
  have hfn : qF len i + qN len i ≤ len := by unfold qN; have : qF len i ≤ len := by unfold qF; omega
                                             omega
  have := h.cut (qF len i) (qN len i) (qF len i + qN len i) hfn (Nat.le_refl _) (by omega)
  rwa [part_list zs len i hzl] at this
end Go.Proofs.YtepaghohojomeaaDoor
/-
  WHAT THE PROGRAM'S OWN FUNCTIONS OF LAYER 6 (stamp) ANSWER: Seal.
-/
namespace Go.Proofs.YtepaghohojomeaaDoor
open Go.RowKit
theorem put_ri (x : Int) (n : Nat) (hn : n ≤ 8) (w : World) :
    Calls Tryd.prog 102 #[.int .u64 x, .int .i64 n] w fun e w' => e = .returned (.slice (some ⟨w.heap.size, 0, none⟩) n n) ∧ RI .u8 w' (.slice (some ⟨w.heap.size, 0, none⟩) n n) n (putL x n) ∧ Below w.heap.size w w' :=
  (put_any x n n (by unfold I63; omega) (by unfold clampI; omega) w).mono fun _ _ ⟨he, ho, hb⟩ => ⟨he, RI.own ho, hb⟩
/-- where Seal stands: room for the result, the sector, the room that came in -/
structure TE (W : World) (l : List Int) (rm : Value) (len : Nat) (zs : List Int) (w : World) : Prop where
  below : Below W.heap.size W w
  old : Blk w W.heap.size z64
  new : Blk w (W.heap.size + 1) l
  arg : RI .u8 w rm len zs
theorem TE.next {W w w' : World} {l : List Int} {rm : Value} {len : Nat} {zs : List Int} (h : TE W l rm len zs w) (hb : Below w.heap.size w w') : TE W l rm len zs w' := ⟨chain h.below hb, h.old.keep hb, h.new.keep hb, h.arg.keep hb⟩
/-- behind a copy into the sector -/
theorem TE.copied {W w w' : World} {l l' : List Int} {rm : Value} {len : Nat} {zs : List Int} (h : TE W l rm len zs w) (hr : RI .u8 W rm len zs) (hk : Blk w' (W.heap.size + 1) l') (hb : Below (W.heap.size + 1) w w') : TE W l' rm len zs w' := by
  have h1 : Below W.heap.size W w' := h.below.trans (hb.mono (by omega))
  exact ⟨h1, h.old.keepB hb (by omega), hk, hr.keep h1⟩
set_option maxRecDepth 8000 in
set_option maxHeartbeats 1000000 in
theorem seal_any (x i : Int) (_hx : U64 x) (hi : I63 i) (v : Value) (len : Nat) (zs : List Int) (w : World) (hri : RI .u8 w v len zs) :
    Calls Tryd.prog 90 #[.int .u64 x, .int .i64 i, v] w fun e w' => e = .returned (.agg (sv (sealed x i zs))) ∧ Below w.heap.size w w' := by
  have HR := Lib.hid hri
  have hi' : -9223372036854775808 ≤ i ∧ i ≤ 9223372036854775807 := hi
  obtain ⟨a, c, rfl, hzl, _⟩ : ∃ a c, v = .slice a len c ∧ zs.length = len ∧ True := by obtain ⟨a, c, e, h, _⟩ := hri; exact ⟨a, c, e, h, trivial⟩
  obtain ⟨y, hy⟩ : ∃ y, IntKind.u64.wrap i = y := ⟨_, rfl⟩
  have HY := Lib.hid (show putL y 4 = putL i 4 from by rw [← hy, u64_wrap]; exact putL_wrap i)
  have HT0 : Hid (TE w z64 (.slice a len c) len zs ((w.alloc (.cells (sv z64) 28)).alloc (.cells (sv z64) 28))) := by
    have h := TS.start w (List.replicate 64 0)
    exact ⟨h.below, h.old, by have := h.new; rwa [part_zero] at this, hri.keep h.below⟩
  have HSP := Lib.hid (sealed_splice x i zs)
  have HSL := Lib.hid (sealed_length x i zs)
  rw [hzl] at HSP
  have HZ := Lib.hid z64_cells
  clear hri hzl
  go_enter Tryd.func90, Tryd.ntmps90
  go_wp2
  rw [← HZ.out]
  refine wp_region_held_drew (S := (fun w' => Below w.heap.size w w')) (by kernel_rfl) (HT0.out.below.drew) (fun hS => ?_)
  refine wpAnyH_take (i := 0) (oi := ({ dst := some 8, op := Op.slice 28 (Operand.tmp 7) none (some (Operand.const (Value.int IntKind.i64 8))) none, type := 43, pos := "stamp.go:15", after := #[], guard := none } : Oper)) (v := ?_) rfl (by kernel_rfl) (by kernel_rfl) (by kernel_rfl) (fun _ _ _ h => h) (Or.inl ⟨by rfl, ?_⟩) hS ?_
  rotate_left
  · (intro w hSw; (try dsimp only at hSw); go_simp; try with_reducible rfl)
  (try simp only [Act.put, List.setIfInBounds_toArray, List.set_cons_zero, List.set_cons_succ])
  refine wpAnyH_take (i := 1) (oi := ({ dst := some 9, op := Op.move (Operand.tmp 0), type := 22, pos := "stamp.go:15", after := #[], guard := none } : Oper)) (v := ?_) rfl (by kernel_rfl) (by kernel_rfl) (by kernel_rfl) (fun _ _ _ h => h) (Or.inl ⟨by rfl, ?_⟩) hS ?_
  rotate_left
  · (intro w hSw; (try dsimp only at hSw); go_simp; try with_reducible rfl)
  (try simp only [Act.put, List.setIfInBounds_toArray, List.set_cons_zero, List.set_cons_succ])
  refine rg_one 2 ({ dst := some 10, op := Op.call { callee := Callee.value (Operand.func 102), args := #[Operand.tmp 9, Operand.const (Value.int IntKind.i64 8)], argTypes := #[22, 3] }, type := 43, pos := "stamp.go:15", after := #[{ on := 1, ground := Ground.data }], guard := none } : Oper) (by kernel_rfl) rfl (fun K hK => ?_)
  go_simp
  (go_at_call 102; (refine (put_ri x 8 (by omega) _).mono ?_); rintro e w2 ⟨rfl, hr2, hb⟩; have HT2 := Lib.hid ((HT0.out.next ((Below.refl _ _).drew)).next hb); have hN := HT2.out.below)
  refine hK.out _ _ ?_ (fun hS1 => ?_)
  · (exact hN)
  clear hK K hS; have hS := hS1; clear hS1
  (try simp only [Act.put, List.setIfInBounds_toArray, List.set_cons_zero, List.set_cons_succ])
  refine rg_one 3 ({ dst := some 11, op := Op.call { callee := Callee.builtin Builtin.copy, args := #[Operand.tmp 8, Operand.tmp 10], argTypes := #[43, 43] }, type := 3, pos := "stamp.go:15", after := #[{ on := 0, ground := Ground.data }, { on := 2, ground := Ground.data }, { on := 2, ground := Ground.chain }], guard := none } : Oper) (by kernel_rfl) rfl (fun K hK => ?_)
  refine step_copy_sec rfl (.tmp 8) (.tmp 10) rfl (w.heap.size + 1) 0 8 64 z64 HT2.out.new rfl _ 8 (putL x 8) rfl hr2 (by omega) ?_; intro w3 HK3 hb3; rw [show (putL x 8).take (min 8 8) = putL x 8 from List.take_of_length_le (by rw [putL_length]; omega)] at HK3; have HT3 := Lib.hid (HT2.out.copied HR.out HK3.out hb3); clear hN; have hN := HT3.out.below
  refine hK.out _ _ ?_ (fun hS1 => ?_)
  · (exact hN)
  clear hK K hS; have hS := hS1; clear hS1
  (try simp only [Act.put, List.setIfInBounds_toArray, List.set_cons_zero, List.set_cons_succ])
  refine wpAnyH_done (by kernel_rfl) ?_ _
  clear hS hb3 hb hr2 HT2 HK3 hN
  go_wp2
  refine wp_region_held_drew (S := (fun w' => Below w.heap.size w w')) (by kernel_rfl) (HT3.out.below.drew) (fun hS => ?_)
  refine wpAnyH_take (i := 0) (oi := ({ dst := some 12, op := Op.slice 28 (Operand.tmp 7) (some (Operand.const (Value.int IntKind.i64 8))) (some (Operand.const (Value.int IntKind.i64 12))) none, type := 43, pos := "stamp.go:16", after := #[], guard := none } : Oper)) (v := ?_) rfl (by kernel_rfl) (by kernel_rfl) (by kernel_rfl) (fun _ _ _ h => h) (Or.inl ⟨by rfl, ?_⟩) hS ?_
  rotate_left
  · (intro w hSw; (try dsimp only at hSw); go_simp; try with_reducible rfl)
  (try simp only [Act.put, List.setIfInBounds_toArray, List.set_cons_zero, List.set_cons_succ])
  refine wpAnyH_take (i := 1) (oi := ({ dst := some 13, op := Op.move (Operand.tmp 1), type := 3, pos := "stamp.go:16", after := #[], guard := none } : Oper)) (v := ?_) rfl (by kernel_rfl) (by kernel_rfl) (by kernel_rfl) (fun _ _ _ h => h) (Or.inl ⟨by rfl, ?_⟩) hS ?_
  rotate_left
  · (intro w hSw; (try dsimp only at hSw); go_simp; try with_reducible rfl)
  (try simp only [Act.put, List.setIfInBounds_toArray, List.set_cons_zero, List.set_cons_succ])
  refine wpAnyH_take (i := 2) (oi := ({ dst := some 14, op := Op.convert 3 22 (Operand.tmp 13), type := 22, pos := "stamp.go:16", after := #[{ on := 1, ground := Ground.data }], guard := none } : Oper)) (v := ?_) rfl (by kernel_rfl) (by kernel_rfl) (by kernel_rfl) (fun _ _ _ h => h) (Or.inl ⟨by rfl, ?_⟩) hS ?_
  rotate_left
  · (intro w hSw; (try dsimp only at hSw); go_simp; try with_reducible rfl)
  (try simp only [Act.put, List.setIfInBounds_toArray, List.set_cons_zero, List.set_cons_succ])
  refine rg_one 3 ({ dst := some 15, op := Op.call { callee := Callee.value (Operand.func 102), args := #[Operand.tmp 14, Operand.const (Value.int IntKind.i64 4)], argTypes := #[22, 3] }, type := 43, pos := "stamp.go:16", after := #[{ on := 2, ground := Ground.data }], guard := none } : Oper) (by kernel_rfl) rfl (fun K hK => ?_)
  go_simp
  (go_at_call 102; (refine (put_ri y 4 (by omega) _).mono ?_); rintro e w4 ⟨rfl, hr4, hb⟩; rw [HY.out] at hr4; have HT4 := Lib.hid ((HT3.out.next ((Below.refl _ _).drew)).next hb); have hN := HT4.out.below)
  refine hK.out _ _ ?_ (fun hS1 => ?_)
  · (exact hN)
  clear hK K hS; have hS := hS1; clear hS1
  (try simp only [Act.put, List.setIfInBounds_toArray, List.set_cons_zero, List.set_cons_succ])
  refine rg_one 4 ({ dst := some 16, op := Op.call { callee := Callee.builtin Builtin.copy, args := #[Operand.tmp 12, Operand.tmp 15], argTypes := #[43, 43] }, type := 3, pos := "stamp.go:16", after := #[{ on := 0, ground := Ground.data }, { on := 3, ground := Ground.data }, { on := 3, ground := Ground.chain }], guard := none } : Oper) (by kernel_rfl) rfl (fun K hK => ?_)
  refine step_copy_sec rfl (.tmp 12) (.tmp 15) rfl (w.heap.size + 1) 8 4 56 _ HT4.out.new rfl _ 4 (putL i 4) rfl hr4 (by omega) ?_; intro w5 HK5 hb5; rw [show (putL i 4).take (min 4 4) = putL i 4 from List.take_of_length_le (by rw [putL_length]; omega)] at HK5; have HT5 := Lib.hid (HT4.out.copied HR.out HK5.out hb5); clear hN; have hN := HT5.out.below
  refine hK.out _ _ ?_ (fun hS1 => ?_)
  · (exact hN)
  clear hK K hS; have hS := hS1; clear hS1
  (try simp only [Act.put, List.setIfInBounds_toArray, List.set_cons_zero, List.set_cons_succ])
  refine wpAnyH_done (by kernel_rfl) ?_ _
  clear hS hb5 hb hr4 HT4 HK5 hN
  go_wp2_with (first
    | ((refine wpl_copy_sec rfl (.tmp 17) (.tmp 18) rfl (w.heap.size + 1) 12 52 52 _ HT5.out.new rfl _ len zs rfl HT5.out.arg (by omega) ?_; intro w6 HK6 hb6; rw [show z64 = List.replicate 64 0 from rfl, HSP.out] at HK6; have HT6 := Lib.hid (HT5.out.copied HR.out HK6.out hb6); clear hb6))
    | (refine wpList_load_row rfl 28 _ rfl (w.heap.size + 1) rfl _ (sv (sealed x i zs)) (0, 0) _ HT6.out.new.1 Tryd.underlying28 rfl (sv_info _ HSL.out) ?_)
    | (refine wpList_store_row rfl 28 _ _ rfl w.heap.size (sv (sealed x i zs)) rfl rfl _ (sv z64) HT6.out.old.1 (sv_info _ HSL.out) (by rw [sv_size, sv_size, HSL.out, z64_length]) (sv_one _) ?_))
  refine bodyPost_ret_by (v := .agg (sv (sealed x i zs))) (results_cell_row rfl _ _ w.heap.size _ (sv (sealed x i zs)) (0, 0) _ rfl (HT6.out.old.row HSL.out).1 Tryd.underlying28 rfl (sv_info _ HSL.out)) rfl ⟨rfl, below_row HT6.out.below (Nat.le_refl _) _⟩
end Go.Proofs.YtepaghohojomeaaDoor
/-
  WHAT THE PROGRAM'S OWN FUNCTIONS OF LAYER 6 (stamp) ANSWER: Read, Open.
-/
namespace Go.Proofs.YtepaghohojomeaaDoor
open Go.RowKit
theorem get_ri (b off len cap : Nat) (zs : List Int) (w : World) (hr : RI .u8 w (.slice (some ⟨b, off, none⟩) len cap) len zs) (hz : Bytes zs) (h0 : 0 < len) :
    Calls Tryd.prog 96 #[.slice (some ⟨b, off, none⟩) len cap] w fun e w' => e = .returned (.int .u64 (getI zs (min len 8))) ∧ w = w' := by
  obtain ⟨b2, off2, c2, e, _, _, hcell⟩ := hr.open_ h0
  simp only [Value.slice.injEq, Option.some.injEq, Addr.mk.injEq, and_true, true_and] at e
  obtain ⟨⟨rfl, rfl⟩, rfl⟩ := e
  exact get_some b off len cap zs w hz h0 hr.le hcell
set_option maxRecDepth 8000 in
set_option maxHeartbeats 1000000 in
theorem read_any (l : List Int) (hl : l.length = 64) (hb : Bytes l) (w : World) :
    Calls Tryd.prog 89 #[.agg (sv l)] w fun e w' => ∃ x i v, e = .returned (.tuple #[.int .u64 x, .int .i64 i, v]) ∧ RI .u8 w' v 52 (l.drop 12) ∧ U64 x ∧ 0 ≤ i ∧ i ≤ 4294967295 ∧ sealed x i (l.drop 12) = l ∧ Below w.heap.size w w' := by
  have HK0 := Lib.hid (Blk.new w l hl)
  have HB := Lib.hid hb
  have HL := Lib.hid hl
  obtain ⟨x, hx⟩ : ∃ x, getI (l.take 8) 8 = x := ⟨_, rfl⟩
  obtain ⟨i, hi⟩ : ∃ i, getI ((l.drop 8).take 4) 4 = i := ⟨_, rfl⟩
  have hxb := getI_bd (l.take 8) (bytes_take hb 8) 8
  have hib := getI_bd ((l.drop 8).take 4) (bytes_take (bytes_drop hb 8) 4) 4
  have HSE := Lib.hid (sealed_read l hl hb)
  rw [hx, hi] at HSE
  rw [hx] at hxb
  rw [hi] at hib
  simp only [Nat.reduceMul, Int.reducePow] at hxb hib
  have HX := Lib.hid hx
  have HI := Lib.hid hi
  have hwr : IntKind.i64.wrap i = i := IntWalk.i64_in _ (by omega)
  clear hb hl hx hi
  go_enter Tryd.func89, Tryd.ntmps89
  go_wp2
  refine wp_region_held_drew (S := (fun w' => Blk w' w.heap.size l ∧ Below w.heap.size w w')) (by kernel_rfl) ⟨HK0.out, (below_alloc w _).drew⟩ (fun hS => ?_)
  refine wpAnyH_take (i := 0) (oi := ({ dst := some 7, op := Op.slice 28 (Operand.tmp 1) none (some (Operand.const (Value.int IntKind.i64 8))) none, type := 43, pos := "stamp.go:33", after := #[], guard := none } : Oper)) (v := ?_) rfl (by kernel_rfl) (by kernel_rfl) (by kernel_rfl) (fun _ _ _ h => h) (Or.inl ⟨by rfl, ?_⟩) hS ?_
  rotate_left
  · (intro w hSw; (try dsimp only at hSw); go_simp; try with_reducible rfl)
  (try simp only [Act.put, List.setIfInBounds_toArray, List.set_cons_zero, List.set_cons_succ])
  refine wpAnyH_take (i := 2) (oi := ({ dst := some 9, op := Op.slice 28 (Operand.tmp 1) (some (Operand.const (Value.int IntKind.i64 8))) (some (Operand.const (Value.int IntKind.i64 12))) none, type := 43, pos := "stamp.go:33", after := #[], guard := none } : Oper)) (v := ?_) rfl (by kernel_rfl) (by kernel_rfl) (by kernel_rfl) (fun _ _ _ h => h) (Or.inl ⟨by rfl, ?_⟩) hS ?_
  rotate_left
  · (intro w hSw; (try dsimp only at hSw); go_simp; try with_reducible rfl)
  (try simp only [Act.put, List.setIfInBounds_toArray, List.set_cons_zero, List.set_cons_succ])
  refine rg_one 1 ({ dst := some 8, op := Op.call { callee := Callee.value (Operand.func 96), args := #[Operand.tmp 7], argTypes := #[43] }, type := 22, pos := "stamp.go:33", after := #[{ on := 0, ground := Ground.data }], guard := none } : Oper) (by kernel_rfl) rfl (fun K hK => ?_)
  go_simp
  (go_at_call 96; (refine (get_ri w.heap.size 0 8 64 ((l.drop 0).take 8) _ (hS.1.ri 0 8 64 (by omega) (by omega) (by omega)) (bytes_take (bytes_drop HB.out 0) 8) (by omega)).mono ?_); rintro e w2 ⟨rfl, rfl⟩; rw [List.drop_zero, show min 8 8 = 8 from rfl, HX.out])
  refine hK.out _ _ ?_ (fun hS1 => ?_)
  · (first | exact hS | exact ⟨hS.1.keep hb, chain hS.2 hb⟩)
  clear hK K hS; have hS := hS1; clear hS1
  (try simp only [Act.put, List.setIfInBounds_toArray, List.set_cons_zero, List.set_cons_succ])
  refine rg_one 3 ({ dst := some 10, op := Op.call { callee := Callee.value (Operand.func 96), args := #[Operand.tmp 9], argTypes := #[43] }, type := 22, pos := "stamp.go:33", after := #[{ on := 2, ground := Ground.data }, { on := 1, ground := Ground.chain }], guard := none } : Oper) (by kernel_rfl) rfl (fun K hK => ?_)
  go_simp
  (go_at_call 96; (refine (get_ri w.heap.size 8 4 56 ((l.drop 8).take 4) _ (hS.1.ri 8 4 56 (by omega) (by omega) (by omega)) (bytes_take (bytes_drop HB.out 8) 4) (by omega)).mono ?_); rintro e w3 ⟨rfl, rfl⟩; rw [show min 4 8 = 4 from rfl, HI.out])
  refine hK.out _ _ ?_ (fun hS1 => ?_)
  · (first | exact hS | exact ⟨hS.1.keep hb, chain hS.2 hb⟩)
  clear hK K hS; have hS := hS1; clear hS1
  (try simp only [Act.put, List.setIfInBounds_toArray, List.set_cons_zero, List.set_cons_succ])
  refine wpAnyH_take (i := 4) (oi := ({ dst := some 5, op := Op.assign (Operand.tmp 8), type := 22, pos := "stamp.go:33", after := #[{ on := 1, ground := Ground.data }, { on := 3, ground := Ground.chain }, { on := 0, ground := Ground.phase }, { on := 1, ground := Ground.phase }, { on := 2, ground := Ground.textOnly Departure.lateStoresUnsure }, { on := 3, ground := Ground.textOnly Departure.lateStoresUnsure }], guard := none } : Oper)) (v := ?_) rfl (by kernel_rfl) (by kernel_rfl) (by kernel_rfl) (fun _ _ _ h => h) (Or.inl ⟨by rfl, ?_⟩) hS ?_
  rotate_left
  · (intro w hSw; (try dsimp only at hSw); go_simp; try with_reducible rfl)
  (try simp only [Act.put, List.setIfInBounds_toArray, List.set_cons_zero, List.set_cons_succ])
  refine wpAnyH_take (i := 5) (oi := ({ dst := some 6, op := Op.assign (Operand.tmp 10), type := 22, pos := "stamp.go:33", after := #[{ on := 3, ground := Ground.data }, { on := 4, ground := Ground.chain }, { on := 0, ground := Ground.phase }, { on := 1, ground := Ground.phase }, { on := 2, ground := Ground.phase }, { on := 3, ground := Ground.phase }, { on := 4, ground := Ground.phase }], guard := none } : Oper)) (v := ?_) rfl (by kernel_rfl) (by kernel_rfl) (by kernel_rfl) (fun _ _ _ h => h) (Or.inl ⟨by rfl, ?_⟩) hS ?_
  rotate_left
  · (intro w hSw; (try dsimp only at hSw); go_simp; try with_reducible rfl)
  (try simp only [Act.put, List.setIfInBounds_toArray, List.set_cons_zero, List.set_cons_succ])
  refine wpAnyH_done (by kernel_rfl) ?_ _
  have hr0 := hS.1.ri 12 52 52 (by omega) (by omega) (by omega)
  rw [List.take_of_length_le (by simp [HL.out])] at hr0
  have HR0 := Lib.hid hr0
  have HS := Lib.hid hS.2
  clear hr0 hS
  go_wp2
  refine wp_region_held_drew (S := (fun w' => RI .u8 w' (.slice (some ⟨w.heap.size, 12, none⟩) 52 52) 52 (l.drop 12) ∧ Below w.heap.size w w')) (by kernel_rfl) ⟨HR0.out.keep (Below.refl _ _).drew, HS.out.drew⟩ (fun hS => ?_)
  refine wpAnyH_take (i := 0) (oi := ({ dst := some 11, op := Op.move (Operand.tmp 5), type := 22, pos := "stamp.go:35", after := #[], guard := none } : Oper)) (v := ?_) rfl (by kernel_rfl) (by kernel_rfl) (by kernel_rfl) (fun _ _ _ h => h) (Or.inl ⟨by rfl, ?_⟩) hS ?_
  rotate_left
  · (intro w hSw; (try dsimp only at hSw); go_simp; try with_reducible rfl)
  (try simp only [Act.put, List.setIfInBounds_toArray, List.set_cons_zero, List.set_cons_succ])
  refine wpAnyH_take (i := 1) (oi := ({ dst := some 12, op := Op.move (Operand.tmp 6), type := 22, pos := "stamp.go:35", after := #[{ on := 4, ground := Ground.gcOnly Departure.lateStores }], guard := none } : Oper)) (v := ?_) rfl (by kernel_rfl) (by kernel_rfl) (by kernel_rfl) (fun _ _ _ h => h) (Or.inl ⟨by rfl, ?_⟩) hS ?_
  rotate_left
  · (intro w hSw; (try dsimp only at hSw); go_simp; try with_reducible rfl)
  (try simp only [Act.put, List.setIfInBounds_toArray, List.set_cons_zero, List.set_cons_succ])
  refine wpAnyH_take (i := 2) (oi := ({ dst := some 13, op := Op.convert 22 3 (Operand.tmp 12), type := 3, pos := "stamp.go:35", after := #[{ on := 1, ground := Ground.data }, { on := 4, ground := Ground.gcOnly Departure.lateStores }], guard := none } : Oper)) (v := ?_) rfl (by kernel_rfl) (by kernel_rfl) (by kernel_rfl) (fun _ _ _ h => h) (Or.inl ⟨by rfl, ?_⟩) hS ?_
  rotate_left
  · (intro w hSw; (try dsimp only at hSw); go_simp; try with_reducible rfl)
  (try simp only [Act.put, List.setIfInBounds_toArray, List.set_cons_zero, List.set_cons_succ])
  refine wpAnyH_take (i := 3) (oi := ({ dst := some 14, op := Op.slice 28 (Operand.tmp 1) (some (Operand.const (Value.int IntKind.i64 12))) none none, type := 43, pos := "stamp.go:35", after := #[], guard := none } : Oper)) (v := ?_) rfl (by kernel_rfl) (by kernel_rfl) (by kernel_rfl) (fun _ _ _ h => h) (Or.inl ⟨by rfl, ?_⟩) hS ?_
  rotate_left
  · (intro w hSw; (try dsimp only at hSw); go_simp; try with_reducible rfl)
  (try simp only [Act.put, List.setIfInBounds_toArray, List.set_cons_zero, List.set_cons_succ])
  refine wpAnyH_take (i := 4) (oi := ({ dst := some 2, op := Op.assign (Operand.tmp 11), type := 22, pos := "stamp.go:35", after := #[{ on := 0, ground := Ground.data }, { on := 0, ground := Ground.phase }, { on := 1, ground := Ground.textOnly Departure.lateStores }, { on := 2, ground := Ground.textOnly Departure.lateStores }, { on := 3, ground := Ground.textOnly Departure.lateStoresUnsure }], guard := none } : Oper)) (v := ?_) rfl (by kernel_rfl) (by kernel_rfl) (by kernel_rfl) (fun _ _ _ h => h) (Or.inl ⟨by rfl, ?_⟩) hS ?_
  rotate_left
  · (intro w hSw; (try dsimp only at hSw); go_simp; try with_reducible rfl)
  (try simp only [Act.put, List.setIfInBounds_toArray, List.set_cons_zero, List.set_cons_succ])
  refine wpAnyH_take (i := 5) (oi := ({ dst := some 3, op := Op.assign (Operand.tmp 13), type := 3, pos := "stamp.go:35", after := #[{ on := 2, ground := Ground.data }, { on := 4, ground := Ground.chain }, { on := 0, ground := Ground.phase }, { on := 1, ground := Ground.phase }, { on := 2, ground := Ground.phase }, { on := 3, ground := Ground.textOnly Departure.lateStoresUnsure }, { on := 4, ground := Ground.phase }], guard := none } : Oper)) (v := ?_) rfl (by kernel_rfl) (by kernel_rfl) (by kernel_rfl) (fun _ _ _ h => h) (Or.inl ⟨by rfl, ?_⟩) hS ?_
  rotate_left
  · (intro w hSw; (try dsimp only at hSw); go_simp; try with_reducible rfl)
  (try simp only [Act.put, List.setIfInBounds_toArray, List.set_cons_zero, List.set_cons_succ])
  refine wpAnyH_take (i := 6) (oi := ({ dst := some 4, op := Op.assign (Operand.tmp 14), type := 43, pos := "stamp.go:35", after := #[{ on := 3, ground := Ground.data }, { on := 5, ground := Ground.chain }, { on := 0, ground := Ground.phase }, { on := 1, ground := Ground.phase }, { on := 2, ground := Ground.phase }, { on := 3, ground := Ground.phase }, { on := 4, ground := Ground.phase }, { on := 5, ground := Ground.phase }], guard := none } : Oper)) (v := ?_) rfl (by kernel_rfl) (by kernel_rfl) (by kernel_rfl) (fun _ _ _ h => h) (Or.inl ⟨by rfl, ?_⟩) hS ?_
  rotate_left
  · (intro w hSw; (try dsimp only at hSw); go_simp; try with_reducible rfl)
  (try simp only [Act.put, List.setIfInBounds_toArray, List.set_cons_zero, List.set_cons_succ])
  refine wpAnyH_done (by kernel_rfl) ?_ _
  have HS2 := Lib.hid hS
  clear hS
  go_wp2
  go_ret3
  exact ⟨_, _, _, rfl, HS2.out.1, by unfold U64; omega, by omega, by omega, HSE.out, HS2.out.2⟩
set_option maxRecDepth 8000 in
set_option maxHeartbeats 1000000 in
theorem open_any (l : List Int) (hl : l.length = 64) (hbl : Bytes l) (x i : Int) (hx : U64 x) (hi : I63 i) (w : World) (y : Bool) (hy : decide (sealed x i (l.drop 12) = l) = y) :
    Calls Tryd.prog 70 #[.agg (sv l), .int .u64 x, .int .i64 i] w fun e w' => ∃ v, e = .returned (.tuple #[v, .bool y]) ∧ RI .u8 w' v (if y then 52 else 0) (if y then l.drop 12 else []) ∧ Below w.heap.size w w' := by
  have HK0 := Lib.hid (Blk.new w l hl)
  have HQ := Lib.hid (run_eq_sec (sealed x i (l.drop 12)) l (sealed_length _ _ _) hl)
  rw [hy] at HQ
  have HX := Lib.hid hx
  have HI := Lib.hid hi
  have HL := Lib.hid hl
  have HBL := Lib.hid hbl
  clear hl hx hi hy hbl
  go_enter Tryd.func70, Tryd.ntmps70
  go_wp2_with (first
    | (refine wpl_load_sec (by rfl) _ rfl w.heap.size rfl l HK0.out ?_)
    | (go_at_call 89; (refine (read_any l HL.out HBL.out _).mono ?_); rintro e w1 ⟨x1, i1, v1, rfl, hr, _, _, _, _, hb⟩; have HR1 := Lib.hid hr; have HK1 := Lib.hid (HK0.out.keep hb); have HB1 := Lib.hid (chain (below_alloc w _) hb); clear hr hb))
  refine wp_region_held_drew (S := (fun w' => Blk w' w.heap.size l ∧ RI .u8 w' v1 52 (l.drop 12) ∧ Below w.heap.size w w')) (by kernel_rfl) ⟨HK1.out, HR1.out.keep ((Below.refl _ _).drew), HB1.out.drew⟩ (fun hS => ?_)
  refine wpAnyH_take (i := 0) (oi := ({ dst := some 17, op := Op.move (Operand.tmp 1), type := 22, pos := "stamp.go:25", after := #[], guard := none } : Oper)) (v := ?_) rfl (by kernel_rfl) (by kernel_rfl) (by kernel_rfl) (fun _ _ _ h => h) (Or.inl ⟨by rfl, ?_⟩) hS ?_
  rotate_left
  · (intro w hSw; (try dsimp only at hSw); go_simp; try with_reducible rfl)
  (try simp only [Act.put, List.setIfInBounds_toArray, List.set_cons_zero, List.set_cons_succ])
  refine wpAnyH_take (i := 1) (oi := ({ dst := some 18, op := Op.move (Operand.tmp 2), type := 3, pos := "stamp.go:25", after := #[], guard := none } : Oper)) (v := ?_) rfl (by kernel_rfl) (by kernel_rfl) (by kernel_rfl) (fun _ _ _ h => h) (Or.inl ⟨by rfl, ?_⟩) hS ?_
  rotate_left
  · (intro w hSw; (try dsimp only at hSw); go_simp; try with_reducible rfl)
  (try simp only [Act.put, List.setIfInBounds_toArray, List.set_cons_zero, List.set_cons_succ])
  refine wpAnyH_take (i := 2) (oi := ({ dst := some 19, op := Op.move (Operand.tmp 10), type := 43, pos := "stamp.go:25", after := #[], guard := none } : Oper)) (v := ?_) rfl (by kernel_rfl) (by kernel_rfl) (by kernel_rfl) (fun _ _ _ h => h) (Or.inl ⟨by rfl, ?_⟩) hS ?_
  rotate_left
  · (intro w hSw; (try dsimp only at hSw); go_simp; try with_reducible rfl)
  (try simp only [Act.put, List.setIfInBounds_toArray, List.set_cons_zero, List.set_cons_succ])
  refine wpAnyH_take (i := 4) (oi := ({ dst := some 21, op := Op.load 28 (Operand.tmp 3), type := 28, pos := "stamp.go:25", after := #[], guard := none } : Oper)) (v := ?_) rfl (by kernel_rfl) (by kernel_rfl) (by kernel_rfl) (fun _ _ _ h => h) (Or.inl ⟨by rfl, ?_⟩) hS ?_
  rotate_left
  · (intro w hSw; (try dsimp only at hSw); refine exec_load_sec (.tmp 3) ?_ ?_ hSw.1 <;> rfl)
  (try simp only [Act.put, List.setIfInBounds_toArray, List.set_cons_zero, List.set_cons_succ])
  refine rg_one 3 ({ dst := some 20, op := Op.call { callee := Callee.value (Operand.func 90), args := #[Operand.tmp 17, Operand.tmp 18, Operand.tmp 19], argTypes := #[22, 3, 43] }, type := 28, pos := "stamp.go:25", after := #[{ on := 0, ground := Ground.data }, { on := 1, ground := Ground.data }, { on := 2, ground := Ground.data }], guard := none } : Oper) (by kernel_rfl) rfl (fun K hK => ?_)
  go_simp
  (go_at_call 90; (with_reducible refine (seal_any x i HX.out HI.out v1 52 (l.drop 12) _ hS.2.1).mono ?_); rintro e w2 ⟨rfl, hb⟩)
  refine hK.out _ _ ?_ (fun hS1 => ?_)
  · (first | exact hS | exact ⟨hS.1.keep hb, hS.2.1.keep hb, chain hS.2.2 hb⟩)
  clear hK K hS; have hS := hS1; clear hS1
  (try simp only [Act.put, List.setIfInBounds_toArray, List.set_cons_zero, List.set_cons_succ])
  refine wpAnyH_take (i := 5) (oi := ({ dst := some 22, op := Op.binOp BinOp.neq 28 (Operand.tmp 20) (Operand.tmp 21) 28, type := 4, pos := "stamp.go:25", after := #[{ on := 3, ground := Ground.data }, { on := 4, ground := Ground.data }], guard := none } : Oper)) (v := ?_) rfl (by kernel_rfl) (by kernel_rfl) (by kernel_rfl) (fun _ _ _ h => h) (Or.inl ⟨by rfl, ?_⟩) hS ?_
  rotate_left
  · (intro w hSw; (try dsimp only at hSw); have hq := HQ.out w; go_simp; try with_reducible rfl)
  (try simp only [Act.put, List.setIfInBounds_toArray, List.set_cons_zero, List.set_cons_succ])
  refine wpAnyH_done (by kernel_rfl) ?_ _
  have HS := Lib.hid hS
  cases y with
  | false =>
    go_wp2
    go_ret2
    exact ⟨_, rfl, RI.nil _ _, HS.out.2.2⟩
  | true =>
    go_wp2
    go_ret2
    exact ⟨_, rfl, HS.out.2.1, HS.out.2.2⟩
end Go.Proofs.YtepaghohojomeaaDoor
/-
  LAYER 16 (plan), Flat: what the program's answers. No condition.
-/
namespace Go.Proofs.YtepaghohojomeaaDoor
open Go.RowKit
theorem wp_make_yb {w : World} {o : Oper} {a : Act} {K : Act → World → Prop} {Q : Exit → Act → World → Prop} (x y : Operand) (ho : o.op = Op.makeSlice 43 x y) (n : Nat) (hx : a.eval x = .int .i64 (n : Int)) (hy : a.eval y = .int .i64 (n : Int)) (hn : n ≤ 1000000)
    (h : ∀ g w', Hid (YB w' g (List.replicate n 0)) → Hid (w.heap.size ≤ g) → Hid (Below w.heap.size w w') → K (a.put o.dst (.slice (some ⟨g, 0, none⟩) n n)) w') : o.wp Tryd.prog a w K Q := by
  have hrun := make_bytes_run n (by omega) w
  unfold Oper.wp
  simp [execOp, ho, hx, hy, hrun, Result.andThen]
  exact h _ _ (heap_alloc_last w _) (Nat.le_refl _) (below_alloc w _)
theorem wp_make_kb {w : World} {o : Oper} {a : Act} {K : Act → World → Prop} {Q : Exit → Act → World → Prop} (x y : Operand) (ho : o.op = Op.makeSlice 60 x y) (n : Nat) (hx : a.eval x = .int .i64 (n : Int)) (hy : a.eval y = .int .i64 (n : Int)) (hn : n ≤ 1000000)
    (h : ∀ g w', Hid (KB w' g (List.replicate n false)) → Hid (w.heap.size ≤ g) → Hid (Below w.heap.size w w') → K (a.put o.dst (.slice (some ⟨g, 0, none⟩) n n)) w') : o.wp Tryd.prog a w K Q := by
  have hrun := make_kbools_run n (by omega) w
  unfold Oper.wp
  simp [execOp, ho, hx, hy, hrun, Result.andThen]
  exact h _ _ (heap_alloc_last w _) (Nat.le_refl _) (below_alloc w _)
/-- the part of a body's own block -/
theorem part_own (g i : Nat) (hi : i < 16) (w : World) :
    Calls Tryd.prog 71 #[.slice (some ⟨g, 0, none⟩) 832 832, .int .i64 (i : Int)] w fun e w' => e = .returned (.slice (some ⟨g, 52 * i, none⟩) 52 52) ∧ w' = w := by
  refine (part_any (some ⟨g, 0, none⟩) 832 832 i (by omega) (by omega) (by omega) w).mono ?_
  rintro e w' ⟨rfl, rfl⟩
  refine ⟨?_, rfl⟩
  have h1 : qF 832 i = 52 * i := by unfold qF; omega
  have h2 : qN 832 i = 52 := by unfold qN; rw [h1]; omega
  rw [h1, h2]
  unfold sliced
  rw [if_neg (by omega), show 52 * i + 52 - 52 * i = 52 from by omega]
  simp [Addr.add_mid]
set_option maxRecDepth 8000 in
set_option maxHeartbeats 1000000 in
theorem flat_any (x : Int) (hx : U64 x) (v : Value) (n : Nat) (fs : List Int) (hbf : Bytes fs) (w : World) (h : FS w v n fs) :
    Calls Tryd.prog 45 #[.int .u64 x, v] w fun e w' => ∃ g1 g2, e = .returned (.tuple #[.slice (some ⟨g1, 0, none⟩) 832 832, .slice (some ⟨g2, 0, none⟩) 16 16]) ∧
      RI .u8 w' (.slice (some ⟨g1, 0, none⟩) 832 832) 832 (flatB x n fs 16) ∧ BS w' (.slice (some ⟨g2, 0, none⟩) 16 16) 16 (flatK x n fs 16) ∧ Below w.heap.size w w' := by
  have hfl := h.length
  obtain ⟨ad, cap, rfl, _, hc1, hc2, _⟩ := id h
  have HH := Lib.hid h
  have HX := Lib.hid hx
  have HBF := Lib.hid hbf
  have HFL := Lib.hid hfl
  obtain ⟨m, hm⟩ : ∃ m, min n 16 = m := ⟨_, rfl⟩
  have hmn : m ≤ n := by omega
  have hm16 : m ≤ 16 := by omega
  have hmi : (if (16 : Int) < (n : Int) then (16 : Int) else (n : Int)) = (m : Int) := by split <;> omega
  have HM := Lib.hid hm
  clear h hx hbf hfl hm
  go_enter Tryd.func45, Tryd.ntmps45
  go_wp2_with fail
  refine wp_region_held_drew (S := (fun w' => Below w.heap.size w w')) (by kernel_rfl) (Below.refl _ _).drew (fun hS => ?_)
  refine rg_both 0 1 ({ dst := some 11, op := Op.makeSlice 43 (Operand.const (Value.int IntKind.i64 832)) (Operand.const (Value.int IntKind.i64 832)), type := 43, pos := "plan.go:14", after := #[], guard := none } : Oper) ({ dst := some 12, op := Op.makeSlice 60 (Operand.const (Value.int IntKind.i64 16)) (Operand.const (Value.int IntKind.i64 16)), type := 60, pos := "plan.go:14", after := #[], guard := none } : Oper) (by kernel_rfl) rfl rfl (fun K hK => ?_) (fun K hK => ?_)
  · skip
    rw [if_pos (by rfl)]; refine wp_make_yb _ _ rfl 832 rfl rfl (by omega) ?_; intro g1 wa HY0 HG1 hb; have hN := hS.trans (hb.out.mono hS.size); have HG1 := Lib.hid (Nat.le_trans hS.size HG1.out)
    refine hK.out _ _ ?_ (fun hS1 => ?_)
    · (exact hN)
    clear hK K hS; have hS := hS1; clear hS1
    (try simp only [Act.put, List.setIfInBounds_toArray, List.set_cons_zero, List.set_cons_succ])
    refine wpAnyH_take (i := 2) (oi := ({ dst := some 6, op := Op.assign (Operand.tmp 11), type := 43, pos := "plan.go:14", after := #[{ on := 0, ground := Ground.data }, { on := 0, ground := Ground.phase }, { on := 1, ground := Ground.textOnly Departure.lateStoresUnsure }], guard := none } : Oper)) (v := ?_) rfl (by kernel_rfl) (by kernel_rfl) (by kernel_rfl) (fun _ _ _ h => h) (Or.inl ⟨by rfl, ?_⟩) hS ?_
    rotate_left
    · (intro w hSw; (try dsimp only at hSw); go_simp; try with_reducible rfl)
    (try simp only [Act.put, List.setIfInBounds_toArray, List.set_cons_zero, List.set_cons_succ])
    refine rg_one 1 ({ dst := some 12, op := Op.makeSlice 60 (Operand.const (Value.int IntKind.i64 16)) (Operand.const (Value.int IntKind.i64 16)), type := 60, pos := "plan.go:14", after := #[], guard := none } : Oper) (by kernel_rfl) rfl (fun K hK => ?_)
    rw [if_pos (by rfl)]; refine wp_make_kb _ _ rfl 16 rfl rfl (by omega) ?_; intro g2 wb HK0 HG2 hb; have hN := hS.trans (hb.out.mono hS.size); have HG2 := Lib.hid (Nat.le_trans hS.size HG2.out); have HY0 := Lib.hid (HY0.out.keep hb.out)
    refine hK.out _ _ ?_ (fun hS1 => ?_)
    · (exact hN)
    clear hK K hS; have hS := hS1; clear hS1
    (try simp only [Act.put, List.setIfInBounds_toArray, List.set_cons_zero, List.set_cons_succ])
    refine wpAnyH_take (i := 3) (oi := ({ dst := some 7, op := Op.assign (Operand.tmp 12), type := 60, pos := "plan.go:14", after := #[{ on := 1, ground := Ground.data }, { on := 2, ground := Ground.chain }, { on := 0, ground := Ground.phase }, { on := 1, ground := Ground.phase }, { on := 2, ground := Ground.phase }], guard := none } : Oper)) (v := ?_) rfl (by kernel_rfl) (by kernel_rfl) (by kernel_rfl) (fun _ _ _ h => h) (Or.inl ⟨by rfl, ?_⟩) hS ?_
    rotate_left
    · (intro w hSw; (try dsimp only at hSw); go_simp; try with_reducible rfl)
    (try simp only [Act.put, List.setIfInBounds_toArray, List.set_cons_zero, List.set_cons_succ])
    refine wpAnyH_done (by kernel_rfl) ?_ _
    have HB0 := Lib.hid hS
    clear hS
    have HYZ : Hid (YB wb g1 (bodyAt x n fs 0)) := Lib.hid (by rw [bodyAt_zero]; exact HY0.out)
    have HKZ : Hid (KB wb g2 (oksAt x n fs 0)) := Lib.hid (by rw [oksAt_zero]; exact HK0.out)
    clear HY0 HK0
    have HNE := Lib.hid (yk_ne HYZ.out HKZ.out)
    go_wp2
    go_loopw [16] (fun iv wr => ∃ k : Nat, iv = .int .i64 k ∧ k ≤ m ∧ Hid (YB wr g1 (bodyAt x n fs k)) ∧ Hid (KB wr g2 (oksAt x n fs k)) ∧ Hid (Below w.heap.size w wr)) (fun iv _ => m - (intOf iv).toNat)
    case atStart => exact ⟨0, rfl, by omega, HYZ, HKZ, HB0⟩
    case round =>
      obtain ⟨k, rfl, hk, HY, HK, HB⟩ := hrel
      by_cases hlt : (k : Int) < (m : Int)
      · obtain ⟨b, off, rfl, hat⟩ := (HH.out.keep HB.out).at_ k (by omega)
        obtain ⟨l, hsl⟩ : ∃ l, secOf fs k = l := ⟨_, rfl⟩
        have hat : At wr b (off + k * 64) l := by rw [← hsl]; exact hat
        have HAT := Lib.hid hat
        have HSL := Lib.hid (secOf_length fs n k HFL.out (by omega))
        have HSB := Lib.hid (show Bytes (secOf fs k) from bytes_take (bytes_drop HBF.out _) _)
        have HOK := Lib.hid (okAt_in x n fs k (by omega))
        have HNX := Lib.hid (oksAt_next x n fs k (by omega))
        have HKL := Lib.hid (oksAt_length x n fs k (by omega))
        have HYL := Lib.hid (bodyAt_length x n fs HFL.out k (by omega))
        obtain ⟨y, hy⟩ : ∃ y, okAt x n fs k = y := ⟨_, rfl⟩
        have HYN : Hid (splice (bodyAt x n fs k) (52 * k) (if y then (secOf fs k).drop 12 else []) = bodyAt x n fs (k + 1)) := Lib.hid (by
          cases y with
          | true => exact bodyAt_true x n fs HFL.out k (by omega) hy
          | false => simp only [Bool.false_eq_true, if_false]; rw [splice_nil]; exact bodyAt_false x n fs k (by omega) hy)
        rw [hy] at HOK HNX
        rw [hsl] at HSL HSB HOK HYN
        have HRL : Hid ((if y then 52 else 0) ≤ 52) := Lib.hid (by split <;> omega)
        clear hat hy hsl
        go_wp2_with (first
          | (refine wpl_load_at rfl _ rfl b _ rfl _ HAT.out ?_)
          | (go_at_call 70; (with_reducible refine (open_any l HSL.out HSB.out x k HX.out (by unfold I63; omega) _ y HOK.out.symm).mono ?_); rintro e w1 ⟨v1, rfl, hr, hb⟩; have HR := Lib.hid hr; have HY1 := Lib.hid (HY.out.keep hb); have HK1 := Lib.hid (HK.out.keep hb); have HB1 := Lib.hid (bch HB.out hb); clear hr hb)
          | (go_at_call 71; (with_reducible refine (part_own g1 k (by omega) _).mono ?_); rintro e w2 ⟨rfl, rfl⟩)
          | (refine wpl_copy_yb rfl _ _ rfl g1 (52 * k) 52 52 (bodyAt x n fs k) HY1.out rfl v1 _ _ rfl HR.out HRL.out (by have := HYL.out; omega) ?_; intro w3 HY3 hg3; have HY3 := Lib.hid (HYN.out ▸ HY3.out); have HK3 := Lib.hid (HK1.out.over hg3.out (Ne.symm HNE.out)); have HB3 := Lib.hid (below_grown HB1.out hg3.out HG1.out HB1.out.size); clear hg3)
          | (refine wpl_put_kb rfl _ _ rfl g2 k (oksAt x n fs k) y HK3.out (by have := HKL.out; omega) rfl rfl ?_; intro w4 HK4 hg4; have HK4 := Lib.hid (HNX.out ▸ HK4.out); have HY4 := Lib.hid (HY3.out.over hg4.out HNE.out); have HB4 := Lib.hid (below_grown HB3.out hg4.out HG2.out HB3.out.size); clear hg4))
        go_roundw
        case rel => exact ⟨k + 1, by simp, by omega, HY4, HK4, HB4⟩
        case measure => simp [intOf]; omega
      · obtain rfl : k = m := by omega
        go_wp2
        go_ret2
        refine ⟨g1, g2, rfl, ?_, ?_, HB.out⟩
        · have h1 := HY.out
          rw [← HM.out, bodyAt_end] at h1
          exact h1.ri (by rw [flatB_length x n fs HFL.out]) (by omega)
        · have h1 := HK.out
          rw [← HM.out, oksAt_end] at h1
          exact h1.bs (flatK_length x n fs 16) (by omega)
  · skip
    rw [if_pos (by rfl)]; refine wp_make_kb _ _ rfl 16 rfl rfl (by omega) ?_; intro g2 wa HK0 HG2 hb; have hN := hS.trans (hb.out.mono hS.size); have HG2 := Lib.hid (Nat.le_trans hS.size HG2.out)
    refine hK.out _ _ ?_ (fun hS1 => ?_)
    · (exact hN)
    clear hK K hS; have hS := hS1; clear hS1
    (try simp only [Act.put, List.setIfInBounds_toArray, List.set_cons_zero, List.set_cons_succ])
    refine rg_one 0 ({ dst := some 11, op := Op.makeSlice 43 (Operand.const (Value.int IntKind.i64 832)) (Operand.const (Value.int IntKind.i64 832)), type := 43, pos := "plan.go:14", after := #[], guard := none } : Oper) (by kernel_rfl) rfl (fun K hK => ?_)
    rw [if_pos (by rfl)]; refine wp_make_yb _ _ rfl 832 rfl rfl (by omega) ?_; intro g1 wb HY0 HG1 hb; have hN := hS.trans (hb.out.mono hS.size); have HG1 := Lib.hid (Nat.le_trans hS.size HG1.out); have HK0 := Lib.hid (HK0.out.keep hb.out)
    refine hK.out _ _ ?_ (fun hS1 => ?_)
    · (exact hN)
    clear hK K hS; have hS := hS1; clear hS1
    (try simp only [Act.put, List.setIfInBounds_toArray, List.set_cons_zero, List.set_cons_succ])
    refine wpAnyH_take (i := 2) (oi := ({ dst := some 6, op := Op.assign (Operand.tmp 11), type := 43, pos := "plan.go:14", after := #[{ on := 0, ground := Ground.data }, { on := 0, ground := Ground.phase }, { on := 1, ground := Ground.textOnly Departure.lateStoresUnsure }], guard := none } : Oper)) (v := ?_) rfl (by kernel_rfl) (by kernel_rfl) (by kernel_rfl) (fun _ _ _ h => h) (Or.inl ⟨by rfl, ?_⟩) hS ?_
    rotate_left
    · (intro w hSw; (try dsimp only at hSw); go_simp; try with_reducible rfl)
    (try simp only [Act.put, List.setIfInBounds_toArray, List.set_cons_zero, List.set_cons_succ])
    refine wpAnyH_take (i := 3) (oi := ({ dst := some 7, op := Op.assign (Operand.tmp 12), type := 60, pos := "plan.go:14", after := #[{ on := 1, ground := Ground.data }, { on := 2, ground := Ground.chain }, { on := 0, ground := Ground.phase }, { on := 1, ground := Ground.phase }, { on := 2, ground := Ground.phase }], guard := none } : Oper)) (v := ?_) rfl (by kernel_rfl) (by kernel_rfl) (by kernel_rfl) (fun _ _ _ h => h) (Or.inl ⟨by rfl, ?_⟩) hS ?_
    rotate_left
    · (intro w hSw; (try dsimp only at hSw); go_simp; try with_reducible rfl)
    (try simp only [Act.put, List.setIfInBounds_toArray, List.set_cons_zero, List.set_cons_succ])
    refine wpAnyH_done (by kernel_rfl) ?_ _
    have HB0 := Lib.hid hS
    clear hS
    have HYZ : Hid (YB wb g1 (bodyAt x n fs 0)) := Lib.hid (by rw [bodyAt_zero]; exact HY0.out)
    have HKZ : Hid (KB wb g2 (oksAt x n fs 0)) := Lib.hid (by rw [oksAt_zero]; exact HK0.out)
    clear HY0 HK0
    have HNE := Lib.hid (yk_ne HYZ.out HKZ.out)
    go_wp2
    go_loopw [16] (fun iv wr => ∃ k : Nat, iv = .int .i64 k ∧ k ≤ m ∧ Hid (YB wr g1 (bodyAt x n fs k)) ∧ Hid (KB wr g2 (oksAt x n fs k)) ∧ Hid (Below w.heap.size w wr)) (fun iv _ => m - (intOf iv).toNat)
    case atStart => exact ⟨0, rfl, by omega, HYZ, HKZ, HB0⟩
    case round =>
      obtain ⟨k, rfl, hk, HY, HK, HB⟩ := hrel
      by_cases hlt : (k : Int) < (m : Int)
      · obtain ⟨b, off, rfl, hat⟩ := (HH.out.keep HB.out).at_ k (by omega)
        obtain ⟨l, hsl⟩ : ∃ l, secOf fs k = l := ⟨_, rfl⟩
        have hat : At wr b (off + k * 64) l := by rw [← hsl]; exact hat
        have HAT := Lib.hid hat
        have HSL := Lib.hid (secOf_length fs n k HFL.out (by omega))
        have HSB := Lib.hid (show Bytes (secOf fs k) from bytes_take (bytes_drop HBF.out _) _)
        have HOK := Lib.hid (okAt_in x n fs k (by omega))
        have HNX := Lib.hid (oksAt_next x n fs k (by omega))
        have HKL := Lib.hid (oksAt_length x n fs k (by omega))
        have HYL := Lib.hid (bodyAt_length x n fs HFL.out k (by omega))
        obtain ⟨y, hy⟩ : ∃ y, okAt x n fs k = y := ⟨_, rfl⟩
        have HYN : Hid (splice (bodyAt x n fs k) (52 * k) (if y then (secOf fs k).drop 12 else []) = bodyAt x n fs (k + 1)) := Lib.hid (by
          cases y with
          | true => exact bodyAt_true x n fs HFL.out k (by omega) hy
          | false => simp only [Bool.false_eq_true, if_false]; rw [splice_nil]; exact bodyAt_false x n fs k (by omega) hy)
        rw [hy] at HOK HNX
        rw [hsl] at HSL HSB HOK HYN
        have HRL : Hid ((if y then 52 else 0) ≤ 52) := Lib.hid (by split <;> omega)
        clear hat hy hsl
        go_wp2_with (first
          | (refine wpl_load_at rfl _ rfl b _ rfl _ HAT.out ?_)
          | (go_at_call 70; (with_reducible refine (open_any l HSL.out HSB.out x k HX.out (by unfold I63; omega) _ y HOK.out.symm).mono ?_); rintro e w1 ⟨v1, rfl, hr, hb⟩; have HR := Lib.hid hr; have HY1 := Lib.hid (HY.out.keep hb); have HK1 := Lib.hid (HK.out.keep hb); have HB1 := Lib.hid (bch HB.out hb); clear hr hb)
          | (go_at_call 71; (with_reducible refine (part_own g1 k (by omega) _).mono ?_); rintro e w2 ⟨rfl, rfl⟩)
          | (refine wpl_copy_yb rfl _ _ rfl g1 (52 * k) 52 52 (bodyAt x n fs k) HY1.out rfl v1 _ _ rfl HR.out HRL.out (by have := HYL.out; omega) ?_; intro w3 HY3 hg3; have HY3 := Lib.hid (HYN.out ▸ HY3.out); have HK3 := Lib.hid (HK1.out.over hg3.out (Ne.symm HNE.out)); have HB3 := Lib.hid (below_grown HB1.out hg3.out HG1.out HB1.out.size); clear hg3)
          | (refine wpl_put_kb rfl _ _ rfl g2 k (oksAt x n fs k) y HK3.out (by have := HKL.out; omega) rfl rfl ?_; intro w4 HK4 hg4; have HK4 := Lib.hid (HNX.out ▸ HK4.out); have HY4 := Lib.hid (HY3.out.over hg4.out HNE.out); have HB4 := Lib.hid (below_grown HB3.out hg4.out HG2.out HB3.out.size); clear hg4))
        go_roundw
        case rel => exact ⟨k + 1, by simp, by omega, HY4, HK4, HB4⟩
        case measure => simp [intOf]; omega
      · obtain rfl : k = m := by omega
        go_wp2
        go_ret2
        refine ⟨g1, g2, rfl, ?_, ?_, HB.out⟩
        · have h1 := HY.out
          rw [← HM.out, bodyAt_end] at h1
          exact h1.ri (by rw [flatB_length x n fs HFL.out]) (by omega)
        · have h1 := HK.out
          rw [← HM.out, oksAt_end] at h1
          exact h1.bs (flatK_length x n fs 16) (by omega)
end Go.Proofs.YtepaghohojomeaaDoor
