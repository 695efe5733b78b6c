/-
  TEXTS JOINED: View, SeqTold, SeqTill, InRow. Each one's own words stand at its head.
-/
import Derived.Test.YtjlnceldnbpapaaDoorSecs
import Derived.Test.YtjlnceldnbpapaaDoorList
import Derived.RangeFuncNested
import Derived.RangeFuncBound
import Derived.RangeFuncCalls
import Derived.RangeFuncLeaves
import Derived.WalkKit
import Derived.OwnWalkIn
import Derived.TacticsInMore
import Derived.LoopNIn
import Derived.LoopIn
import Derived.Deep.WholeRow
/-
  WHAT IS SEEN OF A WORLD: cells that stay what they are from one world to another (Kin); a world without some blocks (mask), so that what is said of it is said of the others alone; slices of structs, told by their cells (CS); slices of bools (BS). Nothing here speaks of the program's functions. No condition.
-/
namespace Go.Proofs.YtjlnceldnbpapaaDoor
open Go.RowKit
theorem FS.kin {w w' : World} (hb : Kin w w') {v : Value} {n : Nat} {fs : List Int} (h : FS w v n fs) : FS w' v n fs := by
  obtain ⟨a, cap, rfl, h1, h2, h3, h4, hc⟩ := h
  refine ⟨a, cap, rfl, h1, h2, h3, h4, fun h0 => ?_⟩
  obtain ⟨b, off, rfl, hcell⟩ := hc h0
  exact ⟨b, off, rfl, fun j hj => hb _ _ (hcell j hj)⟩
/-- w without the blocks of F -/
def mask (F : Nat → Bool) (w : World) : World := { w with heap := w.heap.mapIdx fun k o => bif F k then .cells #[] 0 (0, 0) else o }
theorem mask_heap (F : Nat → Bool) (w : World) (k : Nat) : (mask F w).heap[k]? = (w.heap[k]?).map fun o => bif F k then .cells #[] 0 (0, 0) else o := by
  simp [mask]
theorem mask_size (F : Nat → Bool) (w : World) : (mask F w).heap.size = w.heap.size := by simp [mask]
theorem unmask (F : Nat → Bool) (w : World) : Kin (mask F w) w := by
  intro a v h
  unfold World.cell? at h ⊢
  rw [mask_heap] at h
  cases hq : w.heap[a.block]? with
  | none => simp [hq] at h
  | some o =>
    cases hf : F a.block with
    | true => simp [hq, hf] at h
    | false => simpa [hq, hf] using h
/-- the blocks of F stand in w -/
def Foot (F : Nat → Bool) (n : Nat) : Prop := ∀ k, F k = true → k < n
theorem Foot.mono {F : Nat → Bool} {n m : Nat} (h : Foot F n) (hm : n ≤ m) : Foot F m := fun k hk => Nat.lt_of_lt_of_le (h k hk) hm
theorem Foot.none (n : Nat) : Foot (fun _ => false) n := fun _ h => by simp at h
/-- w' is w but for the blocks of F, and for new ones; F' has no others of the old ones than F -/
structure Ext (F : Nat → Bool) (w w' : World) (F' : Nat → Bool) : Prop where
  os : w'.os = w.os
  tape : w'.tape = w.tape
  output : w'.output = w.output
  size : w.heap.size ≤ w'.heap.size
  block : ∀ k, k < w.heap.size → F k = false → w'.heap[k]? = w.heap[k]?
  foot : ∀ k, k < w.heap.size → F' k = F k
theorem Ext.refl (F : Nat → Bool) (w : World) : Ext F w w F := ⟨rfl, rfl, rfl, Nat.le_refl _, fun _ _ _ => rfl, fun _ _ => rfl⟩
theorem Ext.trans {F F' F'' : Nat → Bool} {a b c : World} (h : Ext F a b F') (k : Ext F' b c F'') : Ext F a c F'' :=
  ⟨k.os.trans h.os, k.tape.trans h.tape, k.output.trans h.output, Nat.le_trans h.size k.size,
    fun i hi hf => (k.block i (Nat.lt_of_lt_of_le hi h.size) (by rw [h.foot i hi]; exact hf)).trans (h.block i hi hf),
    fun i hi => (k.foot i (Nat.lt_of_lt_of_le hi h.size)).trans (h.foot i hi)⟩
theorem Ext.below {F : Nat → Bool} {w w' : World} (h : Below w.heap.size w w') : Ext F w w' F := ⟨h.os, h.tape, h.output, h.size, fun k hk _ => h.block k hk, fun _ _ => rfl⟩
theorem Ext.kin {F F' : Nat → Bool} {w w' : World} (h : Ext F w w' F') : Kin (mask F w) (mask F' w') := by
  intro a v hx
  unfold World.cell? at hx ⊢
  rw [mask_heap] at hx ⊢
  have hlt : a.block < w.heap.size := by
    rcases Nat.lt_or_ge a.block w.heap.size with hl | hl
    · exact hl
    · simp [Array.getElem?_eq_none hl] at hx
  cases hf : F a.block with
  | true => rw [Array.getElem?_eq_getElem hlt] at hx; simp [hf] at hx
  | false => rw [h.block _ hlt hf, h.foot _ hlt]; exact hx
theorem kin_mask {F : Nat → Bool} {w w' : World} (h : Below w.heap.size w w') : Kin (mask F w) (mask F w') := (Ext.below h).kin
theorem kin_drew (F : Nat → Bool) (w : World) : Kin (mask F w) (mask F w.drew) := kin_mask (Below.refl _ _).drew
/-- what is said of fewer blocks holds of more -/
theorem mask_mono {F F' : Nat → Bool} (h : ∀ k, F k = true → F' k = true) (w : World) : Kin (mask F' w) (mask F w) := by
  intro a v hx
  unfold World.cell? at hx ⊢
  rw [mask_heap] at hx ⊢
  cases hq : w.heap[a.block]? with
  | none => simp [hq] at hx
  | some o =>
    cases hf' : F' a.block with
    | true => simp [hq, hf'] at hx
    | false =>
      have hf : F a.block = false := by
        cases hf : F a.block with
        | false => rfl
        | true => rw [h _ hf] at hf'; simp at hf'
      simpa [hq, hf, hf'] using hx
/-- F, and the blocks from n on -/
def plusF (F : Nat → Bool) (n m : Nat) : Nat → Bool := fun k => F k || (decide (n ≤ k) && decide (k < m))
theorem plusF_mono (F : Nat → Bool) (n m k : Nat) (h : F k = true) : plusF F n m k = true := by simp [plusF, h]
theorem plusF_foot {F : Nat → Bool} {n m : Nat} (h : Foot F n) (hm : n ≤ m) : Foot (plusF F n m) m := by
  intro k hk
  simp only [plusF, Bool.or_eq_true, Bool.and_eq_true, decide_eq_true_eq] at hk
  rcases hk with hk | hk
  · have := h k hk; omega
  · exact hk.2
theorem plusF_ext {F : Nat → Bool} {w w' : World} (h : Below w.heap.size w w') : Ext F w w' (plusF F w.heap.size w'.heap.size) :=
  ⟨h.os, h.tape, h.output, h.size, fun k hk _ => h.block k hk, fun k hk => by simp [plusF]; intro h1; omega⟩
theorem plusF_in (F : Nat → Bool) (n m k : Nat) (h : n ≤ k) (h2 : k < m) : plusF F n m k = true := by simp [plusF, h, h2]
theorem Ext.setRow {F : Nat → Bool} {w w' : World} (h : Ext F w w' F) (b : Nat) (hb : F b = true) (cs : Array Value) : Ext F w (w'.setRow b cs) F :=
  h.trans ⟨rfl, rfl, rfl, by simp, fun k _ hf => setRow_other w' b k cs (by rintro rfl; rw [hb] at hf; simp at hf), fun _ _ => rfl⟩
/-- what a call made lies apart from the blocks that stood ahead of it -/
theorem own_mask {F : Nat → Bool} {w : World} {base : Nat} {e : TypeId} {size : Nat} {v : Value} {n : Nat} {xs : List Value} (hF : Foot F base) (h : w.ownsRow base e size v n xs) : (mask F w).ownsRow base e size v n xs := by
  refine ⟨h.1, ?_⟩
  rcases h.2 with h2 | ⟨g, cap, cur, hv, hg, hcur, h3⟩
  · exact .inl h2
  · refine .inr ⟨g, cap, cur, hv, hg, ?_, h3⟩
    have hf : F g = false := by
      cases hq : F g with
      | false => rfl
      | true => have := hF g hq; omega
    rw [mask_heap, hcur]; simp [hf]
theorem mask_none (w : World) : mask (fun _ => false) w = w := by
  unfold mask
  have : (w.heap.mapIdx fun k o => bif (fun _ => false) k then Obj.cells #[] 0 (0, 0) else o) = w.heap := by
    refine Array.ext (by simp) fun i h1 h2 => by simp
  rw [this]
end Go.Proofs.YtjlnceldnbpapaaDoor
/-
  A RANGE OVER A FUNCTION WHOSE ITERATOR TELLS THE ROUND SOMETHING OF THE MEMORY BEHIND WHAT IT HANDS OVER ('T x W'), and whose rounds name the blocks that they may turn (a state f): a contract (SeqTold) and the law of the caller (wpIn_rangeFunc_told). Nothing here speaks of the program. No condition.
-/
namespace Go.Proofs.YtjlnceldnbpapaaDoor
open Go.RowKit
/-- from A to B: what lay below b, and what is cells, lies as it lay -/
def Free (b : Nat) (A B : World) : Prop := Below b A B ∧ ∀ (k : Nat) (o : Obj), A.heap[k]? = some o → o.isCells = true → B.heap[k]? = some o
theorem Free.refl (b : Nat) (A : World) : Free b A A := ⟨Below.refl _ _, fun _ _ h _ => h⟩
theorem Free.trans {b : Nat} {A B C : World} (h : Free b A B) (k : Free b B C) : Free b A C := ⟨h.1.trans k.1, fun i o hi ho => k.2 i o (h.2 i o hi ho) ho⟩
theorem Free.mono {b b' : Nat} {A B : World} (h : Free b A B) (hb : b' ≤ b) : Free b' A B := ⟨h.1.mono hb, h.2⟩
theorem Free.of {b : Nat} {A B : World} (h : Below A.heap.size A B) (hb : b ≤ A.heap.size) : Free b A B := ⟨h.mono hb, fun k _ hk _ => (h.block k (Array.getElem?_eq_some_iff.1 hk).1).trans hk⟩
theorem Free.put {b : Nat} {W : World} {l : Nat} {o : Obj} (o' : Obj) (hb : b ≤ l) (h : W.heap[l]? = some o) (ho : o.isCells = false) : Free b W (W.putObj l o') :=
  ⟨(Below.refl b W).grown (grownBy_putObj' W l o') (by have := (Array.getElem?_eq_some_iff.1 h).1; omega) (fun k e => by cases e; exact hb), fun k o2 hk ho2 => by
    by_cases e : k = l
    · subst e; rw [h] at hk; cases hk; rw [ho] at ho2; cases ho2
    · exact (World.putObj_heap_other e).trans hk⟩
variable {F : Fence} {n : Nat} {P : Program}
def SeqTold {α σ : Type} (F : Fence) (n : Nat) (P : Program) (g : Nat) (lb : Array Value) (encs : α → Array Value) (T : α → World → Prop) (Kp : σ → World → σ → World → Prop) (Ok : σ → World → World → Prop) (S : List α → Prop) (N : Nat) (w : World) : Prop :=
  ∀ (l : Nat) (J : σ → List α → World → Prop) (f : σ) (W : World), Below w.heap.size w W → Ok f w W → (∀ f s A B, J f s A → Free W.heap.size A B → J f s B) →
    (∀ f pre x W1, J f pre W1 → T x W1 → pre.length < N → YieldAt F (n - 1) P l (encs x) W1 fun e W' => e = .returned (.bool true) ∧ ∃ f', J f' (pre ++ [x]) W' ∧ Kp f W1 f' W') →
    J f [] W →
    CallsIn F n P g (#[.func (.yield l) #[] #[]] ++ lb) W fun e W' => (∃ v, e = .returned v) ∧ ∃ f' xs, S xs ∧ J f' xs W'
/-- no cells lie there -/
def NoC (W : World) (k : Nat) : Prop := ∃ o : Obj, W.heap[k]? = some o ∧ o.isCells = false
/-- how the body of a round is left -/
def toldPost {α σ : Type} (B : Nat) (Kp : σ → World → σ → World → Prop) (I : σ → List α → World → Prop) (f : σ) (xs : List α) (W : World) : Exit → Act → World → Prop
  | .normal, _, W' => ∃ f', W'.heap[B]? = W.heap[B]? ∧ W'.heap[B + 1]? = W.heap[B + 1]? ∧ Kp f W f' W' ∧ I f' xs W'
  | _, _, _ => False
theorem wpIn_rangeFunc_told {α σ : Type} {g : Operand} {ps : Array Tmp} {assign body : Code} {Q : Exit → Act → World → Prop} {a : Act} {w : World}
    (hro : F.round = none) (h1 : 1 ≤ n) {gf : Nat} {lb : Array Value} (hg : a.eval g = .func (.func gf) #[] lb) (hFg : F.fn gf) (eg : ∀ args w, (callFunc gf args).run P w = .ok (.enter gf args) w)
    {encs : α → Array Value} {T : α → World → Prop} {Kp : σ → World → σ → World → Prop} {Ok : σ → World → World → Prop} {S : List α → Prop} {N : Nat} {w0 : World} (hseq : SeqTold F (n - 1) P gf lb encs T Kp Ok S N w0)
    (hb0 : Below w0.heap.size w0 w) (hps : ∀ x, (encs x).size = ps.size) (f0 : σ) (ok : ∀ o o', Ok f0 w0 ((w.alloc o).alloc o'))
    (hKt : ∀ {a A b B c C}, Kp a A b B → Kp b B c C → Kp a A c C) (hKx : ∀ {f W W'}, Below W.heap.size W W' → Kp f W f W')
    (I : σ → List α → World → Prop) (hI : ∀ f s A B, I f s A → Free w.heap.size A B → I f s B) (hT : ∀ x A B, T x A → Free w.heap.size A B → T x B)
    (hKb : ∀ f s W (o o' : Obj), I f s W → W.heap[w.heap.size + 1]? = some o → o.isCells = false → Kp f W f (W.putObj (w.heap.size + 1) o')) (h0 : ∀ o o', I f0 [] ((w.alloc o).alloc o'))
    (Ax : σ → α → Act → World → Prop) (hAx : ∀ f x a' A B, Ax f x a' A → Free w.heap.size A B → Ax f x a' B)
    (hassign : ∀ (l : Nat) (f : σ) (pre : List α) (x : α) (W : World) (K : Act → World → Prop), I f pre W → T x W → (∀ a' W', Below W.heap.size W W' → Ax f x a' W' → K a' W') →
      assign.wpIn (F.inRound l) (n - 1 - 1) P (Exit.then K (fun _ _ _ => False)) { tmps := (ps.zip (encs x)).foldl (fun t (p, v) => t.setIfInBounds p v) a.tmps, defers := [] } W)
    (hbody : ∀ (l : Nat) (f : σ) (pre : List α) (x : α) (a' : Act) (W : World), NoC W w.heap.size → NoC W (w.heap.size + 1) → I f pre W → T x W → Ax f x a' W → pre.length < N → body.wpIn (F.inRound l) (n - 1 - 1) P (toldPost w.heap.size Kp I f (pre ++ [x]) W) a' W)
    (hdone : ∀ (f : σ) (xs : List α) (W : World), S xs → I f xs W → W.heap[w.heap.size]? = some (.deferred (some [])) → Q .normal { a with defers := { target := .collected w.heap.size, args := #[] } :: a.defers } W) :
    (Code.rangeFunc g ps assign body).wpIn F n P Q a w := by
  refine wpIn_rangeFunc ?_
  intro fn hfn
  rw [hro]
  obtain ⟨rec, hrec⟩ : ∃ rec : LoopState → Option Code → Loop, rec = fun st pe => { state := st, pending := pe, fn, tmps := a.tmps, params := ps, assign, body, defers := w.heap.size } := ⟨_, rfl⟩
  obtain ⟨W1, hW1⟩ : ∃ W1, (w.alloc (.deferred (some []))).alloc (.loop (rec .ready none)) = W1 := ⟨_, rfl⟩
  have hL1 : W1.heap[w.heap.size + 1]? = some (.loop (rec .ready none)) := by
    rw [← hW1]; have := World.alloc_heap_new (w.alloc (.deferred (some []))) (.loop (rec .ready none)); rwa [World.size_alloc] at this
  have hK1 : W1.heap[w.heap.size]? = some (.deferred (some [])) := by
    rw [← hW1]; exact (Below.heap_alloc _ _ _ (by simp)).trans (World.alloc_heap_new w _)
  have hbw : Below w.heap.size w W1 := by rw [← hW1]; exact ((Below.refl _ w).alloc (Nat.le_refl _) _).alloc (by simp) _
  have hs1 : W1.heap.size = w.heap.size + 2 := by rw [← hW1]; simp
  have hI1 : I f0 [] W1 := by rw [← hW1]; exact h0 _ _
  have hb1 : Below w0.heap.size w0 W1 := hb0.trans (hbw.mono hb0.size)
  refine ⟨w.heap.size + 1, [{ target := .collected w.heap.size, args := #[] }], W1, { target := .fn (.func gf) lb, args := #[.func (.yield (w.heap.size + 1)) #[] #[]] }, W1, gf,
    #[.func (.yield (w.heap.size + 1)) #[] #[]] ++ lb, W1, ?_, ?_, ?_, ?_, fun _ => h1, ?_⟩
  · rw [← hW1, hrec]; exact run_enterLoop_outer _ _ _ _ _
  · simp only [resolve, hg]
    simp [go_sem]
  · intro f' hf'; simp [Target.leads] at hf'; subst hf'; exact hFg
  · simp [invoke, go_sem, eg]
  · refine (hseq (w.heap.size + 1)
      (fun f pre W => I f pre W ∧ W.heap[w.heap.size + 1]? = some (.loop (rec .ready none)) ∧ W.heap[w.heap.size]? = some (.deferred (some [])))
      f0 W1 hb1 (by rw [← hW1]; exact ok _ _)
      (fun f s A B hs hf => ⟨hI f s A B hs.1 (hf.mono (by omega)), (hf.1.block _ (by omega)).trans hs.2.1, (hf.1.block _ (by omega)).trans hs.2.2⟩)
      ?_ ⟨hI1, hL1, hK1⟩).mono ?_
    · -- one round
      rintro f pre x W ⟨hi, hl, hk⟩ htx hlen
      have hlt : w.heap.size + 1 < W.heap.size := (Array.getElem?_eq_some_iff.1 hl).1
      have hy := run_yield (P := P) (args := encs x) hl (by rw [hrec]; exact hps x)
      rw [hrec] at hy
      refine ⟨fn, _, assign, body, hy, roundIn_of_wpIn hfn (hassign _ f pre x W _ hi htx ?_)⟩
      clear hy
      intro a' Wa hba hax
      have hfa : Free w.heap.size W Wa := Free.of hba (by omega)
      have hla : Wa.heap[w.heap.size + 1]? = some (.loop (rec .ready none)) := (hba.block _ (by omega)).trans hl
      have hka : Wa.heap[w.heap.size]? = some (.deferred (some [])) := (hba.block _ (by omega)).trans hk
      have hlta : w.heap.size + 1 < Wa.heap.size := (Array.getElem?_eq_some_iff.1 hla).1
      have hia := hI _ _ _ _ hi hfa
      refine ⟨_, run_beginRound hla (by rw [hrec]), ?_⟩
      have hf2 : Free w.heap.size Wa (Wa.putObj (w.heap.size + 1) (.loop { rec .ready none with state := .busy })) := Free.put _ (by omega) hla rfl
      have hl2 : (Wa.putObj (w.heap.size + 1) (.loop { rec .ready none with state := .busy })).heap[w.heap.size + 1]? = some (.loop { rec .ready none with state := .busy }) := World.putObj_heap_same hlta
      have hk2 : (Wa.putObj (w.heap.size + 1) (.loop { rec .ready none with state := .busy })).heap[w.heap.size]? = some (.deferred (some [])) := (World.putObj_heap_other (by omega)).trans hka
      have hw2 : Kp f Wa f (Wa.putObj (w.heap.size + 1) (.loop { rec .ready none with state := .busy })) := hKb _ _ _ _ _ hia hla rfl
      refine wpIn_mono (hbody _ f pre x a' _ ⟨_, hk2, rfl⟩ ⟨_, hl2, rfl⟩ (hI _ _ _ _ hia hf2) (hT _ _ _ (hT _ _ _ htx hfa) hf2) (hAx _ _ _ _ _ hax hf2) hlen) ?_
      rintro e a3 W3 hp
      cases e with
      | normal =>
        obtain ⟨f', hk3, hl3, hkp3, hi3⟩ := hp
        replace hk3 := hk3.trans hk2
        replace hl3 := hl3.trans hl2
        have hr := run_endRound (P := P) none hl3
        rw [hrec] at hr
        refine ⟨_, _, hr, rfl, f', ⟨hI _ _ _ _ hi3 (Free.put _ (by omega) hl3 rfl), ?_, (World.putObj_heap_other (by omega)).trans hk3⟩, hKt (hKx hba) (hKt (hKt hw2 hkp3) (hKb _ _ _ _ _ hi3 hl3 rfl))⟩
        rw [hrec]
        exact World.putObj_heap_same (Array.getElem?_eq_some_iff.1 hl3).1
      | _ => exact hp.elim
    · -- behind the iterator
      rintro e W2 ⟨⟨v, rfl⟩, f', xs, hS, hi, hl, hk⟩
      exact ⟨none, _, by have := run_endLoop (P := P) hl (by rw [hrec]; simp); rw [hrec] at this; exact this, hdone f' xs _ hS (hI _ _ _ _ hi (Free.put _ (by omega) hl rfl)) ((World.putObj_heap_other (by omega)).trans hk)⟩
/-- rows of one type lie as they lay -/
def RowsKeep (t : TypeId) (W W' : World) : Prop := ∀ (k : Nat) (cur : Array Value), W.heap[k]? = some (.cells cur t (0, 0)) → W'.heap[k]? = some (.cells cur t (0, 0))
theorem RowsKeep.of {t : TypeId} {W W' : World} (h : Below W.heap.size W W') : RowsKeep t W W' := fun k _ hk => (h.block k (Array.getElem?_eq_some_iff.1 hk).1).trans hk
theorem RowsKeep.trans {t : TypeId} {A B C : World} (h : RowsKeep t A B) (k : RowsKeep t B C) : RowsKeep t A C := fun i c hi => k i c (h i c hi)
theorem RowsKeep.put {t : TypeId} {W : World} {l : Nat} {o : Obj} (o' : Obj) (h : W.heap[l]? = some o) (ho : o.isCells = false) : RowsKeep t W (W.putObj l o') :=
  fun k _ hk => (Free.put (b := l) o' (Nat.le_refl _) h ho).2 k _ hk rfl
/-- rounds that turn f's blocks and new ones alone, and no rows of type t -/
def KpE (t : TypeId) (f : Nat → Bool) (W : World) (f' : Nat → Bool) (W' : World) : Prop := Ext f W W' f' ∧ (Foot f W.heap.size → Foot f' W'.heap.size) ∧ RowsKeep t W W'
def OkE (f : Nat → Bool) (w W : World) : Prop := Foot f W.heap.size ∧ ∀ k, k < w.heap.size → f k = false
theorem KpE.trans {t : TypeId} {a A b B c C} (h : KpE t a A b B) (k : KpE t b B c C) : KpE t a A c C := ⟨h.1.trans k.1, fun hf => k.2.1 (h.2.1 hf), h.2.2.trans k.2.2⟩
theorem KpE.of {t : TypeId} {f : Nat → Bool} {W W' : World} (h : Below W.heap.size W W') : KpE t f W f W' := ⟨Ext.below h, fun hf => hf.mono h.size, RowsKeep.of h⟩
def KpS {σ : Type} (_ : σ) (W : World) (_ : σ) (W' : World) : Prop := W.heap.size ≤ W'.heap.size
/-- an iterator that asks nothing of its rounds serves those, too -/
theorem SeqTold.lift {α : Type} {t : TypeId} {g : Nat} {lb : Array Value} {encs : α → Array Value} {T : α → World → Prop} {S : List α → Prop} {N : Nat} {w : World}
    (h : SeqTold (σ := Nat → Bool) F n P g lb encs T KpS (fun _ _ _ => True) S N w) : SeqTold F n P g lb encs T (KpE t) OkE S N w := by
  intro l J f W hb _ hJ hY h0
  refine h l J f W hb trivial hJ ?_ h0
  intro f pre x W1 hj ht hl
  exact (hY f pre x W1 hj ht hl).mono fun e W' ⟨he, f', hj, hk⟩ => ⟨he, f', hj, hk.1.size⟩
/-- no operation puts a call off -/
def noDefer (ops : Array Oper) : Bool := ops.toList.all fun o => match o.op with | .defer _ => false | _ => true
theorem noDefer_spec {ops : Array Oper} (h : noDefer ops = true) {i : Nat} {o : Oper} (ho : ops[i]? = some o) : ∀ c, o.op ≠ .defer c := by
  intro c hc
  have hm : o ∈ ops.toList := by rw [← Array.getElem?_toList] at ho; exact List.mem_of_getElem? ho
  have := List.all_eq_true.1 h o hm
  rw [hc] at this
  simp at this
/-- a statement whose order is open is walked in a round as outside of it -/
theorem wpAnyIn_round {l : Nat} {md : Region.Mode} {ops : Array Oper} {Q : Exit → Act → World → Prop} (hnd : noDefer ops = true) : ∀ (fuel : Nat) (listed : Array Bool) (a : Act) (w : World),
    wpAnyIn Fence.wide n P md ops Q fuel listed a w → wpAnyIn (Fence.wide.inRound l) n P md ops Q fuel listed a w
  | 0, _, _, _, h => h
  | fuel + 1, listed, a, w, h => ⟨h.1, fun i hi => by
    have h2 := wpOpIn_mono (fun a' w' => wpAnyIn_round (l := l) hnd fuel (listed.setIfInBounds i true) a' w') (h.2 i hi)
    unfold wpOpIn at h2 ⊢
    cases ho : ops[i]? with
    | none => simp only [ho] at h2 ⊢; exact h2
    | some o =>
      simp only [ho] at h2 ⊢
      split
      · rename_i hw
        simp only [hw, if_true] at h2
        unfold Oper.wpIn at h2 ⊢
        refine ⟨h2.1, ?_⟩
        have h3 := h2.2
        rw [Oper.semAt_eq _ _ _ (noDefer_spec hnd ho)] at h3 ⊢
        exact h3
      · rename_i hw
        simp only [hw] at h2
        exact h2⟩
end Go.Proofs.YtjlnceldnbpapaaDoor
/-
  A RANGE OVER A FUNCTION WHOSE ROUNDS GO ON WHILE WHAT IS HANDED OVER IS GOOD, AND LEAVE BY A RETURN AT THE FIRST THAT IS BAD: a contract (SeqTill) and the law of the caller (wpIn_rangeFunc_till). What is handed over is told by its number k; T says what lies behind it. Nothing here speaks of the program. No condition.
-/
namespace Go.Proofs.YtjlnceldnbpapaaDoor
open Go.RowKit
variable {F : Fence} {n : Nat} {P : Program}
def SeqTill {α σ : Type} (F : Fence) (n : Nat) (P : Program) (g : Nat) (lb : Array Value) (encs : Nat → α → Array Value) (T : Nat → α → World → Prop) (bad : Nat → Bool) (Kp : σ → World → σ → World → Prop) (Ok : σ → World → World → Prop) (S B : Prop) (N : Nat) (w : World) : Prop :=
  ∀ (l : Nat) (J : σ → Nat → World → Prop) (Jx : World → Prop) (f : σ) (W : World), Below w.heap.size w W → Ok f w W → (∀ f s A B, J f s A → Free W.heap.size A B → J f s B) → (∀ A B, Jx A → Free W.heap.size A B → Jx B) →
    (∀ f k x W1, J f k W1 → T k x W1 → k < N → bad k = false → YieldAt F (n - 1) P l (encs k x) W1 fun e W' => e = .returned (.bool true) ∧ ∃ f', J f' (k + 1) W' ∧ Kp f W1 f' W') →
    (∀ f k x W1, J f k W1 → T k x W1 → k < N → bad k = true → YieldAt F (n - 1) P l (encs k x) W1 fun e W' => e = .returned (.bool false) ∧ Jx W') →
    J f 0 W →
    CallsIn F n P g (#[.func (.yield l) #[] #[]] ++ lb) W fun e W' => (∃ v, e = .returned v) ∧ ((S ∧ ∃ f', J f' N W') ∨ (B ∧ Jx W'))
/-- how the body of a round is left -/
def tillPost {σ : Type} (B : Nat) (Kp : σ → World → σ → World → Prop) (I : σ → Nat → World → Prop) (Ix : World → Prop) (bad : Bool) (f : σ) (k : Nat) (W : World) : Exit → Act → World → Prop
  | .normal, _, W' => bad = false ∧ ∃ f', W'.heap[B]? = W.heap[B]? ∧ W'.heap[B + 1]? = W.heap[B + 1]? ∧ Kp f W f' W' ∧ I f' (k + 1) W'
  | .ret, _, W' => bad = true ∧ W'.heap[B]? = W.heap[B]? ∧ W'.heap[B + 1]? = W.heap[B + 1]? ∧ Ix W'
  | _, _, _ => False
theorem wpIn_rangeFunc_till {α σ : Type} {g : Operand} {ps : Array Tmp} {assign body : Code} {Q : Exit → Act → World → Prop} {a : Act} {w : World}
    (hro : F.round = none) (h1 : 1 ≤ n) {gf : Nat} {lb : Array Value} (hg : a.eval g = .func (.func gf) #[] lb) (hFg : F.fn gf) (eg : ∀ args w, (callFunc gf args).run P w = .ok (.enter gf args) w)
    {encs : Nat → α → Array Value} {T : Nat → α → World → Prop} {bad : Nat → Bool} {Kp : σ → World → σ → World → Prop} {Ok : σ → World → World → Prop} {S Bd : Prop} {N : Nat} {w0 : World} (hseq : SeqTill F (n - 1) P gf lb encs T bad Kp Ok S Bd N w0)
    (hb0 : Below w0.heap.size w0 w) (hps : ∀ k x, (encs k x).size = ps.size) (f0 : σ) (ok : ∀ o o', Ok f0 w0 ((w.alloc o).alloc o'))
    (hKt : ∀ {a A b B c C}, Kp a A b B → Kp b B c C → Kp a A c C) (hKx : ∀ {f W W'}, Below W.heap.size W W' → Kp f W f W')
    (I : σ → Nat → World → Prop) (Ix : World → Prop) (hI : ∀ f s A B, I f s A → Free w.heap.size A B → I f s B) (hIx : ∀ A B, Ix A → Free w.heap.size A B → Ix B) (hT : ∀ k x A B, T k x A → Free w.heap.size A B → T k x B)
    (hKb : ∀ f s W (o o' : Obj), I f s W → W.heap[w.heap.size + 1]? = some o → o.isCells = false → Kp f W f (W.putObj (w.heap.size + 1) o')) (h0 : ∀ o o', I f0 0 ((w.alloc o).alloc o'))
    (Ax : σ → Nat → α → Act → World → Prop) (hAx : ∀ f k x a' A B, Ax f k x a' A → Free w.heap.size A B → Ax f k x a' B)
    (hassign : ∀ (l : Nat) (f : σ) (k : Nat) (x : α) (W : World) (K : Act → World → Prop), I f k W → T k x W → (∀ a' W', Below W.heap.size W W' → Ax f k x a' W' → K a' W') →
      assign.wpIn (F.inRound l) (n - 1 - 1) P (Exit.then K (fun _ _ _ => False)) { tmps := (ps.zip (encs k x)).foldl (fun t (p, v) => t.setIfInBounds p v) a.tmps, defers := [] } W)
    (hbody : ∀ (l : Nat) (f : σ) (k : Nat) (x : α) (a' : Act) (W : World), NoC W w.heap.size → NoC W (w.heap.size + 1) → I f k W → T k x W → Ax f k x a' W → k < N → body.wpIn (F.inRound l) (n - 1 - 1) P (tillPost w.heap.size Kp I Ix (bad k) f k W) a' W)
    (hdone : ∀ (f : σ) (W : World), S → I f N W → W.heap[w.heap.size]? = some (.deferred (some [])) → Q .normal { a with defers := { target := .collected w.heap.size, args := #[] } :: a.defers } W)
    (hstop : ∀ (W : World), Bd → Ix W → W.heap[w.heap.size]? = some (.deferred (some [])) → Code.ret.wpIn F n P Q { a with defers := { target := .collected w.heap.size, args := #[] } :: a.defers } W) :
    (Code.rangeFunc g ps assign body).wpIn F n P Q a w := by
  refine wpIn_rangeFunc ?_
  intro fn hfn
  rw [hro]
  obtain ⟨rec, hrec⟩ : ∃ rec : LoopState → Option Code → Loop, rec = fun st pe => { state := st, pending := pe, fn, tmps := a.tmps, params := ps, assign, body, defers := w.heap.size } := ⟨_, rfl⟩
  obtain ⟨W1, hW1⟩ : ∃ W1, (w.alloc (.deferred (some []))).alloc (.loop (rec .ready none)) = W1 := ⟨_, rfl⟩
  have hL1 : W1.heap[w.heap.size + 1]? = some (.loop (rec .ready none)) := by
    rw [← hW1]; have := World.alloc_heap_new (w.alloc (.deferred (some []))) (.loop (rec .ready none)); rwa [World.size_alloc] at this
  have hK1 : W1.heap[w.heap.size]? = some (.deferred (some [])) := by
    rw [← hW1]; exact (Below.heap_alloc _ _ _ (by simp)).trans (World.alloc_heap_new w _)
  have hbw : Below w.heap.size w W1 := by rw [← hW1]; exact ((Below.refl _ w).alloc (Nat.le_refl _) _).alloc (by simp) _
  have hs1 : W1.heap.size = w.heap.size + 2 := by rw [← hW1]; simp
  have hI1 : I f0 0 W1 := by rw [← hW1]; exact h0 _ _
  have hb1 : Below w0.heap.size w0 W1 := hb0.trans (hbw.mono hb0.size)
  refine ⟨w.heap.size + 1, [{ target := .collected w.heap.size, args := #[] }], W1, { target := .fn (.func gf) lb, args := #[.func (.yield (w.heap.size + 1)) #[] #[]] }, W1, gf,
    #[.func (.yield (w.heap.size + 1)) #[] #[]] ++ lb, W1, ?_, ?_, ?_, ?_, fun _ => h1, ?_⟩
  · rw [← hW1, hrec]; exact run_enterLoop_outer _ _ _ _ _
  · simp only [resolve, hg]
    simp [go_sem]
  · intro f' hf'; simp [Target.leads] at hf'; subst hf'; exact hFg
  · simp [invoke, go_sem, eg]
  · -- what a round leaves, whichever way
    have key : ∀ f k x W, I f k W → T k x W → k < N → W.heap[w.heap.size + 1]? = some (.loop (rec .ready none)) → W.heap[w.heap.size]? = some (.deferred (some [])) → YieldAt F (n - 1 - 1) P (w.heap.size + 1) (encs k x) W fun e W' =>
        (bad k = false ∧ e = .returned (.bool true) ∧ ∃ f', (I f' (k + 1) W' ∧ W'.heap[w.heap.size + 1]? = some (.loop (rec .ready none)) ∧ W'.heap[w.heap.size]? = some (.deferred (some []))) ∧ Kp f W f' W') ∨
        (bad k = true ∧ e = .returned (.bool false) ∧ Ix W' ∧ W'.heap[w.heap.size + 1]? = some (.loop (rec .done (some .ret))) ∧ W'.heap[w.heap.size]? = some (.deferred (some []))) := by
      intro f k x W hi htx hkn hl hk
      have hlt : w.heap.size + 1 < W.heap.size := (Array.getElem?_eq_some_iff.1 hl).1
      have hy := run_yield (P := P) (args := encs k x) hl (by rw [hrec]; exact hps k x)
      rw [hrec] at hy
      refine ⟨fn, _, assign, body, hy, roundIn_of_wpIn hfn (hassign _ f k x W _ hi htx ?_)⟩
      clear hy
      intro a' Wa hba hax
      have hfa : Free w.heap.size W Wa := Free.of hba (by omega)
      have hla : Wa.heap[w.heap.size + 1]? = some (.loop (rec .ready none)) := (hba.block _ (by omega)).trans hl
      have hka : Wa.heap[w.heap.size]? = some (.deferred (some [])) := (hba.block _ (by omega)).trans hk
      have hlta : w.heap.size + 1 < Wa.heap.size := (Array.getElem?_eq_some_iff.1 hla).1
      have hia := hI _ _ _ _ hi hfa
      refine ⟨_, run_beginRound hla (by rw [hrec]), ?_⟩
      have hf2 : Free w.heap.size Wa (Wa.putObj (w.heap.size + 1) (.loop { rec .ready none with state := .busy })) := Free.put _ (by omega) hla rfl
      have hl2 : (Wa.putObj (w.heap.size + 1) (.loop { rec .ready none with state := .busy })).heap[w.heap.size + 1]? = some (.loop { rec .ready none with state := .busy }) := World.putObj_heap_same hlta
      have hk2 : (Wa.putObj (w.heap.size + 1) (.loop { rec .ready none with state := .busy })).heap[w.heap.size]? = some (.deferred (some [])) := (World.putObj_heap_other (by omega)).trans hka
      have hw2 : Kp f Wa f (Wa.putObj (w.heap.size + 1) (.loop { rec .ready none with state := .busy })) := hKb _ _ _ _ _ hia hla rfl
      refine wpIn_mono (hbody _ f k x a' _ ⟨_, hk2, rfl⟩ ⟨_, hl2, rfl⟩ (hI _ _ _ _ hia hf2) (hT _ _ _ _ (hT _ _ _ _ htx hfa) hf2) (hAx _ _ _ _ _ _ hax hf2) hkn) ?_
      rintro e a3 W3 hp
      cases e with
      | normal =>
        obtain ⟨hbd, f', hk3, hl3, hkp3, hi3⟩ := hp
        replace hk3 := hk3.trans hk2
        replace hl3 := hl3.trans hl2
        have hr := run_endRound (P := P) none hl3
        rw [hrec] at hr
        refine ⟨_, _, hr, .inl ⟨hbd, rfl, f', ⟨hI _ _ _ _ hi3 (Free.put _ (by omega) hl3 rfl), ?_, (World.putObj_heap_other (by omega)).trans hk3⟩, hKt (hKx hba) (hKt (hKt hw2 hkp3) (hKb _ _ _ _ _ hi3 hl3 rfl))⟩⟩
        rw [hrec]
        exact World.putObj_heap_same (Array.getElem?_eq_some_iff.1 hl3).1
      | ret =>
        obtain ⟨hbd, hk3, hl3, hi3⟩ := hp
        replace hk3 := hk3.trans hk2
        replace hl3 := hl3.trans hl2
        have hr := run_endRound (P := P) (some .ret) hl3
        rw [hrec] at hr
        refine ⟨_, _, hr, .inr ⟨hbd, rfl, hIx _ _ hi3 (Free.put _ (by omega) hl3 rfl), ?_, (World.putObj_heap_other (by omega)).trans hk3⟩⟩
        rw [hrec]
        exact World.putObj_heap_same (Array.getElem?_eq_some_iff.1 hl3).1
      | _ => exact hp.elim
    refine (hseq (w.heap.size + 1)
      (fun f k W => I f k W ∧ W.heap[w.heap.size + 1]? = some (.loop (rec .ready none)) ∧ W.heap[w.heap.size]? = some (.deferred (some [])))
      (fun W => Ix W ∧ W.heap[w.heap.size + 1]? = some (.loop (rec .done (some .ret))) ∧ W.heap[w.heap.size]? = some (.deferred (some [])))
      f0 W1 hb1 (by rw [← hW1]; exact ok _ _)
      (fun f s A B hs hf => ⟨hI f s A B hs.1 (hf.mono (by omega)), (hf.1.block _ (by omega)).trans hs.2.1, (hf.1.block _ (by omega)).trans hs.2.2⟩)
      (fun A B hs hf => ⟨hIx A B hs.1 (hf.mono (by omega)), (hf.1.block _ (by omega)).trans hs.2.1, (hf.1.block _ (by omega)).trans hs.2.2⟩)
      ?_ ?_ ⟨hI1, hL1, hK1⟩).mono ?_
    · rintro f k x W ⟨hi, hl, hk⟩ htx hkn hbd
      refine (key f k x W hi htx hkn hl hk).mono ?_
      rintro e W' (⟨_, he, h⟩ | ⟨h, _⟩)
      · exact ⟨he, h⟩
      · rw [hbd] at h; cases h
    · rintro f k x W ⟨hi, hl, hk⟩ htx hkn hbd
      refine (key f k x W hi htx hkn hl hk).mono ?_
      rintro e W' (⟨h, _⟩ | ⟨_, he, h⟩)
      · rw [hbd] at h; cases h
      · exact ⟨he, h⟩
    · -- behind the iterator
      rintro e W2 ⟨⟨v, rfl⟩, (⟨hS, f', hi, hl, hk⟩ | ⟨hB, hi, hl, hk⟩)⟩
      · exact ⟨none, _, by have := run_endLoop (P := P) hl (by rw [hrec]; simp); rw [hrec] at this; exact this, hdone f' _ hS (hI _ _ _ _ hi (Free.put _ (by omega) hl rfl)) ((World.putObj_heap_other (by omega)).trans hk)⟩
      · exact ⟨some .ret, _, by have := run_endLoop (P := P) hl (by rw [hrec]; simp); rw [hrec] at this; exact this, hstop _ hB (hIx _ _ hi (Free.put _ (by omega) hl rfl)) ((World.putObj_heap_other (by omega)).trans hk)⟩
end Go.Proofs.YtjlnceldnbpapaaDoor
/-
  LOADS AND STORES OF WHOLE STRUCTS WITHIN A FENCE, as steps of the walk. Nothing here speaks of the program's functions. No condition.
-/
namespace Go.Proofs.YtjlnceldnbpapaaDoor
open Go.RowKit
variable {F : Fence} {n : Nat} {P : Program} {ops : Array Oper} {rest : List Oper} {o : Oper} {a : Act} {w : World} {Q : Exit → Act → World → Prop}
theorem wplIn_val (hgd : o.guard = none) (hab : o.about P w a.eval = none) (hd : ∀ c, o.op ≠ .defer c) {v : Value} (he : (execOp a.eval o).run P w = .ok (.value v) w) (h : wpListIn F n P ops Q rest (a.put o.dst v) w) : wpListIn F n P ops Q (o :: rest) a w := by
  refine wpListIn_plain hgd fun K hK => ⟨by rw [hab]; simp, ?_⟩
  rw [Oper.semAt_plain F _ _ hd, he]
  exact hK _ _ h
theorem wplIn_run (hgd : o.guard = none) (hab : o.about P w a.eval = none) (hd : ∀ c, o.op ≠ .defer c) {v : Value} {w' : World} (he : (execOp a.eval o).run P w = .ok (.value v) w') (h : wpListIn F n P ops Q rest (a.put o.dst v) w') : wpListIn F n P ops Q (o :: rest) a w := by
  refine wpListIn_plain hgd fun K hK => ⟨by rw [hab]; simp, ?_⟩
  rw [Oper.semAt_plain F _ _ hd, he]
  exact hK _ _ h
theorem wplIn_load_row (hgd : o.guard = none) (ty : TypeId) (x : Operand) (ho : o.op = .load ty x) (g : Nat) (hx : a.eval x = .pointer (some ⟨g, 0, none⟩)) {v : Value} (hr : (loadVar ty ⟨g, 0, none⟩).run P w = .ok v w)
    (h : wpListIn F n P ops Q rest (a.put o.dst v) w) : wpListIn F n P ops Q (o :: rest) a w :=
  wplIn_val hgd (by simp [Oper.about, ho]) (by rw [ho]; intro c hc; cases hc) (by
    unfold execOp
    simp only [ho, hx, Instr.loadAt, Instr.sureAddr, Sem.run_bind, Sem.run_pure, Result.andThen_ok, hr]) h
theorem wplIn_store_row (hgd : o.guard = none) (ty : TypeId) (x y : Operand) (ho : o.op = .store ty x y) (g : Nat) (cells : Array Value) (hx : a.eval x = .pointer (some ⟨g, 0, none⟩)) (hy : a.eval y = .agg cells)
    (t : TypeId) (old : Array Value) (hg : w.heap[g]? = some (.cells old t (0, 0))) (hi : (P.info? ty).map (·.size) = some cells.size)
    (hold : old.size = cells.size) (h1 : cells.all (·.oneCell') = true)
    (h : wpListIn F n P ops Q rest (a.put o.dst undef) (w.setRow g cells)) : wpListIn F n P ops Q (o :: rest) a w := by
  refine wpListIn_plain hgd fun K hK => ⟨by simp [Oper.about, ho], ?_⟩
  rw [Oper.semAt_plain F _ _ (by rw [ho]; intro c hc; cases hc)]
  unfold execOp
  simp only [ho, hx, hy, Instr.storeAt, Instr.sureAddr, Sem.run_bind, Sem.run_pure, Result.andThen_ok, run_storeVar_row w g t ty old cells hg hi hold h1]
  exact hK _ _ h
end Go.Proofs.YtjlnceldnbpapaaDoor
