/-
  WHAT THE DOCUMENT'S ANSWERS OF LAYER 9 (crash) ANSWER: the reference's All, Tears, Same. Lists of crashes. No condition.
-/
import Derived.Test.YtdadeloojblekaaCrashRef
import Derived.Test.YtdadeloojblekaaTmask
import Derived.Test.YtdadeloojblekaaDiskAbs
namespace Go.Proofs.Ytdadeloojblekaa
open Go.RowKit
/-- in w these three cells tell the crash -/
def CrR (w : World) (e : List Value) (c : AC) : Prop := ∃ vk, e = [vk, .int .i64 c.torn, .int .i64 c.cut] ∧ RI .u8 w vk c.len c.kb
theorem CrR.kin {w w' : World} (hb : Kin w w') {e : List Value} {c : AC} (h : CrR w e c) : CrR w' e c := by
  obtain ⟨vk, h1, h2⟩ := h; exact ⟨vk, h1, h2.kin hb⟩
theorem CrR.length {w : World} {e : List Value} {c : AC} (h : CrR w e c) : e.length = 3 := by obtain ⟨_, rfl, _⟩ := h; rfl
/-- element by element -/
def CrF (w : World) (es : List (List Value)) (l : List AC) : Prop := es.length = l.length ∧ ∀ (i : Nat) (e : List Value) (c : AC), es[i]? = some e → l[i]? = some c → CrR w e c
theorem CrF.kin {w w' : World} (hb : Kin w w') {es : List (List Value)} {l : List AC} (h : CrF w es l) : CrF w' es l := ⟨h.1, fun i e c he hc => (h.2 i e c he hc).kin hb⟩
theorem CrF.nil (w : World) : CrF w [] [] := ⟨rfl, fun i e c he => by simp at he⟩
theorem CrF.snoc {w : World} {es : List (List Value)} {l : List AC} {e : List Value} {c : AC} (h : CrF w es l) (hc : CrR w e c) : CrF w (es ++ [e]) (l ++ [c]) := by
  refine ⟨by simp [h.1], fun i e' c' he hc' => ?_⟩
  by_cases hi : i < l.length
  · rw [List.getElem?_append_left (by rw [h.1]; exact hi)] at he
    rw [List.getElem?_append_left hi] at hc'
    exact h.2 i _ _ he hc'
  · have hl := h.1
    rw [List.getElem?_append_right (by omega)] at he hc'
    have hi0 : i - l.length = 0 := by
      have := (List.getElem?_eq_some_iff.1 hc').1; simp at this; omega
    rw [hl, hi0] at he
    rw [hi0] at hc'
    simp at he hc'
    subst he; subst hc'
    exact hc
theorem CrF.lengths {w : World} {es : List (List Value)} {l : List AC} (h : CrF w es l) : ∀ e ∈ es, e.length = 3 := by
  intro e he
  obtain ⟨i, hi, rfl⟩ := List.getElem_of_mem he
  exact (h.2 i _ _ (List.getElem?_eq_getElem hi) (List.getElem?_eq_getElem (by rw [← h.1]; exact hi))).length
/-- a slice of crashes -/
def CRs (w : World) (v : Value) (l : List AC) : Prop := ∃ es, CS 3 w v l.length es.flatten ∧ CrF w es l
theorem CRs.kin {w w' : World} (hb : Kin w w') {v : Value} {l : List AC} (h : CRs w v l) : CRs w' v l := by obtain ⟨es, h1, h2⟩ := h; exact ⟨es, h1.kin hb, h2.kin hb⟩
theorem CRs.below {w w' : World} (hb : Below w.heap.size w w') {v : Value} {l : List AC} (h : CRs w v l) : CRs w' v l := h.kin (Kin.below hb)
theorem CRs.form {w : World} {v : Value} {l : List AC} (h : CRs w v l) : ∃ a cap, v = .slice a l.length cap ∧ l.length ≤ cap ∧ cap ≤ 9223372036854775807 ∧ (a = none → cap = 0) := by obtain ⟨_, h, _⟩ := h; exact h.form
theorem CRs.at_ {w : World} {a : Option Addr} {n cap : Nat} {l : List AC} (h : CRs w (.slice a n cap) l) (i : Nat) (c : AC) (hc : l[i]? = some c) :
    ∃ b off ak ck, a = some ⟨b, off, none⟩ ∧ w.cell? ⟨b, off + i * 3, none⟩ = some (.slice ak c.len ck) ∧ w.cell? ⟨b, off + i * 3 + 1, none⟩ = some (.int .i64 c.torn) ∧ w.cell? ⟨b, off + i * 3 + 2, none⟩ = some (.int .i64 c.cut) ∧ RI .u8 w (.slice ak c.len ck) c.len c.kb := by
  obtain ⟨es, h1, h2⟩ := h
  obtain ⟨hi, _⟩ := List.getElem?_eq_some_iff.1 hc
  have hi2 : i < es.length := by rw [h2.1]; exact hi
  obtain ⟨vk, he, hr⟩ := h2.2 i es[i] c (List.getElem?_eq_getElem hi2) hc
  have hn : n = l.length := by obtain ⟨_, _, hv, _⟩ := h1; simp at hv; exact hv.2.1
  subst hn
  obtain ⟨b, off, rfl, hcc⟩ := h1.at_ i hi
  have hg := fun j hj => (hcc j hj).trans (flat_get 3 es i j h2.lengths hj _ (List.getElem?_eq_getElem hi2))
  rw [he] at hg
  obtain ⟨ak, ck, rfl, _⟩ := id hr
  exact ⟨b, off, ak, ck, rfl, by simpa using hg 0 (by omega), by simpa using hg 1 (by omega), by simpa using hg 2 (by omega), hr⟩
theorem crash_parts : (Try.prog.info? 25).map (fun i => (i.zero, i.size, i.bytes)) = some (some (.agg #[.slice none 0 0, .int .i64 0, .int .i64 0]), 3, 40) := by kernel_rfl
/-- append of one crash to a row of crashes that the call made -/
theorem wpl_app_crash {w : World} {ops : Array Oper} {rest : List Oper} {o : Oper} {a : Act} {Q : Exit → Act → World → Prop} (hgd : o.guard = none) (s x : Operand)
    (ho : o.op = .call { callee := .builtin .append, args := #[s, x], argTypes := #[38, 38] })
    (base : Nat) (v : Value) (n : Nat) (es : List (List Value)) (hs : a.eval s = v) (hown : Hid (w.ownsRow base 25 3 v n es.flatten))
    (g : Nat) (e : List Value) (hx : a.eval x = .slice (some ⟨g, 0, none⟩) 1 1) (hblk : w.heap[g]? = some (.cells e.toArray 25 (0, 0))) (he : e.length = 3) (h1 : ∀ u ∈ e, u.oneCell' = true) (hn : n ≤ 1000000000)
    (B : Nat) (W : World) (hb : Hid (Below B W w)) (hB : B ≤ base) (hbase : base ≤ w.heap.size)
    (h : ∀ v' w', Hid (w'.ownsRow base 25 3 v' (n + 1) (es ++ [e]).flatten) → Hid (Below B W w') → Hid (w.grownBy w' v.ownBlock) → wpList Try.prog ops Q rest (a.put o.dst v') w') : wpList Try.prog ops Q (o :: rest) a w := by
  obtain ⟨i, hi, hz0, hz1, hz2⟩ := info_parts crash_parts
  refine wpList_append_own_wide w hgd s x 38 ho base 25 i _ 3 40 Try.underlying38 hi hz0 hz1 hz2 rfl (by omega) v n es.flatten hs hown.out ⟨g, 0, none⟩ 1 1 e hx (by rw [he]) ?_ h1 (by unfold maxLen; omega) (by omega) hbase ?_
  · intro j u hj
    have hc : w.cell? ⟨g, j, none⟩ = some u := by rw [cell_of_row _ g j _ _ _ hblk]; simpa using hj
    by_cases h0 : j = 0
    · subst h0; simpa [Addr.add] using hc
    · simpa [Addr.add, h0] using hc
  · intro v' w' h1 h2 _
    exact h v' w' (by rw [List.flatten_append, List.flatten_singleton]; exact h1) (hb.out.grown h2 (by omega) (fun q hq => by have := (hown.out.lt q hq).1; omega)) h2
/-- one byte in a block of its own, in the view -/
theorem byte_ri {w : World} {b B : Nat} {z : Int} {T : TypeId} (h : w.heap[b]? = some (.cells #[.int .u8 z] 5 (0, 0))) (hT : 5 ≠ T) : RI .u8 (tmask (fun _ => false) B T w) (.slice (some ⟨b, 0, none⟩) 1 1) 1 [z] := by
  refine ⟨_, 1, rfl, rfl, Nat.le_refl _, by omega, fun h => by simp at h, fun _ => ⟨b, 0, rfl, fun j hj => ?_⟩⟩
  obtain rfl : j = 0 := by omega
  refine tmask_of (o := .cells #[.int .u8 z] 5 (0, 0)) h rfl (fun _ => by simp [hasT, hT]) ?_
  rw [cell_of_row _ b _ _ _ _ h]; rfl
theorem alloc_two (w : World) (x y : Obj) : ((w.alloc x).alloc y).heap[w.heap.size + 1]? = some y := by
  have := heap_alloc_last (w.alloc x) y
  rwa [alloc_size] at this
theorem below_two (w : World) (x y : Obj) : Below w.heap.size w ((w.alloc x).alloc y) := chain (below_alloc w x) (below_alloc _ y)
theorem alloc_first (w : World) (x y : Obj) : ((w.alloc x).alloc y).heap[w.heap.size]? = some x := by
  rw [(below_alloc (w.alloc x) y).block _ (by rw [alloc_size]; omega)]; exact heap_alloc_last w x
def lim (n most : Int) : Nat := (min (max n 0) most).toNat
def oneC (j : Nat) : AC := ⟨1, [(j : Int)], -1, 0⟩
/-- the first k of them -/
def allN (k : Nat) : List AC := (List.range k).map oneC
theorem allN_succ (k : Nat) : allN (k + 1) = allN k ++ [oneC k] := by simp [allN, List.range_succ]
def cntA (n most : Int) : Nat := 2 ^ lim n most
theorem two_eight : ∀ k, k ≤ 8 → two k = ((2 ^ k : Nat) : Int) := by decide
set_option maxRecDepth 8000 in
set_option maxHeartbeats 2000000 in
theorem rall_any (n : Int) (hn : I63 n) (w : World) :
    Calls Try.prog 17 #[.int .i64 n] w fun e w' => ∃ v', e = .returned v' ∧ CRs w' v' (allN (cntA n 8)) ∧ Below w.heap.size w w' := by
  have HL := Lib.hid fun w => limit_any n 8 hn (by omega) w
  obtain ⟨kk, hkk⟩ : ∃ kk : Nat, min (max n 0) 8 = (kk : Int) := ⟨(min (max n 0) 8).toNat, by omega⟩
  have hk8 : kk ≤ 8 := by omega
  have hcn : cntA n 8 = 2 ^ kk := by unfold cntA lim; rw [hkk]; rfl
  rw [hkk] at HL
  have HT := Lib.hid fun w => two_at (kk : Int) kk rfl (by omega) w
  rw [two_eight kk hk8] at HT
  have hm : 2 ^ kk ≤ 256 := Nat.pow_le_pow_right (by omega : 0 < 2) hk8
  rw [hcn]
  generalize 2 ^ kk = m at *
  have hm2 : (m : Int) ≤ 256 := by omega
  clear hkk hcn hk8
  go_enter Try.func17, Try.ntmps17
  go_wp2_with (first
    | (go_at_call 26; (with_reducible refine (HL.out _).mono ?_); rintro e w' ⟨rfl, rfl⟩)
    | (go_at_call 21; (with_reducible refine (HT.out _).mono ?_); rintro e w' ⟨rfl, rfl⟩))
  go_loopw [3, 5] (fun x iv wr => ∃ (k : Nat) (es : List (List Value)), iv = .int .i64 k ∧ k ≤ m ∧ Hid (wr.ownsRow w.heap.size 25 3 x k es.flatten) ∧ Hid (CrF (tmask (fun _ => false) w.heap.size 25 wr) es (allN k)) ∧ Hid (Below w.heap.size w wr)) (fun _ iv _ => m - (intOf iv).toNat)
  case atStart => exact ⟨0, [], rfl, by omega, Lib.hid (World.ownsRow_nil _ _ _ _), Lib.hid (CrF.nil _), Lib.hid (Below.refl _ _)⟩
  case round =>
    obtain ⟨k, es, rfl, hk, HO, HF, HB⟩ := hrel
    by_cases hlt : (k : Int) < (m : Int)
    · have HB2 := Lib.hid (below_two wr (.cells #[.int .u8 (k : Int)] 5) (.cells #[.slice (some ⟨wr.heap.size, 0, none⟩) 1 1, .int .i64 (-1), .int .i64 0] 25))
      go_wp2_with (first
        | (at_builtin; refine wpl_app_crash rfl (.tmp 15) (.tmp 20) rfl w.heap.size _ k es rfl (Lib.hid (own_keep HO.out HB2.out)) (wr.heap.size + 1) [.slice (some ⟨wr.heap.size, 0, none⟩) 1 1, .int .i64 (-1), .int .i64 0] rfl (alloc_two wr _ _) rfl (by simp [Value.oneCell']) (by omega) w.heap.size w (Lib.hid (chain HB.out HB2.out)) (Nat.le_refl _) (Nat.le_trans HB.out.size HB2.out.size) ?_; intro v9 w9 HO9 HB9 HG9))
      have hkg := tmask_grown (F := fun _ => false) (B := w.heap.size) (own_keep HO.out HB2.out) (Nat.le_refl _) HG9.out
      have hnew : RI .u8 (tmask (fun _ => false) w.heap.size 25 w9) (.slice (some ⟨wr.heap.size, 0, none⟩) 1 1) 1 [(k : Int)] := (byte_ri (alloc_first wr _ _) (by decide)).kin hkg
      have HNW := Lib.hid ((HF.out.kin (tmask_below HB2.out)).kin hkg |>.snoc (c := oneC k) ⟨_, rfl, hnew⟩)
      clear hkg hnew
      go_roundw
      case rel => exact ⟨k + 1, _, by go_num, by omega, HO9, Lib.hid (by rw [allN_succ]; exact HNW.out), HB9⟩
      case measure => simp [intOf]; omega
    · have hq : k = m := by omega
      subst hq
      go_wp2
      go_ret
      refine ⟨_, rfl, ⟨es, ?_, HF.out.kin ((tmask_mask _ _ _ _).trans (unmask _ _))⟩, HB.out⟩
      rw [show (allN k).length = k from by simp [allN]]
      exact CS.own HO.out
end Go.Proofs.Ytdadeloojblekaa
