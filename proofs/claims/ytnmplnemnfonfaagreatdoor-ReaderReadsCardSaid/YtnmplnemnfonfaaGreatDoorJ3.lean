/-
  TEXTS JOINED: Region, NameRight, SecsA, SecsB, Mix, PutMath, Drawn. Each one's own words stand at its head.
-/
import Derived.WalkKit
import Derived.Deep.RegionHeld3
import Derived.Test.YtnmplnemnfonfaaGreatDoorJ0
import Derived.Lib.Strings
import Derived.Test.YtnmplnemnfonfaaGreatDoorJ1
import Derived.Great.BuildSlice
import Derived.Deep.QuietTactic
import Derived.BigQuiet
import Derived.Below
namespace Go.Proofs.YtnmplnemnfonfaaGreatDoor
open Go
section
variable {P : Program} {md : Region.Mode} {ops : Array Oper} {Q : Exit → Act → World → Prop} {S : World → Prop}
theorem rg_one {fuel : Nat} {listed : Array Bool} {a : Act} {w : World} (i : Nat) (o : Oper) (hr : Region.ready md ops listed = [i]) (ho : ops[i]? = some o)
    (h : ∀ K' : Act → World → Prop, Shut (∀ a w, S w → (S w → wpAnyH P md ops Q S fuel (listed.setIfInBounds i true) a w) → K' a w) → if Region.wanted o (yielded ops a.tmps) = true then Oper.wp P o a w K' Q else K' (a.put o.dst undef) w) :
    wpAnyH P md ops Q S (fuel + 1) listed a w :=
  wpAnyH_ready hr (by simp) (AllReadyH.cons ho h AllReadyH.nil)
def RgQuiet (P : Program) (ops : Array Oper) (Q : Exit → Act → World → Prop) (S : World → Prop) (o : Oper) (a : Act) (v : Value) : Prop :=
  ∀ w, S w → ∀ K' : Act → World → Prop, Shut (∀ w', S w' → K' (a.put o.dst v) w') → if Region.wanted o (yielded ops a.tmps) = true then Oper.wp P o a w K' Q else K' (a.put o.dst undef) w
theorem rg_two {fuel : Nat} {listed : Array Bool} {a : Act} {w : World} (i j : Nat) (oi oj : Oper) (vi vj : Value)
    (hr : Region.ready md ops listed = [i, j]) (hri : Region.ready md ops (listed.setIfInBounds i true) = [j]) (hrj : Region.ready md ops (listed.setIfInBounds j true) = [i])
    (hoi : ops[i]? = some oi) (hoj : ops[j]? = some oj) (hS : S w)
    (hi : RgQuiet P ops Q S oi a vi) (hj : RgQuiet P ops Q S oj (a.put oi.dst vi) vj)
    (hj2 : RgQuiet P ops Q S oj a vj) (hi2 : RgQuiet P ops Q S oi (a.put oj.dst vj) vi)
    (hc : (a.put oj.dst vj).put oi.dst vi = (a.put oi.dst vi).put oj.dst vj)
    (h : ∀ w', S w' → wpAnyH P md ops Q S fuel ((listed.setIfInBounds i true).setIfInBounds j true) ((a.put oi.dst vi).put oj.dst vj) w') :
    wpAnyH P md ops Q S (fuel + 2) listed a w := by
  have hne : i ≠ j := fun e => by subst e; have h1 := hri; rw [← hrj] at h1; have := congrArg List.length (hr); have h3 : i ∈ Region.ready md ops (listed.setIfInBounds i true) := by rw [hri]; simp
                                  simp [Region.ready] at h3
  refine wpAnyH_ready hr (by simp) (AllReadyH.cons hoi (fun K hK => hi w hS K fun w1 h1 => hK _ _ h1 fun _ => ?_) (AllReadyH.cons hoj (fun K hK => hj2 w hS K fun w1 h1 => hK _ _ h1 fun _ => ?_) AllReadyH.nil))
  · exact wpAnyH_ready hri (by simp) (AllReadyH.cons hoj (fun K hK => hj w1 h1 K fun w2 h2 => hK _ _ h2 fun _ => h w2 h2) AllReadyH.nil)
  · refine wpAnyH_ready hrj (by simp) (AllReadyH.cons hoi (fun K hK => hi2 w1 h1 K fun w2 h2 => hK _ _ h2 fun _ => ?_) AllReadyH.nil)
    rw [hc, Array.setIfInBounds_comm _ _ (Ne.symm hne)]
    exact h w2 h2
theorem rg_both {fuel : Nat} {listed : Array Bool} {a : Act} {w : World} (i j : Nat) (oi oj : Oper) (hr : Region.ready md ops listed = [i, j]) (hoi : ops[i]? = some oi) (hoj : ops[j]? = some oj)
    (hi : ∀ K' : Act → World → Prop, Shut (∀ a w, S w → (S w → wpAnyH P md ops Q S fuel (listed.setIfInBounds i true) a w) → K' a w) → if Region.wanted oi (yielded ops a.tmps) = true then Oper.wp P oi a w K' Q else K' (a.put oi.dst undef) w)
    (hj : ∀ K' : Act → World → Prop, Shut (∀ a w, S w → (S w → wpAnyH P md ops Q S fuel (listed.setIfInBounds j true) a w) → K' a w) → if Region.wanted oj (yielded ops a.tmps) = true then Oper.wp P oj a w K' Q else K' (a.put oj.dst undef) w) :
    wpAnyH P md ops Q S (fuel + 1) listed a w :=
  wpAnyH_ready hr (by simp) (AllReadyH.cons hoi hi (AllReadyH.cons hoj hj AllReadyH.nil))
theorem rg_three {fuel : Nat} {listed : Array Bool} {a : Act} {w : World} (i j k : Nat) (oi oj ok : Oper) (hr : Region.ready md ops listed = [i, j, k]) (hoi : ops[i]? = some oi) (hoj : ops[j]? = some oj) (hok : ops[k]? = some ok)
    (hi : ∀ K' : Act → World → Prop, Shut (∀ a w, S w → (S w → wpAnyH P md ops Q S fuel (listed.setIfInBounds i true) a w) → K' a w) → if Region.wanted oi (yielded ops a.tmps) = true then Oper.wp P oi a w K' Q else K' (a.put oi.dst undef) w)
    (hj : ∀ K' : Act → World → Prop, Shut (∀ a w, S w → (S w → wpAnyH P md ops Q S fuel (listed.setIfInBounds j true) a w) → K' a w) → if Region.wanted oj (yielded ops a.tmps) = true then Oper.wp P oj a w K' Q else K' (a.put oj.dst undef) w)
    (hk : ∀ K' : Act → World → Prop, Shut (∀ a w, S w → (S w → wpAnyH P md ops Q S fuel (listed.setIfInBounds k true) a w) → K' a w) → if Region.wanted ok (yielded ops a.tmps) = true then Oper.wp P ok a w K' Q else K' (a.put ok.dst undef) w) :
    wpAnyH P md ops Q S (fuel + 1) listed a w :=
  wpAnyH_ready hr (by simp) (AllReadyH.cons hoi hi (AllReadyH.cons hoj hj (AllReadyH.cons hok hk AllReadyH.nil)))
theorem rg_strong {S' : World → Prop} (hs : ∀ w, S' w → S w) : ∀ (fuel : Nat) (listed : Array Bool) (a : Act) (w : World), wpAnyH P md ops Q S' fuel listed a w → wpAnyH P md ops Q S fuel listed a w
  | 0, _, _, _, h => h
  | fuel + 1, _, _, _, h => ⟨h.1, fun i hi => wpOp_mono (fun a' w' h' => ⟨hs w' h'.1, rg_strong hs fuel _ a' w' h'.2⟩) (h.2 i hi)⟩
theorem rgt {v : Value} {fuel : Nat} {listed : Array Bool} {a : Act} {w : World} (i : Nat) {oi : Oper} (hi : ops[i]? = some oi) (hy : YieldsIf P ops S oi v a) (hS : S w)
    (h : wpAnyH P md ops Q S fuel (listed.setIfInBounds i true) (a.put oi.dst v) w) (hs : Region.noSelect ops = true := by kernel_rfl) (hf : Region.free md ops listed i = true := by kernel_rfl)
    (hr : (Region.ready md ops listed).contains i = true := by kernel_rfl) (hQ : ∀ c a w, Q (.panic c) (a.put oi.dst v) w → Q (.panic c) a w := by intro _ _ _ h; exact h) : wpAnyH P md ops Q S (fuel + 1) listed a w :=
  wpAnyH_take hi hs hf hr hQ hy hS h
theorem rgp : (∀ (a : Act) (d : Tmp) (v : Value), a.put (some d) v = { a with tmps := a.tmps.setIfInBounds d v }) ∧ (∀ (a : Act) (v : Value), a.put none v = a) ∧
    (∀ (l : List Value) (i : Nat) (x : Value), l.toArray.setIfInBounds i x = (l.set i x).toArray) ∧ (∀ (x y : Value) (l : List Value), (x :: l).set 0 y = y :: l) ∧ (∀ (x y : Value) (l : List Value) (n : Nat), (x :: l).set (n + 1) y = x :: l.set n y) :=
  ⟨fun _ _ _ => rfl, fun _ _ => rfl, fun _ _ _ => by simp, fun _ _ _ => rfl, fun _ _ _ _ => rfl⟩
theorem rgw {v : Value} {fuel : Nat} {listed : Array Bool} {a : Act} {a' : Act} {w : World} (i : Nat) (oi : Oper) (hS : S w)
    (h : wpAnyH P md ops Q S fuel (listed.setIfInBounds i true) a' w) (hi : ops[i]? = some oi := by rfl) (hw : Region.wanted oi (yielded ops a.tmps) = true := by rfl)
    (hy : ∀ w, S w → (execOp a.eval oi).run P w = .ok (.value v) w := by intro w hSw; (try dsimp only at hSw); go_simp; try with_reducible rfl)
    (ha : a.put oi.dst v = a' := by (try simp only [rgp]); rfl)
    (hs : Region.noSelect ops = true := by kernel_rfl) (hf : Region.free md ops listed i = true := by kernel_rfl)
    (hr : (Region.ready md ops listed).contains i = true := by kernel_rfl) (hQ : ∀ c a w, Q (.panic c) (a.put oi.dst v) w → Q (.panic c) a w := by intro _ _ _ h; exact h) : wpAnyH P md ops Q S (fuel + 1) listed a w :=
  wpAnyH_take hi hs hf hr hQ (.inl ⟨hw, hy⟩) hS (by rw [ha]; exact h)
end
end Go.Proofs.YtnmplnemnfonfaaGreatDoor
namespace Go.Proofs.YtnmplnemnfonfaaGreatDoor
open Go.RowKit
open Go.Lib (toList_data size_eq)
def okb (x : UInt8) : Bool := decide (97 ≤ x.toNat ∧ x.toNat ≤ 122 ∨ 48 ≤ x.toNat ∧ x.toNat ≤ 57 ∨ x.toNat = 45)
def nameN (l : List UInt8) : Bool := decide (0 < l.length) && decide (l.length ≤ 24) && l.all okb
theorem nfit_any (c : UInt8) (w : World) : Calls Tryz.prog 69 #[.int .u8 (c.toNat : Int)] w fun e w' => e = .returned (.bool (okb c)) ∧ w' = w := by
  go_enter Tryz.func69, Tryz.ntmps69
  go_wp2
  all_goals
    go_ret
    refine ⟨ret_bool ?_, rfl⟩
    unfold okb
    rw [Bool.eq_iff_iff]
    simp only [Bool.or_eq_true, decide_eq_true_eq, beq_iff_eq]
    first | omega | (refine iff_of_true trivial ?_; omega)
theorem getD_mem' {l : List UInt8} {k : Nat} (h : k < l.length) : l.getD k 0 ∈ l := by
  simp [List.getD, h]
theorem nameN_false {l : List UInt8} {i : Nat} (hi : i < l.length) (h : okb (l.getD i 0) = false) : nameN l = false := by
  unfold nameN
  have : l.all okb = false := by
    rw [List.all_eq_false]
    exact ⟨l.getD i 0, getD_mem' hi, by rw [h]; simp⟩
  rw [this, Bool.and_false]
theorem nameN_true {l : List UInt8} (h0 : 0 < l.length) (h1 : l.length ≤ 24) (h : ∀ j, j < l.length → okb (l.getD j 0) = true) : nameN l = true := by
  unfold nameN
  have : l.all okb = true := by
    rw [List.all_eq_true]
    intro x hx
    obtain ⟨j, hj, rfl⟩ := List.getElem_of_mem hx
    have := h j hj
    simpa [List.getD, hj] using this
  rw [this, decide_eq_true h0, decide_eq_true h1]; rfl
theorem size_len (s : ByteArray) : s.data.toList.length = s.size := (size_eq s).symm
theorem byte_getD (s : ByteArray) (i : Nat) (h : i < s.size) : s[i] = s.data.toList.getD i 0 := by
  have h1 : i < s.data.size := h
  rw [List.getD, Array.getElem?_toList, Array.getElem?_eq_getElem h1]
  rfl
theorem right_any (s : ByteArray) (w : World) (hs : s.size ≤ 281474976710656) : Calls Tryz.prog 41 #[.string s] w fun e w' => e = .returned (.bool (nameN s.data.toList)) ∧ w' = w := by
  have hl := size_len s
  by_cases h0 : s.size = 0
  · have hv : nameN s.data.toList = false := by unfold nameN; rw [hl, h0]; rfl
    have h1 : s.toList = [] := by rw [toList_data, ← List.length_eq_zero_iff, hl, h0]
    rw [hv]
    clear hl hv
    go_enter Tryz.func41, Tryz.ntmps41
    go_wp2
    go_ret
    exact ⟨rfl, rfl⟩
  by_cases h24 : (24 : Int) < (s.size : Int)
  · have hv : nameN s.data.toList = false := by unfold nameN; rw [hl, show decide (s.size ≤ 24) = false from decide_eq_false (by omega), Bool.and_false, Bool.false_and]
    have h1 : ¬ s.toList = [] := by rw [toList_data, ← List.length_eq_zero_iff, hl]; exact h0
    have h2 : s.toList.isEmpty = false := by rw [List.isEmpty_eq_false_iff]; exact h1
    rw [hv]
    clear hl hv
    go_enter Tryz.func41, Tryz.ntmps41
    go_wp2
    go_ret
    exact ⟨rfl, rfl⟩
  have h1 : ¬ s.toList = [] := by rw [toList_data, ← List.length_eq_zero_iff, hl]; exact h0
  have h2 : s.toList.isEmpty = false := by rw [List.isEmpty_eq_false_iff]; exact h1
  have HL := Lib.hid hl
  clear hl
  go_enter Tryz.func41, Tryz.ntmps41
  go_wp2
  go_loop [13] (fun iv => ∃ i : Nat, iv = .int .i64 i ∧ i ≤ s.size ∧ Hid (∀ j, j < i → okb (s.data.toList.getD j 0) = true)) (fun iv => s.size - (intOf iv).toNat)
  case atStart => exact ⟨0, rfl, by omega, fun j hj => absurd hj (by omega)⟩
  case round =>
    obtain ⟨i, rfl, hi, HI⟩ := hrel
    by_cases hlt : (i : Int) < (s.size : Int)
    · have hn : i < s.size := by omega
      have hb := byte_getD s i hn
      obtain ⟨c, hc⟩ : ∃ c, s.data.toList.getD i 0 = c := ⟨_, rfl⟩
      rw [hc] at hb
      have HC := Lib.hid hc
      clear hc
      cases ho : okb c with
      | false =>
        have HO := Lib.hid ho
        go_wp2_with (first
          | (go_at_call 69; (with_reducible refine (nfit_any c _).mono ?_); rintro e w' ⟨rfl, rfl⟩))
        go_ret
        refine ⟨ret_bool ?_, rfl⟩
        rw [nameN_false (i := i) (by rw [HL.out]; exact hn) (by rw [HC.out]; exact HO.out)]
      | true =>
        have HO := Lib.hid ho
        go_wp2_with (first
          | (go_at_call 69; (with_reducible refine (nfit_any c _).mono ?_); rintro e w' ⟨rfl, rfl⟩))
        go_round
        case rel =>
          refine ⟨i + 1, by go_num, by omega, fun j hj => ?_⟩
          by_cases hji : j = i
          · subst hji; rw [HC.out]; exact HO.out
          · exact HI.out j (by omega)
        case measure => simp [intOf]; omega
    · go_wp2
      go_ret
      refine ⟨ret_bool ?_, rfl⟩
      rw [nameN_true (by rw [HL.out]; omega) (by rw [HL.out]; omega) (fun j hj => HI.out j (by rw [HL.out] at hj; omega))]
end Go.Proofs.YtnmplnemnfonfaaGreatDoor
namespace Go.Proofs.YtnmplnemnfonfaaGreatDoor
open Go.RowKit
theorem wpl_app_sec {w : World} {ops : Array Oper} {rest : List Oper} {o : Oper} {a : Act} {Q : Exit → Act → World → Prop} (hgd : o.guard = none) (s x : Operand)
    (ho : o.op = .call { callee := .builtin .append, args := #[s, x], argTypes := #[29, 29] })
    (base : Nat) (v : Value) (n : Nat) (fs : List Int) (hs : a.eval s = v) (hown : Hid (w.ownsRow base 92 64 v n (il .u8 fs)))
    (g : Nat) (ss : List Int) (hx : a.eval x = .slice (some ⟨g, 0, none⟩) 1 1) (hblk : Blk w g ss) (hn : n ≤ 1000000000000)
    (B : Nat) (W : World) (hb : Hid (Below B W w)) (hB : B ≤ base) (hbase : base ≤ w.heap.size)
    (h : ∀ v' w', Hid (w'.ownsRow base 92 64 v' (n + 1) (il .u8 (fs ++ ss))) → Hid (Below B W w') → wpList Tryz.prog ops Q rest (a.put o.dst v') w') : wpList Tryz.prog ops Q (o :: rest) a w := by
  obtain ⟨i, hi, hz0, hz1, hz2⟩ := info_parts sec_parts
  refine wpList_append_own_wide w hgd s x 29 ho base 92 i (.agg (sv z64)) 64 64 Tryz.underlying29 hi hz0 hz1 hz2 rfl (by omega) v n (il .u8 fs) hs hown.out ⟨g, 0, none⟩ 1 1 (il .u8 ss) hx (by rw [il_length, hblk.2]) ?_ (il_one _ _) (by unfold maxLen; omega) (by omega) hbase ?_
  · intro j u hj
    have hjl : j < ss.length := by have := (List.getElem?_eq_some_iff.1 hj).1; rwa [il_length] at this
    rw [il_get _ _ _ hjl] at hj
    have := hblk.cell j (by rw [← hblk.2]; exact hjl)
    by_cases h0 : j = 0
    · subst h0; rw [← hj]; simpa [Addr.add] using this
    · rw [← hj]; simpa [Addr.add, h0] using this
  · intro v' w' h1 h2 _
    exact h v' w' (by rw [il_append]; exact h1) (hb.out.grown h2 (by omega) (fun q hq => by have := (hown.out.lt q hq).1; omega))
end Go.Proofs.YtnmplnemnfonfaaGreatDoor
namespace Go.Proofs.YtnmplnemnfonfaaGreatDoor
open Go.RowKit
theorem fold_set (l : List Value) : ∀ (k : Nat) (cs : Array Value) (i : Nat), ((l.zipIdx k).foldl (fun cs (p : Value × Nat) => cs.setIfInBounds (0 + p.2) p.1) cs)[i]? = if k ≤ i ∧ i < k + l.length ∧ i < cs.size then l[i - k]? else cs[i]? := by
  induction l with
  | nil => intro k cs i; simp; intro h1 h2; omega
  | cons x l ih =>
    intro k cs i
    rw [List.zipIdx_cons, List.foldl_cons, ih (k + 1)]
    simp only [Array.size_setIfInBounds, List.length_cons, Nat.zero_add]
    by_cases h1 : k + 1 ≤ i ∧ i < k + 1 + l.length ∧ i < cs.size
    · rw [if_pos h1, if_pos (by omega), show i - k = (i - (k + 1)) + 1 from by omega, List.getElem?_cons_succ]
    · rw [if_neg h1]
      by_cases h2 : i = k
      · subst h2
        by_cases h3 : i < cs.size
        · rw [if_pos (by omega)]; simp [h3]
        · rw [if_neg (by omega)]; simp [h3]
      · rw [if_neg (by omega), Array.getElem?_setIfInBounds_ne (Ne.symm h2)]
theorem fill_sec (z : List Int) (hz : z.length = 64) (cs : Array Value) (hc : cs.size = 64) : Instr.fill (fun i => some (i * 64, 64)) cs [(0, .agg (sv z))] = some (sv z) := by
  have h0 : (Value.agg (sv z)).cells = sv z := rfl
  have hs : (sv z).size = 64 := by rw [sv_size, hz]
  simp only [Instr.fill, h0, hs, Nat.zero_mul, Nat.zero_add, hc]
  rw [if_neg (by simp)]
  refine congrArg some ?_
  refine Array.ext_getElem? fun i => ?_
  rw [← Array.foldl_toList, Array.toList_zipIdx]
  have := fold_set (sv z).toList 0 cs i
  simp only [Nat.zero_add] at this
  rw [this]
  by_cases hi : i < 64
  · rw [if_pos (by simp [hs, hc]; omega)]; simp
  · rw [if_neg (by omega), Array.getElem?_eq_none (by omega), Array.getElem?_eq_none (by omega)]
theorem wpl_build_sec {w : World} {ops : Array Oper} {rest : List Oper} {o : Oper} {a : Act} {Q : Exit → Act → World → Prop} (hgd : o.guard = none) (x : Operand) (ho : o.op = .buildSlice 29 1 #[(0, x)]) (z : List Int) (hz : z.length = 64) (hx : a.eval x = .agg (sv z))
    (h : wpList Tryz.prog ops Q rest (a.put o.dst (.slice (some ⟨w.heap.size, 0, none⟩) 1 1)) (w.alloc (.cells (sv z) 92))) : wpList Tryz.prog ops Q (o :: rest) a w := by
  obtain ⟨i, hi, hz0, hz1, hz2⟩ := info_parts sec_parts
  refine wpList_buildSlice hgd 29 92 1 _ ho (sv z) i (.agg (sv z64)) Tryz.underlying29 hi hz0 (by rw [hz1]; omega) (by rw [hz1]; omega) ?_ h
  rw [hz1]
  simpa [hx] using fill_sec z hz _ (by simp)
theorem FS.blk {w : World} {g : Nat} {z : List Int} (h : Blk w g z) : FS w (.slice (some ⟨g, 0, none⟩) 1 1) 1 z :=
  ⟨_, 1, rfl, by rw [h.2], Nat.le_refl _, by omega, fun h => by simp at h, fun _ => ⟨g, 0, rfl, fun j hj => by rw [Nat.zero_add]; exact h.cell j (by omega)⟩⟩
theorem FS.mid {w : World} {a : Option Addr} {n cap : Nat} {fs : List Int} (h : FS w (.slice a n cap) n fs) (m d : Nat) (hm : m + d ≤ n) : FS w (sliced a m (m + d) cap 64) d ((fs.drop (m * 64)).take (d * 64)) := by
  obtain ⟨a', cap', e, h1, h2, h3, h4, hcell⟩ := h
  simp only [Value.slice.injEq, true_and] at e
  obtain ⟨rfl, rfl⟩ := e
  have hl : ((fs.drop (m * 64)).take (d * 64)).length = d * 64 := by simp; omega
  unfold sliced
  rw [show m + d - m = d from by omega]
  by_cases h0 : cap = m
  · rw [if_pos h0]
    exact ⟨a, cap - m, rfl, hl, by omega, by omega, fun _ => by omega, fun h => absurd h (by omega)⟩
  · rw [if_neg h0]
    cases a with
    | none => have := h4 rfl; omega
    | some x =>
      refine ⟨some (x.add (m * 64)), cap - m, rfl, hl, by omega, by omega, fun h => by simp at h, fun hp => ?_⟩
      obtain ⟨b, off, hx, hcl⟩ := hcell (by omega)
      obtain rfl := Option.some.inj hx
      refine ⟨b, off + m * 64, by simp [Addr.add], fun j hj => ?_⟩
      have := hcl (m * 64 + j) (by omega)
      rw [Nat.add_assoc, this]
      simp only [List.getD, List.getElem?_take, hj, if_true, List.getElem?_drop]
end Go.Proofs.YtnmplnemnfonfaaGreatDoor
namespace Go.Proofs.YtnmplnemnfonfaaGreatDoor
open Go.RowKit
def mixN (old nx : List Int) (k : Nat) : List Int := nx.take k ++ old.drop k
def cutN (cut : Int) : Nat := (min (max cut 0) 64).toNat
theorem mixN_length (old nx : List Int) (k : Nat) (ho : old.length = 64) (hn : nx.length = 64) (hk : k ≤ 64) : (mixN old nx k).length = 64 := by simp [mixN]; omega
theorem mixN_zero (old nx : List Int) : mixN old nx 0 = old := by simp [mixN]
structure Mx (W : World) (l nx : List Int) (w : World) : Prop where
  below : Below W.heap.size W w
  nxt : Blk w (W.heap.size + 1) nx
  res : Blk w (W.heap.size + 2) z64
  out : Blk w (W.heap.size + 3) l
theorem Mx.start (W : World) (l nx : List Int) (hl : l.length = 64) (hn : nx.length = 64) : Mx W z64 nx ((((W.alloc (.cells (sv l) 92)).alloc (.cells (sv nx) 92)).alloc (.cells (sv z64) 92)).alloc (.cells (sv z64) 92)) ∧ Blk ((((W.alloc (.cells (sv l) 92)).alloc (.cells (sv nx) 92)).alloc (.cells (sv z64) 92)).alloc (.cells (sv z64) 92)) W.heap.size l := by
  have s0 := alloc_size W (.cells (sv l) 92)
  have b0 := below_alloc W (.cells (sv l) 92)
  have k0 := Blk.new W l hl
  generalize W.alloc (.cells (sv l) 92) = w0 at *
  have s1 := alloc_size w0 (.cells (sv nx) 92)
  have b1 := below_alloc w0 (.cells (sv nx) 92)
  have k1 := Blk.new w0 nx hn
  generalize w0.alloc (.cells (sv nx) 92) = w1 at *
  have s2 := alloc_size w1 (.cells (sv z64) 92)
  have b2 := below_alloc w1 (.cells (sv z64) 92)
  have k2 := Blk.new w1 z64 z64_length
  generalize w1.alloc (.cells (sv z64) 92) = w2 at *
  have b3 := below_alloc w2 (.cells (sv z64) 92)
  have k3 := Blk.new w2 z64 z64_length
  generalize w2.alloc (.cells (sv z64) 92) = w3 at *
  rw [s0] at k1
  rw [s1, s0] at k2
  rw [s2, s1, s0] at k3
  exact ⟨⟨chain (chain (chain b0 b1) b2) b3, (k1.keep b2).keep b3, k2.keep b3, k3⟩, ((k0.keep b1).keep b2).keep b3⟩
theorem Mx.row {W w : World} {l l' nx : List Int} (h : Mx W l nx w) (hl : l'.length = 64) : Mx W l' nx (w.setRow (W.heap.size + 3) (sv l')) :=
  ⟨below_row h.below (by omega) _, h.nxt.row_apart (by omega) _, h.res.row_apart (by omega) _, h.out.row hl⟩
theorem Mx.stored {W w : World} {l nx : List Int} (h : Mx W l nx w) (k : Nat) (z : Int) : Mx W (l.set k z) nx (w.setCell ⟨W.heap.size + 3, k, none⟩ (.int .u8 z)) :=
  ⟨h.below.setCell (by show W.heap.size ≤ W.heap.size + 3; omega) _, h.nxt.apart (by omega) _ _, h.res.apart (by omega) _ _, h.out.stored k z⟩
end Go.Proofs.YtnmplnemnfonfaaGreatDoor
namespace Go.Proofs.YtnmplnemnfonfaaGreatDoor
def two (k : Nat) : Int := 2 ^ k % 18446744073709551616
theorem two_succ (k : Nat) : IntKind.u64.wrap (two k * 2) = two (k + 1) := by
  rw [Go.IntKind.wrap_u64]; unfold two; rw [Int.pow_succ]; omega
theorem two_small (k : Nat) (h : k < 64) : two k = 2 ^ k := by
  unfold two
  have h1 := pow_split k 63 (by omega)
  have h2 := pow_pos' (63 - k)
  have h3 := pow_pos' k
  refine Int.emod_eq_of_lt (by omega) ?_
  have : (2 : Int) ^ k * 1 ≤ 2 ^ k * 2 ^ (63 - k) := Int.mul_le_mul_of_nonneg_left (by omega) (by omega)
  have e : (2 : Int) ^ 63 = 9223372036854775808 := by decide
  omega
def clampI (n m : Int) : Int := min (max n 0) m
def putL (n : Int) (k : Nat) : List Int := (List.range k).map fun i => n / 2 ^ (8 * i) % 256
theorem putL_length (n : Int) (k : Nat) : (putL n k).length = k := by simp [putL]
theorem putL_succ (n : Int) (k : Nat) : putL n (k + 1) = putL n k ++ [n / 2 ^ (8 * k) % 256] := by simp [putL, List.range_succ]
theorem putL_get (n : Int) (k j : Nat) (h : j < k) : (putL n k).getD j 0 = n / 2 ^ (8 * j) % 256 := by simp [putL, List.getD, h]
def putP (n : Int) (j k : Nat) : List Int := (List.range k).map fun i => if i < j then n / 2 ^ (8 * i) % 256 else 0
theorem putP_zero (n : Int) (k : Nat) : putP n 0 k = List.replicate k 0 := by
  simp only [putP, Nat.not_lt_zero, if_false]
  exact List.ext_getElem (by simp) (by simp)
theorem putP_full (n : Int) (k : Nat) : putP n k k = putL n k := by
  unfold putP putL
  exact List.map_congr_left fun i hi => by simp [List.mem_range.1 hi]
theorem putP_succ (n : Int) (j k : Nat) : (putP n j k).set j (n / 2 ^ (8 * j) % 256) = putP n (j + 1) k := by
  apply List.ext_getElem
  · simp [putP]
  · intro i h1 h2
    simp only [putP, List.length_set, List.length_map, List.length_range] at h1
    rw [List.getElem_set]
    simp only [putP, List.getElem_map, List.getElem_range]
    split
    · subst_vars; simp
    · rename_i hne
      by_cases hlt : i < j
      · simp [hlt, Nat.lt_succ_of_lt hlt]
      · have : ¬ i < j + 1 := by omega
        simp [hlt, this]
def getI (l : List Int) : Nat → Int
  | 0 => 0
  | k + 1 => getI l k + l.getD k 0 * 2 ^ (8 * k)
theorem getI_bd (l : List Int) (hl : Bytes l) (k : Nat) : 0 ≤ getI l k ∧ getI l k < 2 ^ (8 * k) := by
  induction k with
  | zero => simp [getI]
  | succ k ih =>
    have hb := hl k
    have hp := pow_pos' (8 * k)
    have e : (2 : Int) ^ (8 * (k + 1)) = 2 ^ (8 * k) * 256 := by rw [show 8 * (k + 1) = 8 * k + 8 from by omega, Int.pow_add]; rfl
    simp only [getI]
    generalize (2 : Int) ^ (8 * k) = p at *
    generalize l.getD k 0 = c at *
    have h1 : 0 ≤ c * p := Int.mul_nonneg hb.1 (by omega)
    have h2 : c * p ≤ 255 * p := Int.mul_le_mul_of_nonneg_right hb.2 (by omega)
    omega
theorem getI_wrap (l : List Int) (hl : Bytes l) (k : Nat) (hk : k < 8) : IntKind.u64.wrap (l.getD k 0 * 2 ^ (8 * k)) = l.getD k 0 * 2 ^ (8 * k) := by
  rw [Go.IntKind.wrap_u64]
  have hb := hl k
  have hp := pow_pos' (8 * k)
  have hs := pow_split (8 * k) 56 (by omega)
  have h2 := pow_pos' (56 - 8 * k)
  have e : (2 : Int) ^ 56 = 72057594037927936 := by decide
  have h3 : (2 : Int) ^ (8 * k) * 1 ≤ 2 ^ (8 * k) * 2 ^ (56 - 8 * k) := Int.mul_le_mul_of_nonneg_left (by omega) (by omega)
  generalize (2 : Int) ^ (8 * k) = p at *
  generalize l.getD k 0 = c at *
  have h4 : 0 ≤ c * p := Int.mul_nonneg hb.1 (by omega)
  have h5 : c * p ≤ 255 * p := Int.mul_le_mul_of_nonneg_right hb.2 (by omega)
  omega
theorem or_join (i : Nat) (x y : Int) (h0 : 0 ≤ y) (h1 : y < 2 ^ i) (h2 : 0 ≤ x) (h3 : x % 2 ^ i = 0) (h4 : x < 18446744073709551616) (h5 : y < 18446744073709551616) : bits .or .u64 y x = y + x := by
  rw [Go.u64_or y x h0 h5 h2 h4]
  obtain ⟨a, rfl⟩ := Int.eq_ofNat_of_zero_le h2
  obtain ⟨b, rfl⟩ := Int.eq_ofNat_of_zero_le h0
  have e : a % 2 ^ i = 0 := by exact_mod_cast h3
  have f : b < 2 ^ i := by exact_mod_cast h1
  have := Go.nat_join i a b e f
  simp only [Int.toNat_natCast]
  rw [Nat.or_comm, this]
  simp; omega
theorem getI_or (l : List Int) (hl : Bytes l) (k : Nat) (hk : k < 8) : bits .or .u64 (getI l k) (IntKind.u64.wrap (l.getD k 0 * 2 ^ (8 * k))) = getI l (k + 1) := by
  have hw := getI_wrap l hl k hk
  rw [hw]
  have hb := getI_bd l hl k
  have hb1 := getI_bd l hl (k + 1)
  have hc := hl k
  have hp := pow_pos' (8 * k)
  have hbig : (2 : Int) ^ (8 * (k + 1)) ≤ 18446744073709551616 := by
    have hs := pow_split (8 * (k + 1)) 64 (by omega)
    have h2 := pow_pos' (64 - 8 * (k + 1))
    have h3 : (2 : Int) ^ (8 * (k + 1)) * 1 ≤ 2 ^ (8 * (k + 1)) * 2 ^ (64 - 8 * (k + 1)) := Int.mul_le_mul_of_nonneg_left (by omega) (Int.le_of_lt (pow_pos' _))
    have e : (2 : Int) ^ 64 = 18446744073709551616 := by decide
    omega
  have hx : 0 ≤ l.getD k 0 * 2 ^ (8 * k) := Int.mul_nonneg hc.1 (by omega)
  simp only [getI] at hb1
  rw [or_join (8 * k) _ _ hb.1 hb.2 hx (Int.mul_emod_left _ _) (by omega) (by omega)]
  rfl
theorem getI_ref (l : List Int) (hl : Bytes l) (k : Nat) (hk : k < 8) : IntKind.u64.wrap (getI l k + IntKind.u64.wrap (l.getD k 0 * two (8 * k))) = getI l (k + 1) := by
  rw [two_small _ (by omega), getI_wrap l hl k hk]
  have hb1 := getI_bd l hl (k + 1)
  simp only [getI] at hb1 ⊢
  have hs := pow_split (8 * (k + 1)) 64 (by omega)
  have h2 := pow_pos' (64 - 8 * (k + 1))
  have h3 : (2 : Int) ^ (8 * (k + 1)) * 1 ≤ 2 ^ (8 * (k + 1)) * 2 ^ (64 - 8 * (k + 1)) := Int.mul_le_mul_of_nonneg_left (by omega) (Int.le_of_lt (pow_pos' _))
  have e : (2 : Int) ^ 64 = 18446744073709551616 := by decide
  rw [Go.IntKind.wrap_u64]
  omega
theorem emod_mul256 (n p : Int) (hp : 0 < p) : n % (p * 256) = n % p + n / p % 256 * p := by
  rw [Int.emod_def n (p * 256), Int.emod_def n p, Int.emod_def (n / p) 256, ← Int.ediv_ediv_of_nonneg (by omega : 0 ≤ p), Int.sub_mul, Int.mul_assoc p 256, Int.mul_comm (n / p) p, Int.mul_assoc 256]
  have : p * (256 * (n / p / 256)) = 256 * (n / p / 256 * p) := by rw [Int.mul_comm p, Int.mul_assoc]
  omega
theorem getI_put (n : Int) (k j : Nat) (hj : j ≤ k) : getI (putL n k) j = n % 2 ^ (8 * j) := by
  induction j with
  | zero => simp [getI]
  | succ j ih =>
    rw [getI, ih (by omega), putL_get n k j (by omega)]
    have e : (2 : Int) ^ (8 * (j + 1)) = 2 ^ (8 * j) * 256 := by rw [show 8 * (j + 1) = 8 * j + 8 from by omega, Int.pow_add]; rfl
    rw [e]
    have hp := pow_pos' (8 * j)
    generalize (2 : Int) ^ (8 * j) = p at *
    exact (emod_mul256 n p (by omega)).symm
theorem putL_bytes (n : Int) (k : Nat) : Bytes (putL n k) := by
  intro j
  by_cases h : j < k
  · rw [putL_get n k j h]; omega
  · simp [putL, List.getD, h]
theorem getI_byte (l : List Int) (hl : Bytes l) (k : Nat) : ∀ j, j < k → getI l k / 2 ^ (8 * j) % 256 = l.getD j 0 := by
  induction k with
  | zero => intro j h; omega
  | succ k ih =>
    intro j hj
    have hb := hl k
    have hp := pow_pos' (8 * j)
    show (getI l k + l.getD k 0 * 2 ^ (8 * k)) / 2 ^ (8 * j) % 256 = l.getD j 0
    by_cases h : j = k
    · subst h
      have := getI_bd l hl j
      rw [Int.add_mul_ediv_right _ _ (by omega), Int.ediv_eq_zero_of_lt this.1 this.2]
      omega
    · have hs : (2 : Int) ^ (8 * k) = 2 ^ (8 * j) * (256 * 2 ^ (8 * (k - j - 1))) := by
        rw [show (256 : Int) = 2 ^ 8 from rfl, ← Int.pow_add, ← Int.pow_add]; congr 1; omega
      rw [hs, show l.getD k 0 * (2 ^ (8 * j) * (256 * 2 ^ (8 * (k - j - 1)))) = 2 ^ (8 * j) * (256 * (l.getD k 0 * 2 ^ (8 * (k - j - 1)))) from by
        rw [← Int.mul_assoc, Int.mul_comm (l.getD k 0), Int.mul_assoc, Int.mul_left_comm (l.getD k 0)],
        Int.add_mul_ediv_left _ _ (by omega), Int.add_mul_emod_self_left]
      exact ih j (by omega)
theorem putL_getI (l : List Int) (hl : Bytes l) (k : Nat) (hk : l.length = k) : putL (getI l k) k = l := by
  refine List.ext_getElem (by rw [putL_length, hk]) fun j h1 h2 => ?_
  have h3 := getI_byte l hl k j (by omega)
  have h4 := putL_get (getI l k) k j (by omega)
  rw [h3] at h4
  simpa [List.getD, h1, h2] using h4
theorem bytes_take {l : List Int} (h : Bytes l) (k : Nat) : Bytes (l.take k) := bytes_of_mem fun x hx => h.mem x (List.mem_of_mem_take hx)
theorem bytes_drop {l : List Int} (h : Bytes l) (k : Nat) : Bytes (l.drop k) := bytes_of_mem fun x hx => h.mem x (List.mem_of_mem_drop hx)
end Go.Proofs.YtnmplnemnfonfaaGreatDoor
namespace Go.Proofs.YtnmplnemnfonfaaGreatDoor
open Go.RowKit
def Drawn (w w' : World) : Prop := ∃ n, w' = w.drewN n
theorem Drawn.cell {w w' : World} (h : Drawn w w') (a : Addr) : w'.cell? a = w.cell? a := by obtain ⟨n, rfl⟩ := h; simp
theorem Drawn.refl (w : World) : Drawn w w := ⟨0, rfl⟩
theorem Drawn.then {w w' : World} (h : Drawn w w') (n : Nat) : Drawn w (w'.drewN n) := by obtain ⟨m, rfl⟩ := h; exact ⟨_, World.drewN_drewN _ _ _⟩
theorem quiet_eq {P : Program} {f : FuncId} {args : Array Value} {w : World} {n : Nat} {v : Value}
    (h : Calls P f args (w.drewN n) fun e w' => e = .returned v ∧ w.drewN n = w') : Calls P f args (w.drewN n) fun e w'' => e = .returned v ∧ ∃ m, w'' = w.drewN m :=
  h.mono fun _ _ ⟨he, hm⟩ => ⟨he, n, hm.symm⟩
theorem Drawn.grown {w w' : World} (h : Drawn w w') : Below w.heap.size w w' := by
  obtain ⟨n, rfl⟩ := h
  exact ⟨rfl, rfl, rfl, Nat.le_refl _, fun _ _ => rfl⟩
end Go.Proofs.YtnmplnemnfonfaaGreatDoor
