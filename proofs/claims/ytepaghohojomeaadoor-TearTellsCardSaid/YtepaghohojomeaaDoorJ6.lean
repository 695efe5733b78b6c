/-
  TEXTS JOINED: Bools, PlanCov, JoinMath, ScanMath, ScanRun, ScanKeep, Mix. Each one's own words stand at its head.
-/
import Derived.Test.YtepaghohojomeaaDoorJ0
import Derived.Test.YtepaghohojomeaaDoorJ5
import Derived.Test.YtepaghohojomeaaDoorJ1
import Derived.Test.YtepaghohojomeaaDoorJ3
import Derived.Test.YtepaghohojomeaaDoorJ4
/-
  SLICES OF BOOLS: cuts; slices.Index and slices.Contains of false. No condition.
-/
namespace Go.Proofs.YtepaghohojomeaaDoor
open Go.RowKit
/-- a part of a slice of bools -/
theorem BS.cut {w : World} {a : Option Addr} {len cap : Nat} {bs : List Bool} (h : BS w (.slice a len cap) len bs) (l n m : Nat) (hl : l + n ≤ len) (hm : l + n ≤ m) (hm2 : m ≤ cap) :
    BS w (sliced a l (l + n) m 1) n ((bs.drop l).take n) := by
  have hbl := h.length
  obtain ⟨a', cap', e, h1, h2, h3, h4, hc⟩ := h
  simp only [Value.slice.injEq, true_and] at e
  obtain ⟨rfl, rfl⟩ := e
  have hz : (((bs.drop l).take n).map Value.bool).length = n * 1 := by simp; omega
  unfold sliced
  rw [show l + n - l = n from by omega]
  by_cases h0 : m = l
  · rw [if_pos h0]
    exact ⟨a, m - l, rfl, hz, by omega, by omega, fun e => by have := h4 e; omega, fun h => absurd h (by omega)⟩
  · rw [if_neg h0]
    cases a with
    | none => have := h4 rfl; omega
    | some x =>
      refine ⟨some (x.add (l * 1)), m - l, rfl, hz, by omega, by omega, fun h => by simp at h, fun hp => ?_⟩
      obtain ⟨b, off, hx, hcell⟩ := hc (by omega)
      obtain rfl := Option.some.inj hx
      refine ⟨b, off + l, by simp [Addr.add], fun j hj => ?_⟩
      rw [Nat.add_assoc, hcell (l + j) (by omega)]
      simp only [List.getElem?_map, List.getElem?_take, show j < n from by omega, if_true, List.getElem?_drop]
section
variable {w : World} {o : Oper} {a : Act}
set_option maxRecDepth 20000 in
theorem bool_cell1 : (sizeOf (Tryd.prog.elem 60)).run Tryd.prog w = .ok 1 w := by
  have he : Tryd.prog.elem 60 = 4 := rfl
  have hb : (Tryd.prog.info? 4).map (fun i => (i.zero, i.size, i.bytes)) = some (some (.bool false), 1, 1) := by kernel_rfl
  obtain ⟨i, hi, _, hz1, _⟩ := info_parts hb
  simp [sizeOf, typeInfo, he, hi, hz1]
set_option maxRecDepth 20000 in
theorem und_bools : Tryd.prog.underlying 60 = some (.slice (Tryd.prog.elem 60)) := by rw [Tryd.underlying60]; rfl
/-- x[l:h] -/
theorem exec_cutb_lh (x lo hi : Operand) (ho : o.op = .slice 60 x (some lo) (some hi) none) (p : Option Addr) (len cap l n : Nat) (hx : a.eval x = .slice p len cap) (hlo : a.eval lo = .int .i64 (l : Int)) (hhi : a.eval hi = .int .i64 ((l + n : Nat) : Int)) (hc : l + n ≤ cap) :
    (execOp a.eval o).run Tryd.prog w = .ok (.value (sliced p l (l + n) cap 1)) w := by
  have h1 := run_slice_lh (P := Tryd.prog) w 60 p len cap und_bools .i64 .i64 (l : Int) ((l + n : Nat) : Int) (by omega) (by omega) (by omega)
  rw [bool_cell1] at h1
  simp only [Result.andThen_ok, Int.toNat_natCast] at h1
  simp only [Int.natCast_add] at h1
  simp [execOp, ho, hx, hlo, hhi, run_sliceAt_slice _ _ _ _ _ _ und_bools, h1, Result.andThen]
/-- x[:h] -/
theorem exec_cutb_h (x hi : Operand) (ho : o.op = .slice 60 x none (some hi) none) (p : Option Addr) (len cap n : Nat) (hx : a.eval x = .slice p len cap) (hhi : a.eval hi = .int .i64 (n : Int)) (hc : n ≤ cap) :
    (execOp a.eval o).run Tryd.prog w = .ok (.value (sliced p 0 n cap 1)) w := by
  have h1 := run_slice_h (P := Tryd.prog) w 60 p len cap und_bools .i64 (n : Int) (by omega) (by omega)
  rw [bool_cell1] at h1
  simp only [Result.andThen_ok, Int.toNat_natCast] at h1
  simp [execOp, ho, hx, hhi, run_sliceAt_slice _ _ _ _ _ _ und_bools, h1, Result.andThen]
end
section
variable {w : World} {o : Oper} {a : Act} {ops : Array Oper} {rest : List Oper} {Q : Exit → Act → World → Prop}
/-- .. guarded or not, its order as it stands -/
theorem wpl_cutb_lh (hw : Region.wanted o (yielded ops a.tmps) = true) (x lo hi : Operand) (ho : o.op = .slice 60 x (some lo) (some hi) none) (v : Value) (len l n : Nat) (bs : List Bool) (hx : a.eval x = v) (hlo : a.eval lo = .int .i64 (l : Int)) (hhi : a.eval hi = .int .i64 ((l + n : Nat) : Int)) (hr : BS w v len bs) (hl : l + n ≤ len)
    (h : ∀ p c, BS w (.slice p n c) n ((bs.drop l).take n) → wpList Tryd.prog ops Q rest (a.put o.dst (.slice p n c)) w) : wpList Tryd.prog ops Q (o :: rest) a w := by
  obtain ⟨p, cap, rfl, hc, _, _⟩ := CS.form hr
  obtain ⟨q, c, e⟩ := sliced_form p l n cap 1
  have he := exec_cutb_lh (w := w) x lo hi ho p len cap l n hx hlo hhi (by omega)
  have hR := hr.cut l n cap hl (by omega) (Nat.le_refl _)
  rw [e] at he hR
  unfold wpList
  rw [if_pos hw]
  refine Or.inl ?_
  unfold Oper.wp
  rw [he]
  simp only [Oper.upon]
  exact h q c hR
end
theorem cov_iff (bs : List Bool) (a d : Nat) : cov bs a d = true ↔ ∀ i, i < d → bs.getD (a + i) false = true := by
  unfold cov
  rw [List.all_eq_true]
  exact ⟨fun h i hi => h i (List.mem_range.2 hi), fun h i hi => h i (List.mem_range.1 hi)⟩
theorem cov_cut (bs : List Bool) (l n : Nat) : cov ((bs.drop l).take n) 0 n = cov bs l n := by
  rw [Bool.eq_iff_iff, cov_iff, cov_iff]
  have h : ∀ i, i < n → ((bs.drop l).take n).getD (0 + i) false = bs.getD (l + i) false := fun i hi => by
    rw [Nat.zero_add]; simp [List.getD, hi, List.getElem?_drop]
  exact ⟨fun k i hi => by rw [← h i hi]; exact k i hi, fun k i hi => by rw [h i hi]; exact k i hi⟩
set_option maxRecDepth 8000 in
set_option maxHeartbeats 800000 in
theorem index_any (v : Value) (len : Nat) (bs : List Bool) (w : World) (h : BS w v len bs) :
    Calls Tryd.prog 101 #[v, .bool false] w fun e w' => ∃ k : Int, e = .returned (.int .i64 k) ∧ w' = w ∧ decide (0 ≤ k) = !cov bs 0 len := by
  have hle := CS.le h
  obtain ⟨a, cap, rfl, hcap, hcap2, _⟩ := CS.form h
  have HC : Hid (∀ i, i < len → ∃ b off, a = some ⟨b, off, none⟩ ∧ w.cell? ⟨b, off + i, none⟩ = some (.bool (bs.getD i false))) := fun i hi => h.at_ i hi
  clear h
  go_enter Tryd.func101, Tryd.ntmps101
  go_wp2
  go_loop [8] (fun iv => ∃ i : Nat, iv = .int .i64 i ∧ i ≤ len ∧ Hid (∀ j, j < i → bs.getD (0 + j) false = true)) (fun iv => len - (intOf iv).toNat)
  case atStart => exact ⟨0, rfl, by omega, fun j hj => absurd hj (by omega)⟩
  case round =>
    obtain ⟨i, rfl, hi, HE⟩ := hrel
    by_cases hlt : (i : Int) < (len : Int)
    · obtain ⟨b, off, rfl, hcell⟩ := HC.out i (by omega)
      have HB : Hid (∀ x, bs.getD i false = x → bs.getD (0 + i) false = x) := fun x hx => by rw [Nat.zero_add]; exact hx
      cases hx : bs.getD i false with
      | false =>
        rw [hx] at hcell
        have HS := Lib.hid (cov_short bs 0 len i (by omega) (HB.out _ hx))
        clear HB hx
        go_wp2
        go_ret
        exact ⟨_, rfl, rfl, by rw [HS.out]; simp⟩
      | true =>
        rw [hx] at hcell
        have HN : Hid (∀ j, j < i + 1 → bs.getD (0 + j) false = true) := fun j hj => by
          by_cases hji : j < i
          · exact HE.out j hji
          · obtain rfl : j = i := by omega
            exact HB.out _ hx
        clear HB hx
        go_wp2
        exact ⟨⟨i + 1, by simp, by omega, HN⟩, by simp [intOf]; omega⟩
    · obtain rfl : i = len := by omega
      go_wp2
      go_ret
      exact ⟨_, rfl, rfl, by rw [cov_all bs 0 i HE.out]; simp⟩
set_option maxRecDepth 8000 in
theorem contains_any (v : Value) (len : Nat) (bs : List Bool) (w : World) (h : BS w v len bs) :
    Calls Tryd.prog 88 #[v, .bool false] w fun e w' => e = .returned (.bool (!cov bs 0 len)) ∧ w' = w := by
  have HH := Lib.hid h
  clear h
  go_enter Tryd.func88, Tryd.ntmps88
  go_wp2_with (first
    | (go_at_call 101; (with_reducible refine (index_any _ _ _ _ HH.out).mono ?_); rintro e w' ⟨k, rfl, rfl, hk⟩; have HK := Lib.hid hk; clear hk))
  go_ret
  exact ⟨ret_bool HK.out, rfl⟩
end Go.Proofs.YtepaghohojomeaaDoor
/-
  LAYER 16 (plan), Covered: what the reference's and the program's answer. No condition.
-/
namespace Go.Proofs.YtepaghohojomeaaDoor
open Go.RowKit
/-- what Covered answers -/
def covAt (bs : List Bool) (from_ to : Int) : Bool := cov bs (touchN (nr from_) (nr to)).1 ((touchN (nr from_) (nr to)).2 - (touchN (nr from_) (nr to)).1)
theorem cov_long (bs : List Bool) (a b : Nat) (hab : a ≤ b) (h0 : a = b → a = 0) (hb : bs.length < b) : cov bs a (b - a) = false := by
  have hlt : a < b := by omega
  refine cov_short bs a (b - a) (b - a - 1) (by omega) ?_
  rw [show a + (b - a - 1) = b - 1 from by omega]
  simp [List.getD, List.getElem?_eq_none (show bs.length ≤ b - 1 from by omega)]
set_option maxRecDepth 8000 in
set_option maxHeartbeats 800000 in
theorem covered_any (v : Value) (len : Nat) (bs : List Bool) (f t : Int) (hf : I63 f) (ht : I63 t) (w : World) (h : BS w v len bs) :
    Calls Tryd.prog 67 #[v, .int .i64 f, .int .i64 t] w fun e w' => e = .returned (.bool (covAt bs f t)) ∧ Below w.heap.size w w' := by
  have hle := CS.le h
  have hbl := h.length
  obtain ⟨ad, cap, rfl, hcap, hcap2, _⟩ := CS.form h
  have HT : Hid (∀ w : World, Calls Tryd.prog 87 #[.int .i64 f, .int .i64 t] w fun e w' => e = .returned (.tuple #[.int .i64 ((touchN (nr f) (nr t)).1 : Int), .int .i64 ((touchN (nr f) (nr t)).2 : Int)]) ∧ Below w.heap.size w w') := fun w => touch_any f t hf ht w
  obtain ⟨hab, hb16, h0⟩ := touch_le (nr f) (nr t) (nr_le t)
  unfold covAt
  generalize (touchN (nr f) (nr t)).1 = a at *
  generalize (touchN (nr f) (nr t)).2 = b at *
  have HH := Lib.hid h
  have H0 := Lib.hid h0
  have HBL := Lib.hid hbl
  clear h h0 hbl hf ht
  by_cases hlt : (b : Int) ≤ (len : Int)
  · go_enter Tryd.func67, Tryd.ntmps67
    go_wp2_with (first
      | (go_at_call 87; (with_reducible refine (HT.out _).mono ?_); rintro e w1 ⟨rfl, hb⟩; have HB := Lib.hid hb; have HH1 := Lib.hid (HH.out.kin (Kin.below hb)); clear hb)
      | (refine wpl_cutb_lh (by rfl) _ _ _ rfl _ len a (b - a) bs rfl rfl (by rw [show a + (b - a) = b from by omega]; rfl) HH1.out (by omega) ?_; intro p c hc; have HC := Lib.hid hc; clear hc)
      | (go_at_call 88; (with_reducible refine (contains_any _ _ _ _ HC.out).mono ?_); rintro e w2 ⟨rfl, rfl⟩; rw [cov_cut]))
    go_ret
    exact ⟨ret_bool (by simp), HB.out⟩
  · have HN := Lib.hid (cov_long bs a b hab H0.out (by rw [HBL.out]; omega))
    go_enter Tryd.func67, Tryd.ntmps67
    go_wp2_with (first
      | (go_at_call 87; (with_reducible refine (HT.out _).mono ?_); rintro e w1 ⟨rfl, hb⟩; have HB := Lib.hid hb; clear hb))
    go_ret
    exact ⟨ret_bool (by rw [HN.out]), HB.out⟩
set_option maxRecDepth 8000 in
set_option maxHeartbeats 800000 in
theorem rcovered_any (v : Value) (len : Nat) (bs : List Bool) (f t : Int) (hf : I63 f) (ht : I63 t) (w : World) (h : BS w v len bs) :
    Calls Tryd.prog 36 #[v, .int .i64 f, .int .i64 t] w fun e w' => e = .returned (.bool (covAt bs f t)) ∧ w' = w := by
  have hle := CS.le h
  have hbl := h.length
  obtain ⟨ad, cap, rfl, hcap, hcap2, _⟩ := CS.form h
  have HC : Hid (∀ i, i < len → ∃ b off, ad = some ⟨b, off, none⟩ ∧ w.cell? ⟨b, off + i, none⟩ = some (.bool (bs.getD i false))) := fun i hi => h.at_ i hi
  have HT : Hid (∀ w : World, Calls Tryd.prog 54 #[.int .i64 f, .int .i64 t] w fun e w' => e = .returned (.tuple #[.int .i64 ((touchN (nr f) (nr t)).1 : Int), .int .i64 ((touchN (nr f) (nr t)).2 : Int)]) ∧ w' = w) := fun w => rtouch_any f t hf ht w
  obtain ⟨hab, hb16, h0⟩ := touch_le (nr f) (nr t) (nr_le t)
  unfold covAt
  generalize (touchN (nr f) (nr t)).1 = a at *
  generalize (touchN (nr f) (nr t)).2 = b at *
  have H0 := Lib.hid h0
  have HBL := Lib.hid hbl
  clear h h0 hbl hf ht
  go_enter Tryd.func36, Tryd.ntmps36
  go_wp2_with (first
    | (go_at_call 54; (with_reducible refine (HT.out _).mono ?_); rintro e w1 ⟨rfl, rfl⟩))
  go_loop [9] (fun iv => ∃ i : Nat, iv = .int .i64 ((a + i : Nat) : Int) ∧ i ≤ b - a ∧ Hid (∀ j, j < i → bs.getD (a + j) false = true)) (fun iv => b - (intOf iv).toNat)
  case atStart => exact ⟨0, rfl, by omega, fun j hj => absurd hj (by omega)⟩
  case round =>
    obtain ⟨i, rfl, hi, HE⟩ := hrel
    obtain ⟨q, hq⟩ : ∃ q, a + i = q := ⟨_, rfl⟩
    rw [hq]
    by_cases hlt : (q : Int) < (b : Int)
    · by_cases hln : (q : Int) ≥ (len : Int)
      · have HN := Lib.hid (cov_short bs a (b - a) i (by omega) (by rw [hq]; simp [List.getD, List.getElem?_eq_none (show bs.length ≤ q from by rw [HBL.out]; omega)]))
        go_wp2
        go_ret
        exact ⟨ret_bool (by rw [HN.out]), rfl⟩
      · obtain ⟨b1, off, rfl, hcell⟩ := HC.out q (by omega)
        cases hx : bs.getD q false with
        | false =>
          rw [hx] at hcell
          have HN := Lib.hid (cov_short bs a (b - a) i (by omega) (by rw [hq]; exact hx))
          clear hx
          go_wp2
          go_ret
          exact ⟨ret_bool (by rw [HN.out]), rfl⟩
        | true =>
          rw [hx] at hcell
          have HN : Hid (∀ j, j < i + 1 → bs.getD (a + j) false = true) := fun j hj => by
            by_cases hji : j < i
            · exact HE.out j hji
            · obtain rfl : j = i := by omega
              rw [hq]; exact hx
          have HQ := Lib.hid hq
          clear hx hq
          go_wp2
          exact ⟨⟨i + 1, by rw [← Nat.add_assoc, HQ.out]; simp, by have := HQ.out; omega, HN⟩, by simp [intOf]; omega⟩
    · obtain rfl : i = b - a := by omega
      have HN := Lib.hid (cov_all bs a (b - a) HE.out)
      go_wp2
      go_ret
      exact ⟨ret_bool (by rw [HN.out]), rfl⟩
end Go.Proofs.YtepaghohojomeaaDoor
/-
  WHAT A JOINER DOES (layer 15), as plain functions: what a fragment's kind, and its bytes, turn of what came; what a list of fragments comes to. Plain mathematics. No condition.
-/
namespace Go.Proofs.YtepaghohojomeaaDoor
/-- whether a fragment of kind k may come, where a record is begun (o), or none -/
def jFit (o : Bool) (k : Int) : Bool := if o = true then decide (k = 3 ∨ k = 4) else decide (k = 1 ∨ k = 2)
def jErr (o : Bool) (h : List Int) (k : Int) (d : List Int) : Int := if jFit o k = true then (if h.length + d.length > 512 then 5 else 0) else 2
def jLast (k : Int) : Bool := decide (k = 1 ∨ k = 4)
def jEnds (o : Bool) (h : List Int) (k : Int) (d : List Int) : Bool := decide (jErr o h k d = 0) && jLast k
def jGoes (o : Bool) (h : List Int) (k : Int) (d : List Int) : Bool := decide (jErr o h k d = 0) && !jLast k
def jHad (o : Bool) (h : List Int) (k : Int) (d : List Int) : List Int := if jGoes o h k d = true then h ++ d else []
def jTell (o : Bool) (h : List Int) (k : Int) (d : List Int) : List Int := if jEnds o h k d = true then h ++ d else []
section
variable {o : Bool} {h : List Int} {k : Int} {d : List Int}
theorem j_wrong (hf : jFit o k = false) : jErr o h k d = 2 ∧ jEnds o h k d = false ∧ jGoes o h k d = false ∧ jHad o h k d = [] ∧ jTell o h k d = [] := by
  have e : jErr o h k d = 2 := by unfold jErr; rw [hf]; simp
  simp [jEnds, jGoes, jHad, jTell, e]
theorem j_long (hf : jFit o k = true) (hl : h.length + d.length > 512) : jErr o h k d = 5 ∧ jEnds o h k d = false ∧ jGoes o h k d = false ∧ jHad o h k d = [] ∧ jTell o h k d = [] := by
  have e : jErr o h k d = 5 := by unfold jErr; rw [hf]; simp [hl]
  simp [jEnds, jGoes, jHad, jTell, e]
theorem j_ends (hf : jFit o k = true) (hl : ¬ h.length + d.length > 512) (hk : jLast k = true) : jErr o h k d = 0 ∧ jEnds o h k d = true ∧ jGoes o h k d = false ∧ jHad o h k d = [] ∧ jTell o h k d = h ++ d := by
  have e : jErr o h k d = 0 := by unfold jErr; rw [hf]; simp [hl]
  simp [jEnds, jGoes, jHad, jTell, e, hk]
theorem j_goes (hf : jFit o k = true) (hl : ¬ h.length + d.length > 512) (hk : jLast k = false) : jErr o h k d = 0 ∧ jEnds o h k d = false ∧ jGoes o h k d = true ∧ jHad o h k d = h ++ d ∧ jTell o h k d = [] := by
  have e : jErr o h k d = 0 := by unfold jErr; rw [hf]; simp [hl]
  simp [jEnds, jGoes, jHad, jTell, e, hk]
theorem jHad_le : (jHad o h k d).length ≤ 512 := by
  unfold jHad
  split
  · rename_i hg
    unfold jGoes jErr at hg
    simp only [Bool.and_eq_true, decide_eq_true_eq] at hg
    have h1 := hg.1
    split at h1
    · split at h1
      · omega
      · simp; omega
    · omega
  · simp
theorem jTell_le : (jTell o h k d).length ≤ 512 := by
  unfold jTell
  split
  · rename_i hg
    unfold jEnds jErr at hg
    simp only [Bool.and_eq_true, decide_eq_true_eq] at hg
    have h1 := hg.1
    split at h1
    · split at h1
      · omega
      · simp; omega
    · omega
  · simp
theorem jHad_nil (hg : jGoes o h k d = false) : jHad o h k d = [] := by unfold jHad; rw [hg]; rfl
theorem jGoes_ends (he : jEnds o h k d = true) : jGoes o h k d = false := by
  unfold jEnds at he; unfold jGoes
  simp only [Bool.and_eq_true] at he
  rw [he.2]; simp
theorem jTell_isB (h1 : isB h) (h2 : isB d) : isB (jTell o h k d) := by
  by_cases h : jEnds o h k d = true
  · unfold jTell; rw [if_pos h]; exact h1.append h2
  · unfold jTell; rw [if_neg h]; exact isB.nil
theorem jHad_isB (h1 : isB h) (h2 : isB d) : isB (jHad o h k d) := by
  by_cases h : jGoes o h k d = true
  · unfold jHad; rw [if_pos h]; exact h1.append h2
  · unfold jHad; rw [if_neg h]; exact isB.nil
theorem jErr_cases : jErr o h k d = 0 ∨ jErr o h k d = 2 ∨ jErr o h k d = 5 := by
  unfold jErr; split
  · split <;> simp
  · simp
end
/-- what a list of fragments comes to: the records behind those that are there, and the error -/
def jRun : Bool → List Int → List (List Int) → List FR → List (List Int) × Int
  | o, _, acc, [] => if o = true then ([], 1) else (acc, 0)
  | o, h, acc, f :: r => if jErr o h f.kind f.data = 0 then jRun (jGoes o h f.kind f.data) (jHad o h f.kind f.data) (if jEnds o h f.kind f.data = true then acc ++ [jTell o h f.kind f.data] else acc) r else ([], jErr o h f.kind f.data)
theorem jRun_cons (o : Bool) (h : List Int) (acc : List (List Int)) (f : FR) (r : List FR) (he : jErr o h f.kind f.data = 0) :
    jRun o h acc (f :: r) = jRun (jGoes o h f.kind f.data) (jHad o h f.kind f.data) (if jEnds o h f.kind f.data = true then acc ++ [jTell o h f.kind f.data] else acc) r := by
  show (if _ then _ else _) = _; rw [if_pos he]
theorem jRun_bad (o : Bool) (h : List Int) (acc : List (List Int)) (f : FR) (r : List FR) (he : ¬ jErr o h f.kind f.data = 0) : jRun o h acc (f :: r) = ([], jErr o h f.kind f.data) := by
  show (if _ then _ else _) = _; rw [if_neg he]
theorem jRun_isB : ∀ (l : List FR) (o : Bool) (h : List Int) (acc : List (List Int)), isB h → (∀ x ∈ acc, isB x) → (∀ f ∈ l, isB f.data) → ∀ x ∈ (jRun o h acc l).1, isB x
  | [], o, h, acc, _, ha, _ => by
    intro x hx
    unfold jRun at hx
    cases o with
    | true => simp at hx
    | false => exact ha x (by simpa using hx)
  | f :: r, o, h, acc, hh, ha, hl => by
    by_cases he : jErr o h f.kind f.data = 0
    · rw [jRun_cons _ _ _ _ _ he]
      have hf := hl f (List.mem_cons_self ..)
      refine jRun_isB r _ _ _ (jHad_isB hh hf) (fun x hx => ?_) (fun g hg => hl g (List.mem_cons_of_mem _ hg))
      split at hx
      · rcases List.mem_append.1 hx with hx | hx
        · exact ha x hx
        · obtain rfl : x = _ := by simpa using hx
          exact jTell_isB hh hf
      · exact ha x hx
    · rw [jRun_bad _ _ _ _ _ he]; intro x hx; simp at hx
end Go.Proofs.YtepaghohojomeaaDoor
/-
  LAYER 19 (scan): what a body's bytes and stamps have, step by step (scF: the fragment at a place; scNext: a step; scEnd: where it ends), and what of sectors is empty (restB). Plain mathematics. No condition.
-/
namespace Go.Proofs.YtepaghohojomeaaDoor
/-- a block's bytes from a place on -/
def bSl (B : List Int) (a : Nat) : List Int := (B.drop a).take (leftN a)
theorem bSl_length {B : List Int} (hB : B.length = 832) {a : Nat} (ha : a ≤ 832) : (bSl B a).length = leftN a := by
  have := left_le a ha
  unfold bSl; rw [List.length_take, List.length_drop]; omega
def scD (ep : Int) (B : List Int) (a : Nat) : FR × Nat × Int := fragD (bSl B a) ep
/-- the fragment at a place, and how many bytes it has; 0: none -/
def scF (ep : Int) (B : List Int) (K : List Bool) (a : Nat) : FR × Nat :=
  if a = 832 ∨ covAt K (a : Int) ((a + 11 : Nat) : Int) = false then (noF, 0) else
  if (scD ep B a).2.2 ≠ 0 ∨ covAt K (a : Int) ((a + (scD ep B a).2.1 : Nat) : Int) = false then (noF, 0) else ((scD ep B a).1, (scD ep B a).2.1)
section
variable {ep : Int} {B : List Int} {K : List Bool} {a : Nat}
theorem scF_far (h : a = 832) : scF ep B K a = (noF, 0) := by unfold scF; rw [if_pos (.inl h)]
theorem scF_head (h : covAt K (a : Int) ((a + 11 : Nat) : Int) = false) : scF ep B K a = (noF, 0) := by unfold scF; rw [if_pos (.inr h)]
theorem scF_err (h : (scD ep B a).2.2 ≠ 0) : scF ep B K a = (noF, 0) := by
  unfold scF
  split
  · rfl
  · rw [if_pos (.inl h)]
theorem scF_cov (h : covAt K (a : Int) ((a + (scD ep B a).2.1 : Nat) : Int) = false) : scF ep B K a = (noF, 0) := by
  unfold scF
  split
  · rfl
  · rw [if_pos (.inr h)]
theorem scF_yes (h1 : a ≠ 832) (h2 : covAt K (a : Int) ((a + 11 : Nat) : Int) = true) (h3 : (scD ep B a).2.2 = 0) (h4 : covAt K (a : Int) ((a + (scD ep B a).2.1 : Nat) : Int) = true) :
    scF ep B K a = ((scD ep B a).1, (scD ep B a).2.1) := by
  unfold scF
  rw [if_neg (by rw [h2]; simp [h1]), if_neg (by rw [h4]; simp [h3])]
/-- what a fragment that is told has -/
theorem scD_parts (hB : B.length = 832) (ha : a ≤ 832) (h : (scD ep B a).2.2 = 0) :
    11 ≤ (scD ep B a).2.1 ∧ (scD ep B a).2.1 ≤ leftN a ∧ a + (scD ep B a).2.1 ≤ 832 ∧ (scD ep B a).1.data.length + 11 = (scD ep B a).2.1 ∧ (scD ep B a).1.data.length ≤ 197 := by
  have hl := bSl_length hB ha
  have hle := left_le a ha
  unfold scD at h ⊢
  obtain ⟨h1, h2, h3, h4, h5⟩ := fragD_parts h
  have h6 : ¬ (bSl B a).take 11 = List.replicate 11 0 := fun e => by
    rw [fragD_none (by omega) e] at h; exact absurd h (by decide)
  rw [fragD_ok (by omega) h6 h2 h3 (by omega) h5]
  have h7 := (fok_parts h2).2.2
  simp only [List.length_take, List.length_drop]
  omega
theorem scD_isB (hb : isB B) : isB (scD ep B a).1.data := fragD_data ((hb.drop _).take _)
end
/-- how far one is -/
structure SS where
  at_ : Nat
  first : Nat
  o : Bool
  h : List Int
  recs : List (List Int)
  places : List Int
  fin : Nat
def sc0 : SS := ⟨0, 0, false, [], [], [], 0⟩
/-- the place of the record that is begun -/
def scFirst (s : SS) : Nat := if s.o = true then s.first else beginN s.at_
/-- behind a fragment that the joiner takes -/
def scStep (s : SS) (f : FR) (n : Nat) : SS :=
  { at_ := beginN s.at_ + n, first := scFirst s, o := jGoes s.o s.h f.kind f.data, h := jHad s.o s.h f.kind f.data
    recs := if jEnds s.o s.h f.kind f.data = true then s.recs ++ [jTell s.o s.h f.kind f.data] else s.recs
    places := if jEnds s.o s.h f.kind f.data = true then s.places ++ [((scFirst s : Nat) : Int)] else s.places
    fin := if jEnds s.o s.h f.kind f.data = true then beginN s.at_ + n else s.fin }
def scNext (ep : Int) (B : List Int) (K : List Bool) (s : SS) : Option SS :=
  if (scF ep B K (beginN s.at_)).2 = 0 ∨ jErr s.o s.h (scF ep B K (beginN s.at_)).1.kind (scF ep B K (beginN s.at_)).1.data ≠ 0 then none
  else some (scStep s (scF ep B K (beginN s.at_)).1 (scF ep B K (beginN s.at_)).2)
def scGo (ep : Int) (B : List Int) (K : List Bool) : Nat → SS → SS
  | 0, s => s
  | k + 1, s => match scNext ep B K s with
    | none => s
    | some t => scGo ep B K k t
def scEnd (ep : Int) (B : List Int) (K : List Bool) : SS := scGo ep B K 832 sc0
/-- what stays so at each step -/
structure SS.Ok (s : SS) : Prop where
  at_ : s.at_ ≤ 832
  fin : s.fin ≤ 832
  first : s.first ≤ 832
  few : s.recs.length = s.places.length
  room : 11 * s.recs.length ≤ s.at_
  h : s.h.length ≤ 512
  recs : ∀ r ∈ s.recs, r.length ≤ 512
theorem sc0_ok : sc0.Ok := ⟨by decide, by decide, by decide, rfl, by decide, by decide, fun r hr => by simp [sc0] at hr⟩
section
variable {ep : Int} {B : List Int} {K : List Bool} {s t : SS}
theorem scF_some {a : Nat} (h : (scF ep B K a).2 ≠ 0) :
    a ≠ 832 ∧ covAt K (a : Int) ((a + 11 : Nat) : Int) = true ∧ (scD ep B a).2.2 = 0 ∧ covAt K (a : Int) ((a + (scD ep B a).2.1 : Nat) : Int) = true ∧ scF ep B K a = ((scD ep B a).1, (scD ep B a).2.1) := by
  by_cases h1 : a = 832
  · rw [scF_far h1] at h; exact absurd rfl h
  cases h2 : covAt K (a : Int) ((a + 11 : Nat) : Int) with
  | false => rw [scF_head h2] at h; exact absurd rfl h
  | true =>
    by_cases h3 : (scD ep B a).2.2 = 0
    · cases h4 : covAt K (a : Int) ((a + (scD ep B a).2.1 : Nat) : Int) with
      | false => rw [scF_cov h4] at h; exact absurd rfl h
      | true => exact ⟨h1, rfl, h3, rfl, scF_yes h1 h2 h3 h4⟩
    · rw [scF_err h3] at h; exact absurd rfl h
theorem scF_none {a : Nat} (h : (scF ep B K a).2 = 0) (hB : B.length = 832) (ha : a ≤ 832) : scF ep B K a = (noF, 0) := by
  by_cases h1 : a = 832
  · exact scF_far h1
  cases h2 : covAt K (a : Int) ((a + 11 : Nat) : Int) with
  | false => exact scF_head h2
  | true =>
    by_cases h3 : (scD ep B a).2.2 = 0
    · cases h4 : covAt K (a : Int) ((a + (scD ep B a).2.1 : Nat) : Int) with
      | false => exact scF_cov h4
      | true =>
        rw [scF_yes h1 h2 h3 h4] at h
        have := (scD_parts hB ha h3).1
        simp only at h
        omega
    · exact scF_err h3
theorem scNext_none (h : (scF ep B K (beginN s.at_)).2 = 0 ∨ jErr s.o s.h (scF ep B K (beginN s.at_)).1.kind (scF ep B K (beginN s.at_)).1.data ≠ 0) : scNext ep B K s = none := if_pos h
theorem scNext_some (h1 : (scF ep B K (beginN s.at_)).2 ≠ 0) (h2 : jErr s.o s.h (scF ep B K (beginN s.at_)).1.kind (scF ep B K (beginN s.at_)).1.data = 0) :
    scNext ep B K s = some (scStep s (scF ep B K (beginN s.at_)).1 (scF ep B K (beginN s.at_)).2) := if_neg (by rintro (h | h); exact h1 h; exact h h2)
/-- a step goes on, and keeps what is kept -/
theorem scStep_ok (hs : s.Ok) (f : FR) (n : Nat) (h11 : 11 ≤ n) (hn : beginN s.at_ + n ≤ 832) : (scStep s f n).Ok ∧ s.at_ + 11 ≤ (scStep s f n).at_ := by
  have hb : s.at_ ≤ beginN s.at_ := by unfold beginN; split <;> omega
  have hf : scFirst s ≤ 832 := by
    unfold scFirst
    split
    · exact hs.first
    · omega
  have hr := hs.room
  have hw := hs.few
  cases he : jEnds s.o s.h f.kind f.data with
  | true =>
    have e : scStep s f n = ⟨beginN s.at_ + n, scFirst s, jGoes s.o s.h f.kind f.data, jHad s.o s.h f.kind f.data, s.recs ++ [jTell s.o s.h f.kind f.data], s.places ++ [((scFirst s : Nat) : Int)], beginN s.at_ + n⟩ := by
      unfold scStep; rw [he]; rfl
    rw [e]
    refine ⟨⟨hn, hn, hf, by simp [hw], by simp; omega, jHad_le, fun r hr => ?_⟩, by show s.at_ + 11 ≤ beginN s.at_ + n; omega⟩
    rcases List.mem_append.1 hr with h | h
    · exact hs.recs r h
    · obtain rfl : r = _ := by simpa using h
      exact jTell_le
  | false =>
    have e : scStep s f n = ⟨beginN s.at_ + n, scFirst s, jGoes s.o s.h f.kind f.data, jHad s.o s.h f.kind f.data, s.recs, s.places, s.fin⟩ := by
      unfold scStep; rw [he]; rfl
    rw [e]
    exact ⟨⟨hn, hs.fin, hf, hw, by show 11 * s.recs.length ≤ beginN s.at_ + n; omega, jHad_le, hs.recs⟩, by show s.at_ + 11 ≤ beginN s.at_ + n; omega⟩
theorem scNext_ok (hB : B.length = 832) (hs : s.Ok) (h : scNext ep B K s = some t) : t.Ok ∧ s.at_ + 11 ≤ t.at_ := by
  have ha := begin_le s.at_ hs.at_
  by_cases h1 : (scF ep B K (beginN s.at_)).2 = 0 ∨ jErr s.o s.h (scF ep B K (beginN s.at_)).1.kind (scF ep B K (beginN s.at_)).1.data ≠ 0
  · rw [scNext_none h1] at h; cases h
  · have h2 : (scF ep B K (beginN s.at_)).2 ≠ 0 := fun e => h1 (.inl e)
    obtain ⟨_, _, h3, _, h5⟩ := scF_some h2
    have hp := scD_parts hB ha h3
    rw [scNext_some h2 (by by_cases e : jErr s.o s.h (scF ep B K (beginN s.at_)).1.kind (scF ep B K (beginN s.at_)).1.data = 0; exact e; exact absurd (.inr e) h1)] at h
    obtain rfl := Option.some.inj h
    rw [h5]
    exact scStep_ok hs _ _ hp.1 hp.2.2.1
/-- where one is, on the way to the end -/
def OnWay (ep : Int) (B : List Int) (K : List Bool) (s : SS) : Prop := s.Ok ∧ ∃ k, 832 ≤ k + s.at_ ∧ scGo ep B K k s = scEnd ep B K
theorem onway_0 : OnWay ep B K sc0 := ⟨sc0_ok, 832, by omega, rfl⟩
theorem OnWay.next (hB : B.length = 832) (h : OnWay ep B K s) (hn : scNext ep B K s = some t) : OnWay ep B K t := by
  obtain ⟨hs, k, hk, hg⟩ := h
  obtain ⟨ht, hat⟩ := scNext_ok hB hs hn
  have := ht.at_
  obtain ⟨q, rfl⟩ : ∃ q, k = q + 1 := ⟨k - 1, by omega⟩
  refine ⟨ht, q, by omega, ?_⟩
  rw [← hg]
  simp only [scGo, hn]
theorem OnWay.stop (h : OnWay ep B K s) (hn : scNext ep B K s = none) : s = scEnd ep B K := by
  obtain ⟨hs, k, hk, hg⟩ := h
  rw [← hg]
  cases k with
  | zero => rfl
  | succ k => simp only [scGo, hn]
end
/-! what behind an end is empty -/
/-- one byte of sectors: either 0, or ahead of the end -/
def restAt (fs : List Int) (e i k : Nat) : Bool := decide (fs.getD (i * 64 + k) 0 = 0) || !(decide (e ≤ 52 * i) || (decide (12 ≤ k) && decide (e + 12 ≤ 52 * i + k)))
def restS (fs : List Int) (e i : Nat) : Bool := (List.range 64).all fun k => restAt fs e i k
def restB (n : Nat) (fs : List Int) (e : Nat) : Bool := (List.range (min n 16)).all fun i => restS fs e i
theorem restB_no {n : Nat} {fs : List Int} {e i : Nat} (hi : i < n) (h16 : i < 16) (h : restS fs e i = false) : restB n fs e = false := by
  rw [Bool.eq_false_iff]
  intro hh
  have := List.all_eq_true.1 hh i (List.mem_range.2 (by omega))
  rw [h] at this; cases this
theorem restS_no {fs : List Int} {e i k : Nat} (hk : k < 64) (h : restAt fs e i k = false) : restS fs e i = false := by
  rw [Bool.eq_false_iff]
  intro hh
  have := List.all_eq_true.1 hh k (List.mem_range.2 hk)
  rw [h] at this; cases this
theorem restB_yes {n : Nat} {fs : List Int} {e : Nat} (h : ∀ i, i < n → i < 16 → restS fs e i = true) : restB n fs e = true :=
  List.all_eq_true.2 fun i hi => h i (by have := List.mem_range.1 hi; omega) (by have := List.mem_range.1 hi; omega)
theorem restS_yes {fs : List Int} {e i : Nat} (h : ∀ k, k < 64 → restAt fs e i k = true) : restS fs e i = true :=
  List.all_eq_true.2 fun k hk => h k (List.mem_range.1 hk)
/-- a sector that lies wholly ahead of the end -/
theorem restS_ahead {fs : List Int} {e i : Nat} (h : i < e / 52) : restS fs e i = true := restS_yes fun k hk => by
  unfold restAt
  have h1 : ¬ e ≤ 52 * i := by omega
  have h2 : ¬ e + 12 ≤ 52 * i + k := by omega
  simp [h1, h2]
/-- a sector whose first bytes are made 0 -/
def cleared (l : List Int) (m : Nat) : List Int := splice l 0 (List.replicate m 0)
theorem cleared_get (l : List Int) (m k : Nat) : (cleared l m).getD k 0 = if k < m then 0 else l.getD k 0 := by
  unfold cleared splice
  simp only [List.take_zero, List.nil_append, List.length_replicate, Nat.zero_add]
  by_cases h : k < m
  · rw [if_pos h]
    simp [List.getD, List.getElem?_append, h]
  · rw [if_neg h]
    simp [List.getD, List.getElem?_append, h, show m + (k - m) = k by omega]
theorem cleared_length (l : List Int) (hl : l.length = 64) (m : Nat) (hm : m ≤ 64) : (cleared l m).length = 64 := by
  unfold cleared splice; simp; omega
theorem z64_iff (l : List Int) (hl : l.length = 64) : l = List.replicate 64 0 ↔ ∀ k, k < 64 → l.getD k 0 = 0 := by
  constructor
  · rintro rfl k _
    exact getD_replicate 64 k
  · intro h
    refine List.ext_getElem (by simp [hl]) fun k h1 h2 => ?_
    have := h k (by omega)
    rw [List.getElem_replicate]
    simpa [List.getD, h1] using this
theorem sec_byte (fs : List Int) (i k : Nat) (hk : k < 64) : (secOf fs i).getD k 0 = fs.getD (i * 64 + k) 0 := by
  unfold secOf
  simp only [List.getD, List.getElem?_take, hk, if_true, List.getElem?_drop]
/-- the sector in which the end lies -/
theorem restS_mid {fs : List Int} {n e i : Nat} (hl : fs.length = n * 64) (hi : i < n) (h : i = e / 52) (h0 : 0 < e % 52) : restS fs e i = decide (cleared (secOf fs i) (12 + e % 52) = List.replicate 64 0) := by
  have h64 := secOf_length fs n i hl hi
  have hm : 12 + e % 52 ≤ 64 := by omega
  rw [Bool.eq_iff_iff, decide_eq_true_eq, z64_iff _ (cleared_length _ h64 _ hm)]
  constructor
  · intro hh k hk
    have := List.all_eq_true.1 hh k (List.mem_range.2 hk)
    rw [cleared_get]
    split
    · rfl
    · rw [sec_byte fs i k hk]
      unfold restAt at this
      have h2 : 12 ≤ k := by omega
      have h3 : e + 12 ≤ 52 * i + k := by omega
      simpa [h2, h3] using this
  · intro hh
    refine restS_yes fun k hk => ?_
    have := hh k hk
    rw [cleared_get] at this
    unfold restAt
    by_cases hq : k < 12 + e % 52
    · have h1 : ¬ e ≤ 52 * i := by omega
      have h3 : ¬ e + 12 ≤ 52 * i + k := by omega
      simp [h1, h3]
    · rw [if_neg hq, sec_byte fs i k hk] at this
      simp only [this, decide_true, Bool.true_or]
/-- a sector behind the end -/
theorem restS_behind {fs : List Int} {n e i : Nat} (hl : fs.length = n * 64) (hi : i < n) (h : e ≤ 52 * i) : restS fs e i = decide (secOf fs i = List.replicate 64 0) := by
  have h64 := secOf_length fs n i hl hi
  rw [Bool.eq_iff_iff, decide_eq_true_eq, z64_iff _ h64]
  constructor
  · intro hh k hk
    have := List.all_eq_true.1 hh k (List.mem_range.2 hk)
    rw [sec_byte fs i k hk]
    unfold restAt at this
    simpa [h] using this
  · intro hh
    refine restS_yes fun k hk => ?_
    have := hh k hk
    rw [sec_byte fs i k hk] at this
    unfold restAt
    simp only [this, decide_true, Bool.true_or]
/-- what Scan tells of how it ends -/
def scKind (n : Nat) (fs : List Int) (e : Nat) : Int := if restB n fs e = true then 1 else 2
end Go.Proofs.YtepaghohojomeaaDoor
/-
  LAYER 19 (scan): records that are laid are told one by one, up to the first of whose fragments one is not there (plain mathematics). No condition.
-/
namespace Go.Proofs.YtepaghohojomeaaDoor
open Go.RowKit
/-- ahead of a record's i-th fragment -/
def stI (a : Nat) (zs : List Int) (F : Nat) (recs : List (List Int)) (places : List Int) (fin i : Nat) : SS :=
  ⟨pS a zs.length i, if 0 < i then beginN a else F, decide (0 < i), zs.take (fS a zs.length i), recs, places, fin⟩
/-- behind a record -/
def stE (a m : Nat) (zs : List Int) (recs : List (List Int)) (places : List Int) : SS :=
  ⟨pS a zs.length m, beginN a, false, [], recs ++ [zs], places ++ [((beginN a : Nat) : Int)], pS a zs.length m⟩
theorem stI_zero (a : Nat) (zs : List Int) (F : Nat) (recs : List (List Int)) (places : List Int) (fin : Nat) : stI a zs F recs places fin 0 = ⟨a, F, false, [], recs, places, fin⟩ := by
  unfold stI
  rw [pS_zero, fS_zero]
  rfl
section
variable {ep : Int} {B : List Int} {K : List Bool} {a m : Nat} {zs : List Int}
theorem st_first (F : Nat) (recs : List (List Int)) (places : List Int) (fin i : Nat) : scFirst (stI a zs F recs places fin i) = beginN a := by
  unfold scFirst stI
  by_cases h0 : 0 < i
  · simp only [decide_eq_true h0, if_true, if_pos h0]
  · obtain rfl : i = 0 := by omega
    simp only [Nat.lt_irrefl, decide_false, Bool.false_eq_true, if_false, pS_zero]
theorem stp_ends (s : SS) (f : FR) (n : Nat) (he : jEnds s.o s.h f.kind f.data = true) :
    scStep s f n = ⟨beginN s.at_ + n, scFirst s, jGoes s.o s.h f.kind f.data, jHad s.o s.h f.kind f.data, s.recs ++ [jTell s.o s.h f.kind f.data], s.places ++ [((scFirst s : Nat) : Int)], beginN s.at_ + n⟩ := by unfold scStep; rw [he]; rfl
theorem stp_goes (s : SS) (f : FR) (n : Nat) (he : jEnds s.o s.h f.kind f.data = false) :
    scStep s f n = ⟨beginN s.at_ + n, scFirst s, jGoes s.o s.h f.kind f.data, jHad s.o s.h f.kind f.data, s.recs, s.places, s.fin⟩ := by unfold scStep; rw [he]; rfl
/-- a fragment that is there is taken -/
theorem run_step (h : Laid a zs m) (h5 : zs.length ≤ 512) (F : Nat) (recs : List (List Int)) (places : List Int) (fin : Nat) {i : Nat} (hi : i < m) (hacc : scF ep B K (bS a zs.length i) = (frI ep a zs i, szI a zs i)) :
    scNext ep B K (stI a zs F recs places fin i) = some (if i + 1 = m then stE a m zs recs places else stI a zs F recs places fin (i + 1)) := by
  obtain ⟨hr, hs⟩ := h.step hi
  have hge := hs.f_ge
  have hle := hs.f_le
  have hl := last_iff h.cuts hi
  have hb : beginN (stI a zs F recs places fin i).at_ = bS a zs.length i := rfl
  have hfst := st_first (a := a) (zs := zs) F recs places fin i
  have hsz : szI a zs i ≠ 0 := by unfold szI; omega
  have hroom := (h.room hi).1
  have ht : zs.take (fS a zs.length i) ++ (zs.drop (fS a zs.length i)).take (fS a zs.length (i + 1) - fS a zs.length i) = zs.take (fS a zs.length (i + 1)) := by
    rw [← List.take_add, show fS a zs.length i + (fS a zs.length (i + 1) - fS a zs.length i) = fS a zs.length (i + 1) from by omega]
  have hl1 : (zs.take (fS a zs.length i)).length = fS a zs.length i := by rw [List.length_take]; omega
  have hl2 : ((zs.drop (fS a zs.length i)).take (fS a zs.length (i + 1) - fS a zs.length i)).length = fS a zs.length (i + 1) - fS a zs.length i := by rw [List.length_take, List.length_drop]; omega
  have hlen : ¬ (zs.take (fS a zs.length i)).length + ((zs.drop (fS a zs.length i)).take (fS a zs.length (i + 1) - fS a zs.length i)).length > 512 := by rw [hl1, hl2]; omega
  have ho : (stI a zs F recs places fin i).o = decide (0 < i) := rfl
  have hh : (stI a zs F recs places fin i).h = zs.take (fS a zs.length i) := rfl
  by_cases hlast : i + 1 = m
  · have h3 : fS a zs.length (i + 1) = zs.length := hl.2 hlast
    have hk : jFit (decide (0 < i)) (frI ep a zs i).kind = true ∧ jLast (frI ep a zs i).kind = true := by
      show jFit _ (kindN _ _) = true ∧ jLast (kindN _ _) = true
      rw [decide_eq_true h3]
      by_cases h0 : i = 0
      · subst h0; decide
      · rw [decide_eq_true (by omega : 0 < i), decide_eq_false h0]; decide
    obtain ⟨e1, e2, e3, e4, e5⟩ := j_ends hk.1 hlen hk.2
    have hn := scNext_some (ep := ep) (B := B) (K := K) (s := stI a zs F recs places fin i) (by rw [hb, hacc]; exact hsz) (by rw [hb, hacc, ho, hh]; exact e1)
    rw [hn, hb, hacc, if_pos hlast]
    refine congrArg some ?_
    have e2' : jEnds (stI a zs F recs places fin i).o (stI a zs F recs places fin i).h (frI ep a zs i).kind (frI ep a zs i).data = true := by rw [ho, hh]; exact e2
    have e3' : jGoes (stI a zs F recs places fin i).o (stI a zs F recs places fin i).h (frI ep a zs i).kind (frI ep a zs i).data = false := by rw [ho, hh]; exact e3
    have e4' : jHad (stI a zs F recs places fin i).o (stI a zs F recs places fin i).h (frI ep a zs i).kind (frI ep a zs i).data = [] := by rw [ho, hh]; exact e4
    have e5' : jTell (stI a zs F recs places fin i).o (stI a zs F recs places fin i).h (frI ep a zs i).kind (frI ep a zs i).data = zs := by
      rw [ho, hh]
      refine e5.trans ?_
      show zs.take _ ++ (zs.drop _).take _ = zs
      rw [ht, h3, List.take_of_length_le (Nat.le_refl _)]
    rw [stp_ends _ _ _ e2', e3', e4', e5', hb, hroom, hfst, hlast]
    rfl
  · have h3 : ¬ fS a zs.length (i + 1) = zs.length := fun e => hlast (hl.1 e)
    have hk : jFit (decide (0 < i)) (frI ep a zs i).kind = true ∧ jLast (frI ep a zs i).kind = false := by
      show jFit _ (kindN _ _) = true ∧ jLast (kindN _ _) = false
      rw [decide_eq_false h3]
      by_cases h0 : i = 0
      · subst h0; decide
      · rw [decide_eq_true (by omega : 0 < i), decide_eq_false h0]; decide
    obtain ⟨e1, e2, e3, e4, e5⟩ := j_goes hk.1 hlen hk.2
    have hn := scNext_some (ep := ep) (B := B) (K := K) (s := stI a zs F recs places fin i) (by rw [hb, hacc]; exact hsz) (by rw [hb, hacc, ho, hh]; exact e1)
    rw [hn, hb, hacc, if_neg hlast]
    refine congrArg some ?_
    have e2' : jEnds (stI a zs F recs places fin i).o (stI a zs F recs places fin i).h (frI ep a zs i).kind (frI ep a zs i).data = false := by rw [ho, hh]; exact e2
    have e3' : jGoes (stI a zs F recs places fin i).o (stI a zs F recs places fin i).h (frI ep a zs i).kind (frI ep a zs i).data = true := by rw [ho, hh]; exact e3
    have e4' : jHad (stI a zs F recs places fin i).o (stI a zs F recs places fin i).h (frI ep a zs i).kind (frI ep a zs i).data = zs.take (fS a zs.length (i + 1)) := by
      rw [ho, hh]
      exact e4.trans ht
    rw [stp_goes _ _ _ e2', e3', e4', hb, hroom, hfst]
    unfold stI
    rw [if_pos (by omega : 0 < i + 1), decide_eq_true (by omega : 0 < i + 1)]
/-- a record is told, or one stops in it -/
theorem rec_run (hB : B.length = 832) (h : Laid a zs m) (h5 : zs.length ≤ 512) (F : Nat) (recs : List (List Int)) (places : List Int) (fin : Nat)
    (acc : ∀ i, i < m → scF ep B K (bS a zs.length i) = (frI ep a zs i, szI a zs i) ∨ (scF ep B K (bS a zs.length i)).2 = 0) :
    ∀ (q i : Nat), i + q = m → 0 < q → OnWay ep B K (stI a zs F recs places fin i) →
      OnWay ep B K (stE a m zs recs places) ∨ ((scEnd ep B K).recs = recs ∧ (scEnd ep B K).places = places ∧ (scEnd ep B K).fin = fin ∧ ∃ i, i < m ∧ (scF ep B K (bS a zs.length i)).2 = 0)
  | 0, i, _, h0, _ => absurd h0 (by omega)
  | q + 1, i, hj, _, hw => by
    have hi : i < m := by omega
    rcases acc i hi with hy | hn
    · have hs := run_step h h5 F recs places fin hi hy
      have hw2 := hw.next hB hs
      by_cases hl : i + 1 = m
      · rw [if_pos hl] at hw2
        exact .inl hw2
      · rw [if_neg hl] at hw2
        exact rec_run hB h h5 F recs places fin acc q (i + 1) (by omega) (by omega) hw2
    · have he := hw.stop (scNext_none (.inl hn))
      rw [← he]
      exact .inr ⟨rfl, rfl, rfl, i, hi, hn⟩
end
/-- is each of the k-th record's fragments there? -/
def AllIn (ep : Int) (B : List Int) (K : List Bool) (ls : List (List Int)) (k : Nat) : Prop :=
  ∀ m, Laid (endF (ls.take k)) (ls.getD k []) m → ∀ i, i < m → scF ep B K (bS (endF (ls.take k)) (ls.getD k []).length i) = (frI ep (endF (ls.take k)) (ls.getD k []) i, szI (endF (ls.take k)) (ls.getD k []) i)
/-- .. or is it not there at all? -/
def InOut (ep : Int) (B : List Int) (K : List Bool) (ls : List (List Int)) (k : Nat) : Prop :=
  ∀ m, Laid (endF (ls.take k)) (ls.getD k []) m → ∀ i, i < m → scF ep B K (bS (endF (ls.take k)) (ls.getD k []).length i) = (frI ep (endF (ls.take k)) (ls.getD k []) i, szI (endF (ls.take k)) (ls.getD k []) i) ∨ (scF ep B K (bS (endF (ls.take k)) (ls.getD k []).length i)).2 = 0
/-- just first records are told, all that are there among them -/
theorem recs_run {ep : Int} {B : List Int} {K : List Bool} (hB : B.length = 832) {ls : List (List Int)} (hg : GoodF ls ls.length) (h5 : ∀ z ∈ ls, z.length ≤ 512) (hio : ∀ k, k < ls.length → InOut ep B K ls k) :
    ∀ k, k ≤ ls.length → (∃ F, OnWay ep B K ⟨endF (ls.take k), F, false, [], ls.take k, placesF (ls.take k), endF (ls.take k)⟩) ∨
      ∃ q, q < k ∧ (scEnd ep B K).recs = ls.take q ∧ (scEnd ep B K).places = placesF (ls.take q) ∧ (scEnd ep B K).fin = endF (ls.take q) ∧ ¬ AllIn ep B K ls q
  | 0, _ => .inl ⟨0, by rw [List.take_zero, endF_nil, placesF_nil]; exact onway_0⟩
  | k + 1, hk => by
    rcases recs_run hB hg h5 hio k (by omega) with ⟨F, hw⟩ | ⟨q, h1, h2⟩
    · obtain ⟨m, hl⟩ := laid_k hg (k := k) (by omega)
      have hm0 : 0 < m := hl.cuts.1
      have h52 : (ls.getD k []).length ≤ 512 := h5 _ (by simp [List.getD, show k < ls.length by omega])
      rw [← stI_zero (endF (ls.take k)) (ls.getD k [])] at hw
      rcases rec_run hB hl h52 F _ _ _ (hio k (by omega) m hl) m 0 (by omega) hm0 hw with hy | ⟨e1, e2, e3, i, hi, hn⟩
      · refine .inl ⟨beginN (endF (ls.take k)), ?_⟩
        unfold stE at hy
        rw [endF_next ls k (by omega), placesF_next ls k (by omega), hl.end_, take_next ls k (by omega)]
        exact hy
      · refine .inr ⟨k, by omega, e1, e2, e3, fun hall => ?_⟩
        rw [hall m hl i hi] at hn
        have : szI (endF (ls.take k)) (ls.getD k []) i = 0 := hn
        unfold szI at this
        omega
    · exact .inr ⟨q, by omega, h2⟩
theorem recs_all {ep : Int} {B : List Int} {K : List Bool} (hB : B.length = 832) {ls : List (List Int)} (hg : GoodF ls ls.length) (h5 : ∀ z ∈ ls, z.length ≤ 512) (hio : ∀ k, k < ls.length → InOut ep B K ls k) (hend : (scF ep B K (beginN (endF ls))).2 = 0) :
    ∃ q, q ≤ ls.length ∧ (scEnd ep B K).recs = ls.take q ∧ (scEnd ep B K).places = placesF (ls.take q) ∧ (scEnd ep B K).fin = endF (ls.take q) ∧ (q < ls.length → ¬ AllIn ep B K ls q) := by
  rcases recs_run hB hg h5 hio ls.length (Nat.le_refl _) with ⟨F, hw⟩ | ⟨q, h1, h2, h3, h4, h6⟩
  · have hs := hw.stop (scNext_none (.inl (by dsimp only; rw [List.take_length]; exact hend)))
    refine ⟨ls.length, Nat.le_refl _, ?_⟩
    rw [← hs]
    exact ⟨rfl, rfl, rfl, fun h => absurd h (by omega)⟩
  · exact ⟨q, by omega, h2, h3, h4, fun _ => h6⟩
end Go.Proofs.YtepaghohojomeaaDoor
/-
  LAYER 19 (scan): sectors of which each is the new one or the old one (plain mathematics): a fragment is there as it was laid, or is not there. No condition.
-/
namespace Go.Proofs.YtepaghohojomeaaDoor
open Go.RowKit
theorem covat_iff (K : List Bool) (a b : Nat) (hab : a < b) (hb : b ≤ 832) : covAt K (a : Int) (b : Int) = true ↔ ∀ i, a / 52 ≤ i → i ≤ (b - 1) / 52 → K.getD i false = true := by
  unfold covAt
  rw [nr_nat a (by omega), nr_nat b hb]
  have ht : touchN a b = (a / 52, (b - 1) / 52 + 1) := if_pos hab
  rw [ht]
  constructor
  · intro h i h1 h2
    have := List.all_eq_true.1 h (i - a / 52) (List.mem_range.2 (by show i - a / 52 < (b - 1) / 52 + 1 - a / 52; omega))
    rwa [show (a / 52 : Nat) + (i - a / 52) = i from by omega] at this
  · intro h
    exact cov_all _ _ _ fun i hi => h _ (by show a / 52 ≤ a / 52 + i; omega) (by have : i < (b - 1) / 52 + 1 - a / 52 := hi; show a / 52 + i ≤ _; omega)
section
variable {B body : List Int} {p : Nat}
theorem bSl_get (j : Nat) (hj : j < leftN p) : (bSl B p).getD j 0 = B.getD (p + j) 0 := by
  unfold bSl
  simp only [List.getD, List.getElem?_take, hj, if_true, List.getElem?_drop]
theorem take_ext (l m : List Int) (n : Nat) (hl : n ≤ l.length) (hm : n ≤ m.length) (h : ∀ j, j < n → l.getD j 0 = m.getD j 0) : l.take n = m.take n := by
  refine List.ext_getElem (by simp; omega) fun j h1 h2 => ?_
  have hj : j < n := by simp at h1; omega
  have := h j hj
  simp only [List.getElem_take]
  simpa [List.getD, show j < l.length by omega, show j < m.length by omega] using this
/-- bytes that are a fragment's are told as it -/
theorem scD_same (hB : B.length = 832) {k ep : Int} {d : List Int} (hk : fragOk k d.length = true) (he : 0 ≤ ep ∧ ep < 4294967296) (hs : p + (11 + d.length) ≤ 832) (hl : 11 + d.length ≤ leftN p) (hat : ∀ j, j < 11 + d.length → B.getD (p + j) 0 = (fragB k ep d).getD j 0) :
    scD ep B p = (⟨k, ep, d⟩, 11 + d.length, 0) := by
  have hlen := fragB_length k ep d
  have hbl := bSl_length hB (show p ≤ 832 by omega)
  have ht : (bSl B p).take (11 + d.length) = fragB k ep d := by
    rw [take_ext (bSl B p) (fragB k ep d) (11 + d.length) (by omega) (by omega) fun j hj => by rw [bSl_get j (by omega)]; exact hat j hj]
    exact List.take_of_length_le (by omega)
  unfold scD
  rw [← List.take_append_drop (11 + d.length) (bSl B p), ht]
  exact frag_got _ hk he
/-- bytes whose head is a fragment's: a fragment that is told has its length -/
theorem scD_head (hB : B.length = 832) {k ep : Int} {d : List Int} (hk : fragOk k d.length = true) (he : 0 ≤ ep ∧ ep < 4294967296) (hs : p + (11 + d.length) ≤ 832) (hl : 11 + d.length ≤ leftN p) (hat : ∀ j, j < 11 → B.getD (p + j) 0 = (fragB k ep d).getD j 0) (h0 : (scD ep B p).2.2 = 0) :
    (scD ep B p).2.1 = 11 + d.length := by
  have hlen := fragB_length k ep d
  have hbl := bSl_length hB (show p ≤ 832 by omega)
  have ht : (bSl B p).take 11 = (fragB k ep d).take 11 :=
    take_ext (bSl B p) (fragB k ep d) 11 (by omega) (by omega) fun j hj => by rw [bSl_get j (by omega)]; exact hat j hj
  have hn := (frag_nums k ep d [] (by have := (fok_parts hk).2.2; omega) he).2.1
  rw [List.append_nil] at hn
  have h42 : num (bSl B p) 4 2 = d.length := by rw [← num_take (bSl B p) 11 4 2 (by omega), ht, num_take _ 11 4 2 (by omega), hn]
  unfold scD at h0 ⊢
  obtain ⟨h1, h2, h3, h4, h5⟩ := fragD_parts h0
  have h6 : ¬ (bSl B p).take 11 = List.replicate 11 0 := fun e => by
    rw [fragD_none (by omega) e] at h0; exact absurd h0 (by decide)
  rw [fragD_ok (by omega) h6 h2 h3 (by omega) h5, h42]
  show 11 + ((d.length : Nat) : Int).toNat = _
  rw [Int.toNat_natCast]
/-- bytes 0 are none's head -/
theorem scD_zero (hB : B.length = 832) {ep : Int} (hs : p + 11 ≤ 832) (hl : 11 ≤ leftN p) (hat : ∀ j, j < 11 → B.getD (p + j) 0 = 0) : (scD ep B p).2.2 ≠ 0 := by
  have hbl := bSl_length hB (show p ≤ 832 by omega)
  have ht : (bSl B p).take 11 = List.replicate 11 0 := by
    rw [take_ext (bSl B p) (List.replicate 11 0) 11 (by omega) (by simp) fun j hj => by rw [bSl_get j (by omega), hat j hj, getD_replicate]]
    simp
  unfold scD
  rw [fragD_none (by omega) ht]
  decide
end
/-- what sectors have of which each is the new one, or the old one that ends at e -/
structure Mixed (B : List Int) (K : List Bool) (body : List Int) (e : Nat) : Prop where
  len : B.length = 832
  synced : ∀ i, i < 16 → 52 * i < e → K.getD i false = true
  bytes : ∀ i, i < 16 → K.getD i false = true → (∀ r, r < 52 → B.getD (52 * i + r) 0 = body.getD (52 * i + r) 0) ∨ (52 * i < e ∧ ∀ r, r < 52 → B.getD (52 * i + r) 0 = if 52 * i + r < e then body.getD (52 * i + r) 0 else 0)
section
variable {B body : List Int} {K : List Bool} {e : Nat}
theorem Mixed.old (M : Mixed B K body e) {j : Nat} (hj : j < 832) (h : j < e) : B.getD j 0 = body.getD j 0 := by
  have hd : 52 * (j / 52) + j % 52 = j := by omega
  rcases M.bytes (j / 52) (by omega) (M.synced _ (by omega) (by omega)) with h1 | ⟨_, h1⟩
  · have := h1 (j % 52) (by omega)
    rwa [hd] at this
  · have := h1 (j % 52) (by omega)
    rw [hd, if_pos h] at this
    exact this
theorem Mixed.frag (M : Mixed B K body e) {k ep : Int} {d : List Int} (hk : fragOk k d.length = true) (he : 0 ≤ ep ∧ ep < 4294967296) {p : Nat} (hp : p % 52 ≤ 41) (hs : p + (11 + d.length) ≤ 832) (hl : 11 + d.length ≤ leftN p)
    (hat : ∀ j, j < 11 + d.length → body.getD (p + j) 0 = (fragB k ep d).getD j 0) :
    (p + (11 + d.length) ≤ e → scF ep B K p = (⟨k, ep, d⟩, 11 + d.length)) ∧ (e ≤ p → scF ep B K p = (⟨k, ep, d⟩, 11 + d.length) ∨ (scF ep B K p).2 = 0) := by
  have yes : covAt K (p : Int) ((p + (11 + d.length) : Nat) : Int) = true → (∀ j, j < 11 + d.length → B.getD (p + j) 0 = body.getD (p + j) 0) → scF ep B K p = (⟨k, ep, d⟩, 11 + d.length) := fun hc hb => by
    have hD := scD_same M.len hk he hs hl fun j hj => (hb j hj).trans (hat j hj)
    have h11 : covAt K (p : Int) ((p + 11 : Nat) : Int) = true := (covat_iff K p (p + 11) (by omega) (by omega)).2 fun i h1 h2 => (covat_iff K p (p + (11 + d.length)) (by omega) hs).1 hc i h1 (by omega)
    rw [scF_yes (by omega) h11 (by rw [hD]) (by rw [hD]; exact hc), hD]
  constructor
  · intro hE
    refine yes ((covat_iff K p _ (by omega) hs).2 fun i h1 h2 => M.synced i (by omega) (by omega)) fun j hj => M.old (by omega) (by omega)
  · intro hE
    cases h11 : covAt K (p : Int) ((p + 11 : Nat) : Int) with
    | false => exact .inr (by rw [scF_head h11])
    | true =>
      have hK := (covat_iff K p (p + 11) (by omega) (by omega)).1 h11 (p / 52) (Nat.le_refl _) (by omega)
      have hd : ∀ j, j < 11 → 52 * (p / 52) + (p % 52 + j) = p + j := fun j _ => by omega
      rcases M.bytes (p / 52) (by omega) hK with h1 | ⟨hlt, h1⟩
      · have hh : ∀ j, j < 11 → B.getD (p + j) 0 = body.getD (p + j) 0 := fun j hj => by
          have := h1 (p % 52 + j) (by omega)
          rwa [hd j hj] at this
        cases hc : covAt K (p : Int) ((p + (11 + d.length) : Nat) : Int) with
        | true =>
          refine .inl (yes hc fun j hj => ?_)
          have hj8 : p + j < 832 := by omega
          have hd2 : 52 * ((p + j) / 52) + (p + j) % 52 = p + j := by omega
          have hKj := (covat_iff K p _ (by omega) hs).1 hc ((p + j) / 52) (by omega) (by omega)
          by_cases hsame : (p + j) / 52 = p / 52
          · have := h1 (p % 52 + j) (by omega)
            rwa [show 52 * (p / 52) + (p % 52 + j) = p + j from by omega] at this
          · rcases M.bytes ((p + j) / 52) (by omega) hKj with h2 | ⟨h2, _⟩
            · have := h2 ((p + j) % 52) (by omega)
              rwa [hd2] at this
            · omega
        | false =>
          refine .inr ?_
          by_cases h0 : (scD ep B p).2.2 = 0
          · have hsz := scD_head M.len hk he hs hl (fun j hj => (hh j hj).trans (hat j (by omega))) h0
            rw [scF_cov (by rw [hsz]; exact hc)]
          · rw [scF_err h0]
      · refine .inr ?_
        rw [scF_err (scD_zero M.len (by omega) (by omega) fun j hj => ?_)]
        have := h1 (p % 52 + j) (by omega)
        rw [hd j hj, if_neg (by omega)] at this
        exact this
/-- behind the end no fragment is told -/
theorem Mixed.stop (M : Mixed B K body e) (ep : Int) {p : Nat} (hp : p = 832 ∨ (p % 52 ≤ 41 ∧ p + 11 ≤ 832 ∧ 11 ≤ leftN p)) (h0 : ∀ j, p ≤ j → body.getD j 0 = 0) : (scF ep B K p).2 = 0 := by
  rcases hp with h8 | ⟨h1, h2, h3⟩
  · rw [scF_far h8]
  · cases h11 : covAt K (p : Int) ((p + 11 : Nat) : Int) with
    | false => rw [scF_head h11]
    | true =>
      have hK := (covat_iff K p (p + 11) (by omega) (by omega)).1 h11 (p / 52) (Nat.le_refl _) (by omega)
      have hd : ∀ j, j < 11 → 52 * (p / 52) + (p % 52 + j) = p + j := fun j _ => by omega
      rw [scF_err (scD_zero M.len h2 h3 fun j hj => ?_)]
      rcases M.bytes (p / 52) (by omega) hK with h | ⟨_, h⟩
      · have := h (p % 52 + j) (by omega)
        rw [hd j hj] at this
        rw [this]; exact h0 _ (by omega)
      · have := h (p % 52 + j) (by omega)
        rw [hd j hj] at this
        rw [this]
        split
        · exact h0 _ (by omega)
        · rfl
end
/-- records that are laid, of which the first n are lasting -/
theorem mixed_told {B : List Int} {K : List Bool} {ep : Int} (he : 0 ≤ ep ∧ ep < 4294967296) {ls : List (List Int)} (hg : GoodF ls ls.length) (h5 : ∀ z ∈ ls, z.length ≤ 512) {n : Nat} (hn : n ≤ ls.length) (M : Mixed B K (bodyF ep ls) (endF (ls.take n))) :
    ∃ q, n ≤ q ∧ q ≤ ls.length ∧ (scEnd ep B K).recs = ls.take q ∧ (scEnd ep B K).places = placesF (ls.take q) ∧ (scEnd ep B K).fin = endF (ls.take q) := by
  have hfr : ∀ k m, k < ls.length → Laid (endF (ls.take k)) (ls.getD k []) m → ∀ i, i < m →
      (bS (endF (ls.take k)) (ls.getD k []).length i + szI (endF (ls.take k)) (ls.getD k []) i ≤ endF (ls.take n) → scF ep B K (bS (endF (ls.take k)) (ls.getD k []).length i) = (frI ep (endF (ls.take k)) (ls.getD k []) i, szI (endF (ls.take k)) (ls.getD k []) i)) ∧
      (endF (ls.take n) ≤ bS (endF (ls.take k)) (ls.getD k []).length i → scF ep B K (bS (endF (ls.take k)) (ls.getD k []).length i) = (frI ep (endF (ls.take k)) (ls.getD k []) i, szI (endF (ls.take k)) (ls.getD k []) i) ∨ (scF ep B K (bS (endF (ls.take k)) (ls.getD k []).length i)).2 = 0) := fun k m hk h i hi => by
    obtain ⟨r1, r2, r3, r4, r5, r6⟩ := h.room hi
    have hd := h.data hi ep
    have hsz : szI (endF (ls.take k)) (ls.getD k []) i = 11 + (frI ep (endF (ls.take k)) (ls.getD k []) i).data.length := by rw [hd]; rfl
    have hkd : 1 ≤ (frI ep (endF (ls.take k)) (ls.getD k []) i).kind ∧ (frI ep (endF (ls.take k)) (ls.getD k []) i).kind ≤ 4 := kind_bd _ _
    have hl8 := left_le208 (bS (endF (ls.take k)) (ls.getD k []).length i)
    have hok : fragOk (frI ep (endF (ls.take k)) (ls.getD k []) i).kind (frI ep (endF (ls.take k)) (ls.getD k []) i).data.length = true := decide_eq_true ⟨hkd.1, hkd.2, by omega⟩
    have := M.frag hok he (p := bS (endF (ls.take k)) (ls.getD k []).length i) r5 (by omega) (by omega) (fun j hj => body_at hg ep hk h hi j (by omega))
    rw [← hsz] at this
    exact this
  have hend : (scF ep B K (beginN (endF ls))).2 = 0 := by
    refine M.stop ep ?_ fun j hj => ?_
    · rcases begin_room (endF ls) (endF_le ls) with h | ⟨h1, h2⟩
      · exact .inl h
      · have := left_le (beginN (endF ls)) (begin_le _ (endF_le ls))
        exact .inr ⟨h2, by omega, h1⟩
    · have h1 := body_out hg ep ls.length (Nat.le_refl _) j
      rw [List.take_length] at h1
      exact h1 (Nat.le_trans (begin_ge _) hj)
  have hlow : ∀ k m, k < n → Laid (endF (ls.take k)) (ls.getD k []) m → ∀ i, i < m → bS (endF (ls.take k)) (ls.getD k []).length i + szI (endF (ls.take k)) (ls.getD k []) i ≤ endF (ls.take n) := fun k m hk h i hi => by
    obtain ⟨r1, _⟩ := h.room hi
    have h2 := h.mono (i := i + 1) (t := m) (by omega) (Nat.le_refl _)
    have h3 : endF (ls.take (k + 1)) = pS (endF (ls.take k)) (ls.getD k []).length m := by rw [endF_next ls k (by omega), h.end_]
    have h4 := end_mono hg (k := k + 1) (t := n) (by omega) hn
    omega
  obtain ⟨q, h1, h2, h3, h4, h6⟩ := recs_all M.len hg h5 (fun k hk m h i hi => by
    by_cases hkn : k < n
    · exact .inl ((hfr k m hk h i hi).1 (hlow k m hkn h i hi))
    · have h2 := end_mono hg (k := n) (t := k) (by omega) (by omega)
      obtain ⟨_, _, _, r4, _⟩ := h.room hi
      have h3 := h.mono (i := 0) (t := i) (Nat.zero_le _) (by omega)
      rw [pS_zero] at h3
      exact (hfr k m hk h i hi).2 (by omega)) hend
  refine ⟨q, ?_, h1, h2, h3, h4⟩
  by_cases hqn : n ≤ q
  · exact hqn
  · exact absurd (fun m h i hi => (hfr q m (by omega) h i hi).1 (hlow q m (by omega) h i hi)) (h6 (by omega))
end Go.Proofs.YtepaghohojomeaaDoor
/-
  WHAT THE DOCUMENT'S ANSWERS OF LAYER 8 (disk) ANSWER: the reference's Mix (for the layers behind it, too). No condition.
-/
namespace Go.Proofs.YtepaghohojomeaaDoor
open Go.RowKit
/-- the first k of next's bytes, and old's others -/
def mixN (old nx : List Int) (k : Nat) : List Int := nx.take k ++ old.drop k
def cutN (cut : Int) : Nat := (min (max cut 0) 64).toNat
theorem mixN_length (old nx : List Int) (k : Nat) (ho : old.length = 64) (hn : nx.length = 64) (hk : k ≤ 64) : (mixN old nx k).length = 64 := by simp [mixN]; omega
theorem mixN_zero (old nx : List Int) : mixN old nx 0 = old := by simp [mixN]
theorem mixN_set (old nx : List Int) (k : Nat) (ho : old.length = 64) (hn : nx.length = 64) (hk : k < 64) : (mixN old nx k).set k (nx.getD k 0) = mixN old nx (k + 1) := by
  refine List.ext_getElem? fun i => ?_
  rw [List.getElem?_set]
  have hl := mixN_length old nx k ho hn (by omega)
  by_cases hik : k = i
  · subst hik
    rw [if_pos rfl, if_pos (by omega)]
    unfold mixN
    rw [List.getElem?_append_left (by simp; omega), List.getElem?_take_of_lt (by omega)]
    simp [List.getD, hn, hk]
  · rw [if_neg hik]
    unfold mixN
    by_cases hi : i < k
    · rw [List.getElem?_append_left (by simp; omega), List.getElem?_append_left (by simp; omega), List.getElem?_take_of_lt hi, List.getElem?_take_of_lt (by omega)]
    · rw [List.getElem?_append_right (by simp; omega), List.getElem?_append_right (by simp; omega), List.getElem?_drop, List.getElem?_drop]
      congr 1; simp; omega
/-- where Mix stands -/
structure Mx (W : World) (l nx : List Int) (w : World) : Prop where
  below : Below W.heap.size W w
  nxt : Blk w (W.heap.size + 1) nx
  res : Blk w (W.heap.size + 2) z64
  out : Blk w (W.heap.size + 3) l
theorem Mx.start (W : World) (l nx : List Int) (hl : l.length = 64) (hn : nx.length = 64) : Mx W z64 nx ((((W.alloc (.cells (sv l) 28)).alloc (.cells (sv nx) 28)).alloc (.cells (sv z64) 28)).alloc (.cells (sv z64) 28)) ∧ Blk ((((W.alloc (.cells (sv l) 28)).alloc (.cells (sv nx) 28)).alloc (.cells (sv z64) 28)).alloc (.cells (sv z64) 28)) W.heap.size l := by
  have s0 := alloc_size W (.cells (sv l) 28)
  have b0 := below_alloc W (.cells (sv l) 28)
  have k0 := Blk.new W l hl
  generalize W.alloc (.cells (sv l) 28) = w0 at *
  have s1 := alloc_size w0 (.cells (sv nx) 28)
  have b1 := below_alloc w0 (.cells (sv nx) 28)
  have k1 := Blk.new w0 nx hn
  generalize w0.alloc (.cells (sv nx) 28) = w1 at *
  have s2 := alloc_size w1 (.cells (sv z64) 28)
  have b2 := below_alloc w1 (.cells (sv z64) 28)
  have k2 := Blk.new w1 z64 z64_length
  generalize w1.alloc (.cells (sv z64) 28) = w2 at *
  have b3 := below_alloc w2 (.cells (sv z64) 28)
  have k3 := Blk.new w2 z64 z64_length
  generalize w2.alloc (.cells (sv z64) 28) = w3 at *
  rw [s0] at k1
  rw [s1, s0] at k2
  rw [s2, s1, s0] at k3
  exact ⟨⟨chain (chain (chain b0 b1) b2) b3, (k1.keep b2).keep b3, k2.keep b3, k3⟩, ((k0.keep b1).keep b2).keep b3⟩
theorem Mx.row {W w : World} {l l' nx : List Int} (h : Mx W l nx w) (hl : l'.length = 64) : Mx W l' nx (w.setRow (W.heap.size + 3) (sv l')) :=
  ⟨below_row h.below (by omega) _, h.nxt.row_apart (by omega) _, h.res.row_apart (by omega) _, h.out.row hl⟩
theorem Mx.stored {W w : World} {l nx : List Int} (h : Mx W l nx w) (k : Nat) (z : Int) : Mx W (l.set k z) nx (w.setCell ⟨W.heap.size + 3, k, none⟩ (.int .u8 z)) :=
  ⟨h.below.setCell (by show W.heap.size ≤ W.heap.size + 3; omega) _, h.nxt.apart (by omega) _ _, h.res.apart (by omega) _ _, h.out.stored k z⟩
set_option maxRecDepth 8000 in
set_option maxHeartbeats 1000000 in
theorem rmix_any (old nx : List Int) (cut : Int) (ho : old.length = 64) (hn : nx.length = 64) (hc : I63 cut) (w : World) :
    Calls Tryd.prog 43 #[.agg (sv old), .agg (sv nx), .int .i64 cut] w fun e w' => e = .returned (.agg (sv (mixN old nx (cutN cut)))) ∧ Below w.heap.size w w' := by
  unfold I63 at hc
  obtain ⟨hM, hO⟩ := Mx.start w old nx ho hn
  have HM := Lib.hid hM
  have HO := Lib.hid (((Blk.new w old ho).keep (below_alloc _ (.cells (sv nx) 28))).keep (below_alloc _ (.cells (sv z64) 28)))
  have HOL := Lib.hid ho
  have HNL := Lib.hid hn
  have HZ := Lib.hid z64_cells
  obtain ⟨kc, hkc⟩ : ∃ kc, cutN cut = kc := ⟨_, rfl⟩
  have hkc1 : (kc : Int) = min (max cut 0) 64 := by rw [← hkc]; unfold cutN; omega
  rw [hkc]
  clear hM hO ho hn hkc
  go_enter Tryd.func43, Tryd.ntmps43
  go_wp2_with (first
    | (rw [← HZ.out])
    | (refine wpl_load_sec (by rfl) _ rfl w.heap.size rfl old HO.out ?_)
    | (refine wpList_store_row rfl 28 _ _ rfl (w.heap.size + 3) (sv old) rfl rfl _ (sv z64) HM.out.out.1 (sv_info _ HOL.out) (by rw [sv_size, sv_size, HOL.out, z64_length]) (sv_one _) ?_; generalize hW4 : World.setRow _ _ _ = W4))
  have HM4 : Hid (Mx w (mixN old nx 0) nx W4) := Lib.hid (by rw [← hW4, mixN_zero]; exact HM.out.row HOL.out)
  clear hW4
  go_loopw [8] (fun iv wr => ∃ i : Nat, iv = .int .i64 i ∧ i ≤ kc ∧ Hid (Mx w (mixN old nx i) nx wr)) (fun iv _ => kc - (intOf iv).toNat)
  case atStart => exact ⟨0, rfl, by omega, HM4⟩
  case round =>
    obtain ⟨i, rfl, hi, HI⟩ := hrel
    by_cases hlt : i < kc
    · have h1 : (i : Int) < cut := by omega
      have h2 : (i : Int) < 64 := by omega
      have hcn := HI.out.nxt.cell i (by omega)
      have hco := HI.out.out.cell i (by omega)
      have hfo := HI.out.out.frozen i
      have HST := Lib.hid (mixN_set old nx i HOL.out HNL.out (by omega))
      obtain ⟨z, hz⟩ : ∃ z, nx.getD i 0 = z := ⟨_, rfl⟩
      rw [hz] at hcn HST
      clear hz
      go_wp2
      go_roundw
      case rel => exact ⟨i + 1, by go_num, by omega, Lib.hid (by rw [← HST.out]; exact HI.out.stored i z)⟩
      case measure => simp [intOf]; omega
    · have hq : i = kc := by omega
      subst hq
      have hml := mixN_length old nx i HOL.out HNL.out (by omega)
      have HML := Lib.hid hml
      by_cases h1 : (i : Int) < cut
      · have h2 : ¬ (i : Int) < 64 := by omega
        clear hml
        go_wp2_with (first
          | (refine wpl_load_sec (by rfl) _ rfl (w.heap.size + 3) rfl (mixN old nx i) HI.out.out ?_)
          | (refine wpList_store_row rfl 28 _ _ rfl (w.heap.size + 2) (sv (mixN old nx i)) rfl rfl _ (sv z64) HI.out.res.1 (sv_info _ HML.out) (by rw [sv_size, sv_size, HML.out, z64_length]) (sv_one _) ?_))
        refine bodyPost_ret_by (v := .agg (sv (mixN old nx i))) (results_cell_row rfl _ _ (w.heap.size + 2) _ (sv (mixN old nx i)) (0, 0) _ rfl (HI.out.res.row HML.out).1 Tryd.underlying28 rfl (sv_info _ HML.out)) rfl ⟨rfl, below_row HI.out.below (by omega) _⟩
      · clear hml
        go_wp2_with (first
          | (refine wpl_load_sec (by rfl) _ rfl (w.heap.size + 3) rfl (mixN old nx i) HI.out.out ?_)
          | (refine wpList_store_row rfl 28 _ _ rfl (w.heap.size + 2) (sv (mixN old nx i)) rfl rfl _ (sv z64) HI.out.res.1 (sv_info _ HML.out) (by rw [sv_size, sv_size, HML.out, z64_length]) (sv_one _) ?_))
        refine bodyPost_ret_by (v := .agg (sv (mixN old nx i))) (results_cell_row rfl _ _ (w.heap.size + 2) _ (sv (mixN old nx i)) (0, 0) _ rfl (HI.out.res.row HML.out).1 Tryd.underlying28 rfl (sv_info _ HML.out)) rfl ⟨rfl, below_row HI.out.below (by omega) _⟩
end Go.Proofs.YtepaghohojomeaaDoor
