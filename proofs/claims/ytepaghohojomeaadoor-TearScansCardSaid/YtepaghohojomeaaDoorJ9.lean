/-
  TEXTS JOINED: FragGet, Clone, FragTold, PlanRow, PlanRowB, StampRef, FragSame. Each one's own words stand at its head.
-/
import Derived.Test.YtepaghohojomeaaDoorJ8
import Derived.Test.YtepaghohojomeaaDoorJ4
import Derived.Test.YtepaghohojomeaaDoorJ1
import Derived.Lib.SliceRun
import Derived.Test.YtepaghohojomeaaDoorJ0
import Derived.Test.YtepaghohojomeaaDoorJ6
import Derived.Test.YtepaghohojomeaaDoorJ5
import Derived.Test.YtepaghohojomeaaDoorJ3
/-
  WHAT THE PROGRAM'S OWN get OF LAYER 13 (frag) ANSWERS. The head must lie in its block.
-/
namespace Go.Proofs.YtepaghohojomeaaDoor
open Go.RowKit
theorem hget_any (b f n t : Nat) (ht : f + n = t) (h1 : t ≤ 11) (h0 : 0 < n) (h8 : n ≤ 8) {w : World} {zs : List Int} (hh : HD w b zs) (hb : isB zs) {x : Int} (hx : num zs f n = x) :
    Calls Tryd.prog 84 #[.pointer (some ⟨b, 0, none⟩), .int .i64 f, .int .i64 t] w fun e w' => e = .returned (.int .u64 x) ∧ w = w' := by
  have HC := Lib.hid (hcut_any b f n t ht h1 h0)
  have HG : Hid (Calls Tryd.prog 96 #[.slice (some ⟨b, f, none⟩) n n] w fun e w' => e = .returned (.int .u64 x) ∧ w = w') := Lib.hid (by
    have hr := hh.ri f n (by omega)
    obtain ⟨b2, of2, e1, hcell⟩ := hr.at_ h0
    obtain ⟨rfl, rfl⟩ : b = b2 ∧ f = of2 := by simpa using e1
    have := get_some b f n n ((zs.drop f).take n) w (bytes_of_mem ((hb.drop f).take n)) h0 (by omega) hcell
    rw [Nat.min_eq_left h8, getI_take _ _ _ (Nat.le_refl _), show getI (zs.drop f) n = x from hx] at this
    exact this)
  clear ht h1 h0 h8 hh hb hx
  go_enter Tryd.func84, Tryd.ntmps84
  go_wp2_with (first
    | (go_at_call 97; (with_reducible refine (HC.out _).mono ?_); rintro e w' ⟨rfl, rfl⟩)
    | (go_at_call 96; (with_reducible refine (HG.out).mono ?_); rintro e w' ⟨rfl, rfl⟩))
  go_ret
  exact ⟨rfl, rfl⟩
end Go.Proofs.YtepaghohojomeaaDoor
/-
  WHAT bytes.Clone ANSWERS. Bytes must lie where the slice says; a bound on their number.
-/
namespace Go.Proofs.YtepaghohojomeaaDoor
open Go.RowKit
set_option maxRecDepth 8000 in
theorem clone_any (v : Value) (len : Nat) (zs : List Int) (w : World) (hri : RI .u8 w v len zs) (hlen : (len : Int) ≤ 200000000000000) :
    Calls Tryd.prog 83 #[v] w fun e w' => ∃ v', e = .returned v' ∧ w'.ownsRow w.heap.size 5 1 v' len (il .u8 zs) ∧ Below w.heap.size w w' := by
  have HR := Lib.hid hri
  obtain ⟨a, cap, rfl, hl, hlc, _, hnil, _⟩ := hri
  cases a with
  | none =>
    obtain rfl : cap = 0 := hnil rfl
    obtain rfl : len = 0 := by omega
    obtain rfl : zs = [] := List.length_eq_zero_iff.1 hl
    have he : (binOp .eql 43 (.slice none 0 0) (.slice none 0 0)).run Tryd.prog w = .ok (.bool true) w := Lib.run_eql_slice_nil w _ _ none 0 0 0 0 Tryd.underlying43
    clear hl hlc hnil
    go_enter Tryd.func83, Tryd.ntmps83
    go_wp2
    go_ret
    exact ⟨_, rfl, World.ownsRow_nil _ _ _ _, Below.refl _ _⟩
  | some x =>
    have he : (binOp .eql 43 (.slice (some x) len cap) (.slice none 0 0)).run Tryd.prog w = .ok (.bool false) w := Lib.run_eql_slice_nil w _ _ (some x) len cap 0 0 Tryd.underlying43
    clear hl hnil
    go_enter Tryd.func83, Tryd.ntmps83
    go_wp2_with (first
      | (at_builtin; go_loud (refine wpl_appn rfl (.tmp 5) (.tmp 6) 43 rfl 5 .u8 1 Tryd.underlying43 Tryd.info_u8 w.heap.size _ 0 [] rfl (own_empty rfl (by omega)) _ len zs rfl (HR.out.keep ((Below.refl _ _).alloc (Nat.le_refl _) _)) (by omega) (by omega) w.heap.size w ((Below.refl _ _).alloc (Nat.le_refl _) _) (Nat.le_refl _) (by simp) ?_); intro v1 w4 HO1 HB1))
    go_ret
    have h5 := HO1.out
    rw [Nat.zero_add, List.nil_append] at h5
    exact ⟨_, rfl, h5, HB1.out⟩
end Go.Proofs.YtepaghohojomeaaDoor
/-
  WHAT A Decode OF LAYER 13 (frag) LEAVES: the fragment that bytes begin with, how many they are, or why there is none. No condition.
-/
namespace Go.Proofs.YtepaghohojomeaaDoor
open Go.RowKit
def DecF (zs : List Int) (ep : Int) (w : World) (r : Ending) (w' : World) : Prop :=
  ∃ a n c, r = .returned (.tuple #[.agg (fA (fragD zs ep).1.kind (fragD zs ep).1.epoch (.slice a n c)), .int .i64 ((fragD zs ep).2.1 : Nat), .int .i64 (fragD zs ep).2.2]) ∧
    w'.ownsRow w.heap.size 5 1 (.slice a n c) n (il .u8 (fragD zs ep).1.data) ∧ Below w.heap.size w w'
theorem decf_none {zs : List Int} {ep x : Int} {w w' : World} (h : fragD zs ep = (noF, 0, x)) (hb : Below w.heap.size w w') : DecF zs ep w (.returned (.tuple #[.agg (fA 0 0 (.slice none 0 0)), .int .i64 0, .int .i64 x])) w' := by
  refine ⟨none, 0, 0, ?_, ?_, hb⟩
  · rw [h]; rfl
  · rw [h]; exact World.ownsRow_nil _ _ _ _
theorem decf_some {zs : List Int} {ep : Int} {k e : Int} {d : List Int} {s : Nat} {a : Option Addr} {n c : Nat} {w w' : World} (h : fragD zs ep = (⟨k, e, d⟩, s, 0)) (ho : w'.ownsRow w.heap.size 5 1 (.slice a n c) n (il .u8 d)) (hb : Below w.heap.size w w') :
    DecF zs ep w (.returned (.tuple #[.agg (fA k e (.slice a n c)), .int .i64 (s : Nat), .int .i64 0])) w' := by
  refine ⟨a, n, c, ?_, ?_, hb⟩
  · rw [h]
  · rw [h]; exact ho
/-- the numbers of a head -/
theorem head_nums (zs : List Int) (hb : isB zs) (h1 : 11 ≤ zs.length) : ∃ (h : List Int) (k e : Int) (n s : Nat), zs.take 11 = h ∧ h.length = 11 ∧ isB h ∧ num zs 6 1 = k ∧ num zs 7 4 = e ∧ num zs 4 2 = n ∧ num zs 0 4 = s ∧
    num h 6 1 = k ∧ num h 7 4 = e ∧ num h 4 2 = n ∧ num h 0 4 = s ∧ 0 ≤ k ∧ k ≤ 255 ∧ 0 ≤ e ∧ e ≤ 4294967295 ∧ n ≤ 65535 ∧ s ≤ 4294967295 := by
  have b1 := num_bd hb 6 1
  have b2 := num_bd hb 7 4
  have b3 := num_bd hb 4 2
  have b4 := num_bd hb 0 4
  have e3 : (2 : Int) ^ (8 * 2) = 65536 := by decide
  have e4 : (2 : Int) ^ (8 * 4) = 4294967296 := by decide
  have e1 : (2 : Int) ^ (8 * 1) = 256 := by decide
  rw [e1] at b1
  rw [e4] at b2 b4
  rw [e3] at b3
  refine ⟨_, _, _, (num zs 4 2).toNat, (num zs 0 4).toNat, rfl, by simp; omega, hb.take 11, rfl, rfl, by omega, by omega, num_take _ _ _ _ (by omega), num_take _ _ _ _ (by omega), ?_, ?_, b1.1, by omega, b2.1, by omega, by omega, by omega⟩
  · rw [num_take _ _ _ _ (by omega)]; omega
  · rw [num_take _ _ _ _ (by omega)]; omega
theorem tail_split (zs : List Int) (n : Nat) (h : 11 ≤ zs.length) : (zs.take (11 + n)).drop 4 = (zs.take 11).drop 4 ++ (zs.drop 11).take n := by
  rw [List.take_add, List.drop_append_of_le_length (by simp; omega)]
/-- which of the cases it is -/
theorem fragOk_no {k : Int} {n : Nat} (h : ¬ (1 ≤ k ∧ k ≤ 4 ∧ n ≤ 197)) : fragOk k n = false := decide_eq_false h
/-- are the first k all 0? -/
def az (zs : List Int) (k : Nat) : Bool := (zs.take k).all (· == 0)
theorem az_zero (zs : List Int) : az zs 0 = true := rfl
theorem az_succ (zs : List Int) (k : Nat) (h : k < zs.length) : az zs (k + 1) = (az zs k && zs.getD k 0 == 0) := by
  unfold az
  rw [List.take_succ_eq_append_getElem h, List.all_append]
  simp [List.getD, h]
theorem az_head (zs : List Int) (k : Nat) (h : k ≤ zs.length) : az zs k = true ↔ zs.take k = List.replicate k 0 := by
  unfold az
  rw [List.all_eq_true]
  constructor
  · intro hq
    refine List.eq_replicate_iff.2 ⟨by simp; omega, fun b hb => by simpa using hq b hb⟩
  · intro hq x hx
    rw [hq] at hx
    simpa using List.eq_of_mem_replicate hx
/-- the cases in which bytes whose head is not empty are a fragment's, or are none's -/
theorem fragD_cases (zs : List Int) (ep k e : Int) (n sz : Nat) (hb : isB zs) (h1 : ¬ zs.length < 11) (h2 : ¬ zs.take 11 = List.replicate 11 0) (hk : num zs 6 1 = k) (he : num zs 7 4 = e) (hn : num zs 4 2 = n) (hsz : 11 + n = sz) :
    (197 < (n : Int) ∧ fragD zs ep = (noF, 0, 2)) ∨ ((n : Int) ≤ 197 ∧ k < 1 ∧ fragD zs ep = (noF, 0, 2)) ∨ ((n : Int) ≤ 197 ∧ 1 ≤ k ∧ 4 < k ∧ fragD zs ep = (noF, 0, 2)) ∨
    ((n : Int) ≤ 197 ∧ 1 ≤ k ∧ k ≤ 4 ∧ e ≠ ep ∧ fragD zs ep = (noF, 0, 2)) ∨ ((n : Int) ≤ 197 ∧ 1 ≤ k ∧ k ≤ 4 ∧ e = ep ∧ zs.length < sz ∧ fragD zs ep = (noF, 0, 1)) ∨
    ((n : Int) ≤ 197 ∧ 1 ≤ k ∧ k ≤ 4 ∧ e = ep ∧ sz ≤ zs.length ∧ fragB k e ((zs.drop 11).take n) ≠ zs.take sz ∧ fragD zs ep = (noF, 0, 3)) ∨
    ((n : Int) ≤ 197 ∧ 1 ≤ k ∧ k ≤ 4 ∧ e = ep ∧ sz ≤ zs.length ∧ fragB k e ((zs.drop 11).take n) = zs.take sz ∧ fragD zs ep = (⟨k, e, (zs.drop 11).take n⟩, sz, 0)) := by
  have hnn : (num zs 4 2).toNat = n := by omega
  by_cases c1 : 197 < (n : Int)
  · exact .inl ⟨c1, fragD_form h1 h2 (.inl (by rw [hk, hnn]; exact fragOk_no (by omega)))⟩
  by_cases c2 : k < 1
  · exact .inr (.inl ⟨by omega, c2, fragD_form h1 h2 (.inl (by rw [hk, hnn]; exact fragOk_no (by omega)))⟩)
  by_cases c3 : 4 < k
  · exact .inr (.inr (.inl ⟨by omega, by omega, c3, fragD_form h1 h2 (.inl (by rw [hk, hnn]; exact fragOk_no (by omega)))⟩))
  have hok : fragOk (num zs 6 1) (num zs 4 2).toNat = true := by rw [hk, hnn]; exact decide_eq_true ⟨by omega, by omega, by omega⟩
  by_cases c4 : e = ep
  · subst c4
    by_cases c5 : zs.length < sz
    · exact .inr (.inr (.inr (.inr (.inl ⟨by omega, by omega, by omega, rfl, c5, fragD_cut h1 h2 hok he (by omega)⟩))))
    have ht := tail_back zs hb (by rw [hnn]; omega)
    have hlen : ((zs.drop 11).take n).length = n := by simp; omega
    have hT : (zs.take sz).drop 4 = fragT k e ((zs.drop 11).take n) := by rw [hk, he, hnn, hsz] at ht; exact ht.symm
    have h04 := num_put hb 0 4 (by omega)
    rw [List.drop_zero] at h04
    have h4 : zs.take 4 = (zs.take sz).take 4 := by rw [List.take_take, Nat.min_eq_left (by omega)]
    by_cases c6 : num zs 0 4 = maskS (ofS ((zs.take (11 + (num zs 4 2).toNat)).drop 4))
    · have hd := fragD_ok h1 h2 hok he (by omega) c6
      rw [hk, he, hnn, hsz] at hd
      refine .inr (.inr (.inr (.inr (.inr (.inr ⟨by omega, by omega, by omega, rfl, by omega, ?_, hd⟩)))))
      rw [hnn, hsz, hT] at c6
      unfold fragB fragS
      rw [← c6, h04, ← hT, h4, List.take_append_drop]
    · have hd := fragD_sum h1 h2 hok he (by omega) c6
      refine .inr (.inr (.inr (.inr (.inr (.inl ⟨by omega, by omega, by omega, rfl, by omega, ?_, hd⟩)))))
      intro hq
      apply c6
      rw [hnn, hsz, hT]
      have hq2 := congrArg (fun l => num l 0 4) hq
      have e4 : (2 : Int) ^ (8 * 4) = 4294967296 := by decide
      have heb := num_bd hb 7 4
      rw [e4, he] at heb
      have hf := (frag_nums k e ((zs.drop 11).take n) [] (by omega) heb).1
      rw [List.append_nil] at hf
      simp only [hf, num_take zs sz 0 4 (by omega)] at hq2
      exact hq2.symm
  · exact .inr (.inr (.inr (.inl ⟨by omega, by omega, by omega, c4, fragD_form h1 h2 (.inr (by rw [he]; exact c4))⟩)))
end Go.Proofs.YtepaghohojomeaaDoor
/-
  BLOCKS OF BYTES AND OF BOOLS THAT A CALL MADE AND FILLS (YB, KB): copies into them, stores; copies of sectors into a row of sectors (RW). Nothing here speaks of the program's functions. No condition.
-/
namespace Go.Proofs.YtepaghohojomeaaDoor
open Go.RowKit
/-- a block of bytes; one of bools -/
def YB (w : World) (g : Nat) (zs : List Int) : Prop := w.heap[g]? = some (.cells (il .u8 zs).toArray 5 (0, 0))
theorem YB.keep {w w' : World} {g : Nat} {zs : List Int} (h : YB w g zs) (hb : Below w.heap.size w w') : YB w' g zs := by
  unfold YB at *; rw [hb.block g (Array.getElem?_eq_some_iff.1 h).1]; exact h
theorem YB.over {w w' : World} {g g2 : Nat} {zs : List Int} (h : YB w g zs) (hg : w.grownBy w' (some g2)) (hne : g ≠ g2) : YB w' g zs := by
  unfold YB at *; rw [hg.block g (Array.getElem?_eq_some_iff.1 h).1 (fun e => hne (Option.some.inj e))]; exact h
theorem YB.ri {w : World} {g n : Nat} {zs : List Int} (h : YB w g zs) (hz : zs.length = n) (hn : n ≤ 1000000) : RI .u8 w (.slice (some ⟨g, 0, none⟩) n n) n zs := by
  refine ⟨_, n, rfl, hz, Nat.le_refl _, by omega, fun h => by simp at h, fun _ => ⟨g, 0, rfl, fun j hj => ?_⟩⟩
  rw [Nat.zero_add, cell_of_row w g j _ _ _ h]
  simpa using il_get .u8 zs j (by omega)
theorem below_grown {w0 w w' : World} {B g : Nat} (h : Below B w0 w) (hg : w.grownBy w' (some g)) (hB : B ≤ g) (h0 : B ≤ w.heap.size) : Below B w0 w' :=
  h.grown hg h0 (fun q hq => by obtain rfl := Option.some.inj hq; exact hB)
/-- made -/
theorem make_bytes_run (k : Nat) (hk : (k : Int) ≤ 1000000000) (w : World) :
    (Instr.makeSlice 43 (.int .i64 (k : Int)) (.int .i64 (k : Int))).run Tryd.prog w = .ok (.slice (some ⟨w.heap.size, 0, none⟩) k k) (w.alloc (.cells (il .u8 (List.replicate k 0)).toArray 5)) := by
  obtain ⟨i, hi, hz0, hz1, hz2⟩ := info_parts Tryd.info_u8
  have h := run_make (P := Tryd.prog) w 43 5 i _ Tryd.underlying43 hi hz0 .i64 .i64 k k (by omega) (by omega) (by rw [hz2]; omega) (by omega)
  simp only [Int.toNat_natCast, hz1, Nat.mul_one] at h
  rw [h]
  have : madeCells (Value.int .u8 0).cells k = (il .u8 (List.replicate k 0)).toArray := by
    rw [show (Value.int .u8 0).cells = #[.int .u8 0] from rfl, ← Array.toList_inj, toList_madeCells_one]
    simp [il]
  rw [this]
theorem make_row_run (k : Nat) (hk : (k : Int) ≤ 1000000000) (w : World) :
    (Instr.makeSlice 24 (.int .i64 (k : Int)) (.int .i64 (k : Int))).run Tryd.prog w = .ok (.slice (some ⟨w.heap.size, 0, none⟩) k k) (w.alloc (.cells (il .u8 (List.replicate (k * 64) 0)).toArray 28)) := by
  obtain ⟨i, hi, hz0, hz1, hz2⟩ := info_parts sec_parts
  have h := run_make (P := Tryd.prog) w 24 28 i _ Tryd.underlying24 hi hz0 .i64 .i64 k k (by omega) (by omega) (by rw [hz2]; omega) (by omega)
  simp only [Int.toNat_natCast, hz1] at h
  rw [h]
  have : madeCells (Value.agg (sv z64)).cells (k * 64) = (il .u8 (List.replicate (k * 64) 0)).toArray := by
    rw [← Array.toList_inj, made_secs]
  rw [this]
theorem setRow_at {w : World} {g : Nat} {C : Array Value} {t : TypeId} (h : w.heap[g]? = some (.cells C t (0, 0))) (C' : Array Value) : (w.setRow g C').heap[g]? = some (.cells C' t (0, 0)) := setRow_heap w g C C' _ _ h
theorem grown_row (w : World) (g : Nat) (cs : Array Value) : w.grownBy (w.setRow g cs) (some g) :=
  ⟨rfl, rfl, rfl, by simp, fun i _ hne => setRow_other w g i cs (fun e => hne (by rw [e]))⟩
/-- a copy of bytes into the block -/
theorem wpl_copy_yb {ops : Array Oper} {rest : List Oper} {o : Oper} {a : Act} {w : World} {Q : Exit → Act → World → Prop} (hgd : o.guard = none) (d s : Operand)
    (ho : o.op = .call { callee := .builtin .copy, args := #[d, s], argTypes := #[43, 43] }) (g off dLen dCap : Nat) (cur : List Int) (hblk : YB w g cur)
    (hd : a.eval d = .slice (some ⟨g, off, none⟩) dLen dCap) (v : Value) (n : Nat) (zs : List Int) (hs : a.eval s = v) (hri : RI .u8 w v n zs) (hnd : n ≤ dLen) (hfit : off + dLen ≤ cur.length)
    (h : ∀ w', Hid (YB w' g (splice cur off zs)) → Hid (w.grownBy w' (some g)) → wpList Tryd.prog ops Q rest (a.put o.dst (goInt (n : Int))) w') : wpList Tryd.prog ops Q (o :: rest) a w := by
  obtain ⟨sp, sCap, rfl, hl, _, _, _, hc⟩ := hri
  have hcl : (il .u8 zs).length = n := by rw [il_length, hl]
  have hmin : Nat.min n dLen = n := Nat.min_eq_left hnd
  by_cases h0 : n = 0
  · subst h0
    obtain rfl : zs = [] := List.eq_nil_of_length_eq_zero hl
    refine wpList_copy_nothing hgd d s 43 43 ho 5 Tryd.underlying43 u8_size1 (some ⟨g, off, none⟩) sp dLen dCap 0 sCap hd hs hmin ?_
    exact h w (Lib.hid (by simpa [splice] using hblk)) (grown_refl _ _)
  · obtain ⟨b, of2, rfl, hcell⟩ := hc (by omega)
    refine wpList_copy_own hgd d s 43 43 ho 5 Tryd.underlying43 u8_size1 g off dLen dCap ⟨b, of2, none⟩ n sCap hd hs (il .u8 cur).toArray 5 hblk (il .u8 zs) (by rw [hcl, hmin]) ?_ (by rw [hcl]; simp [il_length]; omega) (il_one _ _) ?_
    · intro j u hj
      have hjl : j < zs.length := by have := (List.getElem?_eq_some_iff.1 hj).1; rwa [il_length] at this
      rw [il_get _ _ _ hjl] at hj
      rw [Addr.add_mid, hcell j (by omega)]; exact hj
    · rw [hcl]
      refine h _ (Lib.hid ?_) (grown_row _ _ _)
      unfold YB
      rw [← il_splice]
      have := setRow_at hblk ((il .u8 cur).toArray.toList.take off ++ (il .u8 zs ++ (il .u8 cur).toArray.toList.drop (off + n))).toArray
      simpa [splice, hcl] using this
/-- a copy of sectors into a row of sectors -/
theorem wpl_copy_row {ops : Array Oper} {rest : List Oper} {o : Oper} {a : Act} {w : World} {Q : Exit → Act → World → Prop} (hgd : o.guard = none) (d s : Operand)
    (ho : o.op = .call { callee := .builtin .copy, args := #[d, s], argTypes := #[24, 24] }) (g dLen dCap : Nat) (cur : List Int) (hblk : RW w g cur) (hcur : cur.length = dLen * 64)
    (hd : a.eval d = .slice (some ⟨g, 0, none⟩) dLen dCap) (v : Value) (n : Nat) (fs : List Int) (hs : a.eval s = v) (hfs : FS w v n fs) (hnd : n ≤ dLen)
    (h : ∀ w', Hid (RW w' g (splice cur 0 fs)) → Hid (w.grownBy w' (some g)) → wpList Tryd.prog ops Q rest (a.put o.dst (goInt (n : Int))) w') : wpList Tryd.prog ops Q (o :: rest) a w := by
  obtain ⟨sp, sCap, rfl, hl, _, _, _, hc⟩ := hfs
  have hcl : (il .u8 fs).length = n * 64 := by rw [il_length, hl]
  have hmin : Nat.min n dLen = n := Nat.min_eq_left hnd
  have hsz : (Tryd.prog.info? 28).map (·.size) = some 64 := by kernel_rfl
  obtain ⟨i, hi, hi64⟩ := Option.map_eq_some_iff.1 hsz
  refine wpList_plain hgd fun K hK => ?_
  by_cases h0 : n = 0
  · subst h0
    obtain rfl : fs = [] := List.eq_nil_of_length_eq_zero (by simpa using hl)
    have hrun : (Builtin.copy_ #[24, 24] o.type #[.slice (some ⟨g, 0, none⟩) dLen dCap, .slice sp 0 sCap]).run Tryd.prog w = .ok (goInt 0) w := by
      cases sp <;> simp [Builtin.copy_, run_underlying Tryd.underlying24, Builtin.lenOf, Builtin.firstCells, loadCells, loadCellsFrom, sizeOf, typeInfo, hi, storeCells]
    unfold Oper.wp
    simp [execOp, ho, resolve, invoke, builtin, hd, hs, hrun, Result.andThen]
    exact hK _ _ (h w (Lib.hid (by simpa [splice] using hblk)) (grown_refl _ _))
  · obtain ⟨b, of2, rfl, hcell⟩ := hc (by omega)
    have hsrc : ∀ j u, (il .u8 fs)[j]? = some u → w.cell? ((⟨b, of2, none⟩ : Addr).add j) = some u := by
      intro j u hj
      have hjl : j < fs.length := by have := (List.getElem?_eq_some_iff.1 hj).1; rwa [il_length] at this
      rw [il_get _ _ _ hjl] at hj
      rw [Addr.add_mid, hcell j (by omega)]; exact hj
    have hle : n * 64 ≤ dLen * 64 := Nat.mul_le_mul_right _ hnd
    have hld := run_loadCells_list (P := Tryd.prog) w ⟨b, of2, none⟩ (il .u8 fs) hsrc
    have hst := run_storeCells_at (P := Tryd.prog) g 0 28 (il .u8 fs) 0 (il .u8 cur).toArray w hblk (by rw [hcl]; simp [il_length, hcur]; omega) (il_one _ _)
    rw [hcl] at hld
    have hrun : (Builtin.copy_ #[24, 24] o.type #[.slice (some ⟨g, 0, none⟩) dLen dCap, .slice (some ⟨b, of2, none⟩) n sCap]).run Tryd.prog w = .ok (goInt (n : Int)) (w.setRow g (splice (il .u8 cur) 0 (il .u8 fs)).toArray) := by
      simp [Builtin.copy_, run_underlying Tryd.underlying24, Builtin.lenOf, Builtin.firstCells, sizeOf, typeInfo, hi, hi64, hmin, hld, hst, splice]
    unfold Oper.wp
    simp [execOp, ho, resolve, invoke, builtin, hd, hs, hrun, Result.andThen]
    refine hK _ _ (h _ ?_ (grown_row _ _ _))
    unfold RW
    rw [← il_splice]
    exact setRow_at hblk _
end Go.Proofs.YtepaghohojomeaaDoor
/-
  BLOCKS OF BOOLS THAT A CALL MADE AND FILLED (KB). Nothing here speaks of the program's functions. No condition.
-/
namespace Go.Proofs.YtepaghohojomeaaDoor
open Go.RowKit
def kl (bs : List Bool) : List Value := bs.map Value.bool
def KB (w : World) (g : Nat) (bs : List Bool) : Prop := w.heap[g]? = some (.cells (kl bs).toArray 4 (0, 0))
theorem kl_length (bs : List Bool) : (kl bs).length = bs.length := by simp [kl]
theorem KB.keep {w w' : World} {g : Nat} {bs : List Bool} (h : KB w g bs) (hb : Below w.heap.size w w') : KB w' g bs := by
  unfold KB at *; rw [hb.block g (Array.getElem?_eq_some_iff.1 h).1]; exact h
theorem KB.over {w w' : World} {g g2 : Nat} {bs : List Bool} (h : KB w g bs) (hg : w.grownBy w' (some g2)) (hne : g ≠ g2) : KB w' g bs := by
  unfold KB at *; rw [hg.block g (Array.getElem?_eq_some_iff.1 h).1 (fun e => hne (Option.some.inj e))]; exact h
theorem yk_ne {w : World} {g g2 : Nat} {zs : List Int} {bs : List Bool} (h : YB w g zs) (k : KB w g2 bs) : g ≠ g2 := by
  intro e; subst e; unfold YB at h; unfold KB at k; rw [h] at k; simp at k
theorem KB.bs {w : World} {g n : Nat} {bs : List Bool} (h : KB w g bs) (hz : bs.length = n) (hn : n ≤ 1000000) : BS w (.slice (some ⟨g, 0, none⟩) n n) n bs := by
  refine ⟨_, n, rfl, by simpa using hz, Nat.le_refl _, by omega, fun h => by simp at h, fun _ => ⟨g, 0, rfl, fun j hj => ?_⟩⟩
  rw [Nat.zero_add, cell_of_row w g j _ _ _ h]
  simp [kl]
theorem kbool_parts : (Tryd.prog.info? 4).map (fun i => (i.zero, i.size, i.bytes)) = some (some (.bool false), 1, 1) := by kernel_rfl
theorem kbool_size : (Tryd.prog.info? 4).map (·.size) = some 1 := by kernel_rfl
theorem make_kbools_run (k : Nat) (hk : (k : Int) ≤ 1000000000) (w : World) :
    (Instr.makeSlice 60 (.int .i64 (k : Int)) (.int .i64 (k : Int))).run Tryd.prog w = .ok (.slice (some ⟨w.heap.size, 0, none⟩) k k) (w.alloc (.cells (kl (List.replicate k false)).toArray 4)) := by
  obtain ⟨i, hi, hz0, hz1, hz2⟩ := info_parts kbool_parts
  have h := run_make (P := Tryd.prog) w 60 4 i _ Tryd.underlying60 hi hz0 .i64 .i64 k k (by omega) (by omega) (by rw [hz2]; omega) (by omega)
  simp only [Int.toNat_natCast, hz1, Nat.mul_one] at h
  rw [h]
  have : madeCells (Value.bool false).cells k = (kl (List.replicate k false)).toArray := by
    rw [show (Value.bool false).cells = #[.bool false] from rfl, ← Array.toList_inj, toList_madeCells_one]
    simp [kl]
  rw [this]
/-- a bool is stored into the block -/
theorem wpl_put_kb {w : World} {ops : Array Oper} {rest : List Oper} {o : Oper} {a : Act} {Q : Exit → Act → World → Prop} (hgd : o.guard = none) (x y : Operand) (ho : o.op = .store 4 x y)
    (g i : Nat) (bs : List Bool) (b : Bool) (h : KB w g bs) (hi : i < bs.length) (hx : a.eval x = .pointer (some ⟨g, i, none⟩)) (hy : a.eval y = .bool b)
    (hK : ∀ w', Hid (KB w' g (bs.set i b)) → Hid (w.grownBy w' (some g)) → wpList Tryd.prog ops Q rest (a.put o.dst undef) w') : wpList Tryd.prog ops Q (o :: rest) a w := by
  refine wpList_plain hgd fun K hk => ?_
  have hc : w.cell? ⟨g, i, none⟩ = some (.bool (bs.getD i false)) := by
    rw [cell_of_row w g i _ _ _ h]; simp [kl, List.getD, hi]
  have hr : (storeVar 4 ⟨g, i, none⟩ (.bool b)).run Tryd.prog w = .ok () (w.setCells g i [.bool b]) := by
    have := run_storeCells_cells (P := Tryd.prog) g i [Value.bool b] 0 w (fun j hj => by simp at hj; subst hj; simp [hc]) (fun j hj => Joins.unfrozen_of_block h _) (fun u hu => by simp at hu; subst hu; rfl)
    obtain ⟨n, hn, hs⟩ := Option.map_eq_some_iff.1 kbool_size
    simp only [Nat.add_zero] at this
    simp [storeVar, sizeOf, typeInfo, hn, show (Value.bool b).cells = #[.bool b] from rfl, hs, this]
  unfold Oper.wp execOp
  simp only [ho, hx, hy, Instr.storeAt, Instr.sureAddr, Sem.run_bind, Sem.run_pure, Result.andThen_ok, hr]
  refine hk _ _ (hK _ ?_ (grown_setCells _ _ _ _))
  unfold KB
  have h1 := heap_setCells g 4 (0, 0) [Value.bool b] i w (kl bs) (by rw [kl_length]; simp; omega) h
  have h2 : splice (kl bs) i [Value.bool b] = kl (bs.set i b) := by
    refine List.ext_getElem? fun q => ?_
    rw [splice_get _ _ _ (by rw [kl_length]; simp; omega)]
    unfold kl
    rw [List.map_set]
    by_cases h3 : q < i
    · rw [if_pos h3, List.getElem?_set_ne (by omega)]
    · rw [if_neg h3]
      by_cases h4 : q = i
      · subst h4
        rw [if_pos (by simp), List.getElem?_set_self (by simpa using hi), Nat.sub_self]; rfl
      · rw [if_neg (by simp; omega), List.getElem?_set_ne (by omega)]
  rwa [h2] at h1
end Go.Proofs.YtepaghohojomeaaDoor
/-
  WHAT THE DOCUMENT'S ANSWERS OF LAYER 6 (stamp) ANSWER: the reference's Byte, Seal, Room, Open, Secs, Same. Bytes must lie where the slices say; sizes as the theorems say.
-/
namespace Go.Proofs.YtepaghohojomeaaDoor
open Go.RowKit
/-- the reference's Put, as a slice of bytes -/
theorem rput_ri (x : Int) (hx : U64 x) (n : Nat) (hn : n ≤ 8) (w : World) :
    Calls Tryd.prog 75 #[.int .u64 x, .int .i64 n] w fun e w' => ∃ v, e = .returned v ∧ RI .u8 w' v n (putL x n) ∧ Below w.heap.size w w' :=
  (rput_any x n n hx (by unfold I63; omega) (by unfold clampI; omega) w).mono fun _ _ ⟨v, he, ho, hb⟩ => ⟨v, he, RI.own ho, hb⟩
theorem u64_wrap (i : Int) : IntKind.u64.wrap i = i % 18446744073709551616 := by
  simp [IntKind.wrap, IntKind.signed, IntKind.bits]
set_option maxRecDepth 8000 in
set_option maxHeartbeats 400000 in
theorem byte_any (x i : Int) (hx : U64 x) (hi : I63 i) (v : Value) (len : Nat) (zs : List Int) (w : World) (hri : RI .u8 w v len zs) (j : Nat) (hj : j < 64) (z : Int) (hz : (sealed x i zs).getD j 0 = z) :
    Calls Tryd.prog 78 #[.int .u64 x, .int .i64 i, v, .int .i64 j] w fun e w' => e = .returned (.int .u8 z) ∧ Below w.heap.size w w' := by
  have HR := Lib.hid hri
  have hlr := hri.le
  have hzl := hri.length
  obtain ⟨a, cap, rfl, _⟩ := hri
  have hi' : -9223372036854775808 ≤ i ∧ i ≤ 9223372036854775807 := hi
  by_cases h8 : j < 8
  · have HG := Lib.hid (hz.symm.trans (sealed_get1 x i zs j h8))
    have h8' : (j : Int) < 8 := by omega
    clear hz
    go_enter Tryd.func78, Tryd.ntmps78
    go_wp2_with (first
      | (go_at_call 75; (refine (rput_ri x hx 8 (by omega) _).mono ?_); rintro e w1 ⟨v1, rfl, hr, hb⟩; obtain ⟨b, off, cp, rfl, hcp, hcp2, hcell⟩ := hr.open_ (by omega); have hc1 := hcell j (by omega); rw [← HG.out] at hc1; have HB := Lib.hid hb; clear hb hr hcell))
    go_ret
    exact ⟨rfl, HB.out⟩
  by_cases h12 : j < 12
  · have HG := Lib.hid (hz.symm.trans (sealed_get2 x i zs j (by omega) h12))
    have h8' : ¬ (j : Int) < 8 := by omega
    have h12' : (j : Int) < 12 := by omega
    have hjj : (j : Int) - 8 = ((j - 8 : Nat) : Int) := by omega
    have hj4 : ((j - 8 : Nat) : Int) < 4 := by omega
    obtain ⟨y, hy⟩ : ∃ y, IntKind.u64.wrap i = y := ⟨_, rfl⟩
    have hyu : U64 y := by rw [u64_wrap] at hy; unfold U64; omega
    have HY := Lib.hid (show putL y 4 = putL i 4 from by rw [← hy, u64_wrap]; exact putL_wrap i)
    clear hz
    go_enter Tryd.func78, Tryd.ntmps78
    go_wp2_with (first
      | (go_at_call 75; go_loud (refine (rput_ri y hyu 4 (by omega) _).mono ?_); rintro e w1 ⟨v1, rfl, hr, hb⟩; obtain ⟨b, off, cp, rfl, hcp, hcp2, hcell⟩ := hr.open_ (by omega); have hc1 := hcell (j - 8) (by omega); rw [HY.out, ← HG.out] at hc1; have HB := Lib.hid hb; clear hb hr hcell))
    go_ret
    exact ⟨rfl, HB.out⟩
  · have HG := Lib.hid (hz.symm.trans (sealed_get3 x i zs j (by omega) hj))
    have h8' : ¬ (j : Int) < 8 := by omega
    have h12' : ¬ (j : Int) < 12 := by omega
    have hjj : (j : Int) - 12 = ((j - 12 : Nat) : Int) := by omega
    by_cases hlt : j - 12 < len
    · obtain ⟨b, off, cp, e, hcp, hcp2, hcell⟩ := HR.out.open_ (by omega)
      simp only [Value.slice.injEq, true_and] at e
      obtain ⟨rfl, rfl⟩ := e
      have hc1 := hcell (j - 12) hlt
      rw [← HG.out] at hc1
      have hlt' : ((j - 12 : Nat) : Int) < (len : Int) := by omega
      clear hcell hz
      go_enter Tryd.func78, Tryd.ntmps78
      go_wp2_with fail
      go_ret
      exact ⟨rfl, Below.refl _ _⟩
    · have HZ := Lib.hid (show zs.getD (j - 12) 0 = 0 from by simp [List.getD, List.getElem?_eq_none (l := zs) (i := j - 12) (by omega)])
      have hlt' : ¬ ((j - 12 : Nat) : Int) < (len : Int) := by omega
      clear hz
      go_enter Tryd.func78, Tryd.ntmps78
      go_wp2_with fail
      go_ret
      exact ⟨ret_int (by rw [HG.out, HZ.out]), Below.refl _ _⟩
/-- where the reference's Seal stands: room for the result, and the sector that grows -/
structure TS (W : World) (l : List Int) (k : Nat) (w : World) : Prop where
  below : Below W.heap.size W w
  old : Blk w W.heap.size z64
  new : Blk w (W.heap.size + 1) (part l k)
theorem TS.keep {W w w' : World} {l : List Int} {k : Nat} (h : TS W l k w) (hb : Below w.heap.size w w') : TS W l k w' := ⟨chain h.below hb, h.old.keep hb, h.new.keep hb⟩
theorem TS.start (W : World) (l : List Int) : TS W l 0 ((W.alloc (.cells (sv z64) 28)).alloc (.cells (sv z64) 28)) := by
  have h0 := below_alloc W (.cells (sv z64) 28)
  have s0 := alloc_size W (.cells (sv z64) 28)
  have b0 := Blk.new W z64 z64_length
  generalize W.alloc (.cells (sv z64) 28) = w0 at *
  have h1 := below_alloc w0 (.cells (sv z64) 28)
  have b1 := Blk.new w0 z64 z64_length
  refine ⟨chain h0 h1, b0.keep h1, ?_⟩
  rw [s0] at b1
  rw [part_zero]; exact b1
theorem TS.stored {W w : World} {l : List Int} {k : Nat} (h : TS W l k w) (z : Int) (hz : l.getD k 0 = z) : TS W l (k + 1) (w.setCell ⟨W.heap.size + 1, k, none⟩ (.int .u8 z)) := by
  subst hz
  have hn := h.new.stored k (l.getD k 0)
  rw [part_set] at hn
  exact ⟨h.below.setCell (by show W.heap.size ≤ W.heap.size + 1; omega) _, h.old.apart (by omega) _ _, hn⟩
theorem TS.row0 {W w : World} {l : List Int} (h : TS W l 0 w) : TS W l 0 (w.setRow (W.heap.size + 1) (sv z64)) :=
  ⟨below_row h.below (by omega) _, h.old.row_apart (by omega) _, by rw [part_zero]; exact h.new.row z64_length⟩
theorem TS.last {W w : World} {l : List Int} (h : TS W l 64 w) (hl : l.length = 64) : Blk w (W.heap.size + 1) l := by
  have := h.new; rwa [part_all l hl] at this
set_option maxRecDepth 8000 in
set_option maxHeartbeats 1000000 in
theorem rseal_any (x i : Int) (hx : U64 x) (hi : I63 i) (v : Value) (len : Nat) (zs : List Int) (w : World) (hri : RI .u8 w v len zs) :
    Calls Tryd.prog 59 #[.int .u64 x, .int .i64 i, v] w fun e w' => e = .returned (.agg (sv (sealed x i zs))) ∧ Below w.heap.size w w' := by
  have HR := Lib.hid hri
  have HX := Lib.hid hx
  have HI := Lib.hid hi
  obtain ⟨l, hl⟩ : ∃ l, sealed x i zs = l := ⟨_, rfl⟩
  have HL := Lib.hid (show l.length = 64 from by rw [← hl]; exact sealed_length x i zs)
  have HE := Lib.hid hl
  rw [hl]
  have HS0 := Lib.hid (TS.start w l)
  have HZ := Lib.hid z64_cells
  clear hri hx hi hl
  go_enter Tryd.func59, Tryd.ntmps59
  go_wp2_with (first
    | (rw [← HZ.out]; refine wpList_store_row rfl 28 _ _ rfl (w.heap.size + 1) (sv z64) rfl rfl _ (sv z64) HS0.out.new.1 (sv_info _ z64_length) rfl (sv_one _) ?_))
  have HS1 := Lib.hid (TS.row0 HS0.out)
  go_loopw [8] (fun iv wr => ∃ k : Nat, iv = .int .i64 k ∧ k ≤ 64 ∧ Hid (TS w l k wr)) (fun iv _ => 64 - (intOf iv).toNat)
  case atStart => exact ⟨0, rfl, by omega, HS1⟩
  case round =>
    obtain ⟨k, rfl, hk, HS⟩ := hrel
    by_cases hlt : (k : Int) < 64
    · have hk2 : k < 64 := by omega
      obtain ⟨z, hz⟩ : ∃ z, l.getD k 0 = z := ⟨_, rfl⟩
      have HK := Lib.hid hz
      clear hz
      go_wp2_with (first
        | (go_at_call 78; (refine (byte_any x i HX.out HI.out v len zs _ (HR.out.keep HS.out.below) k hk2 z (by rw [HE.out]; exact HK.out)).mono ?_); rintro e w' ⟨rfl, hb⟩; have HS2 := Lib.hid (HS.out.keep hb); have hcell := HS2.out.new.cell k hk2; have hfr := HS2.out.new.frozen k; clear hb))
      go_roundw
      case rel => exact ⟨k + 1, by go_num, by omega, Lib.hid (HS2.out.stored z HK.out)⟩
      case measure => simp [intOf]; omega
    · have hk2 : k = 64 := by omega
      subst hk2
      have HS3 := Lib.hid (HS.out.last HL.out)
      go_wp2_with (first
        | (refine wpList_load_row rfl 28 _ rfl (w.heap.size + 1) rfl _ (sv l) (0, 0) _ HS3.out.1 Tryd.underlying28 rfl (sv_info _ HL.out) ?_)
        | (refine wpList_store_row rfl 28 _ _ rfl w.heap.size (sv l) rfl rfl _ (sv z64) HS.out.old.1 (sv_info _ HL.out) (by rw [sv_size, sv_size, HL.out, z64_length]) (sv_one _) ?_))
      refine bodyPost_ret_by (v := .agg (sv l)) (results_cell_row rfl _ _ w.heap.size _ (sv l) (0, 0) _ rfl (HS.out.old.row HL.out).1 Tryd.underlying28 rfl (sv_info _ HL.out)) rfl ⟨rfl, below_row HS.out.below (Nat.le_refl _) _⟩
end Go.Proofs.YtepaghohojomeaaDoor
/-
  WHETHER TWO FRAGMENTS ARE THE SAME (layer 13): the reference's Same. Bytes must lie where the slices say.
-/
namespace Go.Proofs.YtepaghohojomeaaDoor
open Go.RowKit
theorem fr_same (k e : Int) (d : List Int) (k' e' : Int) (d' : List Int) : decide ((⟨k, e, d⟩ : FR) = ⟨k', e', d'⟩) = (decide (k = k') && (decide (e = e') && decide (d = d'))) := by
  rw [Bool.eq_iff_iff]; simp [FR.mk.injEq]
set_option maxRecDepth 8000 in
set_option maxHeartbeats 2000000 in
theorem rfsame_any (k e : Int) (v : Value) (n : Nat) (d : List Int) (k' e' : Int) (v' : Value) (n' : Nat) (d' : List Int) (w : World) (h1 : RI .u8 w v n d) (h2 : RI .u8 w v' n' d') (hb1 : isB d) (hb2 : isB d') :
    Calls Tryd.prog 22 #[.agg (fA k e v), .agg (fA k' e' v')] w fun r w' => r = .returned (.bool (decide ((⟨k, e, d⟩ : FR) = ⟨k', e', d'⟩))) ∧ Below w.heap.size w w' := by
  rw [fr_same]
  by_cases hk : k = k'
  · subst hk
    by_cases hc : e = e'
    · subst hc
      have q1 := conv_ri (h1.keep (fbelow2 w (.cells (fA k e v) 70) (.cells (fA k e v') 70)))
      have q2 := conv_ri (h2.keep (fbelow2 w (.cells (fA k e v) 70) (.cells (fA k e v') 70)))
      obtain ⟨a, m, rfl, _⟩ := h1
      obtain ⟨a', m', rfl, _⟩ := h2
      by_cases hd : d = d'
      · subst hd
        rw [show (decide (k = k) && (decide (e = e) && decide (d = d))) = true from by simp]
        clear hb1 hb2
        go_enter Tryd.func22, Tryd.ntmps22
        go_wp2
        go_ret
        exact ⟨rfl, fbelow2 _ _ _⟩
      · rw [show (decide (k = k) && (decide (e = e) && decide (d = d'))) = false from by simp [hd]]
        have hs : ¬ strOfNums d = strOfNums d' := fun e => hd (strOfNums_inj hb1 hb2 e)
        have hs2 := str_ne hs
        clear hb1 hb2
        go_enter Tryd.func22, Tryd.ntmps22
        go_wp2
        go_ret
        exact ⟨rfl, fbelow2 _ _ _⟩
    · rw [show (decide (k = k) && (decide (e = e') && decide (d = d'))) = false from by simp [hc]]
      have hq : (e == e') = false := by simpa using hc
      clear h1 h2 hb1 hb2
      go_enter Tryd.func22, Tryd.ntmps22
      go_wp2
      go_ret
      exact ⟨rfl, fbelow2 _ _ _⟩
  · rw [show (decide (k = k') && (decide (e = e') && decide (d = d'))) = false from by simp [hk]]
    have hq : (k == k') = false := by simpa using hk
    clear h1 h2 hb1 hb2
    go_enter Tryd.func22, Tryd.ntmps22
    go_wp2
    go_ret
    exact ⟨rfl, fbelow2 _ _ _⟩
end Go.Proofs.YtepaghohojomeaaDoor
