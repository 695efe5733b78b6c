/-
  TEXTS JOINED: FragBlk, ScanFr, FR, IsB, CrcMath, CrcRef, CrcPat. Each one's own words stand at its head.
-/
import Derived.Test.YtnmplnemnfonfaaGreatDoorJ5
import Derived.Test.YtnmplnemnfonfaaGreatDoorJ1
import Derived.Test.YtnmplnemnfonfaaGreatDoorJ3
import Derived.Test.YtnmplnemnfonfaaGreatDoorJ0
import Derived.Laws.BitsAllLaws
namespace Go.Proofs.YtnmplnemnfonfaaGreatDoor
open Go.RowKit
abbrev fA (k e : Int) (v : Value) : Array Value := #[.int .i64 k, .int .u32 e, v]
theorem fr_info (c : Array Value) (h : c.size = 3) : (Tryz.prog.info? 82).map (·.size) = some c.size := by rw [h]; kernel_rfl
theorem fr_one (k e : Int) (a : Option Addr) (n m : Nat) : (fA k e (.slice a n m)).all (·.oneCell') = true := by simp [fA, Value.oneCell']
def FO (w : World) (b : Nat) (k e : Int) (v : Value) : Prop := w.heap[b]? = some (.cells (fA k e v) 82 (0, 0))
section
variable {w w' : World} {b b' : Nat} {k e : Int} {v : Value}
theorem FO.lt (h : FO w b k e v) : b < w.heap.size := (Array.getElem?_eq_some_iff.1 h).1
theorem FO.keep (h : FO w b k e v) (hb : Below w.heap.size w w') : FO w' b k e v := (hb.block b h.lt).trans h
theorem FO.keepB {g : Nat} (h : FO w b k e v) (hb : Below g w w') (hlt : b < g) : FO w' b k e v := (hb.block b hlt).trans h
theorem FO.load (h : FO w b k e v) : (loadVar 82 ⟨b, 0, none⟩).run Tryz.prog w = .ok (.agg (fA k e v)) w :=
  run_loadVar_row w b _ 82 (fA k e v) (0, 0) _ h Tryz.underlying82 rfl (fr_info _ rfl)
theorem FO.row (h : FO w b k e v) (k' e' : Int) (v' : Value) : FO (w.setRow b (fA k' e' v')) b k' e' v' := setRow_heap w b _ _ _ _ h
theorem FO.apart (h : FO w b k e v) (hne : b ≠ b') (x : Array Value) : FO (w.setRow b' x) b k e v := (setRow_other w b' b x hne).trans h
theorem FO.set2 (h : FO w b k e v) (v' : Value) : FO (w.setCell ⟨b, 2, none⟩ v') b k e v' := Joins.block_setCell h _
theorem FO.set_apart (h : FO w b k e v) (hne : b ≠ b') (j : Nat) (x : Value) : FO (w.setCell ⟨b', j, none⟩ x) b k e v := (heap_setCell_other w ⟨b', j, none⟩ b x hne).trans h
theorem FO.frozen (h : FO w b k e v) (j : Nat) : w.frozen? ⟨b, j, none⟩ = false := Joins.unfrozen_of_block h j
theorem FO.cells (h : FO w b k e v) : w.cell? ⟨b, 0, none⟩ = some (.int .i64 k) ∧ w.cell? ⟨b, 1, none⟩ = some (.int .u32 e) ∧ w.cell? ⟨b, 2, none⟩ = some v :=
  ⟨cell_of_row w b 0 _ _ _ h, cell_of_row w b 1 _ _ _ h, cell_of_row w b 2 _ _ _ h⟩
theorem FO.alloc (w : World) : FO (w.alloc (.cells (fA k e v) 82)) w.heap.size k e v := heap_alloc_last w _
theorem FO.new (x : Array Value) : FO ((w.alloc (.cells x 82)).setRow w.heap.size (fA k e v)) w.heap.size k e v := setRow_heap _ _ _ _ _ _ (heap_alloc_last w _)
theorem FO.ne_own (h : FO w b k e v) {base n : Nat} {u : Value} {xs : List Value} (ho : w.ownsRow base 5 1 u n xs) : ∀ q, u.ownBlock = some q → q ≠ b := by
  intro q hq e
  subst e
  rcases ho.2 with ⟨rfl, _⟩ | ⟨q', cap, cur, rfl, _, hcur, _⟩
  · simp [Value.ownBlock] at hq
  · simp only [Value.ownBlock, Option.some.injEq] at hq
    subst hq
    rw [h] at hcur
    simp only [Option.some.injEq, Obj.cells.injEq] at hcur
    exact absurd hcur.2.1 (by decide)
theorem FO.grown (h : FO w b k e v) {base n : Nat} {u : Value} {xs : List Value} (ho : w.ownsRow base 5 1 u n xs) (hg : w.grownBy w' u.ownBlock) : FO w' b k e v :=
  (hg.block b h.lt (fun e => h.ne_own ho b e.symm rfl)).trans h
theorem FO.row_own (h : FO w b k e v) (x : Array Value) {base n : Nat} {u : Value} {xs : List Value} (ho : w.ownsRow base 5 1 u n xs) : (w.setRow b x).ownsRow base 5 1 u n xs :=
  own_over ho ⟨rfl, rfl, rfl, by simp, fun i _ hne => setRow_other w b i x (fun e => hne (by rw [e]))⟩ (fun g hg e => h.ne_own ho g hg (Option.some.inj e))
theorem FO.set_own (h : FO w b k e v) (j : Nat) (x : Value) {base n : Nat} {u : Value} {xs : List Value} (ho : w.ownsRow base 5 1 u n xs) : (w.setCell ⟨b, j, none⟩ x).ownsRow base 5 1 u n xs :=
  own_over ho ⟨rfl, rfl, rfl, by simp, fun i _ hne => heap_setCell_other w ⟨b, j, none⟩ i x (fun e => hne (by rw [e]))⟩ (fun g hg e => h.ne_own ho g hg (Option.some.inj e))
theorem exec_load_fr {o : Oper} {a : Act} (x : Operand) (ho : o.op = .load 82 x) (hx : a.eval x = .pointer (some ⟨b, 0, none⟩)) (h : FO w b k e v) :
    (execOp a.eval o).run Tryz.prog w = .ok (.value (.agg (fA k e v))) w := by
  unfold execOp
  simp only [ho, hx, Instr.loadAt, Instr.sureAddr, Sem.run_bind, Sem.run_pure, Result.andThen_ok, h.load]
theorem wpl_load_fr {ops : Array Oper} {rest : List Oper} {o : Oper} {a : Act} {Q : Exit → Act → World → Prop} (hw : Region.wanted o (yielded ops a.tmps) = true) (x : Operand) (ho : o.op = .load 82 x) (hx : a.eval x = .pointer (some ⟨b, 0, none⟩)) (h : FO w b k e v)
    (hk : wpList Tryz.prog ops Q rest (a.put o.dst (.agg (fA k e v))) w) : wpList Tryz.prog ops Q (o :: rest) a w := by
  unfold wpList
  rw [if_pos hw]
  exact Or.inl (wp_load_row 82 x ho b hx _ (fA k e v) (0, 0) _ h Tryz.underlying82 rfl (fr_info _ rfl) hk)
end
theorem fbelow2 (w : World) (x y : Obj) : Below w.heap.size w ((w.alloc x).alloc y) := bch (balloc w x) (balloc _ y)
theorem own_fin {w : World} {base : Nat} {e : TypeId} {v : Value} {n m : Nat} {xs ys : List Int} (h : w.ownsRow base e 1 v n (il .u8 xs)) (hx : xs = ys) (hm : ys.length = m) : w.ownsRow base e 1 v m (il .u8 ys) := by
  subst hx
  have h1 := h.1
  rw [il_length] at h1
  rw [show m = n from by omega]
  exact h
end Go.Proofs.YtnmplnemnfonfaaGreatDoor
namespace Go.Proofs.YtnmplnemnfonfaaGreatDoor
open Go.RowKit
theorem wrap_u32' (x : Int) : IntKind.u32.wrap x = x % 4294967296 := by simp [IntKind.wrap, IntKind.signed, IntKind.bits]
section
variable {o : Oper} {a : Act} {w : World} {K : Act → World → Prop} {Q : Exit → Act → World → Prop} {ops : Array Oper} {rest : List Oper}
theorem wp_new_fr (ho : o.op = .alloc 82) (h : ∀ g w', Hid (FO w' g 0 0 (.slice none 0 0)) → Hid (w.heap.size ≤ g) → Hid (Below w.heap.size w w') → K (a.put o.dst (.pointer (some ⟨g, 0, none⟩))) w') : Oper.wp Tryz.prog o a w K Q := by
  have h1 := h w.heap.size (w.alloc (.cells (fA 0 0 (.slice none 0 0)) 82)) (FO.alloc w) (Nat.le_refl _) (balloc w _)
  unfold Oper.wp execOp
  simp [ho, go_sem]
  exact h1
theorem wp_put_fr (x y : Operand) (ho : o.op = .store 82 x y) (g : Nat) {k0 e0 : Int} {p0 : Option Addr} {n0 c0 : Nat} (hk : FO w g k0 e0 (.slice p0 n0 c0)) (k e : Int) (p : Option Addr) (n c : Nat) (hx : a.eval x = .pointer (some ⟨g, 0, none⟩)) (hy : a.eval y = .agg (fA k e (.slice p n c)))
    (h : ∀ w', Hid (FO w' g k e (.slice p n c)) → Hid (w.grownBy w' (some g)) → K (a.put o.dst undef) w') : Oper.wp Tryz.prog o a w K Q :=
  wp_store_row 82 x y ho g (fA k e (.slice p n c)) hx hy _ _ hk (fr_info _ rfl) rfl (fr_one _ _ _ _ _) (h _ (Lib.hid (hk.row k e (.slice p n c))) (Lib.hid ⟨rfl, rfl, rfl, by simp, fun i _ hne => setRow_other w g i _ (fun e => hne (by rw [e]))⟩))
theorem wpl_put_fr (hg : o.guard = none) (x y : Operand) (ho : o.op = .store 82 x y) (g : Nat) {k0 e0 : Int} {p0 : Option Addr} {n0 c0 : Nat} (hk : FO w g k0 e0 (.slice p0 n0 c0)) (k e : Int) (p : Option Addr) (n c : Nat) (hx : a.eval x = .pointer (some ⟨g, 0, none⟩)) (hy : a.eval y = .agg (fA k e (.slice p n c)))
    (h : ∀ w', Hid (FO w' g k e (.slice p n c)) → Hid (w.grownBy w' (some g)) → wpList Tryz.prog ops Q rest (a.put o.dst undef) w') : wpList Tryz.prog ops Q (o :: rest) a w :=
  wpList_plain hg fun _ hK => wp_put_fr x y ho g hk k e p n c hx hy fun w' h2 h3 => hK _ _ (h w' h2 h3)
end
theorem below_over {B : Nat} {w0 w w' : World} {g : Nat} (h : Below B w0 w) (hg : w.grownBy w' (some g)) (hB : B ≤ g) (h0 : B ≤ w.heap.size) : Below B w0 w' := h.grown hg h0 (fun q hq => by cases hq; exact hB)
theorem FO.over {w w' : World} {b g : Nat} {k e : Int} {v : Value} (h : FO w b k e v) (hg : w.grownBy w' (some g)) (hne : b ≠ g) : FO w' b k e v := (hg.block b h.lt (fun x => hne (Option.some.inj x))).trans h
end Go.Proofs.YtnmplnemnfonfaaGreatDoor
namespace Go.Proofs.YtnmplnemnfonfaaGreatDoor
structure FR where
  kind : Int
  epoch : Int
  data : List Int
deriving instance DecidableEq for FR
end Go.Proofs.YtnmplnemnfonfaaGreatDoor
namespace Go.Proofs.YtnmplnemnfonfaaGreatDoor
def isB (l : List Int) : Prop := ∀ x ∈ l, 0 ≤ x ∧ x ≤ 255
theorem isB.drop {l : List Int} (h : isB l) (k : Nat) : isB (l.drop k) := fun x hx => h x (List.mem_of_mem_drop hx)
theorem isB.take {l : List Int} (h : isB l) (k : Nat) : isB (l.take k) := fun x hx => h x (List.mem_of_mem_take hx)
theorem isB.append {a b : List Int} (ha : isB a) (hb : isB b) : isB (a ++ b) := fun x hx => (List.mem_append.1 hx).elim (ha x) (hb x)
theorem isB.nil : isB [] := fun x hx => by simp at hx
end Go.Proofs.YtnmplnemnfonfaaGreatDoor
namespace Go.Proofs.YtnmplnemnfonfaaGreatDoor
def st (x : Nat) : Nat := if x % 2 = 1 then x / 2 ^^^ 2197175160 else x / 2
def stn : Nat → Nat → Nat
  | 0, x => x
  | n + 1, x => stn n (st x)
theorem st_lt (x : Nat) (h : x < 4294967296) : st x < 4294967296 := by
  unfold st
  split
  · exact Nat.xor_lt_two_pow (n := 32) (by omega) (by omega)
  · omega
theorem stn_lt (n x : Nat) (h : x < 4294967296) : stn n x < 4294967296 := by
  induction n generalizing x with
  | zero => exact h
  | succ n ih => exact ih _ (st_lt x h)
theorem xor_lt (x y : Nat) (h : x < 4294967296) (k : y < 4294967296) : x ^^^ y < 4294967296 := Nat.xor_lt_two_pow (n := 32) h k
theorem xor_right_comm (a b c : Nat) : a ^^^ b ^^^ c = a ^^^ c ^^^ b := by rw [Nat.xor_assoc, Nat.xor_comm b, ← Nat.xor_assoc]
theorem xor_swap4 (a b c d : Nat) : a ^^^ b ^^^ (c ^^^ d) = a ^^^ c ^^^ (b ^^^ d) := by
  rw [← Nat.xor_assoc, ← Nat.xor_assoc, xor_right_comm a b c]
theorem st_xor (x y : Nat) : st (x ^^^ y) = st x ^^^ st y := by
  have hm : (x ^^^ y) % 2 = (x % 2 + y % 2) % 2 := by
    rw [show (x ^^^ y) % 2 = (x % 2) ^^^ (y % 2) from Nat.xor_mod_two_pow (n := 1)]
    rcases Nat.mod_two_eq_zero_or_one x with hx | hx <;> rcases Nat.mod_two_eq_zero_or_one y with hy | hy <;> rw [hx, hy] <;> rfl
  unfold st
  rw [Nat.xor_div_two]
  rcases Nat.mod_two_eq_zero_or_one x with hx | hx <;> rcases Nat.mod_two_eq_zero_or_one y with hy | hy
  · rw [if_neg (by omega), if_neg (by omega), if_neg (by omega)]
  · rw [if_pos (by omega), if_neg (by omega), if_pos (by omega), Nat.xor_assoc]
  · rw [if_pos (by omega), if_pos (by omega), if_neg (by omega), xor_right_comm]
  · rw [if_neg (by omega), if_pos (by omega), if_pos (by omega), xor_swap4, Nat.xor_self, Nat.xor_zero]
theorem stn_xor (n x y : Nat) : stn n (x ^^^ y) = stn n x ^^^ stn n y := by
  induction n generalizing x y with
  | zero => rfl
  | succ n ih => simp only [stn]; rw [st_xor, ih]
theorem stn_add (m n x : Nat) : stn (m + n) x = stn n (stn m x) := by
  induction m generalizing x with
  | zero => rw [Nat.zero_add]; rfl
  | succ m ih => rw [show m + 1 + n = (m + n) + 1 from by omega]; exact ih (st x)
theorem stn_succ (n x : Nat) : stn (n + 1) x = st (stn n x) := by rw [stn_add]; rfl
theorem st_even (y : Nat) : st (2 * y) = y := by unfold st; rw [if_neg (by omega)]; omega
theorem stn_up (n y : Nat) : stn n (2 ^ n * y) = y := by
  induction n generalizing y with
  | zero => simp [stn]
  | succ n ih => rw [stn, Nat.pow_succ, Nat.mul_comm (2 ^ n) 2, Nat.mul_assoc, st_even]; exact ih y
theorem up_xor (n a b : Nat) (h : b < 2 ^ n) : 2 ^ n * a + b = b ^^^ 2 ^ n * a := by
  refine Nat.eq_of_testBit_eq fun j => ?_
  rw [Nat.testBit_two_pow_mul_add a h, Nat.testBit_xor, Nat.testBit_two_pow_mul]
  by_cases hj : j < n
  · simp [hj, Nat.not_le.2 hj]
  · have h1 : b.testBit j = false := Nat.testBit_lt_two_pow (Nat.lt_of_lt_of_le h (Nat.pow_le_pow_right (by omega) (by omega)))
    simp [hj, Nat.not_lt.1 hj, h1]
theorem not32 (s : Nat) (h : s < 4294967296) : 4294967295 - s = s ^^^ 4294967295 := by
  refine Nat.eq_of_testBit_eq fun j => ?_
  have h1 := Nat.testBit_two_pow_sub_succ (x := s) (n := 32) h j
  rw [show (2 : Nat) ^ 32 - (s + 1) = 4294967295 - s from by omega] at h1
  rw [h1, Nat.testBit_xor, show (4294967295 : Nat) = 2 ^ 32 - 1 from rfl, Nat.testBit_two_pow_sub_one]
  by_cases hj : j < 32
  · simp [hj]
  · have h2 : s.testBit j = false := Nat.testBit_lt_two_pow (Nat.lt_of_lt_of_le (show s < 2 ^ 32 from h) (Nat.pow_le_pow_right (by omega) (by omega)))
    simp [hj, h2]
theorem half_step (x : Nat) : stn 4 x = x / 16 ^^^ stn 4 (x % 16) := by
  have e : x = x % 16 ^^^ 2 ^ 4 * (x / 16) := by rw [← up_xor 4 (x / 16) (x % 16) (by omega)]; omega
  have h : stn 4 x = stn 4 (x % 16 ^^^ 2 ^ 4 * (x / 16)) := by rw [← e]
  rw [h, stn_xor, stn_up, Nat.xor_comm]
def reg : Nat → List Int → Nat
  | r, [] => r
  | r, c :: l => reg (stn 8 (r ^^^ c.toNat)) l
theorem reg_nil (r : Nat) : reg r [] = r := rfl
theorem reg_cons (r : Nat) (c : Int) (l : List Int) : reg r (c :: l) = reg (stn 8 (r ^^^ c.toNat)) l := rfl
theorem reg_append (r : Nat) (a b : List Int) : reg r (a ++ b) = reg (reg r a) b := by
  induction a generalizing r with
  | nil => rfl
  | cons c a ih => exact ih _
theorem reg_lt (l : List Int) (hb : ∀ x ∈ l, 0 ≤ x ∧ x ≤ 255) (r : Nat) (h : r < 4294967296) : reg r l < 4294967296 := by
  induction l generalizing r with
  | nil => exact h
  | cons c l ih =>
    have hc := hb c (by simp)
    show reg (stn 8 (r ^^^ c.toNat)) l < 4294967296
    exact ih (fun x hx => hb x (List.mem_cons_of_mem _ hx)) (stn 8 (r ^^^ c.toNat)) (stn_lt 8 (r ^^^ c.toNat) (xor_lt r c.toNat h (by omega)))
def moreS (s : Nat) (l : List Int) : Nat := 4294967295 - reg (4294967295 - s) l
def ofS (l : List Int) : Nat := moreS 0 l
theorem moreS_lt (s : Nat) (l : List Int) : moreS s l < 4294967296 := by unfold moreS; omega
theorem ofS_lt (l : List Int) : ofS l < 4294967296 := moreS_lt 0 l
def maskS (s : Nat) : Nat := (s / 32768 + s % 32768 * 131072 + 2726488792) % 4294967296
theorem maskS_lt (s : Nat) : maskS s < 4294967296 := by unfold maskS; omega
end Go.Proofs.YtnmplnemnfonfaaGreatDoor
namespace Go.Proofs.YtnmplnemnfonfaaGreatDoor
open Go.RowKit
theorem drop_getD (zs : List Int) (k : Nat) (h : k < zs.length) : zs.drop k = zs.getD k 0 :: zs.drop (k + 1) := by
  rw [List.drop_eq_getElem_cons h]; simp [List.getD, h]
set_option maxRecDepth 8000 in
set_option maxHeartbeats 400000 in
theorem rstep_any (n : Nat) (h : n < 4294967296) (w : World) : Calls Tryz.prog 117 #[.int .u32 n] w fun e w' => e = .returned (.int .u32 (st n)) ∧ w = w' := by
  have hx := u32_xor_nat (n / 2) 2197175160 (by omega) (by omega)
  rw [show (((n / 2 : Nat)) : Int) = (n : Int) / 2 from by omega] at hx
  have HX := Lib.hid hx; clear hx
  have hn : (n : Int) ≤ 4294967295 := by omega
  have HN := Lib.hid h; clear h
  by_cases hm : (n : Int) % 2 = 1
  all_goals
    go_enter Tryz.func117, Tryz.ntmps117
    go_wp2
    go_ret
    refine ⟨ret_int ?_, rfl⟩
    unfold st
  · rw [if_pos (by omega), ← HX.out]; rfl
  · rw [if_neg (by omega)]; simp
set_option maxRecDepth 8000 in
set_option maxHeartbeats 800000 in
theorem rmore_some (s : Nat) (h : s < 4294967296) (b off len cap : Nat) (zs : List Int) (w : World) (hz : zs.length = len) (hb : ∀ x ∈ zs, 0 ≤ x ∧ x ≤ 255) (hl : (len : Int) ≤ 9223372036854775807)
    (hc : ∀ j, j < len → w.cell? ⟨b, off + j, none⟩ = some (.int .u8 (zs.getD j 0))) :
    Calls Tryz.prog 101 #[.int .u32 s, .slice (some ⟨b, off, none⟩) len cap] w fun e w' => e = .returned (.int .u32 (moreS s zs)) ∧ w = w' := by
  have hs : (s : Int) ≤ 4294967295 := by omega
  obtain ⟨m, hm⟩ : ∃ m, moreS s zs = m := ⟨_, rfl⟩
  rw [hm]
  have HM := Lib.hid hm
  have HC := Lib.hid hc
  have HZ := Lib.hid hz
  have HB := Lib.hid hb
  have HS := Lib.hid h
  clear hm hc hz hb h
  go_enter Tryz.func101, Tryz.ntmps101
  go_wp2
  go_loop [5, 6] (fun x i => ∃ (k r : Nat), i = .int .i64 k ∧ x = .int .u32 r ∧ k ≤ len ∧ Hid (r < 4294967296) ∧ Hid (reg r (zs.drop k) = reg (4294967295 - s) zs)) (fun _ i => len - (intOf i).toNat)
  case atStart => exact ⟨0, 4294967295 - s, rfl, by have := HS.out; congr 1; omega, by omega, Lib.hid (by omega), rfl⟩
  case round =>
    obtain ⟨k, r, rfl, rfl, hk, HR, HG⟩ := hrel
    by_cases hlt : k < len
    · obtain ⟨x, hx⟩ : ∃ x, zs.getD k 0 = x := ⟨_, rfl⟩
      have hcell : w.cell? ⟨b, off + k, none⟩ = some (.int .u8 x) := by rw [← hx]; exact HC.out k hlt
      have hxb : 0 ≤ x ∧ x ≤ 255 := by
        rw [← hx]; exact (bytes_of_mem HB.out) k
      have HD := Lib.hid (show reg r (x :: zs.drop (k + 1)) = reg (4294967295 - s) zs from by rw [← hx, ← drop_getD zs k (by rw [HZ.out]; exact hlt)]; exact HG.out)
      obtain ⟨y, rfl⟩ : ∃ y : Nat, x = (y : Int) := ⟨x.toNat, by omega⟩
      have HX := Lib.hid (u32_xor_nat r y HR.out (by omega))
      have HXL := Lib.hid (xor_lt r y HR.out (by omega))
      clear hx HG
      obtain ⟨r0, hr0⟩ : ∃ r0, r ^^^ y = r0 := ⟨_, rfl⟩
      rw [hr0] at HX HXL
      have H0 := Lib.hid hr0; clear hr0
      have hxx : bits .xor .u32 (r : Int) (y : Int) = (r0 : Int) := HX.out
      clear HX
      go_wp2
      go_loop [5, 7] (fun x j => ∃ (c q : Nat), j = .int .i64 c ∧ x = .int .u32 q ∧ c ≤ 8 ∧ Hid (q < 4294967296) ∧ Hid (stn c r0 = q)) (fun _ j => 8 - (intOf j).toNat)
      case atStart => exact ⟨0, r0, rfl, rfl, by omega, HXL, rfl⟩
      case round =>
        obtain ⟨c, q, rfl, rfl, hc8, HQ, HT⟩ := hrel
        by_cases hlt2 : c < 8
        · go_wp2_with (first | (go_at_call 117; (with_reducible refine (rstep_any q HQ.out _).mono ?_); rintro e w' ⟨rfl, rfl⟩))
          go_round
          case rel => exact ⟨c + 1, st q, by go_num, rfl, by omega, st_lt q HQ.out, by rw [← HT.out]; exact stn_succ c r0⟩
          case measure => simp [intOf]; omega
        · go_wp2
          go_round
          case rel =>
            refine ⟨k + 1, q, by go_num, rfl, by omega, HQ, ?_⟩
            have h1 := HD.out
            rw [reg_cons, Int.toNat_natCast, H0.out, show 8 = c from by omega, HT.out] at h1
            exact h1
          case measure => simp [intOf]; omega
    · go_wp2
      go_ret
      refine ⟨ret_int ?_, rfl⟩
      have h1 := HG.out
      rw [show zs.drop k = [] from List.drop_eq_nil_of_le (by rw [HZ.out]; omega), reg_nil] at h1
      have h2 := HM.out; have h3 := HR.out
      unfold moreS at h2; omega
set_option maxRecDepth 8000 in
set_option maxHeartbeats 400000 in
theorem rmore_zero (s : Nat) (h : s < 4294967296) (a : Option Addr) (cap : Nat) (w : World) :
    Calls Tryz.prog 101 #[.int .u32 s, .slice a 0 cap] w fun e w' => e = .returned (.int .u32 (moreS s [])) ∧ w = w' := by
  have hs : (s : Int) ≤ 4294967295 := by omega
  have HS := Lib.hid h; clear h
  go_enter Tryz.func101, Tryz.ntmps101
  go_wp2
  refine wp_loop_rounds 1 ?_
  rw [rounds_succ]
  go_wp2
  go_ret
  refine ⟨ret_int ?_, rfl⟩
  have := HS.out
  unfold moreS
  rw [reg_nil]; omega
theorem rmore_any {s len : Nat} (h : s < 4294967296) {v : Value} {zs : List Int} {w : World} (hri : RI .u8 w v len zs) (hb : ∀ x ∈ zs, 0 ≤ x ∧ x ≤ 255) {m : Nat} (hm : moreS s zs = m) :
    Calls Tryz.prog 101 #[.int .u32 s, v] w fun e w' => e = .returned (.int .u32 m) ∧ w = w' := by
  subst hm
  obtain ⟨a, cap, rfl, hl, h1, h2, _, hc⟩ := hri
  by_cases h0 : 0 < len
  · obtain ⟨b, off, rfl, hcell⟩ := hc h0
    exact rmore_some s h b off len cap zs w hl hb (by omega) hcell
  · obtain rfl : len = 0 := by omega
    obtain rfl : zs = [] := List.length_eq_zero_iff.1 hl
    exact rmore_zero s h a cap w
theorem rmore_0 {len : Nat} {v : Value} {zs : List Int} {w : World} (hri : RI .u8 w v len zs) (hb : ∀ x ∈ zs, 0 ≤ x ∧ x ≤ 255) {m : Nat} (hm : moreS 0 zs = m) :
    Calls Tryz.prog 101 #[.int .u32 0, v] w fun e w' => e = .returned (.int .u32 m) ∧ w = w' := rmore_any (s := 0) (by omega) hri hb hm
theorem rof_any {len : Nat} {v : Value} {zs : List Int} {w : World} (hri : RI .u8 w v len zs) (hb : ∀ x ∈ zs, 0 ≤ x ∧ x ≤ 255) {m : Nat} (hm : ofS zs = m) :
    Calls Tryz.prog 83 #[v] w fun e w' => e = .returned (.int .u32 m) ∧ w = w' := by
  have HR := Lib.hid hri
  have HB := Lib.hid hb
  have HM := Lib.hid (show moreS 0 zs = m from hm)
  clear hri hb hm
  go_enter Tryz.func83, Tryz.ntmps83
  go_wp2_with (first | (go_at_call 101; (with_reducible refine (rmore_0 HR.out HB.out HM.out).mono ?_); rintro e w' ⟨rfl, rfl⟩))
  go_ret
  exact ⟨rfl, rfl⟩
set_option maxRecDepth 8000 in
theorem rmask_any (n : Nat) (h : n < 4294967296) (w : World) : Calls Tryz.prog 82 #[.int .u32 n] w fun e w' => e = .returned (.int .u32 (maskS n)) ∧ w = w' := by
  have hn : (n : Int) ≤ 4294967295 := by omega
  clear h
  go_enter Tryz.func82, Tryz.ntmps82
  go_wp2
  go_ret
  refine ⟨ret_int ?_, rfl⟩
  unfold maskS
  omega
theorem rmask_at (n m : Nat) (h : n < 4294967296) (hm : maskS n = m) (w : World) : Calls Tryz.prog 82 #[.int .u32 n] w fun e w' => e = .returned (.int .u32 m) ∧ w = w' :=
  (rmask_any n h w).mono fun _ _ ⟨he, hw⟩ => ⟨by rw [he, hm], hw⟩
end Go.Proofs.YtnmplnemnfonfaaGreatDoor
namespace Go.Proofs.YtnmplnemnfonfaaGreatDoor
open Go.RowKit
end Go.Proofs.YtnmplnemnfonfaaGreatDoor
