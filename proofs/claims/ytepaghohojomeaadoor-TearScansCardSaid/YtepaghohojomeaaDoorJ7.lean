/-
  TEXTS JOINED: Drawn, Two, BitR, View, CrashRef, ScanCrash, TearMath. Each one's own words stand at its head.
-/
import Derived.Test.YtepaghohojomeaaDoorJ0
import Derived.Deep.QuietTactic
import Derived.BigQuiet
import Derived.Below
import Derived.Test.YtepaghohojomeaaDoorJ3
import Derived.Lib.Hide
import Derived.Deep.RegionHeld3
import Derived.Test.YtepaghohojomeaaDoorJ4
import Derived.Test.YtepaghohojomeaaDoorJ6
import Derived.Test.YtepaghohojomeaaDoorJ1
import Derived.Test.YtepaghohojomeaaDoorJ5
/-
  DRAWS ALONE: calls that change nothing but what was drawn. Nothing here speaks of the program's functions. No condition.
-/
namespace Go.Proofs.YtepaghohojomeaaDoor
open Go.RowKit
/-- draws alone -/
def Drawn (w w' : World) : Prop := ∃ n, w' = w.drewN n
theorem Drawn.cell {w w' : World} (h : Drawn w w') (a : Addr) : w'.cell? a = w.cell? a := by obtain ⟨n, rfl⟩ := h; simp
theorem Drawn.refl (w : World) : Drawn w w := ⟨0, rfl⟩
theorem Drawn.then {w w' : World} (h : Drawn w w') (n : Nat) : Drawn w (w'.drewN n) := by obtain ⟨m, rfl⟩ := h; exact ⟨_, World.drewN_drewN _ _ _⟩
theorem quiet_eq {P : Program} {f : FuncId} {args : Array Value} {w : World} {n : Nat} {v : Value}
    (h : Calls P f args (w.drewN n) fun e w' => e = .returned v ∧ w.drewN n = w') : Calls P f args (w.drewN n) fun e w'' => e = .returned v ∧ ∃ m, w'' = w.drewN m :=
  h.mono fun _ _ ⟨he, hm⟩ => ⟨he, n, hm.symm⟩
theorem quiet_drawn {P : Program} {f : FuncId} {args : Array Value} {w : World} {n : Nat} {v : Value}
    (h : Calls P f args (w.drewN n) fun e w' => e = .returned v ∧ Drawn (w.drewN n) w') : Calls P f args (w.drewN n) fun e w'' => e = .returned v ∧ ∃ m, w'' = w.drewN m :=
  Calls.quiet_of h
theorem Drawn.grown {w w' : World} (h : Drawn w w') : Below w.heap.size w w' := by
  obtain ⟨n, rfl⟩ := h
  exact ⟨rfl, rfl, rfl, Nat.le_refl _, fun _ _ => rfl⟩
end Go.Proofs.YtepaghohojomeaaDoor
/-
  LAYER 1 (word), what later layers take of it: what the reference's Two answers.
-/
namespace Go.Proofs.YtepaghohojomeaaDoor
open Go.RowKit
set_option maxHeartbeats 400000 in
theorem two_any (n : Int) (h : I63 n) (w : World) : Calls Tryd.prog 69 #[.int .i64 n] w fun e w' => e = .returned (.int .u64 (two n.toNat)) ∧ w = w' := by
  unfold I63 at h
  go_enter Tryd.func69, Tryd.ntmps69
  go_wp2
  go_loop [3, 4] (fun t i => ∃ k : Nat, (k : Int) ≤ max n 0 ∧ i = .int .i64 k ∧ t = .int .u64 (two k)) (fun _ i => n.toNat - (intOf i).toNat)
  case atStart => exact ⟨0, by omega, rfl, rfl⟩
  case round =>
    obtain ⟨k, hk, rfl, rfl⟩ := hrel
    by_cases hlt : (k : Int) < n
    · go_wp2
      go_round
      case rel => exact ⟨k + 1, by omega, by go_num, by rw [two_succ]⟩
      case measure => simp [intOf]; omega
    · go_wp2
      go_ret
      exact ⟨ret_int (by congr 1; omega), rfl⟩
theorem two_at (n : Int) (k : Nat) (hn : n = k) (h : k < 9223372036854775808) (w : World) : Calls Tryd.prog 69 #[.int .i64 n] w fun e w' => e = .returned (.int .u64 (two k)) ∧ w = w' :=
  (two_any n (by unfold I63; omega) w).mono fun _ _ ⟨he, hw⟩ => ⟨by rw [he, hn, Int.toNat_natCast], hw⟩

end Go.Proofs.YtepaghohojomeaaDoor
/-
  LAYER 1 (word), what later layers take of it: what the reference's Bit answers. Bytes must lie where the slice says.
-/
namespace Go.Proofs.YtepaghohojomeaaDoor
open Go.RowKit
def bitB (zs : List Int) (k : Nat) : Bool := decide (zs.getD (k / 8) 0 / 2 ^ (k % 8) % 2 = 1)
theorem bit_mask (x : Int) (h : 0 ≤ x ∧ x ≤ 255) (s : Nat) : (bits .and .u8 (x / 2 ^ s) 1 == 1) = decide (x / 2 ^ s % 2 = 1) := by
  have h0 : 0 ≤ x / 2 ^ s := Int.ediv_nonneg h.1 (Int.le_of_lt (pow_pos' _))
  have h1 : x / 2 ^ s ≤ x := Int.ediv_le_self _ h.1
  rw [show bits .and .u8 (x / 2 ^ s) 1 = x / 2 ^ s % 2 from bits_mask .u8 8 (by decide) wraps_u8 1 (by decide) _ h0 (by omega)]
  rw [Bool.eq_iff_iff]; simp

theorem rbit_no (a : Option Addr) (len cap : Nat) (i : Int) (w : World) (hi : I63 i) (h : i < 0 ∨ (0 ≤ i ∧ (len : Int) ≤ i / 8)) :
    Calls Tryd.prog 44 #[.slice a len cap, .int .i64 i] w fun e w' => e = .returned (.bool false) ∧ Drawn w w' := by
  unfold I63 at hi
  rcases h with h | ⟨h, h1⟩
  · have hd : decide (0 ≤ i) = false := by simpa using h
    go_enter Tryd.func44, Tryd.ntmps44
    go_wp2_with fail
    go_quiet (fail)
    go_wp2
    go_ret
    exact ⟨rfl, ⟨_, rfl⟩⟩
  · have hd : decide (i / 8 < (len : Int)) = false := by simpa using h1
    go_enter Tryd.func44, Tryd.ntmps44
    go_wp2_with fail
    go_quiet (fail)
    go_wp2
    go_ret
    exact ⟨rfl, ⟨_, rfl⟩⟩
set_option maxHeartbeats 400000 in
theorem rbit_some (b off len cap : Nat) (zs : List Int) (k : Nat) (w : World) (hz : Bytes zs) (hi : (k : Int) ≤ 9223372036854775807) (hmax : len ≤ 9223372036854775807) (hk : k / 8 < len)
    (hc : ∀ j, j < len → w.cell? ⟨b, off + j, none⟩ = some (.int .u8 (zs.getD j 0))) :
    Calls Tryd.prog 44 #[.slice (some ⟨b, off, none⟩) len cap, .int .i64 k] w fun e w' => e = .returned (.bool (bitB zs k)) ∧ Drawn w w' := by
  have h1 : (k : Int) / 8 < len := by omega
  have h3 : 0 ≤ (k : Int) / 8 := by omega
  have hcell : w.cell? ⟨b, off + k / 8, none⟩ = some (.int .u8 (zs.getD (k / 8) 0)) := hc _ hk
  have hb : 0 ≤ zs[k / 8]?.getD 0 ∧ zs[k / 8]?.getD 0 ≤ 255 := hz (k / 8)
  have ht := two_small (k % 8) (by omega)
  have ht1 := two_pos (k % 8) (by omega)
  have HT := Lib.hid ht; clear ht
  have hq0 : 0 ≤ zs[k / 8]?.getD 0 / two (k % 8) := Int.ediv_nonneg hb.1 (by omega)
  go_enter Tryd.func44, Tryd.ntmps44
  go_wp2_with fail
  have hu : IntKind.u64.wrap (zs[k / 8]?.getD 0) = zs[k / 8]?.getD 0 := IntWalk.u64_in _ (by omega)
  go_quiet ((go_at_call 69; exact quiet_eq (two_at _ (k % 8) (by omega) (by omega) _)))
  clear hu
  go_wp2
  go_ret
  refine ⟨ret_bool ?_, ⟨_, rfl⟩⟩
  rw [HT.out]
  unfold bitB
  rw [Bool.eq_iff_iff]; simp
/-- the bit of a slice of bytes, whatever the place -/
def bitI (zs : List Int) (i : Int) : Bool := decide (0 ≤ i) && decide (i / 8 < (zs.length : Int)) && bitB zs i.toNat
theorem rbit_ri (v : Value) (len : Nat) (zs : List Int) (i : Int) (w : World) (h : RI .u8 w v len zs) (hz : Bytes zs) (hi : I63 i) :
    Calls Tryd.prog 44 #[v, .int .i64 i] w fun e w' => e = .returned (.bool (bitI zs i)) ∧ Below w.heap.size w w' := by
  have hl := h.length
  have hle := h.le
  unfold I63 at hi
  by_cases h1 : 0 ≤ i ∧ i / 8 < (len : Int)
  · obtain ⟨k, rfl⟩ : ∃ k : Nat, i = (k : Int) := ⟨i.toNat, by omega⟩
    obtain ⟨b, off, cap, rfl, _, _, hc⟩ := h.open_ (by omega)
    refine (rbit_some b off len cap zs k w hz (by omega) hle (by omega) hc).mono ?_
    rintro e w' ⟨rfl, n, rfl⟩
    refine ⟨?_, ?_⟩
    · unfold bitI; rw [hl, decide_eq_true h1.1, decide_eq_true h1.2]; rfl
    · exact ⟨rfl, rfl, rfl, Nat.le_refl _, fun _ _ => rfl⟩
  · obtain ⟨a, cap, rfl, _⟩ := h
    refine (rbit_no a len cap i w (by unfold I63; omega) (by omega)).mono ?_
    rintro e w' ⟨rfl, n, rfl⟩
    refine ⟨?_, ?_⟩
    · unfold bitI
      rw [hl]
      by_cases h2 : 0 ≤ i
      · rw [decide_eq_false (p := i / 8 < (len : Int)) (by omega)]; simp
      · rw [decide_eq_false h2]; simp
    · exact ⟨rfl, rfl, rfl, Nat.le_refl _, fun _ _ => rfl⟩
end Go.Proofs.YtepaghohojomeaaDoor
/-
  WHAT IS SEEN OF A WORLD: cells that stay what they are from one world to another (Kin); a world without some blocks (mask), so that what is said of it is said of the others alone; slices of structs, told by their cells (CS); slices of bools (BS). Nothing here speaks of the program's functions. No condition.
-/
namespace Go.Proofs.YtepaghohojomeaaDoor
open Go.RowKit
theorem FS.kin {w w' : World} (hb : Kin w w') {v : Value} {n : Nat} {fs : List Int} (h : FS w v n fs) : FS w' v n fs := by
  obtain ⟨a, cap, rfl, h1, h2, h3, h4, hc⟩ := h
  refine ⟨a, cap, rfl, h1, h2, h3, h4, fun h0 => ?_⟩
  obtain ⟨b, off, rfl, hcell⟩ := hc h0
  exact ⟨b, off, rfl, fun j hj => hb _ _ (hcell j hj)⟩
/-- w without the blocks of F -/
def mask (F : Nat → Bool) (w : World) : World := { w with heap := w.heap.mapIdx fun k o => bif F k then .cells #[] 0 (0, 0) else o }
theorem mask_heap (F : Nat → Bool) (w : World) (k : Nat) : (mask F w).heap[k]? = (w.heap[k]?).map fun o => bif F k then .cells #[] 0 (0, 0) else o := by
  simp [mask]
theorem mask_size (F : Nat → Bool) (w : World) : (mask F w).heap.size = w.heap.size := by simp [mask]
theorem unmask (F : Nat → Bool) (w : World) : Kin (mask F w) w := by
  intro a v h
  unfold World.cell? at h ⊢
  rw [mask_heap] at h
  cases hq : w.heap[a.block]? with
  | none => simp [hq] at h
  | some o =>
    cases hf : F a.block with
    | true => simp [hq, hf] at h
    | false => simpa [hq, hf] using h
/-- the blocks of F stand in w -/
def Foot (F : Nat → Bool) (n : Nat) : Prop := ∀ k, F k = true → k < n
theorem Foot.mono {F : Nat → Bool} {n m : Nat} (h : Foot F n) (hm : n ≤ m) : Foot F m := fun k hk => Nat.lt_of_lt_of_le (h k hk) hm
theorem Foot.none (n : Nat) : Foot (fun _ => false) n := fun _ h => by simp at h
/-- w' is w but for the blocks of F, and for new ones; F' has no others of the old ones than F -/
structure Ext (F : Nat → Bool) (w w' : World) (F' : Nat → Bool) : Prop where
  os : w'.os = w.os
  tape : w'.tape = w.tape
  output : w'.output = w.output
  size : w.heap.size ≤ w'.heap.size
  block : ∀ k, k < w.heap.size → F k = false → w'.heap[k]? = w.heap[k]?
  foot : ∀ k, k < w.heap.size → F' k = F k
theorem Ext.refl (F : Nat → Bool) (w : World) : Ext F w w F := ⟨rfl, rfl, rfl, Nat.le_refl _, fun _ _ _ => rfl, fun _ _ => rfl⟩
theorem Ext.trans {F F' F'' : Nat → Bool} {a b c : World} (h : Ext F a b F') (k : Ext F' b c F'') : Ext F a c F'' :=
  ⟨k.os.trans h.os, k.tape.trans h.tape, k.output.trans h.output, Nat.le_trans h.size k.size,
    fun i hi hf => (k.block i (Nat.lt_of_lt_of_le hi h.size) (by rw [h.foot i hi]; exact hf)).trans (h.block i hi hf),
    fun i hi => (k.foot i (Nat.lt_of_lt_of_le hi h.size)).trans (h.foot i hi)⟩
theorem Ext.below {F : Nat → Bool} {w w' : World} (h : Below w.heap.size w w') : Ext F w w' F := ⟨h.os, h.tape, h.output, h.size, fun k hk _ => h.block k hk, fun _ _ => rfl⟩
theorem Ext.kin {F F' : Nat → Bool} {w w' : World} (h : Ext F w w' F') : Kin (mask F w) (mask F' w') := by
  intro a v hx
  unfold World.cell? at hx ⊢
  rw [mask_heap] at hx ⊢
  have hlt : a.block < w.heap.size := by
    rcases Nat.lt_or_ge a.block w.heap.size with hl | hl
    · exact hl
    · simp [Array.getElem?_eq_none hl] at hx
  cases hf : F a.block with
  | true => rw [Array.getElem?_eq_getElem hlt] at hx; simp [hf] at hx
  | false => rw [h.block _ hlt hf, h.foot _ hlt]; exact hx
theorem kin_mask {F : Nat → Bool} {w w' : World} (h : Below w.heap.size w w') : Kin (mask F w) (mask F w') := (Ext.below h).kin
theorem kin_drew (F : Nat → Bool) (w : World) : Kin (mask F w) (mask F w.drew) := kin_mask (Below.refl _ _).drew
/-- what is said of fewer blocks holds of more -/
theorem mask_mono {F F' : Nat → Bool} (h : ∀ k, F k = true → F' k = true) (w : World) : Kin (mask F' w) (mask F w) := by
  intro a v hx
  unfold World.cell? at hx ⊢
  rw [mask_heap] at hx ⊢
  cases hq : w.heap[a.block]? with
  | none => simp [hq] at hx
  | some o =>
    cases hf' : F' a.block with
    | true => simp [hq, hf'] at hx
    | false =>
      have hf : F a.block = false := by
        cases hf : F a.block with
        | false => rfl
        | true => rw [h _ hf] at hf'; simp at hf'
      simpa [hq, hf, hf'] using hx
/-- F, and the blocks from n on -/
def plusF (F : Nat → Bool) (n m : Nat) : Nat → Bool := fun k => F k || (decide (n ≤ k) && decide (k < m))
theorem plusF_mono (F : Nat → Bool) (n m k : Nat) (h : F k = true) : plusF F n m k = true := by simp [plusF, h]
theorem plusF_foot {F : Nat → Bool} {n m : Nat} (h : Foot F n) (hm : n ≤ m) : Foot (plusF F n m) m := by
  intro k hk
  simp only [plusF, Bool.or_eq_true, Bool.and_eq_true, decide_eq_true_eq] at hk
  rcases hk with hk | hk
  · have := h k hk; omega
  · exact hk.2
theorem plusF_ext {F : Nat → Bool} {w w' : World} (h : Below w.heap.size w w') : Ext F w w' (plusF F w.heap.size w'.heap.size) :=
  ⟨h.os, h.tape, h.output, h.size, fun k hk _ => h.block k hk, fun k hk => by simp [plusF]; intro h1; omega⟩
theorem plusF_in (F : Nat → Bool) (n m k : Nat) (h : n ≤ k) (h2 : k < m) : plusF F n m k = true := by simp [plusF, h, h2]
theorem Ext.setRow {F : Nat → Bool} {w w' : World} (h : Ext F w w' F) (b : Nat) (hb : F b = true) (cs : Array Value) : Ext F w (w'.setRow b cs) F :=
  h.trans ⟨rfl, rfl, rfl, by simp, fun k _ hf => setRow_other w' b k cs (by rintro rfl; rw [hb] at hf; simp at hf), fun _ _ => rfl⟩
/-- what a call made lies apart from the blocks that stood ahead of it -/
theorem own_mask {F : Nat → Bool} {w : World} {base : Nat} {e : TypeId} {size : Nat} {v : Value} {n : Nat} {xs : List Value} (hF : Foot F base) (h : w.ownsRow base e size v n xs) : (mask F w).ownsRow base e size v n xs := by
  refine ⟨h.1, ?_⟩
  rcases h.2 with h2 | ⟨g, cap, cur, hv, hg, hcur, h3⟩
  · exact .inl h2
  · refine .inr ⟨g, cap, cur, hv, hg, ?_, h3⟩
    have hf : F g = false := by
      cases hq : F g with
      | false => rfl
      | true => have := hF g hq; omega
    rw [mask_heap, hcur]; simp [hf]
theorem mask_none (w : World) : mask (fun _ => false) w = w := by
  unfold mask
  have : (w.heap.mapIdx fun k o => bif (fun _ => false) k then Obj.cells #[] 0 (0, 0) else o) = w.heap := by
    refine Array.ext (by simp) fun i h1 h2 => by simp
  rw [this]
end Go.Proofs.YtepaghohojomeaaDoor
/-
  WHAT THE DOCUMENT'S ANSWERS OF LAYER 9 (crash) ANSWER: the reference's Apply. No condition of ours but bounds on lengths.
-/
namespace Go.Proofs.YtepaghohojomeaaDoor
open Go.RowKit
def sct (l : List Int) (j : Nat) : List Int := (l.drop (j * 64)).take 64
theorem sct_length (l : List Int) (n j : Nat) (h : l.length = n * 64) (hj : j < n) : (sct l j).length = 64 := by simp [sct]; omega
/-- one sector behind a crash, if it waits as the i-th one -/
def leaves (kb : List Int) (torn cut : Int) (o n : List Int) (i : Nat) : List Int :=
  if (i : Int) = torn then mixN o n (cutN cut) else if bitI kb (i : Int) = true then n else o
theorem leaves_length (kb : List Int) (torn cut : Int) (o n : List Int) (i : Nat) (ho : o.length = 64) (hn : n.length = 64) : (leaves kb torn cut o n i).length = 64 := by
  unfold leaves
  split
  · exact mixN_length _ _ _ ho hn (by unfold cutN; omega)
  · split <;> assumption
/-- the first j of them -/
def applyN (kb : List Int) (torn cut : Int) (os ns : List Int) : Nat → List Int
  | 0 => []
  | j + 1 => applyN kb torn cut os ns j ++ leaves kb torn cut (sct os j) (sct ns j) j
theorem applyN_length (kb : List Int) (torn cut : Int) (os ns : List Int) (n m : Nat) (ho : os.length = n * 64) (hn : ns.length = m * 64) : ∀ j, j ≤ n → j ≤ m → (applyN kb torn cut os ns j).length = j * 64
  | 0, _, _ => rfl
  | j + 1, h, h2 => by
    rw [applyN, List.length_append, applyN_length kb torn cut os ns n m ho hn j (by omega) (by omega), leaves_length _ _ _ _ _ _ (sct_length _ n _ ho (by omega)) (sct_length _ m _ hn (by omega))]; omega
/-- a crash -/
structure AC where
  len : Nat
  kb : List Int
  torn : Int
  cut : Int
set_option maxRecDepth 8000 in
set_option maxHeartbeats 4000000 in
theorem rapply_any (v1 v2 vk : Value) (n m klen : Nat) (os ns kb : List Int) (torn cut : Int) (w : World) (h1 : FS w v1 n os) (h2 : FS w v2 m ns) (hk : RI .u8 w vk klen kb) (hkb : Bytes kb) (ht : I63 torn) (hc : I63 cut) (hn : n ≤ 1000000) (_hm : m ≤ 1000000) :
    Calls Tryd.prog 24 #[v1, v2, .agg #[vk, .int .i64 torn, .int .i64 cut]] w fun e w' => ∃ v', e = .returned v' ∧ FS w' v' (min n m) (applyN kb torn cut os ns (min n m)) ∧ Below w.heap.size w w' := by
  have H1 := Lib.hid h1
  have H2 := Lib.hid h2
  have HK := Lib.hid hk
  have HKB := Lib.hid hkb
  have HT := Lib.hid ht
  have HC := Lib.hid hc
  obtain ⟨a1, c1, rfl, hl1, hc1, hm1, _⟩ := id h1
  obtain ⟨a2, c2, rfl, hl2, hc2, hm2, _⟩ := id h2
  obtain ⟨ak, ck, rfl, _⟩ := id hk
  obtain ⟨w0, hw0⟩ : ∃ w0, w.alloc (.cells #[.slice ak klen ck, .int .i64 torn, .int .i64 cut] 45) = w0 := ⟨_, rfl⟩
  have HB0 : Hid (Below w.heap.size w w0) := Lib.hid (by rw [← hw0]; exact below_alloc _ _)
  have hcx := fun j => cell_of_row w0 w.heap.size j _ _ _ (by rw [← hw0]; exact heap_alloc_last w (.cells #[.slice ak klen ck, .int .i64 torn, .int .i64 cut] 45))
  have HCX := Lib.hid (And.intro (hcx 0) (And.intro (hcx 1) (hcx 2)))
  have HL1 := Lib.hid hl1
  have HL2 := Lib.hid hl2
  obtain ⟨q, hq⟩ : ∃ q, min n m = q := ⟨_, rfl⟩
  rw [hq]
  have hqn : q ≤ n := by omega
  have hqm : q ≤ m := by omega
  have HQ := Lib.hid hq
  clear h1 h2 hk hkb ht hc hcx hl1 hl2 hq
  go_enter Tryd.func24, Tryd.ntmps24
  go_wp2_with (rw [hw0])
  clear hw0
  go_loopw [7, 8] (fun x iv wr => ∃ i : Nat, iv = .int .i64 i ∧ i ≤ q ∧ Hid (wr.ownsRow w0.heap.size 28 64 x i (il .u8 (applyN kb torn cut os ns i))) ∧ Hid (Below w0.heap.size w0 wr)) (fun _ iv _ => q - (intOf iv).toNat)
  case atStart => exact ⟨0, rfl, by omega, Lib.hid (by simpa [applyN, il] using World.ownsRow_nil _ _ _ _), Lib.hid (Below.refl _ _)⟩
  case round =>
    obtain ⟨i, rfl, hi, HO, HB⟩ := hrel
    by_cases hlt : i < q
    · have hlt1 : (i : Int) < (n : Int) := by omega
      have hlt2 : (i : Int) < (m : Int) := by omega
      obtain ⟨b1, o1, rfl, ha1⟩ := (H1.out.keep HB0.out).at_ i (by omega)
      obtain ⟨b2, o2, rfl, ha2⟩ := (H2.out.keep HB0.out).at_ i (by omega)
      obtain ⟨z1, hz1⟩ : ∃ z1, sct os i = z1 := ⟨_, rfl⟩
      obtain ⟨z2, hz2⟩ : ∃ z2, sct ns i = z2 := ⟨_, rfl⟩
      rw [show (os.drop (i * 64)).take 64 = z1 from hz1] at ha1
      rw [show (ns.drop (i * 64)).take 64 = z2 from hz2] at ha2
      have HA1 := Lib.hid ha1
      have HA2 := Lib.hid ha2
      have HST : Hid (applyN kb torn cut os ns (i + 1) = applyN kb torn cut os ns i ++ leaves kb torn cut z1 z2 i) := Lib.hid (by rw [← hz1, ← hz2]; rfl)
      have z0 := cell_keep HB.out HCX.out.1
      have t1 := cell_keep HB.out HCX.out.2.1
      have t2 := cell_keep HB.out HCX.out.2.2
      clear ha1 ha2 hz1 hz2
      by_cases htt : (i : Int) = torn
      · have HSC : Hid (leaves kb torn cut z1 z2 i = mixN z1 z2 (cutN cut)) := Lib.hid (by unfold leaves; rw [if_pos htt])
        subst htt
        have HMX := Lib.hid fun W => rmix_any z1 z2 cut HA1.out.1 HA2.out.1 HC.out W
        obtain ⟨zm, hzm⟩ : ∃ zm, mixN z1 z2 (cutN cut) = zm := ⟨_, rfl⟩
        have HZL : Hid (zm.length = 64) := Lib.hid (by rw [← hzm]; exact mixN_length _ _ _ HA1.out.1 HA2.out.1 (by unfold cutN; omega))
        rw [hzm] at HMX HSC
        rw [HSC.out] at HST
        clear hzm
        go_wp2_with fail
        refine wp_region_held_drew (S := (fun W' => Below w0.heap.size w0 W')) (by kernel_rfl) (HB.out.drew) (fun hS => ?_)
        refine wpAnyH_take (i := 0) (oi := ({ dst := some 25, op := Op.move (Operand.tmp 7), type := 24, pos := "ref.go:15", after := #[], guard := none } : Oper)) (v := ?_) rfl (by kernel_rfl) (by kernel_rfl) (by kernel_rfl) (fun _ _ _ h => h) (Or.inl ⟨by rfl, ?_⟩) hS ?_
        rotate_left
        · (intro w hSw; (try dsimp only at hSw); go_simp; try with_reducible rfl)
        (try simp only [Act.put, List.setIfInBounds_toArray, List.set_cons_zero, List.set_cons_succ])
        refine wpAnyH_take (i := 1) (oi := ({ dst := some 26, op := Op.move (Operand.tmp 0), type := 24, pos := "ref.go:15", after := #[], guard := none } : Oper)) (v := ?_) rfl (by kernel_rfl) (by kernel_rfl) (by kernel_rfl) (fun _ _ _ h => h) (Or.inl ⟨by rfl, ?_⟩) hS ?_
        rotate_left
        · (intro w hSw; (try dsimp only at hSw); go_simp; try with_reducible rfl)
        (try simp only [Act.put, List.setIfInBounds_toArray, List.set_cons_zero, List.set_cons_succ])
        refine wpAnyH_take (i := 2) (oi := ({ dst := some 27, op := Op.move (Operand.tmp 8), type := 3, pos := "ref.go:15", after := #[], guard := none } : Oper)) (v := ?_) rfl (by kernel_rfl) (by kernel_rfl) (by kernel_rfl) (fun _ _ _ h => h) (Or.inl ⟨by rfl, ?_⟩) hS ?_
        rotate_left
        · (intro w hSw; (try dsimp only at hSw); go_simp; try with_reducible rfl)
        (try simp only [Act.put, List.setIfInBounds_toArray, List.set_cons_zero, List.set_cons_succ])
        refine wpAnyH_take (i := 3) (oi := ({ dst := some 28, op := Op.indexAddr 24 (Operand.tmp 26) (Operand.tmp 27), type := 0, pos := "ref.go:15", after := #[{ on := 1, ground := Ground.data }, { on := 2, ground := Ground.data }], guard := none } : Oper)) (v := ?_) rfl (by kernel_rfl) (by kernel_rfl) (by kernel_rfl) (fun _ _ _ h => h) (Or.inl ⟨by rfl, ?_⟩) hS ?_
        rotate_left
        · (intro w hSw; (try dsimp only at hSw); go_simp; try with_reducible rfl)
        (try simp only [Act.put, List.setIfInBounds_toArray, List.set_cons_zero, List.set_cons_succ])
        refine wpAnyH_take (i := 4) (oi := ({ dst := some 29, op := Op.load 28 (Operand.tmp 28), type := 28, pos := "ref.go:15", after := #[{ on := 3, ground := Ground.data }], guard := none } : Oper)) (v := ?_) rfl (by kernel_rfl) (by kernel_rfl) (by kernel_rfl) (fun _ _ _ h => h) (Or.inl ⟨by rfl, ?_⟩) hS ?_
        rotate_left
        · (intro w hSw; (try dsimp only at hSw); refine exec_load_at (.tmp 28) ?_ ?_ (HA1.out.keep hSw) <;> rfl)
        (try simp only [Act.put, List.setIfInBounds_toArray, List.set_cons_zero, List.set_cons_succ])
        refine wpAnyH_take (i := 5) (oi := ({ dst := some 30, op := Op.move (Operand.tmp 1), type := 24, pos := "ref.go:15", after := #[], guard := none } : Oper)) (v := ?_) rfl (by kernel_rfl) (by kernel_rfl) (by kernel_rfl) (fun _ _ _ h => h) (Or.inl ⟨by rfl, ?_⟩) hS ?_
        rotate_left
        · (intro w hSw; (try dsimp only at hSw); go_simp; try with_reducible rfl)
        (try simp only [Act.put, List.setIfInBounds_toArray, List.set_cons_zero, List.set_cons_succ])
        refine wpAnyH_take (i := 6) (oi := ({ dst := some 31, op := Op.move (Operand.tmp 8), type := 3, pos := "ref.go:15", after := #[], guard := none } : Oper)) (v := ?_) rfl (by kernel_rfl) (by kernel_rfl) (by kernel_rfl) (fun _ _ _ h => h) (Or.inl ⟨by rfl, ?_⟩) hS ?_
        rotate_left
        · (intro w hSw; (try dsimp only at hSw); go_simp; try with_reducible rfl)
        (try simp only [Act.put, List.setIfInBounds_toArray, List.set_cons_zero, List.set_cons_succ])
        refine wpAnyH_take (i := 7) (oi := ({ dst := some 32, op := Op.indexAddr 24 (Operand.tmp 30) (Operand.tmp 31), type := 0, pos := "ref.go:15", after := #[{ on := 5, ground := Ground.data }, { on := 6, ground := Ground.data }], guard := none } : Oper)) (v := ?_) rfl (by kernel_rfl) (by kernel_rfl) (by kernel_rfl) (fun _ _ _ h => h) (Or.inl ⟨by rfl, ?_⟩) hS ?_
        rotate_left
        · (intro w hSw; (try dsimp only at hSw); go_simp; try with_reducible rfl)
        (try simp only [Act.put, List.setIfInBounds_toArray, List.set_cons_zero, List.set_cons_succ])
        refine wpAnyH_take (i := 8) (oi := ({ dst := some 33, op := Op.load 28 (Operand.tmp 32), type := 28, pos := "ref.go:15", after := #[{ on := 7, ground := Ground.data }], guard := none } : Oper)) (v := ?_) rfl (by kernel_rfl) (by kernel_rfl) (by kernel_rfl) (fun _ _ _ h => h) (Or.inl ⟨by rfl, ?_⟩) hS ?_
        rotate_left
        · (intro w hSw; (try dsimp only at hSw); refine exec_load_at (.tmp 32) ?_ ?_ (HA2.out.keep hSw) <;> rfl)
        (try simp only [Act.put, List.setIfInBounds_toArray, List.set_cons_zero, List.set_cons_succ])
        refine wpAnyH_take (i := 9) (oi := ({ dst := some 34, op := Op.fieldAddr 45 (Operand.tmp 5) 2, type := 0, pos := "ref.go:15", after := #[], guard := none } : Oper)) (v := ?_) rfl (by kernel_rfl) (by kernel_rfl) (by kernel_rfl) (fun _ _ _ h => h) (Or.inl ⟨by rfl, ?_⟩) hS ?_
        rotate_left
        · (intro w hSw; (try dsimp only at hSw); go_simp; try with_reducible rfl)
        (try simp only [Act.put, List.setIfInBounds_toArray, List.set_cons_zero, List.set_cons_succ])
        refine wpAnyH_take (i := 10) (oi := ({ dst := some 35, op := Op.load 3 (Operand.tmp 34), type := 3, pos := "ref.go:15", after := #[{ on := 9, ground := Ground.data }], guard := none } : Oper)) (v := ?_) rfl (by kernel_rfl) (by kernel_rfl) (by kernel_rfl) (fun _ _ _ h => h) (Or.inl ⟨by rfl, ?_⟩) hS ?_
        rotate_left
        · (intro w hSw; (try dsimp only at hSw); have z5 := cell_keep hSw HCX.out.2.2; go_simp; try with_reducible rfl)
        (try simp only [Act.put, List.setIfInBounds_toArray, List.set_cons_zero, List.set_cons_succ])
        refine rg_one 11 ({ dst := some 36, op := Op.call { callee := Callee.value (Operand.func 43), args := #[Operand.tmp 29, Operand.tmp 33, Operand.tmp 35], argTypes := #[28, 28, 3] }, type := 28, pos := "ref.go:15", after := #[{ on := 4, ground := Ground.data }, { on := 8, ground := Ground.data }, { on := 10, ground := Ground.data }], guard := none } : Oper) (by kernel_rfl) rfl (fun K hK => ?_)
        go_simp
        (go_at_call 43; (with_reducible refine (HMX.out _).mono ?_); rintro e w8 ⟨rfl, hb⟩; have HX8 : Hid (Below wr.heap.size wr w8) := Lib.hid (chain ((Below.refl _ _).drew) hb))
        refine hK.out _ _ ?_ (fun hS1 => ?_)
        · (first | exact hS | exact chain hS hb | exact hN)
        clear hK K hS; have hS := hS1; clear hS1
        (try simp only [Act.put, List.setIfInBounds_toArray, List.set_cons_zero, List.set_cons_succ])
        refine rg_one 12 ({ dst := some 37, op := Op.buildSlice 24 1 #[(0, Operand.tmp 36)], type := 24, pos := "ref.go:15", after := #[{ on := 11, ground := Ground.data }], guard := none } : Oper) (by kernel_rfl) rfl (fun K hK => ?_)
        rw [if_pos (by rfl)]; refine wp_build_sec (.tmp 36) rfl zm HZL.out rfl ?_; have hb := below_alloc w8 (.cells (sv zm) 28)
        refine hK.out _ _ ?_ (fun hS1 => ?_)
        · (first | exact hS | exact chain hS hb | exact hN)
        clear hK K hS; have hS := hS1; clear hS1
        (try simp only [Act.put, List.setIfInBounds_toArray, List.set_cons_zero, List.set_cons_succ])
        refine rg_one 13 ({ dst := some 38, op := Op.call { callee := Callee.builtin Builtin.append, args := #[Operand.tmp 25, Operand.tmp 37], argTypes := #[24, 24] }, type := 24, pos := "ref.go:15", after := #[{ on := 0, ground := Ground.data }, { on := 12, ground := Ground.data }, { on := 11, ground := Ground.chain }], guard := none } : Oper) (by kernel_rfl) rfl (fun K hK => ?_)
        rw [if_pos (by rfl)]; refine wp_app_sec (.tmp 25) (.tmp 37) rfl w0.heap.size _ i _ rfl (Lib.hid (own_keep HO.out (chain HX8.out (below_alloc w8 (.cells (sv zm) 28))))) w8.heap.size zm rfl (Blk.new w8 _ HZL.out) (by omega) w0.heap.size w0 (Lib.hid hS) (Nat.le_refl _) hS.size ?_; intro v9 w9 HO9 HB9; have hN := HB9.out
        refine hK.out _ _ ?_ (fun hS1 => ?_)
        · (first | exact hS | exact chain hS hb | exact hN)
        clear hK K hS; have hS := hS1; clear hS1
        (try simp only [Act.put, List.setIfInBounds_toArray, List.set_cons_zero, List.set_cons_succ])
        refine wpAnyH_take (i := 14) (oi := ({ dst := some 7, op := Op.assign (Operand.tmp 38), type := 24, pos := "ref.go:15", after := #[{ on := 13, ground := Ground.data }, { on := 13, ground := Ground.chain }, { on := 0, ground := Ground.phase }, { on := 1, ground := Ground.phase }, { on := 2, ground := Ground.phase }, { on := 3, ground := Ground.phase }, { on := 4, ground := Ground.phase }, { on := 5, ground := Ground.phase }, { on := 6, ground := Ground.phase }, { on := 7, ground := Ground.phase }, { on := 8, ground := Ground.phase }, { on := 9, ground := Ground.phase }, { on := 10, ground := Ground.phase }, { on := 11, ground := Ground.phase }, { on := 12, ground := Ground.phase }, { on := 13, ground := Ground.phase }], guard := none } : Oper)) (v := ?_) rfl (by kernel_rfl) (by kernel_rfl) (by kernel_rfl) (fun _ _ _ h => h) (Or.inl ⟨by rfl, ?_⟩) hS ?_
        rotate_left
        · (intro w hSw; (try dsimp only at hSw); go_simp; try with_reducible rfl)
        (try simp only [Act.put, List.setIfInBounds_toArray, List.set_cons_zero, List.set_cons_succ])
        refine wpAnyH_done (by kernel_rfl) ?_ _
        clear hS
        go_wp2
        exact ⟨⟨i + 1, by go_num, by omega, Lib.hid (by rw [HST.out]; exact HO9.out), HB9⟩, by simp [intOf]; omega⟩
      · obtain ⟨y, hy⟩ : ∃ y, bitI kb (i : Int) = y := ⟨_, rfl⟩
        have HBT : Hid (∀ w, RI .u8 w (.slice ak klen ck) klen kb → Calls Tryd.prog 44 #[.slice ak klen ck, .int .i64 i] w fun e w' => e = .returned (.bool y) ∧ Below w.heap.size w w') := Lib.hid fun w h => by
          have := rbit_ri _ klen kb i w h HKB.out (by unfold I63; omega); rwa [hy] at this
        cases y with
        | true =>
          have HSC : Hid (leaves kb torn cut z1 z2 i = z2) := Lib.hid (by unfold leaves; rw [if_neg htt, if_pos hy])
          clear hy
          have HZL : Hid (z2.length = 64) := Lib.hid HA2.out.1
          rw [HSC.out] at HST
          go_wp2_with (first
            | (go_at_call 44; (with_reducible refine (HBT.out _ (HK.out.keep (chain HB0.out HB.out))).mono ?_); rintro e w5 ⟨rfl, hb⟩; have HB5 := Lib.hid hb; have HA5 := Lib.hid ((HA2.out.keep HB.out).keep hb); clear hb)
            | (refine wpl_load_at rfl _ rfl b2 _ rfl z2 HA5.out ?_)
            | (refine wpl_build_sec rfl _ rfl z2 HZL.out rfl ?_)
            | (at_builtin; refine wpl_app_sec rfl (.tmp 43) (.tmp 48) rfl w0.heap.size _ i _ rfl (Lib.hid (own_keep HO.out (chain HB5.out (below_alloc w5 (.cells (sv z2) 28))))) w5.heap.size z2 rfl (Blk.new w5 _ HZL.out) (by omega) w0.heap.size w0 (Lib.hid (chain HB.out (chain HB5.out (below_alloc w5 (.cells (sv z2) 28))))) (Nat.le_refl _) (by rw [alloc_size]; have := HB.out.size; have := HB5.out.size; omega) ?_; intro v9 w9 HO9 HB9))
          go_roundw
          case rel => exact ⟨i + 1, by go_num, by omega, Lib.hid (by rw [HST.out]; exact HO9.out), HB9⟩
          case measure => simp [intOf]; omega
        | false =>
          have HSC : Hid (leaves kb torn cut z1 z2 i = z1) := Lib.hid (by unfold leaves; rw [if_neg htt, if_neg (by rw [hy]; simp)])
          clear hy
          have HZL : Hid (z1.length = 64) := Lib.hid HA1.out.1
          rw [HSC.out] at HST
          go_wp2_with (first
            | (go_at_call 44; (with_reducible refine (HBT.out _ (HK.out.keep (chain HB0.out HB.out))).mono ?_); rintro e w5 ⟨rfl, hb⟩; have HB5 := Lib.hid hb; have HA5 := Lib.hid ((HA1.out.keep HB.out).keep hb); clear hb)
            | (refine wpl_load_at rfl _ rfl b1 _ rfl z1 HA5.out ?_)
            | (refine wpl_build_sec rfl _ rfl z1 HZL.out rfl ?_)
            | (at_builtin; refine wpl_app_sec rfl (.tmp 50) (.tmp 55) rfl w0.heap.size _ i _ rfl (Lib.hid (own_keep HO.out (chain HB5.out (below_alloc w5 (.cells (sv z1) 28))))) w5.heap.size z1 rfl (Blk.new w5 _ HZL.out) (by omega) w0.heap.size w0 (Lib.hid (chain HB.out (chain HB5.out (below_alloc w5 (.cells (sv z1) 28))))) (Nat.le_refl _) (by rw [alloc_size]; have := HB.out.size; have := HB5.out.size; omega) ?_; intro v9 w9 HO9 HB9))
          go_roundw
          case rel => exact ⟨i + 1, by go_num, by omega, Lib.hid (by rw [HST.out]; exact HO9.out), HB9⟩
          case measure => simp [intOf]; omega
    · have hq : i = q := by omega
      subst hq
      by_cases hlt1 : (i : Int) < (n : Int)
      · have hlt2 : ¬ (i : Int) < (m : Int) := by have := HQ.out; omega
        go_wp2
        go_ret
        exact ⟨_, rfl, FS.own HO.out, chain HB0.out HB.out⟩
      · go_wp2
        go_ret
        exact ⟨_, rfl, FS.own HO.out, chain HB0.out HB.out⟩
end Go.Proofs.YtepaghohojomeaaDoor
/-
  LAYER 19 (scan): what a whole segment's sectors have, and what a crash that tears none leaves of two (plain mathematics). No condition.
-/
namespace Go.Proofs.YtepaghohojomeaaDoor
open Go.RowKit
theorem apply_sec (kb : List Int) (torn cut : Int) (os ns : List Int) (ho : os.length = 16 * 64) (hn : ns.length = 16 * 64) (i : Nat) : ∀ k, i < k → k ≤ 16 → secOf (applyN kb torn cut os ns k) i = leaves kb torn cut (sct os i) (sct ns i) i
  | 0, h, _ => absurd h (by omega)
  | k + 1, h, hk => by
    have hl := applyN_length kb torn cut os ns 16 16 ho hn k (by omega) (by omega)
    rw [applyN]
    by_cases hik : i < k
    · rw [← apply_sec kb torn cut os ns ho hn i k hik (by omega)]
      unfold secOf
      rw [List.drop_append_of_le_length (by omega), List.take_append_of_le_length (by simp; omega)]
    · obtain rfl : i = k := by omega
      unfold secOf
      rw [← hl, List.drop_left]
      refine List.take_of_length_le ?_
      rw [leaves_length _ _ _ _ _ _ (sct_length _ 16 _ ho (by omega)) (sct_length _ 16 _ hn (by omega))]
      exact Nat.le_refl _
theorem okAt_same {x : Int} {n : Nat} {fs gs : List Int} {i : Nat} (h : secOf fs i = secOf gs i) : okAt x n fs i = okAt x n gs i := by unfold okAt; rw [h]
theorem roomAt_same {x : Int} {n : Nat} {fs gs : List Int} {i : Nat} (h : secOf fs i = secOf gs i) : roomAt x n fs i = roomAt x n gs i := by unfold roomAt; rw [okAt_same h, h]
theorem touch_lt (e i : Nat) : i < (touchN 0 e).2 ↔ 52 * i < e := by
  unfold touchN
  split
  · show i < (e - 1) / 52 + 1 ↔ _
    omega
  · show i < 0 ↔ _
    omega
theorem whole_ok {x : Int} (hx : U64 x) (h0 : x ≠ 0) {ls : List (List Int)} (n : Nat) (i : Nat) (hi : i < 16) : okAt x 16 (wholeK x (bodyF (x % 4294967296) (ls.take n)) (touchN 0 (endF (ls.take n))).2 16) i = decide (52 * i < endF (ls.take n)) := by
  rw [okAt_whole x hx h0 _ _ i hi]
  exact decide_eq_decide.2 (touch_lt _ _)
theorem body_end {x : Int} {ls : List (List Int)} (hg : GoodF ls ls.length) (j : Nat) (hj : endF ls ≤ j) : (bodyF (x % 4294967296) ls).getD j 0 = 0 := by
  have h1 := body_out hg (x % 4294967296) ls.length (Nat.le_refl _) j
  rw [List.take_length] at h1
  exact h1 hj
section
variable {x : Int} (hx : U64 x) (h0 : x ≠ 0) {ls : List (List Int)} (hg : GoodF ls ls.length)
include hx h0 hg
/-- a byte of a segment that is laid -/
theorem whole_get (n : Nat) (hn : n ≤ ls.length) (j : Nat) (hj : j < 832) :
    (flatB x 16 (wholeK x (bodyF (x % 4294967296) (ls.take n)) (touchN 0 (endF (ls.take n))).2 16) 16).getD j 0 = if j < endF (ls.take n) then (bodyF (x % 4294967296) ls).getD j 0 else 0 := by
  rw [back_get x hx h0 _ _ j hj, bodyF_len]
  have h1 := body_out hg (x % 4294967296) n hn j
  have h2 := body_pre hg (x % 4294967296) (k := n) (t := ls.length) hn (Nat.le_refl _) j
  rw [List.take_length] at h2
  have h3 := touch_lt (endF (ls.take n)) (j / 52)
  by_cases he : j < endF (ls.take n)
  · rw [if_pos he, if_pos ⟨by have := h3.2 (by omega); omega, hj⟩, h2 he]
  · rw [if_neg he]
    split
    · exact h1 (by omega)
    · rfl
theorem whole_room (n : Nat) (hn : n ≤ ls.length) (i r : Nat) (hi : i < 16) (hr : r < 52) :
    (roomAt x 16 (wholeK x (bodyF (x % 4294967296) (ls.take n)) (touchN 0 (endF (ls.take n))).2 16) i).getD r 0 = if 52 * i + r < endF (ls.take n) then (bodyF (x % 4294967296) ls).getD (52 * i + r) 0 else 0 := by
  rw [← flatB_get x 16 _ (wholeK_length _ _ _ 16) i r hr 16 hi]
  exact whole_get hx h0 hg n hn (52 * i + r) (by omega)
/-- what was laid, whole -/
theorem mixed_whole : Mixed (flatB x 16 (wholeK x (bodyF (x % 4294967296) ls) (touchN 0 (endF ls)).2 16) 16) (flatK x 16 (wholeK x (bodyF (x % 4294967296) ls) (touchN 0 (endF ls)).2 16) 16) (bodyF (x % 4294967296) ls) (endF ls) := by
  have hl : ls.take ls.length = ls := List.take_length
  have h1 := whole_room hx h0 hg ls.length (Nat.le_refl _)
  have h2 := whole_ok hx h0 (ls := ls) ls.length
  rw [hl] at h1 h2
  refine ⟨flatB_length _ _ _ (wholeK_length _ _ _ 16) 16, fun i hi h => ?_, fun i hi _ => .inl fun r hr => ?_⟩
  · rw [flatK_get _ _ _ i 16 hi, h2 i hi]; exact decide_eq_true h
  · rw [flatB_get x 16 _ (wholeK_length _ _ _ 16) i r hr 16 hi, h1 i r hi hr]
    split
    · rfl
    · exact (body_end hg _ (by omega)).symm
/-- behind a crash that tears no sector -/
theorem mixed_crash (n : Nat) (hn : n ≤ ls.length) (kb : List Int) (torn cut : Int) (ht : torn < 0) :
    Mixed (flatB x 16 (applyN kb torn cut (wholeK x (bodyF (x % 4294967296) (ls.take n)) (touchN 0 (endF (ls.take n))).2 16) (wholeK x (bodyF (x % 4294967296) ls) (touchN 0 (endF ls)).2 16) 16) 16)
      (flatK x 16 (applyN kb torn cut (wholeK x (bodyF (x % 4294967296) (ls.take n)) (touchN 0 (endF (ls.take n))).2 16) (wholeK x (bodyF (x % 4294967296) ls) (touchN 0 (endF ls)).2 16) 16) 16)
      (bodyF (x % 4294967296) ls) (endF (ls.take n)) := by
  have hl : ls.take ls.length = ls := List.take_length
  have n1 := whole_room hx h0 hg ls.length (Nat.le_refl _)
  have n2 := whole_ok hx h0 (ls := ls) ls.length
  rw [hl] at n1 n2
  have o1 := whole_room hx h0 hg n hn
  have o2 := whole_ok hx h0 (ls := ls) n
  have hle : endF (ls.take n) ≤ endF ls := by
    have := end_mono hg (k := n) (t := ls.length) hn (Nat.le_refl _)
    rwa [hl] at this
  have hos := wholeK_length x (bodyF (x % 4294967296) (ls.take n)) (touchN 0 (endF (ls.take n))).2 16
  have hns := wholeK_length x (bodyF (x % 4294967296) ls) (touchN 0 (endF ls)).2 16
  generalize wholeK x (bodyF (x % 4294967296) (ls.take n)) (touchN 0 (endF (ls.take n))).2 16 = os at *
  generalize wholeK x (bodyF (x % 4294967296) ls) (touchN 0 (endF ls)).2 16 = ns at *
  have hal := applyN_length kb torn cut os ns 16 16 hos hns 16 (Nat.le_refl _) (Nat.le_refl _)
  have hsec : ∀ i, i < 16 → secOf (applyN kb torn cut os ns 16) i = if bitI kb (i : Int) = true then secOf ns i else secOf os i := fun i hi => by
    rw [apply_sec kb torn cut os ns hos hns i 16 hi (Nat.le_refl _)]
    unfold leaves
    rw [if_neg (by omega)]
    rfl
  refine ⟨flatB_length _ _ _ hal 16, fun i hi h => ?_, fun i hi hK => ?_⟩
  · rw [flatK_get _ _ _ i 16 hi]
    have hs := hsec i hi
    by_cases hb : bitI kb (i : Int) = true
    · rw [if_pos hb] at hs
      rw [okAt_same hs, n2 i hi]; exact decide_eq_true (by omega)
    · rw [if_neg hb] at hs
      rw [okAt_same hs, o2 i hi]; exact decide_eq_true h
  · rw [flatK_get _ _ _ i 16 hi] at hK
    have hs := hsec i hi
    have hB : ∀ r, r < 52 → (flatB x 16 (applyN kb torn cut os ns 16) 16).getD (52 * i + r) 0 = (roomAt x 16 (applyN kb torn cut os ns 16) i).getD r 0 := fun r hr => flatB_get x 16 _ hal i r hr 16 hi
    by_cases hb : bitI kb (i : Int) = true
    · rw [if_pos hb] at hs
      refine .inl fun r hr => ?_
      rw [hB r hr, roomAt_same hs, n1 i r hi hr]
      split
      · rfl
      · exact (body_end hg _ (by omega)).symm
    · rw [if_neg hb] at hs
      rw [okAt_same hs, o2 i hi] at hK
      refine .inr ⟨of_decide_eq_true hK, fun r hr => ?_⟩
      rw [hB r hr, roomAt_same hs, o1 i r hi hr]
end
/-- what was laid ends cleanly -/
theorem whole_rest {x : Int} {ls : List (List Int)} (hg : GoodF ls ls.length) : restB 16 (wholeK x (bodyF (x % 4294967296) ls) (touchN 0 (endF ls)).2 16) (endF ls) = true := by
  refine restB_yes fun i _ hi => restS_yes fun k hk => ?_
  have hsec := secOf_whole x (bodyF (x % 4294967296) ls) (touchN 0 (endF ls)).2 i 16 hi
  have hbyte := sec_byte (wholeK x (bodyF (x % 4294967296) ls) (touchN 0 (endF ls)).2 16) i k hk
  rw [hsec] at hbyte
  unfold restAt
  rw [← hbyte]
  have htl := touch_lt (endF ls) i
  by_cases hin : i < (touchN 0 (endF ls)).2
  · rw [if_pos hin]
    have h52 := htl.1 hin
    by_cases hc : 12 ≤ k ∧ endF ls + 12 ≤ 52 * i + k
    · rw [sealed_get3 _ _ _ k hc.1 hk]
      have h1 : (partB (bodyF (x % 4294967296) ls) i).getD (k - 12) 0 = (bodyF (x % 4294967296) ls).getD (52 * i + (k - 12)) 0 := by
        unfold partB
        simp only [List.getD, List.getElem?_take, show k - 12 < 52 from by omega, if_true, List.getElem?_drop]
      rw [h1, body_end hg _ (by omega)]
      simp
    · have h1 : ¬ endF ls ≤ 52 * i := by omega
      by_cases h2 : 12 ≤ k
      · have h3 : ¬ endF ls + 12 ≤ 52 * i + k := fun q => hc ⟨h2, q⟩
        simp [h1, h3]
      · simp [h1, h2]
  · rw [if_neg hin]
    have : z64.getD k 0 = 0 := getD_replicate 64 k
    rw [this]
    simp
/-- what Scan tells of what was laid -/
theorem told_whole {x : Int} (hx : U64 x) (h0 : x ≠ 0) {ls : List (List Int)} (hg : GoodF ls ls.length) (h5 : ∀ z ∈ ls, z.length ≤ 512) :
    (scEnd (x % 4294967296) (flatB x 16 (wholeK x (bodyF (x % 4294967296) ls) (touchN 0 (endF ls)).2 16) 16) (flatK x 16 (wholeK x (bodyF (x % 4294967296) ls) (touchN 0 (endF ls)).2 16) 16)).recs = ls ∧
    (scEnd (x % 4294967296) (flatB x 16 (wholeK x (bodyF (x % 4294967296) ls) (touchN 0 (endF ls)).2 16) 16) (flatK x 16 (wholeK x (bodyF (x % 4294967296) ls) (touchN 0 (endF ls)).2 16) 16)).places = placesF ls ∧
    (scEnd (x % 4294967296) (flatB x 16 (wholeK x (bodyF (x % 4294967296) ls) (touchN 0 (endF ls)).2 16) 16) (flatK x 16 (wholeK x (bodyF (x % 4294967296) ls) (touchN 0 (endF ls)).2 16) 16)).fin = endF ls ∧
    scKind 16 (wholeK x (bodyF (x % 4294967296) ls) (touchN 0 (endF ls)).2 16) (endF ls) = 1 := by
  have hM := mixed_whole hx h0 hg
  have hl : ls.take ls.length = ls := List.take_length
  have he : 0 ≤ x % 4294967296 ∧ x % 4294967296 < 4294967296 := by omega
  obtain ⟨q, h1, h2, h3, h4, h6⟩ := mixed_told he hg h5 (n := ls.length) (Nat.le_refl _) (by rw [hl]; exact hM)
  obtain rfl : q = ls.length := by omega
  rw [hl] at h3 h4 h6
  refine ⟨h3, h4, h6, ?_⟩
  unfold scKind
  rw [whole_rest hg, if_pos rfl]
/-- what Scan tells behind a crash that tears no sector -/
theorem told_crash {x : Int} (hx : U64 x) (h0 : x ≠ 0) {ls : List (List Int)} (hg : GoodF ls ls.length) (h5 : ∀ z ∈ ls, z.length ≤ 512) (n : Nat) (hn : n ≤ ls.length) (kb : List Int) (torn cut : Int) (ht : torn < 0) (fs : List Int)
    (hfs : applyN kb torn cut (wholeK x (bodyF (x % 4294967296) (ls.take n)) (touchN 0 (endF (ls.take n))).2 16) (wholeK x (bodyF (x % 4294967296) ls) (touchN 0 (endF ls)).2 16) 16 = fs) :
    ∃ q, n ≤ q ∧ q ≤ ls.length ∧ (scEnd (x % 4294967296) (flatB x 16 fs 16) (flatK x 16 fs 16)).recs = ls.take q := by
  have he : 0 ≤ x % 4294967296 ∧ x % 4294967296 < 4294967296 := by omega
  obtain ⟨q, h1, h2, h3, _⟩ := mixed_told he hg h5 hn (mixed_crash hx h0 hg n hn kb torn cut ht)
  rw [hfs] at h3
  exact ⟨q, h1, h2, h3⟩
end Go.Proofs.YtepaghohojomeaaDoor
/-
  LAYER 20 (tear), plain mathematics: the places of intended fragments at which another one is told (clR: of a record; clF: of first records); what it means that there are none. No condition.
-/
namespace Go.Proofs.YtepaghohojomeaaDoor
open Go.RowKit
/-- is another one than the intended fragment told at a piece's place? -/
def clB (ep : Int) (B : List Int) (K : List Bool) (zs : List Int) (c : PC) : Bool :=
  decide ((scF ep B K c.at_.toNat).2 ≠ 0) && !decide ((scF ep B K c.at_.toNat).1 = frOf ep zs c)
/-- the places of a record's pieces at which it is so -/
def clR (ep : Int) (B : List Int) (K : List Bool) (zs : List Int) (ps : List PC) : List Int := (ps.filter (clB ep B K zs)).map PC.at_
/-- .. of the first k records -/
noncomputable def clF (ep : Int) (B : List Int) (K : List Bool) (ls : List (List Int)) : Nat → List Int
  | 0 => []
  | k + 1 => clF ep B K ls k ++ clR ep B K (ls.getD k []) (pcsI ((endF (ls.take k) : Nat) : Int) (ls.getD k []).length)
section
variable {ep : Int} {B : List Int} {K : List Bool} {zs : List Int} {ps : List PC} {c : PC} {i : Nat} {ls : List (List Int)}
theorem clR_nil : clR ep B K zs [] = [] := rfl
theorem clR_snoc : clR ep B K zs (ps ++ [c]) = clR ep B K zs ps ++ (if clB ep B K zs c = true then [c.at_] else []) := by
  unfold clR
  rw [List.filter_append, List.map_append]
  congr 1
  by_cases h : clB ep B K zs c = true
  · rw [if_pos h]; simp [h]
  · rw [if_neg h]; simp [h]
theorem pcs_take (hi : ps[i]? = some c) : ps.take (i + 1) = ps.take i ++ [c] := by
  rw [List.take_add_one, hi]; rfl
theorem clR_yes (hi : ps[i]? = some c) (h : clB ep B K zs c = true) : clR ep B K zs (ps.take (i + 1)) = clR ep B K zs (ps.take i) ++ [c.at_] := by
  rw [pcs_take hi, clR_snoc, if_pos h]
theorem clR_no (hi : ps[i]? = some c) (h : clB ep B K zs c = false) : clR ep B K zs (ps.take (i + 1)) = clR ep B K zs (ps.take i) := by
  rw [pcs_take hi, clR_snoc, if_neg (by rw [h]; simp), List.append_nil]
theorem clR_len : (clR ep B K zs ps).length ≤ ps.length := by
  unfold clR; rw [List.length_map]; exact List.length_filter_le _ _
theorem clF_zero : clF ep B K ls 0 = [] := rfl
theorem clF_len : ∀ k, (clF ep B K ls k).length ≤ 75 * k
  | 0 => by simp [clF]
  | k + 1 => by
    have h1 := clF_len k
    have h2 := clR_len (ep := ep) (B := B) (K := K) (zs := ls.getD k []) (ps := pcsI ((endF (ls.take k) : Nat) : Int) (ls.getD k []).length)
    have h3 := pcs_len ((endF (ls.take k) : Nat) : Int) (ls.getD k []).length
    rw [clF, List.length_append]; omega
theorem clB_none (h : (scF ep B K c.at_.toNat).2 = 0) : clB ep B K zs c = false := by unfold clB; rw [h]; rfl
theorem clB_some {f : FR} {n : Nat} (h : scF ep B K c.at_.toNat = (f, n)) (hn : n ≠ 0) : clB ep B K zs c = !decide (f = frOf ep zs c) := by
  unfold clB; rw [h]; simp [hn]
/-- the i-th piece's fragment -/
theorem frOf_frI (ep : Int) (a : Nat) (zs : List Int) (i : Nat) : frOf ep zs (pcS a zs.length i) = frI ep a zs i := by
  unfold frI frOf pcS
  simp only [Int.toNat_natCast]
theorem pcS_at (a n i : Nat) : (pcS a n i).at_.toNat = bS a n i := by
  unfold pcS; simp only [Int.toNat_natCast]
/-- none is told, or the intended one -/
theorem clB_iff {a m : Nat} (h : Laid a zs m) (hi : i < m) (hB : B.length = 832) :
    clB ep B K zs (pcS a zs.length i) = false ↔ (scF ep B K (bS a zs.length i) = (frI ep a zs i, szI a zs i) ∨ (scF ep B K (bS a zs.length i)).2 = 0) := by
  have hr := h.room hi
  have hd := h.data hi ep
  unfold clB
  rw [pcS_at, frOf_frI]
  constructor
  · intro hc
    by_cases h0 : (scF ep B K (bS a zs.length i)).2 = 0
    · exact .inr h0
    · rw [decide_eq_true h0, Bool.true_and, Bool.not_eq_false', decide_eq_true_eq] at hc
      refine .inl ?_
      obtain ⟨_, _, h3, _, h5⟩ := scF_some h0
      have hp := scD_parts hB (by omega) h3
      rw [h5] at hc ⊢
      have hc : (scD ep B (bS a zs.length i)).1 = frI ep a zs i := hc
      have h4 := hp.2.2.2.1
      rw [hc, hd] at h4
      rw [hc]
      refine congrArg (Prod.mk _) ?_
      unfold szI
      omega
  · rintro (h1 | h1)
    · rw [h1]; simp
    · rw [h1]; rfl
theorem clR_iff {a m : Nat} (h : Laid a zs m) (hB : B.length = 832) :
    clR ep B K zs (pcsI (a : Int) zs.length) = [] ↔ ∀ i, i < m → (scF ep B K (bS a zs.length i) = (frI ep a zs i, szI a zs i) ∨ (scF ep B K (bS a zs.length i)).2 = 0) := by
  rw [h.pcs]
  unfold clR
  rw [List.map_eq_nil_iff, List.filter_eq_nil_iff]
  constructor
  · intro hc i hi
    refine (clB_iff h hi hB).1 ?_
    have := hc (pcS a zs.length i) (List.mem_of_getElem? (firstP_get a zs.length m i hi))
    simpa using this
  · intro hc c hmem
    obtain ⟨i, hi⟩ := List.getElem?_of_mem hmem
    have him : i < m := by have := (List.getElem?_eq_some_iff.1 hi).1; rwa [firstP_len] at this
    rw [firstP_get a zs.length m i him] at hi
    obtain rfl := Option.some.inj hi
    rw [(clB_iff h him hB).2 (hc i him)]
    simp
theorem clF_iff (hg : GoodF ls ls.length) (hB : B.length = 832) : ∀ t, t ≤ ls.length → (clF ep B K ls t = [] ↔ ∀ k, k < t → InOut ep B K ls k)
  | 0, _ => ⟨fun _ k hk => absurd hk (by omega), fun _ => rfl⟩
  | t + 1, ht => by
    obtain ⟨m, hl⟩ := laid_k hg (k := t) (by omega)
    rw [clF, List.append_eq_nil_iff, clF_iff hg hB t (by omega)]
    constructor
    · rintro ⟨h1, h2⟩ k hk
      by_cases hkt : k < t
      · exact h1 k hkt
      · obtain rfl : k = t := by omega
        intro m' hl'
        exact (clR_iff hl' hB).1 h2
    · intro h
      exact ⟨fun k hk => h k (by omega), (clR_iff hl hB).2 (h t (by omega) m hl)⟩
end
/-- bytes that are a fragment's, in sectors that are stamped, are told as it -/
theorem scF_same {ep' k : Int} {B : List Int} {K : List Bool} {d : List Int} {p : Nat} (hB : B.length = 832) (hk : fragOk k d.length = true) (he : 0 ≤ ep' ∧ ep' < 4294967296) (hs : p + (11 + d.length) ≤ 832) (hl : 11 + d.length ≤ leftN p)
    (hc : covAt K (p : Int) ((p + (11 + d.length) : Nat) : Int) = true) (hat : ∀ j, j < 11 + d.length → B.getD (p + j) 0 = (fragB k ep' d).getD j 0) : scF ep' B K p = (⟨k, ep', d⟩, 11 + d.length) := by
  have hD := scD_same hB hk he hs hl hat
  have h11 : covAt K (p : Int) ((p + 11 : Nat) : Int) = true := (covat_iff K p (p + 11) (by omega) (by omega)).2 fun i h1 h2 => (covat_iff K p (p + (11 + d.length)) (by omega) hs).1 hc i h1 (by omega)
  rw [scF_yes (by omega) h11 (by rw [hD]) (by rw [hD]; exact hc), hD]
/-- what sectors keep, whatever the crash: what was synced ends at e, what was seen at E -/
structure Kept (B : List Int) (K : List Bool) (body : List Int) (e E : Nat) : Prop where
  len : B.length = 832
  synced : ∀ i, i < 16 → 52 * i < e → K.getD i false = true
  low : ∀ j, j < e → B.getD j 0 = body.getD j 0
  high : ∀ j, E ≤ j → j < 832 → B.getD j 0 = 0
/-- a fragment's parts, of a record that is laid -/
theorem frag_parts {ep : Int} {a m : Nat} {zs : List Int} (h : Laid a zs m) {i : Nat} (hi : i < m) :
    fragOk (frI ep a zs i).kind (frI ep a zs i).data.length = true ∧ szI a zs i = 11 + (frI ep a zs i).data.length ∧ bS a zs.length i + (11 + (frI ep a zs i).data.length) ≤ 832 ∧ 11 + (frI ep a zs i).data.length ≤ leftN (bS a zs.length i) ∧ bS a zs.length i % 52 ≤ 41 := by
  obtain ⟨r1, r2, r3, r4, r5, r6⟩ := h.room hi
  have hd := h.data hi ep
  have hsz : szI a zs i = 11 + (frI ep a zs i).data.length := by rw [hd]; rfl
  have hkd : 1 ≤ (frI ep a zs i).kind ∧ (frI ep a zs i).kind ≤ 4 := kind_bd _ _
  have hl8 := left_le208 (bS a zs.length i)
  exact ⟨decide_eq_true ⟨hkd.1, hkd.2, by omega⟩, hsz, by omega, by omega, r5⟩
section
variable {B : List Int} {K : List Bool} {ep : Int} {ls : List (List Int)} {n : Nat}
theorem low_end (hg : GoodF ls ls.length) (hn : n ≤ ls.length) {k m : Nat} (hk : k < n) (h : Laid (endF (ls.take k)) (ls.getD k []) m) {i : Nat} (hi : i < m) : bS (endF (ls.take k)) (ls.getD k []).length i + szI (endF (ls.take k)) (ls.getD k []) i ≤ endF (ls.take n) := by
  obtain ⟨r1, _⟩ := h.room hi
  have h2 := h.mono (i := i + 1) (t := m) (by omega) (Nat.le_refl _)
  have h3 : endF (ls.take (k + 1)) = pS (endF (ls.take k)) (ls.getD k []).length m := by rw [endF_next ls k (by omega), h.end_]
  have h4 := end_mono hg (k := k + 1) (t := n) (by omega) hn
  omega
theorem high_begin (hg : GoodF ls ls.length) {k m : Nat} (hk : n ≤ k) (hk2 : k < ls.length) (h : Laid (endF (ls.take k)) (ls.getD k []) m) {i : Nat} (hi : i < m) : endF (ls.take n) ≤ bS (endF (ls.take k)) (ls.getD k []).length i := by
  have h2 := end_mono hg (k := n) (t := k) hk (by omega)
  obtain ⟨_, _, _, r4, _⟩ := h.room hi
  have h3 := h.mono (i := 0) (t := i) (Nat.zero_le _) (by omega)
  rw [pS_zero] at h3
  omega
/-- what was synced is told -/
theorem Kept.allin (he : 0 ≤ ep ∧ ep < 4294967296) (hg : GoodF ls ls.length) (hn : n ≤ ls.length) {E : Nat} (M : Kept B K (bodyF ep ls) (endF (ls.take n)) E) {k : Nat} (hk : k < n) : AllIn ep B K ls k := fun m h i hi => by
  obtain ⟨hok, hsz, h8, hl, _⟩ := frag_parts (ep := ep) h hi
  have hE := low_end hg hn hk h hi
  rw [hsz] at hE ⊢
  refine scF_same (k := (frI ep (endF (ls.take k)) (ls.getD k []) i).kind) (d := (frI ep (endF (ls.take k)) (ls.getD k []) i).data) M.len hok he h8 hl ((covat_iff K _ _ (by omega) h8).2 fun q h1 h2 => M.synced q (by omega) (by omega)) fun j hj => ?_
  rw [M.low _ (by omega)]
  exact body_at hg ep (by omega) h hi j (by omega)
/-- records of which each intended fragment is told, or none: some first ones are told, all that were synced among them -/
theorem Kept.told (he : 0 ≤ ep ∧ ep < 4294967296) (hg : GoodF ls ls.length) (h5 : ∀ z ∈ ls, z.length ≤ 512) (hn : n ≤ ls.length) (M : Kept B K (bodyF ep ls) (endF (ls.take n)) (endF ls)) (hc : clF ep B K ls ls.length = []) :
    ∃ q, n ≤ q ∧ q ≤ ls.length ∧ (scEnd ep B K).recs = ls.take q := by
  have hio := (clF_iff hg M.len ls.length (Nat.le_refl _)).1 hc
  have hend : (scF ep B K (beginN (endF ls))).2 = 0 := by
    have hge := begin_ge (endF ls)
    rcases begin_room (endF ls) (endF_le ls) with h | ⟨h1, h2⟩
    · rw [scF_far h]
    · have := left_le (beginN (endF ls)) (begin_le _ (endF_le ls))
      rw [scF_err (scD_zero M.len (by omega) h1 fun j hj => M.high _ (by omega) (by omega))]
  obtain ⟨q, h1, h2, _, _, h6⟩ := recs_all M.len hg h5 hio hend
  refine ⟨q, ?_, h1, h2⟩
  by_cases hqn : n ≤ q
  · exact hqn
  · exact absurd (M.allin he hg hn (k := q) (by omega)) (h6 (by omega))
end
end Go.Proofs.YtepaghohojomeaaDoor
