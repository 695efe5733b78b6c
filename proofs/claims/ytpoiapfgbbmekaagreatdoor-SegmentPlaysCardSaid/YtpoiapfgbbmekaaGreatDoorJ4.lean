/-
  TEXTS JOINED: Drawn, Two, BitR, Bit, Tmask, DiskCr, DiskGood. Each one's own words stand at its head.
-/
import Derived.Test.YtpoiapfgbbmekaaGreatDoorJ0
import Derived.Deep.QuietTactic
import Derived.BigQuiet
import Derived.Below
import Derived.Test.YtpoiapfgbbmekaaGreatDoorJ3
import Derived.Lib.Hide
import Derived.Deep.RegionHeld3
import Derived.Sort.Walk0
namespace Go.Proofs.YtpoiapfgbbmekaaGreatDoor
open Go.RowKit
def Drawn (w w' : World) : Prop := ∃ n, w' = w.drewN n
theorem Drawn.cell {w w' : World} (h : Drawn w w') (a : Addr) : w'.cell? a = w.cell? a := by obtain ⟨n, rfl⟩ := h; simp
theorem Drawn.refl (w : World) : Drawn w w := ⟨0, rfl⟩
theorem Drawn.then {w w' : World} (h : Drawn w w') (n : Nat) : Drawn w (w'.drewN n) := by obtain ⟨m, rfl⟩ := h; exact ⟨_, World.drewN_drewN _ _ _⟩
theorem quiet_eq {P : Program} {f : FuncId} {args : Array Value} {w : World} {n : Nat} {v : Value}
    (h : Calls P f args (w.drewN n) fun e w' => e = .returned v ∧ w.drewN n = w') : Calls P f args (w.drewN n) fun e w'' => e = .returned v ∧ ∃ m, w'' = w.drewN m :=
  h.mono fun _ _ ⟨he, hm⟩ => ⟨he, n, hm.symm⟩
theorem Drawn.grown {w w' : World} (h : Drawn w w') : Below w.heap.size w w' := by
  obtain ⟨n, rfl⟩ := h
  exact ⟨rfl, rfl, rfl, Nat.le_refl _, fun _ _ => rfl⟩
end Go.Proofs.YtpoiapfgbbmekaaGreatDoor
namespace Go.Proofs.YtpoiapfgbbmekaaGreatDoor
open Go.RowKit
set_option maxHeartbeats 400000 in
theorem two_any (n : Int) (h : I63 n) (w : World) : Calls Tryz.prog 93 #[.int .i64 n] w fun e w' => e = .returned (.int .u64 (two n.toNat)) ∧ w = w' := by
  unfold I63 at h
  go_enter Tryz.func93, Tryz.ntmps93
  go_wp2
  go_loop [3, 4] (fun t i => ∃ k : Nat, (k : Int) ≤ max n 0 ∧ i = .int .i64 k ∧ t = .int .u64 (two k)) (fun _ i => n.toNat - (intOf i).toNat)
  case atStart => exact ⟨0, by omega, rfl, rfl⟩
  case round =>
    obtain ⟨k, hk, rfl, rfl⟩ := hrel
    by_cases hlt : (k : Int) < n
    · go_wp2
      go_round
      case rel => exact ⟨k + 1, by omega, by go_num, by rw [two_succ]⟩
      case measure => simp [intOf]; omega
    · go_wp2
      go_ret
      exact ⟨ret_int (by congr 1; omega), rfl⟩
theorem two_at (n : Int) (k : Nat) (hn : n = k) (h : k < 9223372036854775808) (w : World) : Calls Tryz.prog 93 #[.int .i64 n] w fun e w' => e = .returned (.int .u64 (two k)) ∧ w = w' :=
  (two_any n (by unfold I63; omega) w).mono fun _ _ ⟨he, hw⟩ => ⟨by rw [he, hn, Int.toNat_natCast], hw⟩
end Go.Proofs.YtpoiapfgbbmekaaGreatDoor
namespace Go.Proofs.YtpoiapfgbbmekaaGreatDoor
open Go.RowKit
def bitB (zs : List Int) (k : Nat) : Bool := decide (zs.getD (k / 8) 0 / 2 ^ (k % 8) % 2 = 1)
theorem bit_mask (x : Int) (h : 0 ≤ x ∧ x ≤ 255) (s : Nat) : (bits .and .u8 (x / 2 ^ s) 1 == 1) = decide (x / 2 ^ s % 2 = 1) := by
  have h0 : 0 ≤ x / 2 ^ s := Int.ediv_nonneg h.1 (Int.le_of_lt (pow_pos' _))
  have h1 : x / 2 ^ s ≤ x := Int.ediv_le_self _ h.1
  rw [show bits .and .u8 (x / 2 ^ s) 1 = x / 2 ^ s % 2 from bits_mask .u8 8 (by decide) wraps_u8 1 (by decide) _ h0 (by omega)]
  rw [Bool.eq_iff_iff]; simp
theorem rbit_no (a : Option Addr) (len cap : Nat) (i : Int) (w : World) (hi : I63 i) (h : i < 0 ∨ (0 ≤ i ∧ (len : Int) ≤ i / 8)) :
    Calls Tryz.prog 58 #[.slice a len cap, .int .i64 i] w fun e w' => e = .returned (.bool false) ∧ Drawn w w' := by
  unfold I63 at hi
  rcases h with h | ⟨h, h1⟩
  · have hd : decide (0 ≤ i) = false := by simpa using h
    go_enter Tryz.func58, Tryz.ntmps58
    go_wp2_with fail
    go_quiet (fail)
    go_wp2
    go_ret
    exact ⟨rfl, ⟨_, rfl⟩⟩
  · have hd : decide (i / 8 < (len : Int)) = false := by simpa using h1
    go_enter Tryz.func58, Tryz.ntmps58
    go_wp2_with fail
    go_quiet (fail)
    go_wp2
    go_ret
    exact ⟨rfl, ⟨_, rfl⟩⟩
set_option maxHeartbeats 400000 in
theorem rbit_some (b off len cap : Nat) (zs : List Int) (k : Nat) (w : World) (hz : Bytes zs) (hi : (k : Int) ≤ 9223372036854775807) (hmax : len ≤ 9223372036854775807) (hk : k / 8 < len)
    (hc : ∀ j, j < len → w.cell? ⟨b, off + j, none⟩ = some (.int .u8 (zs.getD j 0))) :
    Calls Tryz.prog 58 #[.slice (some ⟨b, off, none⟩) len cap, .int .i64 k] w fun e w' => e = .returned (.bool (bitB zs k)) ∧ Drawn w w' := by
  have h1 : (k : Int) / 8 < len := by omega
  have h3 : 0 ≤ (k : Int) / 8 := by omega
  have hcell : w.cell? ⟨b, off + k / 8, none⟩ = some (.int .u8 (zs.getD (k / 8) 0)) := hc _ hk
  have hb : 0 ≤ zs[k / 8]?.getD 0 ∧ zs[k / 8]?.getD 0 ≤ 255 := hz (k / 8)
  have ht := two_small (k % 8) (by omega)
  have ht1 := two_pos (k % 8) (by omega)
  have HT := Lib.hid ht; clear ht
  have hq0 : 0 ≤ zs[k / 8]?.getD 0 / two (k % 8) := Int.ediv_nonneg hb.1 (by omega)
  go_enter Tryz.func58, Tryz.ntmps58
  go_wp2_with fail
  have hu : IntKind.u64.wrap (zs[k / 8]?.getD 0) = zs[k / 8]?.getD 0 := IntWalk.u64_in _ (by omega)
  go_quiet ((go_at_call 93; exact quiet_eq (two_at _ (k % 8) (by omega) (by omega) _)))
  clear hu
  go_wp2
  go_ret
  refine ⟨ret_bool ?_, ⟨_, rfl⟩⟩
  rw [HT.out]
  unfold bitB
  rw [Bool.eq_iff_iff]; simp
def bitI (zs : List Int) (i : Int) : Bool := decide (0 ≤ i) && decide (i / 8 < (zs.length : Int)) && bitB zs i.toNat
theorem rbit_ri (v : Value) (len : Nat) (zs : List Int) (i : Int) (w : World) (h : RI .u8 w v len zs) (hz : Bytes zs) (hi : I63 i) :
    Calls Tryz.prog 58 #[v, .int .i64 i] w fun e w' => e = .returned (.bool (bitI zs i)) ∧ Below w.heap.size w w' := by
  have hl := h.length
  have hle := h.le
  unfold I63 at hi
  by_cases h1 : 0 ≤ i ∧ i / 8 < (len : Int)
  · obtain ⟨k, rfl⟩ : ∃ k : Nat, i = (k : Int) := ⟨i.toNat, by omega⟩
    obtain ⟨b, off, cap, rfl, _, _, hc⟩ := h.open_ (by omega)
    refine (rbit_some b off len cap zs k w hz (by omega) hle (by omega) hc).mono ?_
    rintro e w' ⟨rfl, n, rfl⟩
    refine ⟨?_, ?_⟩
    · unfold bitI; rw [hl, decide_eq_true h1.1, decide_eq_true h1.2]; rfl
    · exact ⟨rfl, rfl, rfl, Nat.le_refl _, fun _ _ => rfl⟩
  · obtain ⟨a, cap, rfl, _⟩ := h
    refine (rbit_no a len cap i w (by unfold I63; omega) (by omega)).mono ?_
    rintro e w' ⟨rfl, n, rfl⟩
    refine ⟨?_, ?_⟩
    · unfold bitI
      rw [hl]
      by_cases h2 : 0 ≤ i
      · rw [decide_eq_false (p := i / 8 < (len : Int)) (by omega)]; simp
      · rw [decide_eq_false h2]; simp
    · exact ⟨rfl, rfl, rfl, Nat.le_refl _, fun _ _ => rfl⟩
end Go.Proofs.YtpoiapfgbbmekaaGreatDoor
namespace Go.Proofs.YtpoiapfgbbmekaaGreatDoor
open Go.RowKit
set_option maxHeartbeats 400000 in
theorem bit_some (b off len cap : Nat) (zs : List Int) (k : Nat) (w : World) (hz : Bytes zs) (hi : (k : Int) ≤ 9223372036854775807) (hmax : len ≤ 9223372036854775807) (hk : k / 8 < len)
    (hc : ∀ j, j < len → w.cell? ⟨b, off + j, none⟩ = some (.int .u8 (zs.getD j 0))) :
    Calls Tryz.prog 92 #[.slice (some ⟨b, off, none⟩) len cap, .int .i64 k] w fun e w' => e = .returned (.bool (bitB zs k)) ∧ w = w' := by
  have h1 : (k : Int) / 8 < len := by omega
  have hcell : w.cell? ⟨b, off + k / 8, none⟩ = some (.int .u8 (zs.getD (k / 8) 0)) := hc _ hk
  have hb : 0 ≤ zs[k / 8]?.getD 0 ∧ zs[k / 8]?.getD 0 ≤ 255 := hz (k / 8)
  have HB := Lib.hid (bit_mask _ hb (k % 8))
  go_enter Tryz.func92, Tryz.ntmps92
  go_wp2
  go_ret
  exact ⟨ret_bool HB.out, rfl⟩
theorem bit_no (a : Option Addr) (len cap : Nat) (i : Int) (w : World) (hi : I63 i) (h : i < 0 ∨ (0 ≤ i ∧ (len : Int) ≤ i / 8)) :
    Calls Tryz.prog 92 #[.slice a len cap, .int .i64 i] w fun e w' => e = .returned (.bool false) ∧ w = w' := by
  unfold I63 at hi
  rcases h with h | ⟨h, h1⟩
  all_goals
    go_enter Tryz.func92, Tryz.ntmps92
    go_wp2
    go_ret
    exact ⟨rfl, rfl⟩
end Go.Proofs.YtpoiapfgbbmekaaGreatDoor
namespace Go.Proofs.YtpoiapfgbbmekaaGreatDoor
open Go.RowKit
def hasT (T : TypeId) : Obj → Bool
  | .cells _ t _ => decide (t = T)
  | _ => false
def tmask (F : Nat → Bool) (B : Nat) (T : TypeId) (w : World) : World :=
  { w with heap := w.heap.mapIdx fun k o => bif F k || (decide (B ≤ k) && hasT T o) then .cells #[] 0 (0, 0) else o }
theorem tmask_heap (F : Nat → Bool) (B : Nat) (T : TypeId) (w : World) (k : Nat) : (tmask F B T w).heap[k]? = (w.heap[k]?).map fun o => bif F k || (decide (B ≤ k) && hasT T o) then .cells #[] 0 (0, 0) else o := by
  simp [tmask]
theorem tmask_cell {F : Nat → Bool} {B : Nat} {T : TypeId} {w : World} {a : Addr} {v : Value} (h : (tmask F B T w).cell? a = some v) :
    ∃ o, w.heap[a.block]? = some o ∧ F a.block = false ∧ (B ≤ a.block → hasT T o = false) ∧ w.cell? a = some v := by
  unfold World.cell? at h
  rw [tmask_heap] at h
  cases hq : w.heap[a.block]? with
  | none => simp [hq] at h
  | some o =>
    cases hf : (F a.block || (decide (B ≤ a.block) && hasT T o)) with
    | true => simp [hq, hf] at h
    | false =>
      simp only [Bool.or_eq_false_iff, Bool.and_eq_false_iff, decide_eq_false_iff_not] at hf
      refine ⟨o, rfl, hf.1, fun hb => ?_, ?_⟩
      · rcases hf.2 with h1 | h1
        · exact absurd hb h1
        · exact h1
      · have hf' : (F a.block || (decide (B ≤ a.block) && hasT T o)) = false := by
          simp only [Bool.or_eq_false_iff, Bool.and_eq_false_iff, decide_eq_false_iff_not]; exact hf
        unfold World.cell?
        rw [hq]
        simpa [hq, hf'] using h
theorem tmask_of {F : Nat → Bool} {B : Nat} {T : TypeId} {w : World} {a : Addr} {v : Value} {o : Obj} (ho : w.heap[a.block]? = some o) (hf : F a.block = false) (ht : B ≤ a.block → hasT T o = false) (h : w.cell? a = some v) : (tmask F B T w).cell? a = some v := by
  unfold World.cell? at h ⊢
  rw [tmask_heap, ho]
  have : (F a.block || (decide (B ≤ a.block) && hasT T o)) = false := by
    rw [hf]
    by_cases hb : B ≤ a.block
    · rw [ht hb]; simp
    · simp [hb]
  simp only [Option.map_some, this, cond_false]
  rw [ho] at h
  exact h
theorem tmask_mask (F : Nat → Bool) (B : Nat) (T : TypeId) (w : World) : Kin (tmask F B T w) (mask F w) := by
  intro a v h
  obtain ⟨o, ho, hf, _, hc⟩ := tmask_cell h
  unfold World.cell? at hc ⊢
  rw [mask_heap, ho]
  rw [ho] at hc
  simpa [hf] using hc
theorem tmask_below {F : Nat → Bool} {B : Nat} {T : TypeId} {w w' : World} (hb : Below w.heap.size w w') : Kin (tmask F B T w) (tmask F B T w') := by
  intro a v h
  obtain ⟨o, ho, hf, ht, hc⟩ := tmask_cell h
  have hlt := (Array.getElem?_eq_some_iff.1 ho).1
  exact tmask_of (by rw [hb.block _ hlt]; exact ho) hf ht (cell_keep hb hc)
theorem tmask_grown {F : Nat → Bool} {B : Nat} {T : TypeId} {w w' : World} {base size : Nat} {v : Value} {n : Nat} {xs : List Value} (hown : w.ownsRow base T size v n xs) (hB : B ≤ base) (hg : w.grownBy w' v.ownBlock) : Kin (tmask F B T w) (tmask F B T w') := by
  intro a u h
  obtain ⟨o, ho, hf, ht, hc⟩ := tmask_cell h
  have hlt := (Array.getElem?_eq_some_iff.1 ho).1
  have hne : some a.block ≠ v.ownBlock := by
    intro e
    rcases hown.2 with ⟨rfl, _⟩ | ⟨q, cap, cur, rfl, hq, hcur, _⟩
    · simp [Value.ownBlock] at e
    · simp only [Value.ownBlock, Option.some.injEq] at e
      rw [e, hcur] at ho
      obtain rfl := Option.some.inj ho
      have := ht (by omega)
      simp [hasT] at this
  have hbl := hg.block _ hlt hne
  refine tmask_of (by rw [hbl]; exact ho) hf ht ?_
  unfold World.cell? at hc ⊢
  rw [hbl]; exact hc
theorem own_tmask {F : Nat → Bool} {B : Nat} {T : TypeId} {w : World} {base : Nat} {e : TypeId} {size : Nat} {v : Value} {n : Nat} {xs : List Value} (hF : Foot F base) (hne : e ≠ T) (h : w.ownsRow base e size v n xs) : (tmask F B T w).ownsRow base e size v n xs := by
  refine ⟨h.1, ?_⟩
  rcases h.2 with h2 | ⟨g, cap, cur, hv, hg, hcur, h3⟩
  · exact .inl h2
  · refine .inr ⟨g, cap, cur, hv, hg, ?_, h3⟩
    have hf : F g = false := by
      cases hq : F g with
      | false => rfl
      | true => have := hF g hq; omega
    rw [tmask_heap, hcur]; simp [hf, hasT, hne]
end Go.Proofs.YtpoiapfgbbmekaaGreatDoor
namespace Go.Proofs.YtpoiapfgbbmekaaGreatDoor
open Go.RowKit
def secC (kb : List Int) (torn cut : Int) (las seen : List Int) (wt : Bool) (i : Nat) : List Int :=
  if wt = true then (if (i : Int) = torn then mixN las seen (cutN cut) else if bitI kb (i : Int) = true then seen else las) else las
def chunk (l : List Int) (j : Nat) : List Int := (l.drop (j * 64)).take 64
theorem chunk_length (l : List Int) (n j : Nat) (h : l.length = n * 64) (hj : j < n) : (chunk l j).length = 64 := by simp [chunk]; omega
theorem secC_length (kb : List Int) (torn cut : Int) (las seen : List Int) (wt : Bool) (i : Nat) (h : las.length = 64) (h2 : seen.length = 64) : (secC kb torn cut las seen wt i).length = 64 := by
  unfold secC
  split
  · split
    · exact mixN_length _ _ _ h h2 (by unfold cutN; omega)
    · split <;> assumption
  · exact h
def crS (kb : List Int) (torn cut : Int) (f : AF) (i0 : Nat) : Nat → List Int × Nat
  | 0 => ([], i0)
  | j + 1 => ((crS kb torn cut f i0 j).1 ++ secC kb torn cut (chunk f.las j) (chunk f.seen j) (f.ws.getD j false) (crS kb torn cut f i0 j).2, if f.ws.getD j false = true then (crS kb torn cut f i0 j).2 + 1 else (crS kb torn cut f i0 j).2)
theorem crS_length (kb : List Int) (torn cut : Int) (f : AF) (i0 : Nat) (hl : f.las.length = f.n * 64) (hs : f.seen.length = f.n * 64) : ∀ j, j ≤ f.n → (crS kb torn cut f i0 j).1.length = j * 64
  | 0, _ => by simp [crS]
  | j + 1, h => by
    simp only [crS, List.length_append]
    rw [crS_length kb torn cut f i0 hl hs j (by omega), secC_length _ _ _ _ _ _ _ (chunk_length _ f.n j hl (by omega)) (chunk_length _ f.n j hs (by omega))]
    omega
theorem crS_count (kb : List Int) (torn cut : Int) (f : AF) (i0 : Nat) : ∀ j, (crS kb torn cut f i0 j).2 ≤ i0 + j
  | 0 => by simp [crS]
  | j + 1 => by
    have := crS_count kb torn cut f i0 j
    simp only [crS]; split <;> omega
def crFile (kb : List Int) (torn cut : Int) (f : AF) (i0 : Nat) : AF := ⟨f.name, f.n, (crS kb torn cut f i0 f.n).1, (crS kb torn cut f i0 f.n).1, List.replicate f.n false⟩
def crL (kb : List Int) (torn cut : Int) (L : List AF) : Nat → List AF × Nat
  | 0 => ([], 0)
  | k + 1 => match L[k]? with
    | some f => ((crL kb torn cut L k).1 ++ [crFile kb torn cut f (crL kb torn cut L k).2], (crS kb torn cut f (crL kb torn cut L k).2 f.n).2)
    | none => crL kb torn cut L k
theorem crL_step (kb : List Int) (torn cut : Int) (L : List AF) (k : Nat) (f : AF) (h : L[k]? = some f) :
    crL kb torn cut L (k + 1) = ((crL kb torn cut L k).1 ++ [crFile kb torn cut f (crL kb torn cut L k).2], (crS kb torn cut f (crL kb torn cut L k).2 f.n).2) := by simp only [crL, h]
theorem crL_length (kb : List Int) (torn cut : Int) (L : List AF) : ∀ k, k ≤ L.length → (crL kb torn cut L k).1.length = k
  | 0, _ => rfl
  | k + 1, h => by
    obtain ⟨f, hf⟩ := row_some (L := L) (i := k) (by omega)
    rw [crL_step kb torn cut L k f hf]
    simp [crL_length kb torn cut L k (by omega)]
theorem crL_count (kb : List Int) (torn cut : Int) (L : List AF) : ∀ k, (crL kb torn cut L k).2 ≤ usedN (L.take k)
  | 0 => by simp [crL]
  | k + 1 => by
    have h := crL_count kb torn cut L k
    by_cases hk : k < L.length
    · obtain ⟨f, hf⟩ := row_some (L := L) (i := k) hk
      rw [crL_step kb torn cut L k f hf, usedN_take L k f hf]
      have := crS_count kb torn cut f (crL kb torn cut L k).2 f.n
      simp only; omega
    · have h0 : L[k]? = none := List.getElem?_eq_none (by omega)
      simp only [crL, h0]
      rw [List.take_of_length_le (by omega)] at h ⊢
      exact h
def AD.crashR (d : AD) (kb : List Int) (torn cut : Int) : AD := { L := (crL kb torn cut d.L d.L.length).1, cap := d.cap, ops := d.ops, down := false, told := false, after := 0 }
end Go.Proofs.YtpoiapfgbbmekaaGreatDoor
namespace Go.Proofs.YtpoiapfgbbmekaaGreatDoor
open Go.RowKit
def Asc (L : List AF) : Prop := L.Pairwise fun f g => gtN g.name f.name = true
structure GF (f : AF) : Prop where
  name : rightB f.name = true
  n1 : 1 ≤ f.n
  n64 : f.n ≤ 64
  las : f.las.length = f.n * 64
  seen : f.seen.length = f.n * 64
  ws : f.ws.length = f.n
  blas : Bytes f.las
  bseen : Bytes f.seen
structure Good (d : AD) : Prop where
  asc : Asc d.L
  file : ∀ f ∈ d.L, GF f
  few : d.L.length ≤ 64
  cap0 : 0 ≤ d.cap
  cap1 : d.cap ≤ 1048576
  used : (usedN d.L : Int) ≤ d.cap
  ops : I63 d.ops
  after : I63 d.after
theorem Asc.without {L : List AF} (h : Asc L) (s : ByteArray) : Asc (withoutF L s) := h.sublist List.filter_sublist
theorem mem_without {L : List AF} {s : ByteArray} {f : AF} : f ∈ withoutF L s ↔ f ∈ L ∧ f.name ≠ s := by
  unfold withoutF; simp [List.mem_filter]
theorem Asc.ins {L : List AF} (h : Asc L) (f : AF) (hn : ∀ g ∈ L, g.name ≠ f.name) : Asc (insF L f) := by
  have hd := List.take_append_drop (insK L f) L
  have h1 : ∀ g ∈ L.take (insK L f), gtN f.name g.name = true := by
    intro g hg
    obtain ⟨j, hj, rfl⟩ := List.getElem_of_mem hg
    rw [List.length_take] at hj
    rw [List.getElem_take]
    exact gtN_total (insK_not L f j (by omega)) (hn _ (List.getElem_mem _))
  have h2 : ∀ g ∈ L.drop (insK L f), gtN g.name f.name = true := by
    intro g hg
    by_cases hk : insK L f < L.length
    · have h3 := insK_at L f hk
      rw [List.drop_eq_getElem_cons hk] at hg
      rcases List.mem_cons.1 hg with rfl | hg
      · exact h3
      · have h4 : Asc (L.drop (insK L f)) := h.sublist (List.drop_sublist _ _)
        rw [List.drop_eq_getElem_cons hk] at h4
        exact gtN_trans ((List.pairwise_cons.1 h4).1 g hg) h3
    · rw [List.drop_eq_nil_of_le (by omega)] at hg; simp at hg
  unfold insF Asc
  rw [List.pairwise_append]
  refine ⟨h.sublist (List.take_sublist _ _), List.pairwise_cons.2 ⟨h2, h.sublist (List.drop_sublist _ _)⟩, ?_⟩
  intro a ha b hb
  rcases List.mem_cons.1 hb with rfl | hb
  · exact h1 a ha
  · exact gtN_trans (h2 b hb) (h1 a ha)
theorem mem_ins {L : List AF} {f g : AF} : g ∈ insF L f ↔ g = f ∨ g ∈ L := by
  unfold insF
  rw [List.mem_append, List.mem_cons]
  have hd : g ∈ L ↔ g ∈ L.take (insK L f) ∨ g ∈ L.drop (insK L f) := by rw [← List.mem_append, List.take_append_drop]
  rw [hd]
  constructor
  · rintro (h | h | h)
    · exact .inr (.inl h)
    · exact .inl h
    · exact .inr (.inr h)
  · rintro (h | h | h)
    · exact .inr (.inl h)
    · exact .inl h
    · exact .inr (.inr h)
theorem ins_len (L : List AF) (f : AF) : (insF L f).length = L.length + 1 := by unfold insF; have := insK_le L f; simp; omega
theorem without_room : ∀ (L : List AF) (f : AF), f ∈ L → usedN (withoutF L f.name) + f.n ≤ usedN L ∧ (withoutF L f.name).length + 1 ≤ L.length
  | [], _, h => by simp at h
  | x :: t, f, h => by
    have h3 := usedN_without t f.name
    have h4 : (withoutF t f.name).length ≤ t.length := List.length_filter_le ..
    unfold withoutF usedN at h3
    unfold withoutF at h4
    unfold withoutF usedN
    rcases List.mem_cons.1 h with rfl | h
    · simp only [List.filter_cons, decide_true, Bool.not_true, Bool.false_eq_true, if_false, List.map_cons, List.sum_cons, List.length_cons]
      omega
    · obtain ⟨h1, h2⟩ := without_room t f h
      unfold withoutF usedN at h1
      unfold withoutF at h2
      simp only [List.filter_cons]
      split <;> simp only [List.map_cons, List.sum_cons, List.length_cons] <;> omega
theorem Good.without {d : AD} (h : Good d) (s : ByteArray) : Good (d.without s) :=
  ⟨h.asc.without s, fun f hf => h.file f (mem_without.1 hf).1, Nat.le_trans (List.length_filter_le ..) h.few, h.cap0, h.cap1, by
    have := usedN_without d.L s; have h2 := h.used; show ((usedN (withoutF d.L s) : Nat) : Int) ≤ d.cap; omega, h.ops, h.after⟩
theorem Good.put {d : AD} (h : Good d) {f : AF} (hf : GF f) (hu : ((usedN (withoutF d.L f.name) + f.n : Nat) : Int) ≤ d.cap) (hl : (withoutF d.L f.name).length + 1 ≤ 64) : Good (d.withF f) :=
  ⟨(h.asc.without f.name).ins f fun g hg => (mem_without.1 hg).2, fun g hg => by
    rcases mem_ins.1 hg with rfl | hg
    · exact hf
    · exact h.file g (mem_without.1 hg).1, by show (insF (withoutF d.L f.name) f).length ≤ 64; rw [ins_len]; exact hl, h.cap0, h.cap1, by
    show ((usedN (insF (withoutF d.L f.name) f) : Nat) : Int) ≤ d.cap; rw [usedN_insF]; exact hu, h.ops, h.after⟩
theorem wrap64_I63 (x : Int) : I63 (wrap64 x) := by unfold wrap64 I63; omega
theorem Good.op {d : AD} (h : Good d) : Good d.opd := by
  unfold AD.opd
  split
  · exact ⟨h.asc, h.file, h.few, h.cap0, h.cap1, h.used, h.ops, h.after⟩
  · refine ⟨h.asc, h.file, h.few, h.cap0, h.cap1, h.used, wrap64_I63 _, ?_⟩
    show I63 (if d.told = true then wrap64 (d.after - 1) else d.after)
    split
    · exact wrap64_I63 _
    · exact h.after
theorem Good.new (c : Int) (_h : I63 c) : Good (AD.newD c) :=
  ⟨List.Pairwise.nil, fun f hf => by simp [AD.newD] at hf, by simp [AD.newD], by simp only [AD.newD]; omega, by simp only [AD.newD]; omega, by simp only [AD.newD, usedN]; simp; omega, by simp [AD.newD, I63], by simp [AD.newD, I63]⟩
theorem opR_good {d : AD} (h : Good d) (g : AD → AD) (hg : ∀ x : AD, x = d.opd → Good x → Good (g x)) : Good (d.opR g).1 := by
  unfold AD.opR
  split
  · exact h.op
  · exact hg _ rfl h.op
theorem opd_cap (d : AD) : d.opd.cap = d.cap := by unfold AD.opd; split <;> rfl
theorem get_mem {d : AD} {s : ByteArray} (h : d.has s) : d.get s ∈ d.L := List.mem_of_getElem? (d.get_at s h)
theorem has_mem {d : AD} {s : ByteArray} (h : ¬ d.has s) : ∀ f ∈ d.L, f.name ≠ s := by
  intro f hf e
  apply h
  unfold AD.has idxN
  exact List.findIdx_lt_length.2 ⟨f, hf, by simpa using e⟩
theorem without_not {L : List AF} {s : ByteArray} (h : ∀ f ∈ L, f.name ≠ s) : withoutF L s = L := by
  unfold withoutF; rw [List.filter_eq_self]; intro f hf; simp [h f hf]
theorem bytes_iff (l : List Int) : Bytes l ↔ ∀ x ∈ l, 0 ≤ x ∧ x ≤ 255 := by
  constructor
  · intro h x hx
    obtain ⟨i, hi, rfl⟩ := List.getElem_of_mem hx
    have := h i
    simpa [List.getD, hi] using this
  · intro h i
    by_cases hi : i < l.length
    · have := h _ (List.getElem_mem hi)
      simpa [List.getD, hi] using this
    · simp [List.getD, List.getElem?_eq_none (Nat.not_lt.1 hi)]
theorem Bytes.zeros (n : Nat) : Bytes (List.replicate n 0) := by
  rw [bytes_iff]; intro x hx; rw [List.mem_replicate] at hx; obtain ⟨_, rfl⟩ := hx; omega
theorem newF_good (s : ByteArray) (n : Int) (hs : rightB s = true) (h : ¬ (n < 1 ∨ 64 < n)) : GF (newF s n.toNat) :=
  ⟨hs, by show 1 ≤ n.toNat; omega, by show n.toNat ≤ 64; omega, by simp [newF], by simp [newF], by simp [newF], Bytes.zeros _, Bytes.zeros _⟩
theorem Good.make {d : AD} (h : Good d) (s : ByteArray) (n : Int) : Good (d.makeR s n).1 := by
  unfold AD.makeR
  split
  · exact h
  split
  · exact h
  rename_i hr
  split
  · exact h
  rename_i hh
  split
  · exact h
  rename_i hn
  split
  · exact h
  rename_i hc
  refine opR_good h _ fun x hx hg => ?_
  subst hx
  have hL : withoutF d.L (newF s n.toNat).name = d.L := without_not (has_mem hh)
  refine hg.put (newF_good s n (by simpa using hr) hn) ?_ ?_
  · rw [AD.opd_L, hL, opd_cap]; show ((usedN d.L + n.toNat : Nat) : Int) ≤ d.cap; omega
  · rw [AD.opd_L, hL]; omega
theorem Good.re {d : AD} (h : Good d) {f g : AF} (hf : f ∈ d.L) (hn : g.name = f.name) (hg : GF g) (hk : g.n = f.n) : Good (d.withF g) := by
  obtain ⟨h1, h2⟩ := without_room d.L f hf
  refine h.put hg ?_ ?_
  · rw [hn, hk]; have := h.used; omega
  · rw [hn]; have := h.few; omega
theorem Good.fail {d : AD} (h : Good d) (n : Int) (hn : I63 n) : Good (d.failR n).1 := by
  unfold AD.failR
  split
  · exact h
  split
  · exact h
  · exact ⟨h.asc, h.file, h.few, h.cap0, h.cap1, h.used, h.ops, hn⟩
theorem has_opd {d : AD} {s : ByteArray} (h : d.has s) : d.get s ∈ d.opd.L := by rw [AD.opd_L]; exact get_mem h
theorem Good.sync {d : AD} (h : Good d) (s : ByteArray) : Good (d.syncR s).1 := by
  unfold AD.syncR
  split
  · exact h
  split
  · exact h
  rename_i hh
  refine opR_good h _ fun x hx hg => ?_
  subst hx
  have hf := h.file _ (get_mem (Decidable.not_not.1 hh))
  exact hg.re (has_opd (Decidable.not_not.1 hh)) rfl ⟨hf.name, hf.n1, hf.n64, hf.seen, hf.seen, by simp, hf.bseen, hf.bseen⟩ rfl
theorem Good.rename {d : AD} (h : Good d) (s t : ByteArray) : Good (d.renameR s t).1 := by
  unfold AD.renameR
  split
  · exact h
  split
  · exact h
  rename_i hh
  split
  · exact h
  rename_i hr
  split
  · exact h
  refine opR_good h _ fun x hx hg => ?_
  subst hx
  have hf := h.file _ (get_mem (Decidable.not_not.1 hh))
  have hm := has_opd (Decidable.not_not.1 hh)
  have hnm := d.get_name s (Decidable.not_not.1 hh)
  obtain ⟨h1, h2⟩ := without_room d.opd.L _ hm
  rw [hnm] at h1 h2
  have h3 := usedN_without (withoutF d.opd.L s) t
  have h4 : (withoutF (withoutF d.opd.L s) t).length ≤ (withoutF d.opd.L s).length := List.length_filter_le ..
  have h5 := hg.used
  have h6 := hg.few
  refine (hg.without s).put (f := { d.get s with name := t }) ⟨by simpa using hr, hf.n1, hf.n64, hf.las, hf.seen, hf.ws, hf.blas, hf.bseen⟩ ?_ ?_
  · show ((usedN (withoutF (withoutF d.opd.L s) t) + (d.get s).n : Nat) : Int) ≤ d.opd.cap; omega
  · show (withoutF (withoutF d.opd.L s) t).length + 1 ≤ 64; omega
theorem Bytes.take {l : List Int} (h : Bytes l) (n : Nat) : Bytes (l.take n) := (bytes_iff _).2 fun x hx => (bytes_iff _).1 h x (List.mem_of_mem_take hx)
theorem Bytes.drop {l : List Int} (h : Bytes l) (n : Nat) : Bytes (l.drop n) := (bytes_iff _).2 fun x hx => (bytes_iff _).1 h x (List.mem_of_mem_drop hx)
theorem Bytes.app {l m : List Int} (h : Bytes l) (k : Bytes m) : Bytes (l ++ m) := (bytes_iff _).2 fun x hx => by
  rcases List.mem_append.1 hx with hx | hx
  · exact (bytes_iff _).1 h x hx
  · exact (bytes_iff _).1 k x hx
theorem Good.write {d : AD} (h : Good d) (s : ByteArray) (at_ : Int) (m : Nat) (fs : List Int) (hl : fs.length = m * 64) (hb : Bytes fs) : Good (d.writeR s at_ m fs).1 := by
  unfold AD.writeR
  split
  · exact h
  split
  · exact h
  rename_i hh
  split
  · exact h
  rename_i ha
  refine opR_good h _ fun x hx hg => ?_
  subst hx
  have hf := h.file _ (get_mem (Decidable.not_not.1 hh))
  have h1 := hf.seen
  have h2 := hf.ws
  refine hg.re (f := d.get s) (has_opd (Decidable.not_not.1 hh)) rfl ⟨hf.name, hf.n1, hf.n64, hf.las, ?_, ?_, hf.blas, ((hf.bseen.take _).app hb).app (hf.bseen.drop _)⟩ rfl
  · simp only [List.length_append, List.length_take, List.length_drop]; omega
  · simp only [List.length_append, List.length_take, List.length_drop, List.length_replicate]; omega
theorem crL_map (kb : List Int) (torn cut : Int) (L : List AF) : ∀ k, k ≤ L.length → (crL kb torn cut L k).1.map (fun f => (f.name, f.n)) = (L.take k).map fun f => (f.name, f.n)
  | 0, _ => by simp [crL]
  | k + 1, h => by
    obtain ⟨f, hf⟩ := row_some (L := L) (i := k) (by omega)
    rw [crL_step kb torn cut L k f hf, List.map_append, crL_map kb torn cut L k (by omega)]
    obtain ⟨hk, rfl⟩ := List.getElem?_eq_some_iff.1 hf
    rw [List.take_succ_eq_append_getElem hk, List.map_append]
    rfl
theorem mix_bytes (a b : List Int) (k : Nat) (ha : Bytes a) (hb : Bytes b) : Bytes (mixN a b k) := by
  unfold mixN
  exact (hb.take _).app (ha.drop _)
theorem chunk_bytes {l : List Int} (h : Bytes l) (j : Nat) : Bytes (chunk l j) := (h.drop _).take _
theorem crS_bytes (kb : List Int) (torn cut : Int) (f : AF) (i0 : Nat) (hl : Bytes f.las) (hs : Bytes f.seen) : ∀ j, Bytes (crS kb torn cut f i0 j).1
  | 0 => (bytes_iff _).2 fun x hx => by simp [crS] at hx
  | j + 1 => by
    simp only [crS]
    refine (crS_bytes kb torn cut f i0 hl hs j).app ?_
    unfold secC
    split
    · split
      · exact mix_bytes _ _ _ (chunk_bytes hl j) (chunk_bytes hs j)
      · split
        · exact chunk_bytes hs j
        · exact chunk_bytes hl j
    · exact chunk_bytes hl j
theorem crL_file (kb : List Int) (torn cut : Int) (L : List AF) (hL : ∀ f ∈ L, GF f) : ∀ k, k ≤ L.length → ∀ f ∈ (crL kb torn cut L k).1, GF f
  | 0, _ => by intro f hf; simp [crL] at hf
  | k + 1, h => by
    obtain ⟨g, hg⟩ := row_some (L := L) (i := k) (by omega)
    have hgf := hL g (List.mem_of_getElem? hg)
    rw [crL_step kb torn cut L k g hg]
    intro f hf
    rcases List.mem_append.1 hf with hf | hf
    · exact crL_file kb torn cut L hL k (by omega) f hf
    · simp only [List.mem_singleton] at hf
      subst hf
      have h1 := crS_length kb torn cut g (crL kb torn cut L k).2 hgf.las hgf.seen g.n (Nat.le_refl _)
      have h2 := crS_bytes kb torn cut g (crL kb torn cut L k).2 hgf.blas hgf.bseen g.n
      exact ⟨hgf.name, hgf.n1, hgf.n64, h1, h1, by simp [crFile], h2, h2⟩
theorem Good.crash {d : AD} (h : Good d) (kb : List Int) (torn cut : Int) : Good (d.crashR kb torn cut) := by
  have hm := crL_map kb torn cut d.L d.L.length (Nat.le_refl _)
  rw [List.take_length] at hm
  have hu : usedN (crL kb torn cut d.L d.L.length).1 = usedN d.L := by
    unfold usedN
    have h2 := congrArg (List.map Prod.snd) hm
    rw [List.map_map, List.map_map] at h2
    exact congrArg List.sum h2
  refine ⟨?_, fun f hf => crL_file kb torn cut d.L h.file _ (Nat.le_refl _) f hf, ?_, h.cap0, h.cap1, ?_, h.ops, by show I63 0; unfold I63; omega⟩
  · have h1 := h.asc
    have e : ∀ L : List AF, Asc L ↔ (L.map fun f => (f.name, f.n)).Pairwise fun a b => gtN b.1 a.1 = true := fun L => by rw [List.pairwise_map]; rfl
    show Asc (crL kb torn cut d.L d.L.length).1
    rw [e, hm, ← e]; exact h1
  · show (crL kb torn cut d.L d.L.length).1.length ≤ 64
    rw [crL_length kb torn cut d.L _ (Nat.le_refl _)]; exact h.few
  · show ((usedN (crL kb torn cut d.L d.L.length).1 : Nat) : Int) ≤ d.cap
    rw [hu]; exact h.used
end Go.Proofs.YtpoiapfgbbmekaaGreatDoor
