/-
  TEXTS JOINED: Mix, Drawn, Two, BitR, CrashRef, ScanCrash, CutList. Each one's own words stand at its head.
-/
import Derived.Test.YtnmplnemnfonfaaDoorJ0
import Derived.Deep.QuietTactic
import Derived.BigQuiet
import Derived.Below
import Derived.Test.YtnmplnemnfonfaaDoorJ2
import Derived.Lib.Hide
import Derived.Deep.RegionHeld3
import Derived.Test.YtnmplnemnfonfaaDoorJ6
import Derived.Test.YtnmplnemnfonfaaDoorJ7
import Derived.Test.YtnmplnemnfonfaaDoorJ1
import Derived.Test.YtnmplnemnfonfaaDoorJ11
import Derived.Test.YtnmplnemnfonfaaDoorJ5
import Derived.Deep.MidRow
import Derived.Laws.StructEq
namespace Go.Proofs.YtnmplnemnfonfaaDoor
open Go.RowKit
def mixN (old nx : List Int) (k : Nat) : List Int := nx.take k ++ old.drop k
def cutN (cut : Int) : Nat := (min (max cut 0) 64).toNat
structure Mx (W : World) (l nx : List Int) (w : World) : Prop where
  below : Below W.heap.size W w
  nxt : Blk w (W.heap.size + 1) nx
  res : Blk w (W.heap.size + 2) z64
  out : Blk w (W.heap.size + 3) l
theorem Mx.start (W : World) (l nx : List Int) (hl : l.length = 64) (hn : nx.length = 64) : Mx W z64 nx ((((W.alloc (.cells (sv l) 71)).alloc (.cells (sv nx) 71)).alloc (.cells (sv z64) 71)).alloc (.cells (sv z64) 71)) ∧ Blk ((((W.alloc (.cells (sv l) 71)).alloc (.cells (sv nx) 71)).alloc (.cells (sv z64) 71)).alloc (.cells (sv z64) 71)) W.heap.size l := by
  have s0 := alloc_size W (.cells (sv l) 71)
  have b0 := below_alloc W (.cells (sv l) 71)
  have k0 := Blk.new W l hl
  generalize W.alloc (.cells (sv l) 71) = w0 at *
  have s1 := alloc_size w0 (.cells (sv nx) 71)
  have b1 := below_alloc w0 (.cells (sv nx) 71)
  have k1 := Blk.new w0 nx hn
  generalize w0.alloc (.cells (sv nx) 71) = w1 at *
  have s2 := alloc_size w1 (.cells (sv z64) 71)
  have b2 := below_alloc w1 (.cells (sv z64) 71)
  have k2 := Blk.new w1 z64 z64_length
  generalize w1.alloc (.cells (sv z64) 71) = w2 at *
  have b3 := below_alloc w2 (.cells (sv z64) 71)
  have k3 := Blk.new w2 z64 z64_length
  generalize w2.alloc (.cells (sv z64) 71) = w3 at *
  rw [s0] at k1
  rw [s1, s0] at k2
  rw [s2, s1, s0] at k3
  exact ⟨⟨chain (chain (chain b0 b1) b2) b3, (k1.keep b2).keep b3, k2.keep b3, k3⟩, ((k0.keep b1).keep b2).keep b3⟩
theorem Mx.row {W w : World} {l l' nx : List Int} (h : Mx W l nx w) (hl : l'.length = 64) : Mx W l' nx (w.setRow (W.heap.size + 3) (sv l')) :=
  ⟨below_row h.below (by omega) _, h.nxt.row_apart (by omega) _, h.res.row_apart (by omega) _, h.out.row hl⟩
theorem Mx.stored {W w : World} {l nx : List Int} (h : Mx W l nx w) (k : Nat) (z : Int) : Mx W (l.set k z) nx (w.setCell ⟨W.heap.size + 3, k, none⟩ (.int .u8 z)) :=
  ⟨h.below.setCell (by show W.heap.size ≤ W.heap.size + 3; omega) _, h.nxt.apart (by omega) _ _, h.res.apart (by omega) _ _, h.out.stored k z⟩
end Go.Proofs.YtnmplnemnfonfaaDoor
namespace Go.Proofs.YtnmplnemnfonfaaDoor
open Go.RowKit
def Drawn (w w' : World) : Prop := ∃ n, w' = w.drewN n
theorem Drawn.cell {w w' : World} (h : Drawn w w') (a : Addr) : w'.cell? a = w.cell? a := by obtain ⟨n, rfl⟩ := h; simp
theorem Drawn.refl (w : World) : Drawn w w := ⟨0, rfl⟩
theorem Drawn.then {w w' : World} (h : Drawn w w') (n : Nat) : Drawn w (w'.drewN n) := by obtain ⟨m, rfl⟩ := h; exact ⟨_, World.drewN_drewN _ _ _⟩
theorem quiet_eq {P : Program} {f : FuncId} {args : Array Value} {w : World} {n : Nat} {v : Value}
    (h : Calls P f args (w.drewN n) fun e w' => e = .returned v ∧ w.drewN n = w') : Calls P f args (w.drewN n) fun e w'' => e = .returned v ∧ ∃ m, w'' = w.drewN m :=
  h.mono fun _ _ ⟨he, hm⟩ => ⟨he, n, hm.symm⟩
theorem Drawn.grown {w w' : World} (h : Drawn w w') : Below w.heap.size w w' := by
  obtain ⟨n, rfl⟩ := h
  exact ⟨rfl, rfl, rfl, Nat.le_refl _, fun _ _ => rfl⟩
end Go.Proofs.YtnmplnemnfonfaaDoor
namespace Go.Proofs.YtnmplnemnfonfaaDoor
open Go.RowKit
set_option maxHeartbeats 400000 in
theorem two_any (n : Int) (h : I63 n) (w : World) : Calls Tryd.prog 56 #[.int .i64 n] w fun e w' => e = .returned (.int .u64 (two n.toNat)) ∧ w = w' := by
  unfold I63 at h
  go_enter Tryd.func56, Tryd.ntmps56
  go_wp2
  go_loop [3, 4] (fun t i => ∃ k : Nat, (k : Int) ≤ max n 0 ∧ i = .int .i64 k ∧ t = .int .u64 (two k)) (fun _ i => n.toNat - (intOf i).toNat)
  case atStart => exact ⟨0, by omega, rfl, rfl⟩
  case round =>
    obtain ⟨k, hk, rfl, rfl⟩ := hrel
    by_cases hlt : (k : Int) < n
    · go_wp2
      go_round
      case rel => exact ⟨k + 1, by omega, by go_num, by rw [two_succ]⟩
      case measure => simp [intOf]; omega
    · go_wp2
      go_ret
      exact ⟨ret_int (by congr 1; omega), rfl⟩
theorem two_at (n : Int) (k : Nat) (hn : n = k) (h : k < 9223372036854775808) (w : World) : Calls Tryd.prog 56 #[.int .i64 n] w fun e w' => e = .returned (.int .u64 (two k)) ∧ w = w' :=
  (two_any n (by unfold I63; omega) w).mono fun _ _ ⟨he, hw⟩ => ⟨by rw [he, hn, Int.toNat_natCast], hw⟩
end Go.Proofs.YtnmplnemnfonfaaDoor
namespace Go.Proofs.YtnmplnemnfonfaaDoor
open Go.RowKit
def bitB (zs : List Int) (k : Nat) : Bool := decide (zs.getD (k / 8) 0 / 2 ^ (k % 8) % 2 = 1)
def bitI (zs : List Int) (i : Int) : Bool := decide (0 ≤ i) && decide (i / 8 < (zs.length : Int)) && bitB zs i.toNat
end Go.Proofs.YtnmplnemnfonfaaDoor
namespace Go.Proofs.YtnmplnemnfonfaaDoor
open Go.RowKit
def leaves (kb : List Int) (torn cut : Int) (o n : List Int) (i : Nat) : List Int :=
  if (i : Int) = torn then mixN o n (cutN cut) else if bitI kb (i : Int) = true then n else o
end Go.Proofs.YtnmplnemnfonfaaDoor
namespace Go.Proofs.YtnmplnemnfonfaaDoor
open Go.RowKit
theorem touch_lt (e i : Nat) : i < (touchN 0 e).2 ↔ 52 * i < e := by
  unfold touchN
  split
  · show i < (e - 1) / 52 + 1 ↔ _
    omega
  · show i < 0 ↔ _
    omega
theorem whole_ok {x : Int} (hx : U64 x) (h0 : x ≠ 0) {ls : List (List Int)} (n : Nat) (i : Nat) (hi : i < 16) : okAt x 16 (wholeK x (bodyF (x % 4294967296) (ls.take n)) (touchN 0 (endF (ls.take n))).2 16) i = decide (52 * i < endF (ls.take n)) := by
  rw [okAt_whole x hx h0 _ _ i hi]
  exact decide_eq_decide.2 (touch_lt _ _)
theorem body_end {x : Int} {ls : List (List Int)} (hg : GoodF ls ls.length) (j : Nat) (hj : endF ls ≤ j) : (bodyF (x % 4294967296) ls).getD j 0 = 0 := by
  have h1 := body_out hg (x % 4294967296) ls.length (Nat.le_refl _) j
  rw [List.take_length] at h1
  exact h1 hj
section
variable {x : Int} (hx : U64 x) (h0 : x ≠ 0) {ls : List (List Int)} (hg : GoodF ls ls.length)
include hx h0 hg
theorem whole_get (n : Nat) (hn : n ≤ ls.length) (j : Nat) (hj : j < 832) :
    (flatB x 16 (wholeK x (bodyF (x % 4294967296) (ls.take n)) (touchN 0 (endF (ls.take n))).2 16) 16).getD j 0 = if j < endF (ls.take n) then (bodyF (x % 4294967296) ls).getD j 0 else 0 := by
  rw [back_get x hx h0 _ _ j hj, bodyF_len]
  have h1 := body_out hg (x % 4294967296) n hn j
  have h2 := body_pre hg (x % 4294967296) (k := n) (t := ls.length) hn (Nat.le_refl _) j
  rw [List.take_length] at h2
  have h3 := touch_lt (endF (ls.take n)) (j / 52)
  by_cases he : j < endF (ls.take n)
  · rw [if_pos he, if_pos ⟨by have := h3.2 (by omega); omega, hj⟩, h2 he]
  · rw [if_neg he]
    split
    · exact h1 (by omega)
    · rfl
theorem whole_room (n : Nat) (hn : n ≤ ls.length) (i r : Nat) (hi : i < 16) (hr : r < 52) :
    (roomAt x 16 (wholeK x (bodyF (x % 4294967296) (ls.take n)) (touchN 0 (endF (ls.take n))).2 16) i).getD r 0 = if 52 * i + r < endF (ls.take n) then (bodyF (x % 4294967296) ls).getD (52 * i + r) 0 else 0 := by
  rw [← flatB_get x 16 _ (wholeK_length _ _ _ 16) i r hr 16 hi]
  exact whole_get hx h0 hg n hn (52 * i + r) (by omega)
theorem mixed_whole : Mixed (flatB x 16 (wholeK x (bodyF (x % 4294967296) ls) (touchN 0 (endF ls)).2 16) 16) (flatK x 16 (wholeK x (bodyF (x % 4294967296) ls) (touchN 0 (endF ls)).2 16) 16) (bodyF (x % 4294967296) ls) (endF ls) := by
  have hl : ls.take ls.length = ls := List.take_length
  have h1 := whole_room hx h0 hg ls.length (Nat.le_refl _)
  have h2 := whole_ok hx h0 (ls := ls) ls.length
  rw [hl] at h1 h2
  refine ⟨flatB_length _ _ _ (wholeK_length _ _ _ 16) 16, fun i hi h => ?_, fun i hi _ => .inl fun r hr => ?_⟩
  · rw [flatK_get _ _ _ i 16 hi, h2 i hi]; exact decide_eq_true h
  · rw [flatB_get x 16 _ (wholeK_length _ _ _ 16) i r hr 16 hi, h1 i r hi hr]
    split
    · rfl
    · exact (body_end hg _ (by omega)).symm
end
theorem whole_rest {x : Int} {ls : List (List Int)} (hg : GoodF ls ls.length) : restB 16 (wholeK x (bodyF (x % 4294967296) ls) (touchN 0 (endF ls)).2 16) (endF ls) = true := by
  refine restB_yes fun i _ hi => restS_yes fun k hk => ?_
  have hsec := secOf_whole x (bodyF (x % 4294967296) ls) (touchN 0 (endF ls)).2 i 16 hi
  have hbyte := sec_byte (wholeK x (bodyF (x % 4294967296) ls) (touchN 0 (endF ls)).2 16) i k hk
  rw [hsec] at hbyte
  unfold restAt
  rw [← hbyte]
  have htl := touch_lt (endF ls) i
  by_cases hin : i < (touchN 0 (endF ls)).2
  · rw [if_pos hin]
    have h52 := htl.1 hin
    by_cases hc : 12 ≤ k ∧ endF ls + 12 ≤ 52 * i + k
    · rw [sealed_get3 _ _ _ k hc.1 hk]
      have h1 : (partB (bodyF (x % 4294967296) ls) i).getD (k - 12) 0 = (bodyF (x % 4294967296) ls).getD (52 * i + (k - 12)) 0 := by
        unfold partB
        simp only [List.getD, List.getElem?_take, show k - 12 < 52 from by omega, if_true, List.getElem?_drop]
      rw [h1, body_end hg _ (by omega)]
      simp
    · have h1 : ¬ endF ls ≤ 52 * i := by omega
      by_cases h2 : 12 ≤ k
      · have h3 : ¬ endF ls + 12 ≤ 52 * i + k := fun q => hc ⟨h2, q⟩
        simp [h1, h3]
      · simp [h1, h2]
  · rw [if_neg hin]
    have : z64.getD k 0 = 0 := getD_replicate 64 k
    rw [this]
    simp
theorem told_whole {x : Int} (hx : U64 x) (h0 : x ≠ 0) {ls : List (List Int)} (hg : GoodF ls ls.length) (h5 : ∀ z ∈ ls, z.length ≤ 512) :
    (scEnd (x % 4294967296) (flatB x 16 (wholeK x (bodyF (x % 4294967296) ls) (touchN 0 (endF ls)).2 16) 16) (flatK x 16 (wholeK x (bodyF (x % 4294967296) ls) (touchN 0 (endF ls)).2 16) 16)).recs = ls ∧
    (scEnd (x % 4294967296) (flatB x 16 (wholeK x (bodyF (x % 4294967296) ls) (touchN 0 (endF ls)).2 16) 16) (flatK x 16 (wholeK x (bodyF (x % 4294967296) ls) (touchN 0 (endF ls)).2 16) 16)).places = placesF ls ∧
    (scEnd (x % 4294967296) (flatB x 16 (wholeK x (bodyF (x % 4294967296) ls) (touchN 0 (endF ls)).2 16) 16) (flatK x 16 (wholeK x (bodyF (x % 4294967296) ls) (touchN 0 (endF ls)).2 16) 16)).fin = endF ls ∧
    scKind 16 (wholeK x (bodyF (x % 4294967296) ls) (touchN 0 (endF ls)).2 16) (endF ls) = 1 := by
  have hM := mixed_whole hx h0 hg
  have hl : ls.take ls.length = ls := List.take_length
  have he : 0 ≤ x % 4294967296 ∧ x % 4294967296 < 4294967296 := by omega
  obtain ⟨q, h1, h2, h3, h4, h6⟩ := mixed_told he hg h5 (n := ls.length) (Nat.le_refl _) (by rw [hl]; exact hM)
  obtain rfl : q = ls.length := by omega
  rw [hl] at h3 h4 h6
  refine ⟨h3, h4, h6, ?_⟩
  unfold scKind
  rw [whole_rest hg, if_pos rfl]
end Go.Proofs.YtnmplnemnfonfaaDoor
namespace Go.Proofs.YtnmplnemnfonfaaDoor
open Go.RowKit
abbrev pL (p : PC) : List Value := [.int .i64 p.at_, .int .i64 p.kind, .int .i64 p.from_, .int .i64 p.to]
def pF (l : List PC) : List Value := (l.map pL).flatten
theorem pF_length (l : List PC) : (pF l).length = l.length * 4 := by
  have := flat_length 4 (l.map pL) (fun e he => by obtain ⟨o, _, rfl⟩ := List.mem_map.1 he; rfl)
  simpa [pF] using this
theorem pF_snoc (l : List PC) (c : PC) : pF (l ++ [c]) = pF l ++ pL c := by simp [pF]
def PS (w : World) (v : Value) (l : List PC) : Prop := CS 4 w v l.length (pF l)
theorem PS.kin {w w' : World} (hb : Kin w w') {v : Value} {l : List PC} (h : PS w v l) : PS w' v l := CS.kin hb h
theorem PS.keep {w w' : World} {v : Value} {l : List PC} (h : PS w v l) (hb : Below w.heap.size w w') : PS w' v l := h.kin (Kin.below hb)
theorem PS.form {w : World} {v : Value} {l : List PC} (h : PS w v l) : ∃ a cap, v = .slice a l.length cap ∧ l.length ≤ cap ∧ cap ≤ 9223372036854775807 ∧ (a = none → cap = 0) := CS.form h
theorem PS.at_ {w : World} {a : Option Addr} {n cap : Nat} {l : List PC} (h : PS w (.slice a n cap) l) (i : Nat) (o : PC) (ho : l[i]? = some o) :
    ∃ b off, a = some ⟨b, off, none⟩ ∧ w.rangeAt b (off + i * 4) (pL o) := by
  obtain ⟨hi, _⟩ := List.getElem?_eq_some_iff.1 ho
  have hn : n = l.length := by obtain ⟨_, _, hv, _⟩ := id h; simp at hv; exact hv.2.1
  subst hn
  obtain ⟨b, off, rfl, hc⟩ := CS.at_ h i hi
  refine ⟨b, off, rfl, fun j v hv => ?_⟩
  have hj : j < 4 := (List.getElem?_eq_some_iff.1 hv).1
  have h7 := flat_get 4 (l.map pL) i j (fun e he => by obtain ⟨o, _, rfl⟩ := List.mem_map.1 he; rfl) hj (pL o) (by simp [ho])
  exact ((hc j hj).trans h7).trans hv
theorem PS.own {w : World} {base : Nat} {e : TypeId} {v : Value} {l : List PC} (h : w.ownsRow base e 4 v l.length (pF l)) : PS w v l := CS.own h
theorem PS.nil (w : World) : PS w (.slice none 0 0) [] := ⟨none, 0, rfl, rfl, Nat.le_refl _, by omega, fun _ => rfl, fun h => absurd h (by simp)⟩
theorem pc_cells {w : World} {b o : Nat} {c : PC} (h : w.rangeAt b o (pL c)) : w.cell? ⟨b, o, none⟩ = some (.int .i64 c.at_) ∧ w.cell? ⟨b, o + 1, none⟩ = some (.int .i64 c.kind) ∧ w.cell? ⟨b, o + 2, none⟩ = some (.int .i64 c.from_) ∧ w.cell? ⟨b, o + 3, none⟩ = some (.int .i64 c.to) :=
  ⟨h 0 _ rfl, h 1 _ rfl, h 2 _ rfl, h 3 _ rfl⟩
theorem pc_parts : (Tryd.prog.info? 93).map (fun i => (i.zero, i.size, i.bytes)) = some (some (.agg #[.int .i64 0, .int .i64 0, .int .i64 0, .int .i64 0]), 4, 32) := by kernel_rfl
section
variable {w : World} {ops : Array Oper} {rest : List Oper} {o : Oper} {a : Act} {Q : Exit → Act → World → Prop}
theorem blk_news {g : Nat} {c : PC} (hblk : w.heap[g]? = some (.cells (pL c).toArray 93 (0, 0))) (j : Nat) (u : Value) (hj : (pL c)[j]? = some u) : w.cell? ((⟨g, 0, none⟩ : Addr).add j) = some u := by
  have hc : w.cell? ⟨g, j, none⟩ = some u := by rw [cell_of_row _ g j _ _ _ hblk]; simpa using hj
  by_cases h0 : j = 0
  · subst h0; simpa [Addr.add] using hc
  · simpa [Addr.add, h0] using hc
theorem wpl_app_pc (hgd : o.guard = none) (s x : Operand)
    (ho : o.op = .call { callee := .builtin .append, args := #[s, x], argTypes := #[89, 89] })
    (base : Nat) (v : Value) (n : Nat) (l : List PC) (hs : a.eval s = v) (hown : Hid (w.ownsRow base 93 4 v n (pF l)))
    (g : Nat) (c : PC) (hx : a.eval x = .slice (some ⟨g, 0, none⟩) 1 1) (hblk : w.heap[g]? = some (.cells (pL c).toArray 93 (0, 0))) (hn : n ≤ 1000000)
    (B : Nat) (W : World) (hb : Hid (Below B W w)) (hB : B ≤ base) (hbase : base ≤ w.heap.size)
    (h : ∀ v' w', Hid (w'.ownsRow base 93 4 v' (n + 1) (pF (l ++ [c]))) → Hid (Below B W w') → Hid (w.grownBy w' v.ownBlock) → wpList Tryd.prog ops Q rest (a.put o.dst v') w') : wpList Tryd.prog ops Q (o :: rest) a w := by
  obtain ⟨i, hi, hz0, hz1, hz2⟩ := info_parts pc_parts
  refine wpList_append_own_wide w hgd s x 89 ho base 93 i _ 4 32 Tryd.underlying89 hi hz0 hz1 hz2 rfl (by omega) v n (pF l) hs hown.out ⟨g, 0, none⟩ 1 1 (pL c) hx (by simp) (blk_news hblk) (by simp [Value.oneCell']) (by unfold maxLen; omega) (by omega) hbase ?_
  intro v' w' h1 h2 _
  exact h v' w' (by rw [pF_snoc]; exact h1) (hb.out.grown h2 (by omega) (fun q hq => by have := (hown.out.lt q hq).1; omega)) h2
end
end Go.Proofs.YtnmplnemnfonfaaDoor
