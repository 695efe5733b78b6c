/-
  TEXTS JOINED: DiskLawSecs, Same, DiskDoSt, DiskCrash, DiskDo1, DiskRead, DiskWaits. Each one's own words stand at its head.
-/
import Derived.Test.YtoempaagpgoilaaDoorJ2
import Derived.Test.YtoempaagpgoilaaDoorJ5
import Derived.Test.YtoempaagpgoilaaDoorJ3
import Derived.Test.YtoempaagpgoilaaDoorJ0
import Derived.Test.YtoempaagpgoilaaDoorJ4
import Derived.Test.YtoempaagpgoilaaDoorJ1
/-
  LAYER 8 (disk): the law's own Secs (sectors that begin with bytes) and few. No condition of ours but bounds on lengths.
-/
namespace Go.Proofs.YtoempaagpgoilaaDoor
open Go.RowKit
/-- a call, as a law is handed it -/
structure AAct where
  kind : Int
  name : ByteArray
  to : ByteArray
  at_ : Int
  n : Int
  len : Nat
  l : List Int
  klen : Nat
  keep : List Int
  torn : Int
  cut : Int
/-- .. as it may be -/
structure GA (a : AAct) : Prop where
  k0 : 0 ≤ a.kind
  k1 : a.kind ≤ 18446744073709551615
  name : a.name.size ≤ 281474976710656
  to : a.to.size ≤ 281474976710656
  at_ : I63 a.at_
  n : I63 a.n
  l : Bytes a.l
  keep : Bytes a.keep
  torn : I63 a.torn
  cut : I63 a.cut
/-- in w these nine cells tell the call -/
def RA (w : World) (e : List Value) (a : AAct) : Prop :=
  ∃ vl vk, e = [.int .u64 a.kind, .string a.name, .string a.to, .int .i64 a.at_, .int .i64 a.n, vl, vk, .int .i64 a.torn, .int .i64 a.cut] ∧ RI .u8 w vl a.len a.l ∧ RI .u8 w vk a.klen a.keep
theorem RA.kin {w w' : World} (hb : Kin w w') {e : List Value} {a : AAct} (h : RA w e a) : RA w' e a := by
  obtain ⟨vl, vk, he, h1, h2⟩ := h
  exact ⟨vl, vk, he, h1.kin hb, h2.kin hb⟩
theorem RA.length {w : World} {e : List Value} {a : AAct} (h : RA w e a) : e.length = 9 := by obtain ⟨_, _, rfl, _⟩ := h; rfl
/-- a slice of calls -/
def AS (w : World) (v : Value) (l : List AAct) : Prop :=
  ∃ es : List (List Value), CS 9 w v l.length es.flatten ∧ es.length = l.length ∧ ∀ (i : Nat) (e : List Value) (a : AAct), es[i]? = some e → l[i]? = some a → RA w e a
theorem AS.kin {w w' : World} (hb : Kin w w') {v : Value} {l : List AAct} (h : AS w v l) : AS w' v l := by
  obtain ⟨es, h1, h2, h3⟩ := h
  exact ⟨es, h1.kin hb, h2, fun i e a he ha => (h3 i e a he ha).kin hb⟩
theorem AS.form {w : World} {v : Value} {l : List AAct} (h : AS w v l) : ∃ a cap, v = .slice a l.length cap ∧ l.length ≤ cap ∧ cap ≤ 9223372036854775807 ∧ (a = none → cap = 0) := by obtain ⟨_, h, _⟩ := h; exact h.form
/-- where a call lies, and its nine cells -/
theorem AS.at_ {w : World} {a : Option Addr} {n cap : Nat} {l : List AAct} (h : AS w (.slice a n cap) l) (i : Nat) (c : AAct) (hc : l[i]? = some c) :
    ∃ b off al cl ak ck, a = some ⟨b, off, none⟩ ∧ w.cell? ⟨b, off + i * 9, none⟩ = some (.int .u64 c.kind) ∧ w.cell? ⟨b, off + i * 9 + 1, none⟩ = some (.string c.name) ∧ w.cell? ⟨b, off + i * 9 + 2, none⟩ = some (.string c.to) ∧
      w.cell? ⟨b, off + i * 9 + 3, none⟩ = some (.int .i64 c.at_) ∧ w.cell? ⟨b, off + i * 9 + 4, none⟩ = some (.int .i64 c.n) ∧ w.cell? ⟨b, off + i * 9 + 5, none⟩ = some (.slice al c.len cl) ∧ w.cell? ⟨b, off + i * 9 + 6, none⟩ = some (.slice ak c.klen ck) ∧
      w.cell? ⟨b, off + i * 9 + 7, none⟩ = some (.int .i64 c.torn) ∧ w.cell? ⟨b, off + i * 9 + 8, none⟩ = some (.int .i64 c.cut) ∧ RI .u8 w (.slice al c.len cl) c.len c.l ∧ RI .u8 w (.slice ak c.klen ck) c.klen c.keep := by
  obtain ⟨es, h1, h2, h3⟩ := h
  obtain ⟨hi, _⟩ := List.getElem?_eq_some_iff.1 hc
  have hi2 : i < es.length := by omega
  have hl9 : ∀ e ∈ es, e.length = 9 := by
    intro e he
    obtain ⟨j, hj, rfl⟩ := List.getElem_of_mem he
    exact (h3 j _ _ (List.getElem?_eq_getElem hj) (List.getElem?_eq_getElem (by omega))).length
  obtain ⟨vl, vk, he, hf1, hf2⟩ := h3 i es[i] c (List.getElem?_eq_getElem hi2) hc
  have hn : n = l.length := by obtain ⟨_, _, hv, _⟩ := h1; simp at hv; exact hv.2.1
  subst hn
  obtain ⟨b, off, rfl, hcc⟩ := h1.at_ i hi
  have hg := fun j hj => (hcc j hj).trans (flat_get 9 es i j hl9 hj _ (List.getElem?_eq_getElem hi2))
  rw [he] at hg
  obtain ⟨al, cl, rfl, _⟩ := id hf1
  obtain ⟨ak, ck, rfl, _⟩ := id hf2
  exact ⟨b, off, al, cl, ak, ck, rfl, by simpa using hg 0 (by omega), by simpa using hg 1 (by omega), by simpa using hg 2 (by omega), by simpa using hg 3 (by omega), by simpa using hg 4 (by omega), by simpa using hg 5 (by omega), by simpa using hg 6 (by omega), by simpa using hg 7 (by omega), by simpa using hg 8 (by omega), hf1, hf2⟩
end Go.Proofs.YtoempaagpgoilaaDoor
/-
  WHAT THE DOCUMENT'S ANSWERS OF LAYER 6 (stamp) ANSWER: the reference's Same alone (for the layers behind it). No condition.
-/
namespace Go.Proofs.YtoempaagpgoilaaDoor
open Go.RowKit
/-- a slice of sectors: n sectors, their bytes ss, one behind the other in memory -/
def RS (w : World) (v : Value) (n : Nat) (ss : List (List Int)) : Prop :=
  ∃ a cap, v = .slice a n cap ∧ ss.length = n ∧ n ≤ cap ∧ cap ≤ 9223372036854775807 ∧ (∀ s ∈ ss, s.length = 64) ∧
    (0 < n → ∃ b off, a = some ⟨b, off, none⟩ ∧ ∀ j, j < n → ∀ k, k < 64 → w.cell? ⟨b, off + j * 64 + k, none⟩ = some (.int .u8 ((ss.getD j []).getD k 0)))
theorem RS.keep {w w' : World} (hb : Below w.heap.size w w') {v : Value} {n : Nat} {ss : List (List Int)} (h : RS w v n ss) : RS w' v n ss := by
  obtain ⟨a, cap, rfl, h1, h2, h3, h4, hc⟩ := h
  refine ⟨a, cap, rfl, h1, h2, h3, h4, fun h0 => ?_⟩
  obtain ⟨b, off, rfl, hcell⟩ := hc h0
  exact ⟨b, off, rfl, fun j hj k hk => cell_keep hb (hcell j hj k hk)⟩
theorem getD_memL {α : Type} {l : List α} {k : Nat} {d : α} (h : k < l.length) : l.getD k d ∈ l := by
  simp [List.getD, h]
set_option maxRecDepth 8000 in
set_option maxHeartbeats 1000000 in
theorem same_any (v1 v2 : Value) (n m : Nat) (ss ts : List (List Int)) (w : World) (h1 : RS w v1 n ss) (h2 : RS w v2 m ts) :
    Calls Tryd.prog 47 #[v1, v2] w fun e w' => e = .returned (.bool (decide (ss = ts))) ∧ Below w.heap.size w w' := by
  obtain ⟨a1, c1, rfl, hl1, hc1, hm1, hs1, hx1⟩ := h1
  obtain ⟨a2, c2, rfl, hl2, hc2, hm2, hs2, hx2⟩ := h2
  by_cases hnm : n = m
  · subst hnm
    have HX1 : Hid (∀ j, j < n → ∃ b off, a1 = some ⟨b, off, none⟩ ∧ At w b (off + j * 64) (ss.getD j [])) := fun j hj => by
      obtain ⟨b, off, e, h⟩ := hx1 (by omega)
      exact ⟨b, off, e, hs1 _ (getD_memL (by omega)), h j hj⟩
    have HX2 : Hid (∀ j, j < n → ∃ b off, a2 = some ⟨b, off, none⟩ ∧ At w b (off + j * 64) (ts.getD j [])) := fun j hj => by
      obtain ⟨b, off, e, h⟩ := hx2 (by omega)
      exact ⟨b, off, e, hs2 _ (getD_memL (by omega)), h j hj⟩
    have HL1 := Lib.hid hl1
    have HL2 := Lib.hid hl2
    have hn63 : (n : Int) ≤ 9223372036854775807 := by omega
    clear hx1 hx2 hs1 hs2 hl1 hl2
    go_enter Tryd.func47, Tryd.ntmps47
    go_wp2
    go_loopw [5] (fun iv wr => ∃ i : Nat, iv = .int .i64 i ∧ i ≤ n ∧ Hid (∀ j, j < i → ss.getD j [] = ts.getD j []) ∧ Hid (Below w.heap.size w wr)) (fun iv _ => n - (intOf iv).toNat)
    case atStart => exact ⟨0, rfl, by omega, fun j hj => absurd hj (by omega), Below.refl _ _⟩
    case round =>
      obtain ⟨i, rfl, hi, HE, HB⟩ := hrel
      by_cases hlt : (i : Int) < (n : Int)
      · obtain ⟨b1, off1, rfl, hat1⟩ := HX1.out i (by omega)
        obtain ⟨b2, off2, rfl, hat2⟩ := HX2.out i (by omega)
        obtain ⟨s, hs⟩ : ∃ s, ss.getD i [] = s := ⟨_, rfl⟩
        obtain ⟨t, ht⟩ : ∃ t, ts.getD i [] = t := ⟨_, rfl⟩
        rw [hs] at hat1
        rw [ht] at hat2
        have HA1 := Lib.hid hat1
        have HA2 := Lib.hid hat2
        have HQ := Lib.hid (run_eq_sec s t hat1.1 hat2.1)
        have HS := Lib.hid hs
        have HT := Lib.hid ht
        obtain ⟨y, hy⟩ : ∃ y, decide (s = t) = y := ⟨_, rfl⟩
        rw [hy] at HQ
        have HY := Lib.hid hy
        clear hat1 hat2 hs ht hy
        go_wp2_with fail
        refine wp_region_held_drew (S := (fun w' => Below w.heap.size w w')) (by kernel_rfl) HB.out.drew (fun hS => ?_)
        refine wpAnyH_take (i := 0) (oi := ({ dst := some 17, op := Op.move (Operand.tmp 0), type := 65, pos := "ref.go:67", after := #[], guard := none } : Oper)) (v := ?_) rfl (by kernel_rfl) (by kernel_rfl) (by kernel_rfl) (fun _ _ _ h => h) (Or.inl ⟨by rfl, ?_⟩) hS ?_
        rotate_left
        · (intro w hSw; (try dsimp only at hSw); go_simp; try with_reducible rfl)
        (try simp only [Act.put, List.setIfInBounds_toArray, List.set_cons_zero, List.set_cons_succ])
        refine wpAnyH_take (i := 1) (oi := ({ dst := some 18, op := Op.move (Operand.tmp 5), type := 3, pos := "ref.go:67", after := #[], guard := none } : Oper)) (v := ?_) rfl (by kernel_rfl) (by kernel_rfl) (by kernel_rfl) (fun _ _ _ h => h) (Or.inl ⟨by rfl, ?_⟩) hS ?_
        rotate_left
        · (intro w hSw; (try dsimp only at hSw); go_simp; try with_reducible rfl)
        (try simp only [Act.put, List.setIfInBounds_toArray, List.set_cons_zero, List.set_cons_succ])
        refine wpAnyH_take (i := 2) (oi := ({ dst := some 19, op := Op.indexAddr 65 (Operand.tmp 17) (Operand.tmp 18), type := 0, pos := "ref.go:67", after := #[{ on := 0, ground := Ground.data }, { on := 1, ground := Ground.data }], guard := none } : Oper)) (v := ?_) rfl (by kernel_rfl) (by kernel_rfl) (by kernel_rfl) (fun _ _ _ h => h) (Or.inl ⟨by rfl, ?_⟩) hS ?_
        rotate_left
        · (intro w hSw; (try dsimp only at hSw); go_simp; try with_reducible rfl)
        (try simp only [Act.put, List.setIfInBounds_toArray, List.set_cons_zero, List.set_cons_succ])
        refine wpAnyH_take (i := 3) (oi := ({ dst := some 20, op := Op.load 88 (Operand.tmp 19), type := 88, pos := "ref.go:67", after := #[{ on := 2, ground := Ground.data }], guard := none } : Oper)) (v := ?_) rfl (by kernel_rfl) (by kernel_rfl) (by kernel_rfl) (fun _ _ _ h => h) (Or.inl ⟨by rfl, ?_⟩) hS ?_
        rotate_left
        · (intro w hSw; (try dsimp only at hSw); refine exec_load_at (.tmp 19) ?_ ?_ (HA1.out.keep hSw) <;> rfl)
        (try simp only [Act.put, List.setIfInBounds_toArray, List.set_cons_zero, List.set_cons_succ])
        refine wpAnyH_take (i := 4) (oi := ({ dst := some 21, op := Op.move (Operand.tmp 1), type := 65, pos := "ref.go:67", after := #[], guard := none } : Oper)) (v := ?_) rfl (by kernel_rfl) (by kernel_rfl) (by kernel_rfl) (fun _ _ _ h => h) (Or.inl ⟨by rfl, ?_⟩) hS ?_
        rotate_left
        · (intro w hSw; (try dsimp only at hSw); go_simp; try with_reducible rfl)
        (try simp only [Act.put, List.setIfInBounds_toArray, List.set_cons_zero, List.set_cons_succ])
        refine wpAnyH_take (i := 5) (oi := ({ dst := some 22, op := Op.move (Operand.tmp 5), type := 3, pos := "ref.go:67", after := #[], guard := none } : Oper)) (v := ?_) rfl (by kernel_rfl) (by kernel_rfl) (by kernel_rfl) (fun _ _ _ h => h) (Or.inl ⟨by rfl, ?_⟩) hS ?_
        rotate_left
        · (intro w hSw; (try dsimp only at hSw); go_simp; try with_reducible rfl)
        (try simp only [Act.put, List.setIfInBounds_toArray, List.set_cons_zero, List.set_cons_succ])
        refine wpAnyH_take (i := 6) (oi := ({ dst := some 23, op := Op.indexAddr 65 (Operand.tmp 21) (Operand.tmp 22), type := 0, pos := "ref.go:67", after := #[{ on := 4, ground := Ground.data }, { on := 5, ground := Ground.data }], guard := none } : Oper)) (v := ?_) rfl (by kernel_rfl) (by kernel_rfl) (by kernel_rfl) (fun _ _ _ h => h) (Or.inl ⟨by rfl, ?_⟩) hS ?_
        rotate_left
        · (intro w hSw; (try dsimp only at hSw); go_simp; try with_reducible rfl)
        (try simp only [Act.put, List.setIfInBounds_toArray, List.set_cons_zero, List.set_cons_succ])
        refine wpAnyH_take (i := 7) (oi := ({ dst := some 24, op := Op.load 88 (Operand.tmp 23), type := 88, pos := "ref.go:67", after := #[{ on := 6, ground := Ground.data }], guard := none } : Oper)) (v := ?_) rfl (by kernel_rfl) (by kernel_rfl) (by kernel_rfl) (fun _ _ _ h => h) (Or.inl ⟨by rfl, ?_⟩) hS ?_
        rotate_left
        · (intro w hSw; (try dsimp only at hSw); refine exec_load_at (.tmp 23) ?_ ?_ (HA2.out.keep hSw) <;> rfl)
        (try simp only [Act.put, List.setIfInBounds_toArray, List.set_cons_zero, List.set_cons_succ])
        refine wpAnyH_take (i := 8) (oi := ({ dst := some 25, op := Op.binOp BinOp.neq 88 (Operand.tmp 20) (Operand.tmp 24) 88, type := 4, pos := "ref.go:67", after := #[{ on := 3, ground := Ground.data }, { on := 7, ground := Ground.data }], guard := none } : Oper)) (v := ?_) rfl (by kernel_rfl) (by kernel_rfl) (by kernel_rfl) (fun _ _ _ h => h) (Or.inl ⟨by rfl, ?_⟩) hS ?_
        rotate_left
        · (intro w hSw; (try dsimp only at hSw); have hq := HQ.out w; go_simp; try with_reducible rfl)
        (try simp only [Act.put, List.setIfInBounds_toArray, List.set_cons_zero, List.set_cons_succ])
        refine wpAnyH_done (by kernel_rfl) ?_ _
        have HB2 := Lib.hid hS
        clear hS
        cases y with
        | false =>
          go_wp2
          go_ret
          refine ⟨ret_bool ?_, HB2.out⟩
          rw [decide_eq_false]
          intro e
          have h1 := of_decide_eq_false HY.out
          exact h1 (by rw [← HS.out, ← HT.out, e])
        | true =>
          go_wp2
          go_roundw
          case rel =>
            refine ⟨i + 1, by go_num, by omega, Lib.hid (fun j hj => ?_), HB2⟩
            by_cases hji : j = i
            · subst hji; rw [HS.out, HT.out]; exact of_decide_eq_true HY.out
            · exact HE.out j (by omega)
          case measure => simp [intOf]; omega
      · have hq : i = n := by omega
        subst hq
        have HD := Lib.hid (show decide (ss = ts) = true from decide_eq_true (by
          have h1 := HL1.out
          have h2 := HL2.out
          refine List.ext_getElem (by omega) fun j h3 h4 => ?_
          have := HE.out j (by omega)
          simpa [List.getD, h3, h4] using this))
        go_wp2
        go_ret
        exact ⟨ret_bool (by rw [HD.out]), HB.out⟩
  · have hne : ¬ (n : Int) = (m : Int) := by omega
    have HN := Lib.hid (show decide (ss = ts) = false from decide_eq_false (fun h => hnm (by rw [← hl1, ← hl2, h])))
    clear hx1 hx2 hs1 hs2
    go_enter Tryd.func47, Tryd.ntmps47
    go_wp2
    go_ret
    exact ⟨ret_bool (by rw [HN.out]), Below.refl _ _⟩
theorem FS.rs {w : World} {v : Value} {n : Nat} {fs : List Int} (h : FS w v n fs) : RS w v n (chunks n fs) := by
  obtain ⟨a, cap, rfl, hl, h2, h3, _, hc⟩ := h
  refine ⟨a, cap, rfl, by simp [chunks], h2, h3, ?_, fun h0 => ?_⟩
  · intro s hs
    simp only [chunks, List.mem_map, List.mem_range] at hs
    obtain ⟨j, hj, rfl⟩ := hs
    simp; omega
  · obtain ⟨b, off, rfl, hcell⟩ := hc h0
    refine ⟨b, off, rfl, fun j hj k hk => ?_⟩
    rw [Nat.add_assoc, hcell (j * 64 + k) (by omega), chunks_get n fs j hj]
    simp only [List.getD, List.getElem?_take, hk, if_true, List.getElem?_drop]
theorem same_true (v1 v2 : Value) (n : Nat) (fs : List Int) (w : World) (h1 : FS w v1 n fs) (h2 : FS w v2 n fs) :
    Calls Tryd.prog 47 #[v1, v2] w fun e w' => e = .returned (.bool true) ∧ Below w.heap.size w w' := by
  have := same_any v1 v2 n n _ _ w h1.rs h2.rs
  rwa [decide_eq_true rfl] at this
end Go.Proofs.YtoempaagpgoilaaDoor
/-
  LAYER 8 (disk): the law's own do: where it stands (boxes for the document's disk and for the call, a cell for the result), and what a call comes to (plain mathematics). Nothing here speaks of the program's functions but DiskSays.
-/
namespace Go.Proofs.YtoempaagpgoilaaDoor
open Go.RowKit
theorem RD.cells {w : World} {v : Value} {d : AD} (h : RD w v d) : ∃ cs, v = .agg cs ∧ cs.size = 6 ∧ cs.all (·.oneCell') = true := by
  obtain ⟨a, n, c, rfl, _⟩ := h.agg
  exact ⟨_, rfl, rfl, by simp [Value.oneCell']⟩
/-- the blocks of both -/
def orF (M F : Nat → Bool) : Nat → Bool := fun k => M k || F k
theorem orF_l {M F : Nat → Bool} {k : Nat} (h : M k = true) : orF M F k = true := by simp [orF, h]
theorem orF_r {M F : Nat → Bool} {k : Nat} (h : F k = true) : orF M F k = true := by simp [orF, h]
theorem orF_foot {M F : Nat → Bool} {n : Nat} (h : Foot M n) (k : Foot F n) : Foot (orF M F) n := fun i hi => by
  simp only [orF, Bool.or_eq_true] at hi
  rcases hi with hi | hi
  · exact h i hi
  · exact k i hi
/-- what changes F alone changes no more than M, if M has all of F -/
theorem Ext.sub {F F' M : Nat → Bool} {w w' : World} (h : Ext F w w' F') (hs : ∀ k, F k = true → M k = true) : Ext M w w' (orF M F') :=
  ⟨h.os, h.tape, h.output, h.size, fun k hk hm => h.block k hk (by
    cases hf : F k with
    | false => rfl
    | true => rw [hs k hf] at hm; simp at hm), fun k hk => by
    show (M k || F' k) = M k
    rw [h.foot k hk]
    cases hf : F k with
    | false => simp
    | true => rw [hs k hf]; simp⟩
theorem Ext.setRow' {F F' : Nat → Bool} {w w' : World} (h : Ext F w w' F') (b : Nat) (hb : F' b = true) (cs : Array Value) : Ext F w (w'.setRow b cs) F' :=
  h.trans ((Ext.refl F' w').setRow b hb cs)
theorem Ext.newRow {F F' : Nat → Bool} {w w' : World} (h : Ext F w w' F') (b : Nat) (hb : w.heap.size ≤ b) (cs : Array Value) : Ext F w (w'.setRow b cs) F' :=
  ⟨h.os, h.tape, h.output, by simpa using h.size, fun k hk hf => by rw [setRow_other w' b k cs (by omega)]; exact h.block k hk hf, h.foot⟩
variable {DK : World → Addr → (Nat → Bool) → AD → Prop}
/-- where do stands: w is where it began -/
structure DoS (DK : World → Addr → (Nat → Bool) → AD → Prop) (F M : Nat → Bool) (w : World) (p : Addr) (ac cs : Array Value) (dp dr : AD) (F1 M1 : Nat → Bool) (W : World) : Prop where
  dk : DK W p F1 dp
  rd : RD (mask M1 W) (.agg cs) dr
  ex : Ext F w W F1
  exm : Ext M w W M1
  sub : ∀ k, F1 k = true → M1 k = true
  foot : Foot M1 W.heap.size
  size : w.heap.size + 3 ≤ W.heap.size
  box : ∀ k, w.heap.size ≤ k → k < w.heap.size + 3 → M1 k = true ∧ F1 k = false
  d0 : DB W w.heap.size cs
  d2 : DB W (w.heap.size + 2) dz
theorem kept {W W' : World} {F1 F2 : Nat → Bool} (hx : Ext F1 W W' F2) {k : Nat} {o : Obj} (h : W.heap[k]? = some o) (hf : F1 k = false) : W'.heap[k]? = some o := by
  rw [hx.block k (Array.getElem?_eq_some_iff.1 h).1 hf]; exact h
/-- what do ends with -/
structure DoE (DK : World → Addr → (Nat → Bool) → AD → Prop) (F M : Nat → Bool) (w : World) (p : Addr) (v' : Value) (d' : AD) (F' M' : Nat → Bool) (w' : World) : Prop where
  dk : DK w' p F' d'
  rd : RD (mask M' w') v' d'
  ex : Ext F w w' F'
  exm : Ext M w w' M'
  sub : ∀ k, F' k = true → M' k = true
  foot : Foot M' w'.heap.size
theorem DoS.done (H : DiskSays DK) {F M F1 M1 : Nat → Bool} {w W : World} {p : Addr} {ac cs : Array Value} {d : AD} (h : DoS DK F M w p ac cs d d F1 M1 W) :
    DoE DK F M w p (.agg cs) d F1 M1 (W.setRow (w.heap.size + 2) cs) ∧ DB (W.setRow (w.heap.size + 2) cs) (w.heap.size + 2) cs := by
  have hb := h.box (w.heap.size + 2) (by omega) (by omega)
  have hn : ∀ k, k ≠ w.heap.size + 2 → (W.setRow (w.heap.size + 2) cs).heap[k]? = W.heap[k]? := fun k hk => setRow_other W (w.heap.size + 2) k cs hk
  have hs : (W.setRow (w.heap.size + 2) cs).heap.size = W.heap.size := by simp
  exact ⟨⟨H.keep h.dk (Nat.le_of_eq hs.symm) fun k hk => hn k (by rintro rfl; rw [hb.2] at hk; simp at hk), h.rd.kin ((Ext.refl M1 W).setRow _ hb.1 _).kin, h.ex.newRow _ (by omega) _, h.exm.setRow' _ hb.1 _, h.sub, by rw [hs]; exact h.foot⟩, h.d2.row h.d0.2⟩
/-- what is said of w aside from M holds aside from M1, then -/
theorem DoS.kin {F M F1 M1 : Nat → Bool} {w W : World} {p : Addr} {ac cs : Array Value} {dp dr : AD} (h : DoS DK F M w p ac cs dp dr F1 M1 W) : Kin (mask M w) (mask M1 W) := h.exm.kin
end Go.Proofs.YtoempaagpgoilaaDoor
/-
  WHAT THE DOCUMENT'S ANSWERS OF LAYER 8 (disk) ANSWER: the reference's Crash.
-/
namespace Go.Proofs.YtoempaagpgoilaaDoor
open Go.RowKit
/-- what the call begins with: three blocks -/
structure Bc (w : World) (cs : Array Value) (fc : Array Value) (W3 : World) : Prop where
  below : Below w.heap.size w W3
  size : W3.heap.size = w.heap.size + 3
  d0 : DB W3 w.heap.size cs
  d2 : DB W3 (w.heap.size + 2) dz
end Go.Proofs.YtoempaagpgoilaaDoor
/-
  LAYER 8 (disk): the law's own do, call by call, over DiskSays. No condition of ours but bounds on what comes in.
-/
namespace Go.Proofs.YtoempaagpgoilaaDoor
open Go.RowKit
end Go.Proofs.YtoempaagpgoilaaDoor
/-
  WHAT THE DOCUMENT'S ANSWERS OF LAYER 8 (disk) ANSWER: the reference's Read.
-/
namespace Go.Proofs.YtoempaagpgoilaaDoor
open Go.RowKit
end Go.Proofs.YtoempaagpgoilaaDoor
/-
  WHAT THE DOCUMENT'S ANSWERS OF LAYER 8 (disk) ANSWER: the reference's Waiting.
-/
namespace Go.Proofs.YtoempaagpgoilaaDoor
open Go.RowKit
end Go.Proofs.YtoempaagpgoilaaDoor
