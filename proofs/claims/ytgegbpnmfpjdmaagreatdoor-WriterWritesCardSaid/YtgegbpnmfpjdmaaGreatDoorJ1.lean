/-
  TEXTS JOINED: Pick, Open, OpenS, OpenB, ScanOpen, WrOpen, Same. Each one's own words stand at its head.
-/
import Derived.Test.YtgegbpnmfpjdmaaGreatDoorRows
import Derived.Test.YtgegbpnmfpjdmaaGreatDoorJ0
import Derived.Test.YtgegbpnmfpjdmaaGreatDoorJ3
namespace Go.Proofs.YtgegbpnmfpjdmaaGreatDoor
theorem pick {α β : Type} {R : α → β → Prop} : ∀ es : List α, (∀ e ∈ es, ∃ a, R e a) → ∃ l : List β, l.length = es.length ∧ ∀ (i : Nat) (e : α) (a : β), es[i]? = some e → l[i]? = some a → R e a
  | [], _ => ⟨[], rfl, fun i e a he => by simp at he⟩
  | e :: es, h => by
    obtain ⟨a, ha⟩ := h e (List.mem_cons_self ..)
    obtain ⟨l, hl, hr⟩ := pick es fun x hx => h x (List.mem_cons_of_mem _ hx)
    refine ⟨a :: l, by simp [hl], fun i x y hx hy => ?_⟩
    cases i with
    | zero => simp at hx hy; subst hx; subst hy; exact ha
    | succ i => exact hr i x y (by simpa using hx) (by simpa using hy)
end Go.Proofs.YtgegbpnmfpjdmaaGreatDoor
namespace Go.Proofs.YtgegbpnmfpjdmaaGreatDoor
open Go.RowKit Go.ChangeShapes Go.WideShapes
section
variable {H : Type} {enc : TypeId × Value → H} {P : Program} {W : World} {t e : TypeId} {k : IntKind}
theorem rdc_slice {k : Nat} {cs : List Value} {d : DataW H} (ht : P.underlying t = some (.slice e)) (hk : P.cellsOf e = k) (hk0 : 0 < k) (h : RdC enc P W t cs d) :
    ∃ (v : Value) (n : Nat) (es : List (List Value)) (ds : List (DataW H)), cs = [v] ∧ CS k W v n es.flatten ∧ es.length = n ∧ ds.length = n ∧ (∀ c ∈ es, c.length = k) ∧
      (∀ (i : Nat) (c : List Value) (x : DataW H), es[i]? = some c → ds[i]? = some x → RdC enc P W e c x) ∧ (n = 0 ∨ ∃ rest, d = .slice ds rest) := by
  obtain ⟨f, p, hf⟩ := h
  rcases DataW.trod_slice ht hf with ⟨rfl, _⟩ | ⟨a, len, cap, elems, rest, m, _, rfl, hx, _, hl, hm, hlen, hel, _, _⟩
  · exact ⟨_, 0, [], [], rfl, CS.nil k W, rfl, rfl, fun c hc => by simp at hc, fun i c x hc => by simp at hc, .inl rfl⟩
  · rw [hk] at hel
    have hall : ∀ i, i < len → ∃ c y, elems[i]? = some y ∧ c.length = k ∧ (∀ j, j < k → W.cell? ((a.add (i * k)).add j) = c[j]?) ∧ DataW.trod enc P W 0 (fun _ => true) true m e c = some y := fun i hi => by
      have h1 := hel i hi
      rw [List.getElem?_eq_getElem (by omega)] at h1
      obtain ⟨c, h2, h3⟩ := Option.bind_eq_some_iff.1 h1
      obtain ⟨_, h4, h5⟩ := World.cells?_some h2
      exact ⟨c, _, List.getElem?_eq_getElem (by omega), h4, h5, h3⟩
    let ce : Nat → List Value := fun i => if h : i < len then (hall i h).choose else []
    have hce : ∀ i (h : i < len), ∃ y, elems[i]? = some y ∧ (ce i).length = k ∧ (∀ j, j < k → W.cell? ((a.add (i * k)).add j) = (ce i)[j]?) ∧ DataW.trod enc P W 0 (fun _ => true) true m e (ce i) = some y := fun i h => by
      show ∃ y, _
      simp only [ce, dif_pos h]
      exact (hall i h).choose_spec
    have hcl : ∀ c ∈ (List.range len).map ce, c.length = k := by
      intro c hc
      obtain ⟨i, hi, rfl⟩ := List.mem_map.1 hc
      obtain ⟨y, _, h1, _⟩ := hce i (by simpa using hi)
      exact h1
    refine ⟨_, len, (List.range len).map ce, elems.map (·.1), rfl, ⟨some a, cap, rfl, ?_, hl, by unfold maxLen at hm; omega, fun h => by simp at h, fun h0 => ?_⟩, by simp, by simp [hlen], hcl, ?_, .inr ⟨_, congrArg Prod.fst hx⟩⟩
    · rw [flat_length k _ hcl]; simp
    · obtain ⟨y, _, h1, h2, _⟩ := hce 0 h0
      have h3 := h2 0 hk0
      rw [List.getElem?_eq_getElem (by omega)] at h3
      have hs := World.cell?_spot h3
      obtain ⟨b, off, spot⟩ := a
      have hspot : spot = none := by simpa [Addr.add] using hs
      subst hspot
      refine ⟨b, off, rfl, fun j hj => ?_⟩
      have hjk : j / k < len := (Nat.div_lt_iff_lt_mul hk0).2 hj
      obtain ⟨y, _, h4, h5, _⟩ := hce (j / k) hjk
      have h6 := h5 (j % k) (Nat.mod_lt _ hk0)
      have h7 := flat_get k ((List.range len).map ce) (j / k) (j % k) hcl (Nat.mod_lt _ hk0) (ce (j / k)) (by simp [hjk])
      rw [Nat.div_add_mod' j k] at h7
      rw [h7, ← h6, Go.WideShapes.add_plain, Go.WideShapes.add_plain, Nat.add_assoc, Nat.div_add_mod' j k]
    · intro i c x hc hx
      have hi : i < len := by have := (List.getElem?_eq_some_iff.1 hc).1; simpa using this
      obtain ⟨y, h1, _, _, h2⟩ := hce i hi
      have e1 : c = ce i := by
        rw [List.getElem?_map, List.getElem?_range hi] at hc
        exact (Option.some.inj hc).symm
      rw [List.getElem?_map, h1] at hx
      have e2 : y.1 = x := Option.some.inj hx
      subst e1; subst e2
      exact ⟨m, y.2, h2⟩
def Rch (P : Program) (t : TypeId) (d : DataW H) : Prop := ∀ n ∈ d.weights P t, n ≤ reachBytes
theorem weightsAll_mem : ∀ {ds : List (DataW H)} {x : DataW H}, x ∈ ds → ∀ n ∈ x.weights P e, n ∈ DataW.weightsAll P e ds
  | d :: r, x, hx, n, hn => by
    simp only [DataW.weightsAll, List.mem_append]
    rcases List.mem_cons.1 hx with rfl | hx
    · exact .inl hn
    · exact .inr (weightsAll_mem hx n hn)
theorem Rch.elem {ds rest : List (DataW H)} (ht : P.underlying t = some (.slice e)) (h : Rch P t (.slice ds rest)) {x : DataW H} (hx : x ∈ ds) : Rch P e x := fun n hn =>
  h n (by simp only [DataW.weights, ht]; exact List.mem_cons_of_mem _ (List.mem_append_left _ (weightsAll_mem hx n hn)))
theorem Rch.field {ds : List (DataW H)} {fs : Array Field} (ht : P.underlying t = some (.struct fs)) (h : Rch P t (.agg ds)) {i : Nat} {f : Field} {x : DataW H} (hf : fs[i]? = some f) (hx : ds[i]? = some x) : Rch P f.type x := fun n hn =>
  h n (by simp only [DataW.weights, ht]; exact DataW.weights_mem_each (j := i) (by simp [hf]) hx n hn)
end
end Go.Proofs.YtgegbpnmfpjdmaaGreatDoor
namespace Go.Proofs.YtgegbpnmfpjdmaaGreatDoor
open Go.RowKit Go.ChangeShapes Go.WideShapes
section
variable {H : Type} {enc : TypeId × Value → H} {W : World}
theorem FS.cs {v : Value} {n : Nat} {fs : List Int} (h : CS 64 W v n (il .u8 fs)) : FS W v n fs := by
  obtain ⟨a, cap, rfl, h1, h2, h3, h4, hc⟩ := h
  rw [il_length] at h1
  refine ⟨a, cap, rfl, h1, h2, h3, h4, fun h0 => ?_⟩
  obtain ⟨b, off, rfl, hcell⟩ := hc h0
  exact ⟨b, off, rfl, fun j hj => by rw [hcell j hj, il_get _ _ _ (by omega)]⟩
end
end Go.Proofs.YtgegbpnmfpjdmaaGreatDoor
namespace Go.Proofs.YtgegbpnmfpjdmaaGreatDoor
open Go.RowKit Go.ChangeShapes Go.WideShapes
end Go.Proofs.YtgegbpnmfpjdmaaGreatDoor
namespace Go.Proofs.YtgegbpnmfpjdmaaGreatDoor
open Go.RowKit Go.ChangeShapes Go.WideShapes
end Go.Proofs.YtgegbpnmfpjdmaaGreatDoor
namespace Go.Proofs.YtgegbpnmfpjdmaaGreatDoor
open Go.RowKit Go.ChangeShapes Go.WideShapes
section
variable {H : Type} {enc : TypeId × Value → H} {W : World}
theorem c_boolT : Tryz.prog.cellsOf 4 = 1 := by kernel_rfl
theorem rdc_bool {cs : List Value} {d : DataW H} (h : RdC enc Tryz.prog W 4 cs d) : ∃ b : Bool, cs = [.bool b] := by
  obtain ⟨f, p, hf⟩ := h
  obtain ⟨b, h1, _⟩ := DataW.trod_bool Tryz.underlying4 hf
  exact ⟨b, h1⟩
theorem ones_bool : ∀ bs : List Bool, (bs.map fun b => [Value.bool b]).flatten = bs.map .bool
  | [] => rfl
  | b :: bs => by rw [List.map_cons, List.flatten_cons, ones_bool bs]; rfl
set_option maxRecDepth 8000 in
theorem rd_bools {r : Reach} {b : Nat} {v : Value} {d : DataW H} (ho : Value.okWide Tryz.prog W r b 24 v) (h : RdC enc Tryz.prog W 24 v.cells.toList d) : ∃ m bs, BS W v m bs := by
  obtain ⟨v', n, es, ds, e1, hcs, hn, hd, _, hel, _⟩ := rdc_slice Tryz.underlying24 c_boolT (by omega) h
  obtain ⟨bs, hl, hR⟩ := pick (R := fun e (z : Bool) => e = [.bool z]) es fun e he => by
    obtain ⟨i, hi, rfl⟩ := List.getElem_of_mem he
    exact rdc_bool (hel i _ _ (List.getElem?_eq_getElem hi) (List.getElem?_eq_getElem (show i < ds.length by omega)))
  have he : es = bs.map fun z => [Value.bool z] := List.ext_getElem (by simp [hl]) fun i h1 h2 => by
    rw [List.getElem_map]
    exact hR i es[i] _ (List.getElem?_eq_getElem h1) (List.getElem?_eq_getElem (by omega))
  rw [he, ones_bool] at hcs
  obtain ⟨p, len, cap, rfl⟩ := okWide_slice Tryz.underlying24 ho
  have hv : Value.slice p len cap = v' := by
    have e2 : (Value.slice p len cap).cells.toList = [.slice p len cap] := rfl
    rw [e2, List.cons.injEq] at e1
    exact e1.1
  rw [hv]
  exact ⟨n, bs, hcs⟩
end
end Go.Proofs.YtgegbpnmfpjdmaaGreatDoor
namespace Go.Proofs.YtgegbpnmfpjdmaaGreatDoor
open Go.RowKit
def RS (w : World) (v : Value) (n : Nat) (ss : List (List Int)) : Prop :=
  ∃ a cap, v = .slice a n cap ∧ ss.length = n ∧ n ≤ cap ∧ cap ≤ 9223372036854775807 ∧ (∀ s ∈ ss, s.length = 64) ∧
    (0 < n → ∃ b off, a = some ⟨b, off, none⟩ ∧ ∀ j, j < n → ∀ k, k < 64 → w.cell? ⟨b, off + j * 64 + k, none⟩ = some (.int .u8 ((ss.getD j []).getD k 0)))
theorem RS.keep {w w' : World} (hb : Below w.heap.size w w') {v : Value} {n : Nat} {ss : List (List Int)} (h : RS w v n ss) : RS w' v n ss := by
  obtain ⟨a, cap, rfl, h1, h2, h3, h4, hc⟩ := h
  refine ⟨a, cap, rfl, h1, h2, h3, h4, fun h0 => ?_⟩
  obtain ⟨b, off, rfl, hcell⟩ := hc h0
  exact ⟨b, off, rfl, fun j hj k hk => cell_keep hb (hcell j hj k hk)⟩
theorem getD_memL {α : Type} {l : List α} {k : Nat} {d : α} (h : k < l.length) : l.getD k d ∈ l := by
  simp [List.getD, h]
set_option maxRecDepth 8000 in
set_option maxHeartbeats 1000000 in
theorem same_any (v1 v2 : Value) (n m : Nat) (ss ts : List (List Int)) (w : World) (h1 : RS w v1 n ss) (h2 : RS w v2 m ts) :
    Calls Tryz.prog 21 #[v1, v2] w fun e w' => e = .returned (.bool (decide (ss = ts))) ∧ Below w.heap.size w w' := by
  obtain ⟨a1, c1, rfl, hl1, hc1, hm1, hs1, hx1⟩ := h1
  obtain ⟨a2, c2, rfl, hl2, hc2, hm2, hs2, hx2⟩ := h2
  by_cases hnm : n = m
  · subst hnm
    have HX1 : Hid (∀ j, j < n → ∃ b off, a1 = some ⟨b, off, none⟩ ∧ At w b (off + j * 64) (ss.getD j [])) := fun j hj => by
      obtain ⟨b, off, e, h⟩ := hx1 (by omega)
      exact ⟨b, off, e, hs1 _ (getD_memL (by omega)), h j hj⟩
    have HX2 : Hid (∀ j, j < n → ∃ b off, a2 = some ⟨b, off, none⟩ ∧ At w b (off + j * 64) (ts.getD j [])) := fun j hj => by
      obtain ⟨b, off, e, h⟩ := hx2 (by omega)
      exact ⟨b, off, e, hs2 _ (getD_memL (by omega)), h j hj⟩
    have HL1 := Lib.hid hl1
    have HL2 := Lib.hid hl2
    have hn63 : (n : Int) ≤ 9223372036854775807 := by omega
    clear hx1 hx2 hs1 hs2 hl1 hl2
    go_enter Tryz.func21, Tryz.ntmps21
    go_wp2
    go_loopw [5] (fun iv wr => ∃ i : Nat, iv = .int .i64 i ∧ i ≤ n ∧ Hid (∀ j, j < i → ss.getD j [] = ts.getD j []) ∧ Hid (Below w.heap.size w wr)) (fun iv _ => n - (intOf iv).toNat)
    case atStart => exact ⟨0, rfl, by omega, fun j hj => absurd hj (by omega), Below.refl _ _⟩
    case round =>
      obtain ⟨i, rfl, hi, HE, HB⟩ := hrel
      by_cases hlt : (i : Int) < (n : Int)
      · obtain ⟨b1, off1, rfl, hat1⟩ := HX1.out i (by omega)
        obtain ⟨b2, off2, rfl, hat2⟩ := HX2.out i (by omega)
        obtain ⟨s, hs⟩ : ∃ s, ss.getD i [] = s := ⟨_, rfl⟩
        obtain ⟨t, ht⟩ : ∃ t, ts.getD i [] = t := ⟨_, rfl⟩
        rw [hs] at hat1
        rw [ht] at hat2
        have HA1 := Lib.hid hat1
        have HA2 := Lib.hid hat2
        have HQ := Lib.hid (run_eq_sec s t hat1.1 hat2.1)
        have HS := Lib.hid hs
        have HT := Lib.hid ht
        obtain ⟨y, hy⟩ : ∃ y, decide (s = t) = y := ⟨_, rfl⟩
        rw [hy] at HQ
        have HY := Lib.hid hy
        clear hat1 hat2 hs ht hy
        go_wp2_with fail
        refine wp_region_held_drew (S := (fun w' => Below w.heap.size w w')) (by kernel_rfl) HB.out.drew (fun hS => ?_)
        refine rgw 0 ⟨some 17, .move (.tmp 0), 48, _, _, none⟩ hS ?_
        refine rgw 1 ⟨some 18, .move (.tmp 5), 3, _, _, none⟩ hS ?_
        refine rgw 2 ⟨some 19, .indexAddr 48 (.tmp 17) (.tmp 18), 0, _, _, none⟩ hS ?_
        refine rgw 3 ⟨some 20, .load 60 (.tmp 19), 60, _, _, none⟩ hS ?_ (hy := by intro w hSw; (try dsimp only at hSw); refine exec_load_at (.tmp 19) ?_ ?_ (HA1.out.keep hSw) <;> rfl)
        refine rgw 4 ⟨some 21, .move (.tmp 1), 48, _, _, none⟩ hS ?_
        refine rgw 5 ⟨some 22, .move (.tmp 5), 3, _, _, none⟩ hS ?_
        refine rgw 6 ⟨some 23, .indexAddr 48 (.tmp 21) (.tmp 22), 0, _, _, none⟩ hS ?_
        refine rgw 7 ⟨some 24, .load 60 (.tmp 23), 60, _, _, none⟩ hS ?_ (hy := by intro w hSw; (try dsimp only at hSw); refine exec_load_at (.tmp 23) ?_ ?_ (HA2.out.keep hSw) <;> rfl)
        refine rgw 8 ⟨some 25, .binOp .neq 60 (.tmp 20) (.tmp 24) 60, 4, _, _, none⟩ hS ?_ (hy := by intro w hSw; (try dsimp only at hSw); have hq := HQ.out w; go_simp; try with_reducible rfl)
        refine wpAnyH_done (by kernel_rfl) ?_ _
        have HB2 := Lib.hid hS
        clear hS
        cases y with
        | false =>
          go_wp2
          go_ret
          refine ⟨ret_bool ?_, HB2.out⟩
          rw [decide_eq_false]
          intro e
          have h1 := of_decide_eq_false HY.out
          exact h1 (by rw [← HS.out, ← HT.out, e])
        | true =>
          go_wp2
          go_roundw
          case rel =>
            refine ⟨i + 1, by go_num, by omega, Lib.hid (fun j hj => ?_), HB2⟩
            by_cases hji : j = i
            · subst hji; rw [HS.out, HT.out]; exact of_decide_eq_true HY.out
            · exact HE.out j (by omega)
          case measure => simp [intOf]; omega
      · have hq : i = n := by omega
        subst hq
        have HD := Lib.hid (show decide (ss = ts) = true from decide_eq_true (by
          have h1 := HL1.out
          have h2 := HL2.out
          refine List.ext_getElem (by omega) fun j h3 h4 => ?_
          have := HE.out j (by omega)
          simpa [List.getD, h3, h4] using this))
        go_wp2
        go_ret
        exact ⟨ret_bool (by rw [HD.out]), HB.out⟩
  · have hne : ¬ (n : Int) = (m : Int) := by omega
    have HN := Lib.hid (show decide (ss = ts) = false from decide_eq_false (fun h => hnm (by rw [← hl1, ← hl2, h])))
    clear hx1 hx2 hs1 hs2
    go_enter Tryz.func21, Tryz.ntmps21
    go_wp2
    go_ret
    exact ⟨ret_bool (by rw [HN.out]), Below.refl _ _⟩
theorem FS.rs {w : World} {v : Value} {n : Nat} {fs : List Int} (h : FS w v n fs) : RS w v n (chunks n fs) := by
  obtain ⟨a, cap, rfl, hl, h2, h3, _, hc⟩ := h
  refine ⟨a, cap, rfl, by simp [chunks], h2, h3, ?_, fun h0 => ?_⟩
  · intro s hs
    simp only [chunks, List.mem_map, List.mem_range] at hs
    obtain ⟨j, hj, rfl⟩ := hs
    simp; omega
  · obtain ⟨b, off, rfl, hcell⟩ := hc h0
    refine ⟨b, off, rfl, fun j hj k hk => ?_⟩
    rw [Nat.add_assoc, hcell (j * 64 + k) (by omega), chunks_get n fs j hj]
    simp only [List.getD, List.getElem?_take, hk, if_true, List.getElem?_drop]
theorem same_true (v1 v2 : Value) (n : Nat) (fs : List Int) (w : World) (h1 : FS w v1 n fs) (h2 : FS w v2 n fs) :
    Calls Tryz.prog 21 #[v1, v2] w fun e w' => e = .returned (.bool true) ∧ Below w.heap.size w w' := by
  have := same_any v1 v2 n n _ _ w h1.rs h2.rs
  rwa [decide_eq_true rfl] at this
end Go.Proofs.YtgegbpnmfpjdmaaGreatDoor
