/-
  TEXTS JOINED: ScanRestR, JoinRefF, ScanRef, TearNear. Each one's own words stand at its head.
-/
import Derived.Test.YtepaghohojomeaaDoorJ6
import Derived.Test.YtepaghohojomeaaDoorJ1
import Derived.Test.YtepaghohojomeaaDoorJ0
import Derived.Test.YtepaghohojomeaaDoorJ8
import Derived.Test.YtepaghohojomeaaDoorJ11
import Derived.Test.YtepaghohojomeaaDoorJ10
import Derived.Test.YtepaghohojomeaaDoorJ19
import Derived.Test.YtepaghohojomeaaDoorJ12
/-
  WHAT Rest OF THE REFERENCE OF LAYER 19 ANSWERS, of any sectors and any end. No condition.
-/
namespace Go.Proofs.YtepaghohojomeaaDoor
open Go.RowKit
theorem restAt_no {fs : List Int} {e i k : Nat} {z : Int} (hz : fs.getD (i * 64 + k) 0 = z) (h0 : z ≠ 0) (h : e ≤ 52 * i ∨ (12 ≤ k ∧ e + 12 ≤ 52 * i + k)) : restAt fs e i k = false := by
  unfold restAt
  rw [hz]
  rcases h with h | ⟨h1, h2⟩
  · simp [h0, h]
  · simp [h0, h1, h2]
theorem restAt_yes {fs : List Int} {e i k : Nat} {z : Int} (hz : fs.getD (i * 64 + k) 0 = z) (h : z = 0 ∨ (¬ e ≤ 52 * i ∧ ¬ (12 ≤ k ∧ e + 12 ≤ 52 * i + k))) : restAt fs e i k = true := by
  unfold restAt
  rw [hz]
  rcases h with h | ⟨h1, h2⟩
  · simp [h]
  · by_cases h3 : 12 ≤ k
    · have h4 : ¬ e + 12 ≤ 52 * i + k := fun q => h2 ⟨h3, q⟩
      simp [h1, h4]
    · simp [h1, h3]
theorem restR_step {fs : List Int} {e i k : Nat} (h : ∀ j, j < k → restAt fs e i j = true) (hz : restAt fs e i k = true) : ∀ j, j < k + 1 → restAt fs e i j = true := fun j hj => by
  by_cases ej : j = k
  · rw [ej]; exact hz
  · exact h j (by omega)
theorem restR_row {fs : List Int} {e i : Nat} (h : ∀ j, j < i → restS fs e j = true) (hz : restS fs e i = true) : ∀ j, j < i + 1 → restS fs e j = true := fun j hj => by
  by_cases ej : j = i
  · rw [ej]; exact hz
  · exact h j (by omega)
set_option maxRecDepth 8000 in
set_option maxHeartbeats 4000000 in
theorem rrest_any (v : Value) (n : Nat) (fs : List Int) (x : Int) (hx : I63 x) (w : World) (h : FS w v n fs) (hn : n ≤ 1000000) :
    Calls Tryd.prog 32 #[v, .int .i64 x] w fun r w' => r = .returned (.bool (restB n fs (nr x))) ∧ Below w.heap.size w w' := by
  have hle := nr_le x
  have HNR : Hid (∀ w, Calls Tryd.prog 56 #[.int .i64 x] w fun r w' => r = .returned (.int .i64 (nr x : Int)) ∧ w = w') := Lib.hid fun w => (near_any x hx w).mono fun r w' ⟨h1, h2⟩ => ⟨h1, h2.symm⟩
  obtain ⟨e, he⟩ : ∃ e, nr x = e := ⟨_, rfl⟩
  rw [he] at HNR hle ⊢
  obtain ⟨ad, cap, rfl, hfl, hc1, hc2, _⟩ := id h
  have HH := Lib.hid h
  have HFL := Lib.hid hfl
  clear h hx hfl he
  go_enter Tryd.func32, Tryd.ntmps32
  go_wp2_with (first
    | (go_at_call 56; (with_reducible refine (HNR.out _).mono ?_); rintro r w1 ⟨rfl, rfl⟩))
  go_loopw [5] (fun iv wr => ∃ i : Nat, iv = .int .i64 i ∧ i ≤ n ∧ i ≤ 16 ∧ Hid (∀ j, j < i → restS fs e j = true) ∧ Hid (Below w.heap.size w wr)) (fun iv _ => 16 - (intOf iv).toNat)
  case atStart => exact ⟨0, rfl, by omega, by omega, Lib.hid (fun j hj => absurd hj (by omega)), Lib.hid (Below.refl _ _)⟩
  case round =>
    rename World => wo
    obtain ⟨i, rfl, hin, hi16, HR, HB⟩ := hrel
    by_cases hlt : (i : Int) < (n : Int)
    · by_cases hl6 : (i : Int) < 16
      · obtain ⟨b, off, rfl, hat⟩ := HH.out.at_ i (by omega)
        have HAT := Lib.hid hat
        clear hat
        go_wp2
        go_loopw [6] (fun kv wr => ∃ k : Nat, kv = .int .i64 k ∧ k ≤ 64 ∧ Hid (∀ j, j < k → restAt fs e i j = true) ∧ Hid (Below w.heap.size w wr)) (fun kv _ => 64 - (intOf kv).toNat)
        case atStart => exact ⟨0, rfl, by omega, Lib.hid (fun j hj => absurd hj (by omega)), HB⟩
        case round =>
          rename World => wi
          obtain ⟨k, rfl, hk64, HK, HBI⟩ := hrel
          by_cases hk : (k : Int) < 64
          · obtain ⟨z, hz⟩ : ∃ z, fs.getD (i * 64 + k) 0 = z := ⟨_, rfl⟩
            have hc := (HAT.out.keep HBI.out).2 k (by omega)
            rw [show ((fs.drop (i * 64)).take 64).getD k 0 = z from by rw [← hz]; exact sec_byte fs i k (by omega)] at hc
            have HZ := Lib.hid hz
            clear hz
            rcases (by omega : z = 0 ∨ (z ≠ 0 ∧ (e : Int) ≤ 52 * (i : Int)) ∨ (z ≠ 0 ∧ ¬ (e : Int) ≤ 52 * (i : Int) ∧ ¬ (12 : Int) ≤ (k : Int)) ∨ (z ≠ 0 ∧ ¬ (e : Int) ≤ 52 * (i : Int) ∧ (12 : Int) ≤ (k : Int) ∧ (e : Int) ≤ 52 * (i : Int) + (k : Int) - 12) ∨ (z ≠ 0 ∧ ¬ (e : Int) ≤ 52 * (i : Int) ∧ (12 : Int) ≤ (k : Int) ∧ ¬ (e : Int) ≤ 52 * (i : Int) + (k : Int) - 12)) with h0 | ⟨h0, h1⟩ | ⟨h0, h1, h2⟩ | ⟨h0, h1, h2, h3⟩ | ⟨h0, h1, h2, h3⟩
            · have HNX := Lib.hid (restR_step HK.out (restAt_yes HZ.out (.inl h0)))
              subst h0
              go_wp2
              go_roundw
              case rel => exact ⟨k + 1, by go_num, by omega, HNX, HBI⟩
              case measure => simp [intOf]; omega
            · have HNO := Lib.hid (restB_no (n := n) (fs := fs) (e := e) (i := i) (by omega) (by omega) (restS_no (k := k) (by omega) (restAt_no HZ.out h0 (.inl (by omega)))))
              have h0' : (z != 0) = true := by simpa using h0
              go_wp2
              (first | go_ret2 | go_ret3 | go_ret)
              exact ⟨ret_bool HNO.out.symm, HBI.out⟩
            · have HNX := Lib.hid (restR_step HK.out (restAt_yes HZ.out (.inr ⟨by omega, by omega⟩)))
              have h0' : (z != 0) = true := by simpa using h0
              go_wp2
              go_roundw
              case rel => exact ⟨k + 1, by go_num, by omega, HNX, HBI⟩
              case measure => simp [intOf]; omega
            · have HNO := Lib.hid (restB_no (n := n) (fs := fs) (e := e) (i := i) (by omega) (by omega) (restS_no (k := k) (by omega) (restAt_no HZ.out h0 (.inr ⟨by omega, by omega⟩))))
              have h0' : (z != 0) = true := by simpa using h0
              go_wp2
              (first | go_ret2 | go_ret3 | go_ret)
              exact ⟨ret_bool HNO.out.symm, HBI.out⟩
            · have HNX := Lib.hid (restR_step HK.out (restAt_yes HZ.out (.inr ⟨by omega, by omega⟩)))
              have h0' : (z != 0) = true := by simpa using h0
              go_wp2
              go_roundw
              case rel => exact ⟨k + 1, by go_num, by omega, HNX, HBI⟩
              case measure => simp [intOf]; omega
          · have HNX := Lib.hid (restR_row HR.out (restS_yes fun j hj => HK.out j (by omega)))
            go_wp2
            go_roundw
            case rel => exact ⟨i + 1, by go_num, by omega, by omega, HNX, HBI⟩
            case measure => simp [intOf]; omega
      · have HALL := Lib.hid (restB_yes (n := n) fun j h1 h2 => HR.out j (by omega))
        go_wp2
        go_ret
        exact ⟨ret_bool HALL.out.symm, HB.out⟩
    · have HALL := Lib.hid (restB_yes (n := n) fun j h1 h2 => HR.out j (by omega))
      go_wp2
      go_ret
      exact ⟨ret_bool HALL.out.symm, HB.out⟩
end Go.Proofs.YtepaghohojomeaaDoor
/-
  WHAT Feed OF THE REFERENCE OF LAYER 15 (join) ANSWERS. Bytes must lie where the slices say; a bound on their number.
-/
namespace Go.Proofs.YtepaghohojomeaaDoor
open Go.RowKit
abbrev kA (o : Bool) (v : Value) : Array Value := #[.bool o, v]
theorem kj_info (o : Bool) (v : Value) : (Tryd.prog.info? 84).map (·.size) = some (kA o v).size := by
  rw [show (kA o v).size = 2 from rfl]; kernel_rfl
theorem kj_one (o : Bool) (a : Option Addr) (n m : Nat) : (kA o (.slice a n m)).all (·.oneCell') = true := by simp [kA, Value.oneCell']
theorem results_row_tmp3 {fn : Func} {p u x y : Tmp} {ty : TypeId} {P : Program} (h : fn.results = #[.cell p ty, .tmp u, .tmp x, .tmp y]) (tmps : Array Value) (w : World) (g : Nat) (v : Value)
    (hp : tmps.getD p undef = .pointer (some ⟨g, 0, none⟩)) (hl : (loadVar ty ⟨g, 0, none⟩).run P w = .ok v w) :
    (results fn tmps).run P w = .ok (.tuple #[v, tmps.getD u undef, tmps.getD x undef, tmps.getD y undef]) w := by
  have hp' : tmps[p]?.getD undef = .pointer (some ⟨g, 0, none⟩) := by simpa using hp
  simp [results, h, hp', asAddr, hl, Result.andThen]
/-- the block b holds a joiner of the reference -/
def KO (w : World) (b : Nat) (o : Bool) (v : Value) : Prop := w.heap[b]? = some (.cells (kA o v) 84 (0, 0))
section
variable {w w' : World} {b b' : Nat} {o : Bool} {v : Value}
theorem KO.lt (h : KO w b o v) : b < w.heap.size := (Array.getElem?_eq_some_iff.1 h).1
theorem KO.keep (h : KO w b o v) (hb : Below w.heap.size w w') : KO w' b o v := (hb.block b h.lt).trans h
theorem KO.row (h : KO w b o v) (o' : Bool) (v' : Value) : KO (w.setRow b (kA o' v')) b o' v' := setRow_heap w b _ _ _ _ h
theorem KO.cells (h : KO w b o v) : w.cell? ⟨b, 0, none⟩ = some (.bool o) ∧ w.cell? ⟨b, 1, none⟩ = some v := ⟨cell_of_row w b 0 _ _ _ h, cell_of_row w b 1 _ _ _ h⟩
theorem KO.load (h : KO w b o v) : (loadVar 84 ⟨b, 0, none⟩).run Tryd.prog w = .ok (.agg (kA o v)) w :=
  run_loadVar_row w b _ 84 (kA o v) (0, 0) _ h Tryd.underlying84 rfl (kj_info _ _)
theorem KO.ne_own (h : KO w b o v) {base n k : Nat} {t : TypeId} {u : Value} {xs : List Value} (ho : w.ownsRow base t k u n xs) (ht : t ≠ 84) : ∀ q, u.ownBlock = some q → q ≠ b := by
  intro q hq e
  subst e
  rcases ho.2 with ⟨rfl, _⟩ | ⟨q', cap, cur, rfl, _, hcur, _⟩
  · simp [Value.ownBlock] at hq
  · simp only [Value.ownBlock, Option.some.injEq] at hq
    subst hq
    rw [h] at hcur
    simp only [Option.some.injEq, Obj.cells.injEq] at hcur
    exact ht hcur.2.1.symm
theorem KO.row_own (h : KO w b o v) (x : Array Value) {base n k : Nat} {t : TypeId} {u : Value} {xs : List Value} (ho : w.ownsRow base t k u n xs) (ht : t ≠ 84) : (w.setRow b x).ownsRow base t k u n xs :=
  own_over ho ⟨rfl, rfl, rfl, by simp, fun i _ hne => setRow_other w b i x (fun e => hne (by rw [e]))⟩ (fun g hg e => h.ne_own ho ht g hg (Option.some.inj e))
theorem KO.grown (h : KO w b o v) {base n k : Nat} {t : TypeId} {u : Value} {xs : List Value} (ho : w.ownsRow base t k u n xs) (ht : t ≠ 84) (hg : w.grownBy w' u.ownBlock) : KO w' b o v :=
  (hg.block b h.lt (fun e => h.ne_own ho ht b e.symm rfl)).trans h
end
theorem alloc3 (w : World) (x y z : Obj) : (((w.alloc x).alloc y).alloc z).heap[w.heap.size]? = some x ∧ (((w.alloc x).alloc y).alloc z).heap[w.heap.size + 1]? = some y ∧ (((w.alloc x).alloc y).alloc z).heap[w.heap.size + 1 + 1]? = some z := by
  have h1 : (w.alloc x).heap.size = w.heap.size + 1 := by simp
  have h2 : ((w.alloc x).alloc y).heap.size = w.heap.size + 1 + 1 := by simp
  refine ⟨?_, ?_, ?_⟩
  · rw [(fbelow2 (w.alloc x) y z).block _ (by omega)]; exact heap_alloc_last w x
  · rw [(balloc ((w.alloc x).alloc y) z).block _ (by omega), ← h1]; exact heap_alloc_last _ y
  · rw [← h2]; exact heap_alloc_last _ z
theorem kbelow3 (w : World) (x y z : Obj) : Below w.heap.size w (((w.alloc x).alloc y).alloc z) := bch (fbelow2 w x y) (balloc _ z)
set_option maxRecDepth 8000 in
set_option maxHeartbeats 4000000 in
/-- a record's end -/
theorem rfeed_ends (o : Bool) (v : Value) (h : List Int) (k ep : Int) (dv : Value) (n : Nat) (d : List Int) (w : World) (hrh : RI .u8 w v h.length h) (hfew : h.length ≤ 512) (hri : RI .u8 w dv n d) (_hn1 : (n : Int) ≤ 140737488351232)
    (hk : (o = false ∧ k = 1) ∨ (o = true ∧ k = 4)) (hl : ¬ h.length + n > 512) :
    Calls Tryd.prog 31 #[.agg (kA o v), .agg (fA k ep dv)] w fun e w' =>
      ∃ u, e = .returned (.tuple #[.agg (kA false (.slice none 0 0)), u, .bool true, .int .i64 0]) ∧ w'.ownsRow w.heap.size 5 1 u (h ++ d).length (il .u8 (h ++ d)) ∧ Below w.heap.size w w' := by
  have hzl := hri.length
  have HR := Lib.hid hri
  obtain ⟨hn, hhn⟩ : ∃ m, h.length = m := ⟨_, rfl⟩
  rw [hhn] at hrh hl hfew
  have HH := Lib.hid hrh
  obtain ⟨va, vc, rfl⟩ : ∃ a c, v = .slice a hn c := by obtain ⟨a, c, e, _⟩ := hrh; exact ⟨a, c, e⟩
  obtain ⟨da, dc, rfl⟩ : ∃ a c, dv = .slice a n c := by obtain ⟨a, c, e, _⟩ := hri; exact ⟨a, c, e⟩
  have HN := Lib.hid hhn
  have HZ := Lib.hid hzl
  clear hri hrh hzl hhn
  rcases hk with ⟨rfl, rfl⟩ | ⟨rfl, rfl⟩
  · go_enter Tryd.func31, Tryd.ntmps31
    go_wp2_with fail
    obtain ⟨w1, hw1⟩ : ∃ q, ((w.alloc (.cells (kA false (.slice va hn vc)) 84)).alloc (.cells (fA 1 ep (.slice da n dc)) 70)).alloc (.cells (kA false (.slice none 0 0)) 84) = q := ⟨_, rfl⟩
    rw [hw1]
    obtain ⟨xb, hxb⟩ : ∃ q, w.heap.size = q := ⟨_, rfl⟩
    have hb1 : Below w.heap.size w w1 := hw1 ▸ kbelow3 w _ _ _
    have HX1 : Hid (KO w1 xb false (.slice va hn vc)) := Lib.hid (by rw [← hw1, ← hxb]; exact (alloc3 w _ _ _).1)
    have HF1 : Hid (FO w1 (xb + 1) 1 ep (.slice da n dc)) := Lib.hid (by rw [← hw1, ← hxb]; exact (alloc3 w _ _ _).2.1)
    have HK1 : Hid (KO w1 (xb + 1 + 1) false (.slice none 0 0)) := Lib.hid (by rw [← hw1, ← hxb]; exact (alloc3 w _ _ _).2.2)
    have HB1 := Lib.hid hb1
    have HXB := Lib.hid hxb
    rw [hxb]
    clear hb1 hw1 hxb
    refine wp_region_held_drew (S := (fun w' => KO w' xb false (.slice va hn vc) ∧ FO w' (xb + 1) 1 ep (.slice da n dc))) (by kernel_rfl) ⟨HX1.out.keep (Below.refl w1.heap.size w1).drew, HF1.out.keep (Below.refl w1.heap.size w1).drew⟩ (fun hS => ?_)
    refine wpAnyH_take (i := 1) (oi := ({ dst := some 38, op := Op.fieldAddr 84 (Operand.tmp 2) 1, type := 0, pos := "ref.go:17", after := #[], guard := none } : Oper)) (v := ?_) rfl (by kernel_rfl) (by kernel_rfl) (by kernel_rfl) (fun _ _ _ h => h) (Or.inl ⟨by rfl, ?_⟩) hS ?_
    rotate_left
    · (intro w hSw; (try dsimp only at hSw); go_simp; try with_reducible rfl)
    (try simp only [Act.put, List.setIfInBounds_toArray, List.set_cons_zero, List.set_cons_succ])
    refine wpAnyH_take (i := 2) (oi := ({ dst := some 39, op := Op.load 43 (Operand.tmp 38), type := 43, pos := "ref.go:17", after := #[{ on := 1, ground := Ground.data }], guard := none } : Oper)) (v := .slice va hn vc) rfl (by kernel_rfl) (by kernel_rfl) (by kernel_rfl) (fun _ _ _ h => h) (Or.inl ⟨by rfl, ?_⟩) hS ?_
    · (intro w hSw; (try dsimp only at hSw); have z := hSw.1.cells.2; go_simp)
    (try simp only [Act.put, List.setIfInBounds_toArray, List.set_cons_zero, List.set_cons_succ])
    refine wpAnyH_take (i := 4) (oi := ({ dst := some 41, op := Op.fieldAddr 70 (Operand.tmp 3) 2, type := 0, pos := "ref.go:17", after := #[], guard := none } : Oper)) (v := ?_) rfl (by kernel_rfl) (by kernel_rfl) (by kernel_rfl) (fun _ _ _ h => h) (Or.inl ⟨by rfl, ?_⟩) hS ?_
    rotate_left
    · (intro w hSw; (try dsimp only at hSw); go_simp; try with_reducible rfl)
    (try simp only [Act.put, List.setIfInBounds_toArray, List.set_cons_zero, List.set_cons_succ])
    refine wpAnyH_take (i := 5) (oi := ({ dst := some 42, op := Op.load 43 (Operand.tmp 41), type := 43, pos := "ref.go:17", after := #[{ on := 4, ground := Ground.data }], guard := none } : Oper)) (v := .slice da n dc) rfl (by kernel_rfl) (by kernel_rfl) (by kernel_rfl) (fun _ _ _ h => h) (Or.inl ⟨by rfl, ?_⟩) hS ?_
    · (intro w hSw; (try dsimp only at hSw); have z := hSw.2.cells.2.2; go_simp)
    (try simp only [Act.put, List.setIfInBounds_toArray, List.set_cons_zero, List.set_cons_succ])
    refine rg_one 0 ({ dst := some 37, op := Op.buildSlice 43 0 #[], type := 43, pos := "ref.go:17", after := #[], guard := none } : Oper) (by kernel_rfl) rfl (fun K hK => ?_)
    go_simp
    (obtain ⟨w4, hw4⟩ : ∃ q, w1.alloc (.cells #[] 5) = q := ⟨_, rfl⟩; simp only [hw4]; have hb4 : Below w1.heap.size w1 w4.drew := hw4 ▸ bdrew0 w1 _; have HO4 : Hid (w4.drew.ownsRow w.heap.size 5 1 (.slice (some ⟨w1.heap.size, 0, none⟩) 0 0) 0 (il .u8 [])) := Lib.hid (World.ownsRow.drew (hw4 ▸ (own_empty rfl HB1.out.size).out)); have HB4 := Lib.hid (bch HB1.out hb4); have HX4 := Lib.hid (HX1.out.keep hb4); have HF4 := Lib.hid (HF1.out.keep hb4); have HK4 := Lib.hid (HK1.out.keep hb4); have hN := And.intro HX4.out HF4.out; clear hb4 hw4)
    refine hK.out _ _ ?_ (fun hS1 => ?_)
    · (exact hN)
    clear hK K hS; have hS := hS1; clear hS1
    (try simp only [Act.put, List.setIfInBounds_toArray, List.set_cons_zero, List.set_cons_succ])
    refine rg_one 3 ({ dst := some 40, op := Op.call { callee := Callee.builtin Builtin.append, args := #[Operand.tmp 37, Operand.tmp 39], argTypes := #[43, 43] }, type := 43, pos := "ref.go:17", after := #[{ on := 0, ground := Ground.data }, { on := 2, ground := Ground.data }], guard := none } : Oper) (by kernel_rfl) rfl (fun K hK => ?_)
    (rw [if_pos (by rfl)]; refine wp_appn (.tmp 37) (.tmp 39) 43 rfl 5 .u8 1 Tryd.underlying43 Tryd.info_u8 w.heap.size (.slice (some ⟨w1.heap.size, 0, none⟩) 0 0) 0 [] rfl HO4.out (.slice va hn vc) hn h rfl (HH.out.keep HB4.out) (by omega) (by omega) HB4.out.size ?_; intro v5 w5 ho5 hg5 hl5; rw [Nat.zero_add, List.nil_append] at ho5; have HO5 := Lib.hid ho5; have HB5 := Lib.hid (HB4.out.grown hg5 HB4.out.size (fun q hq => (HO4.out.lt q hq).1)); have HX5 := Lib.hid (HX4.out.grown HO4.out (by decide) hg5); have HF5 := Lib.hid (HF4.out.grown HO4.out hg5); have HK5 := Lib.hid (HK4.out.grown HO4.out (by decide) hg5); clear hN; have hN := And.intro HX5.out HF5.out; clear ho5 hg5 hl5)
    refine hK.out _ _ ?_ (fun hS1 => ?_)
    · (exact hN)
    clear hK K hS; have hS := hS1; clear hS1
    (try simp only [Act.put, List.setIfInBounds_toArray, List.set_cons_zero, List.set_cons_succ])
    refine rg_one 6 ({ dst := some 43, op := Op.call { callee := Callee.builtin Builtin.append, args := #[Operand.tmp 40, Operand.tmp 42], argTypes := #[43, 43] }, type := 43, pos := "ref.go:17", after := #[{ on := 3, ground := Ground.data }, { on := 5, ground := Ground.data }, { on := 3, ground := Ground.chain }], guard := none } : Oper) (by kernel_rfl) rfl (fun K hK => ?_)
    (rw [if_pos (by rfl)]; refine wp_appn (.tmp 40) (.tmp 42) 43 rfl 5 .u8 1 Tryd.underlying43 Tryd.info_u8 w.heap.size v5 hn h rfl HO5.out (.slice da n dc) n d rfl (HR.out.keep HB5.out) (by omega) (by omega) HB5.out.size ?_; intro v6 w6 ho6 hg6 hl6; obtain ⟨a6, c6, rfl⟩ := own_form ho6; have HO6 := Lib.hid ho6; have HB6 := Lib.hid (HB5.out.grown hg6 HB5.out.size (fun q hq => (HO5.out.lt q hq).1)); have HX6 := Lib.hid (HX5.out.grown HO5.out (by decide) hg6); have HF6 := Lib.hid (HF5.out.grown HO5.out hg6); have HK6 := Lib.hid (HK5.out.grown HO5.out (by decide) hg6); clear hN; have hN := And.intro HX6.out HF6.out; clear ho6 hg6 hl6)
    refine hK.out _ _ ?_ (fun hS1 => ?_)
    · (exact hN)
    clear hK K hS; have hS := hS1; clear hS1
    (try simp only [Act.put, List.setIfInBounds_toArray, List.set_cons_zero, List.set_cons_succ])
    refine wpAnyH_take (i := 7) (oi := ({ dst := some 8, op := Op.assign (Operand.tmp 43), type := 43, pos := "ref.go:17", after := #[{ on := 6, ground := Ground.data }, { on := 6, ground := Ground.chain }, { on := 0, ground := Ground.phase }, { on := 1, ground := Ground.phase }, { on := 2, ground := Ground.phase }, { on := 3, ground := Ground.phase }, { on := 4, ground := Ground.phase }, { on := 5, ground := Ground.phase }, { on := 6, ground := Ground.phase }], guard := none } : Oper)) (v := ?_) rfl (by kernel_rfl) (by kernel_rfl) (by kernel_rfl) (fun _ _ _ h => h) (Or.inl ⟨by rfl, ?_⟩) hS ?_
    rotate_left
    · (intro w hSw; (try dsimp only at hSw); go_simp; try with_reducible rfl)
    (try simp only [Act.put, List.setIfInBounds_toArray, List.set_cons_zero, List.set_cons_succ])
    refine wpAnyH_done (by kernel_rfl) ?_ _
    obtain ⟨f60, f61, f62⟩ := HF6.out.cells
    clear hS hN
    go_wp2_with (first
      | (refine wpList_store_row rfl 84 _ _ rfl (xb + 1 + 1) (kA false (.slice none 0 0)) rfl rfl _ _ HK6.out (kj_info _ _) rfl (kj_one _ _ _ _) ?_))
    have HK7 := HK6.out.row false (.slice none 0 0)
    refine bodyPost_ret_by (results_row_tmp3 rfl _ _ (xb + 1 + 1) _ rfl HK7.load) rfl ?_
    refine ⟨.slice a6 (hn + n) c6, rfl, ?_, brow HB6.out (by have := HXB.out; omega) (Nat.le_refl _) _⟩
    rw [List.length_append, HN.out, HZ.out]; exact HK6.out.row_own _ HO6.out (by decide)
  · go_enter Tryd.func31, Tryd.ntmps31
    go_wp2_with fail
    obtain ⟨w1, hw1⟩ : ∃ q, ((w.alloc (.cells (kA true (.slice va hn vc)) 84)).alloc (.cells (fA 4 ep (.slice da n dc)) 70)).alloc (.cells (kA false (.slice none 0 0)) 84) = q := ⟨_, rfl⟩
    rw [hw1]
    obtain ⟨xb, hxb⟩ : ∃ q, w.heap.size = q := ⟨_, rfl⟩
    have hb1 : Below w.heap.size w w1 := hw1 ▸ kbelow3 w _ _ _
    have HX1 : Hid (KO w1 xb true (.slice va hn vc)) := Lib.hid (by rw [← hw1, ← hxb]; exact (alloc3 w _ _ _).1)
    have HF1 : Hid (FO w1 (xb + 1) 4 ep (.slice da n dc)) := Lib.hid (by rw [← hw1, ← hxb]; exact (alloc3 w _ _ _).2.1)
    have HK1 : Hid (KO w1 (xb + 1 + 1) false (.slice none 0 0)) := Lib.hid (by rw [← hw1, ← hxb]; exact (alloc3 w _ _ _).2.2)
    have HB1 := Lib.hid hb1
    have HXB := Lib.hid hxb
    rw [hxb]
    clear hb1 hw1 hxb
    refine wp_region_held_drew (S := (fun w' => KO w' xb true (.slice va hn vc) ∧ FO w' (xb + 1) 4 ep (.slice da n dc))) (by kernel_rfl) ⟨HX1.out.keep (Below.refl w1.heap.size w1).drew, HF1.out.keep (Below.refl w1.heap.size w1).drew⟩ (fun hS => ?_)
    refine wpAnyH_take (i := 1) (oi := ({ dst := some 38, op := Op.fieldAddr 84 (Operand.tmp 2) 1, type := 0, pos := "ref.go:17", after := #[], guard := none } : Oper)) (v := ?_) rfl (by kernel_rfl) (by kernel_rfl) (by kernel_rfl) (fun _ _ _ h => h) (Or.inl ⟨by rfl, ?_⟩) hS ?_
    rotate_left
    · (intro w hSw; (try dsimp only at hSw); go_simp; try with_reducible rfl)
    (try simp only [Act.put, List.setIfInBounds_toArray, List.set_cons_zero, List.set_cons_succ])
    refine wpAnyH_take (i := 2) (oi := ({ dst := some 39, op := Op.load 43 (Operand.tmp 38), type := 43, pos := "ref.go:17", after := #[{ on := 1, ground := Ground.data }], guard := none } : Oper)) (v := .slice va hn vc) rfl (by kernel_rfl) (by kernel_rfl) (by kernel_rfl) (fun _ _ _ h => h) (Or.inl ⟨by rfl, ?_⟩) hS ?_
    · (intro w hSw; (try dsimp only at hSw); have z := hSw.1.cells.2; go_simp)
    (try simp only [Act.put, List.setIfInBounds_toArray, List.set_cons_zero, List.set_cons_succ])
    refine wpAnyH_take (i := 4) (oi := ({ dst := some 41, op := Op.fieldAddr 70 (Operand.tmp 3) 2, type := 0, pos := "ref.go:17", after := #[], guard := none } : Oper)) (v := ?_) rfl (by kernel_rfl) (by kernel_rfl) (by kernel_rfl) (fun _ _ _ h => h) (Or.inl ⟨by rfl, ?_⟩) hS ?_
    rotate_left
    · (intro w hSw; (try dsimp only at hSw); go_simp; try with_reducible rfl)
    (try simp only [Act.put, List.setIfInBounds_toArray, List.set_cons_zero, List.set_cons_succ])
    refine wpAnyH_take (i := 5) (oi := ({ dst := some 42, op := Op.load 43 (Operand.tmp 41), type := 43, pos := "ref.go:17", after := #[{ on := 4, ground := Ground.data }], guard := none } : Oper)) (v := .slice da n dc) rfl (by kernel_rfl) (by kernel_rfl) (by kernel_rfl) (fun _ _ _ h => h) (Or.inl ⟨by rfl, ?_⟩) hS ?_
    · (intro w hSw; (try dsimp only at hSw); have z := hSw.2.cells.2.2; go_simp)
    (try simp only [Act.put, List.setIfInBounds_toArray, List.set_cons_zero, List.set_cons_succ])
    refine rg_one 0 ({ dst := some 37, op := Op.buildSlice 43 0 #[], type := 43, pos := "ref.go:17", after := #[], guard := none } : Oper) (by kernel_rfl) rfl (fun K hK => ?_)
    go_simp
    (obtain ⟨w4, hw4⟩ : ∃ q, w1.alloc (.cells #[] 5) = q := ⟨_, rfl⟩; simp only [hw4]; have hb4 : Below w1.heap.size w1 w4.drew := hw4 ▸ bdrew0 w1 _; have HO4 : Hid (w4.drew.ownsRow w.heap.size 5 1 (.slice (some ⟨w1.heap.size, 0, none⟩) 0 0) 0 (il .u8 [])) := Lib.hid (World.ownsRow.drew (hw4 ▸ (own_empty rfl HB1.out.size).out)); have HB4 := Lib.hid (bch HB1.out hb4); have HX4 := Lib.hid (HX1.out.keep hb4); have HF4 := Lib.hid (HF1.out.keep hb4); have HK4 := Lib.hid (HK1.out.keep hb4); have hN := And.intro HX4.out HF4.out; clear hb4 hw4)
    refine hK.out _ _ ?_ (fun hS1 => ?_)
    · (exact hN)
    clear hK K hS; have hS := hS1; clear hS1
    (try simp only [Act.put, List.setIfInBounds_toArray, List.set_cons_zero, List.set_cons_succ])
    refine rg_one 3 ({ dst := some 40, op := Op.call { callee := Callee.builtin Builtin.append, args := #[Operand.tmp 37, Operand.tmp 39], argTypes := #[43, 43] }, type := 43, pos := "ref.go:17", after := #[{ on := 0, ground := Ground.data }, { on := 2, ground := Ground.data }], guard := none } : Oper) (by kernel_rfl) rfl (fun K hK => ?_)
    (rw [if_pos (by rfl)]; refine wp_appn (.tmp 37) (.tmp 39) 43 rfl 5 .u8 1 Tryd.underlying43 Tryd.info_u8 w.heap.size (.slice (some ⟨w1.heap.size, 0, none⟩) 0 0) 0 [] rfl HO4.out (.slice va hn vc) hn h rfl (HH.out.keep HB4.out) (by omega) (by omega) HB4.out.size ?_; intro v5 w5 ho5 hg5 hl5; rw [Nat.zero_add, List.nil_append] at ho5; have HO5 := Lib.hid ho5; have HB5 := Lib.hid (HB4.out.grown hg5 HB4.out.size (fun q hq => (HO4.out.lt q hq).1)); have HX5 := Lib.hid (HX4.out.grown HO4.out (by decide) hg5); have HF5 := Lib.hid (HF4.out.grown HO4.out hg5); have HK5 := Lib.hid (HK4.out.grown HO4.out (by decide) hg5); clear hN; have hN := And.intro HX5.out HF5.out; clear ho5 hg5 hl5)
    refine hK.out _ _ ?_ (fun hS1 => ?_)
    · (exact hN)
    clear hK K hS; have hS := hS1; clear hS1
    (try simp only [Act.put, List.setIfInBounds_toArray, List.set_cons_zero, List.set_cons_succ])
    refine rg_one 6 ({ dst := some 43, op := Op.call { callee := Callee.builtin Builtin.append, args := #[Operand.tmp 40, Operand.tmp 42], argTypes := #[43, 43] }, type := 43, pos := "ref.go:17", after := #[{ on := 3, ground := Ground.data }, { on := 5, ground := Ground.data }, { on := 3, ground := Ground.chain }], guard := none } : Oper) (by kernel_rfl) rfl (fun K hK => ?_)
    (rw [if_pos (by rfl)]; refine wp_appn (.tmp 40) (.tmp 42) 43 rfl 5 .u8 1 Tryd.underlying43 Tryd.info_u8 w.heap.size v5 hn h rfl HO5.out (.slice da n dc) n d rfl (HR.out.keep HB5.out) (by omega) (by omega) HB5.out.size ?_; intro v6 w6 ho6 hg6 hl6; obtain ⟨a6, c6, rfl⟩ := own_form ho6; have HO6 := Lib.hid ho6; have HB6 := Lib.hid (HB5.out.grown hg6 HB5.out.size (fun q hq => (HO5.out.lt q hq).1)); have HX6 := Lib.hid (HX5.out.grown HO5.out (by decide) hg6); have HF6 := Lib.hid (HF5.out.grown HO5.out hg6); have HK6 := Lib.hid (HK5.out.grown HO5.out (by decide) hg6); clear hN; have hN := And.intro HX6.out HF6.out; clear ho6 hg6 hl6)
    refine hK.out _ _ ?_ (fun hS1 => ?_)
    · (exact hN)
    clear hK K hS; have hS := hS1; clear hS1
    (try simp only [Act.put, List.setIfInBounds_toArray, List.set_cons_zero, List.set_cons_succ])
    refine wpAnyH_take (i := 7) (oi := ({ dst := some 8, op := Op.assign (Operand.tmp 43), type := 43, pos := "ref.go:17", after := #[{ on := 6, ground := Ground.data }, { on := 6, ground := Ground.chain }, { on := 0, ground := Ground.phase }, { on := 1, ground := Ground.phase }, { on := 2, ground := Ground.phase }, { on := 3, ground := Ground.phase }, { on := 4, ground := Ground.phase }, { on := 5, ground := Ground.phase }, { on := 6, ground := Ground.phase }], guard := none } : Oper)) (v := ?_) rfl (by kernel_rfl) (by kernel_rfl) (by kernel_rfl) (fun _ _ _ h => h) (Or.inl ⟨by rfl, ?_⟩) hS ?_
    rotate_left
    · (intro w hSw; (try dsimp only at hSw); go_simp; try with_reducible rfl)
    (try simp only [Act.put, List.setIfInBounds_toArray, List.set_cons_zero, List.set_cons_succ])
    refine wpAnyH_done (by kernel_rfl) ?_ _
    obtain ⟨f60, f61, f62⟩ := HF6.out.cells
    clear hS hN
    go_wp2_with (first
      | (refine wpList_store_row rfl 84 _ _ rfl (xb + 1 + 1) (kA false (.slice none 0 0)) rfl rfl _ _ HK6.out (kj_info _ _) rfl (kj_one _ _ _ _) ?_))
    have HK7 := HK6.out.row false (.slice none 0 0)
    refine bodyPost_ret_by (results_row_tmp3 rfl _ _ (xb + 1 + 1) _ rfl HK7.load) rfl ?_
    refine ⟨.slice a6 (hn + n) c6, rfl, ?_, brow HB6.out (by have := HXB.out; omega) (Nat.le_refl _) _⟩
    rw [List.length_append, HN.out, HZ.out]; exact HK6.out.row_own _ HO6.out (by decide)
set_option maxRecDepth 8000 in
set_option maxHeartbeats 4000000 in
/-- a record goes on -/
theorem rfeed_goes (o : Bool) (v : Value) (h : List Int) (k ep : Int) (dv : Value) (n : Nat) (d : List Int) (w : World) (hrh : RI .u8 w v h.length h) (hfew : h.length ≤ 512) (hri : RI .u8 w dv n d) (_hn1 : (n : Int) ≤ 140737488351232)
    (hk : (o = false ∧ k = 2) ∨ (o = true ∧ k = 3)) (hl : ¬ h.length + n > 512) :
    Calls Tryd.prog 31 #[.agg (kA o v), .agg (fA k ep dv)] w fun e w' =>
      ∃ u, e = .returned (.tuple #[.agg (kA true u), .slice none 0 0, .bool false, .int .i64 0]) ∧ w'.ownsRow w.heap.size 5 1 u (h ++ d).length (il .u8 (h ++ d)) ∧ Below w.heap.size w w' := by
  have hzl := hri.length
  have HR := Lib.hid hri
  obtain ⟨hn, hhn⟩ : ∃ m, h.length = m := ⟨_, rfl⟩
  rw [hhn] at hrh hl hfew
  have HH := Lib.hid hrh
  obtain ⟨va, vc, rfl⟩ : ∃ a c, v = .slice a hn c := by obtain ⟨a, c, e, _⟩ := hrh; exact ⟨a, c, e⟩
  obtain ⟨da, dc, rfl⟩ : ∃ a c, dv = .slice a n c := by obtain ⟨a, c, e, _⟩ := hri; exact ⟨a, c, e⟩
  have HN := Lib.hid hhn
  have HZ := Lib.hid hzl
  clear hri hrh hzl hhn
  rcases hk with ⟨rfl, rfl⟩ | ⟨rfl, rfl⟩
  · go_enter Tryd.func31, Tryd.ntmps31
    go_wp2_with fail
    obtain ⟨w1, hw1⟩ : ∃ q, ((w.alloc (.cells (kA false (.slice va hn vc)) 84)).alloc (.cells (fA 2 ep (.slice da n dc)) 70)).alloc (.cells (kA false (.slice none 0 0)) 84) = q := ⟨_, rfl⟩
    rw [hw1]
    obtain ⟨xb, hxb⟩ : ∃ q, w.heap.size = q := ⟨_, rfl⟩
    have hb1 : Below w.heap.size w w1 := hw1 ▸ kbelow3 w _ _ _
    have HX1 : Hid (KO w1 xb false (.slice va hn vc)) := Lib.hid (by rw [← hw1, ← hxb]; exact (alloc3 w _ _ _).1)
    have HF1 : Hid (FO w1 (xb + 1) 2 ep (.slice da n dc)) := Lib.hid (by rw [← hw1, ← hxb]; exact (alloc3 w _ _ _).2.1)
    have HK1 : Hid (KO w1 (xb + 1 + 1) false (.slice none 0 0)) := Lib.hid (by rw [← hw1, ← hxb]; exact (alloc3 w _ _ _).2.2)
    have HB1 := Lib.hid hb1
    have HXB := Lib.hid hxb
    rw [hxb]
    clear hb1 hw1 hxb
    refine wp_region_held_drew (S := (fun w' => KO w' xb false (.slice va hn vc) ∧ FO w' (xb + 1) 2 ep (.slice da n dc))) (by kernel_rfl) ⟨HX1.out.keep (Below.refl w1.heap.size w1).drew, HF1.out.keep (Below.refl w1.heap.size w1).drew⟩ (fun hS => ?_)
    refine wpAnyH_take (i := 1) (oi := ({ dst := some 38, op := Op.fieldAddr 84 (Operand.tmp 2) 1, type := 0, pos := "ref.go:17", after := #[], guard := none } : Oper)) (v := ?_) rfl (by kernel_rfl) (by kernel_rfl) (by kernel_rfl) (fun _ _ _ h => h) (Or.inl ⟨by rfl, ?_⟩) hS ?_
    rotate_left
    · (intro w hSw; (try dsimp only at hSw); go_simp; try with_reducible rfl)
    (try simp only [Act.put, List.setIfInBounds_toArray, List.set_cons_zero, List.set_cons_succ])
    refine wpAnyH_take (i := 2) (oi := ({ dst := some 39, op := Op.load 43 (Operand.tmp 38), type := 43, pos := "ref.go:17", after := #[{ on := 1, ground := Ground.data }], guard := none } : Oper)) (v := .slice va hn vc) rfl (by kernel_rfl) (by kernel_rfl) (by kernel_rfl) (fun _ _ _ h => h) (Or.inl ⟨by rfl, ?_⟩) hS ?_
    · (intro w hSw; (try dsimp only at hSw); have z := hSw.1.cells.2; go_simp)
    (try simp only [Act.put, List.setIfInBounds_toArray, List.set_cons_zero, List.set_cons_succ])
    refine wpAnyH_take (i := 4) (oi := ({ dst := some 41, op := Op.fieldAddr 70 (Operand.tmp 3) 2, type := 0, pos := "ref.go:17", after := #[], guard := none } : Oper)) (v := ?_) rfl (by kernel_rfl) (by kernel_rfl) (by kernel_rfl) (fun _ _ _ h => h) (Or.inl ⟨by rfl, ?_⟩) hS ?_
    rotate_left
    · (intro w hSw; (try dsimp only at hSw); go_simp; try with_reducible rfl)
    (try simp only [Act.put, List.setIfInBounds_toArray, List.set_cons_zero, List.set_cons_succ])
    refine wpAnyH_take (i := 5) (oi := ({ dst := some 42, op := Op.load 43 (Operand.tmp 41), type := 43, pos := "ref.go:17", after := #[{ on := 4, ground := Ground.data }], guard := none } : Oper)) (v := .slice da n dc) rfl (by kernel_rfl) (by kernel_rfl) (by kernel_rfl) (fun _ _ _ h => h) (Or.inl ⟨by rfl, ?_⟩) hS ?_
    · (intro w hSw; (try dsimp only at hSw); have z := hSw.2.cells.2.2; go_simp)
    (try simp only [Act.put, List.setIfInBounds_toArray, List.set_cons_zero, List.set_cons_succ])
    refine rg_one 0 ({ dst := some 37, op := Op.buildSlice 43 0 #[], type := 43, pos := "ref.go:17", after := #[], guard := none } : Oper) (by kernel_rfl) rfl (fun K hK => ?_)
    go_simp
    (obtain ⟨w4, hw4⟩ : ∃ q, w1.alloc (.cells #[] 5) = q := ⟨_, rfl⟩; simp only [hw4]; have hb4 : Below w1.heap.size w1 w4.drew := hw4 ▸ bdrew0 w1 _; have HO4 : Hid (w4.drew.ownsRow w.heap.size 5 1 (.slice (some ⟨w1.heap.size, 0, none⟩) 0 0) 0 (il .u8 [])) := Lib.hid (World.ownsRow.drew (hw4 ▸ (own_empty rfl HB1.out.size).out)); have HB4 := Lib.hid (bch HB1.out hb4); have HX4 := Lib.hid (HX1.out.keep hb4); have HF4 := Lib.hid (HF1.out.keep hb4); have HK4 := Lib.hid (HK1.out.keep hb4); have hN := And.intro HX4.out HF4.out; clear hb4 hw4)
    refine hK.out _ _ ?_ (fun hS1 => ?_)
    · (exact hN)
    clear hK K hS; have hS := hS1; clear hS1
    (try simp only [Act.put, List.setIfInBounds_toArray, List.set_cons_zero, List.set_cons_succ])
    refine rg_one 3 ({ dst := some 40, op := Op.call { callee := Callee.builtin Builtin.append, args := #[Operand.tmp 37, Operand.tmp 39], argTypes := #[43, 43] }, type := 43, pos := "ref.go:17", after := #[{ on := 0, ground := Ground.data }, { on := 2, ground := Ground.data }], guard := none } : Oper) (by kernel_rfl) rfl (fun K hK => ?_)
    (rw [if_pos (by rfl)]; refine wp_appn (.tmp 37) (.tmp 39) 43 rfl 5 .u8 1 Tryd.underlying43 Tryd.info_u8 w.heap.size (.slice (some ⟨w1.heap.size, 0, none⟩) 0 0) 0 [] rfl HO4.out (.slice va hn vc) hn h rfl (HH.out.keep HB4.out) (by omega) (by omega) HB4.out.size ?_; intro v5 w5 ho5 hg5 hl5; rw [Nat.zero_add, List.nil_append] at ho5; have HO5 := Lib.hid ho5; have HB5 := Lib.hid (HB4.out.grown hg5 HB4.out.size (fun q hq => (HO4.out.lt q hq).1)); have HX5 := Lib.hid (HX4.out.grown HO4.out (by decide) hg5); have HF5 := Lib.hid (HF4.out.grown HO4.out hg5); have HK5 := Lib.hid (HK4.out.grown HO4.out (by decide) hg5); clear hN; have hN := And.intro HX5.out HF5.out; clear ho5 hg5 hl5)
    refine hK.out _ _ ?_ (fun hS1 => ?_)
    · (exact hN)
    clear hK K hS; have hS := hS1; clear hS1
    (try simp only [Act.put, List.setIfInBounds_toArray, List.set_cons_zero, List.set_cons_succ])
    refine rg_one 6 ({ dst := some 43, op := Op.call { callee := Callee.builtin Builtin.append, args := #[Operand.tmp 40, Operand.tmp 42], argTypes := #[43, 43] }, type := 43, pos := "ref.go:17", after := #[{ on := 3, ground := Ground.data }, { on := 5, ground := Ground.data }, { on := 3, ground := Ground.chain }], guard := none } : Oper) (by kernel_rfl) rfl (fun K hK => ?_)
    (rw [if_pos (by rfl)]; refine wp_appn (.tmp 40) (.tmp 42) 43 rfl 5 .u8 1 Tryd.underlying43 Tryd.info_u8 w.heap.size v5 hn h rfl HO5.out (.slice da n dc) n d rfl (HR.out.keep HB5.out) (by omega) (by omega) HB5.out.size ?_; intro v6 w6 ho6 hg6 hl6; obtain ⟨a6, c6, rfl⟩ := own_form ho6; have HO6 := Lib.hid ho6; have HB6 := Lib.hid (HB5.out.grown hg6 HB5.out.size (fun q hq => (HO5.out.lt q hq).1)); have HX6 := Lib.hid (HX5.out.grown HO5.out (by decide) hg6); have HF6 := Lib.hid (HF5.out.grown HO5.out hg6); have HK6 := Lib.hid (HK5.out.grown HO5.out (by decide) hg6); clear hN; have hN := And.intro HX6.out HF6.out; clear ho6 hg6 hl6)
    refine hK.out _ _ ?_ (fun hS1 => ?_)
    · (exact hN)
    clear hK K hS; have hS := hS1; clear hS1
    (try simp only [Act.put, List.setIfInBounds_toArray, List.set_cons_zero, List.set_cons_succ])
    refine wpAnyH_take (i := 7) (oi := ({ dst := some 8, op := Op.assign (Operand.tmp 43), type := 43, pos := "ref.go:17", after := #[{ on := 6, ground := Ground.data }, { on := 6, ground := Ground.chain }, { on := 0, ground := Ground.phase }, { on := 1, ground := Ground.phase }, { on := 2, ground := Ground.phase }, { on := 3, ground := Ground.phase }, { on := 4, ground := Ground.phase }, { on := 5, ground := Ground.phase }, { on := 6, ground := Ground.phase }], guard := none } : Oper)) (v := ?_) rfl (by kernel_rfl) (by kernel_rfl) (by kernel_rfl) (fun _ _ _ h => h) (Or.inl ⟨by rfl, ?_⟩) hS ?_
    rotate_left
    · (intro w hSw; (try dsimp only at hSw); go_simp; try with_reducible rfl)
    (try simp only [Act.put, List.setIfInBounds_toArray, List.set_cons_zero, List.set_cons_succ])
    refine wpAnyH_done (by kernel_rfl) ?_ _
    obtain ⟨f60, f61, f62⟩ := HF6.out.cells
    clear hS hN
    go_wp2_with (first
      | (refine wpList_store_row rfl 84 _ _ rfl (xb + 1 + 1) (kA true (.slice a6 (hn + n) c6)) rfl rfl _ _ HK6.out (kj_info _ _) rfl (kj_one _ _ _ _) ?_))
    have HK7 := HK6.out.row true (.slice a6 (hn + n) c6)
    refine bodyPost_ret_by (results_row_tmp3 rfl _ _ (xb + 1 + 1) _ rfl HK7.load) rfl ?_
    refine ⟨.slice a6 (hn + n) c6, rfl, ?_, brow HB6.out (by have := HXB.out; omega) (Nat.le_refl _) _⟩
    rw [List.length_append, HN.out, HZ.out]; exact HK6.out.row_own _ HO6.out (by decide)
  · go_enter Tryd.func31, Tryd.ntmps31
    go_wp2_with fail
    obtain ⟨w1, hw1⟩ : ∃ q, ((w.alloc (.cells (kA true (.slice va hn vc)) 84)).alloc (.cells (fA 3 ep (.slice da n dc)) 70)).alloc (.cells (kA false (.slice none 0 0)) 84) = q := ⟨_, rfl⟩
    rw [hw1]
    obtain ⟨xb, hxb⟩ : ∃ q, w.heap.size = q := ⟨_, rfl⟩
    have hb1 : Below w.heap.size w w1 := hw1 ▸ kbelow3 w _ _ _
    have HX1 : Hid (KO w1 xb true (.slice va hn vc)) := Lib.hid (by rw [← hw1, ← hxb]; exact (alloc3 w _ _ _).1)
    have HF1 : Hid (FO w1 (xb + 1) 3 ep (.slice da n dc)) := Lib.hid (by rw [← hw1, ← hxb]; exact (alloc3 w _ _ _).2.1)
    have HK1 : Hid (KO w1 (xb + 1 + 1) false (.slice none 0 0)) := Lib.hid (by rw [← hw1, ← hxb]; exact (alloc3 w _ _ _).2.2)
    have HB1 := Lib.hid hb1
    have HXB := Lib.hid hxb
    rw [hxb]
    clear hb1 hw1 hxb
    refine wp_region_held_drew (S := (fun w' => KO w' xb true (.slice va hn vc) ∧ FO w' (xb + 1) 3 ep (.slice da n dc))) (by kernel_rfl) ⟨HX1.out.keep (Below.refl w1.heap.size w1).drew, HF1.out.keep (Below.refl w1.heap.size w1).drew⟩ (fun hS => ?_)
    refine wpAnyH_take (i := 1) (oi := ({ dst := some 38, op := Op.fieldAddr 84 (Operand.tmp 2) 1, type := 0, pos := "ref.go:17", after := #[], guard := none } : Oper)) (v := ?_) rfl (by kernel_rfl) (by kernel_rfl) (by kernel_rfl) (fun _ _ _ h => h) (Or.inl ⟨by rfl, ?_⟩) hS ?_
    rotate_left
    · (intro w hSw; (try dsimp only at hSw); go_simp; try with_reducible rfl)
    (try simp only [Act.put, List.setIfInBounds_toArray, List.set_cons_zero, List.set_cons_succ])
    refine wpAnyH_take (i := 2) (oi := ({ dst := some 39, op := Op.load 43 (Operand.tmp 38), type := 43, pos := "ref.go:17", after := #[{ on := 1, ground := Ground.data }], guard := none } : Oper)) (v := .slice va hn vc) rfl (by kernel_rfl) (by kernel_rfl) (by kernel_rfl) (fun _ _ _ h => h) (Or.inl ⟨by rfl, ?_⟩) hS ?_
    · (intro w hSw; (try dsimp only at hSw); have z := hSw.1.cells.2; go_simp)
    (try simp only [Act.put, List.setIfInBounds_toArray, List.set_cons_zero, List.set_cons_succ])
    refine wpAnyH_take (i := 4) (oi := ({ dst := some 41, op := Op.fieldAddr 70 (Operand.tmp 3) 2, type := 0, pos := "ref.go:17", after := #[], guard := none } : Oper)) (v := ?_) rfl (by kernel_rfl) (by kernel_rfl) (by kernel_rfl) (fun _ _ _ h => h) (Or.inl ⟨by rfl, ?_⟩) hS ?_
    rotate_left
    · (intro w hSw; (try dsimp only at hSw); go_simp; try with_reducible rfl)
    (try simp only [Act.put, List.setIfInBounds_toArray, List.set_cons_zero, List.set_cons_succ])
    refine wpAnyH_take (i := 5) (oi := ({ dst := some 42, op := Op.load 43 (Operand.tmp 41), type := 43, pos := "ref.go:17", after := #[{ on := 4, ground := Ground.data }], guard := none } : Oper)) (v := .slice da n dc) rfl (by kernel_rfl) (by kernel_rfl) (by kernel_rfl) (fun _ _ _ h => h) (Or.inl ⟨by rfl, ?_⟩) hS ?_
    · (intro w hSw; (try dsimp only at hSw); have z := hSw.2.cells.2.2; go_simp)
    (try simp only [Act.put, List.setIfInBounds_toArray, List.set_cons_zero, List.set_cons_succ])
    refine rg_one 0 ({ dst := some 37, op := Op.buildSlice 43 0 #[], type := 43, pos := "ref.go:17", after := #[], guard := none } : Oper) (by kernel_rfl) rfl (fun K hK => ?_)
    go_simp
    (obtain ⟨w4, hw4⟩ : ∃ q, w1.alloc (.cells #[] 5) = q := ⟨_, rfl⟩; simp only [hw4]; have hb4 : Below w1.heap.size w1 w4.drew := hw4 ▸ bdrew0 w1 _; have HO4 : Hid (w4.drew.ownsRow w.heap.size 5 1 (.slice (some ⟨w1.heap.size, 0, none⟩) 0 0) 0 (il .u8 [])) := Lib.hid (World.ownsRow.drew (hw4 ▸ (own_empty rfl HB1.out.size).out)); have HB4 := Lib.hid (bch HB1.out hb4); have HX4 := Lib.hid (HX1.out.keep hb4); have HF4 := Lib.hid (HF1.out.keep hb4); have HK4 := Lib.hid (HK1.out.keep hb4); have hN := And.intro HX4.out HF4.out; clear hb4 hw4)
    refine hK.out _ _ ?_ (fun hS1 => ?_)
    · (exact hN)
    clear hK K hS; have hS := hS1; clear hS1
    (try simp only [Act.put, List.setIfInBounds_toArray, List.set_cons_zero, List.set_cons_succ])
    refine rg_one 3 ({ dst := some 40, op := Op.call { callee := Callee.builtin Builtin.append, args := #[Operand.tmp 37, Operand.tmp 39], argTypes := #[43, 43] }, type := 43, pos := "ref.go:17", after := #[{ on := 0, ground := Ground.data }, { on := 2, ground := Ground.data }], guard := none } : Oper) (by kernel_rfl) rfl (fun K hK => ?_)
    (rw [if_pos (by rfl)]; refine wp_appn (.tmp 37) (.tmp 39) 43 rfl 5 .u8 1 Tryd.underlying43 Tryd.info_u8 w.heap.size (.slice (some ⟨w1.heap.size, 0, none⟩) 0 0) 0 [] rfl HO4.out (.slice va hn vc) hn h rfl (HH.out.keep HB4.out) (by omega) (by omega) HB4.out.size ?_; intro v5 w5 ho5 hg5 hl5; rw [Nat.zero_add, List.nil_append] at ho5; have HO5 := Lib.hid ho5; have HB5 := Lib.hid (HB4.out.grown hg5 HB4.out.size (fun q hq => (HO4.out.lt q hq).1)); have HX5 := Lib.hid (HX4.out.grown HO4.out (by decide) hg5); have HF5 := Lib.hid (HF4.out.grown HO4.out hg5); have HK5 := Lib.hid (HK4.out.grown HO4.out (by decide) hg5); clear hN; have hN := And.intro HX5.out HF5.out; clear ho5 hg5 hl5)
    refine hK.out _ _ ?_ (fun hS1 => ?_)
    · (exact hN)
    clear hK K hS; have hS := hS1; clear hS1
    (try simp only [Act.put, List.setIfInBounds_toArray, List.set_cons_zero, List.set_cons_succ])
    refine rg_one 6 ({ dst := some 43, op := Op.call { callee := Callee.builtin Builtin.append, args := #[Operand.tmp 40, Operand.tmp 42], argTypes := #[43, 43] }, type := 43, pos := "ref.go:17", after := #[{ on := 3, ground := Ground.data }, { on := 5, ground := Ground.data }, { on := 3, ground := Ground.chain }], guard := none } : Oper) (by kernel_rfl) rfl (fun K hK => ?_)
    (rw [if_pos (by rfl)]; refine wp_appn (.tmp 40) (.tmp 42) 43 rfl 5 .u8 1 Tryd.underlying43 Tryd.info_u8 w.heap.size v5 hn h rfl HO5.out (.slice da n dc) n d rfl (HR.out.keep HB5.out) (by omega) (by omega) HB5.out.size ?_; intro v6 w6 ho6 hg6 hl6; obtain ⟨a6, c6, rfl⟩ := own_form ho6; have HO6 := Lib.hid ho6; have HB6 := Lib.hid (HB5.out.grown hg6 HB5.out.size (fun q hq => (HO5.out.lt q hq).1)); have HX6 := Lib.hid (HX5.out.grown HO5.out (by decide) hg6); have HF6 := Lib.hid (HF5.out.grown HO5.out hg6); have HK6 := Lib.hid (HK5.out.grown HO5.out (by decide) hg6); clear hN; have hN := And.intro HX6.out HF6.out; clear ho6 hg6 hl6)
    refine hK.out _ _ ?_ (fun hS1 => ?_)
    · (exact hN)
    clear hK K hS; have hS := hS1; clear hS1
    (try simp only [Act.put, List.setIfInBounds_toArray, List.set_cons_zero, List.set_cons_succ])
    refine wpAnyH_take (i := 7) (oi := ({ dst := some 8, op := Op.assign (Operand.tmp 43), type := 43, pos := "ref.go:17", after := #[{ on := 6, ground := Ground.data }, { on := 6, ground := Ground.chain }, { on := 0, ground := Ground.phase }, { on := 1, ground := Ground.phase }, { on := 2, ground := Ground.phase }, { on := 3, ground := Ground.phase }, { on := 4, ground := Ground.phase }, { on := 5, ground := Ground.phase }, { on := 6, ground := Ground.phase }], guard := none } : Oper)) (v := ?_) rfl (by kernel_rfl) (by kernel_rfl) (by kernel_rfl) (fun _ _ _ h => h) (Or.inl ⟨by rfl, ?_⟩) hS ?_
    rotate_left
    · (intro w hSw; (try dsimp only at hSw); go_simp; try with_reducible rfl)
    (try simp only [Act.put, List.setIfInBounds_toArray, List.set_cons_zero, List.set_cons_succ])
    refine wpAnyH_done (by kernel_rfl) ?_ _
    obtain ⟨f60, f61, f62⟩ := HF6.out.cells
    clear hS hN
    go_wp2_with (first
      | (refine wpList_store_row rfl 84 _ _ rfl (xb + 1 + 1) (kA true (.slice a6 (hn + n) c6)) rfl rfl _ _ HK6.out (kj_info _ _) rfl (kj_one _ _ _ _) ?_))
    have HK7 := HK6.out.row true (.slice a6 (hn + n) c6)
    refine bodyPost_ret_by (results_row_tmp3 rfl _ _ (xb + 1 + 1) _ rfl HK7.load) rfl ?_
    refine ⟨.slice a6 (hn + n) c6, rfl, ?_, brow HB6.out (by have := HXB.out; omega) (Nat.le_refl _) _⟩
    rw [List.length_append, HN.out, HZ.out]; exact HK6.out.row_own _ HO6.out (by decide)
set_option maxRecDepth 8000 in
set_option maxHeartbeats 4000000 in
/-- too many bytes -/
theorem rfeed_long (o : Bool) (v : Value) (h : List Int) (k ep : Int) (dv : Value) (n : Nat) (d : List Int) (w : World) (hrh : RI .u8 w v h.length h) (hfew : h.length ≤ 512) (hri : RI .u8 w dv n d) (hn1 : (n : Int) ≤ 140737488351232)
    (hk : jFit o k = true) (hl : h.length + n > 512) :
    Calls Tryd.prog 31 #[.agg (kA o v), .agg (fA k ep dv)] w fun e w' =>
      e = .returned (.tuple #[.agg (kA false (.slice none 0 0)), .slice none 0 0, .bool false, .int .i64 5]) ∧ Below w.heap.size w w' := by
  have hc : (o = false ∧ k = 1) ∨ (o = false ∧ k = 2) ∨ (o = true ∧ k = 3) ∨ (o = true ∧ k = 4) := by
    unfold jFit at hk
    cases o <;> simp at hk ⊢ <;> exact hk
  clear hk
  have hzl := hri.length
  have HR := Lib.hid hri
  obtain ⟨hn, hhn⟩ : ∃ m, h.length = m := ⟨_, rfl⟩
  rw [hhn] at hrh hl hfew
  have HH := Lib.hid hrh
  obtain ⟨va, vc, rfl⟩ : ∃ a c, v = .slice a hn c := by obtain ⟨a, c, e, _⟩ := hrh; exact ⟨a, c, e⟩
  obtain ⟨da, dc, rfl⟩ : ∃ a c, dv = .slice a n c := by obtain ⟨a, c, e, _⟩ := hri; exact ⟨a, c, e⟩
  have HN := Lib.hid hhn
  have HZ := Lib.hid hzl
  clear hri hrh hzl hhn
  rcases hc with ⟨rfl, rfl⟩ | ⟨rfl, rfl⟩ | ⟨rfl, rfl⟩ | ⟨rfl, rfl⟩
  · go_enter Tryd.func31, Tryd.ntmps31
    go_wp2_with fail
    obtain ⟨w1, hw1⟩ : ∃ q, ((w.alloc (.cells (kA false (.slice va hn vc)) 84)).alloc (.cells (fA 1 ep (.slice da n dc)) 70)).alloc (.cells (kA false (.slice none 0 0)) 84) = q := ⟨_, rfl⟩
    rw [hw1]
    obtain ⟨xb, hxb⟩ : ∃ q, w.heap.size = q := ⟨_, rfl⟩
    have hb1 : Below w.heap.size w w1 := hw1 ▸ kbelow3 w _ _ _
    have HX1 : Hid (KO w1 xb false (.slice va hn vc)) := Lib.hid (by rw [← hw1, ← hxb]; exact (alloc3 w _ _ _).1)
    have HF1 : Hid (FO w1 (xb + 1) 1 ep (.slice da n dc)) := Lib.hid (by rw [← hw1, ← hxb]; exact (alloc3 w _ _ _).2.1)
    have HK1 : Hid (KO w1 (xb + 1 + 1) false (.slice none 0 0)) := Lib.hid (by rw [← hw1, ← hxb]; exact (alloc3 w _ _ _).2.2)
    have HB1 := Lib.hid hb1
    have HXB := Lib.hid hxb
    rw [hxb]
    clear hb1 hw1 hxb
    refine wp_region_held_drew (S := (fun w' => KO w' xb false (.slice va hn vc) ∧ FO w' (xb + 1) 1 ep (.slice da n dc))) (by kernel_rfl) ⟨HX1.out.keep (Below.refl w1.heap.size w1).drew, HF1.out.keep (Below.refl w1.heap.size w1).drew⟩ (fun hS => ?_)
    refine wpAnyH_take (i := 1) (oi := ({ dst := some 38, op := Op.fieldAddr 84 (Operand.tmp 2) 1, type := 0, pos := "ref.go:17", after := #[], guard := none } : Oper)) (v := ?_) rfl (by kernel_rfl) (by kernel_rfl) (by kernel_rfl) (fun _ _ _ h => h) (Or.inl ⟨by rfl, ?_⟩) hS ?_
    rotate_left
    · (intro w hSw; (try dsimp only at hSw); go_simp; try with_reducible rfl)
    (try simp only [Act.put, List.setIfInBounds_toArray, List.set_cons_zero, List.set_cons_succ])
    refine wpAnyH_take (i := 2) (oi := ({ dst := some 39, op := Op.load 43 (Operand.tmp 38), type := 43, pos := "ref.go:17", after := #[{ on := 1, ground := Ground.data }], guard := none } : Oper)) (v := .slice va hn vc) rfl (by kernel_rfl) (by kernel_rfl) (by kernel_rfl) (fun _ _ _ h => h) (Or.inl ⟨by rfl, ?_⟩) hS ?_
    · (intro w hSw; (try dsimp only at hSw); have z := hSw.1.cells.2; go_simp)
    (try simp only [Act.put, List.setIfInBounds_toArray, List.set_cons_zero, List.set_cons_succ])
    refine wpAnyH_take (i := 4) (oi := ({ dst := some 41, op := Op.fieldAddr 70 (Operand.tmp 3) 2, type := 0, pos := "ref.go:17", after := #[], guard := none } : Oper)) (v := ?_) rfl (by kernel_rfl) (by kernel_rfl) (by kernel_rfl) (fun _ _ _ h => h) (Or.inl ⟨by rfl, ?_⟩) hS ?_
    rotate_left
    · (intro w hSw; (try dsimp only at hSw); go_simp; try with_reducible rfl)
    (try simp only [Act.put, List.setIfInBounds_toArray, List.set_cons_zero, List.set_cons_succ])
    refine wpAnyH_take (i := 5) (oi := ({ dst := some 42, op := Op.load 43 (Operand.tmp 41), type := 43, pos := "ref.go:17", after := #[{ on := 4, ground := Ground.data }], guard := none } : Oper)) (v := .slice da n dc) rfl (by kernel_rfl) (by kernel_rfl) (by kernel_rfl) (fun _ _ _ h => h) (Or.inl ⟨by rfl, ?_⟩) hS ?_
    · (intro w hSw; (try dsimp only at hSw); have z := hSw.2.cells.2.2; go_simp)
    (try simp only [Act.put, List.setIfInBounds_toArray, List.set_cons_zero, List.set_cons_succ])
    refine rg_one 0 ({ dst := some 37, op := Op.buildSlice 43 0 #[], type := 43, pos := "ref.go:17", after := #[], guard := none } : Oper) (by kernel_rfl) rfl (fun K hK => ?_)
    go_simp
    (obtain ⟨w4, hw4⟩ : ∃ q, w1.alloc (.cells #[] 5) = q := ⟨_, rfl⟩; simp only [hw4]; have hb4 : Below w1.heap.size w1 w4.drew := hw4 ▸ bdrew0 w1 _; have HO4 : Hid (w4.drew.ownsRow w.heap.size 5 1 (.slice (some ⟨w1.heap.size, 0, none⟩) 0 0) 0 (il .u8 [])) := Lib.hid (World.ownsRow.drew (hw4 ▸ (own_empty rfl HB1.out.size).out)); have HB4 := Lib.hid (bch HB1.out hb4); have HX4 := Lib.hid (HX1.out.keep hb4); have HF4 := Lib.hid (HF1.out.keep hb4); have HK4 := Lib.hid (HK1.out.keep hb4); have hN := And.intro HX4.out HF4.out; clear hb4 hw4)
    refine hK.out _ _ ?_ (fun hS1 => ?_)
    · (exact hN)
    clear hK K hS; have hS := hS1; clear hS1
    (try simp only [Act.put, List.setIfInBounds_toArray, List.set_cons_zero, List.set_cons_succ])
    refine rg_one 3 ({ dst := some 40, op := Op.call { callee := Callee.builtin Builtin.append, args := #[Operand.tmp 37, Operand.tmp 39], argTypes := #[43, 43] }, type := 43, pos := "ref.go:17", after := #[{ on := 0, ground := Ground.data }, { on := 2, ground := Ground.data }], guard := none } : Oper) (by kernel_rfl) rfl (fun K hK => ?_)
    (rw [if_pos (by rfl)]; refine wp_appn (.tmp 37) (.tmp 39) 43 rfl 5 .u8 1 Tryd.underlying43 Tryd.info_u8 w.heap.size (.slice (some ⟨w1.heap.size, 0, none⟩) 0 0) 0 [] rfl HO4.out (.slice va hn vc) hn h rfl (HH.out.keep HB4.out) (by omega) (by omega) HB4.out.size ?_; intro v5 w5 ho5 hg5 hl5; rw [Nat.zero_add, List.nil_append] at ho5; have HO5 := Lib.hid ho5; have HB5 := Lib.hid (HB4.out.grown hg5 HB4.out.size (fun q hq => (HO4.out.lt q hq).1)); have HX5 := Lib.hid (HX4.out.grown HO4.out (by decide) hg5); have HF5 := Lib.hid (HF4.out.grown HO4.out hg5); have HK5 := Lib.hid (HK4.out.grown HO4.out (by decide) hg5); clear hN; have hN := And.intro HX5.out HF5.out; clear ho5 hg5 hl5)
    refine hK.out _ _ ?_ (fun hS1 => ?_)
    · (exact hN)
    clear hK K hS; have hS := hS1; clear hS1
    (try simp only [Act.put, List.setIfInBounds_toArray, List.set_cons_zero, List.set_cons_succ])
    refine rg_one 6 ({ dst := some 43, op := Op.call { callee := Callee.builtin Builtin.append, args := #[Operand.tmp 40, Operand.tmp 42], argTypes := #[43, 43] }, type := 43, pos := "ref.go:17", after := #[{ on := 3, ground := Ground.data }, { on := 5, ground := Ground.data }, { on := 3, ground := Ground.chain }], guard := none } : Oper) (by kernel_rfl) rfl (fun K hK => ?_)
    (rw [if_pos (by rfl)]; refine wp_appn (.tmp 40) (.tmp 42) 43 rfl 5 .u8 1 Tryd.underlying43 Tryd.info_u8 w.heap.size v5 hn h rfl HO5.out (.slice da n dc) n d rfl (HR.out.keep HB5.out) (by omega) (by omega) HB5.out.size ?_; intro v6 w6 ho6 hg6 hl6; obtain ⟨a6, c6, rfl⟩ := own_form ho6; have HO6 := Lib.hid ho6; have HB6 := Lib.hid (HB5.out.grown hg6 HB5.out.size (fun q hq => (HO5.out.lt q hq).1)); have HX6 := Lib.hid (HX5.out.grown HO5.out (by decide) hg6); have HF6 := Lib.hid (HF5.out.grown HO5.out hg6); have HK6 := Lib.hid (HK5.out.grown HO5.out (by decide) hg6); clear hN; have hN := And.intro HX6.out HF6.out; clear ho6 hg6 hl6)
    refine hK.out _ _ ?_ (fun hS1 => ?_)
    · (exact hN)
    clear hK K hS; have hS := hS1; clear hS1
    (try simp only [Act.put, List.setIfInBounds_toArray, List.set_cons_zero, List.set_cons_succ])
    refine wpAnyH_take (i := 7) (oi := ({ dst := some 8, op := Op.assign (Operand.tmp 43), type := 43, pos := "ref.go:17", after := #[{ on := 6, ground := Ground.data }, { on := 6, ground := Ground.chain }, { on := 0, ground := Ground.phase }, { on := 1, ground := Ground.phase }, { on := 2, ground := Ground.phase }, { on := 3, ground := Ground.phase }, { on := 4, ground := Ground.phase }, { on := 5, ground := Ground.phase }, { on := 6, ground := Ground.phase }], guard := none } : Oper)) (v := ?_) rfl (by kernel_rfl) (by kernel_rfl) (by kernel_rfl) (fun _ _ _ h => h) (Or.inl ⟨by rfl, ?_⟩) hS ?_
    rotate_left
    · (intro w hSw; (try dsimp only at hSw); go_simp; try with_reducible rfl)
    (try simp only [Act.put, List.setIfInBounds_toArray, List.set_cons_zero, List.set_cons_succ])
    refine wpAnyH_done (by kernel_rfl) ?_ _
    obtain ⟨f60, f61, f62⟩ := HF6.out.cells
    clear hS hN
    go_wp2_with (first
      | (refine wpList_store_row rfl 84 _ _ rfl (xb + 1 + 1) (kA false (.slice none 0 0)) rfl rfl _ _ HK6.out (kj_info _ _) rfl (kj_one _ _ _ _) ?_))
    have HK7 := HK6.out.row false (.slice none 0 0)
    refine bodyPost_ret_by (results_row_tmp3 rfl _ _ (xb + 1 + 1) _ rfl HK7.load) rfl ?_
    exact ⟨rfl, brow HB6.out (by have := HXB.out; omega) (Nat.le_refl _) _⟩
  · go_enter Tryd.func31, Tryd.ntmps31
    go_wp2_with fail
    obtain ⟨w1, hw1⟩ : ∃ q, ((w.alloc (.cells (kA false (.slice va hn vc)) 84)).alloc (.cells (fA 2 ep (.slice da n dc)) 70)).alloc (.cells (kA false (.slice none 0 0)) 84) = q := ⟨_, rfl⟩
    rw [hw1]
    obtain ⟨xb, hxb⟩ : ∃ q, w.heap.size = q := ⟨_, rfl⟩
    have hb1 : Below w.heap.size w w1 := hw1 ▸ kbelow3 w _ _ _
    have HX1 : Hid (KO w1 xb false (.slice va hn vc)) := Lib.hid (by rw [← hw1, ← hxb]; exact (alloc3 w _ _ _).1)
    have HF1 : Hid (FO w1 (xb + 1) 2 ep (.slice da n dc)) := Lib.hid (by rw [← hw1, ← hxb]; exact (alloc3 w _ _ _).2.1)
    have HK1 : Hid (KO w1 (xb + 1 + 1) false (.slice none 0 0)) := Lib.hid (by rw [← hw1, ← hxb]; exact (alloc3 w _ _ _).2.2)
    have HB1 := Lib.hid hb1
    have HXB := Lib.hid hxb
    rw [hxb]
    clear hb1 hw1 hxb
    refine wp_region_held_drew (S := (fun w' => KO w' xb false (.slice va hn vc) ∧ FO w' (xb + 1) 2 ep (.slice da n dc))) (by kernel_rfl) ⟨HX1.out.keep (Below.refl w1.heap.size w1).drew, HF1.out.keep (Below.refl w1.heap.size w1).drew⟩ (fun hS => ?_)
    refine wpAnyH_take (i := 1) (oi := ({ dst := some 38, op := Op.fieldAddr 84 (Operand.tmp 2) 1, type := 0, pos := "ref.go:17", after := #[], guard := none } : Oper)) (v := ?_) rfl (by kernel_rfl) (by kernel_rfl) (by kernel_rfl) (fun _ _ _ h => h) (Or.inl ⟨by rfl, ?_⟩) hS ?_
    rotate_left
    · (intro w hSw; (try dsimp only at hSw); go_simp; try with_reducible rfl)
    (try simp only [Act.put, List.setIfInBounds_toArray, List.set_cons_zero, List.set_cons_succ])
    refine wpAnyH_take (i := 2) (oi := ({ dst := some 39, op := Op.load 43 (Operand.tmp 38), type := 43, pos := "ref.go:17", after := #[{ on := 1, ground := Ground.data }], guard := none } : Oper)) (v := .slice va hn vc) rfl (by kernel_rfl) (by kernel_rfl) (by kernel_rfl) (fun _ _ _ h => h) (Or.inl ⟨by rfl, ?_⟩) hS ?_
    · (intro w hSw; (try dsimp only at hSw); have z := hSw.1.cells.2; go_simp)
    (try simp only [Act.put, List.setIfInBounds_toArray, List.set_cons_zero, List.set_cons_succ])
    refine wpAnyH_take (i := 4) (oi := ({ dst := some 41, op := Op.fieldAddr 70 (Operand.tmp 3) 2, type := 0, pos := "ref.go:17", after := #[], guard := none } : Oper)) (v := ?_) rfl (by kernel_rfl) (by kernel_rfl) (by kernel_rfl) (fun _ _ _ h => h) (Or.inl ⟨by rfl, ?_⟩) hS ?_
    rotate_left
    · (intro w hSw; (try dsimp only at hSw); go_simp; try with_reducible rfl)
    (try simp only [Act.put, List.setIfInBounds_toArray, List.set_cons_zero, List.set_cons_succ])
    refine wpAnyH_take (i := 5) (oi := ({ dst := some 42, op := Op.load 43 (Operand.tmp 41), type := 43, pos := "ref.go:17", after := #[{ on := 4, ground := Ground.data }], guard := none } : Oper)) (v := .slice da n dc) rfl (by kernel_rfl) (by kernel_rfl) (by kernel_rfl) (fun _ _ _ h => h) (Or.inl ⟨by rfl, ?_⟩) hS ?_
    · (intro w hSw; (try dsimp only at hSw); have z := hSw.2.cells.2.2; go_simp)
    (try simp only [Act.put, List.setIfInBounds_toArray, List.set_cons_zero, List.set_cons_succ])
    refine rg_one 0 ({ dst := some 37, op := Op.buildSlice 43 0 #[], type := 43, pos := "ref.go:17", after := #[], guard := none } : Oper) (by kernel_rfl) rfl (fun K hK => ?_)
    go_simp
    (obtain ⟨w4, hw4⟩ : ∃ q, w1.alloc (.cells #[] 5) = q := ⟨_, rfl⟩; simp only [hw4]; have hb4 : Below w1.heap.size w1 w4.drew := hw4 ▸ bdrew0 w1 _; have HO4 : Hid (w4.drew.ownsRow w.heap.size 5 1 (.slice (some ⟨w1.heap.size, 0, none⟩) 0 0) 0 (il .u8 [])) := Lib.hid (World.ownsRow.drew (hw4 ▸ (own_empty rfl HB1.out.size).out)); have HB4 := Lib.hid (bch HB1.out hb4); have HX4 := Lib.hid (HX1.out.keep hb4); have HF4 := Lib.hid (HF1.out.keep hb4); have HK4 := Lib.hid (HK1.out.keep hb4); have hN := And.intro HX4.out HF4.out; clear hb4 hw4)
    refine hK.out _ _ ?_ (fun hS1 => ?_)
    · (exact hN)
    clear hK K hS; have hS := hS1; clear hS1
    (try simp only [Act.put, List.setIfInBounds_toArray, List.set_cons_zero, List.set_cons_succ])
    refine rg_one 3 ({ dst := some 40, op := Op.call { callee := Callee.builtin Builtin.append, args := #[Operand.tmp 37, Operand.tmp 39], argTypes := #[43, 43] }, type := 43, pos := "ref.go:17", after := #[{ on := 0, ground := Ground.data }, { on := 2, ground := Ground.data }], guard := none } : Oper) (by kernel_rfl) rfl (fun K hK => ?_)
    (rw [if_pos (by rfl)]; refine wp_appn (.tmp 37) (.tmp 39) 43 rfl 5 .u8 1 Tryd.underlying43 Tryd.info_u8 w.heap.size (.slice (some ⟨w1.heap.size, 0, none⟩) 0 0) 0 [] rfl HO4.out (.slice va hn vc) hn h rfl (HH.out.keep HB4.out) (by omega) (by omega) HB4.out.size ?_; intro v5 w5 ho5 hg5 hl5; rw [Nat.zero_add, List.nil_append] at ho5; have HO5 := Lib.hid ho5; have HB5 := Lib.hid (HB4.out.grown hg5 HB4.out.size (fun q hq => (HO4.out.lt q hq).1)); have HX5 := Lib.hid (HX4.out.grown HO4.out (by decide) hg5); have HF5 := Lib.hid (HF4.out.grown HO4.out hg5); have HK5 := Lib.hid (HK4.out.grown HO4.out (by decide) hg5); clear hN; have hN := And.intro HX5.out HF5.out; clear ho5 hg5 hl5)
    refine hK.out _ _ ?_ (fun hS1 => ?_)
    · (exact hN)
    clear hK K hS; have hS := hS1; clear hS1
    (try simp only [Act.put, List.setIfInBounds_toArray, List.set_cons_zero, List.set_cons_succ])
    refine rg_one 6 ({ dst := some 43, op := Op.call { callee := Callee.builtin Builtin.append, args := #[Operand.tmp 40, Operand.tmp 42], argTypes := #[43, 43] }, type := 43, pos := "ref.go:17", after := #[{ on := 3, ground := Ground.data }, { on := 5, ground := Ground.data }, { on := 3, ground := Ground.chain }], guard := none } : Oper) (by kernel_rfl) rfl (fun K hK => ?_)
    (rw [if_pos (by rfl)]; refine wp_appn (.tmp 40) (.tmp 42) 43 rfl 5 .u8 1 Tryd.underlying43 Tryd.info_u8 w.heap.size v5 hn h rfl HO5.out (.slice da n dc) n d rfl (HR.out.keep HB5.out) (by omega) (by omega) HB5.out.size ?_; intro v6 w6 ho6 hg6 hl6; obtain ⟨a6, c6, rfl⟩ := own_form ho6; have HO6 := Lib.hid ho6; have HB6 := Lib.hid (HB5.out.grown hg6 HB5.out.size (fun q hq => (HO5.out.lt q hq).1)); have HX6 := Lib.hid (HX5.out.grown HO5.out (by decide) hg6); have HF6 := Lib.hid (HF5.out.grown HO5.out hg6); have HK6 := Lib.hid (HK5.out.grown HO5.out (by decide) hg6); clear hN; have hN := And.intro HX6.out HF6.out; clear ho6 hg6 hl6)
    refine hK.out _ _ ?_ (fun hS1 => ?_)
    · (exact hN)
    clear hK K hS; have hS := hS1; clear hS1
    (try simp only [Act.put, List.setIfInBounds_toArray, List.set_cons_zero, List.set_cons_succ])
    refine wpAnyH_take (i := 7) (oi := ({ dst := some 8, op := Op.assign (Operand.tmp 43), type := 43, pos := "ref.go:17", after := #[{ on := 6, ground := Ground.data }, { on := 6, ground := Ground.chain }, { on := 0, ground := Ground.phase }, { on := 1, ground := Ground.phase }, { on := 2, ground := Ground.phase }, { on := 3, ground := Ground.phase }, { on := 4, ground := Ground.phase }, { on := 5, ground := Ground.phase }, { on := 6, ground := Ground.phase }], guard := none } : Oper)) (v := ?_) rfl (by kernel_rfl) (by kernel_rfl) (by kernel_rfl) (fun _ _ _ h => h) (Or.inl ⟨by rfl, ?_⟩) hS ?_
    rotate_left
    · (intro w hSw; (try dsimp only at hSw); go_simp; try with_reducible rfl)
    (try simp only [Act.put, List.setIfInBounds_toArray, List.set_cons_zero, List.set_cons_succ])
    refine wpAnyH_done (by kernel_rfl) ?_ _
    obtain ⟨f60, f61, f62⟩ := HF6.out.cells
    clear hS hN
    go_wp2_with (first
      | (refine wpList_store_row rfl 84 _ _ rfl (xb + 1 + 1) (kA false (.slice none 0 0)) rfl rfl _ _ HK6.out (kj_info _ _) rfl (kj_one _ _ _ _) ?_))
    have HK7 := HK6.out.row false (.slice none 0 0)
    refine bodyPost_ret_by (results_row_tmp3 rfl _ _ (xb + 1 + 1) _ rfl HK7.load) rfl ?_
    exact ⟨rfl, brow HB6.out (by have := HXB.out; omega) (Nat.le_refl _) _⟩
  · go_enter Tryd.func31, Tryd.ntmps31
    go_wp2_with fail
    obtain ⟨w1, hw1⟩ : ∃ q, ((w.alloc (.cells (kA true (.slice va hn vc)) 84)).alloc (.cells (fA 3 ep (.slice da n dc)) 70)).alloc (.cells (kA false (.slice none 0 0)) 84) = q := ⟨_, rfl⟩
    rw [hw1]
    obtain ⟨xb, hxb⟩ : ∃ q, w.heap.size = q := ⟨_, rfl⟩
    have hb1 : Below w.heap.size w w1 := hw1 ▸ kbelow3 w _ _ _
    have HX1 : Hid (KO w1 xb true (.slice va hn vc)) := Lib.hid (by rw [← hw1, ← hxb]; exact (alloc3 w _ _ _).1)
    have HF1 : Hid (FO w1 (xb + 1) 3 ep (.slice da n dc)) := Lib.hid (by rw [← hw1, ← hxb]; exact (alloc3 w _ _ _).2.1)
    have HK1 : Hid (KO w1 (xb + 1 + 1) false (.slice none 0 0)) := Lib.hid (by rw [← hw1, ← hxb]; exact (alloc3 w _ _ _).2.2)
    have HB1 := Lib.hid hb1
    have HXB := Lib.hid hxb
    rw [hxb]
    clear hb1 hw1 hxb
    refine wp_region_held_drew (S := (fun w' => KO w' xb true (.slice va hn vc) ∧ FO w' (xb + 1) 3 ep (.slice da n dc))) (by kernel_rfl) ⟨HX1.out.keep (Below.refl w1.heap.size w1).drew, HF1.out.keep (Below.refl w1.heap.size w1).drew⟩ (fun hS => ?_)
    refine wpAnyH_take (i := 1) (oi := ({ dst := some 38, op := Op.fieldAddr 84 (Operand.tmp 2) 1, type := 0, pos := "ref.go:17", after := #[], guard := none } : Oper)) (v := ?_) rfl (by kernel_rfl) (by kernel_rfl) (by kernel_rfl) (fun _ _ _ h => h) (Or.inl ⟨by rfl, ?_⟩) hS ?_
    rotate_left
    · (intro w hSw; (try dsimp only at hSw); go_simp; try with_reducible rfl)
    (try simp only [Act.put, List.setIfInBounds_toArray, List.set_cons_zero, List.set_cons_succ])
    refine wpAnyH_take (i := 2) (oi := ({ dst := some 39, op := Op.load 43 (Operand.tmp 38), type := 43, pos := "ref.go:17", after := #[{ on := 1, ground := Ground.data }], guard := none } : Oper)) (v := .slice va hn vc) rfl (by kernel_rfl) (by kernel_rfl) (by kernel_rfl) (fun _ _ _ h => h) (Or.inl ⟨by rfl, ?_⟩) hS ?_
    · (intro w hSw; (try dsimp only at hSw); have z := hSw.1.cells.2; go_simp)
    (try simp only [Act.put, List.setIfInBounds_toArray, List.set_cons_zero, List.set_cons_succ])
    refine wpAnyH_take (i := 4) (oi := ({ dst := some 41, op := Op.fieldAddr 70 (Operand.tmp 3) 2, type := 0, pos := "ref.go:17", after := #[], guard := none } : Oper)) (v := ?_) rfl (by kernel_rfl) (by kernel_rfl) (by kernel_rfl) (fun _ _ _ h => h) (Or.inl ⟨by rfl, ?_⟩) hS ?_
    rotate_left
    · (intro w hSw; (try dsimp only at hSw); go_simp; try with_reducible rfl)
    (try simp only [Act.put, List.setIfInBounds_toArray, List.set_cons_zero, List.set_cons_succ])
    refine wpAnyH_take (i := 5) (oi := ({ dst := some 42, op := Op.load 43 (Operand.tmp 41), type := 43, pos := "ref.go:17", after := #[{ on := 4, ground := Ground.data }], guard := none } : Oper)) (v := .slice da n dc) rfl (by kernel_rfl) (by kernel_rfl) (by kernel_rfl) (fun _ _ _ h => h) (Or.inl ⟨by rfl, ?_⟩) hS ?_
    · (intro w hSw; (try dsimp only at hSw); have z := hSw.2.cells.2.2; go_simp)
    (try simp only [Act.put, List.setIfInBounds_toArray, List.set_cons_zero, List.set_cons_succ])
    refine rg_one 0 ({ dst := some 37, op := Op.buildSlice 43 0 #[], type := 43, pos := "ref.go:17", after := #[], guard := none } : Oper) (by kernel_rfl) rfl (fun K hK => ?_)
    go_simp
    (obtain ⟨w4, hw4⟩ : ∃ q, w1.alloc (.cells #[] 5) = q := ⟨_, rfl⟩; simp only [hw4]; have hb4 : Below w1.heap.size w1 w4.drew := hw4 ▸ bdrew0 w1 _; have HO4 : Hid (w4.drew.ownsRow w.heap.size 5 1 (.slice (some ⟨w1.heap.size, 0, none⟩) 0 0) 0 (il .u8 [])) := Lib.hid (World.ownsRow.drew (hw4 ▸ (own_empty rfl HB1.out.size).out)); have HB4 := Lib.hid (bch HB1.out hb4); have HX4 := Lib.hid (HX1.out.keep hb4); have HF4 := Lib.hid (HF1.out.keep hb4); have HK4 := Lib.hid (HK1.out.keep hb4); have hN := And.intro HX4.out HF4.out; clear hb4 hw4)
    refine hK.out _ _ ?_ (fun hS1 => ?_)
    · (exact hN)
    clear hK K hS; have hS := hS1; clear hS1
    (try simp only [Act.put, List.setIfInBounds_toArray, List.set_cons_zero, List.set_cons_succ])
    refine rg_one 3 ({ dst := some 40, op := Op.call { callee := Callee.builtin Builtin.append, args := #[Operand.tmp 37, Operand.tmp 39], argTypes := #[43, 43] }, type := 43, pos := "ref.go:17", after := #[{ on := 0, ground := Ground.data }, { on := 2, ground := Ground.data }], guard := none } : Oper) (by kernel_rfl) rfl (fun K hK => ?_)
    (rw [if_pos (by rfl)]; refine wp_appn (.tmp 37) (.tmp 39) 43 rfl 5 .u8 1 Tryd.underlying43 Tryd.info_u8 w.heap.size (.slice (some ⟨w1.heap.size, 0, none⟩) 0 0) 0 [] rfl HO4.out (.slice va hn vc) hn h rfl (HH.out.keep HB4.out) (by omega) (by omega) HB4.out.size ?_; intro v5 w5 ho5 hg5 hl5; rw [Nat.zero_add, List.nil_append] at ho5; have HO5 := Lib.hid ho5; have HB5 := Lib.hid (HB4.out.grown hg5 HB4.out.size (fun q hq => (HO4.out.lt q hq).1)); have HX5 := Lib.hid (HX4.out.grown HO4.out (by decide) hg5); have HF5 := Lib.hid (HF4.out.grown HO4.out hg5); have HK5 := Lib.hid (HK4.out.grown HO4.out (by decide) hg5); clear hN; have hN := And.intro HX5.out HF5.out; clear ho5 hg5 hl5)
    refine hK.out _ _ ?_ (fun hS1 => ?_)
    · (exact hN)
    clear hK K hS; have hS := hS1; clear hS1
    (try simp only [Act.put, List.setIfInBounds_toArray, List.set_cons_zero, List.set_cons_succ])
    refine rg_one 6 ({ dst := some 43, op := Op.call { callee := Callee.builtin Builtin.append, args := #[Operand.tmp 40, Operand.tmp 42], argTypes := #[43, 43] }, type := 43, pos := "ref.go:17", after := #[{ on := 3, ground := Ground.data }, { on := 5, ground := Ground.data }, { on := 3, ground := Ground.chain }], guard := none } : Oper) (by kernel_rfl) rfl (fun K hK => ?_)
    (rw [if_pos (by rfl)]; refine wp_appn (.tmp 40) (.tmp 42) 43 rfl 5 .u8 1 Tryd.underlying43 Tryd.info_u8 w.heap.size v5 hn h rfl HO5.out (.slice da n dc) n d rfl (HR.out.keep HB5.out) (by omega) (by omega) HB5.out.size ?_; intro v6 w6 ho6 hg6 hl6; obtain ⟨a6, c6, rfl⟩ := own_form ho6; have HO6 := Lib.hid ho6; have HB6 := Lib.hid (HB5.out.grown hg6 HB5.out.size (fun q hq => (HO5.out.lt q hq).1)); have HX6 := Lib.hid (HX5.out.grown HO5.out (by decide) hg6); have HF6 := Lib.hid (HF5.out.grown HO5.out hg6); have HK6 := Lib.hid (HK5.out.grown HO5.out (by decide) hg6); clear hN; have hN := And.intro HX6.out HF6.out; clear ho6 hg6 hl6)
    refine hK.out _ _ ?_ (fun hS1 => ?_)
    · (exact hN)
    clear hK K hS; have hS := hS1; clear hS1
    (try simp only [Act.put, List.setIfInBounds_toArray, List.set_cons_zero, List.set_cons_succ])
    refine wpAnyH_take (i := 7) (oi := ({ dst := some 8, op := Op.assign (Operand.tmp 43), type := 43, pos := "ref.go:17", after := #[{ on := 6, ground := Ground.data }, { on := 6, ground := Ground.chain }, { on := 0, ground := Ground.phase }, { on := 1, ground := Ground.phase }, { on := 2, ground := Ground.phase }, { on := 3, ground := Ground.phase }, { on := 4, ground := Ground.phase }, { on := 5, ground := Ground.phase }, { on := 6, ground := Ground.phase }], guard := none } : Oper)) (v := ?_) rfl (by kernel_rfl) (by kernel_rfl) (by kernel_rfl) (fun _ _ _ h => h) (Or.inl ⟨by rfl, ?_⟩) hS ?_
    rotate_left
    · (intro w hSw; (try dsimp only at hSw); go_simp; try with_reducible rfl)
    (try simp only [Act.put, List.setIfInBounds_toArray, List.set_cons_zero, List.set_cons_succ])
    refine wpAnyH_done (by kernel_rfl) ?_ _
    obtain ⟨f60, f61, f62⟩ := HF6.out.cells
    clear hS hN
    go_wp2_with (first
      | (refine wpList_store_row rfl 84 _ _ rfl (xb + 1 + 1) (kA false (.slice none 0 0)) rfl rfl _ _ HK6.out (kj_info _ _) rfl (kj_one _ _ _ _) ?_))
    have HK7 := HK6.out.row false (.slice none 0 0)
    refine bodyPost_ret_by (results_row_tmp3 rfl _ _ (xb + 1 + 1) _ rfl HK7.load) rfl ?_
    exact ⟨rfl, brow HB6.out (by have := HXB.out; omega) (Nat.le_refl _) _⟩
  · go_enter Tryd.func31, Tryd.ntmps31
    go_wp2_with fail
    obtain ⟨w1, hw1⟩ : ∃ q, ((w.alloc (.cells (kA true (.slice va hn vc)) 84)).alloc (.cells (fA 4 ep (.slice da n dc)) 70)).alloc (.cells (kA false (.slice none 0 0)) 84) = q := ⟨_, rfl⟩
    rw [hw1]
    obtain ⟨xb, hxb⟩ : ∃ q, w.heap.size = q := ⟨_, rfl⟩
    have hb1 : Below w.heap.size w w1 := hw1 ▸ kbelow3 w _ _ _
    have HX1 : Hid (KO w1 xb true (.slice va hn vc)) := Lib.hid (by rw [← hw1, ← hxb]; exact (alloc3 w _ _ _).1)
    have HF1 : Hid (FO w1 (xb + 1) 4 ep (.slice da n dc)) := Lib.hid (by rw [← hw1, ← hxb]; exact (alloc3 w _ _ _).2.1)
    have HK1 : Hid (KO w1 (xb + 1 + 1) false (.slice none 0 0)) := Lib.hid (by rw [← hw1, ← hxb]; exact (alloc3 w _ _ _).2.2)
    have HB1 := Lib.hid hb1
    have HXB := Lib.hid hxb
    rw [hxb]
    clear hb1 hw1 hxb
    refine wp_region_held_drew (S := (fun w' => KO w' xb true (.slice va hn vc) ∧ FO w' (xb + 1) 4 ep (.slice da n dc))) (by kernel_rfl) ⟨HX1.out.keep (Below.refl w1.heap.size w1).drew, HF1.out.keep (Below.refl w1.heap.size w1).drew⟩ (fun hS => ?_)
    refine wpAnyH_take (i := 1) (oi := ({ dst := some 38, op := Op.fieldAddr 84 (Operand.tmp 2) 1, type := 0, pos := "ref.go:17", after := #[], guard := none } : Oper)) (v := ?_) rfl (by kernel_rfl) (by kernel_rfl) (by kernel_rfl) (fun _ _ _ h => h) (Or.inl ⟨by rfl, ?_⟩) hS ?_
    rotate_left
    · (intro w hSw; (try dsimp only at hSw); go_simp; try with_reducible rfl)
    (try simp only [Act.put, List.setIfInBounds_toArray, List.set_cons_zero, List.set_cons_succ])
    refine wpAnyH_take (i := 2) (oi := ({ dst := some 39, op := Op.load 43 (Operand.tmp 38), type := 43, pos := "ref.go:17", after := #[{ on := 1, ground := Ground.data }], guard := none } : Oper)) (v := .slice va hn vc) rfl (by kernel_rfl) (by kernel_rfl) (by kernel_rfl) (fun _ _ _ h => h) (Or.inl ⟨by rfl, ?_⟩) hS ?_
    · (intro w hSw; (try dsimp only at hSw); have z := hSw.1.cells.2; go_simp)
    (try simp only [Act.put, List.setIfInBounds_toArray, List.set_cons_zero, List.set_cons_succ])
    refine wpAnyH_take (i := 4) (oi := ({ dst := some 41, op := Op.fieldAddr 70 (Operand.tmp 3) 2, type := 0, pos := "ref.go:17", after := #[], guard := none } : Oper)) (v := ?_) rfl (by kernel_rfl) (by kernel_rfl) (by kernel_rfl) (fun _ _ _ h => h) (Or.inl ⟨by rfl, ?_⟩) hS ?_
    rotate_left
    · (intro w hSw; (try dsimp only at hSw); go_simp; try with_reducible rfl)
    (try simp only [Act.put, List.setIfInBounds_toArray, List.set_cons_zero, List.set_cons_succ])
    refine wpAnyH_take (i := 5) (oi := ({ dst := some 42, op := Op.load 43 (Operand.tmp 41), type := 43, pos := "ref.go:17", after := #[{ on := 4, ground := Ground.data }], guard := none } : Oper)) (v := .slice da n dc) rfl (by kernel_rfl) (by kernel_rfl) (by kernel_rfl) (fun _ _ _ h => h) (Or.inl ⟨by rfl, ?_⟩) hS ?_
    · (intro w hSw; (try dsimp only at hSw); have z := hSw.2.cells.2.2; go_simp)
    (try simp only [Act.put, List.setIfInBounds_toArray, List.set_cons_zero, List.set_cons_succ])
    refine rg_one 0 ({ dst := some 37, op := Op.buildSlice 43 0 #[], type := 43, pos := "ref.go:17", after := #[], guard := none } : Oper) (by kernel_rfl) rfl (fun K hK => ?_)
    go_simp
    (obtain ⟨w4, hw4⟩ : ∃ q, w1.alloc (.cells #[] 5) = q := ⟨_, rfl⟩; simp only [hw4]; have hb4 : Below w1.heap.size w1 w4.drew := hw4 ▸ bdrew0 w1 _; have HO4 : Hid (w4.drew.ownsRow w.heap.size 5 1 (.slice (some ⟨w1.heap.size, 0, none⟩) 0 0) 0 (il .u8 [])) := Lib.hid (World.ownsRow.drew (hw4 ▸ (own_empty rfl HB1.out.size).out)); have HB4 := Lib.hid (bch HB1.out hb4); have HX4 := Lib.hid (HX1.out.keep hb4); have HF4 := Lib.hid (HF1.out.keep hb4); have HK4 := Lib.hid (HK1.out.keep hb4); have hN := And.intro HX4.out HF4.out; clear hb4 hw4)
    refine hK.out _ _ ?_ (fun hS1 => ?_)
    · (exact hN)
    clear hK K hS; have hS := hS1; clear hS1
    (try simp only [Act.put, List.setIfInBounds_toArray, List.set_cons_zero, List.set_cons_succ])
    refine rg_one 3 ({ dst := some 40, op := Op.call { callee := Callee.builtin Builtin.append, args := #[Operand.tmp 37, Operand.tmp 39], argTypes := #[43, 43] }, type := 43, pos := "ref.go:17", after := #[{ on := 0, ground := Ground.data }, { on := 2, ground := Ground.data }], guard := none } : Oper) (by kernel_rfl) rfl (fun K hK => ?_)
    (rw [if_pos (by rfl)]; refine wp_appn (.tmp 37) (.tmp 39) 43 rfl 5 .u8 1 Tryd.underlying43 Tryd.info_u8 w.heap.size (.slice (some ⟨w1.heap.size, 0, none⟩) 0 0) 0 [] rfl HO4.out (.slice va hn vc) hn h rfl (HH.out.keep HB4.out) (by omega) (by omega) HB4.out.size ?_; intro v5 w5 ho5 hg5 hl5; rw [Nat.zero_add, List.nil_append] at ho5; have HO5 := Lib.hid ho5; have HB5 := Lib.hid (HB4.out.grown hg5 HB4.out.size (fun q hq => (HO4.out.lt q hq).1)); have HX5 := Lib.hid (HX4.out.grown HO4.out (by decide) hg5); have HF5 := Lib.hid (HF4.out.grown HO4.out hg5); have HK5 := Lib.hid (HK4.out.grown HO4.out (by decide) hg5); clear hN; have hN := And.intro HX5.out HF5.out; clear ho5 hg5 hl5)
    refine hK.out _ _ ?_ (fun hS1 => ?_)
    · (exact hN)
    clear hK K hS; have hS := hS1; clear hS1
    (try simp only [Act.put, List.setIfInBounds_toArray, List.set_cons_zero, List.set_cons_succ])
    refine rg_one 6 ({ dst := some 43, op := Op.call { callee := Callee.builtin Builtin.append, args := #[Operand.tmp 40, Operand.tmp 42], argTypes := #[43, 43] }, type := 43, pos := "ref.go:17", after := #[{ on := 3, ground := Ground.data }, { on := 5, ground := Ground.data }, { on := 3, ground := Ground.chain }], guard := none } : Oper) (by kernel_rfl) rfl (fun K hK => ?_)
    (rw [if_pos (by rfl)]; refine wp_appn (.tmp 40) (.tmp 42) 43 rfl 5 .u8 1 Tryd.underlying43 Tryd.info_u8 w.heap.size v5 hn h rfl HO5.out (.slice da n dc) n d rfl (HR.out.keep HB5.out) (by omega) (by omega) HB5.out.size ?_; intro v6 w6 ho6 hg6 hl6; obtain ⟨a6, c6, rfl⟩ := own_form ho6; have HO6 := Lib.hid ho6; have HB6 := Lib.hid (HB5.out.grown hg6 HB5.out.size (fun q hq => (HO5.out.lt q hq).1)); have HX6 := Lib.hid (HX5.out.grown HO5.out (by decide) hg6); have HF6 := Lib.hid (HF5.out.grown HO5.out hg6); have HK6 := Lib.hid (HK5.out.grown HO5.out (by decide) hg6); clear hN; have hN := And.intro HX6.out HF6.out; clear ho6 hg6 hl6)
    refine hK.out _ _ ?_ (fun hS1 => ?_)
    · (exact hN)
    clear hK K hS; have hS := hS1; clear hS1
    (try simp only [Act.put, List.setIfInBounds_toArray, List.set_cons_zero, List.set_cons_succ])
    refine wpAnyH_take (i := 7) (oi := ({ dst := some 8, op := Op.assign (Operand.tmp 43), type := 43, pos := "ref.go:17", after := #[{ on := 6, ground := Ground.data }, { on := 6, ground := Ground.chain }, { on := 0, ground := Ground.phase }, { on := 1, ground := Ground.phase }, { on := 2, ground := Ground.phase }, { on := 3, ground := Ground.phase }, { on := 4, ground := Ground.phase }, { on := 5, ground := Ground.phase }, { on := 6, ground := Ground.phase }], guard := none } : Oper)) (v := ?_) rfl (by kernel_rfl) (by kernel_rfl) (by kernel_rfl) (fun _ _ _ h => h) (Or.inl ⟨by rfl, ?_⟩) hS ?_
    rotate_left
    · (intro w hSw; (try dsimp only at hSw); go_simp; try with_reducible rfl)
    (try simp only [Act.put, List.setIfInBounds_toArray, List.set_cons_zero, List.set_cons_succ])
    refine wpAnyH_done (by kernel_rfl) ?_ _
    obtain ⟨f60, f61, f62⟩ := HF6.out.cells
    clear hS hN
    go_wp2_with (first
      | (refine wpList_store_row rfl 84 _ _ rfl (xb + 1 + 1) (kA false (.slice none 0 0)) rfl rfl _ _ HK6.out (kj_info _ _) rfl (kj_one _ _ _ _) ?_))
    have HK7 := HK6.out.row false (.slice none 0 0)
    refine bodyPost_ret_by (results_row_tmp3 rfl _ _ (xb + 1 + 1) _ rfl HK7.load) rfl ?_
    exact ⟨rfl, brow HB6.out (by have := HXB.out; omega) (Nat.le_refl _) _⟩
set_option maxRecDepth 8000 in
set_option maxHeartbeats 4000000 in
/-- a kind that may not come -/
theorem rfeed_wrong (o : Bool) (v : Value) (h : List Int) (k ep : Int) (dv : Value) (n : Nat) (d : List Int) (w : World) (hrh : RI .u8 w v h.length h) (_hfew : h.length ≤ 512) (hri : RI .u8 w dv n d) (_hn1 : (n : Int) ≤ 140737488351232)
    (hk : jFit o k = false) :
    Calls Tryd.prog 31 #[.agg (kA o v), .agg (fA k ep dv)] w fun e w' =>
      e = .returned (.tuple #[.agg (kA false (.slice none 0 0)), .slice none 0 0, .bool false, .int .i64 2]) ∧ Below w.heap.size w w' := by
  have hzl := hri.length
  have HR := Lib.hid hri
  obtain ⟨hn, hhn⟩ : ∃ m, h.length = m := ⟨_, rfl⟩
  rw [hhn] at hrh _hfew
  have HH := Lib.hid hrh
  obtain ⟨va, vc, rfl⟩ : ∃ a c, v = .slice a hn c := by obtain ⟨a, c, e, _⟩ := hrh; exact ⟨a, c, e⟩
  obtain ⟨da, dc, rfl⟩ : ∃ a c, dv = .slice a n c := by obtain ⟨a, c, e, _⟩ := hri; exact ⟨a, c, e⟩
  have HN := Lib.hid hhn
  have HZ := Lib.hid hzl
  clear hri hrh hzl hhn
  cases o
  all_goals (unfold jFit at hk; simp only [Bool.false_eq_true, if_false, if_true, decide_eq_false_iff_not, not_or] at hk; obtain ⟨k1, k2⟩ := hk)
  · have e1 : (k != 1) = true := by simpa using k1
    have e2 : (k != 2) = true := by simpa using k2
    go_enter Tryd.func31, Tryd.ntmps31
    go_wp2
    have HK7 : KO (((w.alloc (.cells (kA false (.slice va hn vc)) 84)).alloc (.cells (fA k ep (.slice da n dc)) 70)).alloc (.cells (kA false (.slice none 0 0)) 84)) (w.heap.size + 1 + 1) false (.slice none 0 0) := (alloc3 w _ _ _).2.2
    refine bodyPost_ret_by (results_row_tmp3 rfl _ _ (w.heap.size + 1 + 1) _ rfl HK7.load) rfl ?_
    exact ⟨rfl, kbelow3 w _ _ _⟩
  · have e1 : (k != 3) = true := by simpa using k1
    have e2 : (k != 4) = true := by simpa using k2
    go_enter Tryd.func31, Tryd.ntmps31
    go_wp2
    have HK7 : KO (((w.alloc (.cells (kA true (.slice va hn vc)) 84)).alloc (.cells (fA k ep (.slice da n dc)) 70)).alloc (.cells (kA false (.slice none 0 0)) 84)) (w.heap.size + 1 + 1) false (.slice none 0 0) := (alloc3 w _ _ _).2.2
    refine bodyPost_ret_by (results_row_tmp3 rfl _ _ (w.heap.size + 1 + 1) _ rfl HK7.load) rfl ?_
    exact ⟨rfl, kbelow3 w _ _ _⟩
/-- all of it -/
theorem rfeed_any (o : Bool) (v : Value) (h : List Int) (k ep : Int) (dv : Value) (n : Nat) (d : List Int) (w : World) (hrh : RI .u8 w v h.length h) (hfew : h.length ≤ 512) (hri : RI .u8 w dv n d) (hn1 : (n : Int) ≤ 140737488351232) :
    Calls Tryd.prog 31 #[.agg (kA o v), .agg (fA k ep dv)] w fun e w' =>
      ∃ u v', e = .returned (.tuple #[.agg (kA (jGoes o h k d) v'), u, .bool (jEnds o h k d), .int .i64 (jErr o h k d)]) ∧ w'.ownsRow w.heap.size 5 1 v' (jHad o h k d).length (il .u8 (jHad o h k d)) ∧ w'.ownsRow w.heap.size 5 1 u (jTell o h k d).length (il .u8 (jTell o h k d)) ∧ Below w.heap.size w w' := by
  have hz := hri.length
  cases hf : jFit o k with
  | false =>
    obtain ⟨e1, e2, e3, e4, e5⟩ := j_wrong (h := h) (d := d) hf
    rw [e1, e2, e3, e4, e5]
    exact (rfeed_wrong o v h k ep dv n d w hrh hfew hri hn1 hf).mono fun e w' ⟨h1, h2⟩ => ⟨_, _, h1, World.ownsRow_nil _ _ _ _, World.ownsRow_nil _ _ _ _, h2⟩
  | true =>
    by_cases hl : h.length + n > 512
    · obtain ⟨e1, e2, e3, e4, e5⟩ := j_long (h := h) (d := d) hf (by rw [hz]; exact hl)
      rw [e1, e2, e3, e4, e5]
      exact (rfeed_long o v h k ep dv n d w hrh hfew hri hn1 hf hl).mono fun e w' ⟨h1, h2⟩ => ⟨_, _, h1, World.ownsRow_nil _ _ _ _, World.ownsRow_nil _ _ _ _, h2⟩
    · cases hk : jLast k with
      | true =>
        obtain ⟨e1, e2, e3, e4, e5⟩ := j_ends (h := h) (d := d) hf (by rw [hz]; exact hl) hk
        rw [e1, e2, e3, e4, e5]
        exact (rfeed_ends o v h k ep dv n d w hrh hfew hri hn1 (by unfold jFit at hf; unfold jLast at hk; cases o <;> simp at hf hk ⊢ <;> omega) hl).mono fun e w' ⟨u, h1, h2, h3⟩ => ⟨u, _, h1, World.ownsRow_nil _ _ _ _, h2, h3⟩
      | false =>
        obtain ⟨e1, e2, e3, e4, e5⟩ := j_goes (h := h) (d := d) hf (by rw [hz]; exact hl) hk
        rw [e1, e2, e3, e4, e5]
        exact (rfeed_goes o v h k ep dv n d w hrh hfew hri hn1 (by unfold jFit at hf; unfold jLast at hk; cases o <;> simp at hf hk ⊢ <;> omega) hl).mono fun e w' ⟨u, h1, h2, h3⟩ => ⟨_, u, h1, h2, World.ownsRow_nil _ _ _ _, h3⟩
end Go.Proofs.YtepaghohojomeaaDoor
/-
  WHAT Scan OF THE REFERENCE OF LAYER 19 ANSWERS, of any sectors by any epoch. (Written by wip/gen/g33.py.)
-/
namespace Go.Proofs.YtepaghohojomeaaDoor
open Go.RowKit
theorem Tryd.info_pl : (Tryd.prog.info? 3).map (fun i => (i.zero, i.size, i.bytes)) = some (some (.int .i64 0), 1, 8) := by kernel_rfl
theorem ri_pl1 (w : World) (x : Int) : RI .i64 (w.alloc (.cells #[.int .i64 x] 3)) (.slice (some ⟨w.heap.size, 0, none⟩) 1 1) 1 [x] := by
  refine ⟨_, 1, rfl, rfl, Nat.le_refl _, by omega, fun h => by simp at h, fun _ => ⟨w.heap.size, 0, rfl, fun j hj => ?_⟩⟩
  obtain rfl : j = 0 := by omega
  rw [Nat.zero_add, cell_of_row _ w.heap.size 0 _ _ _ (heap_alloc_last w _)]
  rfl
section
variable {w : World} {b : Nat} {o' : Bool} {v : Value}
theorem wpl_load_ko {ops : Array Oper} {rest : List Oper} {o : Oper} {a : Act} {Q : Exit → Act → World → Prop} (hgd : o.guard = none) (x : Operand) (ho : o.op = .load 84 x) (hx : a.eval x = .pointer (some ⟨b, 0, none⟩)) (h : KO w b o' v)
    (hk : wpList Tryd.prog ops Q rest (a.put o.dst (.agg (kA o' v))) w) : wpList Tryd.prog ops Q (o :: rest) a w :=
  wpList_load_row hgd 84 x ho b hx _ (kA o' v) (0, 0) _ h Tryd.underlying84 rfl (kj_info _ _) hk
theorem KO.alloc (w : World) : KO (w.alloc (.cells (kA o' v) 84)) w.heap.size o' v := heap_alloc_last w _
theorem KO.apart {b' : Nat} (h : KO w b o' v) (hne : b ≠ b') (x : Array Value) : KO (w.setRow b' x) b o' v := (setRow_other w b' b x hne).trans h
end
/-- what is told, in a block -/
abbrev uA (rv pv : Value) (e k : Int) : Array Value := #[rv, pv, .int .i64 e, .int .i64 k]
theorem ut_info (c : Array Value) (h : c.size = 4) : (Tryd.prog.info? 56).map (·.size) = some c.size := by rw [h]; kernel_rfl
theorem ut_one (a1 a2 : Option Addr) (n1 c1 n2 c2 : Nat) (e k : Int) : (uA (.slice a1 n1 c1) (.slice a2 n2 c2) e k).all (·.oneCell') = true := by simp [uA, Value.oneCell']
/-- a row of another kind lies elsewhere -/
theorem blk_ne_own {w : World} {g : Nat} {c : Array Value} {t t' : TypeId} (hg : w.heap[g]? = some (.cells c t (0, 0))) {base n k : Nat} {u : Value} {xs : List Value} (ho : w.ownsRow base t' k u n xs) (ht : t' ≠ t) : ∀ q, u.ownBlock = some q → q ≠ g := by
  rintro q hq rfl
  rcases ho.2 with ⟨rfl, _⟩ | ⟨q', cap, cur, rfl, _, hcur, _⟩
  · simp [Value.ownBlock] at hq
  · simp only [Value.ownBlock, Option.some.injEq] at hq
    subst hq
    rw [hg] at hcur
    simp only [Option.some.injEq, Obj.cells.injEq] at hcur
    exact ht hcur.2.1.symm
theorem blk_grown {w w' : World} {g : Nat} {c : Array Value} {t t' : TypeId} (hg : w.heap[g]? = some (.cells c t (0, 0))) {base n k : Nat} {u : Value} {xs : List Value} (ho : w.ownsRow base t' k u n xs) (ht : t' ≠ t) (h : w.grownBy w' u.ownBlock) : w'.heap[g]? = some (.cells c t (0, 0)) :=
  (h.block g (Array.getElem?_eq_some_iff.1 hg).1 (fun q => blk_ne_own hg ho ht g q.symm rfl)).trans hg
theorem blk_ne {w : World} {g g' : Nat} {c c' : Array Value} {t t' : TypeId} (hg : w.heap[g]? = some (.cells c t (0, 0))) (hg' : w.heap[g']? = some (.cells c' t' (0, 0))) (ht : t ≠ t') : g ≠ g' := by
  rintro rfl
  rw [hg] at hg'
  simp only [Option.some.injEq, Obj.cells.injEq] at hg'
  exact ht hg'.2.1
theorem grn_row (w : World) (g : Nat) (c : Array Value) : w.grownBy (w.setRow g c) (some g) := ⟨rfl, rfl, rfl, by simp, fun i _ hne => setRow_other w g i c (fun e => hne (by rw [e]))⟩
theorem grn_cell (w : World) (g j : Nat) (v : Value) : w.grownBy (w.setCell ⟨g, j, none⟩ v) (some g) := ⟨rfl, rfl, rfl, by simp, fun i _ hne => heap_setCell_other w ⟨g, j, none⟩ i v (fun e => hne (by rw [e]))⟩
/-- where the reference's Scan stands -/
structure RX (W w : World) (rb jb e : Nat) (k : Int) (o : Bool) (h : List Int) (hv rv : Value) (es : List (List Int × Value)) (pv : Value) (ps : List Int) : Prop where
  blk : w.heap[rb]? = some (.cells (uA rv pv e k) 56 (0, 0))
  low : W.heap.size ≤ rb
  jlow : W.heap.size ≤ jb
  jn : KO w jb o hv
  row : w.ownsRow W.heap.size 5 1 hv h.length (il .u8 h)
  few : h.length ≤ 512
  recs : SR W.heap.size w rv es.length es (.slice none 0 0)
  places : w.ownsRow W.heap.size 3 1 pv ps.length (il .i64 ps)
  below : Below W.heap.size W w
section
variable {W w w' : World} {rb jb e : Nat} {k : Int} {o o' : Bool} {h h' : List Int} {hv hv' rv rv' pv pv' : Value} {es es' : List (List Int × Value)} {ps ps' : List Int}
theorem RX.keep (c : RX W w rb jb e k o h hv rv es pv ps) (hb : Below w.heap.size w w') : RX W w' rb jb e k o h hv rv es pv ps :=
  ⟨(hb.block rb (Array.getElem?_eq_some_iff.1 c.blk).1).trans c.blk, c.low, c.jlow, c.jn.keep hb, own_keep c.row hb, c.few, c.recs.keep hb, own_keep c.places hb, bch c.below hb⟩
theorem RX.cells (c : RX W w rb jb e k o h hv rv es pv ps) : w.cell? ⟨rb, 0, none⟩ = some rv ∧ w.cell? ⟨rb, 1, none⟩ = some pv ∧ w.cell? ⟨rb, 2, none⟩ = some (.int .i64 e) ∧ w.cell? ⟨rb, 3, none⟩ = some (.int .i64 k) :=
  ⟨cell_of_row w rb 0 _ _ _ c.blk, cell_of_row w rb 1 _ _ _ c.blk, cell_of_row w rb 2 _ _ _ c.blk, cell_of_row w rb 3 _ _ _ c.blk⟩
theorem RX.frozen (c : RX W w rb jb e k o h hv rv es pv ps) (j : Nat) : w.frozen? ⟨rb, j, none⟩ = false := Joins.unfrozen_of_block c.blk j
/-- the block of what is told alone is turned -/
theorem RX.turn (c : RX W w rb jb e k o h hv rv es pv ps) (hg : w.grownBy w' (some rb)) {e' : Nat} {k' : Int} (hs : w'.heap[rb]? = some (.cells (uA rv pv e' k') 56 (0, 0))) : RX W w' rb jb e' k' o h hv rv es pv ps := by
  have hne : ∀ {base n q : Nat} {t : TypeId} {u : Value} {xs : List Value}, w.ownsRow base t q u n xs → t ≠ 56 → w'.ownsRow base t q u n xs := fun ho ht =>
    own_over ho hg (fun q hq x => blk_ne_own c.blk ho ht q hq (Option.some.inj x))
  exact ⟨hs, c.low, c.jlow, (hg.block jb c.jn.lt (fun x => blk_ne c.jn c.blk (by decide) (Option.some.inj x))).trans c.jn, hne c.row (by decide), c.few, ⟨hne c.recs.row (by decide), fun x hx => hne (c.recs.data x hx) (by decide), c.recs.apart⟩, hne c.places (by decide),
    c.below.grown hg c.below.size (fun q hq => by cases hq; exact c.low)⟩
theorem RX.set2 (c : RX W w rb jb e k o h hv rv es pv ps) (x : Nat) : RX W (w.setCell ⟨rb, 2, none⟩ (.int .i64 (x : Int))) rb jb x k o h hv rv es pv ps := c.turn (grn_cell _ _ _ _) (Joins.block_setCell c.blk _)
theorem RX.set3 (c : RX W w rb jb e k o h hv rv es pv ps) (x : Int) : RX W (w.setCell ⟨rb, 3, none⟩ (.int .i64 x)) rb jb e x o h hv rv es pv ps := c.turn (grn_cell _ _ _ _) (Joins.block_setCell c.blk _)
/-- the joiner is another one -/
theorem RX.join (c : RX W w rb jb e k o h hv rv es pv ps) (hr : w.ownsRow W.heap.size 5 1 hv' h'.length (il .u8 h')) (hf : h'.length ≤ 512) : RX W (w.setRow jb (kA o' hv')) rb jb e k o' h' hv' rv es pv ps := by
  have hg := grn_row w jb (kA o' hv')
  have hne : ∀ {base n q : Nat} {t : TypeId} {u : Value} {xs : List Value}, w.ownsRow base t q u n xs → t ≠ 84 → (w.setRow jb (kA o' hv')).ownsRow base t q u n xs := fun ho ht =>
    own_over ho hg (fun q hq x => blk_ne_own c.jn ho ht q hq (Option.some.inj x))
  exact ⟨(hg.block rb (Array.getElem?_eq_some_iff.1 c.blk).1 (fun x => blk_ne c.blk c.jn (by decide) (Option.some.inj x))).trans c.blk, c.low, c.jlow, c.jn.row o' hv', hne hr (by decide), hf, ⟨hne c.recs.row (by decide), fun x hx => hne (c.recs.data x hx) (by decide), c.recs.apart⟩, hne c.places (by decide),
    c.below.grown hg c.below.size (fun q hq => by cases hq; exact c.jlow)⟩
/-- the list of records has grown -/
theorem RX.more (c : RX W w rb jb e k o h hv rv es pv ps) (hg : w.grownBy w' rv.ownBlock) (hr : SR W.heap.size w' rv' es'.length es' (.slice none 0 0)) : RX W (w'.setCell ⟨rb, 0, none⟩ rv') rb jb e k o h hv rv' es' pv ps := by
  have hs := blk_grown c.blk c.recs.row (by decide) hg
  have hj : KO w' jb o hv := blk_grown c.jn c.recs.row (by decide) hg
  have hp := c.recs.other hg c.places (by decide)
  have hr2 := c.recs.other hg c.row (by decide)
  have hb : Below W.heap.size W w' := c.below.grown hg c.below.size (fun q hq => (c.recs.row.lt q hq).1)
  have hg2 := grn_cell w' rb 0 rv'
  have hne : ∀ {base n q : Nat} {t : TypeId} {u : Value} {xs : List Value}, w'.ownsRow base t q u n xs → t ≠ 56 → (w'.setCell ⟨rb, 0, none⟩ rv').ownsRow base t q u n xs := fun ho ht =>
    own_over ho hg2 (fun q hq x => blk_ne_own hs ho ht q hq (Option.some.inj x))
  exact ⟨Joins.block_setCell hs _, c.low, c.jlow, (hg2.block jb hj.lt (fun x => blk_ne hj hs (by decide) (Option.some.inj x))).trans hj, hne hr2 (by decide), c.few, ⟨hne hr.row (by decide), fun x hx => hne (hr.data x hx) (by decide), hr.apart⟩, hne hp (by decide),
    hb.grown hg2 hb.size (fun q hq => by cases hq; exact c.low)⟩
/-- the list of places has grown -/
theorem RX.more1 (c : RX W w rb jb e k o h hv rv es pv ps) (hg : w.grownBy w' pv.ownBlock) (hp : w'.ownsRow W.heap.size 3 1 pv' ps'.length (il .i64 ps')) : RX W (w'.setCell ⟨rb, 1, none⟩ pv') rb jb e k o h hv rv es pv' ps' := by
  have hs := blk_grown c.blk c.places (by decide) hg
  have hj : KO w' jb o hv := blk_grown c.jn c.places (by decide) hg
  have hne1 : ∀ {base n q : Nat} {t : TypeId} {u : Value} {xs : List Value}, w.ownsRow base t q u n xs → t ≠ 3 → w'.ownsRow base t q u n xs := fun ho ht => own_over ho hg (own_types ho c.places ht)
  have hb : Below W.heap.size W w' := c.below.grown hg c.below.size (fun q hq => (c.places.lt q hq).1)
  have hg2 := grn_cell w' rb 1 pv'
  have hne : ∀ {base n q : Nat} {t : TypeId} {u : Value} {xs : List Value}, w'.ownsRow base t q u n xs → t ≠ 56 → (w'.setCell ⟨rb, 1, none⟩ pv').ownsRow base t q u n xs := fun ho ht =>
    own_over ho hg2 (fun q hq x => blk_ne_own hs ho ht q hq (Option.some.inj x))
  exact ⟨Joins.block_setCell hs _, c.low, c.jlow, (hg2.block jb hj.lt (fun x => blk_ne hj hs (by decide) (Option.some.inj x))).trans hj, hne (hne1 c.row (by decide)) (by decide), c.few, ⟨hne (hne1 c.recs.row (by decide)) (by decide), fun x hx => hne (hne1 (c.recs.data x hx) (by decide)) (by decide), c.recs.apart⟩, hne hp (by decide),
    hb.grown hg2 hb.size (fun q hq => by cases hq; exact c.low)⟩
end
/-- where its round stands, beside the state -/
def RS (W w : World) (rb jb : Nat) (s : SS) : Prop := ∃ hv rv es pv, RX W w rb jb s.fin 0 s.o s.h hv rv es pv s.places ∧ es.map Prod.fst = s.recs
/-- what the reference's Scan leaves -/
def RScanF (n : Nat) (fs : List Int) (S : SS) (w : World) (r : Ending) (w' : World) : Prop :=
  ∃ rv pv es, r = .returned (.agg (uA rv pv (S.fin : Nat) (scKind n fs S.fin))) ∧ SR w.heap.size w' rv es.length es (.slice none 0 0) ∧ es.map Prod.fst = S.recs ∧ w'.ownsRow w.heap.size 3 1 pv S.places.length (il .i64 S.places) ∧ Below w.heap.size w w'
set_option maxRecDepth 8000 in
set_option maxHeartbeats 16000000 in
theorem rscan_any (x : Int) (hx : U64 x) (v : Value) (n : Nat) (fs : List Int) (hbf : isB fs) (w : World) (h : FS w v n fs) (hn : n ≤ 1000000) :
    Calls Tryd.prog 17 #[.int .u64 x, v] w (RScanF n fs (scEnd (x % 4294967296) (flatB x n fs 16) (flatK x n fs 16)) w) := by
  obtain ⟨wa, hwa⟩ : ∃ q, w.alloc (.cells (uA (.slice none 0 0) (.slice none 0 0) 0 0) 56) = q := ⟨_, rfl⟩
  have hba : Below w.heap.size w wa := by rw [← hwa]; exact balloc w _
  have HBA := Lib.hid hba
  have HRA : Hid (wa.heap[w.heap.size]? = some (.cells (uA (.slice none 0 0) (.slice none 0 0) 0 0) 56 (0, 0))) := Lib.hid (by rw [← hwa]; exact heap_alloc_last w _)
  have HFL := Lib.hid (rflat_any x hx v n fs wa (h.keep hba))
  have hfl := h.length
  have hB : (flatB x n fs 16).length = 832 := flatB_length x n fs hfl 16
  have hBb : isB (flatB x n fs 16) := by
    have hz : ∀ k, isB (flatB x n fs k) := fun k => by
      induction k with
      | zero => exact isB.nil
      | succ k ih =>
        have hr : isB (roomAt x n fs k) := by
          unfold roomAt
          split
          · exact ((hbf.drop _).take _).drop _
          · intro y hy; have := List.eq_of_mem_replicate hy; omega
        unfold flatB
        exact ih.append hr
    exact hz 16
  have HFS := Lib.hid (h.keep hba)
  have HREA : Hid (∀ fin : Nat, fin ≤ 832 → ∀ w, FS w v n fs → Calls Tryd.prog 32 #[v, .int .i64 fin] w fun r w' => r = .returned (.bool (restB n fs fin)) ∧ Below w.heap.size w w') := Lib.hid fun fin hf w h => by
    have := rrest_any v n fs (fin : Int) (by unfold I63; omega) w h hn; rwa [nr_nat fin hf] at this
  obtain ⟨B, hBe⟩ : ∃ B, flatB x n fs 16 = B := ⟨_, rfl⟩
  obtain ⟨K, hKe⟩ : ∃ K, flatK x n fs 16 = K := ⟨_, rfl⟩
  rw [hBe, hKe] at HFL
  rw [hBe] at hB hBb
  rw [hBe, hKe]
  obtain ⟨ep, hep⟩ : ∃ e, x % 4294967296 = e := ⟨_, rfl⟩
  have HACC : Hid (∀ (bv kv : Value) (w : World) (a : Nat), RI .u8 w bv 832 B → BS w kv 16 K → (a = 832 ∨ a + 11 ≤ 832) → Calls Tryd.prog 21 #[.int .u64 x, bv, kv, .int .i64 a] w (AccF (scF ep B K a) w)) := Lib.hid fun bv kv w a h1 h2 h3 => by
    have := racc_any x hx bv kv B K w hB hBb h1 h2 a h3; rwa [hep] at this
  rw [hep]
  obtain ⟨va, vc, rfl⟩ : ∃ a c, v = .slice a n c := by obtain ⟨a, c, q, _⟩ := h; exact ⟨a, c, q⟩
  have HWA : Hid (w.heap.size < wa.heap.size) := Lib.hid (by rw [← hwa, alloc_size]; omega)
  have HBL := Lib.hid hB
  clear hx hbf h hba hfl hB hBb hep hBe hKe
  go_enter Tryd.func17, Tryd.ntmps17
  go_wp2_with (first
    | (go_at_call 19; (refine HFL.out.mono ?_); rintro r W ⟨bv, kv, rfl, hbv, hkv, hbw⟩; have HBV := Lib.hid hbv; have HKV := Lib.hid hkv; have HBW := Lib.hid hbw; clear hbv hkv hbw))
  obtain ⟨w0, hw0⟩ : ∃ q, (W.alloc (.cells (uA (.slice none 0 0) (.slice none 0 0) 0 0) 56)).alloc (.cells (kA false (.slice none 0 0)) 84) = q := ⟨_, rfl⟩
  have hz1 : (W.alloc (.cells (uA (.slice none 0 0) (.slice none 0 0) 0 0) 56)).heap.size = W.heap.size + 1 := alloc_size W _
  have HX0 : Hid (RX W w0 W.heap.size (W.heap.size + 1) 0 0 false [] (.slice none 0 0) (.slice none 0 0) [] (.slice none 0 0) []) := Lib.hid ⟨by
      rw [← hw0]; exact ((balloc (W.alloc (.cells (uA (.slice none 0 0) (.slice none 0 0) 0 0) 56)) _).block W.heap.size (by rw [hz1]; omega)).trans (heap_alloc_last W _), Nat.le_refl _, by omega, by rw [← hw0, ← hz1]; exact KO.alloc _, World.ownsRow_nil _ _ _ _, by simp, SR.nil _ _ _, World.ownsRow_nil _ _ _ _, by rw [← hw0]; exact bch (balloc W _) (balloc _ _)⟩
  rw [hw0]
  obtain ⟨rb, hrb⟩ : ∃ g, W.heap.size = g := ⟨_, rfl⟩
  have HX0' : Hid (RX W w0 rb (rb + 1) 0 0 false [] (.slice none 0 0) (.slice none 0 0) [] (.slice none 0 0) []) := Lib.hid (hrb ▸ HX0.out)
  obtain ⟨jb, hjb⟩ : ∃ g, W.heap.size + 1 = g := ⟨_, rfl⟩
  have HX00 : Hid (RX W w0 rb jb 0 0 false [] (.slice none 0 0) (.slice none 0 0) [] (.slice none 0 0) []) := Lib.hid (by rw [← hjb, hrb]; exact HX0'.out)
  rw [hjb, hrb]
  clear hw0 hz1 HX0 HX0' hrb hjb HFL
  go_loopw [9, 10] (fun av fv wr => ∃ s : SS, Hid (OnWay ep B K s) ∧ av = .int .i64 (s.at_ : Int) ∧ fv = .int .i64 (s.first : Int) ∧ Hid (RS W wr rb jb s)) (fun av _ _ => 832 - (intOf av).toNat)
  case atStart => exact ⟨sc0, Lib.hid onway_0, rfl, rfl, Lib.hid ⟨_, _, [], _, HX00.out, rfl⟩⟩
  case round =>
    obtain ⟨⟨at0, first, o, h, recs, places, fin⟩, HO, rfl, rfl, HRS⟩ := hrel
    dsimp only at *
    obtain ⟨hv, rv, es, pv, hc, hes0⟩ := HRS.out
    dsimp only at hc hes0
    have hs := HO.out.1
    have ha0 : at0 ≤ 832 := hs.at_
    have hroom : 11 * recs.length ≤ at0 := hs.room
    have hfew : recs.length = places.length := hs.few
    have hesl : es.length = recs.length := by rw [← hes0, List.length_map]
    have hes : es.length ≤ 1000 := by omega
    have hpl : places.length ≤ 1000 := by omega
    have HFIN : Hid (fin ≤ 832) := Lib.hid hs.fin
    obtain ⟨ra, rc, rfl⟩ := own_form hc.recs.row
    obtain ⟨pa, pc, rfl⟩ := own_form hc.places
    obtain ⟨ha, hcc, rfl⟩ := own_form hc.row
    have HX := Lib.hid hc
    have HES := Lib.hid hes0
    have HNXF : ∀ f m, scF ep B K (beginN at0) = (f, m) → (m = 0 ∨ jErr o h f.kind f.data ≠ 0) → scNext ep B K ⟨at0, first, o, h, recs, places, fin⟩ = none := fun f m e q => scNext_none (by dsimp only; rw [e]; exact q)
    have HNXT : ∀ f m, scF ep B K (beginN at0) = (f, m) → m ≠ 0 → jErr o h f.kind f.data = 0 → scNext ep B K ⟨at0, first, o, h, recs, places, fin⟩ = some (scStep ⟨at0, first, o, h, recs, places, fin⟩ f m) := fun f m e q1 q2 => by
      have := scNext_some (ep := ep) (B := B) (K := K) (s := ⟨at0, first, o, h, recs, places, fin⟩) (by dsimp only; rw [e]; exact q1) (by dsimp only; rw [e]; exact q2)
      dsimp only at this
      rw [e] at this
      exact this
    have HSE : ∀ f m, jEnds o h f.kind f.data = true → scStep ⟨at0, first, o, h, recs, places, fin⟩ f m = ⟨beginN at0 + m, if o = true then first else beginN at0, jGoes o h f.kind f.data, jHad o h f.kind f.data, recs ++ [jTell o h f.kind f.data], places ++ [(((if o = true then first else beginN at0) : Nat) : Int)], beginN at0 + m⟩ := fun f m q => by unfold scStep scFirst; dsimp only; rw [q]; rfl
    have HSG : ∀ f m, jEnds o h f.kind f.data = false → scStep ⟨at0, first, o, h, recs, places, fin⟩ f m = ⟨beginN at0 + m, if o = true then first else beginN at0, jGoes o h f.kind f.data, jHad o h f.kind f.data, recs, places, fin⟩ := fun f m q => by unfold scStep scFirst; dsimp only; rw [q]; rfl
    have hble := begin_le at0 ha0
    have hb11 : beginN at0 = 832 ∨ beginN at0 + 11 ≤ 832 := by
      rcases begin_room at0 ha0 with q | ⟨q, _⟩
      · exact .inl q
      · have := left_le (beginN at0) hble; exact .inr (by omega)
    have hbge : at0 ≤ beginN at0 := by unfold beginN; split <;> omega
    have HBG : Hid (∀ w, Calls Tryd.prog 30 #[.int .i64 at0] w fun e w' => e = .returned (.int .i64 (beginN at0 : Int)) ∧ w = w') := Lib.hid fun w => by
      have := rbegin_any (at0 : Int) (by unfold I63; omega) w
      rw [nr_nat at0 ha0] at this
      exact this.mono fun r w' ⟨h1, h2⟩ => ⟨h1, h2.symm⟩
    obtain ⟨a, hab⟩ : ∃ a, beginN at0 = a := ⟨_, rfl⟩
    rw [hab] at hble HBG HNXF HNXT HSE HSG hb11 hbge
    obtain ⟨⟨⟨k, e, d⟩, m⟩, hF⟩ : ∃ F, scF ep B K a = F := ⟨_, rfl⟩
    have HAC : Hid (∀ w', Below wr.heap.size wr w' → Calls Tryd.prog 21 #[.int .u64 x, bv, kv, .int .i64 a] w' fun r w'' => ∃ p c, r = .returned (.tuple #[.agg (fA k e (.slice p d.length c)), .int .i64 (m : Int)]) ∧ w''.ownsRow w'.heap.size 5 1 (.slice p d.length c) d.length (il .u8 d) ∧ Below w'.heap.size w' w'') := Lib.hid fun w' hb => by
      have := HACC.out bv kv w' a (HBV.out.keep (bch hc.below hb)) (HKV.out.kin (Kin.below (bch hc.below hb))) hb11
      rw [hF] at this
      exact this
    have hsz : ∀ hm : m ≠ 0, a + m ≤ 832 ∧ d.length ≤ 197 ∧ 11 ≤ m := fun hm => by
      obtain ⟨_, _, h3, _, h5⟩ := scF_some (ep := ep) (B := B) (K := K) (a := a) (by rw [hF]; exact hm)
      have hp := scD_parts HBL.out hble h3
      rw [hF] at h5
      simp only [Prod.mk.injEq] at h5
      rw [← h5.1, ← h5.2] at hp
      exact ⟨hp.2.2.1, hp.2.2.2.2, hp.1⟩
    by_cases hm : m = 0
    · have HSTP := Lib.hid (HO.out.stop (HNXF _ _ hF (.inl hm)))
      subst hm
      clear HNXF HNXT HSE HSG hF hsz hc hes0 hs hroom hfew hesl hab hble hb11 HRS HO hbge HX00
      have HRE0 := HREA.out fin HFIN.out
      obtain ⟨y, hy⟩ : ∃ y, restB n fs fin = y := ⟨_, rfl⟩
      rw [hy] at HRE0
      have HRE := Lib.hid HRE0
      have HKD : Hid (scKind n fs fin = if y = true then 1 else 2) := Lib.hid (by unfold scKind; rw [hy])
      clear HRE0 hy
      cases y with
      | true =>
        go_wp2_with (first
          | (go_at_call 30; (with_reducible refine (HBG.out _).mono ?_); rintro r w1 ⟨rfl, rfl⟩)
          | (go_at_call 21; (refine (HAC.out _ (Below.refl _ _)).mono ?_); rintro r w2 ⟨p2, c2, rfl, ho2, hb2⟩; have HX2 := Lib.hid (HX.out.keep hb2); clear ho2 hb2)
          | (refine wpl_put_fr rfl (.tmp 11) (.tmp 33) rfl w2.heap.size (FO.alloc w2) k e p2 d.length c2 rfl rfl ?_; intro w3 HF3 HG3; have hb3 : Below w2.heap.size w2 w3 := below_over (balloc w2 _) HG3.out (Nat.le_refl _) (balloc w2 _).size; have HX3 := Lib.hid (HX2.out.keep hb3); clear hb3 HX2; obtain ⟨_, _, z2, z3⟩ := HX3.out.cells; have f3 := HX3.out.frozen 3; obtain ⟨w4, hw4⟩ : ∃ q, w3.setCell ⟨rb, 3, none⟩ (.int .i64 2) = q := ⟨_, rfl⟩; have HX4 := Lib.hid (show RX _ w4 _ _ _ _ _ _ _ _ _ _ _ from by rw [← hw4]; exact HX3.out.set3 2); have y2 := HX4.out.cells.2.2.1; clear HX3)
          | (go_at_call 32; (refine (HRE.out _ (HFS.out.keep (bch HBW.out HX4.out.below))).mono ?_); rintro r w16 ⟨rfl, hb⟩; have HX16 := Lib.hid (HX4.out.keep hb); have z316 := HX16.out.cells.2.2.2; have f316 := HX16.out.frozen 3; clear hb; obtain ⟨w18, hw18⟩ : ∃ q, w16.setCell ⟨rb, 3, none⟩ (.int .i64 1) = q := ⟨_, rfl⟩; have HX18 := Lib.hid (show RX _ w18 _ _ _ _ _ _ _ _ _ _ _ from by rw [← hw18]; exact HX16.out.set3 1))
          | (refine wpList_load_row rfl 56 (.tmp 7) rfl rb rfl _ (uA (.slice ra es.length rc) (.slice pa places.length pc) fin 1) (0, 0) _ HX18.out.blk Tryd.underlying56 rfl (ut_info _ rfl) ?_)
          | (refine wpList_store_row rfl 56 _ _ rfl w.heap.size (uA (.slice ra es.length rc) (.slice pa places.length pc) fin 1) rfl rfl _ _ (((bch HBW.out HX18.out.below).block _ HWA.out).trans HRA.out) (ut_info _ rfl) rfl (ut_one _ _ _ _ _ _ _ _) ?_))
        refine bodyPost_ret_by (v := .agg (uA (.slice ra es.length rc) (.slice pa places.length pc) fin 1)) (results_cell_row rfl _ _ w.heap.size _ (uA (.slice ra es.length rc) (.slice pa places.length pc) fin 1) (0, 0) _ rfl (setRow_heap _ _ _ _ _ _ (((bch HBW.out HX18.out.below).block _ HWA.out).trans HRA.out)) Tryd.underlying56 rfl (ut_info _ rfl)) rfl ?_
        have hz : w.heap.size ≤ W.heap.size := Nat.le_trans (Nat.le_of_lt HWA.out) HBW.out.size
        have hne : ∀ {base n q : Nat} {t : TypeId} {u : Value} {xs : List Value}, W.heap.size ≤ base → w18.ownsRow base t q u n xs → (w18.setRow w.heap.size (uA (.slice ra es.length rc) (.slice pa places.length pc) fin 1)).ownsRow base t q u n xs := fun hbs ho =>
          own_over ho (grn_row w18 w.heap.size _) (fun g hg x => by have h1 := (ho.lt g hg).1; have h2 := HBW.out.size; have h3 := HWA.out; have h4 := Option.some.inj x; omega)
        have HSTQ := HSTP.out
        rw [← HSTQ]
        exact ⟨_, _, es, by show _ = Ending.returned (.agg (uA _ _ (fin : Nat) (scKind n fs fin))); rw [HKD.out]; rfl, ⟨own_mono (hne (Nat.le_refl _) HX18.out.recs.row) hz, fun x hx => own_mono (hne (Nat.le_refl _) (HX18.out.recs.data x hx)) hz, HX18.out.recs.apart⟩, HES.out, own_mono (hne (Nat.le_refl _) HX18.out.places) hz, brow (bch HBA.out (bch HBW.out HX18.out.below)) (Nat.le_refl _) (Nat.le_refl _) _⟩
      | false =>
        go_wp2_with (first
          | (go_at_call 30; (with_reducible refine (HBG.out _).mono ?_); rintro r w1 ⟨rfl, rfl⟩)
          | (go_at_call 21; (refine (HAC.out _ (Below.refl _ _)).mono ?_); rintro r w2 ⟨p2, c2, rfl, ho2, hb2⟩; have HX2 := Lib.hid (HX.out.keep hb2); clear ho2 hb2)
          | (refine wpl_put_fr rfl (.tmp 11) (.tmp 33) rfl w2.heap.size (FO.alloc w2) k e p2 d.length c2 rfl rfl ?_; intro w3 HF3 HG3; have hb3 : Below w2.heap.size w2 w3 := below_over (balloc w2 _) HG3.out (Nat.le_refl _) (balloc w2 _).size; have HX3 := Lib.hid (HX2.out.keep hb3); clear hb3 HX2; obtain ⟨_, _, z2, z3⟩ := HX3.out.cells; have f3 := HX3.out.frozen 3; obtain ⟨w4, hw4⟩ : ∃ q, w3.setCell ⟨rb, 3, none⟩ (.int .i64 2) = q := ⟨_, rfl⟩; have HX4 := Lib.hid (show RX _ w4 _ _ _ _ _ _ _ _ _ _ _ from by rw [← hw4]; exact HX3.out.set3 2); have y2 := HX4.out.cells.2.2.1; clear HX3)
          | (go_at_call 32; (refine (HRE.out _ (HFS.out.keep (bch HBW.out HX4.out.below))).mono ?_); rintro r w16 ⟨rfl, hb⟩; have HX16 := Lib.hid (HX4.out.keep hb); have z316 := HX16.out.cells.2.2.2; have f316 := HX16.out.frozen 3; clear hb; have HX18 := HX16)
          | (refine wpList_load_row rfl 56 (.tmp 7) rfl rb rfl _ (uA (.slice ra es.length rc) (.slice pa places.length pc) fin 2) (0, 0) _ HX18.out.blk Tryd.underlying56 rfl (ut_info _ rfl) ?_)
          | (refine wpList_store_row rfl 56 _ _ rfl w.heap.size (uA (.slice ra es.length rc) (.slice pa places.length pc) fin 2) rfl rfl _ _ (((bch HBW.out HX18.out.below).block _ HWA.out).trans HRA.out) (ut_info _ rfl) rfl (ut_one _ _ _ _ _ _ _ _) ?_))
        refine bodyPost_ret_by (v := .agg (uA (.slice ra es.length rc) (.slice pa places.length pc) fin 2)) (results_cell_row rfl _ _ w.heap.size _ (uA (.slice ra es.length rc) (.slice pa places.length pc) fin 2) (0, 0) _ rfl (setRow_heap _ _ _ _ _ _ (((bch HBW.out HX18.out.below).block _ HWA.out).trans HRA.out)) Tryd.underlying56 rfl (ut_info _ rfl)) rfl ?_
        have hz : w.heap.size ≤ W.heap.size := Nat.le_trans (Nat.le_of_lt HWA.out) HBW.out.size
        have hne : ∀ {base n q : Nat} {t : TypeId} {u : Value} {xs : List Value}, W.heap.size ≤ base → w16.ownsRow base t q u n xs → (w16.setRow w.heap.size (uA (.slice ra es.length rc) (.slice pa places.length pc) fin 2)).ownsRow base t q u n xs := fun hbs ho =>
          own_over ho (grn_row w16 w.heap.size _) (fun g hg x => by have h1 := (ho.lt g hg).1; have h2 := HBW.out.size; have h3 := HWA.out; have h4 := Option.some.inj x; omega)
        have HSTQ := HSTP.out
        rw [← HSTQ]
        exact ⟨_, _, es, by show _ = Ending.returned (.agg (uA _ _ (fin : Nat) (scKind n fs fin))); rw [HKD.out]; rfl, ⟨own_mono (hne (Nat.le_refl _) HX18.out.recs.row) hz, fun x hx => own_mono (hne (Nat.le_refl _) (HX18.out.recs.data x hx)) hz, HX18.out.recs.apart⟩, HES.out, own_mono (hne (Nat.le_refl _) HX18.out.places) hz, brow (bch HBA.out (bch HBW.out HX18.out.below)) (Nat.le_refl _) (Nat.le_refl _) _⟩
    · obtain ⟨ham, hdl, hm11⟩ := hsz hm
      have hmi : ¬ (m : Int) = 0 := by omega
      have HNXT := HNXT _ _ hF hm
      have HNXF := HNXF _ _ hF
      have HSE := HSE ⟨k, e, d⟩ m
      have HSG := HSG ⟨k, e, d⟩ m
      dsimp only at HNXT HNXF HSE HSG
      obtain ⟨t, ht⟩ : ∃ t, a + m = t := ⟨_, rfl⟩
      rw [ht] at HSE HSG ham
      have htI : (a : Int) + (m : Int) = (t : Int) := by omega
      have htb : (t : Int) ≤ 832 := by omega
      have hup : at0 < t := by omega
      have HFD : ∀ (w : World) (hv : Value) (x : Option Addr) (c : Nat), w.ownsRow W.heap.size 5 1 hv h.length (il .u8 h) → RI .u8 w (.slice x d.length c) d.length d → Calls Tryd.prog 31 #[.agg (kA o hv), .agg (fA k e (.slice x d.length c))] w fun r w' =>
          ∃ u v', r = .returned (.tuple #[.agg (kA (jGoes o h k d) v'), u, .bool (jEnds o h k d), .int .i64 (jErr o h k d)]) ∧ w'.ownsRow w.heap.size 5 1 v' (jHad o h k d).length (il .u8 (jHad o h k d)) ∧ w'.ownsRow w.heap.size 5 1 u (jTell o h k d).length (il .u8 (jTell o h k d)) ∧ Below w.heap.size w w' := fun w hv x c h1 h2 =>
        rfeed_any o hv h k e (.slice x d.length c) d.length d w (RI.own h1) hs.h h2 (by omega)
      have H6 := Lib.hid (jHad_le (o := o) (h := h) (k := k) (d := d))
      by_cases her : jErr o h k d = 0
      · have HNX1 := HNXT her
        rw [her] at HFD
        cases hen : jEnds o h k d with
        | true =>
          rw [HSE hen] at HNX1
          rw [hen] at HFD
          have HFD := Lib.hid HFD
          have HNX1 := HO.out.next HBL.out HNX1
          clear HNXF HNXT HSE HSG hF hsz hm hc hes0 hs hroom hfew hesl hab hble hb11 HRS HO her hen ht ham hbge HX00
          generalize jGoes o h k d = g6 at *
          generalize jHad o h k d = h6 at *
          generalize jTell o h k d = t6 at *
          cases o with
          | true =>
            rw [if_pos rfl] at HNX1
            have HNX := Lib.hid HNX1
            clear HNX1
            go_wp2_with (first
              | (go_at_call 30; (with_reducible refine (HBG.out _).mono ?_); rintro r w1 ⟨rfl, rfl⟩)
              | (go_at_call 21; (refine (HAC.out _ (Below.refl _ _)).mono ?_); rintro r w2 ⟨p2, c2, rfl, ho2, hb2⟩; have HX2 := Lib.hid (HX.out.keep hb2); have HO2 := Lib.hid ho2; clear ho2 hb2)
              | (refine wpl_put_fr rfl (.tmp 11) (.tmp 33) rfl w2.heap.size (FO.alloc w2) k e p2 d.length c2 rfl rfl ?_; intro w3 HF3 HG3; have hb3 : Below w2.heap.size w2 w3 := below_over (balloc w2 _) HG3.out (Nat.le_refl _) (balloc w2 _).size; have HX3 := Lib.hid (HX2.out.keep hb3); have HO3 := Lib.hid (own_keep HO2.out hb3); clear hb3 HX2 HO2; have j0 := HX3.out.jn.cells.1)
              | (refine wpl_load_ko rfl (.tmp 8) rfl rfl HX3.out.jn ?_)
              | (refine wpl_load_fr (by rfl) (.tmp 11) rfl rfl HF3.out ?_)
              | (go_at_call 31; (refine (HFD.out _ _ p2 c2 HX3.out.row (RI.own HO3.out)).mono ?_); rintro r w6 ⟨u, v6, rfl, oh6, ou6, hb6⟩; obtain ⟨ua, uc, rfl⟩ := own_form ou6; obtain ⟨qa, qc, rfl⟩ := own_form oh6; have HOH := Lib.hid (own_mono oh6 HX3.out.below.size); have HOU := Lib.hid (own_mono ou6 HX3.out.below.size); have HX6 := Lib.hid (HX3.out.keep hb6); clear oh6 ou6 hb6 HX3)
              | (refine wpList_store_row rfl 84 _ _ rfl w6.heap.size (kA g6 (.slice qa h6.length qc)) rfl rfl _ _ (heap_alloc_last w6 _) (kj_info _ _) rfl (kj_one _ _ _ _) ?_; obtain ⟨w7, hw7⟩ : ∃ q, World.setRow (w6.alloc (.cells (kA false (.slice none 0 0)) 84)) w6.heap.size (kA g6 (.slice qa h6.length qc)) = q := ⟨_, rfl⟩; rw [hw7]; have HK7 : Hid (KO w7 w6.heap.size g6 (.slice qa h6.length qc)) := Lib.hid (hw7 ▸ setRow_heap _ _ _ _ _ _ (heap_alloc_last w6 _)); have hb7 : Below w6.heap.size w6 w7 := hw7 ▸ bnew _ _ _; have HX7 := Lib.hid (HX6.out.keep hb7); have HOH7 := Lib.hid (own_keep HOH.out hb7); have HOU7 := Lib.hid (own_keep HOU.out hb7); clear hw7 hb7 HX6 HOH HOU)
              | (refine wpl_load_ko rfl (.tmp 13) rfl rfl HK7.out ?_)
              | (refine wpList_store_row rfl 84 _ _ rfl jb (kA g6 (.slice qa h6.length qc)) rfl rfl _ _ HX7.out.jn (kj_info _ _) rfl (kj_one _ _ _ _) ?_; obtain ⟨w8, hw8⟩ : ∃ q, World.setRow w7 jb (kA g6 (.slice qa h6.length qc)) = q := ⟨_, rfl⟩; rw [hw8]; have HX8 := Lib.hid (show RX W w8 rb jb fin 0 g6 h6 (.slice qa h6.length qc) (.slice ra es.length rc) es (.slice pa places.length pc) places from hw8 ▸ HX7.out.join HOH7.out H6.out); have HOU8 := Lib.hid (show w8.ownsRow W.heap.size 5 1 (.slice ua t6.length uc) t6.length (il .u8 t6) from hw8 ▸ own_over HOU7.out (grn_row w7 jb _) (fun q hq x => blk_ne_own HX7.out.jn HOU7.out (by decide) q hq (Option.some.inj x))); clear hw8 HX7 HOH7 HOU7; have q0 := HX8.out.cells.1)
              | (at_builtin; refine wpl_app_sr rfl (.tmp 57) (.tmp 59) rfl rfl (HX8.out.recs.keep (balloc w8 _)) w8.heap.size (t6, .slice ua t6.length uc) rfl (heap_alloc_last w8 _) (own_keep HOU8.out (balloc w8 _)) (fun g _ => by simp [Value.ownBlock]) (by omega) (bch HX8.out.below (balloc w8 _)).size ?_; intro v10 w10 HR10 HG10; obtain ⟨a10, c10, rfl⟩ := own_form HR10.out.row; have HXA := HX8.out.keep (balloc w8 (.cells #[.slice ua t6.length uc] 43)); have hs10 := blk_grown HXA.blk HXA.recs.row (by decide) HG10.out; have z0 := cell_of_row w10 rb 0 _ _ _ hs10; have f0 : w10.frozen? ⟨rb, 0, none⟩ = false := Joins.unfrozen_of_block hs10 0; obtain ⟨w11, hw11⟩ : ∃ q, w10.setCell ⟨rb, 0, none⟩ (.slice a10 (es.length + 1) c10) = q := ⟨_, rfl⟩; have HX11 := Lib.hid (show RX W w11 rb jb fin 0 g6 h6 (.slice qa h6.length qc) (.slice a10 (es.length + 1) c10) (es ++ [(t6, .slice ua t6.length uc)]) (.slice pa places.length pc) places from hw11 ▸ HXA.more (es' := es ++ [(t6, .slice ua t6.length uc)]) HG10.out (by rw [List.length_append]; exact HR10.out)); have q1 := HX11.out.cells.2.1; clear HXA hs10 HX8 HOU8 HR10 HG10)
              | (at_builtin; refine wpl_appw rfl (.tmp 63) (.tmp 65) 32 rfl 3 .i64 8 Tryd.underlying32 Tryd.info_pl W.heap.size (.slice pa places.length pc) places.length places rfl (own_keep HX11.out.places (balloc w11 _)) _ 1 [(first : Int)] rfl (ri_pl1 w11 (first : Int)) (by omega) (by omega) (bch HX11.out.below (balloc w11 _)).size ?_; intro v12 w12 HR12 HG12 _; obtain ⟨a12, c12, rfl⟩ := own_form HR12.out; have HXB := HX11.out.keep (balloc w11 (.cells #[.int .i64 (first : Int)] 3)); have hs12 := blk_grown HXB.blk HXB.places (by decide) HG12.out; have q12 := cell_of_row w12 rb 1 _ _ _ hs12; have f1 : w12.frozen? ⟨rb, 1, none⟩ = false := Joins.unfrozen_of_block hs12 1; obtain ⟨w13, hw13⟩ : ∃ q, w12.setCell ⟨rb, 1, none⟩ (.slice a12 (places.length + 1) c12) = q := ⟨_, rfl⟩; have HX13 := Lib.hid (show RX W w13 rb jb fin 0 g6 h6 (.slice qa h6.length qc) (.slice a10 (es.length + 1) c10) (es ++ [(t6, .slice ua t6.length uc)]) (.slice a12 (places.length + 1) c12) (places ++ [(first : Int)]) from hw13 ▸ HXB.more1 (ps' := places ++ [(first : Int)]) HG12.out (by rw [List.length_append]; exact HR12.out)); have q2 := HX13.out.cells.2.2.1; have f2 := HX13.out.frozen 2; obtain ⟨w14, hw14⟩ : ∃ q, w13.setCell ⟨rb, 2, none⟩ (.int .i64 (t : Int)) = q := ⟨_, rfl⟩; have HX14 := Lib.hid (show RX W w14 rb jb t 0 g6 h6 (.slice qa h6.length qc) (.slice a10 (es.length + 1) c10) (es ++ [(t6, .slice ua t6.length uc)]) (.slice a12 (places.length + 1) c12) (places ++ [(first : Int)]) from hw14 ▸ HX13.out.set2 t); clear HXB hs12 HX11 HX13 HR12 HG12))
            go_roundw
            case rel => exact ⟨_, Lib.hid HNX.out, rfl, rfl, Lib.hid ⟨_, _, es ++ [(t6, .slice ua t6.length uc)], _, HX14.out, by rw [List.map_append, HES.out]; rfl⟩⟩
            case measure => simp [intOf]; omega
          | false =>
            rw [if_neg (by decide)] at HNX1
            have HNX := Lib.hid HNX1
            clear HNX1
            go_wp2_with (first
              | (go_at_call 30; (with_reducible refine (HBG.out _).mono ?_); rintro r w1 ⟨rfl, rfl⟩)
              | (go_at_call 21; (refine (HAC.out _ (Below.refl _ _)).mono ?_); rintro r w2 ⟨p2, c2, rfl, ho2, hb2⟩; have HX2 := Lib.hid (HX.out.keep hb2); have HO2 := Lib.hid ho2; clear ho2 hb2)
              | (refine wpl_put_fr rfl (.tmp 11) (.tmp 33) rfl w2.heap.size (FO.alloc w2) k e p2 d.length c2 rfl rfl ?_; intro w3 HF3 HG3; have hb3 : Below w2.heap.size w2 w3 := below_over (balloc w2 _) HG3.out (Nat.le_refl _) (balloc w2 _).size; have HX3 := Lib.hid (HX2.out.keep hb3); have HO3 := Lib.hid (own_keep HO2.out hb3); clear hb3 HX2 HO2; have j0 := HX3.out.jn.cells.1)
              | (refine wpl_load_ko rfl (.tmp 8) rfl rfl HX3.out.jn ?_)
              | (refine wpl_load_fr (by rfl) (.tmp 11) rfl rfl HF3.out ?_)
              | (go_at_call 31; (refine (HFD.out _ _ p2 c2 HX3.out.row (RI.own HO3.out)).mono ?_); rintro r w6 ⟨u, v6, rfl, oh6, ou6, hb6⟩; obtain ⟨ua, uc, rfl⟩ := own_form ou6; obtain ⟨qa, qc, rfl⟩ := own_form oh6; have HOH := Lib.hid (own_mono oh6 HX3.out.below.size); have HOU := Lib.hid (own_mono ou6 HX3.out.below.size); have HX6 := Lib.hid (HX3.out.keep hb6); clear oh6 ou6 hb6 HX3)
              | (refine wpList_store_row rfl 84 _ _ rfl w6.heap.size (kA g6 (.slice qa h6.length qc)) rfl rfl _ _ (heap_alloc_last w6 _) (kj_info _ _) rfl (kj_one _ _ _ _) ?_; obtain ⟨w7, hw7⟩ : ∃ q, World.setRow (w6.alloc (.cells (kA false (.slice none 0 0)) 84)) w6.heap.size (kA g6 (.slice qa h6.length qc)) = q := ⟨_, rfl⟩; rw [hw7]; have HK7 : Hid (KO w7 w6.heap.size g6 (.slice qa h6.length qc)) := Lib.hid (hw7 ▸ setRow_heap _ _ _ _ _ _ (heap_alloc_last w6 _)); have hb7 : Below w6.heap.size w6 w7 := hw7 ▸ bnew _ _ _; have HX7 := Lib.hid (HX6.out.keep hb7); have HOH7 := Lib.hid (own_keep HOH.out hb7); have HOU7 := Lib.hid (own_keep HOU.out hb7); clear hw7 hb7 HX6 HOH HOU)
              | (refine wpl_load_ko rfl (.tmp 13) rfl rfl HK7.out ?_)
              | (refine wpList_store_row rfl 84 _ _ rfl jb (kA g6 (.slice qa h6.length qc)) rfl rfl _ _ HX7.out.jn (kj_info _ _) rfl (kj_one _ _ _ _) ?_; obtain ⟨w8, hw8⟩ : ∃ q, World.setRow w7 jb (kA g6 (.slice qa h6.length qc)) = q := ⟨_, rfl⟩; rw [hw8]; have HX8 := Lib.hid (show RX W w8 rb jb fin 0 g6 h6 (.slice qa h6.length qc) (.slice ra es.length rc) es (.slice pa places.length pc) places from hw8 ▸ HX7.out.join HOH7.out H6.out); have HOU8 := Lib.hid (show w8.ownsRow W.heap.size 5 1 (.slice ua t6.length uc) t6.length (il .u8 t6) from hw8 ▸ own_over HOU7.out (grn_row w7 jb _) (fun q hq x => blk_ne_own HX7.out.jn HOU7.out (by decide) q hq (Option.some.inj x))); clear hw8 HX7 HOH7 HOU7; have q0 := HX8.out.cells.1)
              | (at_builtin; refine wpl_app_sr rfl (.tmp 57) (.tmp 59) rfl rfl (HX8.out.recs.keep (balloc w8 _)) w8.heap.size (t6, .slice ua t6.length uc) rfl (heap_alloc_last w8 _) (own_keep HOU8.out (balloc w8 _)) (fun g _ => by simp [Value.ownBlock]) (by omega) (bch HX8.out.below (balloc w8 _)).size ?_; intro v10 w10 HR10 HG10; obtain ⟨a10, c10, rfl⟩ := own_form HR10.out.row; have HXA := HX8.out.keep (balloc w8 (.cells #[.slice ua t6.length uc] 43)); have hs10 := blk_grown HXA.blk HXA.recs.row (by decide) HG10.out; have z0 := cell_of_row w10 rb 0 _ _ _ hs10; have f0 : w10.frozen? ⟨rb, 0, none⟩ = false := Joins.unfrozen_of_block hs10 0; obtain ⟨w11, hw11⟩ : ∃ q, w10.setCell ⟨rb, 0, none⟩ (.slice a10 (es.length + 1) c10) = q := ⟨_, rfl⟩; have HX11 := Lib.hid (show RX W w11 rb jb fin 0 g6 h6 (.slice qa h6.length qc) (.slice a10 (es.length + 1) c10) (es ++ [(t6, .slice ua t6.length uc)]) (.slice pa places.length pc) places from hw11 ▸ HXA.more (es' := es ++ [(t6, .slice ua t6.length uc)]) HG10.out (by rw [List.length_append]; exact HR10.out)); have q1 := HX11.out.cells.2.1; clear HXA hs10 HX8 HOU8 HR10 HG10)
              | (at_builtin; refine wpl_appw rfl (.tmp 63) (.tmp 65) 32 rfl 3 .i64 8 Tryd.underlying32 Tryd.info_pl W.heap.size (.slice pa places.length pc) places.length places rfl (own_keep HX11.out.places (balloc w11 _)) _ 1 [(a : Int)] rfl (ri_pl1 w11 (a : Int)) (by omega) (by omega) (bch HX11.out.below (balloc w11 _)).size ?_; intro v12 w12 HR12 HG12 _; obtain ⟨a12, c12, rfl⟩ := own_form HR12.out; have HXB := HX11.out.keep (balloc w11 (.cells #[.int .i64 (a : Int)] 3)); have hs12 := blk_grown HXB.blk HXB.places (by decide) HG12.out; have q12 := cell_of_row w12 rb 1 _ _ _ hs12; have f1 : w12.frozen? ⟨rb, 1, none⟩ = false := Joins.unfrozen_of_block hs12 1; obtain ⟨w13, hw13⟩ : ∃ q, w12.setCell ⟨rb, 1, none⟩ (.slice a12 (places.length + 1) c12) = q := ⟨_, rfl⟩; have HX13 := Lib.hid (show RX W w13 rb jb fin 0 g6 h6 (.slice qa h6.length qc) (.slice a10 (es.length + 1) c10) (es ++ [(t6, .slice ua t6.length uc)]) (.slice a12 (places.length + 1) c12) (places ++ [(a : Int)]) from hw13 ▸ HXB.more1 (ps' := places ++ [(a : Int)]) HG12.out (by rw [List.length_append]; exact HR12.out)); have q2 := HX13.out.cells.2.2.1; have f2 := HX13.out.frozen 2; obtain ⟨w14, hw14⟩ : ∃ q, w13.setCell ⟨rb, 2, none⟩ (.int .i64 (t : Int)) = q := ⟨_, rfl⟩; have HX14 := Lib.hid (show RX W w14 rb jb t 0 g6 h6 (.slice qa h6.length qc) (.slice a10 (es.length + 1) c10) (es ++ [(t6, .slice ua t6.length uc)]) (.slice a12 (places.length + 1) c12) (places ++ [(a : Int)]) from hw14 ▸ HX13.out.set2 t); clear HXB hs12 HX11 HX13 HR12 HG12))
            go_roundw
            case rel => exact ⟨_, Lib.hid HNX.out, rfl, rfl, Lib.hid ⟨_, _, es ++ [(t6, .slice ua t6.length uc)], _, HX14.out, by rw [List.map_append, HES.out]; rfl⟩⟩
            case measure => simp [intOf]; omega
        | false =>
          rw [HSG hen] at HNX1
          rw [hen] at HFD
          have HFD := Lib.hid HFD
          have HNX1 := HO.out.next HBL.out HNX1
          clear HNXF HNXT HSE HSG hF hsz hm hc hes0 hs hroom hfew hesl hab hble hb11 HRS HO her hen ht ham hbge HX00
          generalize jGoes o h k d = g6 at *
          generalize jHad o h k d = h6 at *
          generalize jTell o h k d = t6 at *
          cases o with
          | true =>
            rw [if_pos rfl] at HNX1
            have HNX := Lib.hid HNX1
            clear HNX1
            go_wp2_with (first
              | (go_at_call 30; (with_reducible refine (HBG.out _).mono ?_); rintro r w1 ⟨rfl, rfl⟩)
              | (go_at_call 21; (refine (HAC.out _ (Below.refl _ _)).mono ?_); rintro r w2 ⟨p2, c2, rfl, ho2, hb2⟩; have HX2 := Lib.hid (HX.out.keep hb2); have HO2 := Lib.hid ho2; clear ho2 hb2)
              | (refine wpl_put_fr rfl (.tmp 11) (.tmp 33) rfl w2.heap.size (FO.alloc w2) k e p2 d.length c2 rfl rfl ?_; intro w3 HF3 HG3; have hb3 : Below w2.heap.size w2 w3 := below_over (balloc w2 _) HG3.out (Nat.le_refl _) (balloc w2 _).size; have HX3 := Lib.hid (HX2.out.keep hb3); have HO3 := Lib.hid (own_keep HO2.out hb3); clear hb3 HX2 HO2; have j0 := HX3.out.jn.cells.1)
              | (refine wpl_load_ko rfl (.tmp 8) rfl rfl HX3.out.jn ?_)
              | (refine wpl_load_fr (by rfl) (.tmp 11) rfl rfl HF3.out ?_)
              | (go_at_call 31; (refine (HFD.out _ _ p2 c2 HX3.out.row (RI.own HO3.out)).mono ?_); rintro r w6 ⟨u, v6, rfl, oh6, ou6, hb6⟩; obtain ⟨ua, uc, rfl⟩ := own_form ou6; obtain ⟨qa, qc, rfl⟩ := own_form oh6; have HOH := Lib.hid (own_mono oh6 HX3.out.below.size); have HOU := Lib.hid (own_mono ou6 HX3.out.below.size); have HX6 := Lib.hid (HX3.out.keep hb6); clear oh6 ou6 hb6 HX3)
              | (refine wpList_store_row rfl 84 _ _ rfl w6.heap.size (kA g6 (.slice qa h6.length qc)) rfl rfl _ _ (heap_alloc_last w6 _) (kj_info _ _) rfl (kj_one _ _ _ _) ?_; obtain ⟨w7, hw7⟩ : ∃ q, World.setRow (w6.alloc (.cells (kA false (.slice none 0 0)) 84)) w6.heap.size (kA g6 (.slice qa h6.length qc)) = q := ⟨_, rfl⟩; rw [hw7]; have HK7 : Hid (KO w7 w6.heap.size g6 (.slice qa h6.length qc)) := Lib.hid (hw7 ▸ setRow_heap _ _ _ _ _ _ (heap_alloc_last w6 _)); have hb7 : Below w6.heap.size w6 w7 := hw7 ▸ bnew _ _ _; have HX7 := Lib.hid (HX6.out.keep hb7); have HOH7 := Lib.hid (own_keep HOH.out hb7); have HOU7 := Lib.hid (own_keep HOU.out hb7); clear hw7 hb7 HX6 HOH HOU)
              | (refine wpl_load_ko rfl (.tmp 13) rfl rfl HK7.out ?_)
              | (refine wpList_store_row rfl 84 _ _ rfl jb (kA g6 (.slice qa h6.length qc)) rfl rfl _ _ HX7.out.jn (kj_info _ _) rfl (kj_one _ _ _ _) ?_; obtain ⟨w8, hw8⟩ : ∃ q, World.setRow w7 jb (kA g6 (.slice qa h6.length qc)) = q := ⟨_, rfl⟩; rw [hw8]; have HX8 := Lib.hid (show RX W w8 rb jb fin 0 g6 h6 (.slice qa h6.length qc) (.slice ra es.length rc) es (.slice pa places.length pc) places from hw8 ▸ HX7.out.join HOH7.out H6.out); have HOU8 := Lib.hid (show w8.ownsRow W.heap.size 5 1 (.slice ua t6.length uc) t6.length (il .u8 t6) from hw8 ▸ own_over HOU7.out (grn_row w7 jb _) (fun q hq x => blk_ne_own HX7.out.jn HOU7.out (by decide) q hq (Option.some.inj x))); clear hw8 HX7 HOH7 HOU7))
            go_roundw
            case rel => exact ⟨_, Lib.hid HNX.out, rfl, rfl, Lib.hid ⟨_, _, es, _, HX8.out, HES.out⟩⟩
            case measure => simp [intOf]; omega
          | false =>
            rw [if_neg (by decide)] at HNX1
            have HNX := Lib.hid HNX1
            clear HNX1
            go_wp2_with (first
              | (go_at_call 30; (with_reducible refine (HBG.out _).mono ?_); rintro r w1 ⟨rfl, rfl⟩)
              | (go_at_call 21; (refine (HAC.out _ (Below.refl _ _)).mono ?_); rintro r w2 ⟨p2, c2, rfl, ho2, hb2⟩; have HX2 := Lib.hid (HX.out.keep hb2); have HO2 := Lib.hid ho2; clear ho2 hb2)
              | (refine wpl_put_fr rfl (.tmp 11) (.tmp 33) rfl w2.heap.size (FO.alloc w2) k e p2 d.length c2 rfl rfl ?_; intro w3 HF3 HG3; have hb3 : Below w2.heap.size w2 w3 := below_over (balloc w2 _) HG3.out (Nat.le_refl _) (balloc w2 _).size; have HX3 := Lib.hid (HX2.out.keep hb3); have HO3 := Lib.hid (own_keep HO2.out hb3); clear hb3 HX2 HO2; have j0 := HX3.out.jn.cells.1)
              | (refine wpl_load_ko rfl (.tmp 8) rfl rfl HX3.out.jn ?_)
              | (refine wpl_load_fr (by rfl) (.tmp 11) rfl rfl HF3.out ?_)
              | (go_at_call 31; (refine (HFD.out _ _ p2 c2 HX3.out.row (RI.own HO3.out)).mono ?_); rintro r w6 ⟨u, v6, rfl, oh6, ou6, hb6⟩; obtain ⟨ua, uc, rfl⟩ := own_form ou6; obtain ⟨qa, qc, rfl⟩ := own_form oh6; have HOH := Lib.hid (own_mono oh6 HX3.out.below.size); have HOU := Lib.hid (own_mono ou6 HX3.out.below.size); have HX6 := Lib.hid (HX3.out.keep hb6); clear oh6 ou6 hb6 HX3)
              | (refine wpList_store_row rfl 84 _ _ rfl w6.heap.size (kA g6 (.slice qa h6.length qc)) rfl rfl _ _ (heap_alloc_last w6 _) (kj_info _ _) rfl (kj_one _ _ _ _) ?_; obtain ⟨w7, hw7⟩ : ∃ q, World.setRow (w6.alloc (.cells (kA false (.slice none 0 0)) 84)) w6.heap.size (kA g6 (.slice qa h6.length qc)) = q := ⟨_, rfl⟩; rw [hw7]; have HK7 : Hid (KO w7 w6.heap.size g6 (.slice qa h6.length qc)) := Lib.hid (hw7 ▸ setRow_heap _ _ _ _ _ _ (heap_alloc_last w6 _)); have hb7 : Below w6.heap.size w6 w7 := hw7 ▸ bnew _ _ _; have HX7 := Lib.hid (HX6.out.keep hb7); have HOH7 := Lib.hid (own_keep HOH.out hb7); have HOU7 := Lib.hid (own_keep HOU.out hb7); clear hw7 hb7 HX6 HOH HOU)
              | (refine wpl_load_ko rfl (.tmp 13) rfl rfl HK7.out ?_)
              | (refine wpList_store_row rfl 84 _ _ rfl jb (kA g6 (.slice qa h6.length qc)) rfl rfl _ _ HX7.out.jn (kj_info _ _) rfl (kj_one _ _ _ _) ?_; obtain ⟨w8, hw8⟩ : ∃ q, World.setRow w7 jb (kA g6 (.slice qa h6.length qc)) = q := ⟨_, rfl⟩; rw [hw8]; have HX8 := Lib.hid (show RX W w8 rb jb fin 0 g6 h6 (.slice qa h6.length qc) (.slice ra es.length rc) es (.slice pa places.length pc) places from hw8 ▸ HX7.out.join HOH7.out H6.out); have HOU8 := Lib.hid (show w8.ownsRow W.heap.size 5 1 (.slice ua t6.length uc) t6.length (il .u8 t6) from hw8 ▸ own_over HOU7.out (grn_row w7 jb _) (fun q hq x => blk_ne_own HX7.out.jn HOU7.out (by decide) q hq (Option.some.inj x))); clear hw8 HX7 HOH7 HOU7))
            go_roundw
            case rel => exact ⟨_, Lib.hid HNX.out, rfl, rfl, Lib.hid ⟨_, _, es, _, HX8.out, HES.out⟩⟩
            case measure => simp [intOf]; omega
      · have HSTP := Lib.hid (HO.out.stop (HNXF (.inr her)))
        have hne : (jErr o h k d != 0) = true := by simpa using her
        have HFD := Lib.hid HFD
        clear HNXF HNXT HSE HSG hF hsz hm hc hes0 hs hroom hfew hesl hab hble hb11 HRS HO her ht ham hbge HX00
        generalize jErr o h k d = er at *
        generalize jEnds o h k d = en at *
        generalize jGoes o h k d = g6 at *
        generalize jHad o h k d = h6 at *
        generalize jTell o h k d = t6 at *
        cases o with
        | true =>
          have HRE0 := HREA.out fin HFIN.out
          obtain ⟨y, hy⟩ : ∃ y, restB n fs fin = y := ⟨_, rfl⟩
          rw [hy] at HRE0
          have HRE := Lib.hid HRE0
          have HKD : Hid (scKind n fs fin = if y = true then 1 else 2) := Lib.hid (by unfold scKind; rw [hy])
          clear HRE0 hy
          cases y with
          | true =>
            go_wp2_with (first
              | (go_at_call 30; (with_reducible refine (HBG.out _).mono ?_); rintro r w1 ⟨rfl, rfl⟩)
              | (go_at_call 21; (refine (HAC.out _ (Below.refl _ _)).mono ?_); rintro r w2 ⟨p2, c2, rfl, ho2, hb2⟩; have HX2 := Lib.hid (HX.out.keep hb2); have HO2 := Lib.hid ho2; clear ho2 hb2)
              | (refine wpl_put_fr rfl (.tmp 11) (.tmp 33) rfl w2.heap.size (FO.alloc w2) k e p2 d.length c2 rfl rfl ?_; intro w3 HF3 HG3; have hb3 : Below w2.heap.size w2 w3 := below_over (balloc w2 _) HG3.out (Nat.le_refl _) (balloc w2 _).size; have HX3 := Lib.hid (HX2.out.keep hb3); have HO3 := Lib.hid (own_keep HO2.out hb3); clear hb3 HX2 HO2; have j0 := HX3.out.jn.cells.1)
              | (refine wpl_load_ko rfl (.tmp 8) rfl rfl HX3.out.jn ?_)
              | (refine wpl_load_fr (by rfl) (.tmp 11) rfl rfl HF3.out ?_)
              | (go_at_call 31; (refine (HFD.out _ _ p2 c2 HX3.out.row (RI.own HO3.out)).mono ?_); rintro r w6 ⟨u, v6, rfl, oh6, ou6, hb6⟩; obtain ⟨ua, uc, rfl⟩ := own_form ou6; obtain ⟨qa, qc, rfl⟩ := own_form oh6; have HOH := Lib.hid (own_mono oh6 HX3.out.below.size); have HOU := Lib.hid (own_mono ou6 HX3.out.below.size); have HX6 := Lib.hid (HX3.out.keep hb6); clear oh6 ou6 hb6 HX3)
              | (refine wpList_store_row rfl 84 _ _ rfl w6.heap.size (kA g6 (.slice qa h6.length qc)) rfl rfl _ _ (heap_alloc_last w6 _) (kj_info _ _) rfl (kj_one _ _ _ _) ?_; obtain ⟨w7, hw7⟩ : ∃ q, World.setRow (w6.alloc (.cells (kA false (.slice none 0 0)) 84)) w6.heap.size (kA g6 (.slice qa h6.length qc)) = q := ⟨_, rfl⟩; rw [hw7]; have HK7 : Hid (KO w7 w6.heap.size g6 (.slice qa h6.length qc)) := Lib.hid (hw7 ▸ setRow_heap _ _ _ _ _ _ (heap_alloc_last w6 _)); have hb7 : Below w6.heap.size w6 w7 := hw7 ▸ bnew _ _ _; have HX7 := Lib.hid (HX6.out.keep hb7); have HOH7 := Lib.hid (own_keep HOH.out hb7); have HOU7 := Lib.hid (own_keep HOU.out hb7); clear hw7 hb7 HX6 HOH HOU; obtain ⟨_, _, z2, z3⟩ := HX7.out.cells; have f3 := HX7.out.frozen 3; obtain ⟨w4, hw4⟩ : ∃ q, w7.setCell ⟨rb, 3, none⟩ (.int .i64 2) = q := ⟨_, rfl⟩; have HX4 := Lib.hid (show RX _ w4 _ _ _ _ _ _ _ _ _ _ _ from by rw [← hw4]; exact HX7.out.set3 2); have y2 := HX4.out.cells.2.2.1; clear HX7)
              | (go_at_call 32; (refine (HRE.out _ (HFS.out.keep (bch HBW.out HX4.out.below))).mono ?_); rintro r w16 ⟨rfl, hb⟩; have HX16 := Lib.hid (HX4.out.keep hb); have z316 := HX16.out.cells.2.2.2; have f316 := HX16.out.frozen 3; clear hb; obtain ⟨w18, hw18⟩ : ∃ q, w16.setCell ⟨rb, 3, none⟩ (.int .i64 1) = q := ⟨_, rfl⟩; have HX18 := Lib.hid (show RX _ w18 _ _ _ _ _ _ _ _ _ _ _ from by rw [← hw18]; exact HX16.out.set3 1))
              | (refine wpList_load_row rfl 56 (.tmp 7) rfl rb rfl _ (uA (.slice ra es.length rc) (.slice pa places.length pc) fin 1) (0, 0) _ HX18.out.blk Tryd.underlying56 rfl (ut_info _ rfl) ?_)
              | (refine wpList_store_row rfl 56 _ _ rfl w.heap.size (uA (.slice ra es.length rc) (.slice pa places.length pc) fin 1) rfl rfl _ _ (((bch HBW.out HX18.out.below).block _ HWA.out).trans HRA.out) (ut_info _ rfl) rfl (ut_one _ _ _ _ _ _ _ _) ?_))
            refine bodyPost_ret_by (v := .agg (uA (.slice ra es.length rc) (.slice pa places.length pc) fin 1)) (results_cell_row rfl _ _ w.heap.size _ (uA (.slice ra es.length rc) (.slice pa places.length pc) fin 1) (0, 0) _ rfl (setRow_heap _ _ _ _ _ _ (((bch HBW.out HX18.out.below).block _ HWA.out).trans HRA.out)) Tryd.underlying56 rfl (ut_info _ rfl)) rfl ?_
            have hz : w.heap.size ≤ W.heap.size := Nat.le_trans (Nat.le_of_lt HWA.out) HBW.out.size
            have hne : ∀ {base n q : Nat} {t : TypeId} {u : Value} {xs : List Value}, W.heap.size ≤ base → w18.ownsRow base t q u n xs → (w18.setRow w.heap.size (uA (.slice ra es.length rc) (.slice pa places.length pc) fin 1)).ownsRow base t q u n xs := fun hbs ho =>
              own_over ho (grn_row w18 w.heap.size _) (fun g hg x => by have h1 := (ho.lt g hg).1; have h2 := HBW.out.size; have h3 := HWA.out; have h4 := Option.some.inj x; omega)
            have HSTQ := HSTP.out
            rw [← HSTQ]
            exact ⟨_, _, es, by show _ = Ending.returned (.agg (uA _ _ (fin : Nat) (scKind n fs fin))); rw [HKD.out]; rfl, ⟨own_mono (hne (Nat.le_refl _) HX18.out.recs.row) hz, fun x hx => own_mono (hne (Nat.le_refl _) (HX18.out.recs.data x hx)) hz, HX18.out.recs.apart⟩, HES.out, own_mono (hne (Nat.le_refl _) HX18.out.places) hz, brow (bch HBA.out (bch HBW.out HX18.out.below)) (Nat.le_refl _) (Nat.le_refl _) _⟩
          | false =>
            go_wp2_with (first
              | (go_at_call 30; (with_reducible refine (HBG.out _).mono ?_); rintro r w1 ⟨rfl, rfl⟩)
              | (go_at_call 21; (refine (HAC.out _ (Below.refl _ _)).mono ?_); rintro r w2 ⟨p2, c2, rfl, ho2, hb2⟩; have HX2 := Lib.hid (HX.out.keep hb2); have HO2 := Lib.hid ho2; clear ho2 hb2)
              | (refine wpl_put_fr rfl (.tmp 11) (.tmp 33) rfl w2.heap.size (FO.alloc w2) k e p2 d.length c2 rfl rfl ?_; intro w3 HF3 HG3; have hb3 : Below w2.heap.size w2 w3 := below_over (balloc w2 _) HG3.out (Nat.le_refl _) (balloc w2 _).size; have HX3 := Lib.hid (HX2.out.keep hb3); have HO3 := Lib.hid (own_keep HO2.out hb3); clear hb3 HX2 HO2; have j0 := HX3.out.jn.cells.1)
              | (refine wpl_load_ko rfl (.tmp 8) rfl rfl HX3.out.jn ?_)
              | (refine wpl_load_fr (by rfl) (.tmp 11) rfl rfl HF3.out ?_)
              | (go_at_call 31; (refine (HFD.out _ _ p2 c2 HX3.out.row (RI.own HO3.out)).mono ?_); rintro r w6 ⟨u, v6, rfl, oh6, ou6, hb6⟩; obtain ⟨ua, uc, rfl⟩ := own_form ou6; obtain ⟨qa, qc, rfl⟩ := own_form oh6; have HOH := Lib.hid (own_mono oh6 HX3.out.below.size); have HOU := Lib.hid (own_mono ou6 HX3.out.below.size); have HX6 := Lib.hid (HX3.out.keep hb6); clear oh6 ou6 hb6 HX3)
              | (refine wpList_store_row rfl 84 _ _ rfl w6.heap.size (kA g6 (.slice qa h6.length qc)) rfl rfl _ _ (heap_alloc_last w6 _) (kj_info _ _) rfl (kj_one _ _ _ _) ?_; obtain ⟨w7, hw7⟩ : ∃ q, World.setRow (w6.alloc (.cells (kA false (.slice none 0 0)) 84)) w6.heap.size (kA g6 (.slice qa h6.length qc)) = q := ⟨_, rfl⟩; rw [hw7]; have HK7 : Hid (KO w7 w6.heap.size g6 (.slice qa h6.length qc)) := Lib.hid (hw7 ▸ setRow_heap _ _ _ _ _ _ (heap_alloc_last w6 _)); have hb7 : Below w6.heap.size w6 w7 := hw7 ▸ bnew _ _ _; have HX7 := Lib.hid (HX6.out.keep hb7); have HOH7 := Lib.hid (own_keep HOH.out hb7); have HOU7 := Lib.hid (own_keep HOU.out hb7); clear hw7 hb7 HX6 HOH HOU; obtain ⟨_, _, z2, z3⟩ := HX7.out.cells; have f3 := HX7.out.frozen 3; obtain ⟨w4, hw4⟩ : ∃ q, w7.setCell ⟨rb, 3, none⟩ (.int .i64 2) = q := ⟨_, rfl⟩; have HX4 := Lib.hid (show RX _ w4 _ _ _ _ _ _ _ _ _ _ _ from by rw [← hw4]; exact HX7.out.set3 2); have y2 := HX4.out.cells.2.2.1; clear HX7)
              | (go_at_call 32; (refine (HRE.out _ (HFS.out.keep (bch HBW.out HX4.out.below))).mono ?_); rintro r w16 ⟨rfl, hb⟩; have HX16 := Lib.hid (HX4.out.keep hb); have z316 := HX16.out.cells.2.2.2; have f316 := HX16.out.frozen 3; clear hb; have HX18 := HX16)
              | (refine wpList_load_row rfl 56 (.tmp 7) rfl rb rfl _ (uA (.slice ra es.length rc) (.slice pa places.length pc) fin 2) (0, 0) _ HX18.out.blk Tryd.underlying56 rfl (ut_info _ rfl) ?_)
              | (refine wpList_store_row rfl 56 _ _ rfl w.heap.size (uA (.slice ra es.length rc) (.slice pa places.length pc) fin 2) rfl rfl _ _ (((bch HBW.out HX18.out.below).block _ HWA.out).trans HRA.out) (ut_info _ rfl) rfl (ut_one _ _ _ _ _ _ _ _) ?_))
            refine bodyPost_ret_by (v := .agg (uA (.slice ra es.length rc) (.slice pa places.length pc) fin 2)) (results_cell_row rfl _ _ w.heap.size _ (uA (.slice ra es.length rc) (.slice pa places.length pc) fin 2) (0, 0) _ rfl (setRow_heap _ _ _ _ _ _ (((bch HBW.out HX18.out.below).block _ HWA.out).trans HRA.out)) Tryd.underlying56 rfl (ut_info _ rfl)) rfl ?_
            have hz : w.heap.size ≤ W.heap.size := Nat.le_trans (Nat.le_of_lt HWA.out) HBW.out.size
            have hne : ∀ {base n q : Nat} {t : TypeId} {u : Value} {xs : List Value}, W.heap.size ≤ base → w16.ownsRow base t q u n xs → (w16.setRow w.heap.size (uA (.slice ra es.length rc) (.slice pa places.length pc) fin 2)).ownsRow base t q u n xs := fun hbs ho =>
              own_over ho (grn_row w16 w.heap.size _) (fun g hg x => by have h1 := (ho.lt g hg).1; have h2 := HBW.out.size; have h3 := HWA.out; have h4 := Option.some.inj x; omega)
            have HSTQ := HSTP.out
            rw [← HSTQ]
            exact ⟨_, _, es, by show _ = Ending.returned (.agg (uA _ _ (fin : Nat) (scKind n fs fin))); rw [HKD.out]; rfl, ⟨own_mono (hne (Nat.le_refl _) HX18.out.recs.row) hz, fun x hx => own_mono (hne (Nat.le_refl _) (HX18.out.recs.data x hx)) hz, HX18.out.recs.apart⟩, HES.out, own_mono (hne (Nat.le_refl _) HX18.out.places) hz, brow (bch HBA.out (bch HBW.out HX18.out.below)) (Nat.le_refl _) (Nat.le_refl _) _⟩
        | false =>
          have HRE0 := HREA.out fin HFIN.out
          obtain ⟨y, hy⟩ : ∃ y, restB n fs fin = y := ⟨_, rfl⟩
          rw [hy] at HRE0
          have HRE := Lib.hid HRE0
          have HKD : Hid (scKind n fs fin = if y = true then 1 else 2) := Lib.hid (by unfold scKind; rw [hy])
          clear HRE0 hy
          cases y with
          | true =>
            go_wp2_with (first
              | (go_at_call 30; (with_reducible refine (HBG.out _).mono ?_); rintro r w1 ⟨rfl, rfl⟩)
              | (go_at_call 21; (refine (HAC.out _ (Below.refl _ _)).mono ?_); rintro r w2 ⟨p2, c2, rfl, ho2, hb2⟩; have HX2 := Lib.hid (HX.out.keep hb2); have HO2 := Lib.hid ho2; clear ho2 hb2)
              | (refine wpl_put_fr rfl (.tmp 11) (.tmp 33) rfl w2.heap.size (FO.alloc w2) k e p2 d.length c2 rfl rfl ?_; intro w3 HF3 HG3; have hb3 : Below w2.heap.size w2 w3 := below_over (balloc w2 _) HG3.out (Nat.le_refl _) (balloc w2 _).size; have HX3 := Lib.hid (HX2.out.keep hb3); have HO3 := Lib.hid (own_keep HO2.out hb3); clear hb3 HX2 HO2; have j0 := HX3.out.jn.cells.1)
              | (refine wpl_load_ko rfl (.tmp 8) rfl rfl HX3.out.jn ?_)
              | (refine wpl_load_fr (by rfl) (.tmp 11) rfl rfl HF3.out ?_)
              | (go_at_call 31; (refine (HFD.out _ _ p2 c2 HX3.out.row (RI.own HO3.out)).mono ?_); rintro r w6 ⟨u, v6, rfl, oh6, ou6, hb6⟩; obtain ⟨ua, uc, rfl⟩ := own_form ou6; obtain ⟨qa, qc, rfl⟩ := own_form oh6; have HOH := Lib.hid (own_mono oh6 HX3.out.below.size); have HOU := Lib.hid (own_mono ou6 HX3.out.below.size); have HX6 := Lib.hid (HX3.out.keep hb6); clear oh6 ou6 hb6 HX3)
              | (refine wpList_store_row rfl 84 _ _ rfl w6.heap.size (kA g6 (.slice qa h6.length qc)) rfl rfl _ _ (heap_alloc_last w6 _) (kj_info _ _) rfl (kj_one _ _ _ _) ?_; obtain ⟨w7, hw7⟩ : ∃ q, World.setRow (w6.alloc (.cells (kA false (.slice none 0 0)) 84)) w6.heap.size (kA g6 (.slice qa h6.length qc)) = q := ⟨_, rfl⟩; rw [hw7]; have HK7 : Hid (KO w7 w6.heap.size g6 (.slice qa h6.length qc)) := Lib.hid (hw7 ▸ setRow_heap _ _ _ _ _ _ (heap_alloc_last w6 _)); have hb7 : Below w6.heap.size w6 w7 := hw7 ▸ bnew _ _ _; have HX7 := Lib.hid (HX6.out.keep hb7); have HOH7 := Lib.hid (own_keep HOH.out hb7); have HOU7 := Lib.hid (own_keep HOU.out hb7); clear hw7 hb7 HX6 HOH HOU; obtain ⟨_, _, z2, z3⟩ := HX7.out.cells; have f3 := HX7.out.frozen 3; obtain ⟨w4, hw4⟩ : ∃ q, w7.setCell ⟨rb, 3, none⟩ (.int .i64 2) = q := ⟨_, rfl⟩; have HX4 := Lib.hid (show RX _ w4 _ _ _ _ _ _ _ _ _ _ _ from by rw [← hw4]; exact HX7.out.set3 2); have y2 := HX4.out.cells.2.2.1; clear HX7)
              | (go_at_call 32; (refine (HRE.out _ (HFS.out.keep (bch HBW.out HX4.out.below))).mono ?_); rintro r w16 ⟨rfl, hb⟩; have HX16 := Lib.hid (HX4.out.keep hb); have z316 := HX16.out.cells.2.2.2; have f316 := HX16.out.frozen 3; clear hb; obtain ⟨w18, hw18⟩ : ∃ q, w16.setCell ⟨rb, 3, none⟩ (.int .i64 1) = q := ⟨_, rfl⟩; have HX18 := Lib.hid (show RX _ w18 _ _ _ _ _ _ _ _ _ _ _ from by rw [← hw18]; exact HX16.out.set3 1))
              | (refine wpList_load_row rfl 56 (.tmp 7) rfl rb rfl _ (uA (.slice ra es.length rc) (.slice pa places.length pc) fin 1) (0, 0) _ HX18.out.blk Tryd.underlying56 rfl (ut_info _ rfl) ?_)
              | (refine wpList_store_row rfl 56 _ _ rfl w.heap.size (uA (.slice ra es.length rc) (.slice pa places.length pc) fin 1) rfl rfl _ _ (((bch HBW.out HX18.out.below).block _ HWA.out).trans HRA.out) (ut_info _ rfl) rfl (ut_one _ _ _ _ _ _ _ _) ?_))
            refine bodyPost_ret_by (v := .agg (uA (.slice ra es.length rc) (.slice pa places.length pc) fin 1)) (results_cell_row rfl _ _ w.heap.size _ (uA (.slice ra es.length rc) (.slice pa places.length pc) fin 1) (0, 0) _ rfl (setRow_heap _ _ _ _ _ _ (((bch HBW.out HX18.out.below).block _ HWA.out).trans HRA.out)) Tryd.underlying56 rfl (ut_info _ rfl)) rfl ?_
            have hz : w.heap.size ≤ W.heap.size := Nat.le_trans (Nat.le_of_lt HWA.out) HBW.out.size
            have hne : ∀ {base n q : Nat} {t : TypeId} {u : Value} {xs : List Value}, W.heap.size ≤ base → w18.ownsRow base t q u n xs → (w18.setRow w.heap.size (uA (.slice ra es.length rc) (.slice pa places.length pc) fin 1)).ownsRow base t q u n xs := fun hbs ho =>
              own_over ho (grn_row w18 w.heap.size _) (fun g hg x => by have h1 := (ho.lt g hg).1; have h2 := HBW.out.size; have h3 := HWA.out; have h4 := Option.some.inj x; omega)
            have HSTQ := HSTP.out
            rw [← HSTQ]
            exact ⟨_, _, es, by show _ = Ending.returned (.agg (uA _ _ (fin : Nat) (scKind n fs fin))); rw [HKD.out]; rfl, ⟨own_mono (hne (Nat.le_refl _) HX18.out.recs.row) hz, fun x hx => own_mono (hne (Nat.le_refl _) (HX18.out.recs.data x hx)) hz, HX18.out.recs.apart⟩, HES.out, own_mono (hne (Nat.le_refl _) HX18.out.places) hz, brow (bch HBA.out (bch HBW.out HX18.out.below)) (Nat.le_refl _) (Nat.le_refl _) _⟩
          | false =>
            go_wp2_with (first
              | (go_at_call 30; (with_reducible refine (HBG.out _).mono ?_); rintro r w1 ⟨rfl, rfl⟩)
              | (go_at_call 21; (refine (HAC.out _ (Below.refl _ _)).mono ?_); rintro r w2 ⟨p2, c2, rfl, ho2, hb2⟩; have HX2 := Lib.hid (HX.out.keep hb2); have HO2 := Lib.hid ho2; clear ho2 hb2)
              | (refine wpl_put_fr rfl (.tmp 11) (.tmp 33) rfl w2.heap.size (FO.alloc w2) k e p2 d.length c2 rfl rfl ?_; intro w3 HF3 HG3; have hb3 : Below w2.heap.size w2 w3 := below_over (balloc w2 _) HG3.out (Nat.le_refl _) (balloc w2 _).size; have HX3 := Lib.hid (HX2.out.keep hb3); have HO3 := Lib.hid (own_keep HO2.out hb3); clear hb3 HX2 HO2; have j0 := HX3.out.jn.cells.1)
              | (refine wpl_load_ko rfl (.tmp 8) rfl rfl HX3.out.jn ?_)
              | (refine wpl_load_fr (by rfl) (.tmp 11) rfl rfl HF3.out ?_)
              | (go_at_call 31; (refine (HFD.out _ _ p2 c2 HX3.out.row (RI.own HO3.out)).mono ?_); rintro r w6 ⟨u, v6, rfl, oh6, ou6, hb6⟩; obtain ⟨ua, uc, rfl⟩ := own_form ou6; obtain ⟨qa, qc, rfl⟩ := own_form oh6; have HOH := Lib.hid (own_mono oh6 HX3.out.below.size); have HOU := Lib.hid (own_mono ou6 HX3.out.below.size); have HX6 := Lib.hid (HX3.out.keep hb6); clear oh6 ou6 hb6 HX3)
              | (refine wpList_store_row rfl 84 _ _ rfl w6.heap.size (kA g6 (.slice qa h6.length qc)) rfl rfl _ _ (heap_alloc_last w6 _) (kj_info _ _) rfl (kj_one _ _ _ _) ?_; obtain ⟨w7, hw7⟩ : ∃ q, World.setRow (w6.alloc (.cells (kA false (.slice none 0 0)) 84)) w6.heap.size (kA g6 (.slice qa h6.length qc)) = q := ⟨_, rfl⟩; rw [hw7]; have HK7 : Hid (KO w7 w6.heap.size g6 (.slice qa h6.length qc)) := Lib.hid (hw7 ▸ setRow_heap _ _ _ _ _ _ (heap_alloc_last w6 _)); have hb7 : Below w6.heap.size w6 w7 := hw7 ▸ bnew _ _ _; have HX7 := Lib.hid (HX6.out.keep hb7); have HOH7 := Lib.hid (own_keep HOH.out hb7); have HOU7 := Lib.hid (own_keep HOU.out hb7); clear hw7 hb7 HX6 HOH HOU; obtain ⟨_, _, z2, z3⟩ := HX7.out.cells; have f3 := HX7.out.frozen 3; obtain ⟨w4, hw4⟩ : ∃ q, w7.setCell ⟨rb, 3, none⟩ (.int .i64 2) = q := ⟨_, rfl⟩; have HX4 := Lib.hid (show RX _ w4 _ _ _ _ _ _ _ _ _ _ _ from by rw [← hw4]; exact HX7.out.set3 2); have y2 := HX4.out.cells.2.2.1; clear HX7)
              | (go_at_call 32; (refine (HRE.out _ (HFS.out.keep (bch HBW.out HX4.out.below))).mono ?_); rintro r w16 ⟨rfl, hb⟩; have HX16 := Lib.hid (HX4.out.keep hb); have z316 := HX16.out.cells.2.2.2; have f316 := HX16.out.frozen 3; clear hb; have HX18 := HX16)
              | (refine wpList_load_row rfl 56 (.tmp 7) rfl rb rfl _ (uA (.slice ra es.length rc) (.slice pa places.length pc) fin 2) (0, 0) _ HX18.out.blk Tryd.underlying56 rfl (ut_info _ rfl) ?_)
              | (refine wpList_store_row rfl 56 _ _ rfl w.heap.size (uA (.slice ra es.length rc) (.slice pa places.length pc) fin 2) rfl rfl _ _ (((bch HBW.out HX18.out.below).block _ HWA.out).trans HRA.out) (ut_info _ rfl) rfl (ut_one _ _ _ _ _ _ _ _) ?_))
            refine bodyPost_ret_by (v := .agg (uA (.slice ra es.length rc) (.slice pa places.length pc) fin 2)) (results_cell_row rfl _ _ w.heap.size _ (uA (.slice ra es.length rc) (.slice pa places.length pc) fin 2) (0, 0) _ rfl (setRow_heap _ _ _ _ _ _ (((bch HBW.out HX18.out.below).block _ HWA.out).trans HRA.out)) Tryd.underlying56 rfl (ut_info _ rfl)) rfl ?_
            have hz : w.heap.size ≤ W.heap.size := Nat.le_trans (Nat.le_of_lt HWA.out) HBW.out.size
            have hne : ∀ {base n q : Nat} {t : TypeId} {u : Value} {xs : List Value}, W.heap.size ≤ base → w16.ownsRow base t q u n xs → (w16.setRow w.heap.size (uA (.slice ra es.length rc) (.slice pa places.length pc) fin 2)).ownsRow base t q u n xs := fun hbs ho =>
              own_over ho (grn_row w16 w.heap.size _) (fun g hg x => by have h1 := (ho.lt g hg).1; have h2 := HBW.out.size; have h3 := HWA.out; have h4 := Option.some.inj x; omega)
            have HSTQ := HSTP.out
            rw [← HSTQ]
            exact ⟨_, _, es, by show _ = Ending.returned (.agg (uA _ _ (fin : Nat) (scKind n fs fin))); rw [HKD.out]; rfl, ⟨own_mono (hne (Nat.le_refl _) HX18.out.recs.row) hz, fun x hx => own_mono (hne (Nat.le_refl _) (HX18.out.recs.data x hx)) hz, HX18.out.recs.apart⟩, HES.out, own_mono (hne (Nat.le_refl _) HX18.out.places) hz, brow (bch HBA.out (bch HBW.out HX18.out.below)) (Nat.le_refl _) (Nat.le_refl _) _⟩
end Go.Proofs.YtepaghohojomeaaDoor
/-
  LAYER 20 (tear), plain mathematics: sectors of which at most four bytes next to one another aren't the intended ones, none of them one of a fragment's length: each intended fragment is told, or none. No condition.
-/
namespace Go.Proofs.YtepaghohojomeaaDoor
open Go.RowKit
theorem fragD_pre {zs : List Int} {ep : Int} (h : (fragD zs ep).2.2 = 0) : (fragD (zs.take (11 + (num zs 4 2).toNat)) ep).2.2 = 0 := by
  obtain ⟨h1, h2, h3, h4, h5⟩ := fragD_parts h
  have h6 : ¬ zs.take 11 = List.replicate 11 0 := fun e => by
    rw [fragD_none (by omega) e] at h; exact absurd h (by decide)
  obtain ⟨q, hq⟩ : ∃ q, 11 + (num zs 4 2).toNat = q := ⟨_, rfl⟩
  have n4 : num (zs.take q) 4 2 = num zs 4 2 := num_take _ _ _ _ (by omega)
  have n6 : num (zs.take q) 6 1 = num zs 6 1 := num_take _ _ _ _ (by omega)
  have n7 : num (zs.take q) 7 4 = num zs 7 4 := num_take _ _ _ _ (by omega)
  have n0 : num (zs.take q) 0 4 = num zs 0 4 := num_take _ _ _ _ (by omega)
  have hl : (zs.take q).length = q := by rw [List.length_take]; omega
  rw [hq]
  rw [hq] at h5
  rw [fragD_ok (zs := zs.take q) (by omega) (by rw [List.take_take, Nat.min_eq_left (by omega)]; exact h6) (by rw [n6, n4]; exact h2) (by rw [n7]; exact h3) (by rw [n4, hl]; omega) (by rw [n0, n4, hq, List.take_take, Nat.min_self]; exact h5)]
/-- two bytes tell a fragment's length -/
theorem scD_len {B : List Int} {p : Nat} (hB : B.length = 832) {k ep : Int} {d : List Int} (hk : fragOk k d.length = true) (he : 0 ≤ ep ∧ ep < 4294967296) (hs : p + (11 + d.length) ≤ 832) (hl : 11 + d.length ≤ leftN p) (h4 : B.getD (p + 4) 0 = (fragB k ep d).getD 4 0) (h5 : B.getD (p + 5) 0 = (fragB k ep d).getD 5 0) (h0 : (scD ep B p).2.2 = 0) :
    num (bSl B p) 4 2 = d.length ∧ (scD ep B p).2.1 = 11 + d.length := by
  have hlen := fragB_length k ep d
  have hbl := bSl_length hB (show p ≤ 832 by omega)
  have hn := (frag_nums k ep d [] (by have := (fok_parts hk).2.2; omega) he).2.1
  rw [List.append_nil] at hn
  have h42 : num (bSl B p) 4 2 = d.length := by
    rw [num_two, bSl_get 4 (by omega), bSl_get (4 + 1) (by omega), h4, show p + (4 + 1) = p + 5 from rfl, h5, ← num_two (fragB k ep d) 4, hn]
  refine ⟨h42, ?_⟩
  unfold scD at h0 ⊢
  obtain ⟨h1, h2, h3, h4', h5'⟩ := fragD_parts h0
  have h6 : ¬ (bSl B p).take 11 = List.replicate 11 0 := fun e => by
    rw [fragD_none (by omega) e] at h0; exact absurd h0 (by decide)
  rw [fragD_ok (by omega) h6 h2 h3 (by omega) h5', h42]
  show 11 + ((d.length : Nat) : Int).toNat = _
  rw [Int.toNat_natCast]
theorem list_ext (a b : List Int) (hl : a.length = b.length) (h : ∀ j, j < b.length → a.getD j 0 = b.getD j 0) : a = b := by
  refine List.ext_getElem hl fun j h1 h2 => ?_
  have := h j h2
  simpa [List.getD, h1, h2] using this
/-- bytes that are a fragment's but for a burst which leaves the length's bytes as they are -/
theorem frag_near {k ep : Int} {d : List Int} (hk : fragOk k d.length = true) (he : 0 ≤ ep ∧ ep < 4294967296) (hd : isB d) {z : List Int} (hz : isB z) (hzl : z.length = 11 + d.length) (f l : Int) (h4 : l ≤ f + 3)
    (hlen : (l < 4 ∨ 4 < f) ∧ (l < 5 ∨ 5 < f)) (hat : ∀ j : Nat, j < 11 + d.length → ((j : Int) < f ∨ l < (j : Int)) → z.getD j 0 = (fragB k ep d).getD j 0) (h0 : (fragD z ep).2.2 = 0) : z = fragB k ep d := by
  have hbl := fragB_length k ep d
  have hp := fok_parts hk
  by_cases hA : l < 4
  · obtain ⟨h1, h2, h3, h5, h6⟩ := fragD_parts h0
    have hn := (frag_nums k ep d [] (by omega) he).2.1
    rw [List.append_nil] at hn
    have h42 : num z 4 2 = d.length := by
      rw [num_two, hat 4 (by omega) (.inr (by omega)), hat (4 + 1) (by omega) (.inr (by omega)), ← num_two, hn]
    rw [h42, Int.toNat_natCast, List.take_of_length_le (by omega)] at h6
    have hdr : z.drop 4 = fragT k ep d := by
      have h7 : (fragB k ep d).drop 4 = fragT k ep d := by unfold fragB; rw [List.drop_left' (by rw [putL_length])]
      rw [← h7]
      refine list_ext _ _ (by rw [List.length_drop, List.length_drop]; omega) fun j hj => ?_
      rw [List.length_drop] at hj
      simp only [List.getD, List.getElem?_drop]
      exact hat (4 + j) (by omega) (.inr (by omega))
    rw [hdr] at h6
    have htk : putL (fragS k ep d) 4 = z.take 4 := by
      have h8 := num_put hz 0 4 (by omega)
      rw [List.drop_zero, h6] at h8
      exact h8
    rw [← List.take_append_drop 4 z, hdr, ← htk]
    rfl
  · by_cases hB : l < 6 ∨ ((11 + d.length : Nat) : Int) ≤ f
    · exact list_ext _ _ (by omega) fun j hj => hat j (by omega) (by omega)
    · obtain ⟨s, hs⟩ : ∃ s : Nat, (s : Int) = max f 6 := ⟨(max f 6).toNat, by omega⟩
      obtain ⟨t, ht⟩ : ∃ t : Nat, t = min (l + 1).toNat (11 + d.length) - s := ⟨_, rfl⟩
      have hst : s + t ≤ 11 + d.length := by omega
      have hdl : (z.drop s).length = 11 + d.length - s := by rw [List.length_drop]; omega
      have hsp := pat_split (fragB k ep d) (z.drop s) s t (by omega) (by omega)
      have hzp : z = pat (fragB k ep d) (z.drop s) s t := by
        rw [hsp]
        refine list_ext _ _ (by simp only [List.length_append, List.length_take, List.length_drop]; omega) fun j hj => ?_
        simp only [List.length_append, List.length_take, List.length_drop] at hj
        by_cases h1 : j < s
        · rw [getD_app_l _ _ _ (by rw [List.length_take]; omega), hat j (by omega) (by omega)]
          simp only [List.getD, List.getElem?_take, h1, if_true]
        · have hts : ((fragB k ep d).take s).length = s := by rw [List.length_take]; omega
          rw [getD_app_r _ _ _ (by omega), hts]
          have htt : ((z.drop s).take t).length = t := by rw [List.length_take]; omega
          by_cases h2 : j - s < t
          · rw [getD_app_l _ _ _ (by omega)]
            simp only [List.getD, List.getElem?_take, h2, if_true, List.getElem?_drop, show s + (j - s) = j from by omega]
          · rw [getD_app_r _ _ _ (by omega), htt, hat j (by omega) (by omega)]
            simp only [List.getD, List.getElem?_drop, show s + t + (j - s - t) = j from by omega]
      rw [hzp] at h0 ⊢
      exact frag_burst hk he hd (z.drop s) (hz.drop s) s t (by omega) hst (by omega) (by omega) h0
/-- sectors of which the T-th one is the new one but for a burst (f to l of its 64 bytes), and each other one the new one or the old one, which ends at e -/
structure Near (B : List Int) (K : List Bool) (body : List Int) (e T : Nat) (f l : Int) : Prop where
  len : B.length = 832
  bytes : isB B
  synced : ∀ i, i < 16 → 52 * i < e → K.getD i false = true
  low : ∀ j, j < e → B.getD j 0 = body.getD j 0
  other : ∀ i, i < 16 → i ≠ T → K.getD i false = true → (∀ r, r < 52 → B.getD (52 * i + r) 0 = body.getD (52 * i + r) 0) ∨ (52 * i < e ∧ ∀ r, r < 52 → e ≤ 52 * i + r → B.getD (52 * i + r) 0 = 0)
  torn : T < 16 → K.getD T false = true → ∀ r : Nat, r < 52 → ((r : Int) + 12 < f ∨ l < (r : Int) + 12) → B.getD (52 * T + r) 0 = body.getD (52 * T + r) 0
  four : l ≤ f + 3
theorem Near.frag {B body : List Int} {K : List Bool} {e T : Nat} {f l : Int} (M : Near B K body e T f l) {k ep : Int} {d : List Int} (hk : fragOk k d.length = true) (he : 0 ≤ ep ∧ ep < 4294967296) (hd : isB d) {p : Nat} (hp : p % 52 ≤ 41) (hs : p + (11 + d.length) ≤ 832) (hl : 11 + d.length ≤ leftN p)
    (hat : ∀ j, j < 11 + d.length → body.getD (p + j) 0 = (fragB k ep d).getD j 0)
    (hlen : p / 52 = T → ((p : Int) + 4 - 52 * T + 12 < f ∨ l < (p : Int) + 4 - 52 * T + 12) ∧ ((p : Int) + 5 - 52 * T + 12 < f ∨ l < (p : Int) + 5 - 52 * T + 12)) (hE : p + (11 + d.length) ≤ e ∨ e ≤ p) :
    scF ep B K p = (⟨k, ep, d⟩, 11 + d.length) ∨ (scF ep B K p).2 = 0 := by
  rcases hE with hE | hE
  · exact .inl (scF_same M.len hk he hs hl ((covat_iff K p _ (by omega) hs).2 fun i h1 h2 => M.synced i (by omega) (by omega)) fun j hj => (M.low _ (by omega)).trans (hat j hj))
  · by_cases h0 : (scF ep B K p).2 = 0
    · exact .inr h0
    · left
      obtain ⟨h8, h11, h3, hcv, hfe⟩ := scF_some h0
      have hK := (covat_iff K p (p + 11) (by omega) (by omega)).1 h11 (p / 52) (Nat.le_refl _) (by omega)
      have hdv : ∀ j, j < 11 → 52 * (p / 52) + (p % 52 + j) = p + j := fun j _ => by omega
      have hnew : p / 52 ≠ T → ∀ r, r < 52 → B.getD (52 * (p / 52) + r) 0 = body.getD (52 * (p / 52) + r) 0 := fun hT => by
        rcases M.other (p / 52) (by omega) hT hK with h | ⟨_, h⟩
        · exact h
        · exact absurd h3 (scD_zero M.len (by omega) (by omega) fun j hj => by
            have := h (p % 52 + j) (by omega) (by rw [hdv j hj]; omega)
            rwa [hdv j hj] at this)
      have h45 : B.getD (p + 4) 0 = (fragB k ep d).getD 4 0 ∧ B.getD (p + 5) 0 = (fragB k ep d).getD 5 0 := by
        rw [← hat 4 (by omega), ← hat 5 (by omega), ← hdv 4 (by omega), ← hdv 5 (by omega)]
        by_cases hT : p / 52 = T
        · obtain ⟨g1, g2⟩ := hlen hT
          subst hT
          exact ⟨M.torn (by omega) hK _ (by omega) (by omega), M.torn (by omega) hK _ (by omega) (by omega)⟩
        · exact ⟨hnew hT _ (by omega), hnew hT _ (by omega)⟩
      obtain ⟨h42, hsz⟩ := scD_len M.len hk he hs hl h45.1 h45.2 h3
      rw [hsz] at hcv
      have hKc := (covat_iff K p _ (by omega) hs).1 hcv
      have hby : ∀ j : Nat, j < 11 + d.length → ((j : Int) < max f 12 + 52 * T - 12 - p ∨ min l 63 + 52 * T - 12 - p < (j : Int)) → B.getD (p + j) 0 = body.getD (p + j) 0 := fun j hj hb => by
        have hKj := hKc ((p + j) / 52) (by omega) (by omega)
        have hd2 : 52 * ((p + j) / 52) + (p + j) % 52 = p + j := by omega
        by_cases hT : (p + j) / 52 = T
        · have := M.torn (by omega) (by rw [← hT]; exact hKj) ((p + j) % 52) (by omega) (by omega)
          rwa [← hT, hd2] at this
        · by_cases hsame : (p + j) / 52 = p / 52
          · have := hnew (by omega) ((p + j) % 52) (by omega)
            rwa [← hsame, hd2] at this
          · rcases M.other ((p + j) / 52) (by omega) hT hKj with h | ⟨h, _⟩
            · have := h ((p + j) % 52) (by omega)
              rwa [hd2] at this
            · omega
      have hbl := bSl_length M.len (show p ≤ 832 by omega)
      have hz0 : (fragD ((bSl B p).take (11 + d.length)) ep).2.2 = 0 := by
        have := fragD_pre (zs := bSl B p) h3
        rwa [h42, Int.toNat_natCast] at this
      have hzg : ∀ j, j < 11 + d.length → ((bSl B p).take (11 + d.length)).getD j 0 = B.getD (p + j) 0 := fun j hj => by
        rw [← bSl_get j (by omega)]
        simp only [List.getD, List.getElem?_take, hj, if_true]
      have hf4 := M.four
      have hzz := frag_near hk he hd (z := (bSl B p).take (11 + d.length)) (((M.bytes.drop p).take _).take _) (by rw [List.length_take]; omega) (max f 12 + 52 * T - 12 - p) (min l 63 + 52 * T - 12 - p) (by omega)
        (by
          by_cases hT : p / 52 = T
          · have := hlen hT
            omega
          · omega)
        (fun j hj hb => by rw [hzg j hj, hby j hj hb]; exact hat j hj) hz0
      exact scF_same M.len hk he hs hl hcv fun j hj => by rw [← hzg j hj, hzz]
/-- the places of the lengths' bytes, of pieces -/
def lenR (ps : List PC) : List Int := ps.flatMap fun c => [c.at_ + 4, c.at_ + 5]
/-- .. of the first k records -/
noncomputable def lenF (ls : List (List Int)) : Nat → List Int
  | 0 => []
  | k + 1 => lenF ls k ++ lenR (pcsI ((endF (ls.take k) : Nat) : Int) (ls.getD k []).length)
theorem lenR_snoc (ps : List PC) (c : PC) : lenR (ps ++ [c]) = lenR ps ++ [c.at_ + 4, c.at_ + 5] := by simp [lenR]
theorem lenR_next {ps : List PC} {c : PC} {i : Nat} (hi : ps[i]? = some c) : lenR (ps.take (i + 1)) = lenR (ps.take i) ++ [c.at_ + 4, c.at_ + 5] := by
  rw [pcs_take hi, lenR_snoc]
theorem lenR_len : ∀ ps : List PC, (lenR ps).length = 2 * ps.length
  | [] => rfl
  | c :: ps => by
    have := lenR_len ps
    unfold lenR at this ⊢
    rw [List.flatMap_cons, List.length_append, this]
    simp only [List.length_cons, List.length_nil]
    omega
theorem lenF_len (ls : List (List Int)) : ∀ k, (lenF ls k).length ≤ 150 * k
  | 0 => by simp [lenF]
  | k + 1 => by
    have h1 := lenF_len ls k
    have h3 := pcs_len ((endF (ls.take k) : Nat) : Int) (ls.getD k []).length
    rw [lenF, List.length_append, lenR_len]; omega
theorem lenR_mem {a m : Nat} {zs : List Int} (h : Laid a zs m) {i : Nat} (hi : i < m) : ((bS a zs.length i : Nat) : Int) + 4 ∈ lenR (pcsI (a : Int) zs.length) ∧ ((bS a zs.length i : Nat) : Int) + 5 ∈ lenR (pcsI (a : Int) zs.length) := by
  rw [h.pcs]
  unfold lenR
  have hm := List.mem_of_getElem? (firstP_get a zs.length m i hi)
  exact ⟨List.mem_flatMap.2 ⟨_, hm, by simp [pcS]⟩, List.mem_flatMap.2 ⟨_, hm, by simp [pcS]⟩⟩
theorem lenF_mem {ls : List (List Int)} {k : Nat} {y : Int} (hy : y ∈ lenR (pcsI ((endF (ls.take k) : Nat) : Int) (ls.getD k []).length)) : ∀ t, k < t → y ∈ lenF ls t
  | 0, h => absurd h (by omega)
  | t + 1, h => by
    rw [lenF, List.mem_append]
    by_cases hk : k = t
    · subst hk; exact .inr hy
    · exact .inl (lenF_mem hy t (by omega))
/-- near sectors are free of collisions -/
theorem Near.free {B : List Int} {K : List Bool} {ep : Int} (he : 0 ≤ ep ∧ ep < 4294967296) {ls : List (List Int)} (hg : GoodF ls ls.length) (hlb : ∀ l ∈ ls, isB l) {n : Nat} (hn : n ≤ ls.length) {T : Nat} {f l : Int} (M : Near B K (bodyF ep ls) (endF (ls.take n)) T f l)
    (hL : ∀ y ∈ lenF ls ls.length, ¬ (y / 52 = T ∧ f ≤ y - 52 * T + 12 ∧ y - 52 * T + 12 ≤ l)) : clF ep B K ls ls.length = [] := by
  refine (clF_iff hg M.len ls.length (Nat.le_refl _)).2 fun k hk m h i hi => ?_
  obtain ⟨hok, hsz, h8, hl, h41⟩ := frag_parts (ep := ep) h hi
  obtain ⟨m4, m5⟩ := lenR_mem h hi
  have m4 := hL _ (lenF_mem m4 ls.length hk)
  have m5 := hL _ (lenF_mem m5 ls.length hk)
  have hd : isB (frI ep (endF (ls.take k)) (ls.getD k []) i).data := by
    have : isB (ls.getD k []) := hlb _ (by simp [List.getD, hk])
    exact (this.drop _).take _
  have hEE : bS (endF (ls.take k)) (ls.getD k []).length i + (11 + (frI ep (endF (ls.take k)) (ls.getD k []) i).data.length) ≤ endF (ls.take n) ∨ endF (ls.take n) ≤ bS (endF (ls.take k)) (ls.getD k []).length i := by
    by_cases hkn : k < n
    · have := low_end hg hn hkn h hi
      exact .inl (by omega)
    · exact .inr (high_begin hg (by omega) hk h hi)
  have := M.frag (k := (frI ep (endF (ls.take k)) (ls.getD k []) i).kind) (d := (frI ep (endF (ls.take k)) (ls.getD k []) i).data) hok he hd h41 h8 hl (fun j hj => body_at hg ep hk h hi j (by omega)) (fun hT => by omega) hEE
  rw [hsz]
  exact this
/-- behind a crash -/
theorem near_crash {x : Int} (hx : U64 x) (h0 : x ≠ 0) {ls : List (List Int)} (hg : GoodF ls ls.length) (n : Nat) (hn : n ≤ ls.length) (kb : List Int) (torn cut : Int) (fs ns : List Int) (hbf : isB fs)
    (hns : wholeK x (bodyF (x % 4294967296) ls) (touchN 0 (endF ls)).2 16 = ns)
    (hfs : applyN kb torn cut (wholeK x (bodyF (x % 4294967296) (ls.take n)) (touchN 0 (endF (ls.take n))).2 16) ns 16 = fs)
    (T : Nat) (hT : ∀ i : Nat, i < 16 → (i : Int) = torn → i = T) (f l : Int) (h4 : l ≤ f + 3) (hd : T < 16 → ∀ j : Nat, j < 64 → ((j : Int) < f ∨ l < (j : Int)) → (secOf fs T).getD j 0 = (secOf ns T).getD j 0) :
    Near (flatB x 16 fs 16) (flatK x 16 fs 16) (bodyF (x % 4294967296) ls) (endF (ls.take n)) T f l := by
  have M := kept_crash (x := x) hg n hn kb torn cut
  rw [hns, hfs] at M
  have hl : ls.take ls.length = ls := List.take_length
  have n1 := laid_byte (x := x) hg ls.length (Nat.le_refl _)
  have o1 := laid_byte (x := x) hg n hn
  have o3 := whole_ok hx h0 (ls := ls) n
  rw [hl, hns] at n1
  have hos := wholeK_length x (bodyF (x % 4294967296) (ls.take n)) (touchN 0 (endF (ls.take n))).2 16
  have hnl := wholeK_length x (bodyF (x % 4294967296) ls) (touchN 0 (endF ls)).2 16
  rw [hns] at hnl
  have hout := body_end (x := x) hg
  have htl := touch_lt (endF (ls.take n))
  generalize (touchN 0 (endF (ls.take n))).2 = tn at *
  obtain ⟨os, hoe⟩ : ∃ os, wholeK x (bodyF (x % 4294967296) (ls.take n)) tn 16 = os := ⟨_, rfl⟩
  rw [hoe] at o1 o3 hos hfs
  have hal := applyN_length kb torn cut os ns 16 16 hos hnl 16 (Nat.le_refl _) (Nat.le_refl _)
  have hmx := leaves_mix kb torn cut os ns hos hnl
  rw [hfs] at hal hmx
  have hby : ∀ i, i < 16 → (flatK x 16 fs 16).getD i false = true → ∀ r, r < 52 → (flatB x 16 fs 16).getD (52 * i + r) 0 = (secOf fs i).getD (12 + r) 0 := fun i hi hK r hr => by
    rw [flatK_get _ _ _ i 16 hi] at hK
    rw [flatB_get x 16 fs hal i r hr 16 hi, roomAt_true _ _ _ _ hK]
    simp only [List.getD, List.getElem?_drop]
  have hnb : ∀ i, i < 16 → ∀ r, r < 52 → (secOf ns i).getD (12 + r) 0 = (bodyF (x % 4294967296) ls).getD (52 * i + r) 0 := fun i hi r hr => by
    rw [n1 i (12 + r) hi (by omega) (by omega), show 52 * i + (12 + r - 12) = 52 * i + r from by omega]
    split
    · rfl
    · exact (hout _ (by omega)).symm
  refine ⟨M.len, flatB_isB x 16 hbf 16, M.synced, M.low, fun i hi hiT hK => ?_, fun hT16 hK r hr hb => ?_, h4⟩
  · obtain ⟨q, _, hq, hq2⟩ := hmx i hi
    rcases hq2 (fun e => hiT (hT i hi e)) with rfl | rfl
    · right
      have hse : secOf fs i = secOf os i := by
        refine sec_ext _ _ (secOf_length _ 16 i hal hi) (secOf_length _ 16 i hos hi) fun j hj => ?_
        rw [hq j, if_neg (by omega)]
      have h52 : 52 * i < endF (ls.take n) := by
        rw [flatK_get _ _ _ i 16 hi, okAt_same hse, o3 i hi] at hK
        exact of_decide_eq_true hK
      refine ⟨h52, fun r hr he => ?_⟩
      rw [hby i hi hK r hr, hse, o1 i (12 + r) hi (by omega) (by omega), if_neg (by omega)]
    · exact .inl fun r hr => by
        rw [hby i hi hK r hr, hq (12 + r), if_pos (by omega)]
        exact hnb i hi r hr
  · rw [hby T hT16 hK r hr, hd hT16 (12 + r) (by omega) (by omega)]
    exact hnb T hT16 r hr
end Go.Proofs.YtepaghohojomeaaDoor
