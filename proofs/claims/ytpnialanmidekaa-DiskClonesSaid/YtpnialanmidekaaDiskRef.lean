/-
  WHAT THE DOCUMENT'S ANSWERS OF LAYER 8 (disk) ANSWER: the reference's Used, Find, Waiting.
-/
import Derived.Test.YtpnialanmidekaaDiskAbs
namespace Go.Proofs.Ytpnialanmidekaa
open Go.RowKit
set_option maxRecDepth 8000 in
set_option maxHeartbeats 1000000 in
theorem rused_any (vd : Value) (d : AD) (w : World) (h : RD w vd d) (hu : usedN d.L ≤ 1000000000000) :
    Calls Try.prog 41 #[vd] w fun e w' => e = .returned (.int .i64 (usedN d.L : Int)) ∧ Below w.heap.size w w' := by
  obtain ⟨vl, rfl, hl⟩ := h
  obtain ⟨a, cap, rfl, hc1, hc2, _⟩ := hl.form
  obtain ⟨n, hn⟩ : ∃ n, d.L.length = n := ⟨_, rfl⟩
  obtain ⟨n, hn⟩ : ∃ n, d.L.length = n := ⟨_, rfl⟩
  obtain ⟨W0, hW0⟩ : ∃ W0, w.alloc (.cells #[.slice a d.L.length cap, .int .i64 d.cap, .int .i64 d.ops, .bool d.down, .bool d.told, .int .i64 d.after] 29) = W0 := ⟨_, rfl⟩
  have hb : Below w.heap.size w W0 := by rw [← hW0]; exact below_alloc w _
  have hc0 : W0.cell? ⟨w.heap.size, 0, none⟩ = some (.slice a d.L.length cap) := by
    rw [← hW0]; exact cell_of_row _ w.heap.size 0 _ _ _ (heap_alloc_last w _)
  have HL := Lib.hid (hl.kin (Kin.below hb))
  have HB := Lib.hid hb
  have HN := Lib.hid hn
  have HU := Lib.hid hu
  rw [hn] at HL hc0 hc1 hW0
  unfold dv
  rw [hn]
  generalize d.cap = x1 at *
  generalize d.ops = x2 at *
  generalize d.down = x3 at *
  generalize d.told = x4 at *
  generalize d.after = x5 at *
  generalize d.L = L at *
  clear hb hl hu hn
  go_enter Try.func41, Try.ntmps41
  go_wp2
  go_loop [3, 4] (fun nv iv => ∃ i : Nat, iv = .int .i64 i ∧ i ≤ n ∧ nv = .int .i64 (usedN (L.take i) : Int)) (fun _ iv => n - (intOf iv).toNat)
  case atStart => exact ⟨0, rfl, by omega, rfl⟩
  case round =>
    obtain ⟨i, rfl, hi, rfl⟩ := hrel
    by_cases hlt : (i : Int) < (n : Int)
    · obtain ⟨f, hf⟩ := row_some (L := L) (i := i) (by have := HN.out; omega)
      obtain ⟨b, off, v1, v2, v3, rfl, _, _, hcell, _, _, hf2, _⟩ := HL.out.at_ i f hf
      obtain ⟨a2, c2, rfl, _⟩ := hf2
      have hst := usedN_take L i f hf
      have hle1 := usedN_le L (i + 1)
      generalize f.n = m at *
      obtain ⟨u, hu⟩ : ∃ u, usedN (L.take i) = u := ⟨_, rfl⟩
      rw [hu] at hst ⊢
      have hle := HU.out
      have hw1 : wrap64 ((u : Int) + (m : Int)) = (u : Int) + (m : Int) := by unfold wrap64; omega
      have HST := Lib.hid hst
      clear hst hu
      go_wp2
      refine ⟨⟨i + 1, by go_num, by omega, ?_⟩, by simp [intOf]; omega⟩
      rw [HST.out, hw1]; rfl
    · have hq : i = n := by omega
      subst hq
      go_wp2
      go_ret
      refine ⟨ret_int ?_, HB.out⟩
      rw [List.take_of_length_le (Nat.le_of_eq HN.out)]
set_option maxRecDepth 8000 in
set_option maxHeartbeats 1000000 in
theorem rfind_any (vd : Value) (d : AD) (s : ByteArray) (w : World) (h : RD w vd d) :
    Calls Try.prog 63 #[vd, .string s] w fun e w' => e = .returned (.int .i64 (findI d.L s)) ∧ Below w.heap.size w w' := by
  obtain ⟨vl, rfl, hl⟩ := h
  obtain ⟨a, cap, rfl, hc1, hc2, _⟩ := hl.form
  obtain ⟨n, hn⟩ : ∃ n, d.L.length = n := ⟨_, rfl⟩
  obtain ⟨W0, hW0⟩ : ∃ W0, w.alloc (.cells #[.slice a d.L.length cap, .int .i64 d.cap, .int .i64 d.ops, .bool d.down, .bool d.told, .int .i64 d.after] 29) = W0 := ⟨_, rfl⟩
  have hb : Below w.heap.size w W0 := by rw [← hW0]; exact below_alloc w _
  have hc0 : W0.cell? ⟨w.heap.size, 0, none⟩ = some (.slice a d.L.length cap) := by
    rw [← hW0]; exact cell_of_row _ w.heap.size 0 _ _ _ (heap_alloc_last w _)
  have HL := Lib.hid (hl.kin (Kin.below hb))
  have HB := Lib.hid hb
  have HN := Lib.hid hn
  rw [hn] at HL hc0 hc1 hW0
  unfold dv
  rw [hn]
  generalize d.cap = x1 at *
  generalize d.ops = x2 at *
  generalize d.down = x3 at *
  generalize d.told = x4 at *
  generalize d.after = x5 at *
  generalize d.L = L at *
  clear hb hl hn
  go_enter Try.func63, Try.ntmps63
  go_wp2
  go_loop [5] (fun iv => ∃ i : Nat, iv = .int .i64 i ∧ i ≤ n ∧ Hid (∀ (j : Nat) (g : AF), j < i → L[j]? = some g → g.name ≠ s)) (fun iv => n - (intOf iv).toNat)
  case atStart => exact ⟨0, rfl, by omega, Lib.hid fun j g hj => absurd hj (by omega)⟩
  case round =>
    obtain ⟨i, rfl, hi, HF⟩ := hrel
    by_cases hlt : (i : Int) < (n : Int)
    · obtain ⟨f, hf⟩ := row_some (L := L) (i := i) (by have := HN.out; omega)
      obtain ⟨b, off, v1, v2, v3, rfl, hcell, _⟩ := HL.out.at_ i f hf
      have HFF := Lib.hid hf
      clear hf
      by_cases hs : f.name = s
      · have hq : (f.name.toList == s.toList) = true := by rw [eqN, hs]; simp
        have HS := Lib.hid hs
        clear hs
        go_wp2
        go_ret
        exact ⟨ret_int (findI_at L s i f HFF.out HS.out HF.out).symm, HB.out⟩
      · have hq : (f.name.toList == s.toList) = false := by rw [eqN]; simp [hs]
        have HS := Lib.hid hs
        clear hs
        go_wp2
        refine ⟨⟨i + 1, by go_num, by omega, Lib.hid fun j g hj hg => ?_⟩, by simp [intOf]; omega⟩
        by_cases hji : j < i
        · exact HF.out j g hji hg
        · have : j = i := by omega
          subst this
          rw [HFF.out] at hg
          obtain rfl := Option.some.inj hg
          exact HS.out
    · have hq : i = n := by omega
      subst hq
      go_wp2
      go_ret
      exact ⟨ret_int (findI_not L s (by rw [HN.out]; exact HF.out)).symm, HB.out⟩
/-- an op is told: what the disk is then, and the error -/
def AD.opd (d : AD) : AD := if d.told = true ∧ d.after = 0 then { d with told := false, down := true } else { d with after := if d.told then wrap64 (d.after - 1) else d.after, ops := wrap64 (d.ops + 1) }
def AD.ope (d : AD) : Int := if d.told = true ∧ d.after = 0 then 9 else 0
theorem disk_info : (Try.prog.info? 29).map (·.size) = some 6 := by kernel_rfl
theorem alloc2_last (w : World) (x y : Obj) : ((w.alloc x).alloc y).heap[w.heap.size + 1]? = some y := by
  have := heap_alloc_last (w.alloc x) y
  rwa [alloc_size] at this
theorem below2 (w : World) (x y : Obj) : Below w.heap.size w ((w.alloc x).alloc y) := chain (below_alloc w x) (below_alloc _ y)
/-- a disk in a cell -/
theorem disk_load {w : World} {g : Nat} {t : TypeId} {cs : Array Value} (hg : w.heap[g]? = some (.cells cs t (0, 0))) (h6 : cs.size = 6) : (loadVar 29 ⟨g, 0, none⟩).run Try.prog w = .ok (.agg cs) w :=
  run_loadVar_row w g t 29 cs (0, 0) _ hg Try.underlying29 rfl (by rw [h6]; exact disk_info)
/-- .. and an error -/
theorem results_row_tmp {fn : Func} {p u : Tmp} {ty : TypeId} {P : Program} (h : fn.results = #[.cell p ty, .tmp u]) (tmps : Array Value) (w : World) (g : Nat) (v : Value)
    (hp : tmps.getD p undef = .pointer (some ⟨g, 0, none⟩)) (hl : (loadVar ty ⟨g, 0, none⟩).run P w = .ok v w) :
    (results fn tmps).run P w = .ok (.tuple #[v, tmps.getD u undef]) w := by
  rw [results_cell_tmp h]
  simp only [hp, asAddr, Sem.run_pure, Result.andThen_ok, hl]
set_option maxRecDepth 8000 in
set_option maxHeartbeats 1000000 in
theorem rop_any (a : Option Addr) (n c : Nat) (d : AD) (w : World) :
    Calls Try.prog 64 #[dv (.slice a n c) d] w fun e w' => e = .returned (.tuple #[dv (.slice a n c) d.opd, .int .i64 d.ope]) ∧ Below w.heap.size w w' := by
  obtain ⟨L, x1, x2, x3, x4, x5⟩ := d
  unfold dv
  cases x4 with
  | false =>
    go_enter Try.func64, Try.ntmps64
    go_wp2
    exact bodyPost_ret_by (results_row_tmp rfl _ _ (w.heap.size + 1) _ rfl (disk_load (alloc2_last _ _ _) rfl)) rfl ⟨rfl, below2 _ _ _⟩
  | true =>
    by_cases h5 : x5 = 0
    · subst h5
      go_enter Try.func64, Try.ntmps64
      go_wp2
      exact bodyPost_ret_by (results_row_tmp rfl _ _ (w.heap.size + 1) _ rfl (disk_load (alloc2_last _ _ _) rfl)) rfl ⟨rfl, below2 _ _ _⟩
    · go_enter Try.func64, Try.ntmps64
      go_wp2
      refine bodyPost_ret_by (results_row_tmp rfl _ _ (w.heap.size + 1) _ rfl (disk_load (alloc2_last _ _ _) rfl)) rfl ⟨?_, below2 _ _ _⟩
      simp [AD.opd, AD.ope, h5]
end Go.Proofs.Ytpnialanmidekaa
