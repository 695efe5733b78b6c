/-
  WHAT THE DOCUMENT'S ANSWERS OF LAYER 8 (disk) ANSWER: the reference's with.
-/
import Derived.Test.YtpnialanmidekaaDiskWith
import Derived.Test.YtpnialanmidekaaRegion
namespace Go.Proofs.Ytpnialanmidekaa
open Go.RowKit
/-- what is laid of the first i files, f put to its place -/
def insT (L : List AF) (f : AF) (i : Nat) : List AF := if insK L f < i then L.take (insK L f) ++ f :: (L.take i).drop (insK L f) else L.take i
theorem insT_zero (L : List AF) (f : AF) : insT L f 0 = [] := by unfold insT; rw [if_neg (by omega)]; simp
theorem insT_low (L : List AF) (f : AF) (i : Nat) (g : AF) (hg : L[i]? = some g) (h : i < insK L f) : insT L f (i + 1) = insT L f i ++ [g] := by
  obtain ⟨hi, rfl⟩ := List.getElem?_eq_some_iff.1 hg
  unfold insT
  rw [if_neg (by omega), if_neg (by omega), List.take_succ_eq_append_getElem hi]
theorem insT_at (L : List AF) (f : AF) (i : Nat) (g : AF) (hg : L[i]? = some g) (h : i = insK L f) : insT L f (i + 1) = insT L f i ++ [f] ++ [g] := by
  obtain ⟨hi, rfl⟩ := List.getElem?_eq_some_iff.1 hg
  unfold insT
  rw [if_pos (by omega), if_neg (by omega), ← h, List.take_succ_eq_append_getElem hi, List.drop_append_of_le_length (by simp; omega), List.drop_of_length_le (by simp; omega)]
  simp
theorem insT_high (L : List AF) (f : AF) (i : Nat) (g : AF) (hg : L[i]? = some g) (h : insK L f < i) : insT L f (i + 1) = insT L f i ++ [g] := by
  obtain ⟨hi, rfl⟩ := List.getElem?_eq_some_iff.1 hg
  unfold insT
  rw [if_pos (by omega), if_pos h, List.take_succ_eq_append_getElem hi, List.drop_append_of_le_length (by simp; omega)]
  simp
theorem insT_all (L : List AF) (f : AF) (h : insK L f < L.length) : insT L f L.length = insF L f := by
  unfold insT insF; rw [if_pos h, List.take_length]
theorem insT_none (L : List AF) (f : AF) (h : ¬ insK L f < L.length) : insT L f L.length ++ [f] = insF L f := by
  have he : insK L f = L.length := by have := insK_le L f; omega
  unfold insT insF; rw [if_neg h, he, List.take_length, List.drop_length]
theorem insT_len (L : List AF) (f : AF) (i : Nat) : (insT L f i).length ≤ L.length + 1 := by
  unfold insT; split
  · simp; omega
  · simp; omega
theorem insK_lt (L : List AF) (f : AF) (i : Nat) (g : AF) (hg : L[i]? = some g) (h : i < insK L f) : gtN g.name f.name = false := by
  obtain ⟨hi, rfl⟩ := List.getElem?_eq_some_iff.1 hg
  have := List.not_of_lt_findIdx (p := fun g : AF => gtN g.name f.name) (xs := L) h
  simpa using this
theorem insK_eq (L : List AF) (f : AF) (i : Nat) (g : AF) (hg : L[i]? = some g) (h : i = insK L f) : gtN g.name f.name = true := by
  obtain ⟨hi, rfl⟩ := List.getElem?_eq_some_iff.1 hg
  subst h
  exact List.findIdx_getElem (p := fun g : AF => gtN g.name f.name) (xs := L) (w := hi)
/-- what the call begins with: three blocks -/
structure Bp (w : World) (cs : Array Value) (fc : Array Value) (W3 : World) : Prop where
  below : Below w.heap.size w W3
  size : W3.heap.size = w.heap.size + 3
  d0 : DB W3 w.heap.size cs
  f1 : W3.heap[w.heap.size + 1]? = some (.cells fc 82 (0, 0))
  d2 : DB W3 (w.heap.size + 2) dz
theorem Bp.start (w : World) (cs : Array Value) (h : cs.size = 6) (fc : Array Value) :
    Bp w cs fc (((w.alloc (.cells cs 29)).alloc (.cells fc 82)).alloc (.cells dz 29)) := by
  have k0 := heap_alloc_last w (.cells cs 29)
  have s0 := alloc_size w (.cells cs 29)
  have b0 := below_alloc w (.cells cs 29)
  generalize w.alloc (.cells cs 29) = w0 at *
  have k1 := heap_alloc_last w0 (.cells fc 82)
  have s1 := alloc_size w0 (.cells fc 82)
  have b1 := below_alloc w0 (.cells fc 82)
  generalize w0.alloc (.cells fc 82) = w1 at *
  have k2 := heap_alloc_last w1 (.cells dz 29)
  have s2 := alloc_size w1 (.cells dz 29)
  have b2 := below_alloc w1 (.cells dz 29)
  generalize w1.alloc (.cells dz 29) = w2 at *
  rw [s0] at k1
  rw [s1, s0] at k2
  refine ⟨chain (chain b0 b1) b2, by omega, ⟨?_, h⟩, ?_, ⟨k2, rfl⟩⟩
  · rw [b2.block _ (by omega), b1.block _ (by omega)]; exact k0
  · rw [b2.block _ (by omega)]; exact k1
/-- where the loop begins -/
structure Bq (F F1 : Nat → Bool) (w : World) (cs fc : Array Value) (e : List Value) (f : AF) (lv : Value) (L : List AF) (W : World) : Prop where
  ext : Ext F w W F1
  below : Below w.heap.size w W
  lt : w.heap.size + 3 ≤ W.heap.size
  d0 : DB W w.heap.size cs
  f1 : W.heap[w.heap.size + 1]? = some (.cells fc 82 (0, 0))
  d2 : DB W (w.heap.size + 2) dz
  rl : FLs (mask F1 W) lv L
  rf : RF (mask F1 W) e f
  foot : Foot F1 W.heap.size
  sub : ∀ k, F k = true → F1 k = true
theorem Bq.start {F F1 : Nat → Bool} {w W3 w1 : World} {cs cs' fc : Array Value} {e : List Value} {f : AF} {lv : Value} {L : List AF} (hx : Bp w cs fc W3) (he : Ext F w W3 F1) (hb : Below W3.heap.size W3 w1)
    (hl : FLs (mask F1 w1) lv L) (hrf : RF (mask F1 W3) e f) (hin : F1 w.heap.size = true) (hsub : ∀ k, F k = true → F1 k = true) (hfoot : Foot F1 W3.heap.size) (hc : cs'.size = 6) :
    Bq F F1 w cs' fc e f lv L (w1.setRow w.heap.size cs') := by
  have hs := hx.size
  have h1 : Ext F1 w1 (w1.setRow w.heap.size cs') F1 := (Ext.refl F1 w1).setRow _ hin _
  have h0 : Ext F1 W3 (w1.setRow w.heap.size cs') F1 := (Ext.below hb).trans h1
  have h2 := (hx.d0.below hb (by omega)).row hc
  have hsz : (w1.setRow w.heap.size cs').heap.size = w1.heap.size := by simp
  have hw1 := hb.size
  refine ⟨he.trans h0, below_row (chain hx.below hb) (Nat.le_refl _) _, by omega, h2, ?_, ⟨?_, rfl⟩, hl.kin h1.kin, hrf.kin h0.kin, hfoot.mono (by omega), hsub⟩
  · rw [setRow_other _ _ _ _ (by omega), hb.block _ (by omega)]; exact hx.f1
  · rw [setRow_other _ _ _ _ (by omega), hb.block _ (by omega)]; exact hx.d2.1
theorem last_below' {B : Nat} {w wr : World} (hb : Below B w wr) (g r : Nat) (hg : B ≤ g) (hr : B ≤ r) (v : Value) (cs : Array Value) : Below B w ((wr.setCell ⟨g, 0, none⟩ v).setRow r cs) :=
  have h1 : Below B w (wr.setCell ⟨g, 0, none⟩ v) := hb.setCell hg v
  below_row h1 hr cs
theorem last_heap' (wr : World) (g r : Nat) (v : Value) (cs : Array Value) (k : Nat) (hk : k ≠ g) (hk2 : k ≠ r) : ((wr.setCell ⟨g, 0, none⟩ v).setRow r cs).heap[k]? = wr.heap[k]? := by
  rw [setRow_other _ r k cs hk2, Below.heap_setCell wr ⟨g, 0, none⟩ v k (by show k ≠ g; exact hk)]
set_option maxRecDepth 8000 in
set_option maxHeartbeats 4000000 in
theorem rwith_any (F : Nat → Bool) (vd : Value) (d : AD) (a1 : Option Addr) (c1 : Nat) (a2 : Option Addr) (c2 : Nat) (a3 : Option Addr) (c3 : Nat) (f : AF) (w : World) (hF : Foot F w.heap.size) (h : RD (mask F w) vd d)
    (hf : RF (mask F w) [.string f.name, .slice a1 f.n c1, .slice a2 f.n c2, .slice a3 f.n c3] f) (hn1 : d.L.length ≤ 1000000) :
    Calls Try.prog 47 #[vd, .agg #[.string f.name, .slice a1 f.n c1, .slice a2 f.n c2, .slice a3 f.n c3]] w fun e w' => ∃ v', e = .returned v' ∧ RD (mask F w') v' (d.withF f) ∧ Below w.heap.size w w' := by
  obtain ⟨a, cap, rfl, hl, hc1, hc2, _⟩ := h.form
  obtain ⟨n, hn⟩ : ∃ n, d.L.length = n := ⟨_, rfl⟩
  have hx := Bp.start w #[.slice a n cap, .int .i64 d.cap, .int .i64 d.ops, .bool d.down, .bool d.told, .int .i64 d.after] rfl #[.string f.name, .slice a1 f.n c1, .slice a2 f.n c2, .slice a3 f.n c3]
  obtain ⟨W3, hW3⟩ : ∃ W3, ((w.alloc (.cells #[.slice a n cap, .int .i64 d.cap, .int .i64 d.ops, .bool d.down, .bool d.told, .int .i64 d.after] 29)).alloc (.cells #[.string f.name, .slice a1 f.n c1, .slice a2 f.n c2, .slice a3 f.n c3] 82)).alloc (.cells dz 29) = W3 := ⟨_, rfl⟩
  rw [hW3] at hx
  have hext : Ext F w W3 (plusF F w.heap.size W3.heap.size) := plusF_ext hx.below
  have HE := Lib.hid hext
  have HFF := Lib.hid (plusF_foot hF (hx.below.size))
  have HRD := Lib.hid (h.kin hext.kin)
  have HRF := Lib.hid (hf.kin hext.kin)
  have hin0 := plusF_in F w.heap.size W3.heap.size w.heap.size (Nat.le_refl _) (by rw [hx.size]; omega)
  have hin2 := plusF_in F w.heap.size W3.heap.size (w.heap.size + 2) (by omega) (by rw [hx.size]; omega)
  have HX := Lib.hid hx
  have HF := Lib.hid hF
  obtain ⟨F1, hF1⟩ : ∃ F1, plusF F w.heap.size W3.heap.size = F1 := ⟨_, rfl⟩
  have HB1 : Hid (∀ k, w.heap.size ≤ k → k < W3.heap.size → F1 k = true) := Lib.hid fun k h1 h2 => by rw [← hF1]; exact plusF_in F _ _ k h1 h2
  have HM1 : Hid (∀ k, F k = true → F1 k = true) := Lib.hid fun k h1 => by rw [← hF1]; exact plusF_mono F _ _ k h1
  rw [hF1] at HE HFF HRD HRF hin0 hin2
  have HIN := Lib.hid (And.intro hin0 hin2)
  clear hin0 hin2
  have kn : W3.cell? ⟨w.heap.size + 1, 0, none⟩ = some (.string f.name) := by rw [cell_of_row _ _ 0 _ _ _ hx.f1]; rfl
  unfold dv at HRD ⊢
  rw [hn] at HRD hl hc1 ⊢
  rw [show dz = #[.slice none 0 0, .int .i64 0, .int .i64 0, .bool false, .bool false, .int .i64 0] from rfl] at hW3
  clear h hl hx hF hf hext hF1
  go_enter Try.func47, Try.ntmps47
  go_wp2_with (first
    | (refine wpList_load_row rfl 29 _ rfl w.heap.size rfl _ _ (0, 0) _ HX.out.d0.1 Try.underlying29 rfl HX.out.d0.info ?_)
    | (go_at_call 65; (refine (rwithout_any F1 _ d f.name _ HFF.out HRD.out hn1).mono ?_); rintro e w1 ⟨v1, rfl, hrd, hb⟩; obtain ⟨a', cap', rfl, hl', hcc, hcc2, hcc3⟩ := hrd.form; have HB := Lib.hid hb; have HL1 := Lib.hid hl'; obtain ⟨n', hn'⟩ : ∃ n', (d.without f.name).L.length = n' := ⟨_, rfl⟩; rw [hn'] at HL1 hcc; unfold dv; rw [hn']; have HN' := Lib.hid hn'; clear hb hl' hrd hn')
    | (refine wpList_store_row rfl 29 _ _ rfl w.heap.size #[.slice a' n' cap', .int .i64 d.cap, .int .i64 d.ops, .bool d.down, .bool d.told, .int .i64 d.after] rfl rfl _ _ (HX.out.d0.below HB.out (by rw [HX.out.size]; omega)).1 disk_info (by rfl) (by simp [Value.oneCell']) ?_; generalize hW4 : w1.setRow w.heap.size _ = W4))
  have HQ : Hid (Bq F F1 w #[.slice a' n' cap', .int .i64 d.cap, .int .i64 d.ops, .bool d.down, .bool d.told, .int .i64 d.after] #[.string f.name, .slice a1 f.n c1, .slice a2 f.n c2, .slice a3 f.n c3] [.string f.name, .slice a1 f.n c1, .slice a2 f.n c2, .slice a3 f.n c3] f (.slice a' n' cap') (withoutF d.L f.name) W4) := by
    rw [← hW4]
    exact Bq.start HX.out HE.out HB.out HL1.out HRF.out (HB1.out _ (Nat.le_refl _) (by rw [HX.out.size]; omega)) HM1.out HFF.out rfl
  have hn1' : n' ≤ 1000000 := by have h1 := HN'.out; have h2 := withoutF_len d.L f.name; unfold AD.without at h1; dsimp only at h1; omega
  have HN2 := Lib.hid (show (withoutF d.L f.name).length = n' from HN'.out)
  obtain ⟨L, hL⟩ : ∃ L, withoutF d.L f.name = L := ⟨_, rfl⟩
  rw [hL] at HQ HN2
  have HLE := Lib.hid hL
  clear HX HE HB HL1 HRF HB1 HM1 HFF HRD HN' hW4 hn hc1 hc2 hn1 hL
  obtain ⟨K, hK⟩ : ∃ K, insK L f = K := ⟨_, rfl⟩
  have HK := Lib.hid hK
  clear hK
  go_loopw [5, 6, 7] (fun lv pv iv wr => ∃ (i m : Nat) (es : List (List Value)), iv = .int .i64 i ∧ i ≤ n' ∧ pv = .bool (decide (K < i)) ∧ (insT L f i).length = m ∧ Hid (wr.ownsRow W4.heap.size 82 4 lv m es.flatten) ∧ Hid (RFs (mask F1 W4) es (insT L f i)) ∧ Hid (Below W4.heap.size W4 wr)) (fun _ _ iv _ => n' - (intOf iv).toNat)
  case atStart => exact ⟨0, 0, [], rfl, by omega, by simp, by rw [insT_zero]; rfl, Lib.hid (World.ownsRow_nil _ _ _ _), by rw [insT_zero]; exact Lib.hid (RFs.nil _), Lib.hid (Below.refl _ _)⟩
  case round =>
    obtain ⟨i, m, es, rfl, hi, rfl, hm, HO, HR, HB⟩ := hrel
    have hcw : wr.cell? ⟨w.heap.size, 0, none⟩ = some (.slice a' n' cap') := by
      have := (HQ.out.d0.below HB.out (by have := HQ.out.lt; omega)).cell 0
      simpa using this
    have HM := Lib.hid hm
    have hml : m ≤ 1000001 := by have := insT_len L f i; have := HN2.out; omega
    clear hm
    by_cases hlt : (i : Int) < (n' : Int)
    · obtain ⟨g, hg⟩ := row_some (L := L) (i := i) (by have := HN2.out; omega)
      obtain ⟨b, off, a4, c4, a5, c5, a6, c6, rfl, k0, k1, k2, k3, f1, f2, f3⟩ := HQ.out.rl.form4 i g hg
      have hk : Kin (mask F1 W4) wr := (unmask F1 W4).trans (Kin.below HB.out)
      have HCELL : Hid (∀ w3, Below W4.heap.size W4 w3 → w3.cell? ⟨w.heap.size, 0, none⟩ = some (.slice (some ⟨b, off, none⟩) n' cap') ∧ w3.cell? ⟨b, off + i * 4, none⟩ = some (.string g.name) ∧ w3.cell? ⟨b, off + i * 4 + 1, none⟩ = some (.slice a4 g.n c4) ∧ w3.cell? ⟨b, off + i * 4 + 2, none⟩ = some (.slice a5 g.n c5) ∧ w3.cell? ⟨b, off + i * 4 + 3, none⟩ = some (.slice a6 g.n c6)) := Lib.hid fun w3 hb3 => by
        have hk3 : Kin (mask F1 W4) w3 := (unmask F1 W4).trans (Kin.below hb3)
        have h0 := (HQ.out.d0.below hb3 (by have := HQ.out.lt; omega)).cell 0
        exact ⟨by simpa using h0, hk3 _ _ k0, hk3 _ _ k1, hk3 _ _ k2, hk3 _ _ k3⟩
      replace k0 := hk _ _ k0
      replace k1 := hk _ _ k1
      replace k2 := hk _ _ k2
      replace k3 := hk _ _ k3
      have HRG : Hid (RF (mask F1 W4) [.string g.name, .slice a4 g.n c4, .slice a5 g.n c5, .slice a6 g.n c6] g) := Lib.hid ⟨_, _, _, rfl, f1, f2, f3⟩
      have HG := Lib.hid hg
      clear hk f1 f2 f3 hg
      have HFC : ∀ (j : Nat) (v : Value), #[.string f.name, .slice a1 f.n c1, .slice a2 f.n c2, .slice a3 f.n c3][j]? = some v → wr.cell? ⟨w.heap.size + 1, j, none⟩ = some v := fun j v hv => by
        have h1 : wr.heap[w.heap.size + 1]? = _ := (HB.out.block _ (by have := HQ.out.lt; omega)).trans HQ.out.f1
        rw [cell_of_row _ _ j _ _ _ h1]; exact hv
      by_cases hK1 : K < i
      · rw [decide_eq_true hK1]
        have HST := Lib.hid (insT_high L f i g HG.out (by rw [HK.out]; exact hK1))
        have HP := Lib.hid (show decide (K < i + 1) = true from decide_eq_true (by omega))
        clear hK1 HFC
        go_wp2
        refine wp_region_held_drew (S := (fun w' => w' = wr.drew)) (by kernel_rfl) rfl (fun hS => ?_)
        refine wpAnyH_take (i := 0) (oi := ({ dst := some 19, op := Op.move (Operand.tmp 6), type := 4, pos := "ref.go:91", after := #[], guard := none } : Oper)) (v := ?_) rfl (by kernel_rfl) (by kernel_rfl) (by kernel_rfl) (fun _ _ _ h => h) (Or.inl ⟨by rfl, ?_⟩) hS ?_
        rotate_left
        · (intro w hSw; (try dsimp only at hSw); go_simp; try with_reducible rfl)
        (try simp only [Act.put, List.setIfInBounds_toArray, List.set_cons_zero, List.set_cons_succ])
        refine wpAnyH_take (i := 1) (oi := ({ dst := some 20, op := Op.unOp UnOp.not 4 (Operand.tmp 19), type := 4, pos := "ref.go:91", after := #[{ on := 0, ground := Ground.data }], guard := none } : Oper)) (v := ?_) rfl (by kernel_rfl) (by kernel_rfl) (by kernel_rfl) (fun _ _ _ h => h) (Or.inl ⟨by rfl, ?_⟩) hS ?_
        rotate_left
        · (intro w hSw; (try dsimp only at hSw); go_simp; try with_reducible rfl)
        (try simp only [Act.put, List.setIfInBounds_toArray, List.set_cons_zero, List.set_cons_succ])
        refine wpAnyH_take (i := 2) (oi := ({ dst := some 21, op := Op.move (Operand.tmp 20), type := 4, pos := "ref.go:91", after := #[{ on := 1, ground := Ground.data }], guard := none } : Oper)) (v := ?_) rfl (by kernel_rfl) (by kernel_rfl) (by kernel_rfl) (fun _ _ _ h => h) (Or.inl ⟨by rfl, ?_⟩) hS ?_
        rotate_left
        · (intro w hSw; (try dsimp only at hSw); go_simp; try with_reducible rfl)
        (try simp only [Act.put, List.setIfInBounds_toArray, List.set_cons_zero, List.set_cons_succ])
        refine wpAnyH_take (i := 3) (oi := ({ dst := some 22, op := Op.fieldAddr 29 (Operand.tmp 2) 0, type := 0, pos := "ref.go:91", after := #[{ on := 2, ground := Ground.guard }], guard := some (2, true) } : Oper)) (v := undef) rfl (by kernel_rfl) (by kernel_rfl) (by kernel_rfl) (fun _ _ _ h => h) (Or.inr ⟨by rfl, rfl⟩) hS ?_
        (try simp only [Act.put, List.setIfInBounds_toArray, List.set_cons_zero, List.set_cons_succ])
        refine wpAnyH_take (i := 4) (oi := ({ dst := some 23, op := Op.load 27 (Operand.tmp 22), type := 27, pos := "ref.go:91", after := #[{ on := 3, ground := Ground.data }, { on := 2, ground := Ground.guard }], guard := some (2, true) } : Oper)) (v := undef) rfl (by kernel_rfl) (by kernel_rfl) (by kernel_rfl) (fun _ _ _ h => h) (Or.inr ⟨by rfl, rfl⟩) hS ?_
        (try simp only [Act.put, List.setIfInBounds_toArray, List.set_cons_zero, List.set_cons_succ])
        refine wpAnyH_take (i := 5) (oi := ({ dst := some 24, op := Op.move (Operand.tmp 7), type := 3, pos := "ref.go:91", after := #[{ on := 2, ground := Ground.guard }], guard := some (2, true) } : Oper)) (v := undef) rfl (by kernel_rfl) (by kernel_rfl) (by kernel_rfl) (fun _ _ _ h => h) (Or.inr ⟨by rfl, rfl⟩) hS ?_
        (try simp only [Act.put, List.setIfInBounds_toArray, List.set_cons_zero, List.set_cons_succ])
        refine wpAnyH_take (i := 6) (oi := ({ dst := some 25, op := Op.indexAddr 27 (Operand.tmp 23) (Operand.tmp 24), type := 0, pos := "ref.go:91", after := #[{ on := 4, ground := Ground.data }, { on := 5, ground := Ground.data }, { on := 2, ground := Ground.guard }], guard := some (2, true) } : Oper)) (v := undef) rfl (by kernel_rfl) (by kernel_rfl) (by kernel_rfl) (fun _ _ _ h => h) (Or.inr ⟨by rfl, rfl⟩) hS ?_
        (try simp only [Act.put, List.setIfInBounds_toArray, List.set_cons_zero, List.set_cons_succ])
        refine wpAnyH_take (i := 7) (oi := ({ dst := some 26, op := Op.fieldAddr 82 (Operand.tmp 25) 0, type := 0, pos := "ref.go:91", after := #[{ on := 6, ground := Ground.data }, { on := 2, ground := Ground.guard }], guard := some (2, true) } : Oper)) (v := undef) rfl (by kernel_rfl) (by kernel_rfl) (by kernel_rfl) (fun _ _ _ h => h) (Or.inr ⟨by rfl, rfl⟩) hS ?_
        (try simp only [Act.put, List.setIfInBounds_toArray, List.set_cons_zero, List.set_cons_succ])
        refine wpAnyH_take (i := 8) (oi := ({ dst := some 27, op := Op.load 9 (Operand.tmp 26), type := 9, pos := "ref.go:91", after := #[{ on := 7, ground := Ground.data }, { on := 2, ground := Ground.guard }], guard := some (2, true) } : Oper)) (v := undef) rfl (by kernel_rfl) (by kernel_rfl) (by kernel_rfl) (fun _ _ _ h => h) (Or.inr ⟨by rfl, rfl⟩) hS ?_
        (try simp only [Act.put, List.setIfInBounds_toArray, List.set_cons_zero, List.set_cons_succ])
        refine wpAnyH_take (i := 9) (oi := ({ dst := some 28, op := Op.fieldAddr 82 (Operand.tmp 3) 0, type := 0, pos := "ref.go:91", after := #[{ on := 2, ground := Ground.guard }], guard := some (2, true) } : Oper)) (v := undef) rfl (by kernel_rfl) (by kernel_rfl) (by kernel_rfl) (fun _ _ _ h => h) (Or.inr ⟨by rfl, rfl⟩) hS ?_
        (try simp only [Act.put, List.setIfInBounds_toArray, List.set_cons_zero, List.set_cons_succ])
        refine wpAnyH_take (i := 10) (oi := ({ dst := some 29, op := Op.load 9 (Operand.tmp 28), type := 9, pos := "ref.go:91", after := #[{ on := 9, ground := Ground.data }, { on := 2, ground := Ground.guard }], guard := some (2, true) } : Oper)) (v := undef) rfl (by kernel_rfl) (by kernel_rfl) (by kernel_rfl) (fun _ _ _ h => h) (Or.inr ⟨by rfl, rfl⟩) hS ?_
        (try simp only [Act.put, List.setIfInBounds_toArray, List.set_cons_zero, List.set_cons_succ])
        refine wpAnyH_take (i := 11) (oi := ({ dst := some 30, op := Op.binOp BinOp.gtr 9 (Operand.tmp 27) (Operand.tmp 29) 9, type := 4, pos := "ref.go:91", after := #[{ on := 8, ground := Ground.data }, { on := 10, ground := Ground.data }, { on := 2, ground := Ground.guard }], guard := some (2, true) } : Oper)) (v := undef) rfl (by kernel_rfl) (by kernel_rfl) (by kernel_rfl) (fun _ _ _ h => h) (Or.inr ⟨by rfl, rfl⟩) hS ?_
        (try simp only [Act.put, List.setIfInBounds_toArray, List.set_cons_zero, List.set_cons_succ])
        refine wpAnyH_take (i := 12) (oi := ({ dst := some 31, op := Op.pick (Operand.tmp 21) (Operand.tmp 30) (Operand.const (Value.bool false)), type := 4, pos := "ref.go:91", after := #[{ on := 2, ground := Ground.data }, { on := 11, ground := Ground.data }], guard := none } : Oper)) (v := ?_) rfl (by kernel_rfl) (by kernel_rfl) (by kernel_rfl) (fun _ _ _ h => h) (Or.inl ⟨by rfl, ?_⟩) hS ?_
        rotate_left
        · (intro w hSw; (try dsimp only at hSw); go_simp; try with_reducible rfl)
        (try simp only [Act.put, List.setIfInBounds_toArray, List.set_cons_zero, List.set_cons_succ])
        refine wpAnyH_done (by kernel_rfl) ?_ _
        clear hS
        go_wp2_with (first
          | (at_builtin; refine wpl_app_file rfl (.tmp 36) (.tmp 42) rfl W4.heap.size _ (m) es rfl (Lib.hid (own_keep HO.out (below_alloc wr _).drew)) wr.heap.size [.string g.name, .slice a4 g.n c4, .slice a5 g.n c5, .slice a6 g.n c6] rfl (show (wr.alloc _).heap[_]? = _ from heap_alloc_last wr _) rfl (by simp [Value.oneCell']) (by omega) W4.heap.size W4 (Lib.hid (HB.out.alloc HB.out.size _).drew) (Nat.le_refl _) (by show _ ≤ (wr.alloc _).heap.size; rw [alloc_size]; have := HB.out.size; omega) ?_; intro v3 w3 HO3 HB3))
        go_roundw
        case rel => exact ⟨i + 1, m + 1, es ++ [_], by go_num, by omega, by rw [HP.out], by rw [HST.out, List.length_append, HM.out]; rfl, HO3, by rw [HST.out]; exact Lib.hid (HR.out.snoc HRG.out), HB3⟩
        case measure => simp [intOf]; omega
      · rw [decide_eq_false hK1]
        by_cases hK2 : i = K
        · have HST := Lib.hid (insT_at L f i g HG.out (by rw [HK.out]; exact hK2))
          have HP := Lib.hid (show decide (K < i + 1) = true from decide_eq_true (by omega))
          have hgt := insK_eq L f i g HG.out (by rw [HK.out]; exact hK2)
          have hgr := fun w => gtr_run (P := Try.prog) 9 g.name f.name w
          simp only [hgt] at hgr
          clear hgt
          clear hK1 hK2
          have hf0 : wr.cell? ⟨w.heap.size + 1, 0, none⟩ = some (.string f.name) := HFC 0 _ rfl
          have hf1 : wr.cell? ⟨w.heap.size + 1, 1, none⟩ = some (.slice a1 f.n c1) := HFC 1 _ rfl
          have hf2 : wr.cell? ⟨w.heap.size + 1, 2, none⟩ = some (.slice a2 f.n c2) := HFC 2 _ rfl
          have hf3 : wr.cell? ⟨w.heap.size + 1, 3, none⟩ = some (.slice a3 f.n c3) := HFC 3 _ rfl
          clear HFC
          go_wp2
          refine wp_region_held_drew (S := (fun w' => w' = wr.drew)) (by kernel_rfl) rfl (fun hS => ?_)
          refine wpAnyH_take (i := 0) (oi := ({ dst := some 19, op := Op.move (Operand.tmp 6), type := 4, pos := "ref.go:91", after := #[], guard := none } : Oper)) (v := ?_) rfl (by kernel_rfl) (by kernel_rfl) (by kernel_rfl) (fun _ _ _ h => h) (Or.inl ⟨by rfl, ?_⟩) hS ?_
          rotate_left
          · (intro w hSw; (try dsimp only at hSw); go_simp; try with_reducible rfl)
          (try simp only [Act.put, List.setIfInBounds_toArray, List.set_cons_zero, List.set_cons_succ])
          refine wpAnyH_take (i := 1) (oi := ({ dst := some 20, op := Op.unOp UnOp.not 4 (Operand.tmp 19), type := 4, pos := "ref.go:91", after := #[{ on := 0, ground := Ground.data }], guard := none } : Oper)) (v := ?_) rfl (by kernel_rfl) (by kernel_rfl) (by kernel_rfl) (fun _ _ _ h => h) (Or.inl ⟨by rfl, ?_⟩) hS ?_
          rotate_left
          · (intro w hSw; (try dsimp only at hSw); go_simp; try with_reducible rfl)
          (try simp only [Act.put, List.setIfInBounds_toArray, List.set_cons_zero, List.set_cons_succ])
          refine wpAnyH_take (i := 2) (oi := ({ dst := some 21, op := Op.move (Operand.tmp 20), type := 4, pos := "ref.go:91", after := #[{ on := 1, ground := Ground.data }], guard := none } : Oper)) (v := ?_) rfl (by kernel_rfl) (by kernel_rfl) (by kernel_rfl) (fun _ _ _ h => h) (Or.inl ⟨by rfl, ?_⟩) hS ?_
          rotate_left
          · (intro w hSw; (try dsimp only at hSw); go_simp; try with_reducible rfl)
          (try simp only [Act.put, List.setIfInBounds_toArray, List.set_cons_zero, List.set_cons_succ])
          refine wpAnyH_take (i := 3) (oi := ({ dst := some 22, op := Op.fieldAddr 29 (Operand.tmp 2) 0, type := 0, pos := "ref.go:91", after := #[{ on := 2, ground := Ground.guard }], guard := some (2, true) } : Oper)) (v := ?_) rfl (by kernel_rfl) (by kernel_rfl) (by kernel_rfl) (fun _ _ _ h => h) (Or.inl ⟨by rfl, ?_⟩) hS ?_
          rotate_left
          · (intro w hSw; (try dsimp only at hSw); go_simp; try with_reducible rfl)
          (try simp only [Act.put, List.setIfInBounds_toArray, List.set_cons_zero, List.set_cons_succ])
          refine wpAnyH_take (i := 4) (oi := ({ dst := some 23, op := Op.load 27 (Operand.tmp 22), type := 27, pos := "ref.go:91", after := #[{ on := 3, ground := Ground.data }, { on := 2, ground := Ground.guard }], guard := some (2, true) } : Oper)) (v := ?_) rfl (by kernel_rfl) (by kernel_rfl) (by kernel_rfl) (fun _ _ _ h => h) (Or.inl ⟨by rfl, ?_⟩) hS ?_
          rotate_left
          · (intro w hSw; (try dsimp only at hSw); go_simp; try with_reducible rfl)
          (try simp only [Act.put, List.setIfInBounds_toArray, List.set_cons_zero, List.set_cons_succ])
          refine wpAnyH_take (i := 5) (oi := ({ dst := some 24, op := Op.move (Operand.tmp 7), type := 3, pos := "ref.go:91", after := #[{ on := 2, ground := Ground.guard }], guard := some (2, true) } : Oper)) (v := ?_) rfl (by kernel_rfl) (by kernel_rfl) (by kernel_rfl) (fun _ _ _ h => h) (Or.inl ⟨by rfl, ?_⟩) hS ?_
          rotate_left
          · (intro w hSw; (try dsimp only at hSw); go_simp; try with_reducible rfl)
          (try simp only [Act.put, List.setIfInBounds_toArray, List.set_cons_zero, List.set_cons_succ])
          refine wpAnyH_take (i := 6) (oi := ({ dst := some 25, op := Op.indexAddr 27 (Operand.tmp 23) (Operand.tmp 24), type := 0, pos := "ref.go:91", after := #[{ on := 4, ground := Ground.data }, { on := 5, ground := Ground.data }, { on := 2, ground := Ground.guard }], guard := some (2, true) } : Oper)) (v := ?_) rfl (by kernel_rfl) (by kernel_rfl) (by kernel_rfl) (fun _ _ _ h => h) (Or.inl ⟨by rfl, ?_⟩) hS ?_
          rotate_left
          · (intro w hSw; (try dsimp only at hSw); go_simp; try with_reducible rfl)
          (try simp only [Act.put, List.setIfInBounds_toArray, List.set_cons_zero, List.set_cons_succ])
          refine wpAnyH_take (i := 7) (oi := ({ dst := some 26, op := Op.fieldAddr 82 (Operand.tmp 25) 0, type := 0, pos := "ref.go:91", after := #[{ on := 6, ground := Ground.data }, { on := 2, ground := Ground.guard }], guard := some (2, true) } : Oper)) (v := ?_) rfl (by kernel_rfl) (by kernel_rfl) (by kernel_rfl) (fun _ _ _ h => h) (Or.inl ⟨by rfl, ?_⟩) hS ?_
          rotate_left
          · (intro w hSw; (try dsimp only at hSw); go_simp; try with_reducible rfl)
          (try simp only [Act.put, List.setIfInBounds_toArray, List.set_cons_zero, List.set_cons_succ])
          refine wpAnyH_take (i := 8) (oi := ({ dst := some 27, op := Op.load 9 (Operand.tmp 26), type := 9, pos := "ref.go:91", after := #[{ on := 7, ground := Ground.data }, { on := 2, ground := Ground.guard }], guard := some (2, true) } : Oper)) (v := ?_) rfl (by kernel_rfl) (by kernel_rfl) (by kernel_rfl) (fun _ _ _ h => h) (Or.inl ⟨by rfl, ?_⟩) hS ?_
          rotate_left
          · (intro w hSw; (try dsimp only at hSw); go_simp; try with_reducible rfl)
          (try simp only [Act.put, List.setIfInBounds_toArray, List.set_cons_zero, List.set_cons_succ])
          refine wpAnyH_take (i := 9) (oi := ({ dst := some 28, op := Op.fieldAddr 82 (Operand.tmp 3) 0, type := 0, pos := "ref.go:91", after := #[{ on := 2, ground := Ground.guard }], guard := some (2, true) } : Oper)) (v := ?_) rfl (by kernel_rfl) (by kernel_rfl) (by kernel_rfl) (fun _ _ _ h => h) (Or.inl ⟨by rfl, ?_⟩) hS ?_
          rotate_left
          · (intro w hSw; (try dsimp only at hSw); go_simp; try with_reducible rfl)
          (try simp only [Act.put, List.setIfInBounds_toArray, List.set_cons_zero, List.set_cons_succ])
          refine wpAnyH_take (i := 10) (oi := ({ dst := some 29, op := Op.load 9 (Operand.tmp 28), type := 9, pos := "ref.go:91", after := #[{ on := 9, ground := Ground.data }, { on := 2, ground := Ground.guard }], guard := some (2, true) } : Oper)) (v := ?_) rfl (by kernel_rfl) (by kernel_rfl) (by kernel_rfl) (fun _ _ _ h => h) (Or.inl ⟨by rfl, ?_⟩) hS ?_
          rotate_left
          · (intro w hSw; (try dsimp only at hSw); go_simp; try with_reducible rfl)
          (try simp only [Act.put, List.setIfInBounds_toArray, List.set_cons_zero, List.set_cons_succ])
          refine wpAnyH_take (i := 11) (oi := ({ dst := some 30, op := Op.binOp BinOp.gtr 9 (Operand.tmp 27) (Operand.tmp 29) 9, type := 4, pos := "ref.go:91", after := #[{ on := 8, ground := Ground.data }, { on := 10, ground := Ground.data }, { on := 2, ground := Ground.guard }], guard := some (2, true) } : Oper)) (v := ?_) rfl (by kernel_rfl) (by kernel_rfl) (by kernel_rfl) (fun _ _ _ h => h) (Or.inl ⟨by rfl, ?_⟩) hS ?_
          rotate_left
          · (intro w hSw; (try dsimp only at hSw); go_simp; try with_reducible rfl)
          (try simp only [Act.put, List.setIfInBounds_toArray, List.set_cons_zero, List.set_cons_succ])
          refine wpAnyH_take (i := 12) (oi := ({ dst := some 31, op := Op.pick (Operand.tmp 21) (Operand.tmp 30) (Operand.const (Value.bool false)), type := 4, pos := "ref.go:91", after := #[{ on := 2, ground := Ground.data }, { on := 11, ground := Ground.data }], guard := none } : Oper)) (v := ?_) rfl (by kernel_rfl) (by kernel_rfl) (by kernel_rfl) (fun _ _ _ h => h) (Or.inl ⟨by rfl, ?_⟩) hS ?_
          rotate_left
          · (intro w hSw; (try dsimp only at hSw); go_simp; try with_reducible rfl)
          (try simp only [Act.put, List.setIfInBounds_toArray, List.set_cons_zero, List.set_cons_succ])
          refine wpAnyH_done (by kernel_rfl) ?_ _
          clear hS
          go_wp2_with (first
            | (at_builtin; refine wpl_app_file rfl (.tmp 32) (.tmp 34) rfl W4.heap.size _ (m) es rfl (Lib.hid (own_keep HO.out (below_alloc wr _).drew)) wr.heap.size [.string f.name, .slice a1 f.n c1, .slice a2 f.n c2, .slice a3 f.n c3] rfl (show (wr.alloc _).heap[_]? = _ from heap_alloc_last wr _) rfl (by simp [Value.oneCell']) (by omega) W4.heap.size W4 (Lib.hid (HB.out.alloc HB.out.size _).drew) (Nat.le_refl _) (by show _ ≤ (wr.alloc _).heap.size; rw [alloc_size]; have := HB.out.size; omega) ?_; intro v3 w3 HO3 HB3; obtain ⟨q, q0, q1, q2, q3⟩ := HCELL.out w3 HB3.out)
            | (at_builtin; refine wpl_app_file rfl (.tmp 36) (.tmp 42) rfl W4.heap.size _ (m + 1) _ rfl (Lib.hid (own_keep HO3.out (below_alloc _ _))) w3.heap.size [.string g.name, .slice a4 g.n c4, .slice a5 g.n c5, .slice a6 g.n c6] rfl (heap_alloc_last _ _) rfl (by simp [Value.oneCell']) (by omega) W4.heap.size W4 (Lib.hid (HB3.out.alloc HB3.out.size _)) (Nat.le_refl _) (by rw [alloc_size]; have := HB3.out.size; omega) ?_; intro v5 w5 HO5 HB5))
          go_roundw
          case rel => exact ⟨i + 1, m + 1 + 1, es ++ [_] ++ [_], by go_num, by omega, by rw [HP.out], by rw [HST.out, List.length_append, List.length_append, HM.out]; rfl, HO5, by rw [HST.out]; exact Lib.hid ((HR.out.snoc HQ.out.rf).snoc HRG.out), HB5⟩
          case measure => simp [intOf]; omega
        · have HST := Lib.hid (insT_low L f i g HG.out (by rw [HK.out]; omega))
          have HP := Lib.hid (show decide (K < i + 1) = false from decide_eq_false (by omega))
          have hgt := insK_lt L f i g HG.out (by rw [HK.out]; omega)
          have hf0 : wr.cell? ⟨w.heap.size + 1, 0, none⟩ = some (.string f.name) := HFC 0 _ rfl
          have hgr := fun w => gtr_run (P := Try.prog) 9 g.name f.name w
          simp only [hgt] at hgr
          clear hK1 hK2 HFC hgt
          go_wp2
          refine wp_region_held_drew (S := (fun w' => w' = wr.drew)) (by kernel_rfl) rfl (fun hS => ?_)
          refine wpAnyH_take (i := 0) (oi := ({ dst := some 19, op := Op.move (Operand.tmp 6), type := 4, pos := "ref.go:91", after := #[], guard := none } : Oper)) (v := ?_) rfl (by kernel_rfl) (by kernel_rfl) (by kernel_rfl) (fun _ _ _ h => h) (Or.inl ⟨by rfl, ?_⟩) hS ?_
          rotate_left
          · (intro w hSw; (try dsimp only at hSw); go_simp; try with_reducible rfl)
          (try simp only [Act.put, List.setIfInBounds_toArray, List.set_cons_zero, List.set_cons_succ])
          refine wpAnyH_take (i := 1) (oi := ({ dst := some 20, op := Op.unOp UnOp.not 4 (Operand.tmp 19), type := 4, pos := "ref.go:91", after := #[{ on := 0, ground := Ground.data }], guard := none } : Oper)) (v := ?_) rfl (by kernel_rfl) (by kernel_rfl) (by kernel_rfl) (fun _ _ _ h => h) (Or.inl ⟨by rfl, ?_⟩) hS ?_
          rotate_left
          · (intro w hSw; (try dsimp only at hSw); go_simp; try with_reducible rfl)
          (try simp only [Act.put, List.setIfInBounds_toArray, List.set_cons_zero, List.set_cons_succ])
          refine wpAnyH_take (i := 2) (oi := ({ dst := some 21, op := Op.move (Operand.tmp 20), type := 4, pos := "ref.go:91", after := #[{ on := 1, ground := Ground.data }], guard := none } : Oper)) (v := ?_) rfl (by kernel_rfl) (by kernel_rfl) (by kernel_rfl) (fun _ _ _ h => h) (Or.inl ⟨by rfl, ?_⟩) hS ?_
          rotate_left
          · (intro w hSw; (try dsimp only at hSw); go_simp; try with_reducible rfl)
          (try simp only [Act.put, List.setIfInBounds_toArray, List.set_cons_zero, List.set_cons_succ])
          refine wpAnyH_take (i := 3) (oi := ({ dst := some 22, op := Op.fieldAddr 29 (Operand.tmp 2) 0, type := 0, pos := "ref.go:91", after := #[{ on := 2, ground := Ground.guard }], guard := some (2, true) } : Oper)) (v := ?_) rfl (by kernel_rfl) (by kernel_rfl) (by kernel_rfl) (fun _ _ _ h => h) (Or.inl ⟨by rfl, ?_⟩) hS ?_
          rotate_left
          · (intro w hSw; (try dsimp only at hSw); go_simp; try with_reducible rfl)
          (try simp only [Act.put, List.setIfInBounds_toArray, List.set_cons_zero, List.set_cons_succ])
          refine wpAnyH_take (i := 4) (oi := ({ dst := some 23, op := Op.load 27 (Operand.tmp 22), type := 27, pos := "ref.go:91", after := #[{ on := 3, ground := Ground.data }, { on := 2, ground := Ground.guard }], guard := some (2, true) } : Oper)) (v := ?_) rfl (by kernel_rfl) (by kernel_rfl) (by kernel_rfl) (fun _ _ _ h => h) (Or.inl ⟨by rfl, ?_⟩) hS ?_
          rotate_left
          · (intro w hSw; (try dsimp only at hSw); go_simp; try with_reducible rfl)
          (try simp only [Act.put, List.setIfInBounds_toArray, List.set_cons_zero, List.set_cons_succ])
          refine wpAnyH_take (i := 5) (oi := ({ dst := some 24, op := Op.move (Operand.tmp 7), type := 3, pos := "ref.go:91", after := #[{ on := 2, ground := Ground.guard }], guard := some (2, true) } : Oper)) (v := ?_) rfl (by kernel_rfl) (by kernel_rfl) (by kernel_rfl) (fun _ _ _ h => h) (Or.inl ⟨by rfl, ?_⟩) hS ?_
          rotate_left
          · (intro w hSw; (try dsimp only at hSw); go_simp; try with_reducible rfl)
          (try simp only [Act.put, List.setIfInBounds_toArray, List.set_cons_zero, List.set_cons_succ])
          refine wpAnyH_take (i := 6) (oi := ({ dst := some 25, op := Op.indexAddr 27 (Operand.tmp 23) (Operand.tmp 24), type := 0, pos := "ref.go:91", after := #[{ on := 4, ground := Ground.data }, { on := 5, ground := Ground.data }, { on := 2, ground := Ground.guard }], guard := some (2, true) } : Oper)) (v := ?_) rfl (by kernel_rfl) (by kernel_rfl) (by kernel_rfl) (fun _ _ _ h => h) (Or.inl ⟨by rfl, ?_⟩) hS ?_
          rotate_left
          · (intro w hSw; (try dsimp only at hSw); go_simp; try with_reducible rfl)
          (try simp only [Act.put, List.setIfInBounds_toArray, List.set_cons_zero, List.set_cons_succ])
          refine wpAnyH_take (i := 7) (oi := ({ dst := some 26, op := Op.fieldAddr 82 (Operand.tmp 25) 0, type := 0, pos := "ref.go:91", after := #[{ on := 6, ground := Ground.data }, { on := 2, ground := Ground.guard }], guard := some (2, true) } : Oper)) (v := ?_) rfl (by kernel_rfl) (by kernel_rfl) (by kernel_rfl) (fun _ _ _ h => h) (Or.inl ⟨by rfl, ?_⟩) hS ?_
          rotate_left
          · (intro w hSw; (try dsimp only at hSw); go_simp; try with_reducible rfl)
          (try simp only [Act.put, List.setIfInBounds_toArray, List.set_cons_zero, List.set_cons_succ])
          refine wpAnyH_take (i := 8) (oi := ({ dst := some 27, op := Op.load 9 (Operand.tmp 26), type := 9, pos := "ref.go:91", after := #[{ on := 7, ground := Ground.data }, { on := 2, ground := Ground.guard }], guard := some (2, true) } : Oper)) (v := ?_) rfl (by kernel_rfl) (by kernel_rfl) (by kernel_rfl) (fun _ _ _ h => h) (Or.inl ⟨by rfl, ?_⟩) hS ?_
          rotate_left
          · (intro w hSw; (try dsimp only at hSw); go_simp; try with_reducible rfl)
          (try simp only [Act.put, List.setIfInBounds_toArray, List.set_cons_zero, List.set_cons_succ])
          refine wpAnyH_take (i := 9) (oi := ({ dst := some 28, op := Op.fieldAddr 82 (Operand.tmp 3) 0, type := 0, pos := "ref.go:91", after := #[{ on := 2, ground := Ground.guard }], guard := some (2, true) } : Oper)) (v := ?_) rfl (by kernel_rfl) (by kernel_rfl) (by kernel_rfl) (fun _ _ _ h => h) (Or.inl ⟨by rfl, ?_⟩) hS ?_
          rotate_left
          · (intro w hSw; (try dsimp only at hSw); go_simp; try with_reducible rfl)
          (try simp only [Act.put, List.setIfInBounds_toArray, List.set_cons_zero, List.set_cons_succ])
          refine wpAnyH_take (i := 10) (oi := ({ dst := some 29, op := Op.load 9 (Operand.tmp 28), type := 9, pos := "ref.go:91", after := #[{ on := 9, ground := Ground.data }, { on := 2, ground := Ground.guard }], guard := some (2, true) } : Oper)) (v := ?_) rfl (by kernel_rfl) (by kernel_rfl) (by kernel_rfl) (fun _ _ _ h => h) (Or.inl ⟨by rfl, ?_⟩) hS ?_
          rotate_left
          · (intro w hSw; (try dsimp only at hSw); go_simp; try with_reducible rfl)
          (try simp only [Act.put, List.setIfInBounds_toArray, List.set_cons_zero, List.set_cons_succ])
          refine wpAnyH_take (i := 11) (oi := ({ dst := some 30, op := Op.binOp BinOp.gtr 9 (Operand.tmp 27) (Operand.tmp 29) 9, type := 4, pos := "ref.go:91", after := #[{ on := 8, ground := Ground.data }, { on := 10, ground := Ground.data }, { on := 2, ground := Ground.guard }], guard := some (2, true) } : Oper)) (v := ?_) rfl (by kernel_rfl) (by kernel_rfl) (by kernel_rfl) (fun _ _ _ h => h) (Or.inl ⟨by rfl, ?_⟩) hS ?_
          rotate_left
          · (intro w hSw; (try dsimp only at hSw); go_simp; try with_reducible rfl)
          (try simp only [Act.put, List.setIfInBounds_toArray, List.set_cons_zero, List.set_cons_succ])
          refine wpAnyH_take (i := 12) (oi := ({ dst := some 31, op := Op.pick (Operand.tmp 21) (Operand.tmp 30) (Operand.const (Value.bool false)), type := 4, pos := "ref.go:91", after := #[{ on := 2, ground := Ground.data }, { on := 11, ground := Ground.data }], guard := none } : Oper)) (v := ?_) rfl (by kernel_rfl) (by kernel_rfl) (by kernel_rfl) (fun _ _ _ h => h) (Or.inl ⟨by rfl, ?_⟩) hS ?_
          rotate_left
          · (intro w hSw; (try dsimp only at hSw); go_simp; try with_reducible rfl)
          (try simp only [Act.put, List.setIfInBounds_toArray, List.set_cons_zero, List.set_cons_succ])
          refine wpAnyH_done (by kernel_rfl) ?_ _
          clear hS
          go_wp2_with (first
            | (at_builtin; refine wpl_app_file rfl (.tmp 36) (.tmp 42) rfl W4.heap.size _ (m) es rfl (Lib.hid (own_keep HO.out (below_alloc wr _).drew)) wr.heap.size [.string g.name, .slice a4 g.n c4, .slice a5 g.n c5, .slice a6 g.n c6] rfl (show (wr.alloc _).heap[_]? = _ from heap_alloc_last wr _) rfl (by simp [Value.oneCell']) (by omega) W4.heap.size W4 (Lib.hid (HB.out.alloc HB.out.size _).drew) (Nat.le_refl _) (by show _ ≤ (wr.alloc _).heap.size; rw [alloc_size]; have := HB.out.size; omega) ?_; intro v3 w3 HO3 HB3))
          go_roundw
          case rel => exact ⟨i + 1, m + 1, es ++ [_], by go_num, by omega, by rw [HP.out], by rw [HST.out, List.length_append, HM.out]; rfl, HO3, by rw [HST.out]; exact Lib.hid (HR.out.snoc HRG.out), HB3⟩
          case measure => simp [intOf]; omega
    · have hq : i = n' := by omega
      subst hq
      have hfull : insT L f i = insT L f L.length := by rw [HN2.out]
      by_cases hK1 : K < i
      · rw [decide_eq_true hK1]
        rw [hfull, insT_all L f (by rw [HK.out, HN2.out]; exact hK1)] at HM HR
        obtain ⟨a9, c9, rfl⟩ := own_slice HO.out
        clear hfull
        have hD0 := HQ.out.d0.below HB.out (by have := HQ.out.lt; omega)
        have hfr := hD0.frozen 0
        have hcx := hD0.cell 0
        simp only [List.getElem?_toArray, List.getElem?_cons_zero] at hcx
        have HD2 : Hid (DB (wr.setCell ⟨w.heap.size, 0, none⟩ (.slice a9 (m) c9)) w.heap.size #[.slice a9 (m) c9, .int .i64 d.cap, .int .i64 d.ops, .bool d.down, .bool d.told, .int .i64 d.after]) := Lib.hid (by simpa using hD0.stored 0 (.slice a9 (m) c9))
        have HD3 := Lib.hid ((HQ.out.d2.below HB.out (by have := HQ.out.lt; omega)).apart (b' := w.heap.size) (by omega) 0 (.slice a9 (m) c9))
        have HBW := Lib.hid (chain HQ.out.below HB.out)
        clear hD0
        go_wp2_with (first
          | (refine wpList_load_row rfl 29 _ rfl w.heap.size rfl _ _ (0, 0) _ HD2.out.1 Try.underlying29 rfl HD2.out.info ?_)
          | (refine wpList_store_row rfl 29 _ _ rfl (w.heap.size + 2) #[.slice a9 (m) c9, .int .i64 d.cap, .int .i64 d.ops, .bool d.down, .bool d.told, .int .i64 d.after] rfl rfl _ _ HD3.out.1 HD2.out.info (by rw [HD3.out.2]; rfl) (by simp [Value.oneCell']) ?_))
        have hbl := last_below' HBW.out w.heap.size (w.heap.size + 2) (Nat.le_refl _) (by omega) (.slice a9 (m) c9) #[.slice a9 (m) c9, .int .i64 d.cap, .int .i64 d.ops, .bool d.down, .bool d.told, .int .i64 d.after]
        refine bodyPost_ret_by (v := .agg #[.slice a9 (m) c9, .int .i64 d.cap, .int .i64 d.ops, .bool d.down, .bool d.told, .int .i64 d.after]) (results_cell_row rfl _ _ (w.heap.size + 2) _ _ (0, 0) _ rfl (HD3.out.row (cs' := #[.slice a9 (m) c9, .int .i64 d.cap, .int .i64 d.ops, .bool d.down, .bool d.told, .int .i64 d.after]) rfl).1 Try.underlying29 rfl disk_info) rfl ⟨_, rfl, ⟨.slice a9 (m) c9, rfl, ?_⟩, hbl⟩
        have h1 : FLs (mask F1 ((wr.setCell ⟨w.heap.size, 0, none⟩ (.slice a9 (m) c9)).setRow (w.heap.size + 2) #[.slice a9 (m) c9, .int .i64 d.cap, .int .i64 d.ops, .bool d.down, .bool d.told, .int .i64 d.after])) (.slice a9 (m) c9) (insF L f) := by
          refine FLs.own HQ.out.foot (own_move HO.out (fun g hg => last_heap' wr w.heap.size (w.heap.size + 2) _ _ g (by have := HQ.out.lt; omega) (by have := HQ.out.lt; omega))) ?_ HR.out HM.out
          exact (Ext.below HB.out).kin.trans (Ext.kin (F := F1) (F' := F1) ⟨rfl, rfl, rfl, by simp [World.setCell], fun k hk hf => last_heap' wr w.heap.size (w.heap.size + 2) _ _ k (by rintro rfl; rw [HIN.out.1] at hf; simp at hf) (by rintro rfl; rw [HIN.out.2] at hf; simp at hf), fun _ _ => rfl⟩)
        show FLs _ _ (insF (withoutF d.L f.name) f)
        rw [HLE.out]
        exact h1.kin (mask_mono HQ.out.sub _)
      · rw [decide_eq_false hK1]
        have HALL := Lib.hid (insT_none L f (by rw [HK.out, HN2.out]; exact hK1))
        rw [hfull] at HM HR
        have hf0 : ∀ (j : Nat) (v : Value), #[.string f.name, .slice a1 f.n c1, .slice a2 f.n c2, .slice a3 f.n c3][j]? = some v → wr.cell? ⟨w.heap.size + 1, j, none⟩ = some v := fun j v hv => by
          have h1 : wr.heap[w.heap.size + 1]? = _ := (HB.out.block _ (by have := HQ.out.lt; omega)).trans HQ.out.f1
          rw [cell_of_row _ _ j _ _ _ h1]; exact hv
        have g0 := hf0 0 _ rfl
        have g1 := hf0 1 _ rfl
        have g2 := hf0 2 _ rfl
        have g3 := hf0 3 _ rfl
        clear hfull hf0
        go_wp2_with (first
          | (at_builtin; refine wpl_app_file rfl (.tmp 46) (.tmp 48) rfl W4.heap.size _ m es rfl (Lib.hid (own_keep HO.out (below_alloc _ _))) wr.heap.size [.string f.name, .slice a1 f.n c1, .slice a2 f.n c2, .slice a3 f.n c3] rfl (heap_alloc_last _ _) rfl (by simp [Value.oneCell']) (by omega) W4.heap.size W4 (Lib.hid (HB.out.alloc HB.out.size _)) (Nat.le_refl _) (by rw [alloc_size]; have := HB.out.size; omega) ?_; intro v7 w7 HO7 HB7; obtain ⟨a9, c9, rfl⟩ := own_slice HO7.out; have hD0 := HQ.out.d0.below HB7.out (by have := HQ.out.lt; omega); have hfr := hD0.frozen 0; have hcx := hD0.cell 0; simp only [List.getElem?_toArray, List.getElem?_cons_zero] at hcx; have HD2 : Hid (DB (w7.setCell ⟨w.heap.size, 0, none⟩ (.slice a9 (m + 1) c9)) w.heap.size #[.slice a9 (m + 1) c9, .int .i64 d.cap, .int .i64 d.ops, .bool d.down, .bool d.told, .int .i64 d.after]) := Lib.hid (by simpa using hD0.stored 0 (.slice a9 (m + 1) c9)); have HD3 := Lib.hid ((HQ.out.d2.below HB7.out (by have := HQ.out.lt; omega)).apart (b' := w.heap.size) (by omega) 0 (.slice a9 (m + 1) c9)); have HBW := Lib.hid (chain HQ.out.below HB7.out); clear hD0)
          | (refine wpList_load_row rfl 29 _ rfl w.heap.size rfl _ _ (0, 0) _ HD2.out.1 Try.underlying29 rfl HD2.out.info ?_)
          | (refine wpList_store_row rfl 29 _ _ rfl (w.heap.size + 2) #[.slice a9 (m + 1) c9, .int .i64 d.cap, .int .i64 d.ops, .bool d.down, .bool d.told, .int .i64 d.after] rfl rfl _ _ HD3.out.1 HD2.out.info (by rw [HD3.out.2]; rfl) (by simp [Value.oneCell']) ?_))
        have hbl := last_below' HBW.out w.heap.size (w.heap.size + 2) (Nat.le_refl _) (by omega) (.slice a9 (m + 1) c9) #[.slice a9 (m + 1) c9, .int .i64 d.cap, .int .i64 d.ops, .bool d.down, .bool d.told, .int .i64 d.after]
        refine bodyPost_ret_by (v := .agg #[.slice a9 (m + 1) c9, .int .i64 d.cap, .int .i64 d.ops, .bool d.down, .bool d.told, .int .i64 d.after]) (results_cell_row rfl _ _ (w.heap.size + 2) _ _ (0, 0) _ rfl (HD3.out.row (cs' := #[.slice a9 (m + 1) c9, .int .i64 d.cap, .int .i64 d.ops, .bool d.down, .bool d.told, .int .i64 d.after]) rfl).1 Try.underlying29 rfl disk_info) rfl ⟨_, rfl, ⟨.slice a9 (m + 1) c9, rfl, ?_⟩, hbl⟩
        have h1 : FLs (mask F1 ((w7.setCell ⟨w.heap.size, 0, none⟩ (.slice a9 (m + 1) c9)).setRow (w.heap.size + 2) #[.slice a9 (m + 1) c9, .int .i64 d.cap, .int .i64 d.ops, .bool d.down, .bool d.told, .int .i64 d.after])) (.slice a9 (m + 1) c9) (insF L f) := by
          refine FLs.own HQ.out.foot (own_move HO7.out (fun g hg => last_heap' w7 w.heap.size (w.heap.size + 2) _ _ g (by have := HQ.out.lt; omega) (by have := HQ.out.lt; omega))) ?_ (by rw [← HALL.out]; exact HR.out.snoc HQ.out.rf) (by rw [← HALL.out, List.length_append, HM.out]; rfl)
          exact (Ext.below HB7.out).kin.trans (Ext.kin (F := F1) (F' := F1) ⟨rfl, rfl, rfl, by simp [World.setCell], fun k hk hf => last_heap' w7 w.heap.size (w.heap.size + 2) _ _ k (by rintro rfl; rw [HIN.out.1] at hf; simp at hf) (by rintro rfl; rw [HIN.out.2] at hf; simp at hf), fun _ _ => rfl⟩)
        show FLs _ _ (insF (withoutF d.L f.name) f)
        rw [HLE.out]
        exact h1.kin (mask_mono HQ.out.sub _)
end Go.Proofs.Ytpnialanmidekaa
