/-
  WHAT THE DOCUMENT'S ANSWERS OF LAYER 8 (disk) ANSWER: the reference's Lay.
-/
import Derived.Test.YtpnialanmidekaaDiskMake
import Derived.Test.YtpnialanmidekaaDiskMix
namespace Go.Proofs.Ytpnialanmidekaa
open Go.RowKit
/-- files as they are laid: their names, how many sectors, all bytes -/
abbrev LFile := ByteArray × Nat × List Int
/-- in w the slice v tells these files -/
def LA (w : World) (v : Value) (l : List LFile) : Prop :=
  ∃ es : List (List Value), CS 2 w v l.length es.flatten ∧ es.length = l.length ∧ (∀ e ∈ es, e.length = 2) ∧ ∀ (i : Nat) (e : List Value) (f : LFile), es[i]? = some e → l[i]? = some f → ∃ v1, e = [.string f.1, v1] ∧ FS w v1 f.2.1 f.2.2
theorem LA.kin {w w' : World} (hb : Kin w w') {v : Value} {l : List LFile} (h : LA w v l) : LA w' v l := by
  obtain ⟨es, h1, h2, h3, h4⟩ := h
  exact ⟨es, h1.kin hb, h2, h3, fun i e f he hf => by obtain ⟨v1, e1, e2⟩ := h4 i e f he hf; exact ⟨v1, e1, e2.kin hb⟩⟩
theorem LA.form {w : World} {v : Value} {l : List LFile} (h : LA w v l) : ∃ a cap, v = .slice a l.length cap ∧ l.length ≤ cap ∧ cap ≤ 9223372036854775807 ∧ (a = none → cap = 0) := by obtain ⟨_, h, _⟩ := h; exact h.form
theorem LA.at_ {w : World} {a : Option Addr} {n cap : Nat} {l : List LFile} (h : LA w (.slice a n cap) l) (i : Nat) (f : LFile) (hf : l[i]? = some f) :
    ∃ b off a1 c1, a = some ⟨b, off, none⟩ ∧ w.cell? ⟨b, off + i * 2, none⟩ = some (.string f.1) ∧ w.cell? ⟨b, off + i * 2 + 1, none⟩ = some (.slice a1 f.2.1 c1) ∧ FS w (.slice a1 f.2.1 c1) f.2.1 f.2.2 := by
  obtain ⟨es, h1, h2, h3, h4⟩ := h
  obtain ⟨hi, _⟩ := List.getElem?_eq_some_iff.1 hf
  have hi2 : i < es.length := by omega
  obtain ⟨v1, he, hfs⟩ := h4 i es[i] f (List.getElem?_eq_getElem hi2) hf
  have hn : n = l.length := by obtain ⟨_, _, hv, _⟩ := h1; simp at hv; exact hv.2.1
  subst hn
  obtain ⟨b, off, rfl, hc⟩ := h1.at_ i hi
  have hg := fun j hj => (hc j hj).trans (flat_get 2 es i j h3 hj _ (List.getElem?_eq_getElem hi2))
  rw [he] at hg
  obtain ⟨a1, c1, rfl, _⟩ := id hfs
  exact ⟨b, off, a1, c1, rfl, by simpa using hg 0 (by omega), by simpa using hg 1 (by omega), hfs⟩
/-- the disk behind the first i files, if all of them could be laid -/
def layD (c : Int) (l : List LFile) : Nat → AD
  | 0 => AD.newD c
  | i + 1 => match l[i]? with
    | some f => ((layD c l i).makeR f.1 f.2.1).1.withF ⟨f.1, f.2.1, f.2.2, f.2.2, List.replicate f.2.1 false⟩
    | none => layD c l i
/-- the error at the i-th file -/
def layE (c : Int) (l : List LFile) (i : Nat) : Int := match l[i]? with
  | some f => ((layD c l i).makeR f.1 f.2.1).2
  | none => 0
theorem layD_step (c : Int) (l : List LFile) (i : Nat) (f : LFile) (h : l[i]? = some f) : layD c l (i + 1) = ((layD c l i).makeR f.1 f.2.1).1.withF ⟨f.1, f.2.1, f.2.2, f.2.2, List.replicate f.2.1 false⟩ := by simp only [layD, h]
theorem FLs.zero {w w' : World} {a : Option Addr} {c : Nat} (h : FLs w (.slice a 0 c) []) : FLs w' (.slice a 0 c) [] := by
  obtain ⟨a', cap, e, h1, h2, h3⟩ := h.form
  simp only [Value.slice.injEq] at e
  obtain ⟨rfl, _, rfl⟩ := e
  exact ⟨[], ⟨_, _, rfl, by simp, by simp, h2, h3, fun h => by simp at h⟩, RFs.nil _⟩
def zeroD : AD := { L := [], cap := 0, ops := 0, down := false, told := false, after := 0 }
/-- the first file that can't be laid, from i on -/
def layFrom (c : Int) (l : List LFile) (i : Nat) : Nat → AD × Int
  | 0 => ({ layD c l i with ops := 0 }, 0)
  | k + 1 => if layE c l i ≠ 0 then (zeroD, layE c l i) else layFrom c l (i + 1) k
def layR (c : Int) (l : List LFile) : AD × Int := layFrom c l 0 l.length
theorem usedN_insF (L : List AF) (f : AF) : usedN (insF L f) = usedN L + f.n := by
  unfold usedN insF
  have : (L.map AF.n).sum = ((L.take (insK L f)).map AF.n).sum + ((L.drop (insK L f)).map AF.n).sum := by rw [← List.sum_append, ← List.map_append, List.take_append_drop]
  rw [this]; simp; omega
theorem usedN_without (L : List AF) (s : ByteArray) : usedN (withoutF L s) ≤ usedN L := by
  unfold usedN withoutF
  induction L with
  | nil => simp
  | cons x t ih => simp only [List.filter_cons]; split <;> simp <;> omega
theorem withF_used (d : AD) (f : AF) : usedN (d.withF f).L ≤ usedN d.L + f.n := by
  show usedN (insF (withoutF d.L f.name) f) ≤ _
  rw [usedN_insF]; have := usedN_without d.L f.name; omega
theorem withF_len (d : AD) (f : AF) : (d.withF f).L.length ≤ d.L.length + 1 := by
  show (insF (withoutF d.L f.name) f).length ≤ _
  have := withoutF_len d.L f.name
  unfold insF; simp; omega
theorem makeR_grows (d : AD) (s : ByteArray) (n : Nat) (hn : n ≤ 1000000000) : usedN (d.makeR s n).1.L ≤ usedN d.L + 64 ∧ (d.makeR s n).1.L.length ≤ d.L.length + 1 := by
  unfold AD.makeR
  split
  · exact ⟨by simp, by simp⟩
  split
  · exact ⟨by simp, by simp⟩
  split
  · exact ⟨by simp, by simp⟩
  split
  · exact ⟨by simp, by simp⟩
  · rename_i h1 h2 h3 h4
    split
    · exact ⟨by simp, by simp⟩
    · unfold AD.opR
      split
      · simp only [AD.opd_L]; omega
      · have h5 := withF_used d.opd (newF s (n : Int).toNat)
        have h6 := withF_len d.opd (newF s (n : Int).toNat)
        rw [AD.opd_L] at h5 h6
        simp only [newF] at h5 h6 ⊢
        omega
set_option maxRecDepth 8000 in
set_option maxHeartbeats 4000000 in
theorem rlay_any (F : Nat → Bool) (c : Int) (v : Value) (l : List LFile) (w : World) (hF : Foot F w.heap.size) (h : LA (mask F w) v l) (hc63 : I63 c) (hll : l.length ≤ 1000) (hlf : ∀ f ∈ l, f.2.1 ≤ 1000000 ∧ f.1.size ≤ 281474976710656) :
    Calls Try.prog 13 #[.int .i64 c, v] w fun e w' => ∃ v', e = .returned (.tuple #[v', .int .i64 (layR c l).2]) ∧ RD (mask F w') v' (layR c l).1 ∧ Below w.heap.size w w' := by
  obtain ⟨al, cl, rfl, hl1, hl2, hl3⟩ := h.form
  obtain ⟨n, hn⟩ : ∃ n, l.length = n := ⟨_, rfl⟩
  have hk : Kin (mask F w) w := unmask F w
  have HLA := Lib.hid h
  have HFT := Lib.hid hF
  have HLF := Lib.hid hlf
  have HN := Lib.hid hn
  have HC63 := Lib.hid hc63
  rw [hn] at hl1 hll HLA ⊢
  have hd0 : DB (w.alloc (.cells #[.slice none 0 0, .int .i64 0, .int .i64 0, .bool false, .bool false, .int .i64 0] 29)) w.heap.size dz := ⟨heap_alloc_last w _, rfl⟩
  have HD0 := Lib.hid hd0
  have HR : Hid (layR c l = layFrom c l 0 n) := Lib.hid (by unfold layR; rw [hn])
  clear h hF hlf hn hd0 hk hc63
  go_enter Try.func13, Try.ntmps13
  go_wp2_with (first
    | (go_at_call 9; (with_reducible refine (newD_run c HC63.out (fun _ => false) _).mono ?_); rintro e w1 ⟨v1, rfl, hr1, hb⟩; obtain ⟨a1, n1, c1, rfl, hn1, _⟩ := hr1.agg; obtain rfl : n1 = 0 := hn1.symm; have HD1 := Lib.hid (HD0.out.next hb); have HB1 := Lib.hid (chain (below_alloc w _) hb); clear hb; have HR1 := Lib.hid hr1; clear hr1)
    | (refine wpl_store_newD rfl _ _ rfl rfl w1.heap.size rfl #[.slice a1 0 c1, .int .i64 (AD.newD c).cap, .int .i64 (AD.newD c).ops, .bool (AD.newD c).down, .bool (AD.newD c).told, .int .i64 (AD.newD c).after] rfl (by simp [Value.oneCell']) rfl rfl ?_; intro w5 HX5 hb5))
  have HD5 := Lib.hid (HD1.out.next hb5.out)
  have HB5 := Lib.hid (chain HB1.out hb5.out)
  have HG6 : Hid (w.heap.size < w1.heap.size ∧ w1.heap.size < w5.heap.size) := Lib.hid ⟨(Array.getElem?_eq_some_iff.1 HD1.out.1).1, (Array.getElem?_eq_some_iff.1 HX5.out.1).1⟩
  obtain ⟨F1, hF1⟩ : ∃ F1, plusF F w.heap.size w5.heap.size = F1 := ⟨_, rfl⟩
  have HFT1 : Hid (Foot F1 w5.heap.size) := Lib.hid (by rw [← hF1]; exact plusF_foot HFT.out HB5.out.size)
  have HIN0 : Hid (F1 w.heap.size = true) := Lib.hid (by rw [← hF1]; exact plusF_in F _ _ _ (Nat.le_refl _) (by have := HG6.out; omega))
  have HIN6 : Hid (F1 w1.heap.size = true) := Lib.hid (by rw [← hF1]; exact plusF_in F _ _ _ (by have := HG6.out; omega) HG6.out.2)
  have HSUB : Hid (∀ k, F k = true → F1 k = true) := Lib.hid fun k h1 => by rw [← hF1]; exact plusF_mono F _ _ k h1
  have HEX : Hid (Ext F w w5 F1) := Lib.hid (by rw [← hF1]; exact plusF_ext HB5.out)
  have HLA5 := Lib.hid (HLA.out.kin HEX.out.kin)
  have HRD0 : Hid (RD (mask F1 w5) (.agg #[.slice a1 0 c1, .int .i64 (AD.newD c).cap, .int .i64 (AD.newD c).ops, .bool (AD.newD c).down, .bool (AD.newD c).told, .int .i64 (AD.newD c).after]) (AD.newD c)) := Lib.hid ⟨_, rfl, FLs.zero HR1.out.fls⟩
  clear hF1
  go_loopw [7, 8] (fun ev iv wr => ∃ (i : Nat) (a7 : Option Addr) (n7 c7 : Nat) (d : AD), iv = .int .i64 i ∧ i ≤ n ∧ ev = .int .i64 0 ∧ Hid (layD c l i = d) ∧ Hid (layFrom c l 0 n = layFrom c l i (n - i)) ∧ Hid (DB wr w1.heap.size #[.slice a7 n7 c7, .int .i64 d.cap, .int .i64 d.ops, .bool d.down, .bool d.told, .int .i64 d.after]) ∧ Hid (RD (mask F1 wr) (.agg #[.slice a7 n7 c7, .int .i64 d.cap, .int .i64 d.ops, .bool d.down, .bool d.told, .int .i64 d.after]) d) ∧ Hid (Below w1.heap.size w1 wr) ∧ Hid (Ext F1 w5 wr F1) ∧ usedN d.L ≤ 10000000 * i ∧ d.L.length ≤ 2 * i) (fun _ iv _ => n - (intOf iv).toNat)
  case atStart => exact ⟨0, a1, 0, c1, AD.newD c, rfl, by omega, rfl, Lib.hid rfl, Lib.hid rfl, HX5, HRD0, hb5, Lib.hid (Ext.refl _ _), by simp [AD.newD, usedN], by simp [AD.newD]⟩
  case round =>
    obtain ⟨i, a7, n7, c7, d, rfl, hi, rfl, HLD, HLR, HDG, HRD, HB, HEW, hus, hlen⟩ := hrel
    have HFW : Hid (Foot F1 wr.heap.size) := Lib.hid (HFT1.out.mono HEW.out.size)
    have HBW : Hid (Below w.heap.size w wr) := Lib.hid (HB1.out.trans (HB.out.mono (by have := HG6.out; omega)))
    have HD0W := Lib.hid (HD1.out.below HB.out HG6.out.1)
    by_cases hlt : (i : Int) < (n : Int)
    · obtain ⟨f, hf⟩ := row_some (L := l) (i := i) (by have := HN.out; omega)
      obtain ⟨b, off, a2, c2, rfl, k0, k1, f1⟩ := HLA.out.at_ i f hf
      have hfm := HLF.out f (List.mem_of_getElem? hf)
      have HST := Lib.hid (layD_step c l i f hf)
      have HER : Hid (layE c l i = (d.makeR f.1 f.2.1).2) := Lib.hid (by unfold layE; rw [hf]; simp only; rw [HLD.out])
      rw [HLD.out] at HST
      have hgr := makeR_grows d f.1 f.2.1 (by omega)
      have HCELL : Hid (∀ wx, Below w.heap.size w wx → wx.cell? ⟨b, off + i * 2, none⟩ = some (.string f.1) ∧ wx.cell? ⟨b, off + i * 2 + 1, none⟩ = some (.slice a2 f.2.1 c2)) := Lib.hid fun wx hb => ⟨cell_keep hb (unmask F w _ _ k0), cell_keep hb (unmask F w _ _ k1)⟩
      have HFS := Lib.hid f1
      have HMK := Lib.hid fun (W : World) (hw : Foot F1 W.heap.size) (hr : RD (mask F1 W) (.agg #[.slice a7 n7 c7, .int .i64 d.cap, .int .i64 d.ops, .bool d.down, .bool d.told, .int .i64 d.after]) d) => rmake_any F1 (.agg #[.slice a7 n7 c7, .int .i64 d.cap, .int .i64 d.ops, .bool d.down, .bool d.told, .int .i64 d.after]) d f.1 f.2.1 W hw hr (by omega) (by omega) hfm.2 (by unfold I63; omega)
      obtain ⟨d2, hd2⟩ : ∃ d2, (d.makeR f.1 f.2.1).1 = d2 := ⟨_, rfl⟩
      obtain ⟨er, her⟩ : ∃ er, (d.makeR f.1 f.2.1).2 = er := ⟨_, rfl⟩
      rw [hd2, her] at HMK
      rw [hd2] at HST hgr
      rw [her] at HER
      clear hf k0 k1 f1 hd2 her
      go_wp2
      refine wp_region_held_drew (S := (fun W' => Below w.heap.size w W')) (by kernel_rfl) (HBW.out.drew) (fun hS => ?_)
      refine wpAnyH_take (i := 1) (oi := ({ dst := some 19, op := Op.move (Operand.tmp 1), type := 41, pos := "ref.go:145", after := #[], guard := none } : Oper)) (v := ?_) rfl (by kernel_rfl) (by kernel_rfl) (by kernel_rfl) (fun _ _ _ h => h) (Or.inl ⟨by rfl, ?_⟩) hS ?_
      rotate_left
      · (intro w hSw; (try dsimp only at hSw); go_simp; try with_reducible rfl)
      (try simp only [Act.put, List.setIfInBounds_toArray, List.set_cons_zero, List.set_cons_succ])
      refine wpAnyH_take (i := 2) (oi := ({ dst := some 20, op := Op.move (Operand.tmp 8), type := 3, pos := "ref.go:145", after := #[], guard := none } : Oper)) (v := ?_) rfl (by kernel_rfl) (by kernel_rfl) (by kernel_rfl) (fun _ _ _ h => h) (Or.inl ⟨by rfl, ?_⟩) hS ?_
      rotate_left
      · (intro w hSw; (try dsimp only at hSw); go_simp; try with_reducible rfl)
      (try simp only [Act.put, List.setIfInBounds_toArray, List.set_cons_zero, List.set_cons_succ])
      refine wpAnyH_take (i := 3) (oi := ({ dst := some 21, op := Op.indexAddr 41 (Operand.tmp 19) (Operand.tmp 20), type := 0, pos := "ref.go:145", after := #[{ on := 1, ground := Ground.data }, { on := 2, ground := Ground.data }], guard := none } : Oper)) (v := ?_) rfl (by kernel_rfl) (by kernel_rfl) (by kernel_rfl) (fun _ _ _ h => h) (Or.inl ⟨by rfl, ?_⟩) hS ?_
      rotate_left
      · (intro w hSw; (try dsimp only at hSw); go_simp; try with_reducible rfl)
      (try simp only [Act.put, List.setIfInBounds_toArray, List.set_cons_zero, List.set_cons_succ])
      refine wpAnyH_take (i := 4) (oi := ({ dst := some 22, op := Op.fieldAddr 44 (Operand.tmp 21) 0, type := 0, pos := "ref.go:145", after := #[{ on := 3, ground := Ground.data }], guard := none } : Oper)) (v := ?_) rfl (by kernel_rfl) (by kernel_rfl) (by kernel_rfl) (fun _ _ _ h => h) (Or.inl ⟨by rfl, ?_⟩) hS ?_
      rotate_left
      · (intro w hSw; (try dsimp only at hSw); go_simp; try with_reducible rfl)
      (try simp only [Act.put, List.setIfInBounds_toArray, List.set_cons_zero, List.set_cons_succ])
      refine wpAnyH_take (i := 5) (oi := ({ dst := some 23, op := Op.load 9 (Operand.tmp 22), type := 9, pos := "ref.go:145", after := #[{ on := 4, ground := Ground.data }], guard := none } : Oper)) (v := ?_) rfl (by kernel_rfl) (by kernel_rfl) (by kernel_rfl) (fun _ _ _ h => h) (Or.inl ⟨by rfl, ?_⟩) hS ?_
      rotate_left
      · (intro w hSw; (try dsimp only at hSw); obtain ⟨z0, z1⟩ := HCELL.out w hSw; go_simp; try with_reducible rfl)
      (try simp only [Act.put, List.setIfInBounds_toArray, List.set_cons_zero, List.set_cons_succ])
      refine wpAnyH_take (i := 6) (oi := ({ dst := some 24, op := Op.move (Operand.tmp 1), type := 41, pos := "ref.go:145", after := #[], guard := none } : Oper)) (v := ?_) rfl (by kernel_rfl) (by kernel_rfl) (by kernel_rfl) (fun _ _ _ h => h) (Or.inl ⟨by rfl, ?_⟩) hS ?_
      rotate_left
      · (intro w hSw; (try dsimp only at hSw); go_simp; try with_reducible rfl)
      (try simp only [Act.put, List.setIfInBounds_toArray, List.set_cons_zero, List.set_cons_succ])
      refine wpAnyH_take (i := 7) (oi := ({ dst := some 25, op := Op.move (Operand.tmp 8), type := 3, pos := "ref.go:145", after := #[], guard := none } : Oper)) (v := ?_) rfl (by kernel_rfl) (by kernel_rfl) (by kernel_rfl) (fun _ _ _ h => h) (Or.inl ⟨by rfl, ?_⟩) hS ?_
      rotate_left
      · (intro w hSw; (try dsimp only at hSw); go_simp; try with_reducible rfl)
      (try simp only [Act.put, List.setIfInBounds_toArray, List.set_cons_zero, List.set_cons_succ])
      refine wpAnyH_take (i := 8) (oi := ({ dst := some 26, op := Op.indexAddr 41 (Operand.tmp 24) (Operand.tmp 25), type := 0, pos := "ref.go:145", after := #[{ on := 6, ground := Ground.data }, { on := 7, ground := Ground.data }], guard := none } : Oper)) (v := ?_) rfl (by kernel_rfl) (by kernel_rfl) (by kernel_rfl) (fun _ _ _ h => h) (Or.inl ⟨by rfl, ?_⟩) hS ?_
      rotate_left
      · (intro w hSw; (try dsimp only at hSw); go_simp; try with_reducible rfl)
      (try simp only [Act.put, List.setIfInBounds_toArray, List.set_cons_zero, List.set_cons_succ])
      refine wpAnyH_take (i := 9) (oi := ({ dst := some 27, op := Op.fieldAddr 44 (Operand.tmp 26) 1, type := 0, pos := "ref.go:145", after := #[{ on := 8, ground := Ground.data }], guard := none } : Oper)) (v := ?_) rfl (by kernel_rfl) (by kernel_rfl) (by kernel_rfl) (fun _ _ _ h => h) (Or.inl ⟨by rfl, ?_⟩) hS ?_
      rotate_left
      · (intro w hSw; (try dsimp only at hSw); go_simp; try with_reducible rfl)
      (try simp only [Act.put, List.setIfInBounds_toArray, List.set_cons_zero, List.set_cons_succ])
      refine wpAnyH_take (i := 10) (oi := ({ dst := some 28, op := Op.load 42 (Operand.tmp 27), type := 42, pos := "ref.go:145", after := #[{ on := 9, ground := Ground.data }], guard := none } : Oper)) (v := ?_) rfl (by kernel_rfl) (by kernel_rfl) (by kernel_rfl) (fun _ _ _ h => h) (Or.inl ⟨by rfl, ?_⟩) hS ?_
      rotate_left
      · (intro w hSw; (try dsimp only at hSw); obtain ⟨z0, z1⟩ := HCELL.out w hSw; go_simp; try with_reducible rfl)
      (try simp only [Act.put, List.setIfInBounds_toArray, List.set_cons_zero, List.set_cons_succ])
      refine wpAnyH_take (i := 11) (oi := ({ dst := some 29, op := Op.call { callee := Callee.builtin Builtin.len, args := #[Operand.tmp 28], argTypes := #[42] }, type := 3, pos := "ref.go:145", after := #[{ on := 10, ground := Ground.data }], guard := none } : Oper)) (v := ?_) rfl (by kernel_rfl) (by kernel_rfl) (by kernel_rfl) (fun _ _ _ h => h) (Or.inl ⟨by rfl, ?_⟩) hS ?_
      rotate_left
      · (intro w hSw; (try dsimp only at hSw); go_simp; try with_reducible rfl)
      (try simp only [Act.put, List.setIfInBounds_toArray, List.set_cons_zero, List.set_cons_succ])
      refine rg_one 0 ({ dst := some 18, op := Op.load 29 (Operand.tmp 6), type := 29, pos := "ref.go:145", after := #[], guard := none } : Oper) (by kernel_rfl) rfl (fun K hK => ?_)
      rw [if_pos (by rfl)]; refine wp_load_row 29 (.tmp 6) rfl w1.heap.size rfl _ #[.slice a7 n7 c7, .int .i64 d.cap, .int .i64 d.ops, .bool d.down, .bool d.told, .int .i64 d.after] (0, 0) _ (HDG.out.next (Below.refl _ _).drew).1 Try.underlying29 rfl disk_info ?_
      refine hK.out _ _ ?_ (fun hS1 => ?_)
      · (first | exact hS | exact chain hS hb | exact hN)
      clear hK K hS; have hS := hS1; clear hS1
      (try simp only [Act.put, List.setIfInBounds_toArray, List.set_cons_zero, List.set_cons_succ])
      refine rg_one 12 ({ dst := some 30, op := Op.call { callee := Callee.value (Operand.func 31), args := #[Operand.tmp 18, Operand.tmp 23, Operand.tmp 29], argTypes := #[29, 9, 3] }, type := 48, pos := "ref.go:145", after := #[{ on := 0, ground := Ground.data }, { on := 5, ground := Ground.data }, { on := 11, ground := Ground.data }], guard := none } : Oper) (by kernel_rfl) rfl (fun K hK => ?_)
      go_simp
      (go_at_call 31; (with_reducible refine (HMK.out wr.drew (HFW.out.mono (show wr.heap.size ≤ wr.drew.heap.size from Nat.le_refl _)) (HRD.out.kin (kin_drew _ _))).mono ?_); rintro e w8 ⟨v8, rfl, hr8, hb⟩; obtain ⟨a8, n8, c8, rfl, _⟩ := hr8.agg; have HR8 := Lib.hid hr8; have HDG8 := Lib.hid ((HDG.out.next (Below.refl _ _).drew).next hb); have HBX8 := Lib.hid hb)
      refine hK.out _ _ ?_ (fun hS1 => ?_)
      · (first | exact hS | exact chain hS hb | exact hN)
      clear hK K hS; have hS := hS1; clear hS1
      (try simp only [Act.put, List.setIfInBounds_toArray, List.set_cons_zero, List.set_cons_succ])
      refine wpAnyH_take (i := 13) (oi := ({ dst := some 17, op := Op.move (Operand.tmp 30), type := 48, pos := "ref.go:145", after := #[{ on := 12, ground := Ground.data }], guard := none } : Oper)) (v := ?_) rfl (by kernel_rfl) (by kernel_rfl) (by kernel_rfl) (fun _ _ _ h => h) (Or.inl ⟨by rfl, ?_⟩) hS ?_
      rotate_left
      · (intro w hSw; (try dsimp only at hSw); go_simp; try with_reducible rfl)
      (try simp only [Act.put, List.setIfInBounds_toArray, List.set_cons_zero, List.set_cons_succ])
      refine wpAnyH_take (i := 14) (oi := ({ dst := some 31, op := Op.extract (Operand.tmp 17) 0, type := 29, pos := "ref.go:145", after := #[{ on := 13, ground := Ground.data }], guard := none } : Oper)) (v := ?_) rfl (by kernel_rfl) (by kernel_rfl) (by kernel_rfl) (fun _ _ _ h => h) (Or.inl ⟨by rfl, ?_⟩) hS ?_
      rotate_left
      · (intro w hSw; (try dsimp only at hSw); go_simp; try with_reducible rfl)
      (try simp only [Act.put, List.setIfInBounds_toArray, List.set_cons_zero, List.set_cons_succ])
      refine wpAnyH_take (i := 15) (oi := ({ dst := some 32, op := Op.extract (Operand.tmp 17) 1, type := 45, pos := "ref.go:145", after := #[{ on := 13, ground := Ground.data }, { on := 16, ground := Ground.gcOnly Departure.lateStores }], guard := none } : Oper)) (v := ?_) rfl (by kernel_rfl) (by kernel_rfl) (by kernel_rfl) (fun _ _ _ h => h) (Or.inl ⟨by rfl, ?_⟩) hS ?_
      rotate_left
      · (intro w hSw; (try dsimp only at hSw); go_simp; try with_reducible rfl)
      (try simp only [Act.put, List.setIfInBounds_toArray, List.set_cons_zero, List.set_cons_succ])
      refine rg_one 16 ({ dst := none, op := Op.store 29 (Operand.tmp 6) (Operand.tmp 31), type := 0, pos := "ref.go:145", after := #[{ on := 14, ground := Ground.data }, { on := 12, ground := Ground.chain }, { on := 0, ground := Ground.phase }, { on := 1, ground := Ground.phase }, { on := 2, ground := Ground.phase }, { on := 3, ground := Ground.phase }, { on := 4, ground := Ground.phase }, { on := 5, ground := Ground.phase }, { on := 6, ground := Ground.phase }, { on := 7, ground := Ground.phase }, { on := 8, ground := Ground.phase }, { on := 9, ground := Ground.phase }, { on := 10, ground := Ground.phase }, { on := 11, ground := Ground.phase }, { on := 12, ground := Ground.phase }, { on := 13, ground := Ground.phase }, { on := 14, ground := Ground.phase }, { on := 15, ground := Ground.textOnly Departure.lateStores }], guard := none } : Oper) (by kernel_rfl) rfl (fun K hK => ?_)
      rw [if_pos (by rfl)]; refine wp_store_row 29 (.tmp 6) (.tmp 31) rfl w1.heap.size #[.slice a8 n8 c8, .int .i64 d2.cap, .int .i64 d2.ops, .bool d2.down, .bool d2.told, .int .i64 d2.after] rfl rfl _ #[.slice a7 n7 c7, .int .i64 d.cap, .int .i64 d.ops, .bool d.down, .bool d.told, .int .i64 d.after] HDG8.out.1 disk_info (by rfl) (by simp [Value.oneCell']) ?_; have hN := below_row hS (Nat.le_of_lt HG6.out.1) #[.slice a8 n8 c8, .int .i64 d2.cap, .int .i64 d2.ops, .bool d2.down, .bool d2.told, .int .i64 d2.after]; have HDG9 := Lib.hid (HDG8.out.row (cs' := #[.slice a8 n8 c8, .int .i64 d2.cap, .int .i64 d2.ops, .bool d2.down, .bool d2.told, .int .i64 d2.after]) rfl)
      refine hK.out _ _ ?_ (fun hS1 => ?_)
      · (first | exact hS | exact chain hS hb | exact hN)
      clear hK K hS; have hS := hS1; clear hS1
      (try simp only [Act.put])
      refine wpAnyH_take (i := 17) (oi := ({ dst := some 7, op := Op.assign (Operand.tmp 32), type := 45, pos := "ref.go:145", after := #[{ on := 15, ground := Ground.data }, { on := 16, ground := Ground.chain }, { on := 0, ground := Ground.phase }, { on := 1, ground := Ground.phase }, { on := 2, ground := Ground.phase }, { on := 3, ground := Ground.phase }, { on := 4, ground := Ground.phase }, { on := 5, ground := Ground.phase }, { on := 6, ground := Ground.phase }, { on := 7, ground := Ground.phase }, { on := 8, ground := Ground.phase }, { on := 9, ground := Ground.phase }, { on := 10, ground := Ground.phase }, { on := 11, ground := Ground.phase }, { on := 12, ground := Ground.phase }, { on := 13, ground := Ground.phase }, { on := 14, ground := Ground.phase }, { on := 15, ground := Ground.phase }, { on := 16, ground := Ground.phase }], guard := none } : Oper)) (v := ?_) rfl (by kernel_rfl) (by kernel_rfl) (by kernel_rfl) (fun _ _ _ h => h) (Or.inl ⟨by rfl, ?_⟩) hS ?_
      rotate_left
      · (intro w hSw; (try dsimp only at hSw); go_simp; try with_reducible rfl)
      (try simp only [Act.put, List.setIfInBounds_toArray, List.set_cons_zero, List.set_cons_succ])
      refine wpAnyH_done (by kernel_rfl) ?_ _
      obtain ⟨w9, hw9⟩ : ∃ w9, w8.setRow w1.heap.size #[.slice a8 n8 c8, .int .i64 d2.cap, .int .i64 d2.ops, .bool d2.down, .bool d2.told, .int .i64 d2.after] = w9 := ⟨_, rfl⟩
      have HBW9 := Lib.hid hS
      have HEW9 : Hid (Ext F1 w5 w9 F1) := Lib.hid (by rw [← hw9]; exact (HEW.out.trans (Ext.below (chain (Below.refl _ _).drew HBX8.out))).setRow _ HIN6.out _)
      have HB9 : Hid (Below w1.heap.size w1 w9) := Lib.hid (by rw [← hw9]; exact below_row (HB.out.drew.trans (HBX8.out.mono HB.out.size)) (Nat.le_refl _) _)
      have HRD9 : Hid (RD (mask F1 w9) (.agg #[.slice a8 n8 c8, .int .i64 d2.cap, .int .i64 d2.ops, .bool d2.down, .bool d2.told, .int .i64 d2.after]) d2) := Lib.hid (by rw [← hw9]; exact HR8.out.kin ((Ext.refl F1 w8).setRow _ HIN6.out _).kin)
      rw [hw9] at HDG9 HBW9 ⊢
      clear hw9
      by_cases he : er = 0
      · rw [he] at HER ⊢
        have HLR9 : Hid (layFrom c l 0 n = layFrom c l (i + 1) (n - (i + 1))) := Lib.hid (by
          rw [HLR.out, show n - i = (n - (i + 1)) + 1 from by omega, layFrom, if_neg (by rw [HER.out]; simp)])
        have hmk := make_bools_run f.2.1 (by omega)
        have HL9 := Lib.hid (show d2.L.length ≤ 1000000 from by omega)
        obtain ⟨d3, hd3⟩ : ∃ d3, d2.withF ⟨f.1, f.2.1, f.2.2, f.2.2, List.replicate f.2.1 false⟩ = d3 := ⟨_, rfl⟩
        have hwu := withF_used d2 ⟨f.1, f.2.1, f.2.2, f.2.2, List.replicate f.2.1 false⟩
        have hwl := withF_len d2 ⟨f.1, f.2.1, f.2.2, f.2.2, List.replicate f.2.1 false⟩
        rw [hd3] at hwu hwl
        simp only at hwu
        have HD3 := Lib.hid hd3
        have HFW9 : Hid (Foot F1 w9.heap.size) := Lib.hid (HFT1.out.mono HEW9.out.size)
        have HFS9 := Lib.hid (HFS.out.kin (HEX.out.trans HEW9.out).kin)
        clear he hd3
        go_wp2
        refine wp_region_held_drew (S := (fun W' => Below w.heap.size w W')) (by kernel_rfl) (HBW9.out.drew) (fun hS => ?_)
        refine wpAnyH_take (i := 1) (oi := ({ dst := some 38, op := Op.move (Operand.tmp 1), type := 41, pos := "ref.go:149", after := #[], guard := none } : Oper)) (v := ?_) rfl (by kernel_rfl) (by kernel_rfl) (by kernel_rfl) (fun _ _ _ h => h) (Or.inl ⟨by rfl, ?_⟩) hS ?_
        rotate_left
        · (intro w hSw; (try dsimp only at hSw); go_simp; try with_reducible rfl)
        (try simp only [Act.put, List.setIfInBounds_toArray, List.set_cons_zero, List.set_cons_succ])
        refine wpAnyH_take (i := 2) (oi := ({ dst := some 39, op := Op.move (Operand.tmp 8), type := 3, pos := "ref.go:149", after := #[], guard := none } : Oper)) (v := ?_) rfl (by kernel_rfl) (by kernel_rfl) (by kernel_rfl) (fun _ _ _ h => h) (Or.inl ⟨by rfl, ?_⟩) hS ?_
        rotate_left
        · (intro w hSw; (try dsimp only at hSw); go_simp; try with_reducible rfl)
        (try simp only [Act.put, List.setIfInBounds_toArray, List.set_cons_zero, List.set_cons_succ])
        refine wpAnyH_take (i := 3) (oi := ({ dst := some 40, op := Op.indexAddr 41 (Operand.tmp 38) (Operand.tmp 39), type := 0, pos := "ref.go:149", after := #[{ on := 1, ground := Ground.data }, { on := 2, ground := Ground.data }], guard := none } : Oper)) (v := ?_) rfl (by kernel_rfl) (by kernel_rfl) (by kernel_rfl) (fun _ _ _ h => h) (Or.inl ⟨by rfl, ?_⟩) hS ?_
        rotate_left
        · (intro w hSw; (try dsimp only at hSw); go_simp; try with_reducible rfl)
        (try simp only [Act.put, List.setIfInBounds_toArray, List.set_cons_zero, List.set_cons_succ])
        refine wpAnyH_take (i := 4) (oi := ({ dst := some 41, op := Op.fieldAddr 44 (Operand.tmp 40) 0, type := 0, pos := "ref.go:149", after := #[{ on := 3, ground := Ground.data }], guard := none } : Oper)) (v := ?_) rfl (by kernel_rfl) (by kernel_rfl) (by kernel_rfl) (fun _ _ _ h => h) (Or.inl ⟨by rfl, ?_⟩) hS ?_
        rotate_left
        · (intro w hSw; (try dsimp only at hSw); go_simp; try with_reducible rfl)
        (try simp only [Act.put, List.setIfInBounds_toArray, List.set_cons_zero, List.set_cons_succ])
        refine wpAnyH_take (i := 5) (oi := ({ dst := some 42, op := Op.load 9 (Operand.tmp 41), type := 9, pos := "ref.go:149", after := #[{ on := 4, ground := Ground.data }], guard := none } : Oper)) (v := ?_) rfl (by kernel_rfl) (by kernel_rfl) (by kernel_rfl) (fun _ _ _ h => h) (Or.inl ⟨by rfl, ?_⟩) hS ?_
        rotate_left
        · (intro w hSw; (try dsimp only at hSw); obtain ⟨z0, z1⟩ := HCELL.out w hSw; go_simp; try with_reducible rfl)
        (try simp only [Act.put, List.setIfInBounds_toArray, List.set_cons_zero, List.set_cons_succ])
        refine wpAnyH_take (i := 6) (oi := ({ dst := some 43, op := Op.move (Operand.tmp 1), type := 41, pos := "ref.go:149", after := #[], guard := none } : Oper)) (v := ?_) rfl (by kernel_rfl) (by kernel_rfl) (by kernel_rfl) (fun _ _ _ h => h) (Or.inl ⟨by rfl, ?_⟩) hS ?_
        rotate_left
        · (intro w hSw; (try dsimp only at hSw); go_simp; try with_reducible rfl)
        (try simp only [Act.put, List.setIfInBounds_toArray, List.set_cons_zero, List.set_cons_succ])
        refine wpAnyH_take (i := 7) (oi := ({ dst := some 44, op := Op.move (Operand.tmp 8), type := 3, pos := "ref.go:149", after := #[], guard := none } : Oper)) (v := ?_) rfl (by kernel_rfl) (by kernel_rfl) (by kernel_rfl) (fun _ _ _ h => h) (Or.inl ⟨by rfl, ?_⟩) hS ?_
        rotate_left
        · (intro w hSw; (try dsimp only at hSw); go_simp; try with_reducible rfl)
        (try simp only [Act.put, List.setIfInBounds_toArray, List.set_cons_zero, List.set_cons_succ])
        refine wpAnyH_take (i := 8) (oi := ({ dst := some 45, op := Op.indexAddr 41 (Operand.tmp 43) (Operand.tmp 44), type := 0, pos := "ref.go:149", after := #[{ on := 6, ground := Ground.data }, { on := 7, ground := Ground.data }], guard := none } : Oper)) (v := ?_) rfl (by kernel_rfl) (by kernel_rfl) (by kernel_rfl) (fun _ _ _ h => h) (Or.inl ⟨by rfl, ?_⟩) hS ?_
        rotate_left
        · (intro w hSw; (try dsimp only at hSw); go_simp; try with_reducible rfl)
        (try simp only [Act.put, List.setIfInBounds_toArray, List.set_cons_zero, List.set_cons_succ])
        refine wpAnyH_take (i := 9) (oi := ({ dst := some 46, op := Op.fieldAddr 44 (Operand.tmp 45) 1, type := 0, pos := "ref.go:149", after := #[{ on := 8, ground := Ground.data }], guard := none } : Oper)) (v := ?_) rfl (by kernel_rfl) (by kernel_rfl) (by kernel_rfl) (fun _ _ _ h => h) (Or.inl ⟨by rfl, ?_⟩) hS ?_
        rotate_left
        · (intro w hSw; (try dsimp only at hSw); go_simp; try with_reducible rfl)
        (try simp only [Act.put, List.setIfInBounds_toArray, List.set_cons_zero, List.set_cons_succ])
        refine wpAnyH_take (i := 10) (oi := ({ dst := some 47, op := Op.load 42 (Operand.tmp 46), type := 42, pos := "ref.go:149", after := #[{ on := 9, ground := Ground.data }], guard := none } : Oper)) (v := ?_) rfl (by kernel_rfl) (by kernel_rfl) (by kernel_rfl) (fun _ _ _ h => h) (Or.inl ⟨by rfl, ?_⟩) hS ?_
        rotate_left
        · (intro w hSw; (try dsimp only at hSw); obtain ⟨z0, z1⟩ := HCELL.out w hSw; go_simp; try with_reducible rfl)
        (try simp only [Act.put, List.setIfInBounds_toArray, List.set_cons_zero, List.set_cons_succ])
        refine wpAnyH_take (i := 11) (oi := ({ dst := some 48, op := Op.move (Operand.tmp 1), type := 41, pos := "ref.go:149", after := #[], guard := none } : Oper)) (v := ?_) rfl (by kernel_rfl) (by kernel_rfl) (by kernel_rfl) (fun _ _ _ h => h) (Or.inl ⟨by rfl, ?_⟩) hS ?_
        rotate_left
        · (intro w hSw; (try dsimp only at hSw); go_simp; try with_reducible rfl)
        (try simp only [Act.put, List.setIfInBounds_toArray, List.set_cons_zero, List.set_cons_succ])
        refine wpAnyH_take (i := 12) (oi := ({ dst := some 49, op := Op.move (Operand.tmp 8), type := 3, pos := "ref.go:149", after := #[], guard := none } : Oper)) (v := ?_) rfl (by kernel_rfl) (by kernel_rfl) (by kernel_rfl) (fun _ _ _ h => h) (Or.inl ⟨by rfl, ?_⟩) hS ?_
        rotate_left
        · (intro w hSw; (try dsimp only at hSw); go_simp; try with_reducible rfl)
        (try simp only [Act.put, List.setIfInBounds_toArray, List.set_cons_zero, List.set_cons_succ])
        refine wpAnyH_take (i := 13) (oi := ({ dst := some 50, op := Op.indexAddr 41 (Operand.tmp 48) (Operand.tmp 49), type := 0, pos := "ref.go:149", after := #[{ on := 11, ground := Ground.data }, { on := 12, ground := Ground.data }], guard := none } : Oper)) (v := ?_) rfl (by kernel_rfl) (by kernel_rfl) (by kernel_rfl) (fun _ _ _ h => h) (Or.inl ⟨by rfl, ?_⟩) hS ?_
        rotate_left
        · (intro w hSw; (try dsimp only at hSw); go_simp; try with_reducible rfl)
        (try simp only [Act.put, List.setIfInBounds_toArray, List.set_cons_zero, List.set_cons_succ])
        refine wpAnyH_take (i := 14) (oi := ({ dst := some 51, op := Op.fieldAddr 44 (Operand.tmp 50) 1, type := 0, pos := "ref.go:149", after := #[{ on := 13, ground := Ground.data }], guard := none } : Oper)) (v := ?_) rfl (by kernel_rfl) (by kernel_rfl) (by kernel_rfl) (fun _ _ _ h => h) (Or.inl ⟨by rfl, ?_⟩) hS ?_
        rotate_left
        · (intro w hSw; (try dsimp only at hSw); go_simp; try with_reducible rfl)
        (try simp only [Act.put, List.setIfInBounds_toArray, List.set_cons_zero, List.set_cons_succ])
        refine wpAnyH_take (i := 15) (oi := ({ dst := some 52, op := Op.load 42 (Operand.tmp 51), type := 42, pos := "ref.go:149", after := #[{ on := 14, ground := Ground.data }], guard := none } : Oper)) (v := ?_) rfl (by kernel_rfl) (by kernel_rfl) (by kernel_rfl) (fun _ _ _ h => h) (Or.inl ⟨by rfl, ?_⟩) hS ?_
        rotate_left
        · (intro w hSw; (try dsimp only at hSw); obtain ⟨z0, z1⟩ := HCELL.out w hSw; go_simp; try with_reducible rfl)
        (try simp only [Act.put, List.setIfInBounds_toArray, List.set_cons_zero, List.set_cons_succ])
        refine wpAnyH_take (i := 16) (oi := ({ dst := some 53, op := Op.move (Operand.tmp 1), type := 41, pos := "ref.go:149", after := #[], guard := none } : Oper)) (v := ?_) rfl (by kernel_rfl) (by kernel_rfl) (by kernel_rfl) (fun _ _ _ h => h) (Or.inl ⟨by rfl, ?_⟩) hS ?_
        rotate_left
        · (intro w hSw; (try dsimp only at hSw); go_simp; try with_reducible rfl)
        (try simp only [Act.put, List.setIfInBounds_toArray, List.set_cons_zero, List.set_cons_succ])
        refine wpAnyH_take (i := 17) (oi := ({ dst := some 54, op := Op.move (Operand.tmp 8), type := 3, pos := "ref.go:149", after := #[], guard := none } : Oper)) (v := ?_) rfl (by kernel_rfl) (by kernel_rfl) (by kernel_rfl) (fun _ _ _ h => h) (Or.inl ⟨by rfl, ?_⟩) hS ?_
        rotate_left
        · (intro w hSw; (try dsimp only at hSw); go_simp; try with_reducible rfl)
        (try simp only [Act.put, List.setIfInBounds_toArray, List.set_cons_zero, List.set_cons_succ])
        refine wpAnyH_take (i := 18) (oi := ({ dst := some 55, op := Op.indexAddr 41 (Operand.tmp 53) (Operand.tmp 54), type := 0, pos := "ref.go:149", after := #[{ on := 16, ground := Ground.data }, { on := 17, ground := Ground.data }], guard := none } : Oper)) (v := ?_) rfl (by kernel_rfl) (by kernel_rfl) (by kernel_rfl) (fun _ _ _ h => h) (Or.inl ⟨by rfl, ?_⟩) hS ?_
        rotate_left
        · (intro w hSw; (try dsimp only at hSw); go_simp; try with_reducible rfl)
        (try simp only [Act.put, List.setIfInBounds_toArray, List.set_cons_zero, List.set_cons_succ])
        refine wpAnyH_take (i := 19) (oi := ({ dst := some 56, op := Op.fieldAddr 44 (Operand.tmp 55) 1, type := 0, pos := "ref.go:149", after := #[{ on := 18, ground := Ground.data }], guard := none } : Oper)) (v := ?_) rfl (by kernel_rfl) (by kernel_rfl) (by kernel_rfl) (fun _ _ _ h => h) (Or.inl ⟨by rfl, ?_⟩) hS ?_
        rotate_left
        · (intro w hSw; (try dsimp only at hSw); go_simp; try with_reducible rfl)
        (try simp only [Act.put, List.setIfInBounds_toArray, List.set_cons_zero, List.set_cons_succ])
        refine wpAnyH_take (i := 20) (oi := ({ dst := some 57, op := Op.load 42 (Operand.tmp 56), type := 42, pos := "ref.go:149", after := #[{ on := 19, ground := Ground.data }], guard := none } : Oper)) (v := ?_) rfl (by kernel_rfl) (by kernel_rfl) (by kernel_rfl) (fun _ _ _ h => h) (Or.inl ⟨by rfl, ?_⟩) hS ?_
        rotate_left
        · (intro w hSw; (try dsimp only at hSw); obtain ⟨z0, z1⟩ := HCELL.out w hSw; go_simp; try with_reducible rfl)
        (try simp only [Act.put, List.setIfInBounds_toArray, List.set_cons_zero, List.set_cons_succ])
        refine wpAnyH_take (i := 21) (oi := ({ dst := some 58, op := Op.call { callee := Callee.builtin Builtin.len, args := #[Operand.tmp 57], argTypes := #[42] }, type := 3, pos := "ref.go:149", after := #[{ on := 20, ground := Ground.data }], guard := none } : Oper)) (v := ?_) rfl (by kernel_rfl) (by kernel_rfl) (by kernel_rfl) (fun _ _ _ h => h) (Or.inl ⟨by rfl, ?_⟩) hS ?_
        rotate_left
        · (intro w hSw; (try dsimp only at hSw); go_simp; try with_reducible rfl)
        (try simp only [Act.put, List.setIfInBounds_toArray, List.set_cons_zero, List.set_cons_succ])
        refine rg_both 0 22 ({ dst := some 37, op := Op.load 29 (Operand.tmp 6), type := 29, pos := "ref.go:149", after := #[], guard := none } : Oper) ({ dst := some 59, op := Op.makeSlice 80 (Operand.tmp 58) (Operand.tmp 58), type := 80, pos := "ref.go:149", after := #[{ on := 21, ground := Ground.data }, { on := 21, ground := Ground.data }], guard := none } : Oper) (by kernel_rfl) rfl rfl (fun K hK => ?_) (fun K hK => ?_)
        · skip
          rw [if_pos (by rfl)]; refine wp_load_row 29 (.tmp 6) rfl w1.heap.size rfl _ #[.slice a8 n8 c8, .int .i64 d2.cap, .int .i64 d2.ops, .bool d2.down, .bool d2.told, .int .i64 d2.after] (0, 0) _ (HDG9.out.next (Below.refl _ _).drew).1 Try.underlying29 rfl disk_info ?_
          refine hK.out _ _ ?_ (fun hS1 => ?_)
          · (first | exact hS | exact chain hS hb | exact hN)
          clear hK K hS; have hS := hS1; clear hS1
          (try simp only [Act.put, List.setIfInBounds_toArray, List.set_cons_zero, List.set_cons_succ])
          refine rg_one 22 ({ dst := some 59, op := Op.makeSlice 80 (Operand.tmp 58) (Operand.tmp 58), type := 80, pos := "ref.go:149", after := #[{ on := 21, ground := Ground.data }, { on := 21, ground := Ground.data }], guard := none } : Oper) (by kernel_rfl) rfl (fun K hK => ?_)
          go_simp
          (have hb : Below w9.drew.heap.size w9.drew (w9.alloc (.cells (Array.replicate f.2.1 (Value.bool false)) 4)).drew := below_drew_alloc w9 (.cells (Array.replicate f.2.1 (Value.bool false)) 4))
          refine hK.out _ _ ?_ (fun hS1 => ?_)
          · (first | exact hS | exact chain hS hb | exact hN)
          clear hK K hS; have hS := hS1; clear hS1
          (try simp only [Act.put, List.setIfInBounds_toArray, List.set_cons_zero, List.set_cons_succ])
          refine wpAnyH_take (i := 23) (oi := ({ dst := some 60, op := Op.build 82 #[(0, Operand.tmp 42), (1, Operand.tmp 47), (2, Operand.tmp 52), (3, Operand.tmp 59)], type := 82, pos := "ref.go:149", after := #[{ on := 5, ground := Ground.data }, { on := 10, ground := Ground.data }, { on := 15, ground := Ground.data }, { on := 22, ground := Ground.data }], guard := none } : Oper)) (v := ?_) rfl (by kernel_rfl) (by kernel_rfl) (by kernel_rfl) (fun _ _ _ h => h) (Or.inl ⟨by rfl, ?_⟩) hS ?_
          rotate_left
          · (intro w hSw; (try dsimp only at hSw); go_simp; try with_reducible rfl)
          (try simp only [Act.put, List.setIfInBounds_toArray, List.set_cons_zero, List.set_cons_succ])
          refine rg_one 24 ({ dst := some 61, op := Op.call { callee := Callee.value (Operand.func 47), args := #[Operand.tmp 37, Operand.tmp 60], argTypes := #[29, 82] }, type := 29, pos := "ref.go:149", after := #[{ on := 0, ground := Ground.data }, { on := 23, ground := Ground.data }], guard := none } : Oper) (by kernel_rfl) rfl (fun K hK => ?_)
          go_simp
          (go_at_call 47; (refine (rwith_any F1 _ d2 a2 c2 a2 c2 (some ⟨w9.heap.size, 0, none⟩) f.2.1 ⟨f.1, f.2.1, f.2.2, f.2.2, List.replicate f.2.1 false⟩ (w9.alloc (.cells (Array.replicate f.2.1 (Value.bool false)) 4)).drew (HFW9.out.mono (show w9.heap.size ≤ (w9.alloc (.cells (Array.replicate f.2.1 (Value.bool false)) 4)).drew.heap.size from (below_alloc w9 (.cells (Array.replicate f.2.1 (Value.bool false)) 4)).size)) ((HRD9.out.kin (kin_mask (below_alloc w9 (.cells (Array.replicate f.2.1 (Value.bool false)) 4)))).kin (kin_drew _ _)) ⟨_, _, _, rfl, (HFS9.out.kin (kin_mask (below_alloc w9 (.cells (Array.replicate f.2.1 (Value.bool false)) 4)))).kin (kin_drew _ _), (HFS9.out.kin (kin_mask (below_alloc w9 (.cells (Array.replicate f.2.1 (Value.bool false)) 4)))).kin (kin_drew _ _), (BS.fresh HFW9.out f.2.1 (by omega) 4).kin (kin_drew _ _)⟩ HL9.out).mono ?_); rintro e wa ⟨va, rfl, hra, hb⟩; rw [HD3.out] at hra; obtain ⟨a9, n9, c9, rfl, _⟩ := hra.agg; have HRA := Lib.hid hra; have HDGA := Lib.hid (((HDG9.out.next (Below.refl _ _).drew).next (below_drew_alloc w9 (.cells (Array.replicate f.2.1 (Value.bool false)) 4))).next hb); have HBXA := Lib.hid (chain (chain (Below.refl w9.heap.size w9).drew (below_drew_alloc w9 (.cells (Array.replicate f.2.1 (Value.bool false)) 4))) hb))
          refine hK.out _ _ ?_ (fun hS1 => ?_)
          · (first | exact hS | exact chain hS hb | exact hN)
          clear hK K hS; have hS := hS1; clear hS1
          (try simp only [Act.put, List.setIfInBounds_toArray, List.set_cons_zero, List.set_cons_succ])
          refine rg_one 25 ({ dst := none, op := Op.store 29 (Operand.tmp 6) (Operand.tmp 61), type := 0, pos := "ref.go:149", after := #[{ on := 24, ground := Ground.data }, { on := 24, ground := Ground.chain }, { on := 0, ground := Ground.phase }, { on := 1, ground := Ground.phase }, { on := 2, ground := Ground.phase }, { on := 3, ground := Ground.phase }, { on := 4, ground := Ground.phase }, { on := 5, ground := Ground.phase }, { on := 6, ground := Ground.phase }, { on := 7, ground := Ground.phase }, { on := 8, ground := Ground.phase }, { on := 9, ground := Ground.phase }, { on := 10, ground := Ground.phase }, { on := 11, ground := Ground.phase }, { on := 12, ground := Ground.phase }, { on := 13, ground := Ground.phase }, { on := 14, ground := Ground.phase }, { on := 15, ground := Ground.phase }, { on := 16, ground := Ground.phase }, { on := 17, ground := Ground.phase }, { on := 18, ground := Ground.phase }, { on := 19, ground := Ground.phase }, { on := 20, ground := Ground.phase }, { on := 21, ground := Ground.phase }, { on := 22, ground := Ground.phase }, { on := 23, ground := Ground.phase }, { on := 24, ground := Ground.phase }], guard := none } : Oper) (by kernel_rfl) rfl (fun K hK => ?_)
          rw [if_pos (by rfl)]; refine wp_store_row 29 (.tmp 6) (.tmp 61) rfl w1.heap.size #[.slice a9 n9 c9, .int .i64 d3.cap, .int .i64 d3.ops, .bool d3.down, .bool d3.told, .int .i64 d3.after] rfl rfl _ #[.slice a8 n8 c8, .int .i64 d2.cap, .int .i64 d2.ops, .bool d2.down, .bool d2.told, .int .i64 d2.after] HDGA.out.1 disk_info (by rfl) (by simp [Value.oneCell']) ?_; have hN := below_row hS (Nat.le_of_lt HG6.out.1) #[.slice a9 n9 c9, .int .i64 d3.cap, .int .i64 d3.ops, .bool d3.down, .bool d3.told, .int .i64 d3.after]; have HDGB := Lib.hid (HDGA.out.row (cs' := #[.slice a9 n9 c9, .int .i64 d3.cap, .int .i64 d3.ops, .bool d3.down, .bool d3.told, .int .i64 d3.after]) rfl)
          refine hK.out _ _ ?_ (fun hS1 => ?_)
          · (first | exact hS | exact chain hS hb | exact hN)
          clear hK K hS; have hS := hS1; clear hS1
          (try simp only [Act.put])
          refine wpAnyH_done (by kernel_rfl) ?_ _
          have HEWB : Hid (Ext F1 w5 (wa.setRow w1.heap.size #[.slice a9 n9 c9, .int .i64 d3.cap, .int .i64 d3.ops, .bool d3.down, .bool d3.told, .int .i64 d3.after]) F1) := Lib.hid ((HEW9.out.trans (Ext.below HBXA.out)).setRow _ HIN6.out _)
          have HBB : Hid (Below w1.heap.size w1 (wa.setRow w1.heap.size #[.slice a9 n9 c9, .int .i64 d3.cap, .int .i64 d3.ops, .bool d3.down, .bool d3.told, .int .i64 d3.after])) := Lib.hid (below_row (HB9.out.trans (HBXA.out.mono HB9.out.size)) (Nat.le_refl _) _)
          have HRDB : Hid (RD (mask F1 (wa.setRow w1.heap.size #[.slice a9 n9 c9, .int .i64 d3.cap, .int .i64 d3.ops, .bool d3.down, .bool d3.told, .int .i64 d3.after])) (.agg #[.slice a9 n9 c9, .int .i64 d3.cap, .int .i64 d3.ops, .bool d3.down, .bool d3.told, .int .i64 d3.after]) d3) := Lib.hid (HRA.out.kin ((Ext.refl F1 wa).setRow _ HIN6.out _).kin)
          go_wp2
          exact ⟨⟨i + 1, a9, n9, c9, d3, by go_num, by omega, rfl, Lib.hid (by rw [HST.out]; exact HD3.out), HLR9, HDGB, HRDB, HBB, HEWB, by omega, by omega⟩, by simp [intOf]; omega⟩
        · skip
          go_simp
          (have hb : Below w9.drew.heap.size w9.drew (w9.alloc (.cells (Array.replicate f.2.1 (Value.bool false)) 4)).drew := below_drew_alloc w9 (.cells (Array.replicate f.2.1 (Value.bool false)) 4))
          refine hK.out _ _ ?_ (fun hS1 => ?_)
          · (first | exact hS | exact chain hS hb | exact hN)
          clear hK K hS; have hS := hS1; clear hS1
          (try simp only [Act.put, List.setIfInBounds_toArray, List.set_cons_zero, List.set_cons_succ])
          refine wpAnyH_take (i := 23) (oi := ({ dst := some 60, op := Op.build 82 #[(0, Operand.tmp 42), (1, Operand.tmp 47), (2, Operand.tmp 52), (3, Operand.tmp 59)], type := 82, pos := "ref.go:149", after := #[{ on := 5, ground := Ground.data }, { on := 10, ground := Ground.data }, { on := 15, ground := Ground.data }, { on := 22, ground := Ground.data }], guard := none } : Oper)) (v := ?_) rfl (by kernel_rfl) (by kernel_rfl) (by kernel_rfl) (fun _ _ _ h => h) (Or.inl ⟨by rfl, ?_⟩) hS ?_
          rotate_left
          · (intro w hSw; (try dsimp only at hSw); go_simp; try with_reducible rfl)
          (try simp only [Act.put, List.setIfInBounds_toArray, List.set_cons_zero, List.set_cons_succ])
          refine rg_one 0 ({ dst := some 37, op := Op.load 29 (Operand.tmp 6), type := 29, pos := "ref.go:149", after := #[], guard := none } : Oper) (by kernel_rfl) rfl (fun K hK => ?_)
          rw [if_pos (by rfl)]; refine wp_load_row 29 (.tmp 6) rfl w1.heap.size rfl _ #[.slice a8 n8 c8, .int .i64 d2.cap, .int .i64 d2.ops, .bool d2.down, .bool d2.told, .int .i64 d2.after] (0, 0) _ ((HDG9.out.next (Below.refl _ _).drew).next (below_drew_alloc w9 (.cells (Array.replicate f.2.1 (Value.bool false)) 4))).1 Try.underlying29 rfl disk_info ?_
          refine hK.out _ _ ?_ (fun hS1 => ?_)
          · (first | exact hS | exact chain hS hb | exact hN)
          clear hK K hS; have hS := hS1; clear hS1
          (try simp only [Act.put, List.setIfInBounds_toArray, List.set_cons_zero, List.set_cons_succ])
          refine rg_one 24 ({ dst := some 61, op := Op.call { callee := Callee.value (Operand.func 47), args := #[Operand.tmp 37, Operand.tmp 60], argTypes := #[29, 82] }, type := 29, pos := "ref.go:149", after := #[{ on := 0, ground := Ground.data }, { on := 23, ground := Ground.data }], guard := none } : Oper) (by kernel_rfl) rfl (fun K hK => ?_)
          go_simp
          (go_at_call 47; (refine (rwith_any F1 _ d2 a2 c2 a2 c2 (some ⟨w9.heap.size, 0, none⟩) f.2.1 ⟨f.1, f.2.1, f.2.2, f.2.2, List.replicate f.2.1 false⟩ (w9.alloc (.cells (Array.replicate f.2.1 (Value.bool false)) 4)).drew (HFW9.out.mono (show w9.heap.size ≤ (w9.alloc (.cells (Array.replicate f.2.1 (Value.bool false)) 4)).drew.heap.size from (below_alloc w9 (.cells (Array.replicate f.2.1 (Value.bool false)) 4)).size)) ((HRD9.out.kin (kin_mask (below_alloc w9 (.cells (Array.replicate f.2.1 (Value.bool false)) 4)))).kin (kin_drew _ _)) ⟨_, _, _, rfl, (HFS9.out.kin (kin_mask (below_alloc w9 (.cells (Array.replicate f.2.1 (Value.bool false)) 4)))).kin (kin_drew _ _), (HFS9.out.kin (kin_mask (below_alloc w9 (.cells (Array.replicate f.2.1 (Value.bool false)) 4)))).kin (kin_drew _ _), (BS.fresh HFW9.out f.2.1 (by omega) 4).kin (kin_drew _ _)⟩ HL9.out).mono ?_); rintro e wa ⟨va, rfl, hra, hb⟩; rw [HD3.out] at hra; obtain ⟨a9, n9, c9, rfl, _⟩ := hra.agg; have HRA := Lib.hid hra; have HDGA := Lib.hid (((HDG9.out.next (Below.refl _ _).drew).next (below_drew_alloc w9 (.cells (Array.replicate f.2.1 (Value.bool false)) 4))).next hb); have HBXA := Lib.hid (chain (chain (Below.refl w9.heap.size w9).drew (below_drew_alloc w9 (.cells (Array.replicate f.2.1 (Value.bool false)) 4))) hb))
          refine hK.out _ _ ?_ (fun hS1 => ?_)
          · (first | exact hS | exact chain hS hb | exact hN)
          clear hK K hS; have hS := hS1; clear hS1
          (try simp only [Act.put, List.setIfInBounds_toArray, List.set_cons_zero, List.set_cons_succ])
          refine rg_one 25 ({ dst := none, op := Op.store 29 (Operand.tmp 6) (Operand.tmp 61), type := 0, pos := "ref.go:149", after := #[{ on := 24, ground := Ground.data }, { on := 24, ground := Ground.chain }, { on := 0, ground := Ground.phase }, { on := 1, ground := Ground.phase }, { on := 2, ground := Ground.phase }, { on := 3, ground := Ground.phase }, { on := 4, ground := Ground.phase }, { on := 5, ground := Ground.phase }, { on := 6, ground := Ground.phase }, { on := 7, ground := Ground.phase }, { on := 8, ground := Ground.phase }, { on := 9, ground := Ground.phase }, { on := 10, ground := Ground.phase }, { on := 11, ground := Ground.phase }, { on := 12, ground := Ground.phase }, { on := 13, ground := Ground.phase }, { on := 14, ground := Ground.phase }, { on := 15, ground := Ground.phase }, { on := 16, ground := Ground.phase }, { on := 17, ground := Ground.phase }, { on := 18, ground := Ground.phase }, { on := 19, ground := Ground.phase }, { on := 20, ground := Ground.phase }, { on := 21, ground := Ground.phase }, { on := 22, ground := Ground.phase }, { on := 23, ground := Ground.phase }, { on := 24, ground := Ground.phase }], guard := none } : Oper) (by kernel_rfl) rfl (fun K hK => ?_)
          rw [if_pos (by rfl)]; refine wp_store_row 29 (.tmp 6) (.tmp 61) rfl w1.heap.size #[.slice a9 n9 c9, .int .i64 d3.cap, .int .i64 d3.ops, .bool d3.down, .bool d3.told, .int .i64 d3.after] rfl rfl _ #[.slice a8 n8 c8, .int .i64 d2.cap, .int .i64 d2.ops, .bool d2.down, .bool d2.told, .int .i64 d2.after] HDGA.out.1 disk_info (by rfl) (by simp [Value.oneCell']) ?_; have hN := below_row hS (Nat.le_of_lt HG6.out.1) #[.slice a9 n9 c9, .int .i64 d3.cap, .int .i64 d3.ops, .bool d3.down, .bool d3.told, .int .i64 d3.after]; have HDGB := Lib.hid (HDGA.out.row (cs' := #[.slice a9 n9 c9, .int .i64 d3.cap, .int .i64 d3.ops, .bool d3.down, .bool d3.told, .int .i64 d3.after]) rfl)
          refine hK.out _ _ ?_ (fun hS1 => ?_)
          · (first | exact hS | exact chain hS hb | exact hN)
          clear hK K hS; have hS := hS1; clear hS1
          (try simp only [Act.put])
          refine wpAnyH_done (by kernel_rfl) ?_ _
          have HEWB : Hid (Ext F1 w5 (wa.setRow w1.heap.size #[.slice a9 n9 c9, .int .i64 d3.cap, .int .i64 d3.ops, .bool d3.down, .bool d3.told, .int .i64 d3.after]) F1) := Lib.hid ((HEW9.out.trans (Ext.below HBXA.out)).setRow _ HIN6.out _)
          have HBB : Hid (Below w1.heap.size w1 (wa.setRow w1.heap.size #[.slice a9 n9 c9, .int .i64 d3.cap, .int .i64 d3.ops, .bool d3.down, .bool d3.told, .int .i64 d3.after])) := Lib.hid (below_row (HB9.out.trans (HBXA.out.mono HB9.out.size)) (Nat.le_refl _) _)
          have HRDB : Hid (RD (mask F1 (wa.setRow w1.heap.size #[.slice a9 n9 c9, .int .i64 d3.cap, .int .i64 d3.ops, .bool d3.down, .bool d3.told, .int .i64 d3.after])) (.agg #[.slice a9 n9 c9, .int .i64 d3.cap, .int .i64 d3.ops, .bool d3.down, .bool d3.told, .int .i64 d3.after]) d3) := Lib.hid (HRA.out.kin ((Ext.refl F1 wa).setRow _ HIN6.out _).kin)
          go_wp2
          exact ⟨⟨i + 1, a9, n9, c9, d3, by go_num, by omega, rfl, Lib.hid (by rw [HST.out]; exact HD3.out), HLR9, HDGB, HRDB, HBB, HEWB, by omega, by omega⟩, by simp [intOf]; omega⟩
      · have hlr : layR c l = (zeroD, er) := by
          rw [HR.out, HLR.out, show n - i = (n - (i + 1)) + 1 from by omega, layFrom, if_pos (by rw [HER.out]; exact he), HER.out]
        have HD09 : Hid (DB w9 w.heap.size dz) := Lib.hid (HD1.out.below HB9.out HG6.out.1)
        have HLRR := Lib.hid hlr
        clear hlr
        go_wp2_with (first
          | (refine wpList_store_row rfl 29 _ _ rfl w.heap.size #[.slice none 0 0, .int .i64 0, .int .i64 0, .bool false, .bool false, .int .i64 0] rfl rfl _ dz HD09.out.1 disk_info (by rfl) (by simp [Value.oneCell']) ?_))
        exact bodyPost_ret_by (results_row_tmp rfl _ _ w.heap.size _ rfl (disk_load (HD09.out.row (cs' := #[.slice none 0 0, .int .i64 0, .int .i64 0, .bool false, .bool false, .int .i64 0]) rfl).1 rfl)) rfl ⟨.agg #[.slice none 0 0, .int .i64 0, .int .i64 0, .bool false, .bool false, .int .i64 0], by rw [HLRR.out]; rfl, by rw [HLRR.out]; exact ⟨.slice none 0 0, rfl, FLs.nil _⟩, below_row HBW9.out (Nat.le_refl _) _⟩
    · have hq : i = n := by omega
      subst hq
      have hlr : layR c l = ({ d with ops := 0 }, 0) := by
        rw [HR.out, HLR.out, Nat.sub_self, layFrom, HLD.out]
      have HLRR := Lib.hid hlr
      obtain ⟨z0, z1, z2, z3, z4, z5⟩ := HDG.out.six
      have hfr := HDG.out.frozen 2
      have HDE : Hid (DB (wr.setCell ⟨w1.heap.size, 2, none⟩ (.int .i64 0)) w1.heap.size #[.slice a7 n7 c7, .int .i64 d.cap, .int .i64 0, .bool d.down, .bool d.told, .int .i64 d.after]) := Lib.hid (by simpa using HDG.out.stored 2 (.int .i64 0))
      have HD0E := Lib.hid (HD0W.out.apart (b' := w1.heap.size) (by have := HG6.out; omega) 2 (.int .i64 0))
      have HBE : Hid (Below w.heap.size w (wr.setCell ⟨w1.heap.size, 2, none⟩ (.int .i64 0))) := Lib.hid (HBW.out.setCell (show w.heap.size ≤ w1.heap.size from Nat.le_of_lt HG6.out.1) _)
      clear hlr
      go_wp2_with (first
        | (refine wpList_load_row rfl 29 _ rfl w1.heap.size rfl _ _ (0, 0) _ HDE.out.1 Try.underlying29 rfl HDE.out.info ?_)
        | (refine wpList_store_row rfl 29 _ _ rfl w.heap.size #[.slice a7 n7 c7, .int .i64 d.cap, .int .i64 0, .bool d.down, .bool d.told, .int .i64 d.after] rfl rfl _ dz HD0E.out.1 disk_info (by rfl) (by simp [Value.oneCell']) ?_))
      refine bodyPost_ret_by (results_row_tmp rfl _ _ w.heap.size _ rfl (disk_load (HD0E.out.row (cs' := #[.slice a7 n7 c7, .int .i64 d.cap, .int .i64 0, .bool d.down, .bool d.told, .int .i64 d.after]) rfl).1 rfl)) rfl ⟨.agg #[.slice a7 n7 c7, .int .i64 d.cap, .int .i64 0, .bool d.down, .bool d.told, .int .i64 d.after], by rw [HLRR.out]; rfl, ?_, below_row HBE.out (Nat.le_refl _) _⟩
      rw [HLRR.out]
      have h1 := HRD.out.fls
      obtain ⟨we, hwe⟩ : ∃ we, (wr.setCell ⟨w1.heap.size, 2, none⟩ (.int .i64 0)).setRow w.heap.size #[.slice a7 n7 c7, .int .i64 d.cap, .int .i64 0, .bool d.down, .bool d.told, .int .i64 d.after] = we := ⟨_, rfl⟩
      have hh : ∀ k, k ≠ w1.heap.size → k ≠ w.heap.size → we.heap[k]? = wr.heap[k]? := fun k h1 h2 => by rw [← hwe, setRow_other _ w.heap.size k _ h2, Below.heap_setCell wr ⟨w1.heap.size, 2, none⟩ _ k h1]
      have hs : wr.heap.size ≤ we.heap.size := by rw [← hwe]; simp [World.setCell]
      have hb2 : Below 0 wr we := by rw [← hwe]; exact below_row ((Below.refl 0 wr).setCell (Nat.zero_le _) _) (Nat.zero_le _) _
      rw [hwe]
      clear hwe
      have hx : Ext F1 wr we F1 := ⟨hb2.os, hb2.tape, hb2.output, hs, fun k _ hf => hh k (fun e => by rw [e, HIN6.out] at hf; simp at hf) (fun e => by rw [e, HIN0.out] at hf; simp at hf), fun _ _ => rfl⟩
      exact ⟨.slice a7 n7 c7, rfl, (h1.kin hx.kin).kin (mask_mono HSUB.out _)⟩
end Go.Proofs.Ytpnialanmidekaa
