/-
  TEXTS JOINED: PlanRow, SegArm, SegCode, SegLay, SegLoad, SegLits, PoolDo. Each one's own words stand at its head.
-/
import Derived.Test.YtpoiapfgbbmekaaGreatDoorJ5
import Derived.Test.YtpoiapfgbbmekaaGreatDoorJ0
import Derived.Test.YtpoiapfgbbmekaaGreatDoorJ14
import Derived.Test.YtpoiapfgbbmekaaGreatDoorJ13
import Derived.Test.YtpoiapfgbbmekaaGreatDoorJ12
namespace Go.Proofs.YtpoiapfgbbmekaaGreatDoor
open Go.RowKit
def YB (w : World) (g : Nat) (zs : List Int) : Prop := w.heap[g]? = some (.cells (il .u8 zs).toArray 5 (0, 0))
theorem YB.keep {w w' : World} {g : Nat} {zs : List Int} (h : YB w g zs) (hb : Below w.heap.size w w') : YB w' g zs := by
  unfold YB at *; rw [hb.block g (Array.getElem?_eq_some_iff.1 h).1]; exact h
theorem YB.over {w w' : World} {g g2 : Nat} {zs : List Int} (h : YB w g zs) (hg : w.grownBy w' (some g2)) (hne : g ≠ g2) : YB w' g zs := by
  unfold YB at *; rw [hg.block g (Array.getElem?_eq_some_iff.1 h).1 (fun e => hne (Option.some.inj e))]; exact h
theorem YB.ri {w : World} {g n : Nat} {zs : List Int} (h : YB w g zs) (hz : zs.length = n) (hn : n ≤ 1000000) : RI .u8 w (.slice (some ⟨g, 0, none⟩) n n) n zs := by
  refine ⟨_, n, rfl, hz, Nat.le_refl _, by omega, fun h => by simp at h, fun _ => ⟨g, 0, rfl, fun j hj => ?_⟩⟩
  rw [Nat.zero_add, cell_of_row w g j _ _ _ h]
  simpa using il_get .u8 zs j (by omega)
theorem make_row_run (k : Nat) (hk : (k : Int) ≤ 1000000000) (w : World) :
    (Instr.makeSlice 35 (.int .i64 (k : Int)) (.int .i64 (k : Int))).run Tryz.prog w = .ok (.slice (some ⟨w.heap.size, 0, none⟩) k k) (w.alloc (.cells (il .u8 (List.replicate (k * 64) 0)).toArray 63)) := by
  obtain ⟨i, hi, hz0, hz1, hz2⟩ := info_parts sec_parts
  have h := run_make (P := Tryz.prog) w 35 63 i _ Tryz.underlying35 hi hz0 .i64 .i64 k k (by omega) (by omega) (by rw [hz2]; omega) (by omega)
  simp only [Int.toNat_natCast, hz1] at h
  rw [h]
  have : madeCells (Value.agg (sv z64)).cells (k * 64) = (il .u8 (List.replicate (k * 64) 0)).toArray := by
    rw [← Array.toList_inj, made_secs]
  rw [this]
theorem setRow_at {w : World} {g : Nat} {C : Array Value} {t : TypeId} (h : w.heap[g]? = some (.cells C t (0, 0))) (C' : Array Value) : (w.setRow g C').heap[g]? = some (.cells C' t (0, 0)) := setRow_heap w g C C' _ _ h
theorem grown_row (w : World) (g : Nat) (cs : Array Value) : w.grownBy (w.setRow g cs) (some g) :=
  ⟨rfl, rfl, rfl, by simp, fun i _ hne => setRow_other w g i cs (fun e => hne (by rw [e]))⟩
end Go.Proofs.YtpoiapfgbbmekaaGreatDoor
namespace Go.Proofs.YtpoiapfgbbmekaaGreatDoor
open Go.RowKit
section
variable {o : Oper} {a : Act} {w : World} {Q : Exit → Act → World → Prop} {ops : Array Oper} {rest : List Oper}
theorem wpl_store_newH {w1 : World} (hgd : o.guard = none) (x y : Operand) (ho : o.op = .store 34 x y) (hw : w = w1.alloc (.cells (hv noH) 34)) (g : Nat) (hg : w1.heap.size = g) (h1 : Hdr) (hn : h1.l.length = 4)
    (hx : a.eval x = .pointer (some ⟨g, 0, none⟩)) (hy : a.eval y = .agg (hv h1)) (h : ∀ w', Hid (HB w' g h1) → Hid (Below w1.heap.size w1 w') → wpList Tryz.prog ops Q rest (a.put o.dst undef) w') : wpList Tryz.prog ops Q (o :: rest) a w := by
  subst hw; subst hg
  refine wpl_put_hd hgd x y ho w1.heap.size noH h1 (HB.new w1 noH rfl) hn hx hy fun w' k1 k2 => h w' k1 (Lib.hid ?_)
  exact hbelow_grown (balloc w1 _) k2.out (Nat.le_refl _) (by rw [alloc_size]; omega)
theorem wpl_load_hs {b : Nat} {h : Hdr} (hw : Region.wanted o (yielded ops a.tmps) = true) (x : Operand) (ho : o.op = .load 3 x) (hx : a.eval x = .pointer (some ⟨b, 1, none⟩)) (k : HB w b h)
    (hk : wpList Tryz.prog ops Q rest (a.put o.dst (.int .i64 h.s)) w) : wpList Tryz.prog ops Q (o :: rest) a w := by
  refine wpl_valw hw ?_ hk
  unfold execOp
  have := k.cells.2.1
  simp only [ho, hx]
  simp [go_sem, this]
theorem wpl_copy_rowAt (hgd : o.guard = none) (d s : Operand)
    (ho : o.op = .call { callee := .builtin .copy, args := #[d, s], argTypes := #[35, 35] }) (g at_ dLen dCap : Nat) (cur : List Int) (hblk : RW w g cur) (hcur : cur.length = at_ + dLen * 64)
    (hd : a.eval d = .slice (some ⟨g, at_, none⟩) dLen dCap) (v : Value) (n : Nat) (fs : List Int) (hs : a.eval s = v) (hfs : FS w v n fs) (hnd : n ≤ dLen)
    (h : ∀ w', Hid (RW w' g (splice cur at_ fs)) → Hid (w.grownBy w' (some g)) → wpList Tryz.prog ops Q rest (a.put o.dst (goInt (n : Int))) w') : wpList Tryz.prog ops Q (o :: rest) a w := by
  obtain ⟨sp, sCap, rfl, hl, _, _, _, hc⟩ := hfs
  have hcl : (il .u8 fs).length = n * 64 := by rw [il_length, hl]
  have hmin : Nat.min n dLen = n := Nat.min_eq_left hnd
  have hsz : (Tryz.prog.info? 63).map (·.size) = some 64 := by kernel_rfl
  obtain ⟨i, hi, hi64⟩ := Option.map_eq_some_iff.1 hsz
  refine wpList_plain hgd fun K hK => ?_
  by_cases h0 : n = 0
  · subst h0
    obtain rfl : fs = [] := List.eq_nil_of_length_eq_zero (by simpa using hl)
    have hrun : (Builtin.copy_ #[35, 35] o.type #[.slice (some ⟨g, at_, none⟩) dLen dCap, .slice sp 0 sCap]).run Tryz.prog w = .ok (goInt 0) w := by
      cases sp <;> simp [Builtin.copy_, run_underlying Tryz.underlying35, Builtin.lenOf, Builtin.firstCells, loadCells, loadCellsFrom, sizeOf, typeInfo, hi, storeCells]
    unfold Oper.wp
    simp [execOp, ho, resolve, invoke, builtin, hd, hs, hrun, Result.andThen]
    exact hK _ _ (h w (Lib.hid (by simpa [splice] using hblk)) (grown_refl _ _))
  · obtain ⟨b, of2, rfl, hcell⟩ := hc (by omega)
    have hsrc : ∀ j u, (il .u8 fs)[j]? = some u → w.cell? ((⟨b, of2, none⟩ : Addr).add j) = some u := by
      intro j u hj
      have hjl : j < fs.length := by have := (List.getElem?_eq_some_iff.1 hj).1; rwa [il_length] at this
      rw [il_get _ _ _ hjl] at hj
      rw [Addr.add_mid, hcell j (by omega)]; exact hj
    have hle : n * 64 ≤ dLen * 64 := Nat.mul_le_mul_right _ hnd
    have hld := run_loadCells_list (P := Tryz.prog) w ⟨b, of2, none⟩ (il .u8 fs) hsrc
    have hst := run_storeCells_at (P := Tryz.prog) g at_ 63 (il .u8 fs) 0 (il .u8 cur).toArray w hblk (by rw [hcl]; simp [il_length, hcur]; omega) (il_one _ _)
    rw [hcl] at hld
    have hrun : (Builtin.copy_ #[35, 35] o.type #[.slice (some ⟨g, at_, none⟩) dLen dCap, .slice (some ⟨b, of2, none⟩) n sCap]).run Tryz.prog w = .ok (goInt (n : Int)) (w.setRow g (splice (il .u8 cur) at_ (il .u8 fs)).toArray) := by
      simp [Builtin.copy_, run_underlying Tryz.underlying35, Builtin.lenOf, Builtin.firstCells, sizeOf, typeInfo, hi, hi64, hmin, hld, hst, splice]
    unfold Oper.wp
    simp [execOp, ho, resolve, invoke, builtin, hd, hs, hrun, Result.andThen]
    refine hK _ _ (h _ (Lib.hid ?_) (Lib.hid (grown_row _ _ _)))
    rw [il_splice]
    exact setRow_at hblk _
end
end Go.Proofs.YtpoiapfgbbmekaaGreatDoor
namespace Go.Proofs.YtpoiapfgbbmekaaGreatDoor
open Go.RowKit
structure VT (w : World) : Prop where
  vars : Vars w
  tab : Tab w
theorem VT.on {w w' : World} (h : VT w) (hb : Below w.heap.size w w') : VT w' := ⟨h.vars.on hb, h.tab.keep hb⟩
theorem VT.ext {W w : World} {F : Nat → Bool} (h : VT W) (hx : Ext (fun _ => false) W w F) : VT w :=
  ⟨h.vars.ext hx, fun j hj => by
    have := hx.kin
    rw [mask_none] at this
    exact (this.trans (unmask F w)) _ _ (h.tab j hj)⟩
variable {DK : World → Addr → (Nat → Bool) → AD → Prop}
structure LV (DK : World → Addr → (Nat → Bool) → AD → Prop) (w : World) (p : Addr) (F : Nat → Bool) (d : AD) (W : World) : Prop where
  dk : DK W p F d
  below : Below w.heap.size w W
  vt : VT W
theorem LV.next (H : DiskSays DK) {w : World} {p : Addr} {F : Nat → Bool} {d : AD} {W W' : World} (h : LV DK w p F d W) (hb : Below W.heap.size W W') : LV DK w p F d W' :=
  ⟨H.below h.dk hb, h.below.trans (hb.mono h.below.size), h.vt.on hb⟩
def foundI (d : AD) (s : ByteArray) : Int := if d.down = true then 9 else if ¬ d.has s then 7 else 0
def missI (d : AD) (s : ByteArray) : Int := if d.down = true then 9 else if d.has s then 8 else 0
theorem read_none (d : AD) (s : ByteArray) : (d.readR s 0 0).2.2 = foundI d s := by
  unfold AD.readR foundI
  split
  · rfl
  split
  · rfl
  · rw [if_neg (by omega)]
theorem read_all {d : AD} (s : ByteArray) {x : Int} (hx : foundI d s = x) (h0 : x ≠ 0) : d.readR s 0 (szI d s) = ([], 0, x) := by
  unfold AD.readR
  unfold foundI at hx
  split
  · rename_i h; rw [if_pos h] at hx; rw [hx]
  · rename_i h
    rw [if_neg h] at hx
    split
    · rename_i h2; rw [if_pos h2] at hx; rw [hx]
    · rename_i h2; rw [if_neg h2] at hx; exact absurd hx.symm h0
theorem read_there {d : AD} (hg : Good d) (s : ByteArray) (hx : foundI d s = 0) : d.has s ∧ szI d s = ((d.get s).n : Int) ∧ d.readR s 0 (szI d s) = ((d.get s).seen, (d.get s).n, 0) := by
  unfold foundI at hx
  split at hx
  · simp at hx
  rename_i hd
  split at hx
  · simp at hx
  rename_i hh
  have hh2 := Decidable.not_not.1 hh
  have hf := hg.file _ (get_mem hh2)
  have hs : szI d s = ((d.get s).n : Int) := by unfold szI; rw [if_pos hh2]
  refine ⟨hh2, hs, ?_⟩
  unfold AD.readR
  rw [if_neg hd, if_neg hh, hs, if_neg (by omega)]
  have := hf.seen
  simp [List.take_of_length_le (Nat.le_of_eq this)]
theorem sfind_of (H : DiskSays DK) {d : AD} {s : ByteArray} {x : Int} (hg : Good d) (hs : s.size ≤ 281474976710656) (hx : foundI d s = x) :
    Hid (∀ w p F, DK w p F d → Calls Tryz.prog 84 #[ptr p, .string s, .int .i64 0, .int .i64 0] w fun e w' => ∃ v, e = .returned (.tuple #[v, .int .i64 x]) ∧ Below w.heap.size w w') :=
  Lib.hid fun w p F h => by
    refine (H.read w p F d s 0 0 h hg hs (by unfold I63; omega) (by unfold I63; omega)).mono ?_
    rintro e w' ⟨v, rfl, _, hb⟩
    exact ⟨v, by rw [read_none, hx], hb⟩
theorem sfound_any (H : DiskSays DK) (w : World) (p : Addr) (F : Nat → Bool) (d : AD) (s : ByteArray) (h : DK w p F d) (hg : Good d) (hs : s.size ≤ 281474976710656) :
    Calls Tryz.prog 40 #[ptr p, .string s] w fun e w' => e = .returned (.int .i64 (foundI d s)) ∧ Below w.heap.size w w' := by
  obtain ⟨x, hx⟩ : ∃ x, foundI d s = x := ⟨_, rfl⟩
  have HR := sfind_of H hg hs hx
  have HK := Lib.hid h
  rw [hx]
  clear hx hg h
  go_enter Tryz.func40, Tryz.ntmps40
  go_wp2_with (first
    | (go_at_call 84; (with_reducible refine (HR.out _ _ _ HK.out).mono ?_); rintro e w1 ⟨v, rfl, hb⟩; have HB := Lib.hid hb; clear hb))
  go_ret
  exact ⟨rfl, HB.out⟩
theorem sfound_of (H : DiskSays DK) {d : AD} {s : ByteArray} {x : Int} (hg : Good d) (hs : s.size ≤ 281474976710656) (hx : foundI d s = x) :
    Hid (∀ w p F, DK w p F d → Calls Tryz.prog 40 #[ptr p, .string s] w fun e w' => e = .returned (.int .i64 x) ∧ Below w.heap.size w w') :=
  Lib.hid fun w p F h => by rw [← hx]; exact sfound_any H w p F d s h hg hs
theorem smissing_any (H : DiskSays DK) (w : World) (p : Addr) (F : Nat → Bool) (d : AD) (s : ByteArray) (h : DK w p F d) (hg : Good d) (hs : s.size ≤ 281474976710656) :
    Calls Tryz.prog 30 #[ptr p, .string s] w fun e w' => e = .returned (.int .i64 (missI d s)) ∧ Below w.heap.size w w' := by
  have HK := Lib.hid h
  by_cases hd : d.down = true
  · have HR := sfound_of H hg hs (show foundI d s = 9 from if_pos hd)
    rw [show missI d s = 9 from if_pos hd]
    clear hd hg h
    go_enter Tryz.func30, Tryz.ntmps30
    go_wp2_with (first
      | (go_at_call 40; (with_reducible refine (HR.out _ _ _ HK.out).mono ?_); rintro e w1 ⟨rfl, hb⟩; have HB := Lib.hid hb; clear hb))
    go_ret
    exact ⟨rfl, HB.out⟩
  by_cases hh : d.has s
  · have HR := sfound_of H hg hs (show foundI d s = 0 from by unfold foundI; rw [if_neg hd, if_neg (Decidable.not_not.2 hh)])
    rw [show missI d s = 8 from by unfold missI; rw [if_neg hd, if_pos hh]]
    clear hd hg h
    go_enter Tryz.func30, Tryz.ntmps30
    go_wp2_with (first
      | (go_at_call 40; (with_reducible refine (HR.out _ _ _ HK.out).mono ?_); rintro e w1 ⟨rfl, hb⟩; have HB := Lib.hid hb; clear hb))
    go_ret
    exact ⟨rfl, HB.out⟩
  · have HR := sfound_of H hg hs (show foundI d s = 7 from by unfold foundI; rw [if_neg hd, if_pos hh])
    rw [show missI d s = 0 from by unfold missI; rw [if_neg hd, if_neg hh]]
    clear hd hg h
    go_enter Tryz.func30, Tryz.ntmps30
    go_wp2_with (first
      | (go_at_call 40; (with_reducible refine (HR.out _ _ _ HK.out).mono ?_); rintro e w1 ⟨rfl, hb⟩; have HB := Lib.hid hb; clear hb))
    go_ret
    exact ⟨rfl, HB.out⟩
end Go.Proofs.YtpoiapfgbbmekaaGreatDoor
namespace Go.Proofs.YtpoiapfgbbmekaaGreatDoor
open Go.RowKit
theorem splice_length {α : Type} (b : List α) (q : Nat) (x : List α) (h : q + x.length ≤ b.length) : (splice b q x).length = b.length := by
  unfold splice
  simp only [List.length_append, List.length_take, List.length_drop]
  omega
theorem henc_of {h : Hdr} (ht : HdT h) (hk : hdOk h = true) : Hid (∀ w, Tab w → Calls Tryz.prog 83 #[.agg (hv h)] w fun r w' => r = .returned (.tuple #[.agg (sv (secH h)), .int .i64 0]) ∧ Below w.heap.size w w') := Lib.hid fun w hT => henc_ok h ht hk w hT
set_option maxRecDepth 8000 in
set_option maxHeartbeats 2000000 in
theorem slay_no (h : Hdr) (ht : HdT h) (v : Value) (m : Nat) (fs : List Int) (w : World) (hT : Tab w) (hf : FS w v m fs) (hm : m ≤ 1000000) (hk : hdOk h = false ∨ 16 < m) :
    Calls Tryz.prog 39 #[.agg (hv h), v] w fun r w' => r = .returned (.tuple #[.slice none 0 0, .int .i64 13]) ∧ Below w.heap.size w w' := by
  obtain ⟨a, cap, rfl, hl, _, _, _, _⟩ := id hf
  obtain ⟨w0, hw0⟩ : ∃ q, w.alloc (.cells (hv h) 34) = q := ⟨_, rfl⟩
  have HK := Lib.hid (show HB w0 w.heap.size h from by rw [← hw0]; exact HB.new w h ht.n)
  have HW := Lib.hid (show Below w.heap.size w w0 from by rw [← hw0]; exact balloc w _)
  have HZ := Lib.hid z64_cells
  by_cases he : hdOk h = true
  · have hm16 : (16 : Int) < (m : Int) := by
      rcases hk with hk | hk
      · rw [he] at hk; simp at hk
      · omega
    have HE := henc_of ht he
    have HL := Lib.hid (secH_length ht.n)
    have HTT := Lib.hid (hT.keep HW.out)
    clear he hk hf hT
    go_enter Tryz.func39, Tryz.ntmps39
    go_wp2_with (first
      | (refine wpl_load_hd (by rfl) (.tmp 2) rfl rfl (show HB w0 w.heap.size h from HK.out) ?_)
      | (go_at_call 83; (with_reducible refine (HE.out _ HTT.out).mono ?_); rintro r w1 ⟨rfl, hb1⟩; have HB1 := Lib.hid (bch HW.out hb1); clear hb1)
      | (rw [← HZ.out]; refine wpl_store_new rfl _ _ rfl rfl w1.heap.size rfl (secH h) HL.out rfl rfl w HB1 ?_; intro w2 HK2 HB2 HB12))
    go_ret2
    exact ⟨rfl, HB2.out⟩
  · rw [Bool.not_eq_true] at he
    have HE : Hid (∀ w, Calls Tryz.prog 83 #[.agg (hv h)] w fun r w' => r = .returned (.tuple #[.agg (sv z64), .int .i64 13]) ∧ Below w.heap.size w w') := Lib.hid fun w => henc_no h ht he w
    clear he hk hf hT
    go_enter Tryz.func39, Tryz.ntmps39
    go_wp2_with (first
      | (refine wpl_load_hd (by rfl) (.tmp 2) rfl rfl (show HB w0 w.heap.size h from HK.out) ?_)
      | (go_at_call 83; (with_reducible refine (HE.out _).mono ?_); rintro r w1 ⟨rfl, hb1⟩; have HB1 := Lib.hid (bch HW.out hb1); clear hb1)
      | (rw [← HZ.out]; refine wpl_store_new rfl _ _ rfl rfl w1.heap.size rfl z64 z64_length rfl rfl w HB1 ?_; intro w2 HK2 HB2 HB12))
    go_ret2
    exact ⟨rfl, HB2.out⟩
theorem lay_steps {h : Hdr} (hn : h.l.length = 4) {m : Nat} (hm : m ≤ 16) {fs : List Int} (hf : fs.length = m * 64) : splice (splice (List.replicate (17 * 64) (0 : Int)) 0 (secH h)) 64 fs = layL h m fs := by
  have h1 : splice (List.replicate (17 * 64) (0 : Int)) 0 (secH h) = secH h ++ List.replicate (16 * 64) 0 := by
    unfold splice
    rw [secH_length hn, List.take_zero, List.drop_replicate, List.nil_append]
  rw [h1]
  unfold splice layL
  have hl := secH_length hn
  rw [List.take_append_of_le_length (by omega), List.take_of_length_le (by omega), List.drop_append, hl, List.drop_of_length_le (by rw [hl]; omega), hf]
  simp only [List.nil_append, List.drop_replicate]
  rw [show 16 * 64 - (64 + m * 64 - 64) = (16 - m) * 64 by omega, List.append_assoc]
set_option maxRecDepth 8000 in
set_option maxHeartbeats 4000000 in
theorem slay_ok (h : Hdr) (ht : HdT h) (v : Value) (m : Nat) (fs : List Int) (w : World) (hT : Tab w) (hf : FS w v m fs) (hk : hdOk h = true) (hm : m ≤ 16) :
    Calls Tryz.prog 39 #[.agg (hv h), v] w fun r w' => ∃ g, r = .returned (.tuple #[.slice (some ⟨g, 0, none⟩) 17 17, .int .i64 0]) ∧ RW w' g (layL h m fs) ∧ w.heap.size ≤ g ∧ Below w.heap.size w w' := by
  obtain ⟨a, cap, rfl, hl, _, _, _, _⟩ := id hf
  obtain ⟨w0, hw0⟩ : ∃ q, w.alloc (.cells (hv h) 34) = q := ⟨_, rfl⟩
  have HK := Lib.hid (show HB w0 w.heap.size h from by rw [← hw0]; exact HB.new w h ht.n)
  have HW := Lib.hid (show Below w.heap.size w w0 from by rw [← hw0]; exact balloc w _)
  have HZ := Lib.hid z64_cells
  have HE := henc_of ht hk
  have HN := Lib.hid (secH_length ht.n)
  have HTT := Lib.hid (hT.keep HW.out)
  have HF := Lib.hid hf
  have hm16 : ¬ (16 : Int) < (m : Int) := by omega
  have hstp := lay_steps ht.n hm hl
  have hmk : ∀ w, (Instr.makeSlice 35 (.int .i64 17) (.int .i64 17)).run Tryz.prog w = .ok (.slice (some ⟨w.heap.size, 0, none⟩) 17 17) (w.alloc (.cells (il .u8 (List.replicate (17 * 64) 0)).toArray 63)) := make_row_run 17 (by omega)
  obtain ⟨zr, hzr⟩ : ∃ z, List.replicate (17 * 64) (0 : Int) = z := ⟨_, rfl⟩
  rw [hzr] at hmk hstp
  have HZL := Lib.hid (show zr.length = 17 * 64 from by rw [← hzr]; simp)
  have HST := Lib.hid hstp
  clear hzr hstp
  clear hk hf hT ht
  go_enter Tryz.func39, Tryz.ntmps39
  go_wp2_with (first
    | (refine wpl_load_hd (by rfl) (.tmp 2) rfl rfl (show HB w0 w.heap.size h from HK.out) ?_)
    | (go_at_call 83; (with_reducible refine (HE.out _ HTT.out).mono ?_); rintro r w1 ⟨rfl, hb1⟩; have HB1 := Lib.hid (bch HW.out hb1); clear hb1)
    | (rw [← HZ.out]; refine wpl_store_new rfl _ _ rfl rfl w1.heap.size rfl (secH h) HN.out rfl rfl w HB1 ?_; intro w2 HK2 HB2 HB12)
    | (refine wpl_load_sec (by rfl) (.tmp 6) rfl w1.heap.size rfl (secH h) (HK2.out.keep (balloc _ _)) ?_)
    | (refine wpl_put_row rfl _ _ rfl w2.heap.size 17 0 zr (secH h) (heap_alloc_last w2 _) HZL.out (by omega) HN.out 0 rfl rfl rfl ?_; intro w3 HR3 HG3)
    | (refine wpl_copy_rowAt rfl _ _ rfl w2.heap.size 64 16 16 _ HR3.out (by rw [splice_length _ _ _ (by rw [HN.out, HZL.out]; omega), HZL.out]) rfl _ m fs rfl (HF.out.keep (hbelow_grown (bch HB2.out (balloc _ _)) HG3.out HB2.out.size (by rw [alloc_size]; have := HB2.out.size; omega))) hm ?_; intro w4 HR4 HG4))
  go_ret2
  have hs2 := HB2.out.size
  have hs3 : w.heap.size ≤ w3.heap.size := by have := HG3.out.size; rw [alloc_size] at this; omega
  have h3 : Below w.heap.size w w3 := hbelow_grown (bch HB2.out (balloc _ _)) HG3.out hs2 (by rw [alloc_size]; omega)
  exact ⟨w2.heap.size, rfl, by rw [← HST.out]; exact HR4.out, hs2, hbelow_grown h3 HG4.out hs2 hs3⟩
end Go.Proofs.YtpoiapfgbbmekaaGreatDoor
namespace Go.Proofs.YtpoiapfgbbmekaaGreatDoor
open Go.RowKit
variable {DK : World → Addr → (Nat → Bool) → AD → Prop}
theorem swal_of {q : Int} (hq : I63 q) {s : ByteArray} (hs : walB q = s) : Hid (∀ w, Vars w → Calls Tryz.prog 29 #[.int .i64 q] w fun e w' => e = .returned (.string s) ∧ Below w.heap.size w w') :=
  Lib.hid fun w hv => by rw [← hs]; exact wal_any q hq.1 hq.2 w hv
theorem sdec_of {l : List Int} (hl : 64 ≤ l.length) (hb : Bytes l) {x : Hdr} {e : Int} (h : fstI l = (x, e)) :
    Hid (∀ w, Tab w → Calls Tryz.prog 72 #[.agg (sv (l.take 64))] w fun r w' => r = .returned (.tuple #[.agg (hv x), .int .i64 e]) ∧ Below w.heap.size w w') :=
  Lib.hid fun w hT => hdec_any (l.take 64) (by simp; omega) ((bytes_isB hb).take 64) w hT h
theorem sread_no (H : DiskSays DK) {d : AD} {s : ByteArray} {x m : Int} (hg : Good d) (hs : s.size ≤ 281474976710656) (hx : foundI d s = x) (h0 : x ≠ 0) (hm : szI d s = m) :
    Hid (∀ w p F, DK w p F d → Calls Tryz.prog 84 #[ptr p, .string s, .int .i64 0, .int .i64 m] w fun e w' => ∃ v, e = .returned (.tuple #[v, .int .i64 x]) ∧ Below w.heap.size w w') :=
  Lib.hid fun w p F h => by
    have hb := sz_le hg s
    refine (H.read w p F d s 0 m h hg hs (by unfold I63; omega) (by unfold I63; omega)).mono ?_
    rintro e w' ⟨v, rfl, _, hb⟩
    exact ⟨v, by rw [← hm, read_all s hx h0], hb⟩
theorem sread_yes (H : DiskSays DK) {d : AD} {s : ByteArray} {m : Int} {f : AF} (hg : Good d) (hs : s.size ≤ 281474976710656) (hx : foundI d s = 0) (hm : szI d s = m) (hf : d.get s = f) :
    Hid (∀ w p F, DK w p F d → Calls Tryz.prog 84 #[ptr p, .string s, .int .i64 0, .int .i64 m] w fun e w' => ∃ v, e = .returned (.tuple #[v, .int .i64 0]) ∧ FS w' v f.n f.seen ∧ Below w.heap.size w w') :=
  Lib.hid fun w p F h => by
    have hb := sz_le hg s
    have hr := (read_there hg s hx).2.2
    refine (H.read w p F d s 0 m h hg hs (by unfold I63; omega) (by unfold I63; omega)).mono ?_
    rintro e w' ⟨v, rfl, hv, hb⟩
    rw [hm, hf] at hr
    rw [hr] at hv
    exact ⟨v, by rw [hr], hv, hb⟩
theorem HB.ne_fs {w : World} {g b o n c : Nat} {h : Hdr} {fs : List Int} (k : HB w g h) (hf : FS w (.slice (some ⟨b, o, none⟩) n c) n fs) (h0 : 0 < n) : b ≠ g := by
  rintro rfl
  obtain ⟨a', c', e, _, _, _, _, hc⟩ := hf
  simp only [Value.slice.injEq, true_and] at e
  obtain ⟨rfl, rfl⟩ := e
  obtain ⟨b', o', e2, hcell⟩ := hc h0
  simp only [Option.some.injEq, Addr.mk.injEq] at e2
  obtain ⟨rfl, rfl, _⟩ := e2
  have h1 := hcell 0 (by omega)
  rw [cell_of_row w b (o + 0) _ _ _ k.1] at h1
  have hm := Array.mem_of_getElem? h1
  simp only [hv, List.mem_toArray, List.mem_cons] at hm
  rcases hm with hm | hm | hm | hm
  · simp at hm
  · simp at hm
  · simp at hm
  · simp [il] at hm
theorem cell_over {w w' : World} {a : Addr} {v : Value} {g : Nat} (h : w.cell? a = some v) (hg : w.grownBy w' (some g)) (hne : a.block ≠ g) : w'.cell? a = some v := by
  unfold World.cell? at h ⊢
  have hlt : a.block < w.heap.size := by
    rcases Nat.lt_or_ge a.block w.heap.size with hl | hl
    · exact hl
    · simp [Array.getElem?_eq_none hl] at h
  rw [hg.block a.block hlt (fun e => hne (Option.some.inj e))]
  exact h
theorem FS.over {w w' : World} {b o n c g : Nat} {fs : List Int} (h : FS w (.slice (some ⟨b, o, none⟩) n c) n fs) (hg : w.grownBy w' (some g)) (hne : b ≠ g) : FS w' (.slice (some ⟨b, o, none⟩) n c) n fs := by
  obtain ⟨a', c', e, h1, h2, h3, h4, hc⟩ := h
  simp only [Value.slice.injEq, true_and] at e
  obtain ⟨rfl, rfl⟩ := e
  refine ⟨_, _, rfl, h1, h2, h3, h4, fun h0 => ?_⟩
  obtain ⟨b', o', e2, hcell⟩ := hc h0
  simp only [Option.some.injEq, Addr.mk.injEq] at e2
  obtain ⟨rfl, rfl, _⟩ := e2
  exact ⟨b, o, rfl, fun j hj => cell_over (hcell j hj) hg hne⟩
structure LH (DK : World → Addr → (Nat → Bool) → AD → Prop) (w : World) (p : Addr) (F : Nat → Bool) (d : AD) (W : World) : Prop where
  lv : LV DK w p F d W
  hr : HB W w.heap.size noH
theorem LH.next (H : DiskSays DK) {w : World} {p : Addr} {F : Nat → Bool} {d : AD} {W W' : World} (h : LH DK w p F d W) (hb : Below W.heap.size W W') : LH DK w p F d W' := ⟨h.lv.next H hb, h.hr.keep hb⟩
theorem head_no {d : AD} {q : Int} {s : ByteArray} (hs : walB q = s) (h0 : s ≠ noS) {x : Int} (hx : foundI d s = x) (hn : x ≠ 0) : headI d q = (noH, x) := by
  unfold headI
  rw [hs, if_neg h0]
  unfold foundI at hx
  split at hx
  · rename_i h; rw [if_pos h, hx]
  · rename_i h
    rw [if_neg h]
    split at hx
    · rename_i h2; rw [if_pos h2, hx]
    · exact absurd hx.symm hn
theorem head_yes {d : AD} {q : Int} {s : ByteArray} (hs : walB q = s) (h0 : s ≠ noS) (hx : foundI d s = 0) {f : AF} (hf : d.get s = f) {x : Hdr} {e : Int} (hd : fstI f.seen = (x, e)) :
    headI d q = if f.n ≠ 17 ∨ e ≠ 0 ∨ x.s ≠ q then (noH, 12) else (x, 0) := by
  unfold headI
  rw [hs, if_neg h0]
  unfold foundI at hx
  split at hx
  · simp at hx
  rename_i h
  rw [if_neg h]
  split at hx
  · simp at hx
  rename_i h2
  rw [if_neg h2, hf, hd]
set_option maxRecDepth 8000 in
set_option maxHeartbeats 4000000 in
theorem sload_any (H : DiskSays DK) (w : World) (p : Addr) (F : Nat → Bool) (d : AD) (q : Int) (h : DK w p F d) (hg : Good d) (hvt : VT w) (hq : I63 q) :
    Calls Tryz.prog 70 #[ptr p, .int .i64 q] w fun e w' => ∃ v, e = .returned (.tuple #[.agg (hv (headI d q).1), v, .int .i64 (headI d q).2]) ∧ ((headI d q).2 = 0 → FS w' v 16 (dataI d q)) ∧ Below w.heap.size w w' := by
  have hH := Lib.hid H
  have HG := Lib.hid hg
  obtain ⟨w0, hw0⟩ : ∃ q, w.alloc (.cells #[.int .u64 0, .int .i64 0, .int .i64 0, .int .i64 0, .int .i64 0, .int .i64 0, .int .i64 0] 34) = q := ⟨_, rfl⟩
  have HS := Lib.hid (show LH DK w p F d w0 from by
    have hb := balloc w (.cells (hv noH) 34)
    rw [← hw0]
    exact ⟨⟨H.below h hb, hb, hvt.on hb⟩, HB.new w noH rfl⟩)
  obtain ⟨s, hs⟩ : ∃ s, walB q = s := ⟨_, rfl⟩
  have HWL := swal_of hq hs
  have hsz : s.size ≤ 281474976710656 := by rw [← hs]; exact wal_size q hq.1 hq.2
  by_cases h0 : s = noS
  · rw [show headI d q = (noH, 13) from by unfold headI; rw [hs, if_pos h0]]
    subst h0
    clear hs h hg hvt hq hsz
    go_enter Tryz.func70, Tryz.ntmps70
    go_wp2_with (first
      | (go_at_call 29; (with_reducible refine (HWL.out _ HS.out.lv.vt.vars).mono ?_); rintro e w1 ⟨rfl, hb⟩; have HS1 := Lib.hid (HS.out.next hH.out hb); clear hb)
      | (refine wpl_put_hd rfl (.tmp 4) (.tmp 15) rfl w.heap.size noH noH HS1.out.hr rfl rfl rfl ?_; intro wf HOF HGF))
    refine bodyPost_ret_by (results_row_tmp2 rfl _ _ w.heap.size _ rfl HOF.out.load) rfl ⟨_, rfl, fun e => by simp at e, hbelow_grown HS1.out.lv.below HGF.out (Nat.le_refl _) HS1.out.lv.below.size⟩
  have b0 : (s.toList == ([] : List UInt8)) = false := str_empty h0
  obtain ⟨m, hm⟩ : ∃ m, szI d s = m := ⟨_, rfl⟩
  have HZ := psize_of H hg hsz hm
  obtain ⟨x, hx⟩ : ∃ x, foundI d s = x := ⟨_, rfl⟩
  by_cases hx0 : x = 0
  · subst hx0
    obtain ⟨f, hf⟩ : ∃ f, d.get s = f := ⟨_, rfl⟩
    obtain ⟨⟨x, e⟩, hd⟩ : ∃ r, fstI f.seen = r := ⟨_, rfl⟩
    have hrt := read_there hg s hx
    have hgf : GF f := by rw [← hf]; exact hg.file _ (get_mem hrt.1)
    have HRD := sread_yes H hg hsz hx hm hf
    have hl := hgf.seen
    have hn1 := hgf.n1
    have hn64 := hgf.n64
    have HDC := sdec_of (by omega) hgf.bseen hd
    have HXT := Lib.hid (show HdT x from by have := fstI_typed hgf.bseen; rw [hd] at this; exact this)
    have hda : dataI d q = f.seen.drop 64 := by unfold dataI; rw [hs, hf]
    rw [head_yes hs h0 hx hf hd, hda]
    obtain ⟨k, hk⟩ : ∃ k, f.n = k := ⟨_, rfl⟩
    obtain ⟨zs, hzs⟩ : ∃ zs, f.seen = zs := ⟨_, rfl⟩
    simp only [hk, hzs] at HRD HDC ⊢
    clear hs h hg hvt hq hsz h0 hm hx hd hrt hda hgf hl hf hzs
    by_cases h17 : k = 17
    · subst h17
      clear hk hn1 hn64
      by_cases he : e = 0
      · subst he
        by_cases hq2 : x.s = q
        · rw [if_neg (by simp [hq2])]
          have bq : (x.s == q) = true := by simpa using hq2
          go_enter Tryz.func70, Tryz.ntmps70
          go_wp2_with (first
            | (go_at_call 29; (with_reducible refine (HWL.out _ HS.out.lv.vt.vars).mono ?_); rintro e w1 ⟨rfl, hb⟩; have HS1 := Lib.hid (HS.out.next hH.out hb); clear hb)
            | (go_at_call 41; (with_reducible refine (HZ.out _ _ _ HS1.out.lv.dk).mono ?_); rintro e w2 ⟨rfl, hb⟩; have HS2 := Lib.hid (HS1.out.next hH.out hb); clear hb)
            | (go_at_call 84; (with_reducible refine (HRD.out _ _ _ HS2.out.lv.dk).mono ?_); rintro e w3 ⟨v3, rfl, hf3, hb⟩; obtain ⟨a3, c3, rfl, _, hc3, hc63, _, _⟩ := id hf3; obtain ⟨b3, o3, rfl, hat3⟩ := hf3.at_ 0 (by omega); rw [Nat.zero_mul, Nat.add_zero, List.drop_zero] at hat3; have HS3 := Lib.hid (HS2.out.next hH.out hb); have HF3 := Lib.hid hf3; have HA3 := Lib.hid hat3; clear hb hf3 hat3)
            | (refine wpl_load_at rfl (.tmp 35) rfl b3 _ rfl _ HA3.out ?_)
            | (go_at_call 72; (with_reducible refine (HDC.out _ HS3.out.lv.vt.tab).mono ?_); rintro e w4 ⟨rfl, hb⟩; have HS4 := Lib.hid (HS3.out.next hH.out hb); have HF4 := Lib.hid (HF3.out.keep hb); clear hb)
            | (refine wpl_store_newH rfl _ _ rfl rfl w4.heap.size rfl x HXT.out.n rfl rfl ?_; intro w5 HK5 HB5)
            | (refine wpl_load_hs (by rfl) (.tmp 43) rfl rfl HK5.out ?_))
          have HR5 := Lib.hid ((HS4.out.hr.keep HB5.out).keep (Below.refl _ _).drew)
          have HK5d := Lib.hid (HK5.out.keep (Below.refl _ _).drew)
          have HW5 := Lib.hid (bch (bch HS4.out.lv.below HB5.out) (Below.refl _ _).drew)
          have HF5 := Lib.hid ((HF4.out.keep HB5.out).keep (Below.refl _ _).drew)
          have HNE := Lib.hid (HR5.out.ne_fs HF5.out (by omega))
          have HN4 := Lib.hid (show w4.heap.size ≠ w.heap.size from fun e => by have := HS4.out.hr.lt; omega)
          refine wp_region_held_drew (S := (fun W' => HB W' w4.heap.size x)) (by kernel_rfl) HK5d.out (fun hS => ?_)
          refine rgw 0 ⟨some 49, .load 34 (.tmp 10), 34, _, _, none⟩ hS ?_ (hy := by intro w hSw; (try dsimp only at hSw); refine exec_load_hd (.tmp 10) ?_ ?_ hSw <;> rfl)
          refine rgw 1 ⟨some 50, .move (.tmp 8), 35, _, _, none⟩ hS ?_
          refine rgw 2 ⟨some 51, .slice 35 (.tmp 50) (some (.const (.int .i64 1))) none none, 35, _, _, none⟩ hS ?_
          refine rg_one 3 ⟨none, .store 34 (.tmp 4) (.tmp 49), 0, _, _, none⟩ (by kernel_rfl) rfl (fun K hK => ?_)
          rw [if_pos (by rfl)]; refine wp_put_hd (.tmp 4) (.tmp 49) rfl w.heap.size noH x HR5.out HXT.out.n rfl rfl ?_; intro wf HOF HGF; have hN := HK5d.out.over HGF.out HN4.out
          refine hK.out _ _ ?_ (fun hS1 => ?_)
          · (first | exact hN | exact hS)
          clear hK K hS; have hS := hS1; clear hS1
          (try simp only [Act.put])
          refine rgw 4 ⟨some 5, .assign (.tmp 51), 35, _, _, none⟩ hS ?_
          refine rgw 5 ⟨some 6, .assign (.const (.int .i64 0)), 41, _, _, none⟩ hS ?_
          refine wpAnyH_done (by kernel_rfl) ?_ _
          go_wp2_with fail
          refine bodyPost_ret_by (results_row_tmp2 rfl _ _ w.heap.size _ rfl HOF.out.load) rfl ⟨_, rfl, ?_, hbelow_grown HW5.out HGF.out (Nat.le_refl _) HW5.out.size⟩
          (try intro _)
          have hm := (HF5.out.over HGF.out HNE.out).mid 1 16 (by omega)
          have hl := HF5.out.length
          rw [List.take_of_length_le (by simp; omega), show sliced (some ⟨b3, o3, none⟩) 1 (1 + 16) c3 64 = .slice (some ⟨b3, o3 + 64, none⟩) 16 (c3 - 1) from by unfold sliced; rw [if_neg (by omega)]; rfl] at hm
          exact hm
        · rw [if_pos (by simp [hq2])]
          have bq : (x.s == q) = false := by simpa using hq2
          go_enter Tryz.func70, Tryz.ntmps70
          go_wp2_with (first
            | (go_at_call 29; (with_reducible refine (HWL.out _ HS.out.lv.vt.vars).mono ?_); rintro e w1 ⟨rfl, hb⟩; have HS1 := Lib.hid (HS.out.next hH.out hb); clear hb)
            | (go_at_call 41; (with_reducible refine (HZ.out _ _ _ HS1.out.lv.dk).mono ?_); rintro e w2 ⟨rfl, hb⟩; have HS2 := Lib.hid (HS1.out.next hH.out hb); clear hb)
            | (go_at_call 84; (with_reducible refine (HRD.out _ _ _ HS2.out.lv.dk).mono ?_); rintro e w3 ⟨v3, rfl, hf3, hb⟩; obtain ⟨a3, c3, rfl, _, hc3, hc63, _, _⟩ := id hf3; obtain ⟨b3, o3, rfl, hat3⟩ := hf3.at_ 0 (by omega); rw [Nat.zero_mul, Nat.add_zero, List.drop_zero] at hat3; have HS3 := Lib.hid (HS2.out.next hH.out hb); have HF3 := Lib.hid hf3; have HA3 := Lib.hid hat3; clear hb hf3 hat3)
            | (refine wpl_load_at rfl (.tmp 35) rfl b3 _ rfl _ HA3.out ?_)
            | (go_at_call 72; (with_reducible refine (HDC.out _ HS3.out.lv.vt.tab).mono ?_); rintro e w4 ⟨rfl, hb⟩; have HS4 := Lib.hid (HS3.out.next hH.out hb); have HF4 := Lib.hid (HF3.out.keep hb); clear hb)
            | (refine wpl_store_newH rfl _ _ rfl rfl w4.heap.size rfl x HXT.out.n rfl rfl ?_; intro w5 HK5 HB5)
            | (refine wpl_load_hs (by rfl) (.tmp 43) rfl rfl HK5.out ?_)
            | (refine wpl_put_hd rfl (.tmp 4) (.tmp 48) rfl w.heap.size noH noH (HS4.out.hr.keep HB5.out) rfl rfl rfl ?_; have HW5 := Lib.hid (bch HS4.out.lv.below HB5.out); intro wf HOF HGF))
          refine bodyPost_ret_by (results_row_tmp2 rfl _ _ w.heap.size _ rfl HOF.out.load) rfl ⟨_, rfl, fun e => by simp at e, hbelow_grown HW5.out HGF.out (Nat.le_refl _) HW5.out.size⟩
      · rw [if_pos (by simp [he])]
        have be : (e == 0) = false := by simpa using he
        focus
          go_enter Tryz.func70, Tryz.ntmps70
          go_wp2_with (first
            | (go_at_call 29; (with_reducible refine (HWL.out _ HS.out.lv.vt.vars).mono ?_); rintro e w1 ⟨rfl, hb⟩; have HS1 := Lib.hid (HS.out.next hH.out hb); clear hb)
            | (go_at_call 41; (with_reducible refine (HZ.out _ _ _ HS1.out.lv.dk).mono ?_); rintro e w2 ⟨rfl, hb⟩; have HS2 := Lib.hid (HS1.out.next hH.out hb); clear hb)
            | (go_at_call 84; (with_reducible refine (HRD.out _ _ _ HS2.out.lv.dk).mono ?_); rintro e w3 ⟨v3, rfl, hf3, hb⟩; obtain ⟨a3, c3, rfl, _, hc3, hc63, _, _⟩ := id hf3; obtain ⟨b3, o3, rfl, hat3⟩ := hf3.at_ 0 (by omega); rw [Nat.zero_mul, Nat.add_zero, List.drop_zero] at hat3; have HS3 := Lib.hid (HS2.out.next hH.out hb); have HF3 := Lib.hid hf3; have HA3 := Lib.hid hat3; clear hb hf3 hat3)
            | (refine wpl_load_at rfl (.tmp 35) rfl b3 _ rfl _ HA3.out ?_)
            | (go_at_call 72; (with_reducible refine (HDC.out _ HS3.out.lv.vt.tab).mono ?_); rintro e w4 ⟨rfl, hb⟩; have HS4 := Lib.hid (HS3.out.next hH.out hb); have HF4 := Lib.hid (HF3.out.keep hb); clear hb)
            | (refine wpl_store_newH rfl _ _ rfl rfl w4.heap.size rfl x HXT.out.n rfl rfl ?_; intro w5 HK5 HB5)
            | (refine wpl_load_hs (by rfl) (.tmp 43) rfl rfl HK5.out ?_)
            | (refine wpl_put_hd rfl (.tmp 4) (.tmp 48) rfl w.heap.size noH noH (HS4.out.hr.keep HB5.out) rfl rfl rfl ?_; have HW5 := Lib.hid (bch HS4.out.lv.below HB5.out); intro wf HOF HGF))
          refine bodyPost_ret_by (results_row_tmp2 rfl _ _ w.heap.size _ rfl HOF.out.load) rfl ⟨_, rfl, fun e => by simp at e, hbelow_grown HW5.out HGF.out (Nat.le_refl _) HW5.out.size⟩
    · rw [if_pos (by simp [h17])]
      have b17 : ((k : Int) == 17) = false := by simp; omega
      focus
          go_enter Tryz.func70, Tryz.ntmps70
          go_wp2_with (first
            | (go_at_call 29; (with_reducible refine (HWL.out _ HS.out.lv.vt.vars).mono ?_); rintro e w1 ⟨rfl, hb⟩; have HS1 := Lib.hid (HS.out.next hH.out hb); clear hb)
            | (go_at_call 41; (with_reducible refine (HZ.out _ _ _ HS1.out.lv.dk).mono ?_); rintro e w2 ⟨rfl, hb⟩; have HS2 := Lib.hid (HS1.out.next hH.out hb); clear hb)
            | (go_at_call 84; (with_reducible refine (HRD.out _ _ _ HS2.out.lv.dk).mono ?_); rintro e w3 ⟨v3, rfl, hf3, hb⟩; obtain ⟨a3, c3, rfl, _, hc3, hc63, _, _⟩ := id hf3; have HS3 := Lib.hid (HS2.out.next hH.out hb); clear hb hf3)
            | (refine wpl_put_hd rfl (.tmp 4) (.tmp 32) rfl w.heap.size noH noH (HS3.out.hr) rfl rfl rfl ?_; have HW5 := Lib.hid (HS3.out.lv.below); intro wf HOF HGF))
          refine bodyPost_ret_by (results_row_tmp2 rfl _ _ w.heap.size _ rfl HOF.out.load) rfl ⟨_, rfl, fun e => by simp at e, hbelow_grown HW5.out HGF.out (Nat.le_refl _) HW5.out.size⟩
  · have HRD := sread_no H hg hsz hx hx0 hm
    rw [head_no hs h0 hx hx0]
    have bx : (x == 0) = false := by simpa using hx0
    clear hs h hg hvt hq hsz h0 hm hx
    go_enter Tryz.func70, Tryz.ntmps70
    go_wp2_with (first
      | (go_at_call 29; (with_reducible refine (HWL.out _ HS.out.lv.vt.vars).mono ?_); rintro e w1 ⟨rfl, hb⟩; have HS1 := Lib.hid (HS.out.next hH.out hb); clear hb)
      | (go_at_call 41; (with_reducible refine (HZ.out _ _ _ HS1.out.lv.dk).mono ?_); rintro e w2 ⟨rfl, hb⟩; have HS2 := Lib.hid (HS1.out.next hH.out hb); clear hb)
      | (go_at_call 84; (with_reducible refine (HRD.out _ _ _ HS2.out.lv.dk).mono ?_); rintro e w3 ⟨v3, rfl, hb⟩; have HS3 := Lib.hid (HS2.out.next hH.out hb); clear hb)
      | (refine wpl_put_hd rfl (.tmp 4) (.tmp 27) rfl w.heap.size noH noH HS3.out.hr rfl rfl rfl ?_; intro wf HOF HGF))
    refine bodyPost_ret_by (results_row_tmp2 rfl _ _ w.heap.size _ rfl HOF.out.load) rfl ⟨_, rfl, fun e => absurd e hx0, hbelow_grown HS3.out.lv.below HGF.out (Nat.le_refl _) HS3.out.lv.below.size⟩
theorem headI_typed {d : AD} (hg : Good d) (q : Int) : HdT (headI d q).1 := by
  unfold headI
  split
  · exact noH_typed
  split
  · exact noH_typed
  split
  · exact noH_typed
  rename_i hh
  split
  · exact noH_typed
  · exact fstI_typed (hg.file _ (get_mem (Decidable.not_not.1 hh))).bseen
theorem sload_of (H : DiskSays DK) {d : AD} (hg : Good d) {q : Int} (hq : I63 q) {x : Hdr} {e : Int} (hx : headI d q = (x, e)) :
    Hid (∀ w p F, DK w p F d → VT w → Calls Tryz.prog 70 #[ptr p, .int .i64 q] w fun r w' => ∃ v, r = .returned (.tuple #[.agg (hv x), v, .int .i64 e]) ∧ (e = 0 → FS w' v 16 (dataI d q)) ∧ Below w.heap.size w w') :=
  Lib.hid fun w p F h hv => by
    have := sload_any H w p F d q h hg hv hq
    rwa [hx] at this
set_option maxRecDepth 8000 in
set_option maxHeartbeats 1000000 in
theorem sheader_any (H : DiskSays DK) (w : World) (p : Addr) (F : Nat → Bool) (d : AD) (q : Int) (h : DK w p F d) (hg : Good d) (hvt : VT w) (hq : I63 q) :
    Calls Tryz.prog 23 #[ptr p, .int .i64 q] w fun e w' => e = .returned (.tuple #[.agg (hv (headI d q).1), .int .i64 (headI d q).2]) ∧ Below w.heap.size w w' := by
  have hH := Lib.hid H
  obtain ⟨w0, hw0⟩ : ∃ q, w.alloc (.cells #[.int .u64 0, .int .i64 0, .int .i64 0, .int .i64 0, .int .i64 0, .int .i64 0, .int .i64 0] 34) = q := ⟨_, rfl⟩
  have HS := Lib.hid (show LH DK w p F d w0 from by
    have hb := balloc w (.cells (hv noH) 34)
    rw [← hw0]
    exact ⟨⟨H.below h hb, hb, hvt.on hb⟩, HB.new w noH rfl⟩)
  have HXT := Lib.hid (headI_typed hg q)
  obtain ⟨⟨x, e⟩, hx⟩ : ∃ r, headI d q = r := ⟨_, rfl⟩
  have HLD := sload_of H hg hq hx
  rw [hx] at HXT ⊢
  clear hx hg hq hvt h
  go_enter Tryz.func23, Tryz.ntmps23
  go_wp2_with (first
    | (go_at_call 70; (with_reducible refine (HLD.out _ _ _ HS.out.lv.dk HS.out.lv.vt).mono ?_); rintro r w1 ⟨v, rfl, hv, hb⟩; have HS1 := Lib.hid (HS.out.next hH.out hb); clear hb hv)
    | (refine wpl_store_newH rfl _ _ rfl rfl w1.heap.size rfl x HXT.out.n rfl rfl ?_; intro w2 HK2 HB2)
    | (refine wpl_load_hd (by rfl) (.tmp 6) rfl rfl HK2.out ?_)
    | (refine wpl_put_hd rfl (.tmp 4) (.tmp 16) rfl w.heap.size noH x (HS1.out.hr.keep HB2.out) HXT.out.n rfl rfl ?_; have HW := Lib.hid (bch HS1.out.lv.below HB2.out); intro wf HOF HGF))
  refine bodyPost_ret_by (results_row_tmp rfl _ _ w.heap.size _ rfl HOF.out.load) rfl ⟨rfl, hbelow_grown HW.out HGF.out (Nat.le_refl _) HW.out.size⟩
set_option maxRecDepth 8000 in
set_option maxHeartbeats 1000000 in
theorem ssectors_any (H : DiskSays DK) (w : World) (p : Addr) (F : Nat → Bool) (d : AD) (q : Int) (h : DK w p F d) (hg : Good d) (hvt : VT w) (hq : I63 q) :
    Calls Tryz.prog 24 #[ptr p, .int .i64 q] w fun e w' => ∃ v, e = .returned (.tuple #[v, .int .i64 (headI d q).2]) ∧ ((headI d q).2 = 0 → FS w' v 16 (dataI d q)) ∧ Below w.heap.size w w' := by
  have hH := Lib.hid H
  have HK := Lib.hid h
  have HV := Lib.hid hvt
  have HXT := Lib.hid (headI_typed hg q)
  obtain ⟨⟨x, e⟩, hx⟩ : ∃ r, headI d q = r := ⟨_, rfl⟩
  have HLD := sload_of H hg hq hx
  rw [hx] at HXT ⊢
  obtain ⟨da, hda⟩ : ∃ l, dataI d q = l := ⟨_, rfl⟩
  rw [hda] at HLD ⊢
  clear hx hg hq hvt h hda
  go_enter Tryz.func24, Tryz.ntmps24
  go_wp2_with (first
    | (go_at_call 70; (with_reducible refine (HLD.out _ _ _ HK.out HV.out).mono ?_); rintro r w1 ⟨v, rfl, hv, hb⟩; have HF1 := Lib.hid hv; have HB1 := Lib.hid hb; clear hb hv)
    | (refine wpl_store_newH rfl _ _ rfl rfl w1.heap.size rfl x HXT.out.n rfl rfl ?_; intro w2 HK2 HB2))
  go_ret2
  exact ⟨v, rfl, fun e0 => (HF1.out e0).keep HB2.out, bch HB1.out HB2.out⟩
end Go.Proofs.YtpoiapfgbbmekaaGreatDoor
namespace Go.Proofs.YtpoiapfgbbmekaaGreatDoor
open Go.RowKit
theorem itoa_three : Lib.itoa 1 = [49] ∧ Lib.itoa 2 = [50] ∧ Lib.itoa 3 = [51] := by
  refine ⟨?_, ?_, ?_⟩
  · rw [show (1 : Int) = ((1 : Nat) : Int) from rfl, itoa_nat, Lib.decDigits_one (by omega)]; rfl
  · rw [show (2 : Int) = ((2 : Nat) : Int) from rfl, itoa_nat, Lib.decDigits_one (by omega)]; rfl
  · rw [show (3 : Int) = ((3 : Nat) : Int) from rfl, itoa_nat, Lib.decDigits_one (by omega)]; rfl
theorem wal_lits : walB 1 = ⟨#[119, 97, 108, 45, 49]⟩ ∧ walB 2 = ⟨#[119, 97, 108, 45, 50]⟩ ∧ walB 3 = ⟨#[119, 97, 108, 45, 51]⟩ := by
  obtain ⟨h1, h2, h3⟩ := itoa_three
  unfold walB
  rw [walN_in (n := 1) (by omega) (by omega), walN_in (n := 2) (by omega) (by omega), walN_in (n := 3) (by omega) (by omega), h1, h2, h3]
  exact ⟨rfl, rfl, rfl⟩
end Go.Proofs.YtpoiapfgbbmekaaGreatDoor
namespace Go.Proofs.YtpoiapfgbbmekaaGreatDoor
open Go.RowKit
variable {DK : World → Addr → (Nat → Bool) → AD → Prop}
structure OPn (DK : World → Addr → (Nat → Bool) → AD → Prop) (W0 : World) (F : Nat → Bool) (w : World) (p : Addr) (F1 : Nat → Bool) (d : AD) (W : World) : Prop where
  dk : DK W p F1 d
  ex : Ext F w W F1
  ex0 : Ext (fun _ => false) W0 W F1
  pow0 : Pow W0
theorem OPn.pow {W0 : World} {F : Nat → Bool} {w : World} {p : Addr} {F1 : Nat → Bool} {d : AD} {W : World} (h : OPn DK W0 F w p F1 d W) : Pow W := h.pow0.ext h.ex0
theorem OPn.next (H : DiskSays DK) {W0 : World} {F : Nat → Bool} {w : World} {p : Addr} {F1 : Nat → Bool} {d : AD} {W W' : World} (h : OPn DK W0 F w p F1 d W) (hb : Below W.heap.size W W') : OPn DK W0 F w p F1 d W' :=
  ⟨H.below h.dk hb, h.ex.trans (Ext.below hb), h.ex0.trans (Ext.below hb), h.pow0⟩
theorem OPn.op {W0 : World} {F : Nat → Bool} {w : World} {p : Addr} {F1 F2 : Nat → Bool} {d d' : AD} {W W' : World} (h : OPn DK W0 F w p F1 d W) (hk : DK W' p F2 d') (hx : Ext F1 W W' F2) : OPn DK W0 F w p F2 d' W' :=
  ⟨hk, h.ex.trans hx, h.ex0.trans hx, h.pow0⟩
theorem pready_of (H : DiskSays DK) {d : AD} (hg : Good d) {b : Bool} (hd : d.down = b) : Hid (∀ w p F, DK w p F d → Calls Tryz.prog 75 #[ptr p] w fun e w' => e = .returned (.int .i64 (if b = true then 9 else 0)) ∧ Below w.heap.size w w') :=
  Lib.hid fun w p F h => by rw [← hd]; exact pready_any H w p F d h hg
theorem pmake_of (H : DiskSays DK) {d d2 : AD} {s : ByteArray} {e2 : Int} (hg : Good d) (hs : s.size ≤ 281474976710656) (h : d.makeR s 17 = (d2, e2)) : Hid (∀ w p F, DK w p F d → Calls Tryz.prog 13 #[ptr p, .string s, .int .i64 17] w fun e w' => ∃ F', e = .returned (.int .i64 e2) ∧ DK w' p F' d2 ∧ Ext F w w' F') :=
  Lib.hid fun w p F hk => by
    have := H.make w p F d s 17 hk hg hs (by unfold I63; omega)
    rwa [h] at this
theorem prename_of (H : DiskSays DK) {d d2 : AD} {s t : ByteArray} {e2 : Int} (hg : Good d) (hs : s.size ≤ 281474976710656) (ht : t.size ≤ 281474976710656) (h : d.renameR s t = (d2, e2)) : Hid (∀ w p F, DK w p F d → Calls Tryz.prog 33 #[ptr p, .string s, .string t] w fun e w' => ∃ F', e = .returned (.int .i64 e2) ∧ DK w' p F' d2 ∧ Ext F w w' F') :=
  Lib.hid fun w p F hk => by
    have := H.rename w p F d s t hk hg hs ht
    rwa [h] at this
theorem pfirst_of (H : DiskSays DK) {d : AD} {n : Int} {u : ByteArray} (hg : Good d) (hu : firstI d n = u) : Hid (∀ w p F, DK w p F d → Pow w → Calls Tryz.prog 76 #[ptr p, .int .i64 n] w fun e w' => e = .returned (.string u) ∧ Below w.heap.size w w') :=
  Lib.hid fun w p F h hp => by rw [← hu]; exact pfirst_any H w p F d n h hg hp
set_option maxRecDepth 8000 in
theorem ptake_any (H : DiskSays DK) (W0 w : World) (p : Addr) (F : Nat → Bool) (d : AD) (h : DK w p F d) (hg : Good d) (hp : Pow W0) (hx0 : Ext (fun _ => false) W0 w F) :
    Calls Tryz.prog 31 #[ptr p] w fun e w' => ∃ F', e = .returned (.tuple #[.string d.takeR.2.1, .int .i64 d.takeR.2.2]) ∧ DK w' p F' d.takeR.1 ∧ Ext F w w' F' := by
  have hH := Lib.hid H
  have HG := Lib.hid hg
  have HS := Lib.hid (⟨h, Ext.refl F w, hx0, hp⟩ : OPn DK W0 F w p F d w)
  clear h hp hx0
  unfold AD.takeR
  by_cases hd : d.down = true
  · rw [if_pos hd]
    have HRD := pready_of H hg hd
    clear hd hg
    go_enter Tryz.func31, Tryz.ntmps31
    go_wp2_with (first
      | (go_at_call 75; (with_reducible refine (HRD.out _ _ _ HS.out.dk).mono ?_); rintro e w1 ⟨rfl, hb⟩; have HS1 := Lib.hid (HS.out.next hH.out hb); clear hb))
    go_ret2
    exact ⟨F, rfl, HS1.out.dk, HS1.out.ex⟩
  rw [if_neg hd]
  rw [Bool.not_eq_true] at hd
  have HRD := pready_of H hg hd
  clear hd
  obtain ⟨u, hu⟩ : ∃ u, firstI d 17 = u := ⟨_, rfl⟩
  have HF1 := pfirst_of H hg hu
  have hu3 : u = noS ∨ u = fr1 ∨ u = fr2 := by rw [← hu]; exact first_or d 17
  obtain ⟨v, hv⟩ : ∃ v, firstI d 0 = v := ⟨_, rfl⟩
  have HF2 := pfirst_of H hg hv
  have hv3 : v = noS ∨ v = fr1 ∨ v = fr2 := by rw [← hv]; exact first_or d 0
  rw [hu, hv]
  clear hu hv
  by_cases hu0 : u = noS
  · subst hu0
    rw [if_neg (by simp)]
    by_cases hv0 : v = noS
    · subst hv0
      rw [if_pos rfl]
      clear hu3 hv3
      go_enter Tryz.func31, Tryz.ntmps31
      go_wp2_with (first
        | (go_at_call 75; (with_reducible refine (HRD.out _ _ _ HS.out.dk).mono ?_); rintro e w1 ⟨rfl, hb⟩; have HS1 := Lib.hid (HS.out.next hH.out hb); clear hb)
        | (go_at_call 76; (with_reducible refine (HF1.out _ _ _ HS1.out.dk HS1.out.pow).mono ?_); rintro e w2 ⟨rfl, hb⟩; have HS2 := Lib.hid (HS1.out.next hH.out hb); clear hb)
        | (go_at_call 76; (with_reducible refine (HF2.out _ _ _ HS2.out.dk HS2.out.pow).mono ?_); rintro e w3 ⟨rfl, hb⟩; have HS3 := Lib.hid (HS2.out.next hH.out hb); clear hb))
      go_ret2
      exact ⟨F, rfl, HS3.out.dk, HS3.out.ex⟩
    rw [if_neg hv0]
    obtain ⟨⟨d2, e2⟩, hr⟩ : ∃ r, d.makeR v 17 = r := ⟨_, rfl⟩
    have HM := pmake_of H hg (by rcases hv3 with rfl | rfl | rfl <;> decide) hr
    rw [hr]
    clear hr hu3
    have hvv : v = fr1 ∨ v = fr2 := hv3.resolve_left hv0
    clear hv3 hv0
    by_cases he : e2 = 0
    · subst he
      rw [if_pos rfl]
      rcases hvv with rfl | rfl
      · skip
        go_enter Tryz.func31, Tryz.ntmps31
        go_wp2_with (first
          | (go_at_call 75; (with_reducible refine (HRD.out _ _ _ HS.out.dk).mono ?_); rintro e w1 ⟨rfl, hb⟩; have HS1 := Lib.hid (HS.out.next hH.out hb); clear hb)
          | (go_at_call 76; (with_reducible refine (HF1.out _ _ _ HS1.out.dk HS1.out.pow).mono ?_); rintro e w2 ⟨rfl, hb⟩; have HS2 := Lib.hid (HS1.out.next hH.out hb); clear hb)
          | (go_at_call 76; (with_reducible refine (HF2.out _ _ _ HS2.out.dk HS2.out.pow).mono ?_); rintro e w3 ⟨rfl, hb⟩; have HS3 := Lib.hid (HS2.out.next hH.out hb); clear hb)
          | (go_at_call 13; (with_reducible refine (HM.out _ _ _ HS3.out.dk).mono ?_); rintro e w4 ⟨F4, rfl, hk, hx⟩; have HS4 := Lib.hid (HS3.out.op hk hx); clear hk hx))
        go_ret2
        exact ⟨F4, rfl, HS4.out.dk, HS4.out.ex⟩
      · skip
        go_enter Tryz.func31, Tryz.ntmps31
        go_wp2_with (first
          | (go_at_call 75; (with_reducible refine (HRD.out _ _ _ HS.out.dk).mono ?_); rintro e w1 ⟨rfl, hb⟩; have HS1 := Lib.hid (HS.out.next hH.out hb); clear hb)
          | (go_at_call 76; (with_reducible refine (HF1.out _ _ _ HS1.out.dk HS1.out.pow).mono ?_); rintro e w2 ⟨rfl, hb⟩; have HS2 := Lib.hid (HS1.out.next hH.out hb); clear hb)
          | (go_at_call 76; (with_reducible refine (HF2.out _ _ _ HS2.out.dk HS2.out.pow).mono ?_); rintro e w3 ⟨rfl, hb⟩; have HS3 := Lib.hid (HS2.out.next hH.out hb); clear hb)
          | (go_at_call 13; (with_reducible refine (HM.out _ _ _ HS3.out.dk).mono ?_); rintro e w4 ⟨F4, rfl, hk, hx⟩; have HS4 := Lib.hid (HS3.out.op hk hx); clear hk hx))
        go_ret2
        exact ⟨F4, rfl, HS4.out.dk, HS4.out.ex⟩
    · rw [if_neg (show ¬ (d2, e2).2 = 0 from he)]
      have b0 : (e2 == 0) = false := by simpa using he
      rcases hvv with rfl | rfl
      · skip
        go_enter Tryz.func31, Tryz.ntmps31
        go_wp2_with (first
          | (go_at_call 75; (with_reducible refine (HRD.out _ _ _ HS.out.dk).mono ?_); rintro e w1 ⟨rfl, hb⟩; have HS1 := Lib.hid (HS.out.next hH.out hb); clear hb)
          | (go_at_call 76; (with_reducible refine (HF1.out _ _ _ HS1.out.dk HS1.out.pow).mono ?_); rintro e w2 ⟨rfl, hb⟩; have HS2 := Lib.hid (HS1.out.next hH.out hb); clear hb)
          | (go_at_call 76; (with_reducible refine (HF2.out _ _ _ HS2.out.dk HS2.out.pow).mono ?_); rintro e w3 ⟨rfl, hb⟩; have HS3 := Lib.hid (HS2.out.next hH.out hb); clear hb)
          | (go_at_call 13; (with_reducible refine (HM.out _ _ _ HS3.out.dk).mono ?_); rintro e w4 ⟨F4, rfl, hk, hx⟩; have HS4 := Lib.hid (HS3.out.op hk hx); clear hk hx))
        go_ret2
        exact ⟨F4, rfl, HS4.out.dk, HS4.out.ex⟩
      · skip
        go_enter Tryz.func31, Tryz.ntmps31
        go_wp2_with (first
          | (go_at_call 75; (with_reducible refine (HRD.out _ _ _ HS.out.dk).mono ?_); rintro e w1 ⟨rfl, hb⟩; have HS1 := Lib.hid (HS.out.next hH.out hb); clear hb)
          | (go_at_call 76; (with_reducible refine (HF1.out _ _ _ HS1.out.dk HS1.out.pow).mono ?_); rintro e w2 ⟨rfl, hb⟩; have HS2 := Lib.hid (HS1.out.next hH.out hb); clear hb)
          | (go_at_call 76; (with_reducible refine (HF2.out _ _ _ HS2.out.dk HS2.out.pow).mono ?_); rintro e w3 ⟨rfl, hb⟩; have HS3 := Lib.hid (HS2.out.next hH.out hb); clear hb)
          | (go_at_call 13; (with_reducible refine (HM.out _ _ _ HS3.out.dk).mono ?_); rintro e w4 ⟨F4, rfl, hk, hx⟩; have HS4 := Lib.hid (HS3.out.op hk hx); clear hk hx))
        go_ret2
        exact ⟨F4, rfl, HS4.out.dk, HS4.out.ex⟩
  rw [if_pos hu0]
  have huu : u = fr1 ∨ u = fr2 := hu3.resolve_left hu0
  clear hv3 hu3 hu0 HF2
  rcases huu with rfl | rfl
  · skip
    go_enter Tryz.func31, Tryz.ntmps31
    go_wp2_with (first
      | (go_at_call 75; (with_reducible refine (HRD.out _ _ _ HS.out.dk).mono ?_); rintro e w1 ⟨rfl, hb⟩; have HS1 := Lib.hid (HS.out.next hH.out hb); clear hb)
      | (go_at_call 76; (with_reducible refine (HF1.out _ _ _ HS1.out.dk HS1.out.pow).mono ?_); rintro e w2 ⟨rfl, hb⟩; have HS2 := Lib.hid (HS1.out.next hH.out hb); clear hb))
    go_ret2
    exact ⟨F, rfl, HS2.out.dk, HS2.out.ex⟩
  · skip
    go_enter Tryz.func31, Tryz.ntmps31
    go_wp2_with (first
      | (go_at_call 75; (with_reducible refine (HRD.out _ _ _ HS.out.dk).mono ?_); rintro e w1 ⟨rfl, hb⟩; have HS1 := Lib.hid (HS.out.next hH.out hb); clear hb)
      | (go_at_call 76; (with_reducible refine (HF1.out _ _ _ HS1.out.dk HS1.out.pow).mono ?_); rintro e w2 ⟨rfl, hb⟩; have HS2 := Lib.hid (HS1.out.next hH.out hb); clear hb))
    go_ret2
    exact ⟨F, rfl, HS2.out.dk, HS2.out.ex⟩
end Go.Proofs.YtpoiapfgbbmekaaGreatDoor
