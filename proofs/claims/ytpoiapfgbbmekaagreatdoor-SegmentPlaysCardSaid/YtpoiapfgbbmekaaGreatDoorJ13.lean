/-
  TEXTS JOINED: HeadPut, HeadOps, HeadFd, Put, PutGet, CrcCode, HeadGet. Each one's own words stand at its head.
-/
import Derived.Test.YtpoiapfgbbmekaaGreatDoorJ11
import Derived.Test.YtpoiapfgbbmekaaGreatDoorJ1
import Derived.Great.BuildSlice
import Derived.Test.YtpoiapfgbbmekaaGreatDoorJ5
import Derived.Test.YtpoiapfgbbmekaaGreatDoorJ3
import Derived.Lib.SlBytesConst
namespace Go.Proofs.YtpoiapfgbbmekaaGreatDoor
open Go.RowKit
theorem hgrown_row (w : World) (g : Nat) (cs : Array Value) : w.grownBy (w.setRow g cs) (some g) :=
  ⟨rfl, rfl, rfl, by simp, fun i _ hne => setRow_other w g i cs (fun e => hne (by rw [e]))⟩
theorem hgrown_trans {a b c : World} {row : Option Nat} (h : a.grownBy b row) (k : b.grownBy c row) : a.grownBy c row :=
  ⟨k.os.trans h.os, k.tape.trans h.tape, k.output.trans h.output, Nat.le_trans h.size k.size, fun i hi hne => (k.block i (Nat.lt_of_lt_of_le hi h.size) hne).trans (h.block i hi hne)⟩
theorem hgrown_refl (w : World) (row : Option Nat) : w.grownBy w row := ⟨rfl, rfl, rfl, Nat.le_refl _, fun _ _ _ => rfl⟩
theorem splice_nil {α : Type} (L : List α) (off : Nat) : splice L off [] = L := by simp [splice]
theorem splice_more {α : Type} (L : List α) (off : Nat) (a b : List α) (h : off + a.length ≤ L.length) : splice (splice L off a) (off + a.length) b = splice L off (a ++ b) := by
  unfold splice
  have e1 : (L.take off ++ (a ++ L.drop (off + a.length))).take (off + a.length) = L.take off ++ a := by
    rw [← List.append_assoc, List.take_left' (by simp; omega)]
  have e2 : (L.take off ++ (a ++ L.drop (off + a.length))).drop (off + a.length + b.length) = L.drop (off + (a ++ b).length) := by
    rw [← List.append_assoc, ← List.drop_drop, List.drop_left' (by simp; omega), List.drop_drop]
    congr 1; simp; omega
  rw [e1, e2, List.append_assoc, List.append_assoc]
theorem wpl_copy_blk {ops : Array Oper} {rest : List Oper} {o : Oper} {a : Act} {w : World} {Q : Exit → Act → World → Prop} (hgd : o.guard = none) (d s : Operand)
    (ho : o.op = .call { callee := .builtin .copy, args := #[d, s], argTypes := #[36, 36] }) (g off dLen dCap : Nat) (cur : List Int) (hblk : Blk w g cur)
    (hd : a.eval d = .slice (some ⟨g, off, none⟩) dLen dCap) (v : Value) (n : Nat) (zs : List Int) (hs : a.eval s = v) (hri : RI .u8 w v n zs) (h0 : 0 < n) (hnd : n ≤ dLen) (hfit : off + dLen ≤ 64)
    (h : ∀ w', Hid (Blk w' g (splice cur off zs)) → Hid (w.grownBy w' (some g)) → wpList Tryz.prog ops Q rest (a.put o.dst (goInt (n : Int))) w') : wpList Tryz.prog ops Q (o :: rest) a w := by
  obtain ⟨sp, sCap, rfl, hl, _, _, _, hc⟩ := hri
  have hcl : (il .u8 zs).length = n := by rw [il_length, hl]
  have hmin : Nat.min n dLen = n := Nat.min_eq_left hnd
  obtain ⟨b, of2, rfl, hcell⟩ := hc (by omega)
  refine wpList_copy_own hgd d s 36 36 ho 5 Tryz.underlying36 u8_size1 g off dLen dCap ⟨b, of2, none⟩ n sCap hd hs (il .u8 cur).toArray 63 hblk.1 (il .u8 zs) (by rw [hcl, hmin]) ?_ (by rw [hcl]; simp [il_length, hblk.2]; omega) (il_one _ _) ?_
  · intro j u hj
    have hjl : j < zs.length := by have := (List.getElem?_eq_some_iff.1 hj).1; rwa [il_length] at this
    rw [il_get _ _ _ hjl] at hj
    rw [Addr.add_mid, hcell j (by omega)]
    exact hj
  · rw [hcl]
    refine h _ (Lib.hid ⟨?_, ?_⟩) (Lib.hid (hgrown_row _ _ _))
    · unfold sv
      rw [← il_splice]
      have := setRow_heap w g (sv cur) ((il .u8 cur).toArray.toList.take off ++ (il .u8 zs ++ (il .u8 cur).toArray.toList.drop (off + n))).toArray _ _ hblk.1
      simpa [splice, hcl] using this
    · rw [length_splice _ _ _ (by rw [hblk.2]; omega)]; exact hblk.2
theorem getD_memH {α : Type} {l : List α} {k : Nat} {d : α} (h : k < l.length) : l.getD k d ∈ l := by
  simp [List.getD, h]
def ups (ls : List (List Int)) (i : Nat) : List Int := (ls.take i).flatten
theorem ups_zero (ls : List (List Int)) : ups ls 0 = [] := rfl
theorem ups_succ (ls : List (List Int)) (i : Nat) (hi : i < ls.length) : ups ls (i + 1) = ups ls i ++ ls.getD i [] := by
  unfold ups
  rw [List.take_succ_eq_append_getElem hi, List.flatten_append]
  congr 1
  simp [List.getD, hi]
theorem ups_all (ls : List (List Int)) : ups ls ls.length = ls.flatten := by unfold ups; rw [List.take_length]
theorem ups_le (ls : List (List Int)) (i : Nat) : (ups ls i).length ≤ ls.flatten.length := by
  unfold ups
  have := congrArg List.length (congrArg List.flatten (List.take_append_drop i ls))
  rw [List.flatten_append, List.length_append] at this
  omega
set_option maxRecDepth 8000 in
set_option maxHeartbeats 1000000 in
theorem hput_any (g at_ n : Nat) (l : List Int) (ls : List (List Int)) (v : Value) (w : World) (hblk : Blk w g l) (hls : ∀ w', w.grownBy w' (some g) → RL .u8 w' v n ls) (hne : ∀ x ∈ ls, 0 < x.length) (hfit : at_ + ls.flatten.length ≤ 64) :
    Calls Tryz.prog 119 #[.pointer (some ⟨g, 0, none⟩), .int .i64 at_, v] w fun e w' => e = .returned (.tuple #[]) ∧ Blk w' g (splice l at_ ls.flatten) ∧ w.grownBy w' (some g) := by
  obtain ⟨a, cap, rfl, hcap, hcap2, _⟩ := (hls w (hgrown_refl _ _)).form
  have hn := (hls w (hgrown_refl _ _)).length
  have HN := Lib.hid hn
  have HE := Lib.hid hne
  have HL := Lib.hid hls
  have HBK := Lib.hid hblk
  have HFIT := Lib.hid hfit
  have hn9 : (n : Int) ≤ 9223372036854775807 := by omega
  have hat : at_ ≤ 64 := by omega
  clear hblk hls hne hfit hn
  go_enter Tryz.func119, Tryz.ntmps119
  go_wp2
  go_loopw [1, 10] (fun x iv wr => ∃ i p : Nat, iv = .int .i64 i ∧ x = .int .i64 p ∧ i ≤ n ∧ Hid (at_ + (ups ls i).length = p) ∧ Hid (Blk wr g (splice l at_ (ups ls i))) ∧ Hid (w.grownBy wr (some g))) (fun _ iv _ => n - (intOf iv).toNat)
  case atStart => exact ⟨0, at_, rfl, rfl, by omega, Lib.hid (by rw [ups_zero]; rfl), Lib.hid (by rw [ups_zero, splice_nil]; exact HBK.out), Lib.hid (hgrown_refl _ _)⟩
  case round =>
    obtain ⟨i, p, rfl, rfl, hi, HP, HB1, HG⟩ := hrel
    by_cases hlt : i < n
    · obtain ⟨b, off, rfl, hel⟩ := (HL.out wr HG.out).at_ (by omega)
      obtain ⟨x, c, hcell, hr⟩ := hel i hlt
      obtain ⟨m, hm⟩ : ∃ m, (ls.getD i []).length = m := ⟨_, rfl⟩
      rw [hm] at hcell hr
      have HR1 := Lib.hid hr
      have HU := Lib.hid (ups_succ ls i (by rw [HN.out]; exact hlt))
      have HM := Lib.hid hm
      have HM0 := Lib.hid (show 0 < m from by rw [← hm]; exact HE.out _ (getD_memH (by rw [HN.out]; exact hlt)))
      have HLE := Lib.hid (ups_le ls (i + 1))
      have hp64 : p + m ≤ 64 := by
        have h1 := HLE.out
        rw [HU.out, List.length_append] at h1
        have := HP.out; have := HFIT.out; omega
      have hp : p < 64 := by have := HM0.out; omega
      have hlt2 : (i : Int) < (n : Int) := by omega
      have hpi : (p : Int) ≤ 64 := by omega
      have hpm : (p : Int) + (m : Int) ≤ 64 := by omega
      clear hr hm hel
      go_wp2_with (first
        | (refine wpl_copy_blk rfl (.tmp 18) (.tmp 19) rfl g p (64 - p) (64 - p) _ HB1.out rfl _ m (ls.getD i []) rfl HR1.out HM0.out (by omega) (by omega) ?_; intro w2 HB2 HG2))
      go_roundw
      case rel =>
        refine ⟨i + 1, p + m, by go_num, by go_num, by omega, Lib.hid ?_, ?_, Lib.hid (hgrown_trans HG.out HG2.out)⟩
        · rw [HU.out, List.length_append, HM.out]; have := HP.out; omega
        · rw [HU.out]
          have h1 := HB2.out
          rw [← HP.out, splice_more _ _ _ _ (by have := HP.out; have := HFIT.out; rw [HBK.out.2]; omega)] at h1
          exact Lib.hid h1
      case measure => simp [intOf]; omega
    · obtain rfl : i = n := by omega
      have hfin := HB1.out
      rw [← HN.out, ups_all] at hfin
      have HF := Lib.hid hfin
      clear hfin
      go_wp2
      go_end0
      exact ⟨rfl, HF.out, HG.out⟩
end Go.Proofs.YtpoiapfgbbmekaaGreatDoor
namespace Go.Proofs.YtpoiapfgbbmekaaGreatDoor
open Go.RowKit
section
variable {o : Oper} {a : Act} {w : World} {K : Act → World → Prop} {Q : Exit → Act → World → Prop} {ops : Array Oper} {rest : List Oper}
theorem wp_new_hd (ho : o.op = .alloc 34) (h : ∀ g w', Hid (HB w' g noH) → Hid (w.heap.size ≤ g) → Hid (Below w.heap.size w w') → K (a.put o.dst (.pointer (some ⟨g, 0, none⟩))) w') : Oper.wp Tryz.prog o a w K Q := by
  have h1 := h w.heap.size (w.alloc (.cells (hv noH) 34)) (HB.new w noH rfl) (Nat.le_refl _) (balloc w _)
  unfold Oper.wp execOp
  simp [ho, go_sem]
  exact h1
theorem wp_put_hd (x y : Operand) (ho : o.op = .store 34 x y) (g : Nat) (h0 h1 : Hdr) (hk : HB w g h0) (hn : h1.l.length = 4) (hx : a.eval x = .pointer (some ⟨g, 0, none⟩)) (hy : a.eval y = .agg (hv h1))
    (h : ∀ w', Hid (HB w' g h1) → Hid (w.grownBy w' (some g)) → K (a.put o.dst undef) w') : Oper.wp Tryz.prog o a w K Q :=
  wp_store_row 34 x y ho g (hv h1) hx hy _ (hv h0) hk.1 (hv_info hn) (by rw [hv_size hk.2, hv_size hn]) (hv_one _) (h _ (Lib.hid (hk.row hn)) (Lib.hid (hgrown_row _ _ _)))
theorem wpl_put_hd (hg : o.guard = none) (x y : Operand) (ho : o.op = .store 34 x y) (g : Nat) (h0 h1 : Hdr) (hk : HB w g h0) (hn : h1.l.length = 4) (hx : a.eval x = .pointer (some ⟨g, 0, none⟩)) (hy : a.eval y = .agg (hv h1))
    (h : ∀ w', Hid (HB w' g h1) → Hid (w.grownBy w' (some g)) → wpList Tryz.prog ops Q rest (a.put o.dst undef) w') : wpList Tryz.prog ops Q (o :: rest) a w :=
  wpList_plain hg fun _ hK => wp_put_hd x y ho g h0 h1 hk hn hx hy fun w' h2 h3 => hK _ _ (h w' h2 h3)
theorem wpl_put_sec (hg : o.guard = none) (x y : Operand) (ho : o.op = .store 63 x y) (g : Nat) (l0 l1 : List Int) (hk : Blk w g l0) (hn : l1.length = 64) (hx : a.eval x = .pointer (some ⟨g, 0, none⟩)) (hy : a.eval y = .agg (sv l1))
    (h : ∀ w', Hid (Blk w' g l1) → Hid (w.grownBy w' (some g)) → wpList Tryz.prog ops Q rest (a.put o.dst undef) w') : wpList Tryz.prog ops Q (o :: rest) a w :=
  wpList_store_row hg 63 x y ho g (sv l1) hx hy _ (sv l0) hk.1 (sv_info _ hn) (by rw [sv_size, sv_size, hk.2, hn]) (sv_one _) (h _ (Lib.hid (hk.row hn)) (Lib.hid (hgrown_row _ _ _)))
end
theorem HB.over {w w' : World} {b g : Nat} {h : Hdr} (k : HB w b h) (hg : w.grownBy w' (some g)) (hne : b ≠ g) : HB w' b h := ⟨(hg.block b k.lt (fun e => hne (Option.some.inj e))).trans k.1, k.2⟩
theorem Blk.over {w w' : World} {b g : Nat} {l : List Int} (k : Blk w b l) (hg : w.grownBy w' (some g)) (hne : b ≠ g) : Blk w' b l :=
  ⟨(hg.block b (Array.getElem?_eq_some_iff.1 k.1).1 (fun e => hne (Option.some.inj e))).trans k.1, k.2⟩
theorem hbelow_grown {w0 w w' : World} {B g : Nat} (h : Below B w0 w) (hg : w.grownBy w' (some g)) (hB : B ≤ g) (h0 : B ≤ w.heap.size) : Below B w0 w' :=
  h.grown hg h0 (fun q hq => by obtain rfl := Option.some.inj hq; exact hB)
theorem HB.set_grown (w : World) (g j : Nat) (v : Value) : w.grownBy (w.setCell ⟨g, j, none⟩ v) (some g) :=
  ⟨rfl, rfl, rfl, by simp, fun i _ hne => heap_setCell_other w ⟨g, j, none⟩ i v (fun e => hne (by rw [e]))⟩
end Go.Proofs.YtpoiapfgbbmekaaGreatDoor
namespace Go.Proofs.YtpoiapfgbbmekaaGreatDoor
open Go.RowKit
def FD (w : World) (base : Nat) (v : Value) (l : List Int) : Prop := ∃ p, v = .slice (some ⟨p, 0, none⟩) l.length l.length ∧ base ≤ p ∧ RI .u8 w v l.length l
theorem FD.keep {w w' : World} {base : Nat} {v : Value} {l : List Int} (h : FD w base v l) (hb : Below w.heap.size w w') : FD w' base v l := by
  obtain ⟨p, e, h1, h2⟩ := h; exact ⟨p, e, h1, h2.keep hb⟩
theorem FD.over {w w' : World} {base g : Nat} {v : Value} {l : List Int} (h : FD w base v l) (hg : w.grownBy w' (some g)) (hlt : g < base) : FD w' base v l := by
  obtain ⟨p, rfl, h1, h2⟩ := h
  refine ⟨p, rfl, h1, h2.over _ hg fun _ q hq e => ?_⟩
  have hq' : some p = some q := hq
  have := Option.some.inj hq'
  have := Option.some.inj e
  omega
theorem FD.same {w w' : World} {base : Nat} {v : Value} {l : List Int} (h : FD w base v l) (hs : ∀ a, w'.cell? a = w.cell? a) : FD w' base v l := by
  obtain ⟨p, e, h1, a, cap, e2, k1, k2, k3, k4, hc⟩ := h
  refine ⟨p, e, h1, a, cap, e2, k1, k2, k3, k4, fun h0 => ?_⟩
  obtain ⟨b, off, ha, hcell⟩ := hc h0
  exact ⟨b, off, ha, fun j hj => (hs _).trans (hcell j hj)⟩
theorem FD.ri {w : World} {base : Nat} {v : Value} {l : List Int} (h : FD w base v l) : RI .u8 w v l.length l := by
  obtain ⟨p, _, _, ho⟩ := h; exact ho
theorem FD.of {w : World} {base base' p n : Nat} {l : List Int} (ho : w.ownsRow base' 5 1 (.slice (some ⟨p, 0, none⟩) n n) n (il .u8 l)) (hb : base ≤ base') : FD w base (.slice (some ⟨p, 0, none⟩) n n) l := by
  have hl : l.length = n := by have := ho.1; rw [il_length] at this; omega
  subst hl
  exact ⟨p, rfl, Nat.le_trans hb (ho.lt p rfl).1, RI.own ho⟩
def MK (w : World) (g : Nat) : Prop := w.heap[g]? = some (.cells (il .u8 mark).toArray 5 (0, 0))
theorem MK.keep {w w' : World} {g : Nat} (h : MK w g) (hb : Below w.heap.size w w') : MK w' g := (hb.block g (Array.getElem?_eq_some_iff.1 h).1).trans h
theorem rl_lit {w : World} {g gl base n : Nat} {vs : List Value} {ls : List (List Int)} (hb : w.heap[gl]? = some (.cells vs.toArray 36 (0, 0))) (hg : g < base) (hgl : base ≤ gl) (hv : vs.length = n) (hl : ls.length = n) (hn : n ≤ 1000)
    (hf : ∀ (j : Nat) (v : Value) (l : List Int), vs[j]? = some v → ls[j]? = some l → FD w base v l) : ∀ w', w.grownBy w' (some g) → RL .u8 w' (.slice (some ⟨gl, 0, none⟩) n n) n ls := by
  intro w' hw
  have hb' : w'.heap[gl]? = some (.cells vs.toArray 36 (0, 0)) := (hw.block gl (Array.getElem?_eq_some_iff.1 hb).1 (fun e => by have := Option.some.inj e; omega)).trans hb
  refine ⟨vs, ⟨_, n, rfl, hv, Nat.le_refl _, by omega, fun h => by simp at h, fun _ => ⟨gl, 0, rfl, fun j hj => ?_⟩⟩, hl, fun j e l he hl2 => ((hf j e l he hl2).over hw hg).ri⟩
  rw [Nat.zero_add, cell_of_row w' gl j _ _ _ hb']
  simp
theorem info_bs : (Tryz.prog.info? 36).map (fun i => (i.zero, i.size, i.bytes)) = some (some (.slice none 0 0), 1, 24) := by kernel_rfl
section
variable {o : Oper} {a : Act} {w : World} {K : Act → World → Prop} {Q : Exit → Act → World → Prop} {ops : Array Oper} {rest : List Oper}
theorem wp_lit4 (x0 x1 x2 x3 : Operand) (ho : o.op = .buildSlice 167 4 #[(0, x0), (1, x1), (2, x2), (3, x3)]) (p0 p1 p2 p3 : Option Addr) (n0 n1 n2 n3 c0 c1 c2 c3 : Nat)
    (h0 : a.eval x0 = .slice p0 n0 c0) (h1 : a.eval x1 = .slice p1 n1 c1) (h2 : a.eval x2 = .slice p2 n2 c2) (h3 : a.eval x3 = .slice p3 n3 c3)
    (h : ∀ gl w', Hid (w'.heap[gl]? = some (.cells [Value.slice p0 n0 c0, .slice p1 n1 c1, .slice p2 n2 c2, .slice p3 n3 c3].toArray 36 (0, 0))) → Hid (w.heap.size ≤ gl) → Hid (Below w.heap.size w w') → K (a.put o.dst (.slice (some ⟨gl, 0, none⟩) 4 4)) w') : Oper.wp Tryz.prog o a w K Q := by
  obtain ⟨i, hi, hz0, hz1, hz2⟩ := info_parts info_bs
  refine wp_buildSlice 167 36 4 _ ho [Value.slice p0 n0 c0, .slice p1 n1 c1, .slice p2 n2 c2, .slice p3 n3 c3].toArray i (.slice none 0 0) Tryz.underlying167 hi hz0 (by rw [hz1]; omega) (by rw [hz1]; omega) ?_ (h w.heap.size _ (heap_alloc_last w _) (Nat.le_refl _) (balloc w _))
  rw [hz1]
  simp only [List.map_toArray, List.map_cons, List.map_nil, h0, h1, h2, h3]
  exact Great.fill_flat [Value.slice p0 n0 c0, .slice p1 n1 c1, .slice p2 n2 c2, .slice p3 n3 c3] _ (fun v hv => by simp only [List.mem_cons, List.not_mem_nil, or_false] at hv; rcases hv with rfl | rfl | rfl | rfl <;> rfl) (by simp)
theorem wp_lit1 (x0 : Operand) (ho : o.op = .buildSlice 167 1 #[(0, x0)]) (p0 : Option Addr) (n0 c0 : Nat) (h0 : a.eval x0 = .slice p0 n0 c0)
    (h : ∀ gl w', Hid (w'.heap[gl]? = some (.cells [Value.slice p0 n0 c0].toArray 36 (0, 0))) → Hid (w.heap.size ≤ gl) → Hid (Below w.heap.size w w') → K (a.put o.dst (.slice (some ⟨gl, 0, none⟩) 1 1)) w') : Oper.wp Tryz.prog o a w K Q := by
  obtain ⟨i, hi, hz0, hz1, hz2⟩ := info_parts info_bs
  refine wp_buildSlice 167 36 1 _ ho [Value.slice p0 n0 c0].toArray i (.slice none 0 0) Tryz.underlying167 hi hz0 (by rw [hz1]; omega) (by rw [hz1]; omega) ?_ (h w.heap.size _ (heap_alloc_last w _) (Nat.le_refl _) (balloc w _))
  rw [hz1]
  simp only [List.map_toArray, List.map_cons, List.map_nil, h0]
  exact Great.fill_flat [Value.slice p0 n0 c0] _ (fun v hv => by simp only [List.mem_cons, List.not_mem_nil, or_false] at hv; subst hv; rfl) (by simp)
theorem wpl_lit1 (hg : o.guard = none) (x0 : Operand) (ho : o.op = .buildSlice 167 1 #[(0, x0)]) (p0 : Option Addr) (n0 c0 : Nat) (h0 : a.eval x0 = .slice p0 n0 c0)
    (h : ∀ gl w', Hid (w'.heap[gl]? = some (.cells [Value.slice p0 n0 c0].toArray 36 (0, 0))) → Hid (w.heap.size ≤ gl) → Hid (Below w.heap.size w w') → wpList Tryz.prog ops Q rest (a.put o.dst (.slice (some ⟨gl, 0, none⟩) 1 1)) w') : wpList Tryz.prog ops Q (o :: rest) a w :=
  wpList_plain hg fun _ hK => wp_lit1 x0 ho p0 n0 c0 h0 fun gl w' h1 h2 h3 => hK _ _ (h gl w' h1 h2 h3)
theorem wp_mark (ho : o.op = .buildSlice 36 5 #[(0, .const (.int .u8 115)), (1, .const (.int .u8 116)), (2, .const (.int .u8 114)), (3, .const (.int .u8 100)), (4, .const (.int .u8 1))])
    (h : ∀ g w', Hid (MK w' g) → Hid (w.heap.size ≤ g) → Hid (Below w.heap.size w w') → K (a.put o.dst (.slice (some ⟨g, 0, none⟩) 5 5)) w') : Oper.wp Tryz.prog o a w K Q := by
  obtain ⟨i, hi, hz0, hz1, hz2⟩ := info_parts Tryz.info_u8
  refine wp_buildSlice 36 5 5 _ ho (il .u8 mark).toArray i (.int .u8 0) Tryz.underlying36 hi hz0 (by rw [hz1]; omega) (by rw [hz1]; omega) ?_ (h w.heap.size _ (Lib.hid (heap_alloc_last w _)) (Nat.le_refl _) (balloc w _))
  rw [hz1]
  rw [parts_eval a #[(0, .const (.int .u8 115)), (1, .const (.int .u8 116)), (2, .const (.int .u8 114)), (3, .const (.int .u8 100)), (4, .const (.int .u8 1))] .u8 mark rfl]
  exact Great.fill_flat (il .u8 mark) _ (fun v hv => by obtain ⟨x, _, rfl⟩ := List.mem_map.1 hv; rfl) (by simp [il, mark])
theorem freeze_cell (w : World) (p : Addr) (n : Nat) (b : Addr) : (w.freeze p n).cell? b = w.cell? b := by
  unfold World.freeze
  by_cases hn : n = 0
  · rw [if_pos hn]
  · rw [if_neg hn]
    unfold World.cell?
    simp only [Array.getElem?_modify]
    by_cases hp : p.block = b.block
    · rw [if_pos hp]
      cases w.heap[b.block]? with
      | none => rfl
      | some x => cases x <;> rfl
    · rw [if_neg hp]
theorem freeze_grown (w : World) (p : Addr) (n : Nat) : w.grownBy (w.freeze p n) (some p.block) := by
  unfold World.freeze
  split
  · exact hgrown_refl _ _
  · exact ⟨rfl, rfl, rfl, by simp, fun i hi hne => by simp only [Array.getElem?_modify]; rw [if_neg (fun e => hne (by rw [e]))]⟩
theorem wp_conv_mark (x : Operand) (ho : o.op = .convert 36 36 x) (g : Nat) (hx : a.eval x = .slice (some ⟨g, 0, none⟩) 5 5) (hk : MK w g)
    (h : ∀ w', Hid (∀ b, w'.cell? b = w.cell? b) → Hid (w.grownBy w' (some g)) → K (a.put o.dst (.slice (some ⟨g, 0, none⟩) 5 5)) w') : Oper.wp Tryz.prog o a w K Q := by
  have hsh : w.shape? g = some (5, 5) := by unfold World.shape?; rw [hk]; rfl
  have hrun : (convert 36 36 (.slice (some ⟨g, 0, none⟩) 5 5)).run Tryz.prog w = .ok (.slice (some ⟨g, 0, none⟩) 5 5) (w.freeze ⟨g, 5, none⟩ 1) := by
    simp [convert, run_underlying Tryz.underlying36, run_underlying Tryz.underlying5, markStringish, hsh]
  unfold Oper.wp execOp
  simp only [ho, hx, Sem.run_bind, hrun, Result.andThen_ok, Sem.run_pure, Oper.upon]
  exact h _ (Lib.hid fun b => freeze_cell _ _ _ b) (Lib.hid (freeze_grown w ⟨g, 5, none⟩ 1))
theorem fd_mark {w : World} {g base : Nat} (hk : MK w g) (hb : base ≤ g) : FD w base (.slice (some ⟨g, 0, none⟩) 5 5) mark :=
  ⟨g, rfl, hb, _, 5, rfl, rfl, Nat.le_refl _, by omega, fun h => by simp at h, fun _ => ⟨g, 0, rfl, fun j hj => by
    rw [Nat.zero_add, cell_of_row w g j _ _ _ hk]
    simpa using il_get .u8 mark j hj⟩⟩
end
end Go.Proofs.YtpoiapfgbbmekaaGreatDoor
namespace Go.Proofs.YtpoiapfgbbmekaaGreatDoor
open Go.RowKit
set_option maxHeartbeats 400000 in
theorem btw_any (n m : Int) (h : I63 n) (h2 : I63 m) (w : World) : Calls Tryz.prog 130 #[.int .i64 n, .int .i64 m] w fun e w' => e = .returned (.int .i64 (clampI n m)) ∧ w = w' := by
  obtain ⟨_h, _h2⟩ := And.intro h h2
  unfold I63 at _h _h2
  go_enter Tryz.func130, Tryz.ntmps130
  go_wp2
  all_goals (go_ret; refine ⟨ret_int ?_, rfl⟩; unfold clampI; omega)
theorem btw_nat (n m : Int) (k : Nat) (h : I63 n) (h2 : I63 m) (hk : clampI n m = k) (w : World) : Calls Tryz.prog 130 #[.int .i64 n, .int .i64 m] w fun e w' => e = .returned (.int .i64 k) ∧ w = w' :=
  (btw_any n m h h2 w).mono fun _ _ ⟨he, hw⟩ => ⟨by rw [he, hk], hw⟩
def bl (l : List Int) : List Value := l.map (Value.int .u8)
theorem bl_set (l : List Int) (j : Nat) (x : Int) : (bl l).set j (.int .u8 x) = bl (l.set j x) := by simp [bl, List.map_set]
theorem bl_get (l : List Int) (j : Nat) (h : j < l.length) : (bl l)[j]? = some (.int .u8 (l.getD j 0)) := by simp [bl, List.getD, h]
theorem bl_append (a b : List Int) : bl (a ++ b) = bl a ++ bl b := by simp [bl]
set_option maxHeartbeats 800000 in
theorem put_any (n m : Int) (k : Nat) (h2 : I63 m) (hk : clampI m 8 = k) (w : World) :
    Calls Tryz.prog 113 #[.int .u64 n, .int .i64 m] w fun e w' => e = .returned (.slice (some ⟨w.heap.size, 0, none⟩) k k) ∧
      w'.ownsRow w.heap.size 5 1 (.slice (some ⟨w.heap.size, 0, none⟩) k k) k (bl (putL n k)) ∧ Below w.heap.size w w' := by
  obtain ⟨i0, hi, hz0, hz1, hz2⟩ := info_parts Tryz.info_u8
  have hk8 : k ≤ 8 := by unfold clampI at hk; omega
  have HC := Lib.hid hk; clear hk
  have hB2 : i0.bytes * k ≤ 281474976710656 := by rw [hz2]; omega
  have HI := Lib.hid hi; clear hi
  have HZ0 := Lib.hid hz0; clear hz0
  have HZ1 := Lib.hid hz1; clear hz1
  clear hz2
  go_enter Tryz.func113, Tryz.ntmps113
  go_wp2_with (first
    | (go_at_call 130; refine (btw_nat _ _ k h2 (by unfold I63; omega) HC.out _).mono ?_; rintro e w' ⟨rfl, rfl⟩)
    | (at_make; refine wpList_make_full _ rfl (.tmp 9) (.tmp 9) 36 rfl w.heap.size 5 i0 (.int .u8 0) 1 Tryz.underlying36 HI.out HZ0.out HZ1.out .i64 .i64 k k k rfl rfl rfl rfl hB2 (by unfold maxLen; omega) (Nat.le_refl _) ?_; intro w1 hown hgrow))
  have HO := Lib.hid hown; clear hown
  have HB := Lib.hid ((Below.refl w.heap.size w).grown hgrow (Nat.le_refl _) (by simp)); clear hgrow
  go_wp2
  go_loopw [12] (fun i wr => ∃ j : Nat, j ≤ k ∧ i = .int .i64 j ∧ wr.ownsRow w.heap.size 5 1 (.slice (some ⟨w.heap.size, 0, none⟩) k k) k (bl (putP n j k)) ∧ Below w.heap.size w wr) (fun i _ => k - (intOf i).toNat)
  case atStart => exact ⟨0, by omega, rfl, by have := HO.out; rw [Nat.mul_one, show (Value.int IntKind.u8 0).cells = #[.int .u8 0] from rfl, toList_madeCells_one] at this; rw [putP_zero]; simpa [bl] using this, HB.out⟩
  case round =>
    obtain ⟨j, hj, rfl, ho, hb⟩ := hrel
    by_cases hlt : j < k
    · have hcell : wr.cell? ⟨w.heap.size, j, none⟩ = some (.int .u8 ((putP n j k).getD j 0)) := by
        rw [ho.cellAt j (by omega), bl_get _ _ (by simp [putP]; omega)]
      have hfr : wr.frozen? ⟨w.heap.size, j, none⟩ = false := ho.frozenAt j
      have HO := Lib.hid ho; clear ho
      have HB := Lib.hid hb; clear hb
      go_wp2
      go_roundw
      case rel => exact ⟨j + 1, by omega, by go_num, by rw [← putP_succ, ← bl_set]; exact (HO.out.stored j _).1, HB.out.setCell (Nat.le_refl _) _⟩
      case measure => simp [intOf]; omega
    · go_wp2
      go_ret
      have e : j = k := by omega
      subst e
      exact ⟨rfl, by rw [← putP_full]; exact ho, hb⟩
theorem div_step (n : Int) (j : Nat) : n / 2 ^ (8 * j) / 256 = n / 2 ^ (8 * (j + 1)) := by
  rw [Int.ediv_ediv_of_nonneg (Int.le_of_lt (pow_pos' _)), show 8 * (j + 1) = 8 * j + 8 from by omega, Int.pow_add]; rfl
set_option maxRecDepth 20000 in
set_option maxHeartbeats 800000 in
theorem rput_any (n m : Int) (k : Nat) (h : U64 n) (h2 : I63 m) (hk : clampI m 8 = k) (w : World) :
    Calls Tryz.prog 85 #[.int .u64 n, .int .i64 m] w fun e w' => ∃ v, e = .returned v ∧
      w'.ownsRow w.heap.size 5 1 v k (bl (putL n k)) ∧ Below w.heap.size w w' := by
  unfold U64 at h
  unfold I63 at h2
  obtain ⟨i0, hi, hz0, hz1, hz2⟩ := info_parts Tryz.info_u8
  have hk1 : k ≤ 8 := by unfold clampI at hk; omega
  have hk2 : ∀ j : Nat, j < k → (j : Int) < m ∧ (j : Int) < 8 := by unfold clampI at hk; omega
  have hk3 : ∀ j : Nat, k ≤ j → m ≤ (j : Int) ∨ ((j : Int) < m ∧ 8 ≤ (j : Int)) := by unfold clampI at hk; omega
  clear hk
  have HI := Lib.hid hi; clear hi
  have HZ0 := Lib.hid hz0; clear hz0
  have HZ1 := Lib.hid hz1; clear hz1
  have HZ2 := Lib.hid hz2; clear hz2
  go_enter Tryz.func85, Tryz.ntmps85
  go_wp2
  go_loopw [0, 5, 6] (fun nn v i wr => ∃ j : Nat, j ≤ k ∧ i = .int .i64 j ∧ nn = .int .u64 (n / 2 ^ (8 * j)) ∧ wr.ownsRow w.heap.size 5 1 v j (bl (putL n j)) ∧ Below w.heap.size w wr) (fun _ _ i _ => k - (intOf i).toNat)
  case atStart => exact ⟨0, by omega, rfl, by simp, World.ownsRow_nil _ _ _ _, Below.refl _ _⟩
  case round =>
    obtain ⟨j, hj, rfl, rfl, ho, hb⟩ := hrel
    have hx : 0 ≤ n / 2 ^ (8 * j) := Int.ediv_nonneg h.1 (Int.le_of_lt (pow_pos' _))
    have hx2 : n / 2 ^ (8 * j) ≤ n := Int.ediv_le_self _ h.1
    have HO := Lib.hid ho; clear ho
    have HB := Lib.hid hb; clear hb
    by_cases hlt : j < k
    · obtain ⟨g1, g2⟩ := hk2 j hlt
      clear hk2 hk3
      go_wp2_with (first
        | (at_builtin; refine wpList_append_own _ rfl (.tmp 16) (.tmp 20) 36 rfl w.heap.size 5 i0 (.int .u8 0) 1 1 Tryz.underlying36 HI.out HZ0.out HZ1.out HZ2.out rfl (by decide) _ _ _ rfl (HO.out.alloc _) ⟨wr.heap.size, 0, none⟩ 1 1 (bl [n / 2 ^ (8 * j) % 256]) rfl rfl ?c1 ?c2 ?c3 ?c4 ?c5 ?_))
      case c1 =>
        intro i u hi
        match i, hi with
        | 0, hi => simp [bl] at hi; subst hi; simp [Addr.add]
      case c2 => intro u hu; simp [bl] at hu; subst hu; rfl
      case c3 => unfold maxLen; omega
      case c4 => omega
      case c5 => have := HB.out.size; simp; omega
      intro v' w1 hown' hgrow _
      have HO1 := Lib.hid (show w1.ownsRow w.heap.size 5 1 v' (j + 1) (bl (putL n (j + 1))) by rw [putL_succ, bl_append]; exact hown')
      have HB1 := Lib.hid ((HB.out.alloc HB.out.size _).grown hgrow (by have := HB.out.size; simp; omega) (fun q hq => (HO.out.lt q hq).1))
      clear hown' hgrow
      go_wp2
      go_roundw
      case rel => exact ⟨j + 1, by omega, by go_num, by rw [div_step], HO1.out, HB1.out⟩
      case measure => simp [intOf]; omega
    · rcases hk3 j (by omega) with g1 | ⟨g1, g2⟩
      all_goals
        clear hk2 hk3
        go_wp2
        go_ret
        have e : j = k := by omega
        subst e
        exact ⟨_, rfl, HO.out, HB.out⟩
end Go.Proofs.YtpoiapfgbbmekaaGreatDoor
namespace Go.Proofs.YtpoiapfgbbmekaaGreatDoor
open Go.RowKit
set_option maxHeartbeats 400000 in
theorem get_some (b off len cap : Nat) (zs : List Int) (w : World) (hz : Bytes zs) (hlen : 0 < len) (hmax : len ≤ 9223372036854775807)
    (hc : ∀ j, j < len → w.cell? ⟨b, off + j, none⟩ = some (.int .u8 (zs.getD j 0))) :
    Calls Tryz.prog 116 #[.slice (some ⟨b, off, none⟩) len cap] w fun e w' => e = .returned (.int .u64 (getI zs (min len 8))) ∧ w = w' := by
  obtain ⟨m, hm, hm1, hm2, hm3⟩ : ∃ m : Nat, min len 8 = m ∧ m ≤ len ∧ m ≤ 8 ∧ (m = len ∨ m = 8) := ⟨_, rfl, by omega, by omega, by omega⟩
  rw [hm]
  have HM := Lib.hid hm; clear hm
  go_enter Tryz.func116, Tryz.ntmps116
  rcases (by have := HM.out; omega : (len : Int) ≤ 8 ∧ len ≤ m ∨ 8 < (len : Int) ∧ 8 ≤ m) with ⟨h8, hl⟩ | ⟨h8, hl⟩
  all_goals
    go_wp2
    go_loop [3, 8] (fun n i => ∃ k : Nat, k ≤ m ∧ i = .int .i64 k ∧ n = .int .u64 (getI zs k)) (fun _ i => m - (intOf i).toNat)
    case atStart => exact ⟨0, by omega, rfl, rfl⟩
    case round =>
      obtain ⟨k, hk, rfl, rfl⟩ := hrel
      have hb : 0 ≤ zs[k]?.getD 0 ∧ zs[k]?.getD 0 ≤ 255 := hz k
      by_cases hlt : k < m
      · have hcell : w.cell? ⟨b, off + k, none⟩ = some (.int .u8 (zs.getD k 0)) := hc k (by omega)
        have HG := Lib.hid (getI_or zs hz k (by omega))
        go_wp2
        go_round
        case rel => exact ⟨k + 1, by omega, by go_num, by rw [← HG.out]; rfl⟩
        case measure => simp [intOf]; omega
      · go_wp2
        go_ret
        exact ⟨ret_int (by congr 1; omega), rfl⟩
end Go.Proofs.YtpoiapfgbbmekaaGreatDoor
namespace Go.Proofs.YtpoiapfgbbmekaaGreatDoor
open Go.RowKit
def Tab (w : World) : Prop := ∀ j : Nat, j < 16 → w.cell? ⟨4, j, none⟩ = some (.int .u32 ((stn 4 j : Nat) : Int))
theorem half_list : ∀ j : Nat, j < 16 → ([0, 274646895, 549293790, 820201905, 1098587580, 1361435347, 1640403810, 1905808397, 2197175160, 2460548119, 2722870694, 2987750089, 3280807620, 3553878443, 3811616794, 4084100981] : List Int).getD j 0 = ((stn 4 j : Nat) : Int) := by decide
theorem tab_of {w : World} (h : ∀ j : Nat, j < 16 → w.cell? ⟨4, j, none⟩ = some (.int .u32 (([0, 274646895, 549293790, 820201905, 1098587580, 1361435347, 1640403810, 1905808397, 2197175160, 2460548119, 2722870694, 2987750089, 3280807620, 3553878443, 3811616794, 4084100981] : List Int).getD j 0))) : Tab w :=
  fun j hj => by rw [h j hj, half_list j hj]
theorem Tab.keep {w w' : World} (h : Tab w) (hb : Below w.heap.size w w') : Tab w' := fun j hj => cell_keep hb (h j hj)
theorem flip32 (s : Nat) (h : s < 4294967296) : bits .xor .u32 IntKind.u32.max (s : Int) = ((4294967295 - s : Nat) : Int) := by
  rw [show IntKind.u32.max = ((4294967295 : Nat) : Int) from by decide, u32_xor_nat _ _ (by omega) h, not32 s h, Nat.xor_comm]
theorem half_bits (r : Nat) (h : r < 4294967296) : bits .xor .u32 ((r : Int) / 16) ((stn 4 (r % 16) : Nat) : Int) = ((stn 4 r : Nat) : Int) := by
  have := u32_xor_nat (r / 16) (stn 4 (r % 16)) (by omega) (stn_lt 4 _ (by omega))
  rw [← half_step] at this
  rw [← this]; congr 1
theorem four_any (r : Nat) (h : r < 4294967296) {w : World} (ht : Tab w) {m : Nat} (hm : stn 4 r = m) : Calls Tryz.prog 167 #[.int .u32 r] w fun e w' => e = .returned (.int .u32 m) ∧ w = w' := by
  have hc := ht (r % 16) (by omega)
  have hy := half_bits r h
  rw [hm] at hy
  have hr : (r : Int) ≤ 4294967295 := by omega
  clear ht hm h
  go_enter Tryz.func167, Tryz.ntmps167
  go_wp2
  go_ret
  exact ⟨rfl, rfl⟩
theorem eight_any (r : Nat) (h : r < 4294967296) {w : World} (ht : Tab w) {m : Nat} (hm : stn 8 r = m) : Calls Tryz.prog 152 #[.int .u32 r] w fun e w' => e = .returned (.int .u32 m) ∧ w = w' := by
  obtain ⟨r1, hr1⟩ : ∃ r1, stn 4 r = r1 := ⟨_, rfl⟩
  have H1 := Lib.hid hr1
  have H2 := Lib.hid (show stn 4 r1 = m from by rw [← hr1, ← hm, show (8 : Nat) = 4 + 4 from rfl, stn_add])
  have HL := Lib.hid (show r1 < 4294967296 from by rw [← hr1]; exact stn_lt 4 r h)
  have HR := Lib.hid h
  have HT := Lib.hid ht
  clear hr1 hm h ht
  go_enter Tryz.func152, Tryz.ntmps152
  go_wp2_with (first | (go_at_call 167; first | ((with_reducible refine (four_any r HR.out HT.out H1.out).mono ?_); rintro e w' ⟨rfl, rfl⟩) | ((with_reducible refine (four_any r1 HL.out HT.out H2.out).mono ?_); rintro e w' ⟨rfl, rfl⟩)))
  go_ret
  exact ⟨rfl, rfl⟩
set_option maxRecDepth 8000 in
set_option maxHeartbeats 800000 in
theorem more_some (s : Nat) (h : s < 4294967296) (b off len cap : Nat) (zs : List Int) (w : World) (ht : Tab w) (hz : zs.length = len) (hb : ∀ x ∈ zs, 0 ≤ x ∧ x ≤ 255) (hl : (len : Int) ≤ 9223372036854775807)
    (hc : ∀ j, j < len → w.cell? ⟨b, off + j, none⟩ = some (.int .u8 (zs.getD j 0))) :
    Calls Tryz.prog 132 #[.int .u32 s, .slice (some ⟨b, off, none⟩) len cap] w fun e w' => e = .returned (.int .u32 (moreS s zs)) ∧ w = w' := by
  have hs : (s : Int) ≤ 4294967295 := by omega
  obtain ⟨m, hm⟩ : ∃ m, moreS s zs = m := ⟨_, rfl⟩
  rw [hm]
  have HM := Lib.hid hm
  have HC := Lib.hid hc
  have HZ := Lib.hid hz
  have HB := Lib.hid hb
  have HS := Lib.hid h
  have HT := Lib.hid ht
  have hf := flip32 s h
  obtain ⟨f, hfe⟩ : ∃ f, 4294967295 - s = f := ⟨_, rfl⟩
  rw [hfe] at hf
  have HF := Lib.hid hfe
  clear hm hc hz hb h ht hfe
  go_enter Tryz.func132, Tryz.ntmps132
  go_wp2
  go_loop [5, 12] (fun x i => ∃ (k r : Nat), i = .int .i64 k ∧ x = .int .u32 r ∧ k ≤ len ∧ Hid (r < 4294967296) ∧ Hid (reg r (zs.drop k) = reg f zs)) (fun _ i => len - (intOf i).toNat)
  case atStart => exact ⟨0, f, rfl, rfl, by omega, Lib.hid (by have := HF.out; omega), rfl⟩
  case round =>
    obtain ⟨k, r, rfl, rfl, hk, HR, HG⟩ := hrel
    by_cases hlt : k < len
    · obtain ⟨x, hx⟩ : ∃ x, zs.getD k 0 = x := ⟨_, rfl⟩
      have hcell : w.cell? ⟨b, off + k, none⟩ = some (.int .u8 x) := by rw [← hx]; exact HC.out k hlt
      have hxb : 0 ≤ x ∧ x ≤ 255 := by
        rw [← hx]; exact (bytes_of_mem HB.out) k
      have HD := Lib.hid (show reg r (x :: zs.drop (k + 1)) = reg f zs from by rw [← hx, ← drop_getD zs k (by rw [HZ.out]; exact hlt)]; exact HG.out)
      obtain ⟨y, rfl⟩ : ∃ y : Nat, x = (y : Int) := ⟨x.toNat, by omega⟩
      have hxx := u32_xor_nat r y HR.out (by omega)
      obtain ⟨r0, hr0⟩ : ∃ r0, r ^^^ y = r0 := ⟨_, rfl⟩
      have h0 : r0 < 4294967296 := by rw [← hr0]; exact xor_lt r y HR.out (by omega)
      rw [hr0] at hxx
      have H0 := Lib.hid h0
      obtain ⟨r2, hr2⟩ : ∃ r2, stn 8 r0 = r2 := ⟨_, rfl⟩
      have H2 := Lib.hid (show r2 < 4294967296 from by rw [← hr2]; exact stn_lt 8 r0 h0)
      have HE := Lib.hid (show stn 8 (r ^^^ y) = r2 from by rw [hr0, hr2])
      have HF8 := Lib.hid hr2
      clear hr0 hr2 hx HG h0
      go_wp2_with (first | (go_at_call 152; (with_reducible refine (eight_any r0 H0.out HT.out HF8.out).mono ?_); rintro e w' ⟨rfl, rfl⟩))
      go_round
      case rel =>
        refine ⟨k + 1, r2, by go_num, rfl, by omega, H2, ?_⟩
        have h3 := HD.out
        rw [reg_cons, Int.toNat_natCast, HE.out] at h3
        exact h3
      case measure => simp [intOf]; omega
    · have hg := HG.out
      rw [show zs.drop k = [] from List.drop_eq_nil_of_le (by rw [HZ.out]; omega), reg_nil] at hg
      have hm := HM.out
      unfold moreS at hm
      rw [HF.out, ← hg] at hm
      have hfr := flip32 r HR.out
      rw [hm] at hfr
      clear hg hm
      go_wp2
      go_ret
      exact ⟨rfl, rfl⟩
set_option maxRecDepth 8000 in
set_option maxHeartbeats 400000 in
theorem more_zero (s : Nat) (h : s < 4294967296) (a : Option Addr) (cap : Nat) (w : World) :
    Calls Tryz.prog 132 #[.int .u32 s, .slice a 0 cap] w fun e w' => e = .returned (.int .u32 (moreS s [])) ∧ w = w' := by
  have hf := flip32 s h
  obtain ⟨f, hfe⟩ : ∃ f, 4294967295 - s = f := ⟨_, rfl⟩
  rw [hfe] at hf
  have hg := flip32 f (by omega)
  obtain ⟨m, hm⟩ : ∃ m, moreS s [] = m := ⟨_, rfl⟩
  rw [hm]
  unfold moreS at hm
  rw [reg_nil, hfe] at hm
  rw [hm] at hg
  have hs : (s : Int) ≤ 4294967295 := by omega
  clear hm hfe h
  go_enter Tryz.func132, Tryz.ntmps132
  go_wp2
  refine wp_loop_rounds 1 ?_
  rw [rounds_succ]
  go_wp2
  go_ret
  exact ⟨rfl, rfl⟩
theorem more_any {s len : Nat} (h : s < 4294967296) {v : Value} {zs : List Int} {w : World} (ht : Tab w) (hri : RI .u8 w v len zs) (hb : ∀ x ∈ zs, 0 ≤ x ∧ x ≤ 255) {m : Nat} (hm : moreS s zs = m) :
    Calls Tryz.prog 132 #[.int .u32 s, v] w fun e w' => e = .returned (.int .u32 m) ∧ w = w' := by
  subst hm
  obtain ⟨a, cap, rfl, hl, h1, h2, _, hc⟩ := hri
  by_cases h0 : 0 < len
  · obtain ⟨b, off, rfl, hcell⟩ := hc h0
    exact more_some s h b off len cap zs w ht hl hb (by omega) hcell
  · obtain rfl : len = 0 := by omega
    obtain rfl : zs = [] := List.length_eq_zero_iff.1 hl
    exact more_zero s h a cap w
theorem more_0 {len : Nat} {v : Value} {zs : List Int} {w : World} (ht : Tab w) (hri : RI .u8 w v len zs) (hb : ∀ x ∈ zs, 0 ≤ x ∧ x ≤ 255) {m : Nat} (hm : moreS 0 zs = m) :
    Calls Tryz.prog 132 #[.int .u32 0, v] w fun e w' => e = .returned (.int .u32 m) ∧ w = w' := more_any (s := 0) (by omega) ht hri hb hm
theorem of_any {len : Nat} {v : Value} {zs : List Int} {w : World} (ht : Tab w) (hri : RI .u8 w v len zs) (hb : ∀ x ∈ zs, 0 ≤ x ∧ x ≤ 255) {m : Nat} (hm : ofS zs = m) :
    Calls Tryz.prog 115 #[v] w fun e w' => e = .returned (.int .u32 m) ∧ w = w' := by
  have HR := Lib.hid hri
  have HB := Lib.hid hb
  have HT := Lib.hid ht
  have HM := Lib.hid (show moreS 0 zs = m from hm)
  clear hri hb hm ht
  go_enter Tryz.func115, Tryz.ntmps115
  go_wp2_with (first | (go_at_call 132; (with_reducible refine (more_0 HT.out HR.out HB.out HM.out).mono ?_); rintro e w' ⟨rfl, rfl⟩))
  go_ret
  exact ⟨rfl, rfl⟩
theorem or17 (n : Nat) (h : n < 4294967296) : bits .or .u32 ((n : Int) * 131072 % 4294967296) ((n : Int) / 32768) = ((n / 32768 + n % 32768 * 131072 : Nat) : Int) := by
  have h1 := u32_or_nat (2 ^ 17 * (n % 32768)) (n / 32768) (by omega) (by omega)
  rw [← Nat.two_pow_add_eq_or_of_lt (show n / 32768 < 2 ^ 17 by omega)] at h1
  rw [show (n : Int) / 32768 = ((n / 32768 : Nat) : Int) from by omega, show (n : Int) * 131072 % 4294967296 = ((2 ^ 17 * (n % 32768) : Nat) : Int) from by omega, h1]
  omega
set_option maxRecDepth 8000 in
theorem rot_right (n : Nat) (h : n < 4294967296) (w : World) : Calls Tryz.prog 131 #[.int .u32 n, .int .i64 (-15)] w fun e w' => e = .returned (.int .u32 ((n / 32768 + n % 32768 * 131072 : Nat) : Int)) ∧ w = w' := by
  have hn : (n : Int) ≤ 4294967295 := by omega
  have hw : bits .and .u64 (IntKind.u64.wrap (-15)) 31 = 17 := by decide
  have HO := Lib.hid (or17 n h)
  go_enter Tryz.func131, Tryz.ntmps131
  go_wp2
  go_ret
  refine ⟨ret_int ?_, rfl⟩
  rw [← HO.out]
set_option maxRecDepth 8000 in
theorem mask_any (n m : Nat) (h : n < 4294967296) (hm : maskS n = m) (w : World) : Calls Tryz.prog 114 #[.int .u32 n] w fun e w' => e = .returned (.int .u32 m) ∧ w = w' := by
  have HN := Lib.hid h
  clear h
  go_enter Tryz.func114, Tryz.ntmps114
  go_wp2_with (first | (go_at_call 131; (with_reducible refine (rot_right n HN.out _).mono ?_); rintro e w' ⟨rfl, rfl⟩))
  go_ret
  refine ⟨ret_int ?_, rfl⟩
  rw [← hm]
  unfold maskS
  omega
theorem RI.const (w : World) (e : TypeId) (k : IntKind) (zs : List Int) (fr : Nat × Nat) (n : Nat) (hn : zs.length = n) (h63 : n ≤ 9223372036854775807) :
    RI k (w.alloc (.cells (il k zs).toArray e fr)) (.slice (some ⟨w.heap.size, 0, none⟩) n n) n zs := by
  refine ⟨_, n, rfl, hn, Nat.le_refl _, h63, fun h => by simp at h, fun _ => ⟨w.heap.size, 0, rfl, fun j hj => ?_⟩⟩
  have hg : (w.alloc (.cells (il k zs).toArray e fr)).heap[w.heap.size]? = some (.cells (il k zs).toArray e fr) := by
    show (w.heap.push _)[w.heap.size]? = _
    simp
  rw [Nat.zero_add, cell_of_row _ w.heap.size j _ e fr hg]
  simpa using il_get k zs j (by omega)
end Go.Proofs.YtpoiapfgbbmekaaGreatDoor
namespace Go.Proofs.YtpoiapfgbbmekaaGreatDoor
open Go.RowKit
theorem hword_put (x : Int) (n : Nat) (hn : n ≤ 8) (w : World) :
    Calls Tryz.prog 113 #[.int .u64 x, .int .i64 n] w fun e w' => e = .returned (.slice (some ⟨w.heap.size, 0, none⟩) n n) ∧ w'.ownsRow w.heap.size 5 1 (.slice (some ⟨w.heap.size, 0, none⟩) n n) n (il .u8 (putL x n)) ∧ Below w.heap.size w w' :=
  (put_any x n n (by unfold I63; omega) (by unfold clampI; omega) w).mono fun _ _ ⟨he, ho, hb⟩ => ⟨he, ho, hb⟩
theorem hword_get (b off len cap : Nat) (zs : List Int) (w : World) (hr : RI .u8 w (.slice (some ⟨b, off, none⟩) len cap) len zs) (hz : Bytes zs) (h0 : 0 < len) :
    Calls Tryz.prog 116 #[.slice (some ⟨b, off, none⟩) len cap] w fun e w' => e = .returned (.int .u64 (getI zs (min len 8))) ∧ w = w' := by
  obtain ⟨b2, off2, c2, e, _, _, hcell⟩ := hr.open_ h0
  simp only [Value.slice.injEq, Option.some.injEq, Addr.mk.injEq, and_true, true_and] at e
  obtain ⟨⟨rfl, rfl⟩, rfl⟩ := e
  exact get_some b off len cap zs w hz h0 hr.le hcell
theorem sec_get (g p n : Nat) (zs : List Int) (w : World) (hk : Blk w g zs) (hb : isB zs) (hp : p + n ≤ 64) (h0 : 0 < n) (h8 : n ≤ 8) {m : Int} (hm : num zs p n = m) :
    Calls Tryz.prog 116 #[.slice (some ⟨g, p, none⟩) n (64 - p)] w fun e w' => e = .returned (.int .u64 m) ∧ w = w' := by
  have h := hword_get g p n (64 - p) ((zs.drop p).take n) w (hk.ri p n (64 - p) hp (by omega) (by omega)) (bytes_of_mem ((hb.drop p).take n)) h0
  rw [Nat.min_eq_left h8, getI_take _ n n (Nat.le_refl _)] at h
  rw [← hm]; exact h
theorem number_any (n : Int) (h0 : 0 ≤ n) (h1 : n ≤ 2147483647) (w : World) :
    Calls Tryz.prog 120 #[.int .i64 n] w fun e w' => e = .returned (.slice (some ⟨w.heap.size, 0, none⟩) 4 4) ∧ w'.ownsRow w.heap.size 5 1 (.slice (some ⟨w.heap.size, 0, none⟩) 4 4) 4 (il .u8 (putL n 4)) ∧ Below w.heap.size w w' := by
  have HP : Hid (Calls Tryz.prog 113 #[.int .u64 n, .int .i64 4] w fun e w' => e = .returned (.slice (some ⟨w.heap.size, 0, none⟩) 4 4) ∧ w'.ownsRow w.heap.size 5 1 (.slice (some ⟨w.heap.size, 0, none⟩) 4 4) 4 (il .u8 (putL n 4)) ∧ Below w.heap.size w w') := Lib.hid (hword_put n 4 (by omega) w)
  go_enter Tryz.func120, Tryz.ntmps120
  go_wp2_with (first
    | (go_at_call 113; (with_reducible refine (HP.out).mono ?_); rintro e w1 ⟨rfl, ho, hb⟩; have HO := Lib.hid ho; have HB := Lib.hid hb; clear ho hb))
  go_ret
  exact ⟨rfl, HO.out, HB.out⟩
set_option maxRecDepth 8000 in
set_option maxHeartbeats 1000000 in
theorem hget_any (zs : List Int) (hl : zs.length = 64) (hb : isB zs) (p : Nat) (hp : p + 4 ≤ 64) (w : World) {m : Int} (hm : num zs p 4 = m) :
    Calls Tryz.prog 117 #[.agg (sv zs), .int .i64 p] w fun e w' => e = .returned (.int .i64 m) ∧ Below w.heap.size w w' := by
  have hbd := num_bd hb p 4
  rw [hm] at hbd
  have hbd1 : 0 ≤ m ∧ m < 4294967296 := by omega
  obtain ⟨w0, hw0⟩ : ∃ q, w.alloc (.cells (sv zs) 63) = q := ⟨_, rfl⟩
  have hk0 : Blk w0 w.heap.size zs := by rw [← hw0]; exact Blk.new w zs hl
  have HW := Lib.hid (show Below w.heap.size w w0 from by rw [← hw0]; exact below_alloc w _)
  have HG := Lib.hid (sec_get w.heap.size p 4 zs w0 hk0 hb hp (by omega) (by omega) hm)
  obtain ⟨q, hq⟩ : ∃ q, 64 - p = q := ⟨_, rfl⟩
  rw [hq] at HG
  have hp2 : (p : Int) ≤ 60 := by omega
  obtain ⟨t, ht⟩ : ∃ t : Nat, (p : Int) + 4 = (t : Int) := ⟨p + 4, by omega⟩
  have hp3 : (t : Int) ≤ 64 := by omega
  have hp4 : (p : Int) ≤ (t : Int) := by omega
  have hp5 : t - p = 4 := by omega
  have hp6 : ¬ 64 = p := by omega
  clear hbd hb hl hm hk0
  go_enter Tryz.func117, Tryz.ntmps117
  go_wp2_with (first
    | (go_at_call 116; (with_reducible refine (HG.out).mono ?_); rintro e w' ⟨rfl, rfl⟩))
  go_ret
  exact ⟨rfl, HW.out⟩
theorem hsum_any {w : World} (hT : Tab w) (zs : List Int) (hl : zs.length = 64) (hb : isB zs) {m : Nat} (hm : maskS (ofS (zs.take 37)) = m) :
    Calls Tryz.prog 100 #[.agg (sv zs)] w fun e w' => ∃ p, e = .returned (.slice (some ⟨p, 0, none⟩) 4 4) ∧ w'.ownsRow w.heap.size 5 1 (.slice (some ⟨p, 0, none⟩) 4 4) 4 (il .u8 (putL m 4)) ∧ Below w.heap.size w w' := by
  obtain ⟨w0, hw0⟩ : ∃ q, w.alloc (.cells (sv zs) 63) = q := ⟨_, rfl⟩
  have hk0 : Blk w0 w.heap.size zs := by rw [← hw0]; exact Blk.new w zs hl
  have hb0 : Below w.heap.size w w0 := by rw [← hw0]; exact below_alloc w _
  have HW := Lib.hid hb0
  obtain ⟨o, ho⟩ : ∃ o, ofS (zs.take 37) = o := ⟨_, rfl⟩
  rw [ho] at hm
  have hr := hk0.ri 0 37 64 (by omega) (by omega) (by omega)
  rw [List.drop_zero] at hr
  have HO : Hid (Calls Tryz.prog 115 #[.slice (some ⟨w.heap.size, 0, none⟩) 37 64] w0 fun e w' => e = .returned (.int .u32 o) ∧ w0 = w') := Lib.hid (of_any (hT.keep hb0) hr (hb.take 37) ho)
  have HK : Hid (∀ w, Calls Tryz.prog 114 #[.int .u32 o] w fun e w' => e = .returned (.int .u32 m) ∧ w = w') := Lib.hid fun w => mask_any o m (by rw [← ho]; exact ofS_lt _) hm w
  have hm9 : (m : Int) ≤ 4294967295 := by have := maskS_lt o; omega
  have HP : Hid (∀ w, Calls Tryz.prog 113 #[.int .u64 m, .int .i64 4] w fun e w' => e = .returned (.slice (some ⟨w.heap.size, 0, none⟩) 4 4) ∧ w'.ownsRow w.heap.size 5 1 (.slice (some ⟨w.heap.size, 0, none⟩) 4 4) 4 (il .u8 (putL m 4)) ∧ Below w.heap.size w w') := Lib.hid (hword_put m 4 (by omega))
  clear hT hb hl hm ho hr hk0 hb0
  go_enter Tryz.func100, Tryz.ntmps100
  go_wp2_with (first
    | (go_at_call 115; (with_reducible refine (HO.out).mono ?_); rintro e w' ⟨rfl, rfl⟩)
    | (go_at_call 114; (with_reducible refine (HK.out _).mono ?_); rintro e w' ⟨rfl, rfl⟩)
    | (go_at_call 113; (with_reducible refine (HP.out _).mono ?_); rintro e w2 ⟨rfl, ho2, hb2⟩; have HO2 := Lib.hid ho2; have HB2 := Lib.hid hb2; clear ho2 hb2))
  go_ret
  exact ⟨_, rfl, own_mono HO2.out HW.out.size, bch HW.out HB2.out⟩
end Go.Proofs.YtpoiapfgbbmekaaGreatDoor
