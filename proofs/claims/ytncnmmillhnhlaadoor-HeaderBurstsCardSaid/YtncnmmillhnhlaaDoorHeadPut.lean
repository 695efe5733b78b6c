/-
  FIELDS ARE LAID INTO A SECTOR (layer 18): copies into a sector's block that turn no other one; what header.put answers. The fields must lie elsewhere.
-/
import Derived.Test.YtncnmmillhnhlaaDoorHeadBlk
import Derived.Test.YtncnmmillhnhlaaDoorSlices
namespace Go.Proofs.YtncnmmillhnhlaaDoor
open Go.RowKit
theorem hgrown_row (w : World) (g : Nat) (cs : Array Value) : w.grownBy (w.setRow g cs) (some g) :=
  ⟨rfl, rfl, rfl, by simp, fun i _ hne => setRow_other w g i cs (fun e => hne (by rw [e]))⟩
theorem hgrown_trans {a b c : World} {row : Option Nat} (h : a.grownBy b row) (k : b.grownBy c row) : a.grownBy c row :=
  ⟨k.os.trans h.os, k.tape.trans h.tape, k.output.trans h.output, Nat.le_trans h.size k.size, fun i hi hne => (k.block i (Nat.lt_of_lt_of_le hi h.size) hne).trans (h.block i hi hne)⟩
theorem hgrown_refl (w : World) (row : Option Nat) : w.grownBy w row := ⟨rfl, rfl, rfl, Nat.le_refl _, fun _ _ _ => rfl⟩
theorem splice_nil {α : Type} (L : List α) (off : Nat) : splice L off [] = L := by simp [splice]
theorem splice_more {α : Type} (L : List α) (off : Nat) (a b : List α) (h : off + a.length ≤ L.length) : splice (splice L off a) (off + a.length) b = splice L off (a ++ b) := by
  unfold splice
  have e1 : (L.take off ++ (a ++ L.drop (off + a.length))).take (off + a.length) = L.take off ++ a := by
    rw [← List.append_assoc, List.take_left' (by simp; omega)]
  have e2 : (L.take off ++ (a ++ L.drop (off + a.length))).drop (off + a.length + b.length) = L.drop (off + (a ++ b).length) := by
    rw [← List.append_assoc, ← List.drop_drop, List.drop_left' (by simp; omega), List.drop_drop]
    congr 1; simp; omega
  rw [e1, e2, List.append_assoc, List.append_assoc]
/-- a copy of bytes into a sector's block -/
theorem wpl_copy_blk {ops : Array Oper} {rest : List Oper} {o : Oper} {a : Act} {w : World} {Q : Exit → Act → World → Prop} (hgd : o.guard = none) (d s : Operand)
    (ho : o.op = .call { callee := .builtin .copy, args := #[d, s], argTypes := #[42, 42] }) (g off dLen dCap : Nat) (cur : List Int) (hblk : Blk w g cur)
    (hd : a.eval d = .slice (some ⟨g, off, none⟩) dLen dCap) (v : Value) (n : Nat) (zs : List Int) (hs : a.eval s = v) (hri : RI .u8 w v n zs) (h0 : 0 < n) (hnd : n ≤ dLen) (hfit : off + dLen ≤ 64)
    (h : ∀ w', Hid (Blk w' g (splice cur off zs)) → Hid (w.grownBy w' (some g)) → wpList Tryd.prog ops Q rest (a.put o.dst (goInt (n : Int))) w') : wpList Tryd.prog ops Q (o :: rest) a w := by
  obtain ⟨sp, sCap, rfl, hl, _, _, _, hc⟩ := hri
  have hcl : (il .u8 zs).length = n := by rw [il_length, hl]
  have hmin : Nat.min n dLen = n := Nat.min_eq_left hnd
  obtain ⟨b, of2, rfl, hcell⟩ := hc (by omega)
  refine wpList_copy_own hgd d s 42 42 ho 5 Tryd.underlying42 u8_size1 g off dLen dCap ⟨b, of2, none⟩ n sCap hd hs (il .u8 cur).toArray 27 hblk.1 (il .u8 zs) (by rw [hcl, hmin]) ?_ (by rw [hcl]; simp [il_length, hblk.2]; omega) (il_one _ _) ?_
  · intro j u hj
    have hjl : j < zs.length := by have := (List.getElem?_eq_some_iff.1 hj).1; rwa [il_length] at this
    rw [il_get _ _ _ hjl] at hj
    rw [Addr.add_mid, hcell j (by omega)]
    exact hj
  · rw [hcl]
    refine h _ (Lib.hid ⟨?_, ?_⟩) (Lib.hid (hgrown_row _ _ _))
    · unfold sv
      rw [← il_splice]
      have := setRow_heap w g (sv cur) ((il .u8 cur).toArray.toList.take off ++ (il .u8 zs ++ (il .u8 cur).toArray.toList.drop (off + n))).toArray _ _ hblk.1
      simpa [splice, hcl] using this
    · rw [length_splice _ _ _ (by rw [hblk.2]; omega)]; exact hblk.2
theorem getD_memL {α : Type} {l : List α} {k : Nat} {d : α} (h : k < l.length) : l.getD k d ∈ l := by
  simp [List.getD, h]
/-- all fields up to the i-th one, one behind the other -/
def ups (ls : List (List Int)) (i : Nat) : List Int := (ls.take i).flatten
theorem ups_zero (ls : List (List Int)) : ups ls 0 = [] := rfl
theorem ups_succ (ls : List (List Int)) (i : Nat) (hi : i < ls.length) : ups ls (i + 1) = ups ls i ++ ls.getD i [] := by
  unfold ups
  rw [List.take_succ_eq_append_getElem hi, List.flatten_append]
  congr 1
  simp [List.getD, hi]
theorem ups_all (ls : List (List Int)) : ups ls ls.length = ls.flatten := by unfold ups; rw [List.take_length]
theorem ups_le (ls : List (List Int)) (i : Nat) : (ups ls i).length ≤ ls.flatten.length := by
  unfold ups
  have := congrArg List.length (congrArg List.flatten (List.take_append_drop i ls))
  rw [List.flatten_append, List.length_append] at this
  omega
set_option maxRecDepth 8000 in
set_option maxHeartbeats 1000000 in
theorem hput_any (g at_ n : Nat) (l : List Int) (ls : List (List Int)) (v : Value) (w : World) (hblk : Blk w g l) (hls : ∀ w', w.grownBy w' (some g) → RL .u8 w' v n ls) (hne : ∀ x ∈ ls, 0 < x.length) (hfit : at_ + ls.flatten.length ≤ 64) :
    Calls Tryd.prog 23 #[.pointer (some ⟨g, 0, none⟩), .int .i64 at_, v] w fun e w' => e = .returned (.tuple #[]) ∧ Blk w' g (splice l at_ ls.flatten) ∧ w.grownBy w' (some g) := by
  obtain ⟨a, cap, rfl, hcap, hcap2, _⟩ := (hls w (hgrown_refl _ _)).form
  have hn := (hls w (hgrown_refl _ _)).length
  have HN := Lib.hid hn
  have HE := Lib.hid hne
  have HL := Lib.hid hls
  have HBK := Lib.hid hblk
  have HFIT := Lib.hid hfit
  have hn9 : (n : Int) ≤ 9223372036854775807 := by omega
  have hat : at_ ≤ 64 := by omega
  clear hblk hls hne hfit hn
  go_enter Tryd.func23, Tryd.ntmps23
  go_wp2
  go_loopw [1, 10] (fun x iv wr => ∃ i p : Nat, iv = .int .i64 i ∧ x = .int .i64 p ∧ i ≤ n ∧ Hid (at_ + (ups ls i).length = p) ∧ Hid (Blk wr g (splice l at_ (ups ls i))) ∧ Hid (w.grownBy wr (some g))) (fun _ iv _ => n - (intOf iv).toNat)
  case atStart => exact ⟨0, at_, rfl, rfl, by omega, Lib.hid (by rw [ups_zero]; rfl), Lib.hid (by rw [ups_zero, splice_nil]; exact HBK.out), Lib.hid (hgrown_refl _ _)⟩
  case round =>
    obtain ⟨i, p, rfl, rfl, hi, HP, HB1, HG⟩ := hrel
    by_cases hlt : i < n
    · obtain ⟨b, off, rfl, hel⟩ := (HL.out wr HG.out).at_ (by omega)
      obtain ⟨x, c, hcell, hr⟩ := hel i hlt
      obtain ⟨m, hm⟩ : ∃ m, (ls.getD i []).length = m := ⟨_, rfl⟩
      rw [hm] at hcell hr
      have HR1 := Lib.hid hr
      have HU := Lib.hid (ups_succ ls i (by rw [HN.out]; exact hlt))
      have HM := Lib.hid hm
      have HM0 := Lib.hid (show 0 < m from by rw [← hm]; exact HE.out _ (getD_memL (by rw [HN.out]; exact hlt)))
      have HLE := Lib.hid (ups_le ls (i + 1))
      have hp64 : p + m ≤ 64 := by
        have h1 := HLE.out
        rw [HU.out, List.length_append] at h1
        have := HP.out; have := HFIT.out; omega
      have hp : p < 64 := by have := HM0.out; omega
      have hlt2 : (i : Int) < (n : Int) := by omega
      have hpi : (p : Int) ≤ 64 := by omega
      have hpm : (p : Int) + (m : Int) ≤ 64 := by omega
      clear hr hm hel
      go_wp2_with (first
        | (refine wpl_copy_blk rfl (.tmp 18) (.tmp 19) rfl g p (64 - p) (64 - p) _ HB1.out rfl _ m (ls.getD i []) rfl HR1.out HM0.out (by omega) (by omega) ?_; intro w2 HB2 HG2))
      go_roundw
      case rel =>
        refine ⟨i + 1, p + m, by go_num, by go_num, by omega, Lib.hid ?_, ?_, Lib.hid (hgrown_trans HG.out HG2.out)⟩
        · rw [HU.out, List.length_append, HM.out]; have := HP.out; omega
        · rw [HU.out]
          have h1 := HB2.out
          rw [← HP.out, splice_more _ _ _ _ (by have := HP.out; have := HFIT.out; rw [HBK.out.2]; omega)] at h1
          exact Lib.hid h1
      case measure => simp [intOf]; omega
    · obtain rfl : i = n := by omega
      have hfin := HB1.out
      rw [← HN.out, ups_all] at hfin
      have HF := Lib.hid hfin
      clear hfin
      go_wp2
      go_end0
      exact ⟨rfl, HF.out, HG.out⟩
end Go.Proofs.YtncnmmillhnhlaaDoor
