/-
  TEXTS JOINED: CrcCode, FragHead, FragKind, FragHput, FragRight, FragEnc, ImgPad. Each one's own words stand at its head.
-/
import Derived.Test.YtgegbpnmfpjdmaaGreatDoorJ11
import Derived.Lib.SlBytesConst
import Derived.Test.YtgegbpnmfpjdmaaGreatDoorJ15
import Derived.Test.YtgegbpnmfpjdmaaGreatDoorJ1
import Derived.Deep.MidRow
import Derived.Deep.WholeRow
import Derived.Lib.SmallJoins
import Derived.ChangeKeysEq
import Derived.DeepKeys
import Derived.Laws.StructEq
import Derived.Test.YtgegbpnmfpjdmaaGreatDoorJ12
import Derived.Test.YtgegbpnmfpjdmaaGreatDoorJ13
namespace Go.Proofs.YtgegbpnmfpjdmaaGreatDoor
open Go.RowKit
def Tab (w : World) : Prop := ∀ j : Nat, j < 16 → w.cell? ⟨1, j, none⟩ = some (.int .u32 ((stn 4 j : Nat) : Int))
theorem half_list : ∀ j : Nat, j < 16 → ([0, 274646895, 549293790, 820201905, 1098587580, 1361435347, 1640403810, 1905808397, 2197175160, 2460548119, 2722870694, 2987750089, 3280807620, 3553878443, 3811616794, 4084100981] : List Int).getD j 0 = ((stn 4 j : Nat) : Int) := by decide
theorem tab_of {w : World} (h : ∀ j : Nat, j < 16 → w.cell? ⟨1, j, none⟩ = some (.int .u32 (([0, 274646895, 549293790, 820201905, 1098587580, 1361435347, 1640403810, 1905808397, 2197175160, 2460548119, 2722870694, 2987750089, 3280807620, 3553878443, 3811616794, 4084100981] : List Int).getD j 0))) : Tab w :=
  fun j hj => by rw [h j hj, half_list j hj]
theorem Tab.keep {w w' : World} (h : Tab w) (hb : Below w.heap.size w w') : Tab w' := fun j hj => cell_keep hb (h j hj)
theorem flip32 (s : Nat) (h : s < 4294967296) : bits .xor .u32 IntKind.u32.max (s : Int) = ((4294967295 - s : Nat) : Int) := by
  rw [show IntKind.u32.max = ((4294967295 : Nat) : Int) from by decide, u32_xor_nat _ _ (by omega) h, not32 s h, Nat.xor_comm]
theorem half_bits (r : Nat) (h : r < 4294967296) : bits .xor .u32 ((r : Int) / 16) ((stn 4 (r % 16) : Nat) : Int) = ((stn 4 r : Nat) : Int) := by
  have := u32_xor_nat (r / 16) (stn 4 (r % 16)) (by omega) (stn_lt 4 _ (by omega))
  rw [← half_step] at this
  rw [← this]; congr 1
theorem four_any (r : Nat) (h : r < 4294967296) {w : World} (ht : Tab w) {m : Nat} (hm : stn 4 r = m) : Calls Tryz.prog 161 #[.int .u32 r] w fun e w' => e = .returned (.int .u32 m) ∧ w = w' := by
  have hc := ht (r % 16) (by omega)
  have hy := half_bits r h
  rw [hm] at hy
  have hr : (r : Int) ≤ 4294967295 := by omega
  clear ht hm h
  go_enter Tryz.func161, Tryz.ntmps161
  go_wp2
  go_ret
  exact ⟨rfl, rfl⟩
theorem eight_any (r : Nat) (h : r < 4294967296) {w : World} (ht : Tab w) {m : Nat} (hm : stn 8 r = m) : Calls Tryz.prog 149 #[.int .u32 r] w fun e w' => e = .returned (.int .u32 m) ∧ w = w' := by
  obtain ⟨r1, hr1⟩ : ∃ r1, stn 4 r = r1 := ⟨_, rfl⟩
  have H1 := Lib.hid hr1
  have H2 := Lib.hid (show stn 4 r1 = m from by rw [← hr1, ← hm, show (8 : Nat) = 4 + 4 from rfl, stn_add])
  have HL := Lib.hid (show r1 < 4294967296 from by rw [← hr1]; exact stn_lt 4 r h)
  have HR := Lib.hid h
  have HT := Lib.hid ht
  clear hr1 hm h ht
  go_enter Tryz.func149, Tryz.ntmps149
  go_wp2_with (first | (go_at_call 161; first | ((with_reducible refine (four_any r HR.out HT.out H1.out).mono ?_); rintro e w' ⟨rfl, rfl⟩) | ((with_reducible refine (four_any r1 HL.out HT.out H2.out).mono ?_); rintro e w' ⟨rfl, rfl⟩)))
  go_ret
  exact ⟨rfl, rfl⟩
set_option maxRecDepth 8000 in
set_option maxHeartbeats 800000 in
theorem more_some (s : Nat) (h : s < 4294967296) (b off len cap : Nat) (zs : List Int) (w : World) (ht : Tab w) (hz : zs.length = len) (hb : ∀ x ∈ zs, 0 ≤ x ∧ x ≤ 255) (hl : (len : Int) ≤ 9223372036854775807)
    (hc : ∀ j, j < len → w.cell? ⟨b, off + j, none⟩ = some (.int .u8 (zs.getD j 0))) :
    Calls Tryz.prog 130 #[.int .u32 s, .slice (some ⟨b, off, none⟩) len cap] w fun e w' => e = .returned (.int .u32 (moreS s zs)) ∧ w = w' := by
  have hs : (s : Int) ≤ 4294967295 := by omega
  obtain ⟨m, hm⟩ : ∃ m, moreS s zs = m := ⟨_, rfl⟩
  rw [hm]
  have HM := Lib.hid hm
  have HC := Lib.hid hc
  have HZ := Lib.hid hz
  have HB := Lib.hid hb
  have HS := Lib.hid h
  have HT := Lib.hid ht
  have hf := flip32 s h
  obtain ⟨f, hfe⟩ : ∃ f, 4294967295 - s = f := ⟨_, rfl⟩
  rw [hfe] at hf
  have HF := Lib.hid hfe
  clear hm hc hz hb h ht hfe
  go_enter Tryz.func130, Tryz.ntmps130
  go_wp2
  go_loop [5, 12] (fun x i => ∃ (k r : Nat), i = .int .i64 k ∧ x = .int .u32 r ∧ k ≤ len ∧ Hid (r < 4294967296) ∧ Hid (reg r (zs.drop k) = reg f zs)) (fun _ i => len - (intOf i).toNat)
  case atStart => exact ⟨0, f, rfl, rfl, by omega, Lib.hid (by have := HF.out; omega), rfl⟩
  case round =>
    obtain ⟨k, r, rfl, rfl, hk, HR, HG⟩ := hrel
    by_cases hlt : k < len
    · obtain ⟨x, hx⟩ : ∃ x, zs.getD k 0 = x := ⟨_, rfl⟩
      have hcell : w.cell? ⟨b, off + k, none⟩ = some (.int .u8 x) := by rw [← hx]; exact HC.out k hlt
      have hxb : 0 ≤ x ∧ x ≤ 255 := by
        rw [← hx]; exact (bytes_of_mem HB.out) k
      have HD := Lib.hid (show reg r (x :: zs.drop (k + 1)) = reg f zs from by rw [← hx, ← drop_getD zs k (by rw [HZ.out]; exact hlt)]; exact HG.out)
      obtain ⟨y, rfl⟩ : ∃ y : Nat, x = (y : Int) := ⟨x.toNat, by omega⟩
      have hxx := u32_xor_nat r y HR.out (by omega)
      obtain ⟨r0, hr0⟩ : ∃ r0, r ^^^ y = r0 := ⟨_, rfl⟩
      have h0 : r0 < 4294967296 := by rw [← hr0]; exact xor_lt r y HR.out (by omega)
      rw [hr0] at hxx
      have H0 := Lib.hid h0
      obtain ⟨r2, hr2⟩ : ∃ r2, stn 8 r0 = r2 := ⟨_, rfl⟩
      have H2 := Lib.hid (show r2 < 4294967296 from by rw [← hr2]; exact stn_lt 8 r0 h0)
      have HE := Lib.hid (show stn 8 (r ^^^ y) = r2 from by rw [hr0, hr2])
      have HF8 := Lib.hid hr2
      clear hr0 hr2 hx HG h0
      go_wp2_with (first | (go_at_call 149; (with_reducible refine (eight_any r0 H0.out HT.out HF8.out).mono ?_); rintro e w' ⟨rfl, rfl⟩))
      go_round
      case rel =>
        refine ⟨k + 1, r2, by go_num, rfl, by omega, H2, ?_⟩
        have h3 := HD.out
        rw [reg_cons, Int.toNat_natCast, HE.out] at h3
        exact h3
      case measure => simp [intOf]; omega
    · have hg := HG.out
      rw [show zs.drop k = [] from List.drop_eq_nil_of_le (by rw [HZ.out]; omega), reg_nil] at hg
      have hm := HM.out
      unfold moreS at hm
      rw [HF.out, ← hg] at hm
      have hfr := flip32 r HR.out
      rw [hm] at hfr
      clear hg hm
      go_wp2
      go_ret
      exact ⟨rfl, rfl⟩
set_option maxRecDepth 8000 in
set_option maxHeartbeats 400000 in
theorem more_zero (s : Nat) (h : s < 4294967296) (a : Option Addr) (cap : Nat) (w : World) :
    Calls Tryz.prog 130 #[.int .u32 s, .slice a 0 cap] w fun e w' => e = .returned (.int .u32 (moreS s [])) ∧ w = w' := by
  have hf := flip32 s h
  obtain ⟨f, hfe⟩ : ∃ f, 4294967295 - s = f := ⟨_, rfl⟩
  rw [hfe] at hf
  have hg := flip32 f (by omega)
  obtain ⟨m, hm⟩ : ∃ m, moreS s [] = m := ⟨_, rfl⟩
  rw [hm]
  unfold moreS at hm
  rw [reg_nil, hfe] at hm
  rw [hm] at hg
  have hs : (s : Int) ≤ 4294967295 := by omega
  clear hm hfe h
  go_enter Tryz.func130, Tryz.ntmps130
  go_wp2
  refine wp_loop_rounds 1 ?_
  rw [rounds_succ]
  go_wp2
  go_ret
  exact ⟨rfl, rfl⟩
theorem more_any {s len : Nat} (h : s < 4294967296) {v : Value} {zs : List Int} {w : World} (ht : Tab w) (hri : RI .u8 w v len zs) (hb : ∀ x ∈ zs, 0 ≤ x ∧ x ≤ 255) {m : Nat} (hm : moreS s zs = m) :
    Calls Tryz.prog 130 #[.int .u32 s, v] w fun e w' => e = .returned (.int .u32 m) ∧ w = w' := by
  subst hm
  obtain ⟨a, cap, rfl, hl, h1, h2, _, hc⟩ := hri
  by_cases h0 : 0 < len
  · obtain ⟨b, off, rfl, hcell⟩ := hc h0
    exact more_some s h b off len cap zs w ht hl hb (by omega) hcell
  · obtain rfl : len = 0 := by omega
    obtain rfl : zs = [] := List.length_eq_zero_iff.1 hl
    exact more_zero s h a cap w
theorem more_0 {len : Nat} {v : Value} {zs : List Int} {w : World} (ht : Tab w) (hri : RI .u8 w v len zs) (hb : ∀ x ∈ zs, 0 ≤ x ∧ x ≤ 255) {m : Nat} (hm : moreS 0 zs = m) :
    Calls Tryz.prog 130 #[.int .u32 0, v] w fun e w' => e = .returned (.int .u32 m) ∧ w = w' := more_any (s := 0) (by omega) ht hri hb hm
theorem of_any {len : Nat} {v : Value} {zs : List Int} {w : World} (ht : Tab w) (hri : RI .u8 w v len zs) (hb : ∀ x ∈ zs, 0 ≤ x ∧ x ≤ 255) {m : Nat} (hm : ofS zs = m) :
    Calls Tryz.prog 119 #[v] w fun e w' => e = .returned (.int .u32 m) ∧ w = w' := by
  have HR := Lib.hid hri
  have HB := Lib.hid hb
  have HT := Lib.hid ht
  have HM := Lib.hid (show moreS 0 zs = m from hm)
  clear hri hb hm ht
  go_enter Tryz.func119, Tryz.ntmps119
  go_wp2_with (first | (go_at_call 130; (with_reducible refine (more_0 HT.out HR.out HB.out HM.out).mono ?_); rintro e w' ⟨rfl, rfl⟩))
  go_ret
  exact ⟨rfl, rfl⟩
theorem or17 (n : Nat) (h : n < 4294967296) : bits .or .u32 ((n : Int) * 131072 % 4294967296) ((n : Int) / 32768) = ((n / 32768 + n % 32768 * 131072 : Nat) : Int) := by
  have h1 := u32_or_nat (2 ^ 17 * (n % 32768)) (n / 32768) (by omega) (by omega)
  rw [← Nat.two_pow_add_eq_or_of_lt (show n / 32768 < 2 ^ 17 by omega)] at h1
  rw [show (n : Int) / 32768 = ((n / 32768 : Nat) : Int) from by omega, show (n : Int) * 131072 % 4294967296 = ((2 ^ 17 * (n % 32768) : Nat) : Int) from by omega, h1]
  omega
set_option maxRecDepth 8000 in
theorem rot_right (n : Nat) (h : n < 4294967296) (w : World) : Calls Tryz.prog 143 #[.int .u32 n, .int .i64 (-15)] w fun e w' => e = .returned (.int .u32 ((n / 32768 + n % 32768 * 131072 : Nat) : Int)) ∧ w = w' := by
  have hn : (n : Int) ≤ 4294967295 := by omega
  have hw : bits .and .u64 (IntKind.u64.wrap (-15)) 31 = 17 := by decide
  have HO := Lib.hid (or17 n h)
  go_enter Tryz.func143, Tryz.ntmps143
  go_wp2
  go_ret
  refine ⟨ret_int ?_, rfl⟩
  rw [← HO.out]
set_option maxRecDepth 8000 in
theorem mask_any (n m : Nat) (h : n < 4294967296) (hm : maskS n = m) (w : World) : Calls Tryz.prog 118 #[.int .u32 n] w fun e w' => e = .returned (.int .u32 m) ∧ w = w' := by
  have HN := Lib.hid h
  clear h
  go_enter Tryz.func118, Tryz.ntmps118
  go_wp2_with (first | (go_at_call 143; (with_reducible refine (rot_right n HN.out _).mono ?_); rintro e w' ⟨rfl, rfl⟩))
  go_ret
  refine ⟨ret_int ?_, rfl⟩
  rw [← hm]
  unfold maskS
  omega
theorem RI.const (w : World) (e : TypeId) (k : IntKind) (zs : List Int) (fr : Nat × Nat) (n : Nat) (hn : zs.length = n) (h63 : n ≤ 9223372036854775807) :
    RI k (w.alloc (.cells (il k zs).toArray e fr)) (.slice (some ⟨w.heap.size, 0, none⟩) n n) n zs := by
  refine ⟨_, n, rfl, hn, Nat.le_refl _, h63, fun h => by simp at h, fun _ => ⟨w.heap.size, 0, rfl, fun j hj => ?_⟩⟩
  have hg : (w.alloc (.cells (il k zs).toArray e fr)).heap[w.heap.size]? = some (.cells (il k zs).toArray e fr) := by
    show (w.heap.push _)[w.heap.size]? = _
    simp
  rw [Nat.zero_add, cell_of_row _ w.heap.size j _ e fr hg]
  simpa using il_get k zs j (by omega)
end Go.Proofs.YtgegbpnmfpjdmaaGreatDoor
namespace Go.Proofs.YtgegbpnmfpjdmaaGreatDoor
open Go.RowKit
def av (zs : List Int) : Array Value := (il .u8 zs).toArray
theorem av_get (zs : List Int) (j : Nat) (h : j < zs.length) : (av zs)[j]? = some (.int .u8 (zs.getD j 0)) := by
  have := il_get .u8 zs j h
  simpa [av] using this
def z11 : List Int := List.replicate 11 0
theorem z11_length : z11.length = 11 := by simp [z11]
def HD (w : World) (b : Nat) (zs : List Int) : Prop := w.heap[b]? = some (.cells (av zs) 162 (0, 0)) ∧ zs.length = 11
theorem HD.lt {w : World} {b : Nat} {c : List Int} (h : HD w b c) : b < w.heap.size := (Array.getElem?_eq_some_iff.1 h.1).1
theorem HD.keep {w w' : World} {b : Nat} {c : List Int} (h : HD w b c) (hb : Below w.heap.size w w') : HD w' b c := ⟨by rw [hb.block b h.lt]; exact h.1, h.2⟩
theorem HD.cell {w : World} {b : Nat} {c : List Int} (h : HD w b c) (j : Nat) (hj : j < 11) : w.cell? ⟨b, j, none⟩ = some (.int .u8 (c.getD j 0)) := by
  rw [Joins.cell_of_block h.1 j, av_get _ _ (by rw [h.2]; exact hj)]
theorem HD.row {w : World} {b : Nat} {c c' : List Int} (h : HD w b c) (hc : c'.length = 11) : HD (w.setRow b (av c')) b c' := ⟨setRow_heap w b (av c) (av c') _ _ h.1, hc⟩
theorem HD.new (w : World) (zs : List Int) (h : zs.length = 11) : HD (w.alloc (.cells (av zs) 162)) w.heap.size zs := ⟨heap_alloc_last w _, h⟩
theorem HD.ri {w : World} {g : Nat} {l : List Int} (h : HD w g l) (m d : Nat) (hm : m + d ≤ 11) : RI .u8 w (.slice (some ⟨g, m, none⟩) d d) d ((l.drop m).take d) := by
  refine ⟨_, d, rfl, by simp [h.2]; omega, Nat.le_refl _, by omega, fun h => by simp at h, fun _ => ⟨g, m, rfl, fun j hj => ?_⟩⟩
  rw [h.cell (m + j) (by omega)]
  simp only [List.getD, List.getElem?_take, hj, if_true, List.getElem?_drop]
set_option maxRecDepth 8000 in
set_option maxHeartbeats 1000000 in
theorem hcut_any (b f n t : Nat) (ht : f + n = t) (h1 : t ≤ 11) (h0 : 0 < n) (w : World) :
    Calls Tryz.prog 114 #[.pointer (some ⟨b, 0, none⟩), .int .i64 f, .int .i64 t] w fun e w' => e = .returned (.slice (some ⟨b, f, none⟩) n n) ∧ w = w' := by
  have hf : (f : Int) ≤ (t : Int) := by omega
  have ht1 : (t : Int) ≤ 11 := by omega
  have hne : ¬ t = f := by omega
  have hs : t - f = n := by omega
  clear ht h1 h0
  go_enter Tryz.func114, Tryz.ntmps114
  go_wp2
  go_ret
  exact ⟨by rfl, rfl⟩
theorem hd_size1 : (Tryz.prog.info? 5).map (·.size) = some 1 := by kernel_rfl
theorem hd_splice (k : IntKind) (l cs : List Int) (off : Nat) : splice (il k l) off (il k cs) = il k (splice l off cs) := by simp [splice, il]
theorem wpl_copy_head {ops : Array Oper} {rest : List Oper} {o : Oper} {a : Act} {w : World} {Q : Exit → Act → World → Prop} (hgd : o.guard = none) (d s : Operand)
    (ho : o.op = .call { callee := .builtin .copy, args := #[d, s], argTypes := #[43, 43] }) (g off m : Nat) (l : List Int) (hblk : HD w g l)
    (hd : a.eval d = .slice (some ⟨g, off, none⟩) m m) (v : Value) (zs : List Int) (hs : a.eval s = v) (hri : RI .u8 w v m zs) (hfit : off + m ≤ 11)
    (h : ∀ w', Hid (HD w' g (splice l off zs)) → Hid (Below g w w') → wpList Tryz.prog ops Q rest (a.put o.dst (goInt (m : Int))) w') : wpList Tryz.prog ops Q (o :: rest) a w := by
  refine wpList_plain hgd fun K hK => ?_
  obtain ⟨sp, sCap, rfl, hl, _, _, _, hc⟩ := hri
  have hcl : (il .u8 zs).length = min m m := by rw [il_length, Nat.min_self]; exact hl
  have h1 := step_copy_splice (ops := ops) (K := K) (Q := Q) (E := True) hgd d s 43 43 ho 5 Tryz.underlying43 hd_size1 (some ⟨g, off, none⟩) sp m m m sCap hd hs g off (il .u8 l) 162 hblk.1 (il .u8 zs) hcl ?_ (by rw [hcl, il_length, hblk.2]; omega) (il_one _ _) g w (Below.refl _ _) (Nat.le_refl _) ?_
  · rwa [if_pos (by simp [Region.wanted, hgd])] at h1
  · intro hp
    rw [hcl] at hp
    obtain ⟨b, of2, rfl, hcell⟩ := hc (by omega)
    refine ⟨rfl, _, rfl, fun j u hj => ?_⟩
    have hjl : j < zs.length := by have := (List.getElem?_eq_some_iff.1 hj).1; rwa [il_length] at this
    rw [il_get _ _ _ hjl] at hj
    have h2 := hcell j (by omega)
    rw [← hj]
    by_cases h0 : j = 0
    · subst h0; simpa [Addr.add] using h2
    · simpa [Addr.add, h0] using h2
  · intro w' hg hb
    have e : goInt (il .u8 zs).length = goInt (m : Int) := by rw [hcl, Nat.min_self]
    rw [e]
    refine hK _ _ (h w' ⟨?_, by rw [length_splice _ _ _ (by rw [hblk.2]; omega)]; exact hblk.2⟩ hb)
    have := hg.out
    rwa [hd_splice] at this
theorem more_of (a b : List Int) (ha : isB a) : moreS (ofS a) b = ofS (a ++ b) := by
  have h := reg_lt a ha 4294967295 (by omega)
  unfold ofS moreS
  rw [reg_append, show 4294967295 - (4294967295 - reg (4294967295 - 0) a) = reg (4294967295 - 0) a from by simp only [Nat.sub_zero]; omega]
theorem fsmh_any (b : Nat) {w : World} {zs : List Int} (hT : Tab w) (hh : HD w b zs) (hb : isB zs) {v : Value} {n : Nat} {d : List Int} (hr : RI .u8 w v n d) (hd : isB d) {m : Nat} (hm : maskS (ofS (zs.drop 4 ++ d)) = m) :
    Calls Tryz.prog 113 #[.pointer (some ⟨b, 0, none⟩), v] w fun e w' => e = .returned (.int .u64 m) ∧ w = w' := by
  have hh4 := hh.ri 4 7 (by omega)
  rw [List.take_of_length_le (by simp [hh.2])] at hh4
  obtain ⟨o, ho⟩ : ∃ o, ofS (zs.drop 4) = o := ⟨_, rfl⟩
  obtain ⟨q, hq⟩ : ∃ q, moreS o d = q := ⟨_, rfl⟩
  have hq2 : ofS (zs.drop 4 ++ d) = q := by rw [← more_of _ _ (hb.drop 4), ho, hq]
  rw [hq2] at hm
  have HC : Hid (∀ w, Calls Tryz.prog 114 #[.pointer (some ⟨b, 0, none⟩), .int .i64 4, .int .i64 11] w fun e w' => e = .returned (.slice (some ⟨b, 4, none⟩) 7 7) ∧ w = w') := Lib.hid (hcut_any b 4 7 11 rfl (by omega) (by omega))
  have HO : Hid (Calls Tryz.prog 119 #[.slice (some ⟨b, 4, none⟩) 7 7] w fun e w' => e = .returned (.int .u32 o) ∧ w = w') := Lib.hid (of_any hT hh4 (hb.drop 4) ho)
  have HM : Hid (Calls Tryz.prog 130 #[.int .u32 o, v] w fun e w' => e = .returned (.int .u32 q) ∧ w = w') := Lib.hid (more_any (by rw [← ho]; exact ofS_lt _) hT hr hd hq)
  have HK : Hid (∀ w, Calls Tryz.prog 118 #[.int .u32 q] w fun e w' => e = .returned (.int .u32 m) ∧ w = w') := Lib.hid fun w => mask_any q m (by rw [← hq]; exact moreS_lt _ _) hm w
  have hm9 : (m : Int) ≤ 4294967295 := by have := maskS_lt q; omega
  clear hT hh hb hr hd hm hh4 ho hq hq2
  go_enter Tryz.func113, Tryz.ntmps113
  go_wp2_with (first
    | (go_at_call 114; (with_reducible refine (HC.out _).mono ?_); rintro e w' ⟨rfl, rfl⟩)
    | (go_at_call 119; (with_reducible refine (HO.out).mono ?_); rintro e w' ⟨rfl, rfl⟩)
    | (go_at_call 130; (with_reducible refine (HM.out).mono ?_); rintro e w' ⟨rfl, rfl⟩)
    | (go_at_call 118; (with_reducible refine (HK.out _).mono ?_); rintro e w' ⟨rfl, rfl⟩))
  go_ret
  exact ⟨rfl, rfl⟩
end Go.Proofs.YtgegbpnmfpjdmaaGreatDoor
namespace Go.Proofs.YtgegbpnmfpjdmaaGreatDoor
open Go.RowKit
theorem fkind_any (k : Int) (w : World) : Calls Tryz.prog 129 #[.int .i64 k] w fun e w' => e = .returned (.bool (decide (1 ≤ k ∧ k ≤ 4))) ∧ w = w' := by
  rcases (by omega : (1 ≤ k ∧ k ≤ 4) ∨ k < 1 ∨ (1 ≤ k ∧ 4 < k)) with ⟨h1, h2⟩ | h1 | ⟨h1, h2⟩
  · rw [show decide (1 ≤ k ∧ k ≤ 4) = true from decide_eq_true ⟨h1, h2⟩]
    go_enter Tryz.func129, Tryz.ntmps129
    go_wp2
    go_ret
    exact ⟨rfl, rfl⟩
  · rw [show decide (1 ≤ k ∧ k ≤ 4) = false from decide_eq_false (by omega)]
    go_enter Tryz.func129, Tryz.ntmps129
    go_wp2
    go_ret
    exact ⟨rfl, rfl⟩
  · rw [show decide (1 ≤ k ∧ k ≤ 4) = false from decide_eq_false (by omega)]
    go_enter Tryz.func129, Tryz.ntmps129
    go_wp2
    go_ret
    first
      | exact ⟨rfl, rfl⟩
      | exact ⟨ret_bool (decide_eq_false (by omega)), rfl⟩
end Go.Proofs.YtgegbpnmfpjdmaaGreatDoor
namespace Go.Proofs.YtgegbpnmfpjdmaaGreatDoor
open Go.RowKit
theorem fpth_any (b f n t : Nat) (ht : f + n = t) (h1 : t ≤ 11) (h0 : 0 < n) (h8 : n ≤ 8) (x : Int) {w : World} {zs : List Int} (hh : HD w b zs) :
    Calls Tryz.prog 112 #[.pointer (some ⟨b, 0, none⟩), .int .i64 f, .int .i64 t, .int .u64 x] w fun e w' => e = .returned (.tuple #[]) ∧ HD w' b (splice zs f (putL x n)) ∧ Below b w w' := by
  have HC := Lib.hid (hcut_any b f n t ht h1 h0)
  have HP : Hid (∀ w, Calls Tryz.prog 115 #[.int .u64 x, .int .i64 n] w fun e w' => ∃ c, e = .returned (.slice (some ⟨w.heap.size, 0, none⟩) n c) ∧ RI .u8 w' (.slice (some ⟨w.heap.size, 0, none⟩) n c) n (putL x n) ∧ Below w.heap.size w w') := Lib.hid fun w =>
    (put_any x n n (by unfold I63; omega) (by unfold clampI; omega) w).mono fun _ _ ⟨he, ho, hb⟩ => ⟨n, he, RI.own ho, hb⟩
  have HH := Lib.hid hh
  have HN : Hid (f + n ≤ 11) := Lib.hid (by omega)
  have hn : (n : Int) ≤ 8 := by omega
  have hn2 : (t : Int) - (f : Int) = (n : Int) := by omega
  have hlt := hh.lt
  clear ht h1 h0 h8 hh
  go_enter Tryz.func112, Tryz.ntmps112
  go_wp2_with (first
    | (go_at_call 114; (with_reducible refine (HC.out _).mono ?_); rintro e w' ⟨rfl, rfl⟩)
    | (go_at_call 115; (with_reducible refine (HP.out _).mono ?_); rintro e w1 ⟨c1, rfl, hr1, hb1⟩; have HR1 := Lib.hid hr1; have HB1 := Lib.hid hb1; have HH1 := Lib.hid (HH.out.keep hb1); clear hr1 hb1)
    | (refine wpl_copy_head rfl (.tmp 11) (.tmp 16) rfl b f n zs HH1.out rfl _ (putL x n) rfl HR1.out HN.out ?_; intro w2 HH2 HB2))
  go_end0
  exact ⟨rfl, HH2.out, (HB1.out.mono (Nat.le_of_lt hlt)).trans HB2.out⟩
end Go.Proofs.YtgegbpnmfpjdmaaGreatDoor
namespace Go.Proofs.YtgegbpnmfpjdmaaGreatDoor
open Go.RowKit
set_option maxRecDepth 8000 in
set_option maxHeartbeats 1000000 in
theorem fright_any (k e : Int) (a : Option Addr) (n cap : Nat) (w : World) :
    Calls Tryz.prog 111 #[.agg (fA k e (.slice a n cap))] w fun r w' => r = .returned (.bool (fragOk k n)) ∧ Below w.heap.size w w' := by
  obtain ⟨y, hy⟩ : ∃ y, decide (1 ≤ k ∧ k ≤ 4) = y := ⟨_, rfl⟩
  have HK : Hid (∀ w, Calls Tryz.prog 129 #[.int .i64 k] w fun e w' => e = .returned (.bool y) ∧ w = w') := Lib.hid fun w => by rw [← hy]; exact fkind_any k w
  have hall : fragOk k n = (y && decide ((n : Int) ≤ 197)) := by
    rw [← hy, Bool.eq_iff_iff]; unfold fragOk; simp; omega
  rw [hall]
  cases y with
  | false =>
    clear hy hall
    go_enter Tryz.func111, Tryz.ntmps111
    go_wp2_with (first
      | (go_at_call 129; (with_reducible refine (HK.out _).mono ?_); rintro e w' ⟨rfl, rfl⟩))
    go_ret
    exact ⟨rfl, balloc _ _⟩
  | true =>
    clear hy hall
    go_enter Tryz.func111, Tryz.ntmps111
    go_wp2_with (first
      | (go_at_call 129; (with_reducible refine (HK.out _).mono ?_); rintro e w' ⟨rfl, rfl⟩))
    go_ret
    exact ⟨rfl, balloc _ _⟩
end Go.Proofs.YtgegbpnmfpjdmaaGreatDoor
namespace Go.Proofs.YtgegbpnmfpjdmaaGreatDoor
open Go.RowKit
theorem enc_head (k e : Int) (n : Nat) (hk : 0 ≤ k ∧ k ≤ 255) : splice (splice (splice z11 4 (putL n 2)) 6 (putL k 1)) 7 (putL e 4) = [0, 0, 0, 0] ++ fragK k e n := by
  have h1 : putL k 1 = [k] := by simp [putL, List.range_succ]; omega
  unfold fragK
  rw [h1]
  have h2 := putL_length n 2
  have h4 := putL_length e 4
  generalize putL n 2 = a at *
  generalize putL e 4 = b at *
  match a, b, h2, h4 with
  | [a0, a1], [b0, b1, b2, b3], _, _ => simp [splice, z11, List.replicate]
theorem enc_sum (k e : Int) (n m : Nat) : splice ([0, 0, 0, 0] ++ fragK k e n) 0 (putL m 4) = putL m 4 ++ fragK k e n := by
  have h4 := putL_length m 4
  generalize putL m 4 = b at *
  match b, h4 with
  | [b0, b1, b2, b3], _ => simp [splice]
set_option maxRecDepth 8000 in
set_option maxHeartbeats 4000000 in
theorem fenc_right (k e : Int) (a : Option Addr) (n cap : Nat) (d : List Int) (w : World) (ht : Tab w) (hr : fragOk k n = true) (he : 0 ≤ e ∧ e ≤ 4294967295) (hri : RI .u8 w (.slice a n cap) n d) (hbd : isB d) :
    Calls Tryz.prog 92 #[.agg (fA k e (.slice a n cap))] w fun r w' => ∃ p c, r = .returned (.tuple #[.slice p (11 + n) c, .int .i64 0]) ∧ RI .u8 w' (.slice p (11 + n) c) (11 + n) (fragB k e d) ∧ Below w.heap.size w w' := by
  have hp := fok_parts hr
  have hd := hri.length
  obtain ⟨he0, he1⟩ := he
  obtain ⟨m, hm⟩ : ∃ m, fragS k e d = m := ⟨_, rfl⟩
  have hm8 : (m : Int) ≤ 4294967295 := by have := fragS_lt k e d; omega
  obtain ⟨z1, hz1⟩ : ∃ z, splice z11 4 (putL n 2) = z := ⟨_, rfl⟩
  obtain ⟨z2, hz2⟩ : ∃ z, splice z1 6 (putL k 1) = z := ⟨_, rfl⟩
  obtain ⟨z3, hz3⟩ : ∃ z, splice z2 7 (putL e 4) = z := ⟨_, rfl⟩
  obtain ⟨z4, hz4⟩ : ∃ z, splice z3 0 (putL m 4) = z := ⟨_, rfl⟩
  have h3 : z3 = [0, 0, 0, 0] ++ fragK k e n := by rw [← hz3, ← hz2, ← hz1]; exact enc_head k e n (by omega)
  have h4 : z4 = putL m 4 ++ fragK k e n := by rw [← hz4, h3]; exact enc_sum k e n m
  have h3b : isB z3 := by rw [h3]; exact isB.append (fun x hx => by simp at hx; omega) (fragK_bytes (by omega) e n)
  have hsm : maskS (ofS (z3.drop 4 ++ d)) = m := by rw [← hm, h3]; unfold fragS fragT; rw [hd]; rfl
  have HZ4 : Hid ((z4.drop 0).take 11 = z4 ∧ z4 ++ d = fragB k e d) := Lib.hid ⟨by rw [List.drop_zero, List.take_of_length_le (by rw [h4]; simp [putL_length, fragK_length])], by rw [h4, ← hm]; unfold fragB fragT; rw [hd, List.append_assoc]⟩
  have HO : Hid (∀ w, Calls Tryz.prog 111 #[.agg (fA k e (.slice a n cap))] w fun e w' => e = .returned (.bool true) ∧ Below w.heap.size w w') := Lib.hid fun w => by rw [← hr]; exact fright_any k e a n cap w
  have HPA : Hid (∀ w b, HD w b z11 → Calls Tryz.prog 112 #[.pointer (some ⟨b, 0, none⟩), .int .i64 4, .int .i64 6, .int .u64 n] w fun e w' => e = .returned (.tuple #[]) ∧ HD w' b z1 ∧ Below b w w') := Lib.hid fun w b h => by rw [← hz1]; exact fpth_any b 4 2 6 rfl (by omega) (by omega) (by omega) n h
  have HPB : Hid (∀ w b, HD w b z1 → Calls Tryz.prog 112 #[.pointer (some ⟨b, 0, none⟩), .int .i64 6, .int .i64 7, .int .u64 k] w fun e w' => e = .returned (.tuple #[]) ∧ HD w' b z2 ∧ Below b w w') := Lib.hid fun w b h => by rw [← hz2]; exact fpth_any b 6 1 7 rfl (by omega) (by omega) (by omega) k h
  have HPC : Hid (∀ w b, HD w b z2 → Calls Tryz.prog 112 #[.pointer (some ⟨b, 0, none⟩), .int .i64 7, .int .i64 11, .int .u64 e] w fun e w' => e = .returned (.tuple #[]) ∧ HD w' b z3 ∧ Below b w w') := Lib.hid fun w b h => by rw [← hz3]; exact fpth_any b 7 4 11 rfl (by omega) (by omega) (by omega) e h
  have HPD : Hid (∀ w b, HD w b z3 → Calls Tryz.prog 112 #[.pointer (some ⟨b, 0, none⟩), .int .i64 0, .int .i64 4, .int .u64 m] w fun e w' => e = .returned (.tuple #[]) ∧ HD w' b z4 ∧ Below b w w') := Lib.hid fun w b h => by rw [← hz4]; exact fpth_any b 0 4 4 rfl (by omega) (by omega) (by omega) m h
  have HS : Hid (∀ w b, Tab w → HD w b z3 → RI .u8 w (.slice a n cap) n d → Calls Tryz.prog 113 #[.pointer (some ⟨b, 0, none⟩), .slice a n cap] w fun e w' => e = .returned (.int .u64 m) ∧ w = w') := Lib.hid fun w b h1 h2 h3 => fsmh_any b h1 h2 h3b h3 hbd hsm
  have HC : Hid (∀ w b, Calls Tryz.prog 114 #[.pointer (some ⟨b, 0, none⟩), .int .i64 0, .int .i64 11] w fun e w' => e = .returned (.slice (some ⟨b, 0, none⟩) 11 11) ∧ w = w') := Lib.hid fun w b => hcut_any b 0 11 11 rfl (by omega) (by omega) w
  obtain ⟨w0, hw0⟩ : ∃ q, w.alloc (.cells (fA k e (.slice a n cap)) 143) = q := ⟨_, rfl⟩
  have HA : Hid (FO w0 w.heap.size k e (.slice a n cap)) := Lib.hid (by rw [← hw0]; exact FO.alloc w)
  have HB : Hid (Below w.heap.size w w0) := Lib.hid (by rw [← hw0]; exact balloc w _)
  have HR := Lib.hid (hri.keep HB.out)
  have HT := Lib.hid (ht.keep HB.out)
  have HN : Hid (n ≤ 197) := Lib.hid hp.2.2
  have hn9 : (n : Int) ≤ 197 := by omega
  have hk1 : 1 ≤ k := hp.1
  have hk4 : k ≤ 4 := hp.2.1
  clear hr hri hp hd hbd hm hz1 hz2 hz3 hz4 h3 h4 h3b hsm ht
  go_enter Tryz.func92, Tryz.ntmps92
  go_wp2_with (first
    | (go_at_call 111; (with_reducible refine (HO.out _).mono ?_); rintro r w1 ⟨rfl, hb1⟩; have HH2 : Hid (HD (w1.alloc (.cells #[.int .u8 0, .int .u8 0, .int .u8 0, .int .u8 0, .int .u8 0, .int .u8 0, .int .u8 0, .int .u8 0, .int .u8 0, .int .u8 0, .int .u8 0] 162)) w1.heap.size z11) := Lib.hid (HD.new w1 z11 z11_length); have HB2 : Hid (Below w1.heap.size w1 (w1.alloc (.cells #[.int .u8 0, .int .u8 0, .int .u8 0, .int .u8 0, .int .u8 0, .int .u8 0, .int .u8 0, .int .u8 0, .int .u8 0, .int .u8 0, .int .u8 0] 162))) := Lib.hid (balloc _ _); have HA1 := Lib.hid (HA.out.keep hb1); have HR1 := Lib.hid (HR.out.keep hb1); have HT1 := Lib.hid (HT.out.keep hb1); have HB1 := Lib.hid (bch HB.out hb1); obtain ⟨x0, x1, x2⟩ := (HA1.out.keep HB2.out).cells; clear hb1)
    | (go_at_call 112; (with_reducible refine (HPA.out _ _ HH2.out).mono ?_); rintro r w3 ⟨rfl, hh3, hb3⟩; have HH3 := Lib.hid hh3; have HB3 := Lib.hid (HB2.out.trans hb3); obtain ⟨y0, y1, y2⟩ := (HA1.out.keep HB3.out).cells; clear hh3 hb3)
    | (go_at_call 112; (with_reducible refine (HPB.out _ _ HH3.out).mono ?_); rintro r w4 ⟨rfl, hh4, hb4⟩; have HH4 := Lib.hid hh4; have HB4 := Lib.hid (HB3.out.trans hb4); obtain ⟨u0, u1, u2⟩ := (HA1.out.keep HB4.out).cells; clear hh4 hb4)
    | (go_at_call 112; (with_reducible refine (HPC.out _ _ HH4.out).mono ?_); rintro r w5 ⟨rfl, hh5, hb5⟩; have HH5 := Lib.hid hh5; have HB5 := Lib.hid (HB4.out.trans hb5); have HT5 := Lib.hid (HT1.out.keep HB5.out); have HR5 := Lib.hid (HR1.out.keep HB5.out); obtain ⟨v0, v1, v2⟩ := (HA1.out.keep HB5.out).cells; clear hh5 hb5)
    | (go_at_call 113; (with_reducible refine (HS.out _ _ HT5.out HH5.out HR5.out).mono ?_); rintro r w' ⟨rfl, rfl⟩)
    | (go_at_call 112; (with_reducible refine (HPD.out _ _ HH5.out).mono ?_); rintro r w6 ⟨rfl, hh6, hb6⟩; have HH6 := Lib.hid hh6; have HB6 := Lib.hid (HB5.out.trans hb6); have HR6 := Lib.hid (HR1.out.keep HB6.out); have HX6 := Lib.hid (HA1.out.keep HB6.out).cells.2.2; clear hh6 hb6)
    | (refine wpl_load_fr rfl (.tmp 1) rfl rfl HA.out ?_))
  refine wp_region_held_drew (S := (fun W' => Below w6.heap.size w6 W')) (by kernel_rfl) ((Below.refl _ _).drew) (fun hS => ?_)
  refine rgw 1 ⟨some 26, .fieldAddr 143 (.tmp 1) 2, 0, _, _, none⟩ hS ?_
  refine rgw 2 ⟨some 27, .load 43 (.tmp 26), 43, _, _, none⟩ hS ?_ (hy := by intro w hSw; (try dsimp only at hSw); have z := cell_keep hSw HX6.out; go_simp; try with_reducible rfl)
  refine rg_one 0 ⟨some 25, .call { callee := .value (.func 114), args := #[.tmp 4, .const (.int .i64 0), .const (.int .i64 11)], argTypes := #[162, 3, 3] }, 43, _, _, none⟩ (by kernel_rfl) rfl (fun K hK => ?_)
  go_simp
  (go_at_call 114; (with_reducible refine (HC.out _ _).mono ?_); rintro e w' ⟨rfl, rfl⟩)
  refine hK.out _ _ ?_ (fun hS1 => ?_)
  · (first | exact hN | exact hS)
  clear hK K hS; have hS := hS1; clear hS1
  (try simp only [rgp])
  refine rg_one 3 ⟨some 28, .call { callee := .builtin Builtin.append, args := #[.tmp 25, .tmp 27], argTypes := #[43, 43] }, 43, _, _, none⟩ (by kernel_rfl) rfl (fun K hK => ?_)
  rw [if_pos (by rfl)]; refine wp_app_full (.tmp 25) (.tmp 27) 43 rfl 5 .u8 1 Tryz.underlying43 Tryz.info_u8 w1.heap.size 0 11 z4 rfl (by have := (HH6.out.keep hS).ri 0 11 (by omega); rwa [HZ4.out.1] at this) _ n d rfl (HR6.out.keep hS) (by omega) (by have := HN.out; omega) (by have := HN.out; omega) ?_; intro p9 c9 w9 hr9 hb9; have HR9 := Lib.hid hr9; have hN := hS.trans (hb9.mono hS.size); clear hr9 hb9
  refine hK.out _ _ ?_ (fun hS1 => ?_)
  · (first | exact hN | exact hS)
  clear hK K hS; have hS := hS1; clear hS1
  (try simp only [rgp])
  refine rgw 4 ⟨some 2, .assign (.tmp 28), 43, _, _, none⟩ hS ?_
  refine rgw 5 ⟨some 3, .assign (.const (.int .i64 0)), 32, _, _, none⟩ hS ?_
  refine wpAnyH_done (by kernel_rfl) ?_ _
  go_wp2
  go_ret2
  have h9 := HR9.out
  rw [HZ4.out.2] at h9
  exact ⟨p9, c9, rfl, h9, bch HB1.out (bch HB6.out hS)⟩
end Go.Proofs.YtgegbpnmfpjdmaaGreatDoor
namespace Go.Proofs.YtgegbpnmfpjdmaaGreatDoor
open Go.RowKit
theorem grown_below {w w' : World} {g : Nat} (h : Below w.heap.size w w') : w.grownBy w' (some g) := ⟨h.os, h.tape, h.output, h.size, fun k hk _ => h.block k hk⟩
theorem grown_chain {a b c : World} {g : Nat} (h : a.grownBy b (some g)) (k : Below b.heap.size b c) : a.grownBy c (some g) := grown_trans h (grown_below k)
theorem u32_wrap (x : Int) : IntKind.u32.wrap x = x % 4294967296 := by simp [IntKind.wrap, IntKind.signed, IntKind.bits]
theorem YB.lt {w : World} {g : Nat} {zs : List Int} (h : YB w g zs) : g < w.heap.size := (Array.getElem?_eq_some_iff.1 h).1
def pad8 (zs : List Int) : List Int := splice z832 0 (zs.take 832)
theorem z832_len : z832.length = 832 := List.length_replicate
theorem pad8_len (zs : List Int) : (pad8 zs).length = 832 := by
  unfold pad8
  rw [splice_len _ _ _ (by rw [z832_len, List.length_take]; omega), z832_len]
theorem pad8_full {zs : List Int} (h : zs.length = 832) : pad8 zs = zs := by
  unfold pad8 splice
  rw [List.take_of_length_le (l := zs) (by omega), h, List.drop_eq_nil_of_le (by rw [z832_len]; omega), List.take_zero, List.nil_append, List.append_nil]
theorem PS.over {w w' : World} {base : Nat} {v : Value} {ps : List PC} (h : w.ownsRow base 83 4 v ps.length (pF ps)) {g : Nat} (hg : w.grownBy w' (some g)) (hne : ∀ q, v.ownBlock = some q → q ≠ g) : PS w' v ps :=
  PS.own (own_over h hg (fun q hq e => hne q hq (Option.some.inj e)))
end Go.Proofs.YtgegbpnmfpjdmaaGreatDoor
