/-
  LAYER 8 (disk), the program's own disk, joined: Files, read, create, remove, rename. No condition.
-/
import Derived.Test.YtpnialanmidekaaDkJb
/-
  LAYER 8 (disk), the program's own disk: Files: what is lasting, by rising names. No condition.
-/
namespace Go.Proofs.Ytpnialanmidekaa
open Go.RowKit
/-- what a file is, as it is told -/
def MF.lf (x : MF) : LFile := (x.f.name, x.f.n, x.f.las)
theorem take_chunk (l : List Int) (j : Nat) : l.take (j * 64) ++ chunk l j = l.take ((j + 1) * 64) := by
  unfold chunk
  rw [show (j + 1) * 64 = j * 64 + 64 from by omega, List.take_add]
/-- a file's box -/
def FB (w : World) (g : Nat) (s : ByteArray) (v : Value) : Prop := w.heap[g]? = some (.cells #[.string s, v] 44 (0, 0))
theorem FB.below {w w' : World} {B g : Nat} {s : ByteArray} {v : Value} (h : FB w g s v) (hb : Below B w w') (hg : g < B) : FB w' g s v := by unfold FB at *; rw [hb.block g hg]; exact h
theorem FB.cells {w : World} {g : Nat} {s : ByteArray} {v : Value} (h : FB w g s v) : w.cell? ⟨g, 0, none⟩ = some (.string s) ∧ w.cell? ⟨g, 1, none⟩ = some v := ⟨cell_of_row w g 0 _ _ _ h, cell_of_row w g 1 _ _ _ h⟩
theorem FB.frozen {w : World} {g : Nat} {s : ByteArray} {v : Value} (h : FB w g s v) (j : Nat) : w.frozen? ⟨g, j, none⟩ = false := Joins.unfrozen_of_block h j
theorem FB.set {w : World} {g : Nat} {s : ByteArray} {v : Value} (h : FB w g s v) (u : Value) : FB (w.setCell ⟨g, 1, none⟩ u) g s u := Joins.block_setCell h _
theorem FB.grown {w w' : World} {g : Nat} {s : ByteArray} {v : Value} {row : Option Nat} (h : FB w g s v) (hg : w.grownBy w' row) (hne : some g ≠ row) : FB w' g s v := by
  unfold FB at *; rw [hg.block g (Array.getElem?_eq_some_iff.1 h).1 hne]; exact h
theorem FB.ne_row {w : World} {g base size n : Nat} {e : TypeId} {v : Value} {xs : List Value} (h : w.ownsRow base e size v n xs) (hg : g < base) : some g ≠ v.ownBlock := fun e1 => by have := (h.lt g e1.symm).1; omega
set_option maxRecDepth 20000 in
set_option maxHeartbeats 2000000 in
theorem pfiles_any (w : World) (b bm : Nat) (l : List MF) (d : AD) (h : Dk w b bm l d) (hg : Good d) :
    Calls Try.prog 25 #[ptr ⟨b, 0, none⟩] w fun e w' => ∃ v, e = .returned v ∧ LA w' v d.files ∧ Below w.heap.size w w' := by
  have HD := Lib.hid h
  have HG := Lib.hid hg
  have HN := Lib.hid (h.names hg)
  have hl : l.length ≤ 64 := by have := hg.few; rwa [h.files, List.length_map] at this
  have HL := Lib.hid hl
  have HNM : Hid (d.names = l.map MF.nm) := Lib.hid (by unfold AD.names; rw [h.files, List.map_map]; rfl)
  have HFM : Hid (d.files = l.map MF.lf) := Lib.hid (by unfold AD.files; rw [h.files, List.map_map]; rfl)
  have HGF : Hid (∀ x ∈ l, GF x.f) := Lib.hid fun x hx => hg.file _ (by rw [h.files]; exact List.mem_map_of_mem hx)
  clear h hg
  go_enter Try.func25, Try.ntmps25
  go_wp2_with (first
    | (go_at_call 24; (with_reducible refine (plist_any _ b bm l d HD.out HG.out).mono ?_); rintro e w1 ⟨v1, rfl, hss, hb⟩; obtain ⟨a1, k1, rfl⟩ := hss.slice; rw [HNM.out, List.length_map] at hss ⊢; have HSS := Lib.hid hss; have HB1 := Lib.hid hb; have HD1 := Lib.hid (HD.out.below hb); clear hss hb))
  go_loopw [3, 12] (fun v iv wr => ∃ i : Nat, iv = .int .i64 i ∧ i ≤ l.length ∧ Hid (LO w1.heap.size wr v ((l.take i).map MF.lf)) ∧ Hid (Below w1.heap.size w1 wr)) (fun _ iv _ => l.length - (intOf iv).toNat)
  case atStart => exact ⟨0, rfl, by omega, LO.nil _ _, Below.refl _ _⟩
  case round =>
    obtain ⟨i, rfl, hi, HO, HB⟩ := hrel
    by_cases hlt : (i : Int) < (l.length : Int)
    · obtain ⟨x, hx⟩ := row_some (L := l) (i := i) (by omega)
      have hxm := List.mem_of_getElem? hx
      have HX := Lib.hid hx
      have HXF := Lib.hid (HGF.out x hxm)
      have HSO : Hid (SS wr (.slice a1 l.length k1) (l.map MF.nm)) := Lib.hid (HSS.out.kin (Kin.below HB.out))
      obtain ⟨nb, no, rfl, hcell⟩ := SS.at_ HSO.out i x.f.name (by rw [List.getElem?_map, hx]; rfl)
      have HDO := Lib.hid (HD1.out.below HB.out)
      have HLK := Lib.hid ((look_mem (vl := MF.v) (zv := zS) HN.out hxm).trans (show x.v = .slice (some ⟨x.g, 0, none⟩) x.f.n x.c from rfl))
      have HSZ := Lib.hid (size_name HXF.out.name)
      obtain ⟨n, hn⟩ : ∃ n, x.f.n = n := ⟨_, rfl⟩
      rw [hn] at HLK
      have HXN := Lib.hid hn
      have hn64 : (n : Int) ≤ 64 := by have := HXF.out.n64; omega
      obtain ⟨wo, hwo⟩ : ∃ wo, wo = wr := ⟨_, rfl⟩
      subst hwo
      clear hx hxm hn
      have HD2 := Lib.hid (HDO.out.below (below_alloc wo (.cells #[.string x.f.name, .slice none 0 0] 44)))
      obtain ⟨fl, lf, hb, _⟩ := HD2.out.blk
      obtain ⟨_, c1, _⟩ := hb.cells
      have HF0 : Hid (FB (wo.alloc (.cells #[.string x.f.name, .slice none 0 0] 44)) wo.heap.size x.f.name (.slice none 0 0)) := Lib.hid (heap_alloc_last wo _)
      have HB0 := Lib.hid (below_alloc wo (.cells #[.string x.f.name, .slice none 0 0] 44))
      clear hb
      go_wp2_with (first
        | (refine wpl_look secE rfl (.tmp 21) (.tmp 22) 69 rfl 9 92 Try.underlying9 Try.underlying69 (zeroS _) bm l rfl HD2.out.map x.f.name rfl HSZ.out ?_; rw [show lookV MF.nm MF.v zS l x.f.name = _ from HLK.out]))
      go_loopw [25] (fun jv wr => ∃ (j : Nat) (v : Value), jv = .int .i64 j ∧ j ≤ n ∧ Hid (FB wr wo.heap.size x.f.name v) ∧ Hid (wr.ownsRow (wo.heap.size + 1) 67 64 v j (il .u8 (x.f.las.take (j * 64)))) ∧ Hid (Below wo.heap.size wo wr)) (fun jv _ => n - (intOf jv).toNat)
      case atStart => exact ⟨0, _, rfl, by omega, HF0, Lib.hid ⟨rfl, .inl ⟨rfl, rfl⟩⟩, HB0⟩
      case round =>
        obtain ⟨j, v, rfl, hj, HF, HV, HB2⟩ := hrel
        obtain ⟨va, vc, rfl⟩ := own_slice HV.out
        by_cases hjn : (j : Int) < (n : Int)
        · have HDW := Lib.hid (HDO.out.below HB2.out)
          have hjb : j < n := by omega
          have hsc := secsOf_get x.f j (by rw [HXN.out]; omega)
          obtain ⟨s, hs⟩ : ∃ s : Sc, s = ⟨chunk x.f.las j, chunk x.f.seen j, x.f.ws.getD j false⟩ := ⟨_, rfl⟩
          rw [← hs] at hsc
          have HSC := Lib.hid hsc
          have HSR := Lib.hid (HDW.out.row x (List.mem_of_getElem? HX.out))
          have HSOK := Lib.hid (HSR.out.ok hsc)
          have HLA : Hid (s.la = chunk x.f.las j) := Lib.hid (by rw [hs])
          have HFL := Lib.hid (Array.getElem?_eq_some_iff.1 HF.out).1
          clear hsc hs
          go_wp2_with (first
            | (refine wpl_load_sc rfl (.tmp 27) rfl x.g x.c _ HSR.out j s HSC.out (j * 129) rfl rfl ?_)
            | (refine wpl_store_sc rfl (.tmp 8) (.tmp 28) rfl rfl wr.heap.size rfl s HSOK.out rfl rfl ?_; intro w3 HX3 hb3; have HB3 := Lib.hid hb3.out; have HF3 := Lib.hid (HF.out.below HB3.out HFL.out); have HV3 := Lib.hid (own_stay HV.out HB3.out); clear hb3; obtain ⟨_, f1⟩ := HF3.out.cells)
            | (refine wpl_load_at rfl (.tmp 31) rfl wr.heap.size 0 rfl s.la HX3.out.la ?_)
            | (refine wpl_build_sec rfl (.tmp 32) rfl s.la HSOK.out.la rfl ?_)
            | (at_builtin; refine wpl_app_fs rfl (.tmp 30) (.tmp 33) rfl (wo.heap.size + 1) _ j _ rfl (Lib.hid (HV3.out.alloc _)) _ 1 s.la rfl (Lib.hid (FS.blk (Blk.new w3 s.la HSOK.out.la))) (by omega) wo.heap.size wo (Lib.hid ((chain HB2.out HB3.out).alloc (chain HB2.out HB3.out).size _)) (by omega) (by have h1 := HFL; have h2 := HB3.out.size; rw [alloc_size]; exact Nat.le_trans h1.out (by omega)) ?_; intro v4 w4 HV4 HB4 hG4; obtain ⟨va4, vc4, rfl⟩ := own_slice HV4.out; have HF4 := Lib.hid ((HF3.out.below (below_alloc w3 _) (Array.getElem?_eq_some_iff.1 HF3.out).1).grown hG4.out (FB.ne_row HV3.out (by omega))); clear hG4; obtain ⟨_, f4⟩ := HF4.out.cells; have fz4 := HF4.out.frozen 1))
          have hT : il .u8 (x.f.las.take (j * 64) ++ s.la) = il .u8 (x.f.las.take ((j + 1) * 64)) := by rw [HLA.out, take_chunk]
          rw [hT] at HV4
          have HV5 : Hid ((w4.setCell ⟨wo.heap.size, 1, none⟩ (.slice va4 (j + 1) vc4)).ownsRow (wo.heap.size + 1) 67 64 (.slice va4 (j + 1) vc4) (j + 1) (il .u8 (x.f.las.take ((j + 1) * 64)))) :=
            Lib.hid (own_over HV4.out (grown_setCell _ _ _ _) (fun g hg e => by obtain rfl := Option.some.inj e; have := (HV4.out.lt _ hg).1; omega))
          have HB5 : Hid (Below wo.heap.size wo (w4.setCell ⟨wo.heap.size, 1, none⟩ (.slice va4 (j + 1) vc4))) := Lib.hid (HB4.out.setCell (Nat.le_refl _) _)
          go_roundw
          case rel => exact ⟨j + 1, _, by go_num, by omega, HF4.out.set _, HV5, HB5⟩
          case measure => simp [intOf]; omega
        · obtain rfl : j = n := by omega
          have hT : x.f.las.take (j * 64) = x.f.las := List.take_of_length_le (by rw [HXF.out.las, HXN.out]; exact Nat.le_refl _)
          rw [hT] at HV
          have HOW := Lib.hid (HO.out.keep HB2.out)
          have HLE : Hid (((l.take i).map MF.lf).length ≤ 1000000) := Lib.hid (by
            rw [List.length_map]
            have h1 : (l.take i).length ≤ l.length := List.length_take_le' ..
            have := HL.out; omega)
          have hlf : x.lf = (x.f.name, j, x.f.las) := by unfold MF.lf; rw [HXN.out]
          have HTK : Hid ((l.take (i + 1)).map MF.lf = (l.take i).map MF.lf ++ [x.lf]) := Lib.hid (by
            obtain ⟨hi2, rfl⟩ := List.getElem?_eq_some_iff.1 HX.out
            rw [List.take_succ_eq_append_getElem hi2, List.map_append]; rfl)
          rw [hlf] at HTK
          obtain ⟨f0, f1⟩ := HF.out.cells
          have HS1 := Lib.hid HB.out.size
          have HS2 := Lib.hid HB2.out.size
          clear hT hlf
          go_wp2_with (first
            | (at_builtin; refine wpl_app_lf rfl (.tmp 37) (.tmp 39) rfl w1.heap.size _ _ rfl (Lib.hid (HOW.out.keep (below_alloc wr _))) wr.heap.size (x.f.name, j, x.f.las) _ rfl (heap_alloc_last wr _) (own_stay (own_base HV.out (by have := HS1.out; omega)) (below_alloc wr _)) HLE.out (by have h1 := HS1.out; have h2 := HS2.out; rw [alloc_size]; omega) ?_; intro v6 w6 HO6 HB6; rw [← HTK.out] at HO6; have HB7 := Lib.hid ((HB.out.trans (HB2.out.mono HB.out.size)).trans ((below_alloc wr (.cells #[.string x.f.name, .slice va j vc] 44)).mono (Nat.le_trans HS1.out HS2.out) |>.trans HB6.out)); clear HB6))
          go_roundw
          case rel => exact ⟨i + 1, by go_num, by omega, HO6, HB7⟩
          case measure => simp [intOf]; omega
    · obtain rfl : i = l.length := by omega
      rw [List.take_length] at HO
      go_wp2
      go_ret
      exact ⟨_, rfl, by rw [HFM.out]; exact HO.out.la, HB1.out.trans (HB.out.mono HB1.out.size)⟩
end Go.Proofs.Ytpnialanmidekaa
/-
  LAYER 8 (disk), the program's own disk: what is seen of a file's sectors, read into a row of the call's own. No condition.
-/
namespace Go.Proofs.Ytpnialanmidekaa
open Go.RowKit
/-- what is read of zs, i of n sectors -/
def rdN (zs : List Int) (n i : Nat) : List Int := zs.take (i * 64) ++ List.replicate ((n - i) * 64) 0
theorem rdN_length (zs : List Int) (n i : Nat) (hz : zs.length = n * 64) (hi : i ≤ n) : (rdN zs n i).length = n * 64 := by
  unfold rdN
  rw [List.length_append, List.length_take, List.length_replicate, hz]; omega
theorem rdN_splice (zs : List Int) (n i : Nat) (hz : zs.length = n * 64) (hi : i < n) : splice (rdN zs n i) (i * 64) (chunk zs i) = rdN zs n (i + 1) := by
  have hc : (chunk zs i).length = 64 := chunk_length zs n i hz hi
  refine List.ext_getElem? fun q => ?_
  rw [splice_get _ _ _ (by rw [rdN_length _ _ _ hz (by omega), hc]; have : (i + 1) * 64 ≤ n * 64 := Nat.mul_le_mul_right _ hi; omega), hc]
  have e1 : ∀ k, k ≤ n → (rdN zs n k)[q]? = if q < k * 64 then zs[q]? else if q < n * 64 then some 0 else none := by
    intro k hk
    have hkl : (zs.take (k * 64)).length = k * 64 := by rw [List.length_take, hz]; have : k * 64 ≤ n * 64 := Nat.mul_le_mul_right _ hk; omega
    unfold rdN
    by_cases h1 : q < k * 64
    · rw [if_pos h1, List.getElem?_append_left (by omega), List.getElem?_take_of_lt h1]
    · rw [if_neg h1, List.getElem?_append_right (by omega), hkl, List.getElem?_replicate]
      by_cases h2 : q < n * 64
      · rw [if_pos h2, if_pos (by omega)]
      · rw [if_neg h2, if_neg (by omega)]
  rw [e1 i (by omega), e1 (i + 1) (by omega)]
  by_cases h1 : q < i * 64
  · rw [if_pos h1, if_pos h1, if_pos (by omega)]
  · rw [if_neg h1]
    by_cases h2 : q < i * 64 + 64
    · rw [if_pos h2, if_pos (by omega)]
      unfold chunk
      rw [List.getElem?_take_of_lt (by omega), List.getElem?_drop]; congr 1; omega
    · rw [if_neg h2, if_neg h1, if_neg (show ¬ q < (i + 1) * 64 by omega)]
theorem rdN_all (zs : List Int) (n : Nat) (hz : zs.length = n * 64) : rdN zs n n = zs := by
  unfold rdN; rw [Nat.sub_self, Nat.zero_mul, List.replicate_zero, List.append_nil, List.take_of_length_le (by omega)]
theorem chunk_cut (l : List Int) (a n i : Nat) (hi : i < n) : chunk ((l.drop (a * 64)).take (n * 64)) i = chunk l (a + i) := by
  unfold chunk
  refine List.ext_getElem? fun q => ?_
  by_cases hq : q < 64
  · rw [List.getElem?_take_of_lt hq, List.getElem?_take_of_lt hq, List.getElem?_drop, List.getElem?_drop, List.getElem?_take_of_lt (by have : (i + 1) * 64 ≤ n * 64 := Nat.mul_le_mul_right _ hi; omega), List.getElem?_drop]
    congr 1; omega
  · rw [List.getElem?_take_eq_none (by omega), List.getElem?_take_eq_none (by omega)]
/-- a row of sectors that is being filled -/
def RW (w : World) (g : Nat) (zs : List Int) : Prop := w.heap[g]? = some (.cells (il .u8 zs).toArray 67 (0, 0))
theorem RW.keep {w w' : World} {g : Nat} {zs : List Int} (h : RW w g zs) (hb : Below w.heap.size w w') : RW w' g zs := by
  unfold RW at *; rw [hb.block g (Array.getElem?_eq_some_iff.1 h).1]; exact h
theorem RW.fs {w : World} {g n : Nat} {zs : List Int} (h : RW w g zs) (hz : zs.length = n * 64) (hn : n ≤ 1000000) : FS w (.slice (some ⟨g, 0, none⟩) n n) n zs := by
  refine ⟨_, n, rfl, hz, Nat.le_refl _, by omega, fun h => by simp at h, fun _ => ⟨g, 0, rfl, fun j hj => ?_⟩⟩
  rw [Nat.zero_add, cell_of_row w g j _ _ _ h]
  simpa using il_get .u8 zs j (by omega)
/-- a sector is stored into it -/
theorem wpl_put_row {w : World} {ops : Array Oper} {rest : List Oper} {o : Oper} {a : Act} {Q : Exit → Act → World → Prop} (hgd : o.guard = none) (x y : Operand) (ho : o.op = .store 67 x y)
    (g n i : Nat) (zs ss : List Int) (h : RW w g zs) (hz : zs.length = n * 64) (hi : i < n) (hs : ss.length = 64) (off : Nat) (hoff : i * 64 = off) (hx : a.eval x = .pointer (some ⟨g, off, none⟩)) (hy : a.eval y = .agg (sv ss))
    (hK : ∀ w', Hid (RW w' g (splice zs off ss)) → Hid (w.grownBy w' (some g)) → wpList Try.prog ops Q rest (a.put o.dst undef) w') : wpList Try.prog ops Q (o :: rest) a w := by
  subst hoff
  have hle : (i + 1) * 64 ≤ n * 64 := Nat.mul_le_mul_right _ hi
  refine wpList_store_mid hgd 67 x y ho g (i * 64) (sv ss) hx hy ?_ (sv_info _ hs) (sv_one _) ?_
  · intro j hj
    rw [sv_size, hs] at hj
    refine ⟨?_, Joins.unfrozen_of_block h _⟩
    rw [cell_of_row w g _ _ _ _ h]
    have := il_get .u8 zs (i * 64 + j) (by omega)
    simp [this]
  · have e : (sv ss).toList = il .u8 ss := by simp [sv]
    rw [e]
    refine hK _ ?_ (grown_setCells _ _ _ _)
    unfold RW
    rw [← il_splice]
    exact heap_setCells g _ _ _ _ _ _ (by rw [il_length, il_length, hs, hz]; omega) h
/-- a row that was just made, as it lies -/
theorem row_of64 {w : World} {B g : Nat} {e : TypeId} {n : Nat} {xs : List Value} (h : w.ownsRow B e 64 (.slice (some ⟨g, 0, none⟩) n n) n xs) : w.heap[g]? = some (.cells xs.toArray e (0, 0)) := by
  rcases h.2 with ⟨h', _⟩ | ⟨g', cap', cur, h', _, hg, _, _, hcs, htake⟩
  · simp at h'
  · simp only [Value.slice.injEq, Option.some.injEq, Addr.mk.injEq, and_true, true_and] at h'
    obtain ⟨rfl, rfl⟩ := h'
    rw [hg, ← htake, List.take_of_length_le (by simp [hcs])]
/-- what a read looks up -/
theorem Jd.look {w w1 : World} {b bm : Nat} {l : List MF} {d : AD} {s t : ByteArray} {x n : Int} {v : Value} (h : Jd w b bm l d s t x n v w1) :
    w1.cell? ⟨w.heap.size, 0, none⟩ = some (ptr ⟨b, 0, none⟩) ∧ w1.cell? ⟨w.heap.size, 1, none⟩ = some (.string s) ∧ w1.cell? ⟨w.heap.size, 3, none⟩ = some (.int .i64 x) ∧ w1.cell? ⟨w.heap.size, 4, none⟩ = some (.int .i64 n) ∧ w1.cell? ⟨b, 1, none⟩ = some (.map (some bm)) ∧ Jd w b bm l d s t x n v w1 := by
  obtain ⟨c0, c1, _, c3, c4, _⟩ := h.jb.cells
  obtain ⟨fl, lf, hb, _⟩ := h.dk.blk
  obtain ⟨_, e1, _⟩ := hb.cells
  exact ⟨c0, c1, c3, c4, e1, h⟩
set_option maxRecDepth 20000 in
set_option maxHeartbeats 2000000 in
theorem pread_any (w : World) (b bm : Nat) (l : List MF) (d : AD) (s t : ByteArray) (p n : Nat) (va : Option Addr) (vm vc : Nat) (h : Dk w b bm l d) (hg : Good d) (hs : s.size ≤ 281474976710656) (hh : d.has s) (hp : p + n ≤ (d.get s).n) :
    Calls Try.prog 54 #[jobV ⟨b, 0, none⟩ s t (p : Int) (n : Int) (.slice va vm vc)] w fun e w' => ∃ v, e = .returned v ∧ FS w' v n (((d.get s).seen.drop (p * 64)).take (n * 64)) ∧ Below w.heap.size w w' := by
  have HJ := Lib.hid (Jd.start h s t (p : Int) (n : Int) (.slice va vm vc))
  have HD := Lib.hid h
  obtain ⟨x, hx, hf, hxm, hl⟩ := h.has s hh
  have HXF := hg.file _ (get_mem hh)
  rw [← hf] at hp HXF ⊢
  have HX := Lib.hid hxm
  have HLK := Lib.hid (hl.trans (show x.v = .slice (some ⟨x.g, 0, none⟩) x.f.n x.c from rfl))
  have HZ := Lib.hid (size_le hs)
  obtain ⟨zs, hzs⟩ : ∃ zs, (x.f.seen.drop (p * 64)).take (n * 64) = zs := ⟨_, rfl⟩
  have HZS := Lib.hid hzs
  have HZL : Hid (zs.length = n * 64) := Lib.hid (by
    rw [← hzs, List.length_take, List.length_drop, HXF.seen]
    have : (p + n) * 64 ≤ x.f.n * 64 := Nat.mul_le_mul_right _ hp
    omega)
  obtain ⟨k, hk⟩ : ∃ k, x.f.n = k := ⟨_, rfl⟩
  have HK := Lib.hid hk
  have hk64 : k ≤ 64 := by have := HXF.n64; omega
  rw [hk] at HLK hp
  have hn64 : (n : Int) ≤ 64 := by omega
  have hp64 : (p : Int) ≤ 64 := by omega
  rw [hzs]
  obtain ⟨q, hq⟩ : ∃ q, p + n = q := ⟨_, rfl⟩
  have hw1 : IntKind.i64.wrap ((p : Int) + (n : Int)) = (q : Int) := by rw [IntWalk.i64_in _ (by omega)]; omega
  obtain ⟨c0, c1, c2, c3, c4, c5⟩ := HJ.out.jb.cells
  obtain ⟨i0, hi0, hz0, hz1, hz2⟩ := info_parts sec_parts
  have HI := Lib.hid hi0
  have HZ0 := Lib.hid hz0
  have HZ1 := Lib.hid hz1
  have hby : i0.bytes * n ≤ 281474976710656 := by rw [hz2]; omega
  clear h hg hs hh hx hf hxm hl hzs hk hi0 hz0 hz1 hz2
  go_enter Try.func54, Try.ntmps54
  go_wp2_with (first
    | (at_make; refine wpList_make_full _ rfl (.tmp 7) (.tmp 7) 42 rfl w.heap.size 67 i0 (.agg (sv z64)) 64 Try.underlying42 HI.out HZ0.out HZ1.out .i64 .i64 n n n rfl rfl rfl rfl hby (by unfold maxLen; omega) (Nat.le_of_lt HJ.out.size) ?_; intro w1 hown hgrow; simp only [alloc_size] at hown ⊢; rw [made_secs] at hown; have HR1 : Hid (RW w1 (w.heap.size + 1) (rdN zs n 0)) := Lib.hid (by unfold rdN; rw [Nat.zero_mul, List.take_zero, List.nil_append, Nat.sub_zero]; exact row_of64 hown); have HJ1 := Lib.hid (HJ.out.next ((Below.refl _ _).grown hgrow (Nat.le_refl _) (by simp))); clear hown hgrow))
  have hkc : k ≤ x.c := by
    obtain ⟨cur, _, _, h3, _⟩ := HJ1.out.dk.row x HX.out
    rwa [secsOf_length, HK.out] at h3
  have hqc : (q : Int) ≤ (x.c : Int) := by omega
  have hpq : p ≤ q := by omega
  have hq0 : (0 : Int) ≤ (q : Int) := by omega
  by_cases hcp : x.c = p
  · skip
    have hn0 : n = 0 := by omega
    have hqp : q = p := by omega
    refine wp_region_held_drew (S := (fun w' => w'.cell? ⟨w.heap.size, 0, none⟩ = some (ptr ⟨b, 0, none⟩) ∧ w'.cell? ⟨w.heap.size, 1, none⟩ = some (.string s) ∧ w'.cell? ⟨w.heap.size, 3, none⟩ = some (.int .i64 (p : Int)) ∧ w'.cell? ⟨w.heap.size, 4, none⟩ = some (.int .i64 (n : Int)) ∧ w'.cell? ⟨b, 1, none⟩ = some (.map (some bm)) ∧ Jd w b bm l d s t p n (.slice va vm vc) w')) (by kernel_rfl) (Jd.look HJ1.out.drew) (fun hS => ?_)
    refine wpAnyH_take (i := 0) (oi := ({ dst := some 9, op := Op.fieldAddr 84 (Operand.tmp 1) 0, type := 0, pos := "job.go:95", after := #[], guard := none } : Oper)) (v := ?_) rfl (by kernel_rfl) (by kernel_rfl) (by kernel_rfl) (fun _ _ _ h => h) (Or.inl ⟨by rfl, ?_⟩) hS ?_
    rotate_left
    · (intro w hSw; (try dsimp only at hSw); go_simp; try with_reducible rfl)
    (try simp only [Act.put, List.setIfInBounds_toArray, List.set_cons_zero, List.set_cons_succ])
    refine wpAnyH_take (i := 1) (oi := ({ dst := some 10, op := Op.load 25 (Operand.tmp 9), type := 25, pos := "job.go:95", after := #[{ on := 0, ground := Ground.data }], guard := none } : Oper)) (v := ?_) rfl (by kernel_rfl) (by kernel_rfl) (by kernel_rfl) (fun _ _ _ h => h) (Or.inl ⟨by rfl, ?_⟩) hS ?_
    rotate_left
    · (intro w hSw; (try dsimp only at hSw); go_simp; try with_reducible rfl)
    (try simp only [Act.put, List.setIfInBounds_toArray, List.set_cons_zero, List.set_cons_succ])
    refine wpAnyH_take (i := 2) (oi := ({ dst := some 11, op := Op.nilCheck (Operand.tmp 10), type := 0, pos := "job.go:95", after := #[{ on := 1, ground := Ground.data }], guard := none } : Oper)) (v := ?_) rfl (by kernel_rfl) (by kernel_rfl) (by kernel_rfl) (fun _ _ _ h => h) (Or.inl ⟨by rfl, ?_⟩) hS ?_
    rotate_left
    · (intro w hSw; (try dsimp only at hSw); go_simp; try with_reducible rfl)
    (try simp only [Act.put, List.setIfInBounds_toArray, List.set_cons_zero, List.set_cons_succ])
    refine wpAnyH_take (i := 3) (oi := ({ dst := some 12, op := Op.fieldAddr 71 (Operand.tmp 11) 1, type := 0, pos := "job.go:95", after := #[{ on := 2, ground := Ground.data }], guard := none } : Oper)) (v := ?_) rfl (by kernel_rfl) (by kernel_rfl) (by kernel_rfl) (fun _ _ _ h => h) (Or.inl ⟨by rfl, ?_⟩) hS ?_
    rotate_left
    · (intro w hSw; (try dsimp only at hSw); go_simp; try with_reducible rfl)
    (try simp only [Act.put, List.setIfInBounds_toArray, List.set_cons_zero, List.set_cons_succ])
    refine wpAnyH_take (i := 4) (oi := ({ dst := some 13, op := Op.load 69 (Operand.tmp 12), type := 69, pos := "job.go:95", after := #[{ on := 3, ground := Ground.data }], guard := none } : Oper)) (v := ?_) rfl (by kernel_rfl) (by kernel_rfl) (by kernel_rfl) (fun _ _ _ h => h) (Or.inl ⟨by rfl, ?_⟩) hS ?_
    rotate_left
    · (intro w hSw; (try dsimp only at hSw); go_simp; try with_reducible rfl)
    (try simp only [Act.put, List.setIfInBounds_toArray, List.set_cons_zero, List.set_cons_succ])
    refine wpAnyH_take (i := 5) (oi := ({ dst := some 14, op := Op.fieldAddr 84 (Operand.tmp 1) 1, type := 0, pos := "job.go:95", after := #[], guard := none } : Oper)) (v := ?_) rfl (by kernel_rfl) (by kernel_rfl) (by kernel_rfl) (fun _ _ _ h => h) (Or.inl ⟨by rfl, ?_⟩) hS ?_
    rotate_left
    · (intro w hSw; (try dsimp only at hSw); go_simp; try with_reducible rfl)
    (try simp only [Act.put, List.setIfInBounds_toArray, List.set_cons_zero, List.set_cons_succ])
    refine wpAnyH_take (i := 6) (oi := ({ dst := some 15, op := Op.load 9 (Operand.tmp 14), type := 9, pos := "job.go:95", after := #[{ on := 5, ground := Ground.data }], guard := none } : Oper)) (v := ?_) rfl (by kernel_rfl) (by kernel_rfl) (by kernel_rfl) (fun _ _ _ h => h) (Or.inl ⟨by rfl, ?_⟩) hS ?_
    rotate_left
    · (intro w hSw; (try dsimp only at hSw); go_simp; try with_reducible rfl)
    (try simp only [Act.put, List.setIfInBounds_toArray, List.set_cons_zero, List.set_cons_succ])
    refine wpAnyH_take (i := 7) (oi := ({ dst := some 16, op := Op.lookup 69 (Operand.tmp 13) (Operand.tmp 15) false, type := 92, pos := "job.go:95", after := #[{ on := 4, ground := Ground.data }, { on := 6, ground := Ground.data }], guard := none } : Oper)) (v := .slice (some ⟨x.g, 0, none⟩) k x.c) rfl (by kernel_rfl) (by kernel_rfl) (by kernel_rfl) (fun _ _ _ h => h) (Or.inl ⟨by rfl, ?_⟩) hS ?_
    · (intro w hSw; (try dsimp only at hSw); rw [← HLK.out]; exact exec_look secE (.tmp 13) (.tmp 15) 69 rfl 9 92 Try.underlying9 Try.underlying69 (zeroS _) bm l rfl hSw.2.2.2.2.2.dk.map s rfl HZ.out)
    (try simp only [Act.put, List.setIfInBounds_toArray, List.set_cons_zero, List.set_cons_succ])
    refine wpAnyH_take (i := 8) (oi := ({ dst := some 17, op := Op.fieldAddr 84 (Operand.tmp 1) 3, type := 0, pos := "job.go:95", after := #[], guard := none } : Oper)) (v := ?_) rfl (by kernel_rfl) (by kernel_rfl) (by kernel_rfl) (fun _ _ _ h => h) (Or.inl ⟨by rfl, ?_⟩) hS ?_
    rotate_left
    · (intro w hSw; (try dsimp only at hSw); go_simp; try with_reducible rfl)
    (try simp only [Act.put, List.setIfInBounds_toArray, List.set_cons_zero, List.set_cons_succ])
    refine wpAnyH_take (i := 9) (oi := ({ dst := some 18, op := Op.load 3 (Operand.tmp 17), type := 3, pos := "job.go:95", after := #[{ on := 8, ground := Ground.data }], guard := none } : Oper)) (v := ?_) rfl (by kernel_rfl) (by kernel_rfl) (by kernel_rfl) (fun _ _ _ h => h) (Or.inl ⟨by rfl, ?_⟩) hS ?_
    rotate_left
    · (intro w hSw; (try dsimp only at hSw); go_simp; try with_reducible rfl)
    (try simp only [Act.put, List.setIfInBounds_toArray, List.set_cons_zero, List.set_cons_succ])
    refine wpAnyH_take (i := 10) (oi := ({ dst := some 19, op := Op.fieldAddr 84 (Operand.tmp 1) 3, type := 0, pos := "job.go:95", after := #[], guard := none } : Oper)) (v := ?_) rfl (by kernel_rfl) (by kernel_rfl) (by kernel_rfl) (fun _ _ _ h => h) (Or.inl ⟨by rfl, ?_⟩) hS ?_
    rotate_left
    · (intro w hSw; (try dsimp only at hSw); go_simp; try with_reducible rfl)
    (try simp only [Act.put, List.setIfInBounds_toArray, List.set_cons_zero, List.set_cons_succ])
    refine wpAnyH_take (i := 11) (oi := ({ dst := some 20, op := Op.load 3 (Operand.tmp 19), type := 3, pos := "job.go:95", after := #[{ on := 10, ground := Ground.data }], guard := none } : Oper)) (v := ?_) rfl (by kernel_rfl) (by kernel_rfl) (by kernel_rfl) (fun _ _ _ h => h) (Or.inl ⟨by rfl, ?_⟩) hS ?_
    rotate_left
    · (intro w hSw; (try dsimp only at hSw); go_simp; try with_reducible rfl)
    (try simp only [Act.put, List.setIfInBounds_toArray, List.set_cons_zero, List.set_cons_succ])
    refine wpAnyH_take (i := 12) (oi := ({ dst := some 21, op := Op.fieldAddr 84 (Operand.tmp 1) 4, type := 0, pos := "job.go:95", after := #[], guard := none } : Oper)) (v := ?_) rfl (by kernel_rfl) (by kernel_rfl) (by kernel_rfl) (fun _ _ _ h => h) (Or.inl ⟨by rfl, ?_⟩) hS ?_
    rotate_left
    · (intro w hSw; (try dsimp only at hSw); go_simp; try with_reducible rfl)
    (try simp only [Act.put, List.setIfInBounds_toArray, List.set_cons_zero, List.set_cons_succ])
    refine wpAnyH_take (i := 13) (oi := ({ dst := some 22, op := Op.load 3 (Operand.tmp 21), type := 3, pos := "job.go:95", after := #[{ on := 12, ground := Ground.data }], guard := none } : Oper)) (v := ?_) rfl (by kernel_rfl) (by kernel_rfl) (by kernel_rfl) (fun _ _ _ h => h) (Or.inl ⟨by rfl, ?_⟩) hS ?_
    rotate_left
    · (intro w hSw; (try dsimp only at hSw); go_simp; try with_reducible rfl)
    (try simp only [Act.put, List.setIfInBounds_toArray, List.set_cons_zero, List.set_cons_succ])
    refine wpAnyH_take (i := 14) (oi := ({ dst := some 23, op := Op.binOp BinOp.add 3 (Operand.tmp 20) (Operand.tmp 22) 3, type := 3, pos := "job.go:95", after := #[{ on := 11, ground := Ground.data }, { on := 13, ground := Ground.data }], guard := none } : Oper)) (v := .int .i64 (q : Int)) rfl (by kernel_rfl) (by kernel_rfl) (by kernel_rfl) (fun _ _ _ h => h) (Or.inl ⟨by rfl, ?_⟩) hS ?_
    · (intro w hSw; (try dsimp only at hSw); go_simp; exact IntWalk.i64_in _ (by omega))
    (try simp only [Act.put, List.setIfInBounds_toArray, List.set_cons_zero, List.set_cons_succ])
    refine wpAnyH_take (i := 15) (oi := ({ dst := some 24, op := Op.slice 92 (Operand.tmp 16) (some (Operand.tmp 18)) (some (Operand.tmp 23)) none, type := 92, pos := "job.go:95", after := #[{ on := 7, ground := Ground.data }, { on := 9, ground := Ground.data }, { on := 14, ground := Ground.data }], guard := none } : Oper)) (v := ?_) rfl (by kernel_rfl) (by kernel_rfl) (by kernel_rfl) (fun _ _ _ h => h) (Or.inl ⟨by rfl, ?_⟩) hS ?_
    rotate_left
    · (intro w hSw; (try dsimp only at hSw); go_simp; try with_reducible rfl)
    (try simp only [Act.put, List.setIfInBounds_toArray, List.set_cons_zero, List.set_cons_succ])
    refine wpAnyH_take (i := 16) (oi := ({ dst := some 25, op := Op.call { callee := Callee.builtin Builtin.len, args := #[Operand.tmp 24], argTypes := #[92] }, type := 3, pos := "job.go:95", after := #[{ on := 15, ground := Ground.data }], guard := none } : Oper)) (v := ?_) rfl (by kernel_rfl) (by kernel_rfl) (by kernel_rfl) (fun _ _ _ h => h) (Or.inl ⟨by rfl, ?_⟩) hS ?_
    rotate_left
    · (intro w hSw; (try dsimp only at hSw); go_simp; try with_reducible rfl)
    (try simp only [Act.put, List.setIfInBounds_toArray, List.set_cons_zero, List.set_cons_succ])
    refine wpAnyH_take (i := 17) (oi := ({ dst := some 26, op := Op.move (Operand.const (Value.int IntKind.i64 0)), type := 3, pos := "job.go:95", after := #[], guard := none } : Oper)) (v := ?_) rfl (by kernel_rfl) (by kernel_rfl) (by kernel_rfl) (fun _ _ _ h => h) (Or.inl ⟨by rfl, ?_⟩) hS ?_
    rotate_left
    · (intro w hSw; (try dsimp only at hSw); go_simp; try with_reducible rfl)
    (try simp only [Act.put, List.setIfInBounds_toArray, List.set_cons_zero, List.set_cons_succ])
    refine wpAnyH_done (by kernel_rfl) ?_ _
    have HB1 := Lib.hid hS.2.2.2.2.2.below
    have HR2 : Hid (RW w1.drew (w.heap.size + 1) zs) := by
      have h1 := HR1
      rw [hn0] at h1
      have h2 := HZL.out
      rw [hn0, Nat.zero_mul] at h2
      rw [List.length_eq_zero_iff.1 h2] at h1 ⊢
      exact h1
    clear hS
    go_wp2
    go_loopw [26] (fun iv wr => iv = .int .i64 0 ∧ Hid (RW wr (w.heap.size + 1) zs) ∧ Hid (Below w.heap.size w wr)) (fun _ _ => 0)
    case atStart => exact ⟨rfl, HR2, HB1⟩
    case round =>
      obtain ⟨rfl, HR, HB⟩ := hrel
      go_wp2
      go_ret
      exact ⟨_, rfl, HR.out.fs HZL.out (by omega), HB.out⟩
  · skip
    refine wp_region_held_drew (S := (fun w' => w'.cell? ⟨w.heap.size, 0, none⟩ = some (ptr ⟨b, 0, none⟩) ∧ w'.cell? ⟨w.heap.size, 1, none⟩ = some (.string s) ∧ w'.cell? ⟨w.heap.size, 3, none⟩ = some (.int .i64 (p : Int)) ∧ w'.cell? ⟨w.heap.size, 4, none⟩ = some (.int .i64 (n : Int)) ∧ w'.cell? ⟨b, 1, none⟩ = some (.map (some bm)) ∧ Jd w b bm l d s t p n (.slice va vm vc) w')) (by kernel_rfl) (Jd.look HJ1.out.drew) (fun hS => ?_)
    refine wpAnyH_take (i := 0) (oi := ({ dst := some 9, op := Op.fieldAddr 84 (Operand.tmp 1) 0, type := 0, pos := "job.go:95", after := #[], guard := none } : Oper)) (v := ?_) rfl (by kernel_rfl) (by kernel_rfl) (by kernel_rfl) (fun _ _ _ h => h) (Or.inl ⟨by rfl, ?_⟩) hS ?_
    rotate_left
    · (intro w hSw; (try dsimp only at hSw); go_simp; try with_reducible rfl)
    (try simp only [Act.put, List.setIfInBounds_toArray, List.set_cons_zero, List.set_cons_succ])
    refine wpAnyH_take (i := 1) (oi := ({ dst := some 10, op := Op.load 25 (Operand.tmp 9), type := 25, pos := "job.go:95", after := #[{ on := 0, ground := Ground.data }], guard := none } : Oper)) (v := ?_) rfl (by kernel_rfl) (by kernel_rfl) (by kernel_rfl) (fun _ _ _ h => h) (Or.inl ⟨by rfl, ?_⟩) hS ?_
    rotate_left
    · (intro w hSw; (try dsimp only at hSw); go_simp; try with_reducible rfl)
    (try simp only [Act.put, List.setIfInBounds_toArray, List.set_cons_zero, List.set_cons_succ])
    refine wpAnyH_take (i := 2) (oi := ({ dst := some 11, op := Op.nilCheck (Operand.tmp 10), type := 0, pos := "job.go:95", after := #[{ on := 1, ground := Ground.data }], guard := none } : Oper)) (v := ?_) rfl (by kernel_rfl) (by kernel_rfl) (by kernel_rfl) (fun _ _ _ h => h) (Or.inl ⟨by rfl, ?_⟩) hS ?_
    rotate_left
    · (intro w hSw; (try dsimp only at hSw); go_simp; try with_reducible rfl)
    (try simp only [Act.put, List.setIfInBounds_toArray, List.set_cons_zero, List.set_cons_succ])
    refine wpAnyH_take (i := 3) (oi := ({ dst := some 12, op := Op.fieldAddr 71 (Operand.tmp 11) 1, type := 0, pos := "job.go:95", after := #[{ on := 2, ground := Ground.data }], guard := none } : Oper)) (v := ?_) rfl (by kernel_rfl) (by kernel_rfl) (by kernel_rfl) (fun _ _ _ h => h) (Or.inl ⟨by rfl, ?_⟩) hS ?_
    rotate_left
    · (intro w hSw; (try dsimp only at hSw); go_simp; try with_reducible rfl)
    (try simp only [Act.put, List.setIfInBounds_toArray, List.set_cons_zero, List.set_cons_succ])
    refine wpAnyH_take (i := 4) (oi := ({ dst := some 13, op := Op.load 69 (Operand.tmp 12), type := 69, pos := "job.go:95", after := #[{ on := 3, ground := Ground.data }], guard := none } : Oper)) (v := ?_) rfl (by kernel_rfl) (by kernel_rfl) (by kernel_rfl) (fun _ _ _ h => h) (Or.inl ⟨by rfl, ?_⟩) hS ?_
    rotate_left
    · (intro w hSw; (try dsimp only at hSw); go_simp; try with_reducible rfl)
    (try simp only [Act.put, List.setIfInBounds_toArray, List.set_cons_zero, List.set_cons_succ])
    refine wpAnyH_take (i := 5) (oi := ({ dst := some 14, op := Op.fieldAddr 84 (Operand.tmp 1) 1, type := 0, pos := "job.go:95", after := #[], guard := none } : Oper)) (v := ?_) rfl (by kernel_rfl) (by kernel_rfl) (by kernel_rfl) (fun _ _ _ h => h) (Or.inl ⟨by rfl, ?_⟩) hS ?_
    rotate_left
    · (intro w hSw; (try dsimp only at hSw); go_simp; try with_reducible rfl)
    (try simp only [Act.put, List.setIfInBounds_toArray, List.set_cons_zero, List.set_cons_succ])
    refine wpAnyH_take (i := 6) (oi := ({ dst := some 15, op := Op.load 9 (Operand.tmp 14), type := 9, pos := "job.go:95", after := #[{ on := 5, ground := Ground.data }], guard := none } : Oper)) (v := ?_) rfl (by kernel_rfl) (by kernel_rfl) (by kernel_rfl) (fun _ _ _ h => h) (Or.inl ⟨by rfl, ?_⟩) hS ?_
    rotate_left
    · (intro w hSw; (try dsimp only at hSw); go_simp; try with_reducible rfl)
    (try simp only [Act.put, List.setIfInBounds_toArray, List.set_cons_zero, List.set_cons_succ])
    refine wpAnyH_take (i := 7) (oi := ({ dst := some 16, op := Op.lookup 69 (Operand.tmp 13) (Operand.tmp 15) false, type := 92, pos := "job.go:95", after := #[{ on := 4, ground := Ground.data }, { on := 6, ground := Ground.data }], guard := none } : Oper)) (v := .slice (some ⟨x.g, 0, none⟩) k x.c) rfl (by kernel_rfl) (by kernel_rfl) (by kernel_rfl) (fun _ _ _ h => h) (Or.inl ⟨by rfl, ?_⟩) hS ?_
    · (intro w hSw; (try dsimp only at hSw); rw [← HLK.out]; exact exec_look secE (.tmp 13) (.tmp 15) 69 rfl 9 92 Try.underlying9 Try.underlying69 (zeroS _) bm l rfl hSw.2.2.2.2.2.dk.map s rfl HZ.out)
    (try simp only [Act.put, List.setIfInBounds_toArray, List.set_cons_zero, List.set_cons_succ])
    refine wpAnyH_take (i := 8) (oi := ({ dst := some 17, op := Op.fieldAddr 84 (Operand.tmp 1) 3, type := 0, pos := "job.go:95", after := #[], guard := none } : Oper)) (v := ?_) rfl (by kernel_rfl) (by kernel_rfl) (by kernel_rfl) (fun _ _ _ h => h) (Or.inl ⟨by rfl, ?_⟩) hS ?_
    rotate_left
    · (intro w hSw; (try dsimp only at hSw); go_simp; try with_reducible rfl)
    (try simp only [Act.put, List.setIfInBounds_toArray, List.set_cons_zero, List.set_cons_succ])
    refine wpAnyH_take (i := 9) (oi := ({ dst := some 18, op := Op.load 3 (Operand.tmp 17), type := 3, pos := "job.go:95", after := #[{ on := 8, ground := Ground.data }], guard := none } : Oper)) (v := ?_) rfl (by kernel_rfl) (by kernel_rfl) (by kernel_rfl) (fun _ _ _ h => h) (Or.inl ⟨by rfl, ?_⟩) hS ?_
    rotate_left
    · (intro w hSw; (try dsimp only at hSw); go_simp; try with_reducible rfl)
    (try simp only [Act.put, List.setIfInBounds_toArray, List.set_cons_zero, List.set_cons_succ])
    refine wpAnyH_take (i := 10) (oi := ({ dst := some 19, op := Op.fieldAddr 84 (Operand.tmp 1) 3, type := 0, pos := "job.go:95", after := #[], guard := none } : Oper)) (v := ?_) rfl (by kernel_rfl) (by kernel_rfl) (by kernel_rfl) (fun _ _ _ h => h) (Or.inl ⟨by rfl, ?_⟩) hS ?_
    rotate_left
    · (intro w hSw; (try dsimp only at hSw); go_simp; try with_reducible rfl)
    (try simp only [Act.put, List.setIfInBounds_toArray, List.set_cons_zero, List.set_cons_succ])
    refine wpAnyH_take (i := 11) (oi := ({ dst := some 20, op := Op.load 3 (Operand.tmp 19), type := 3, pos := "job.go:95", after := #[{ on := 10, ground := Ground.data }], guard := none } : Oper)) (v := ?_) rfl (by kernel_rfl) (by kernel_rfl) (by kernel_rfl) (fun _ _ _ h => h) (Or.inl ⟨by rfl, ?_⟩) hS ?_
    rotate_left
    · (intro w hSw; (try dsimp only at hSw); go_simp; try with_reducible rfl)
    (try simp only [Act.put, List.setIfInBounds_toArray, List.set_cons_zero, List.set_cons_succ])
    refine wpAnyH_take (i := 12) (oi := ({ dst := some 21, op := Op.fieldAddr 84 (Operand.tmp 1) 4, type := 0, pos := "job.go:95", after := #[], guard := none } : Oper)) (v := ?_) rfl (by kernel_rfl) (by kernel_rfl) (by kernel_rfl) (fun _ _ _ h => h) (Or.inl ⟨by rfl, ?_⟩) hS ?_
    rotate_left
    · (intro w hSw; (try dsimp only at hSw); go_simp; try with_reducible rfl)
    (try simp only [Act.put, List.setIfInBounds_toArray, List.set_cons_zero, List.set_cons_succ])
    refine wpAnyH_take (i := 13) (oi := ({ dst := some 22, op := Op.load 3 (Operand.tmp 21), type := 3, pos := "job.go:95", after := #[{ on := 12, ground := Ground.data }], guard := none } : Oper)) (v := ?_) rfl (by kernel_rfl) (by kernel_rfl) (by kernel_rfl) (fun _ _ _ h => h) (Or.inl ⟨by rfl, ?_⟩) hS ?_
    rotate_left
    · (intro w hSw; (try dsimp only at hSw); go_simp; try with_reducible rfl)
    (try simp only [Act.put, List.setIfInBounds_toArray, List.set_cons_zero, List.set_cons_succ])
    refine wpAnyH_take (i := 14) (oi := ({ dst := some 23, op := Op.binOp BinOp.add 3 (Operand.tmp 20) (Operand.tmp 22) 3, type := 3, pos := "job.go:95", after := #[{ on := 11, ground := Ground.data }, { on := 13, ground := Ground.data }], guard := none } : Oper)) (v := .int .i64 (q : Int)) rfl (by kernel_rfl) (by kernel_rfl) (by kernel_rfl) (fun _ _ _ h => h) (Or.inl ⟨by rfl, ?_⟩) hS ?_
    · (intro w hSw; (try dsimp only at hSw); go_simp)
    (try simp only [Act.put, List.setIfInBounds_toArray, List.set_cons_zero, List.set_cons_succ])
    refine wpAnyH_take (i := 15) (oi := ({ dst := some 24, op := Op.slice 92 (Operand.tmp 16) (some (Operand.tmp 18)) (some (Operand.tmp 23)) none, type := 92, pos := "job.go:95", after := #[{ on := 7, ground := Ground.data }, { on := 9, ground := Ground.data }, { on := 14, ground := Ground.data }], guard := none } : Oper)) (v := ?_) rfl (by kernel_rfl) (by kernel_rfl) (by kernel_rfl) (fun _ _ _ h => h) (Or.inl ⟨by rfl, ?_⟩) hS ?_
    rotate_left
    · (intro w hSw; (try dsimp only at hSw); go_simp; try with_reducible rfl)
    (try simp only [Act.put, List.setIfInBounds_toArray, List.set_cons_zero, List.set_cons_succ])
    refine wpAnyH_take (i := 16) (oi := ({ dst := some 25, op := Op.call { callee := Callee.builtin Builtin.len, args := #[Operand.tmp 24], argTypes := #[92] }, type := 3, pos := "job.go:95", after := #[{ on := 15, ground := Ground.data }], guard := none } : Oper)) (v := ?_) rfl (by kernel_rfl) (by kernel_rfl) (by kernel_rfl) (fun _ _ _ h => h) (Or.inl ⟨by rfl, ?_⟩) hS ?_
    rotate_left
    · (intro w hSw; (try dsimp only at hSw); go_simp; try with_reducible rfl)
    (try simp only [Act.put, List.setIfInBounds_toArray, List.set_cons_zero, List.set_cons_succ])
    refine wpAnyH_take (i := 17) (oi := ({ dst := some 26, op := Op.move (Operand.const (Value.int IntKind.i64 0)), type := 3, pos := "job.go:95", after := #[], guard := none } : Oper)) (v := ?_) rfl (by kernel_rfl) (by kernel_rfl) (by kernel_rfl) (fun _ _ _ h => h) (Or.inl ⟨by rfl, ?_⟩) hS ?_
    rotate_left
    · (intro w hSw; (try dsimp only at hSw); go_simp; try with_reducible rfl)
    (try simp only [Act.put, List.setIfInBounds_toArray, List.set_cons_zero, List.set_cons_succ])
    refine wpAnyH_done (by kernel_rfl) ?_ _
    have HB1 := Lib.hid hS.2.2.2.2.2.below
    have hqn : q - p = n := by omega
    rw [hqn]
    have HSZ1 := Lib.hid (show w.heap.size + 1 < w1.drew.heap.size from (Array.getElem?_eq_some_iff.1 HR1.out).1)
    have HR2 : Hid (RW w1.drew (w.heap.size + 1) (rdN zs n 0)) := HR1
    have HNP := Lib.hid hp
    clear hS hqn
    go_wp2
    go_loopw [26] (fun iv wr => ∃ i : Nat, iv = .int .i64 i ∧ i ≤ n ∧ Hid (RW wr (w.heap.size + 1) (rdN zs n i)) ∧ Hid (Below w.heap.size w wr)) (fun iv _ => n - (intOf iv).toNat)
    case atStart => exact ⟨0, rfl, by omega, HR2, HB1⟩
    case round =>
      obtain ⟨i, rfl, hi, HR, HB⟩ := hrel
      by_cases hlt : (i : Int) < (n : Int)
      · have hin : i < n := by omega
        have HDW := Lib.hid (HD.out.below HB.out)
        have HSR := Lib.hid (HDW.out.row x HX.out)
        have hsc := secsOf_get x.f (p + i) (by rw [HK.out]; have := HNP.out; omega)
        obtain ⟨sc, hs⟩ : ∃ sc : Sc, sc = ⟨chunk x.f.las (p + i), chunk x.f.seen (p + i), x.f.ws.getD (p + i) false⟩ := ⟨_, rfl⟩
        rw [← hs] at hsc
        have HSC := Lib.hid hsc
        have HSOK := Lib.hid (HSR.out.ok hsc)
        have HSE : Hid (sc.se = chunk zs i) := Lib.hid (by rw [hs, ← HZS.out, chunk_cut _ _ _ _ hin])
        have HRL : Hid ((rdN zs n i).length = n * 64) := Lib.hid (rdN_length zs n i HZL.out hi)
        have HIN := Lib.hid hin
        have hxcp : (i : Int) < (x.c : Int) := by omega
        clear hsc hs hin
        go_wp2_with (first
          | (refine wpl_load_sc rfl (.tmp 29) rfl x.g x.c _ HSR.out (p + i) sc HSC.out (p * 129 + i * 129) (Nat.add_mul _ _ _) rfl ?_)
          | (refine wpl_store_sc rfl (.tmp 5) (.tmp 30) rfl rfl wr.heap.size rfl sc HSOK.out rfl rfl ?_; intro w3 HX3 hb3; have HR3 := Lib.hid (HR.out.keep hb3.out); have HB3 := Lib.hid (chain HB.out hb3.out); clear hb3)
          | (refine wpl_load_at rfl (.tmp 33) rfl wr.heap.size 64 rfl sc.se HX3.out.se ?_)
          | (refine wpl_put_row rfl (.tmp 35) (.tmp 34) rfl (w.heap.size + 1) n i _ sc.se HR3.out HRL.out HIN.out HSOK.out.se (i * 64) rfl rfl rfl ?_; intro w4 HR4 hG4; rw [HSE.out, rdN_splice zs n i HZL.out HIN.out] at HR4; have HB4 := Lib.hid (HB3.out.grown hG4.out HB3.out.size (fun j hj => by cases hj; omega)); clear hG4))
        go_roundw
        case rel => exact ⟨i + 1, by go_num, by omega, HR4, HB4⟩
        case measure => simp [intOf]; omega
      · obtain rfl : i = n := by omega
        rw [rdN_all zs i HZL.out] at HR
        go_wp2
        go_ret
        exact ⟨_, rfl, HR.out.fs HZL.out (by omega), HB.out⟩
end Go.Proofs.Ytpnialanmidekaa
/-
  LAYER 8 (disk), the program's own disk: what a job does to it: create, remove, rename (the map is turned). No condition.
-/
namespace Go.Proofs.Ytpnialanmidekaa
open Go.RowKit
def zSc : Sc := ⟨z64, z64, false⟩
set_option maxRecDepth 20000 in
theorem zc_eq : Try.zeroCells95 = zSc.cells.toArray := by kernel_rfl
set_option maxRecDepth 20000 in
theorem sct_parts : (Try.prog.info? 95).map (fun i => (i.zero, i.size, i.bytes)) = some (some (.agg Try.zeroCells95), 129, 129) := by kernel_rfl
theorem zSc_ok : zSc.ok := ⟨z64_length, z64_length⟩
/-- a row that was just made -/
theorem SR.made (w : World) (n : Nat) (hn : n ≤ 1000000) : SR (w.alloc (.cells (madeCells (Value.agg Try.zeroCells95).cells (n * 129)) 95)) w.heap.size n (List.replicate n zSc) := by
  have hs : (Value.agg Try.zeroCells95).cells = Try.zeroCells95 := rfl
  refine ⟨(madeCells (Value.agg Try.zeroCells95).cells (n * 129)).toList, heap_alloc_last w _, by simp [size_madeCells], by simp, by unfold maxLen; omega, fun i s hi => ?_⟩
  obtain ⟨hin, e⟩ := List.getElem?_eq_some_iff.1 hi
  rw [List.getElem_replicate] at e
  subst e
  rw [List.length_replicate] at hin
  refine ⟨zSc_ok, fun j v hv => ?_⟩
  have hj : j < 129 := by have := (List.getElem?_eq_some_iff.1 hv).1; rw [zSc_ok.len] at this; exact this
  have hm : (i * 129 + j) % 129 = j := by omega
  have hlt : i * 129 + j < n * 129 := by have : (i + 1) * 129 ≤ n * 129 := Nat.mul_le_mul_right _ hin; omega
  have hz : zSc.cells.toArray.size = 129 := by simp [zSc_ok.len]
  have hv2 : zSc.cells.toArray[j]? = some v := by simpa using hv
  rw [Array.getElem?_toList, hs, zc_eq]
  unfold madeCells
  rw [Array.getElem?_map, Array.getElem?_range, if_pos hlt]
  simp only [Option.map_some, hz, hm]
  rw [getElem!_def, hv2]
theorem secsOf_new (s : ByteArray) (n : Nat) : secsOf (newF s n) = List.replicate n zSc := by
  refine List.ext_getElem? fun i => ?_
  by_cases hi : i < n
  · rw [secsOf_get _ _ hi, List.getElem?_replicate, if_pos hi]
    have hc : chunk (List.replicate (n * 64) 0) i = z64 := by
      have : (i + 1) * 64 ≤ n * 64 := Nat.mul_le_mul_right _ hi
      unfold chunk z64
      rw [List.drop_replicate, List.take_replicate]; congr 1; omega
    simp only [newF, hc]
    congr 2
    simp only [List.getD, List.getElem?_replicate, if_pos hi]; rfl
  · rw [List.getElem?_eq_none (by rw [secsOf_length]; exact Nat.not_lt.1 hi), List.getElem?_eq_none (by simpa using Nat.not_lt.1 hi)]
/-- make: n sectors, as one operation -/
theorem wp_make_scs {w : World} {o : Oper} {a : Act} {K : Act → World → Prop} {Q : Exit → Act → World → Prop} (x y : Operand) (ho : o.op = Op.makeSlice 92 x y) (n : Nat) (hx : a.eval x = .int .i64 (n : Int)) (hy : a.eval y = .int .i64 (n : Int)) (hn : n ≤ 1000000)
    (h : ∀ w', Hid (SR w' w.heap.size n (List.replicate n zSc)) → Hid (Below w.heap.size w w') → K (a.put o.dst (.slice (some ⟨w.heap.size, 0, none⟩) n n)) w') : o.wp Try.prog a w K Q := by
  obtain ⟨i, hi, hz0, hz1, hz2⟩ := info_parts sct_parts
  have hrun := run_make (P := Try.prog) w 92 95 i _ Try.underlying92 hi hz0 .i64 .i64 n n (by omega) (by omega) (by rw [hz2]; omega) (by omega)
  simp only [Int.toNat_natCast, hz1] at hrun
  unfold Oper.wp
  simp [execOp, ho, hx, hy, hrun, Result.andThen]
  exact h _ (SR.made w n hn) (below_alloc w _)
/-- behind a job that was done to the disk -/
def Done (F : Nat → Bool) (w : World) (b bm : Nat) (l : List MF) (d' : AD) (w' : World) : Prop :=
  ∃ l', Dk w' b bm l' d' ∧ Ext F w w' F ∧ ∀ k, own b bm l' k → k < w.heap.size → own b bm l k
/-- the map is turned -/
theorem Dk.turn {w w' : World} {b bm : Nat} {l l' : List MF} {d d' : AD} (h : Dk w b bm l d) (hc : d'.cap = d.cap ∧ d'.ops = d.ops ∧ d'.down = d.down ∧ d'.told = d.told ∧ d'.after = d.after) (hg : w.grownBy w' (some bm)) (hm : MapOf w' bm l')
    (hr : ∀ x ∈ l', SR w x.g x.c (secsOf x.f)) (hn : (l'.map MF.g).Nodup) (hf : d'.L = l'.map MF.f) : Dk w' b bm l' d' := by
  obtain ⟨h1, h2, h3, h4, h5⟩ := hc
  obtain ⟨fl, lf, hb, ht⟩ := h.blk
  obtain ⟨es, clock, hmo⟩ := h.map.obj
  refine ⟨⟨fl, lf, ?_, by rw [h3, h4, h5]; exact ht⟩, hm, fun x hx => (hr x hx).keep (hg.block _ (hr x hx).lt (fun e => ?_)), hn, hf⟩
  · unfold DBk dCells at *
    rw [h1, h2, h3, hg.block b (Array.getElem?_eq_some_iff.1 hb).1 (fun e => h.ne.1 (Option.some.inj e))]
    exact hb
  · obtain ⟨cur, h6, _⟩ := hr x hx
    rw [Option.some.inj e, hmo] at h6; cases h6
theorem grown_cell {w w' : World} {g : Nat} {a : Addr} {v : Value} (hg : w.grownBy w' (some g)) (ha : a.block ≠ g) (h : w.cell? a = some v) : w'.cell? a = some v := by
  have hlt := World.block_lt_of_cell? w _ h
  have hb := hg.block a.block hlt (fun e => ha (Option.some.inj e))
  unfold World.cell? at h ⊢
  rw [hb]; exact h
theorem Jd.ne {w w1 : World} {b bm : Nat} {l : List MF} {d : AD} {s t : ByteArray} {x n : Int} {v : Value} (h : Jd w b bm l d s t x n v w1) : w.heap.size ≠ bm ∧ b ≠ bm := by
  refine ⟨fun e => ?_, h.dk.ne.1⟩
  obtain ⟨es, clock, h2⟩ := h.dk.map.obj
  have h1 := h.jb
  unfold JB at h1
  rw [e, h2] at h1; cases h1
/-- what a job reads, behind a turn of the map -/
theorem Jd.turned {w w1 w2 : World} {b bm : Nat} {l : List MF} {d : AD} {s t : ByteArray} {x n : Int} {v : Value} (h : Jd w b bm l d s t x n v w1) (hg : w1.grownBy w2 (some bm)) :
    w2.cell? ⟨w.heap.size, 0, none⟩ = some (ptr ⟨b, 0, none⟩) ∧ w2.cell? ⟨w.heap.size, 1, none⟩ = some (.string s) ∧ w2.cell? ⟨w.heap.size, 4, none⟩ = some (.int .i64 n) ∧ w2.cell? ⟨b, 1, none⟩ = some (.map (some bm)) := by
  obtain ⟨c0, c1, _, c4, e1, _⟩ := h.look
  exact ⟨grown_cell hg h.ne.1 c0, grown_cell hg h.ne.1 c1, grown_cell hg h.ne.1 c4, grown_cell hg h.ne.2 e1⟩
theorem Jd.four {w w1 : World} {b bm : Nat} {l : List MF} {d : AD} {s t : ByteArray} {x n : Int} {v : Value} (h : Jd w b bm l d s t x n v w1) :
    w1.cell? ⟨w.heap.size, 0, none⟩ = some (ptr ⟨b, 0, none⟩) ∧ w1.cell? ⟨w.heap.size, 1, none⟩ = some (.string s) ∧ w1.cell? ⟨w.heap.size, 4, none⟩ = some (.int .i64 n) ∧ w1.cell? ⟨b, 1, none⟩ = some (.map (some bm)) := by
  obtain ⟨c0, c1, _, c4, e1, _⟩ := h.look
  exact ⟨c0, c1, c4, e1⟩
/-- behind create -/
theorem Dk.created {F : Nat → Bool} {w w1 w2 : World} {b bm : Nat} {l : List MF} {d : AD} (s : ByteArray) (n g : Nat) (hF : ∀ k, own b bm l k → F k = true) (h : Dk w1 b bm l d) (hb : Below w.heap.size w w1) (hr : SR w1 g n (List.replicate n zSc)) (hg : w.heap.size ≤ g) (hne : ∀ k, own b bm l k → k < g)
    (hm : MapOf w2 bm (inBy MF.nm (outBy MF.nm l s) ⟨newF s n, g, n⟩)) (hx : w1.grownBy w2 (some bm)) : Done F w b bm l (d.withF (newF s n)) w2 := by
  have hap : ∀ y ∈ outBy MF.nm l s, y.g ≠ g := fun y hy e => by
    have := hne _ (.inr (.inr ⟨y, (mem_out.1 hy).1, rfl⟩)); omega
  refine ⟨_, h.turn ⟨rfl, rfl, rfl, rfl, rfl⟩ hx hm ?_ (nodup_in (nodup_out h.nodup s) _ hap) ?_, (Ext.below hb).grown hx (.inl (hF _ (.inr (.inl rfl)))), ?_⟩
  · intro y hy
    rcases mem_in.1 hy with rfl | hy
    · rw [secsOf_new]; exact hr
    · exact h.row y (mem_out.1 hy).1
  · rw [map_in, map_out, ← h.files]; rfl
  · rintro k (rfl | rfl | ⟨y, hy, rfl⟩) hlt
    · exact .inl rfl
    · exact .inr (.inl rfl)
    · rcases mem_in.1 hy with rfl | hy
      · simp only at hlt; omega
      · exact .inr (.inr ⟨y, (mem_out.1 hy).1, rfl⟩)
set_option maxRecDepth 8000 in
set_option maxHeartbeats 1000000 in
theorem pcreate_any (F : Nat → Bool) (w : World) (b bm : Nat) (l : List MF) (d : AD) (s t : ByteArray) (x : Int) (n : Nat) (va : Option Addr) (vm vc : Nat) (h : Dk w b bm l d) (hF : ∀ k, own b bm l k → F k = true) (hs : s.size ≤ 281474976710656) (hl : l.length ≤ 64) (hn : n ≤ 64) :
    Calls Try.prog 44 #[jobV ⟨b, 0, none⟩ s t x (n : Int) (.slice va vm vc)] w fun e w' => e = .returned (.tuple #[]) ∧ Done F w b bm l (d.withF (newF s n)) w' := by
  have HJ := Lib.hid (Jd.start h s t x (n : Int) (.slice va vm vc))
  have HZ := Lib.hid (size_le hs)
  have HL := Lib.hid (show l.length < maxLen by unfold maxLen; omega)
  have HN := Lib.hid (show n ≤ 1000000 by omega)
  have HH := Lib.hid h
  clear hs hl
  go_enter Try.func44, Try.ntmps44
  go_wp2
  refine wp_region_held_drew (S := (fun w' => w'.cell? ⟨w.heap.size, 0, none⟩ = some (ptr ⟨b, 0, none⟩) ∧ w'.cell? ⟨w.heap.size, 1, none⟩ = some (.string s) ∧ w'.cell? ⟨w.heap.size, 4, none⟩ = some (.int .i64 (n : Int)) ∧ w'.cell? ⟨b, 1, none⟩ = some (.map (some bm)))) (by kernel_rfl) HJ.out.drew.four (fun hS => ?_)
  refine wpAnyH_take (i := 0) (oi := ({ dst := some 2, op := Op.fieldAddr 84 (Operand.tmp 1) 0, type := 0, pos := "job.go:83", after := #[], guard := none } : Oper)) (v := ?_) rfl (by kernel_rfl) (by kernel_rfl) (by kernel_rfl) (fun _ _ _ h => h) (Or.inl ⟨by rfl, ?_⟩) hS ?_
  rotate_left
  · (intro w hSw; (try dsimp only at hSw); go_simp; try with_reducible rfl)
  (try simp only [Act.put, List.setIfInBounds_toArray, List.set_cons_zero, List.set_cons_succ])
  refine wpAnyH_take (i := 1) (oi := ({ dst := some 3, op := Op.load 25 (Operand.tmp 2), type := 25, pos := "job.go:83", after := #[{ on := 0, ground := Ground.data }], guard := none } : Oper)) (v := ?_) rfl (by kernel_rfl) (by kernel_rfl) (by kernel_rfl) (fun _ _ _ h => h) (Or.inl ⟨by rfl, ?_⟩) hS ?_
  rotate_left
  · (intro w hSw; (try dsimp only at hSw); go_simp; try with_reducible rfl)
  (try simp only [Act.put, List.setIfInBounds_toArray, List.set_cons_zero, List.set_cons_succ])
  refine wpAnyH_take (i := 2) (oi := ({ dst := some 4, op := Op.nilCheck (Operand.tmp 3), type := 0, pos := "job.go:83", after := #[{ on := 1, ground := Ground.data }], guard := none } : Oper)) (v := ?_) rfl (by kernel_rfl) (by kernel_rfl) (by kernel_rfl) (fun _ _ _ h => h) (Or.inl ⟨by rfl, ?_⟩) hS ?_
  rotate_left
  · (intro w hSw; (try dsimp only at hSw); go_simp; try with_reducible rfl)
  (try simp only [Act.put, List.setIfInBounds_toArray, List.set_cons_zero, List.set_cons_succ])
  refine wpAnyH_take (i := 3) (oi := ({ dst := some 5, op := Op.fieldAddr 71 (Operand.tmp 4) 1, type := 0, pos := "job.go:83", after := #[{ on := 2, ground := Ground.data }], guard := none } : Oper)) (v := ?_) rfl (by kernel_rfl) (by kernel_rfl) (by kernel_rfl) (fun _ _ _ h => h) (Or.inl ⟨by rfl, ?_⟩) hS ?_
  rotate_left
  · (intro w hSw; (try dsimp only at hSw); go_simp; try with_reducible rfl)
  (try simp only [Act.put, List.setIfInBounds_toArray, List.set_cons_zero, List.set_cons_succ])
  refine wpAnyH_take (i := 4) (oi := ({ dst := some 6, op := Op.load 69 (Operand.tmp 5), type := 69, pos := "job.go:83", after := #[{ on := 3, ground := Ground.data }], guard := none } : Oper)) (v := ?_) rfl (by kernel_rfl) (by kernel_rfl) (by kernel_rfl) (fun _ _ _ h => h) (Or.inl ⟨by rfl, ?_⟩) hS ?_
  rotate_left
  · (intro w hSw; (try dsimp only at hSw); go_simp; try with_reducible rfl)
  (try simp only [Act.put, List.setIfInBounds_toArray, List.set_cons_zero, List.set_cons_succ])
  refine wpAnyH_take (i := 5) (oi := ({ dst := some 7, op := Op.fieldAddr 84 (Operand.tmp 1) 1, type := 0, pos := "job.go:83", after := #[], guard := none } : Oper)) (v := ?_) rfl (by kernel_rfl) (by kernel_rfl) (by kernel_rfl) (fun _ _ _ h => h) (Or.inl ⟨by rfl, ?_⟩) hS ?_
  rotate_left
  · (intro w hSw; (try dsimp only at hSw); go_simp; try with_reducible rfl)
  (try simp only [Act.put, List.setIfInBounds_toArray, List.set_cons_zero, List.set_cons_succ])
  refine wpAnyH_take (i := 6) (oi := ({ dst := some 8, op := Op.load 9 (Operand.tmp 7), type := 9, pos := "job.go:83", after := #[{ on := 5, ground := Ground.data }], guard := none } : Oper)) (v := ?_) rfl (by kernel_rfl) (by kernel_rfl) (by kernel_rfl) (fun _ _ _ h => h) (Or.inl ⟨by rfl, ?_⟩) hS ?_
  rotate_left
  · (intro w hSw; (try dsimp only at hSw); go_simp; try with_reducible rfl)
  (try simp only [Act.put, List.setIfInBounds_toArray, List.set_cons_zero, List.set_cons_succ])
  refine wpAnyH_take (i := 7) (oi := ({ dst := some 9, op := Op.fieldAddr 84 (Operand.tmp 1) 4, type := 0, pos := "job.go:83", after := #[], guard := none } : Oper)) (v := ?_) rfl (by kernel_rfl) (by kernel_rfl) (by kernel_rfl) (fun _ _ _ h => h) (Or.inl ⟨by rfl, ?_⟩) hS ?_
  rotate_left
  · (intro w hSw; (try dsimp only at hSw); go_simp; try with_reducible rfl)
  (try simp only [Act.put, List.setIfInBounds_toArray, List.set_cons_zero, List.set_cons_succ])
  refine wpAnyH_take (i := 8) (oi := ({ dst := some 10, op := Op.load 3 (Operand.tmp 9), type := 3, pos := "job.go:83", after := #[{ on := 7, ground := Ground.data }], guard := none } : Oper)) (v := ?_) rfl (by kernel_rfl) (by kernel_rfl) (by kernel_rfl) (fun _ _ _ h => h) (Or.inl ⟨by rfl, ?_⟩) hS ?_
  rotate_left
  · (intro w hSw; (try dsimp only at hSw); go_simp; try with_reducible rfl)
  (try simp only [Act.put, List.setIfInBounds_toArray, List.set_cons_zero, List.set_cons_succ])
  refine rg_one 9 ({ dst := some 11, op := Op.makeSlice 92 (Operand.tmp 10) (Operand.tmp 10), type := 92, pos := "job.go:83", after := #[{ on := 8, ground := Ground.data }, { on := 8, ground := Ground.data }], guard := none } : Oper) (by kernel_rfl) rfl (fun K hK => ?_)
  rw [if_pos (by rfl)]; refine wp_make_scs (.tmp 10) (.tmp 10) rfl n rfl rfl HN.out ?_; intro w1 HR1 HB1; have HJ1 := Lib.hid (HJ.out.drew.next HB1.out); have hN := HJ1.out.four
  refine hK.out _ _ ?_ (fun hS1 => ?_)
  · (exact hN)
  clear hK K hS; have hS := hS1; clear hS1
  (try simp only [Act.put, List.setIfInBounds_toArray, List.set_cons_zero, List.set_cons_succ])
  refine rg_one 10 ({ dst := none, op := Op.mapUpdate 69 (Operand.tmp 6) (Operand.tmp 8) (Operand.tmp 11), type := 0, pos := "job.go:83", after := #[{ on := 4, ground := Ground.data }, { on := 6, ground := Ground.data }, { on := 9, ground := Ground.data }, { on := 0, ground := Ground.phase }, { on := 1, ground := Ground.phase }, { on := 2, ground := Ground.phase }, { on := 3, ground := Ground.phase }, { on := 4, ground := Ground.phase }, { on := 5, ground := Ground.phase }, { on := 6, ground := Ground.phase }, { on := 7, ground := Ground.phase }, { on := 8, ground := Ground.phase }, { on := 9, ground := Ground.phase }], guard := none } : Oper) (by kernel_rfl) rfl (fun K hK => ?_)
  rw [if_pos (by rfl)]; refine wp_put secE (.tmp 6) (.tmp 8) (.tmp 11) 69 rfl 9 92 Try.underlying9 Try.underlying69 bm l rfl HJ1.out.dk.map HL.out ⟨newF s n, _, n⟩ rfl HZ.out rfl ?_; intro w2 HM2 hG2; have HDN := Lib.hid (Dk.created s n _ hF HJ1.out.dk HJ1.out.below HR1.out (Nat.le_of_lt HJ.out.drew.size) HJ.out.drew.dk.lt HM2.out hG2.out); clear hN; have hN := HJ1.out.turned hG2.out
  refine hK.out _ _ ?_ (fun hS1 => ?_)
  · (exact hN)
  clear hK K hS; have hS := hS1; clear hS1
  (try simp only [Act.put])
  refine wpAnyH_done (by kernel_rfl) ?_ _
  clear hS
  go_wp2
  go_end0
  exact ⟨rfl, HDN.out⟩
end Go.Proofs.Ytpnialanmidekaa
/-
  LAYER 8 (disk), the program's own disk: remove and rename. No condition.
-/
namespace Go.Proofs.Ytpnialanmidekaa
open Go.RowKit
section
variable {α : Type} {nm : α → ByteArray}
theorem in_cons (z y : α) (r : List α) : inBy nm (z :: r) y = if gtN (nm z) (nm y) = true then y :: z :: r else z :: inBy nm r y := by
  unfold inBy
  rw [List.findIdx_cons]
  by_cases h : gtN (nm z) (nm y) = true
  · rw [if_pos h, h]; simp
  · rw [if_neg h]
    rw [Bool.not_eq_true] at h
    rw [h]; simp
theorem in_nil (y : α) : inBy nm ([] : List α) y = [y] := by simp [inBy]
theorem in_first {l : List α} {y : α} (h : ∀ z ∈ l, gtN (nm z) (nm y) = true) : inBy nm l y = y :: l := by
  cases l with
  | nil => rw [in_nil]
  | cons z r => rw [in_cons, if_pos (h z (List.mem_cons_self ..))]
theorem out_cons (z : α) (r : List α) (s : ByteArray) : outBy nm (z :: r) s = if nm z = s then outBy nm r s else z :: outBy nm r s := by
  unfold outBy
  rw [List.filter_cons]
  by_cases h : nm z = s
  · rw [if_pos h, if_neg (by rw [decide_eq_true h]; simp)]
  · rw [if_neg h, if_pos (by rw [decide_eq_false h]; rfl)]
/-- what is put in and another thing that is taken out -/
theorem out_in : ∀ {l : List α}, l.Pairwise (fun x y => gtN (nm y) (nm x) = true) → ∀ (y : α) (s : ByteArray), nm y ≠ s → outBy nm (inBy nm l y) s = inBy nm (outBy nm l s) y
  | [], _, y, s, h => by rw [in_nil, out_cons, if_neg h]; simp [outBy, in_nil]
  | z :: r, hs, y, s, h => by
    rw [List.pairwise_cons] at hs
    rw [in_cons, out_cons]
    by_cases h1 : gtN (nm z) (nm y) = true
    · rw [if_pos h1, out_cons, if_neg h, out_cons]
      by_cases h2 : nm z = s
      · rw [if_pos h2, in_first]
        intro q hq
        exact gtN_trans (hs.1 q (List.mem_filter.1 hq).1) h1
      · rw [if_neg h2, in_cons, if_pos h1]
    · rw [if_neg h1, out_cons, out_in hs.2 y s h]
      by_cases h2 : nm z = s
      · simp only [if_pos h2]
      · simp only [if_neg h2]; rw [in_cons, if_neg h1]
theorem nodup_inj {β : Type} {f : α → β} : ∀ {l : List α}, (l.map f).Nodup → ∀ {x y : α}, x ∈ l → y ∈ l → f x = f y → x = y
  | [], _, x, _, hx, _, _ => by simp at hx
  | z :: r, h, x, y, hx, hy, e => by
    rw [List.map_cons, List.nodup_cons] at h
    rcases List.mem_cons.1 hx with h1 | h1 <;> rcases List.mem_cons.1 hy with h2 | h2
    · rw [h1, h2]
    · exact absurd (by rw [← h1, e]; exact List.mem_map_of_mem h2) h.1
    · exact absurd (by rw [← h2, ← e]; exact List.mem_map_of_mem h1) h.1
    · exact nodup_inj h.2 h1 h2 e
theorem out_comm (l : List α) (s t : ByteArray) : outBy nm (outBy nm l s) t = outBy nm (outBy nm l t) s := by
  unfold outBy
  rw [List.filter_filter, List.filter_filter]
  refine List.filter_congr fun x _ => ?_
  rw [Bool.and_comm]
end
theorem Dk.asc {w : World} {b bm : Nat} {l : List MF} {d : AD} (h : Dk w b bm l d) (hg : Good d) : l.Pairwise fun x y => gtN (MF.nm y) (MF.nm x) = true := by
  have := hg.asc
  rw [h.files] at this
  unfold Asc at this
  rw [List.pairwise_map] at this
  exact this
set_option maxRecDepth 8000 in
set_option maxHeartbeats 1000000 in
theorem premove_any (F : Nat → Bool) (w : World) (b bm : Nat) (l : List MF) (d : AD) (s t : ByteArray) (x n : Int) (va : Option Addr) (vm vc : Nat) (h : Dk w b bm l d) (hF : ∀ k, own b bm l k → F k = true) (hs : s.size ≤ 281474976710656) :
    Calls Try.prog 59 #[jobV ⟨b, 0, none⟩ s t x n (.slice va vm vc)] w fun e w' => e = .returned (.tuple #[]) ∧ Done F w b bm l (d.without s) w' := by
  have HJ := Lib.hid (Jd.start h s t x n (.slice va vm vc))
  have HZ := Lib.hid (size_le hs)
  have HDN : Hid (∀ w1 w2, Jd w b bm l d s t x n (.slice va vm vc) w1 → MapOf w2 bm (outBy MF.nm l s) → w1.grownBy w2 (some bm) → Done F w b bm l (d.without s) w2) := Lib.hid fun w1 w2 h1 h2 h3 => by
    refine ⟨_, h1.dk.turn ⟨rfl, rfl, rfl, rfl, rfl⟩ h3 h2 (fun y hy => h1.dk.row y (mem_out.1 hy).1) (nodup_out h1.dk.nodup s) ?_, (Ext.below h1.below).grown h3 (.inl (hF _ (.inr (.inl rfl)))), ?_⟩
    · rw [map_out, ← h1.dk.files]; rfl
    · rintro k (rfl | rfl | ⟨y, hy, rfl⟩) _
      · exact .inl rfl
      · exact .inr (.inl rfl)
      · exact .inr (.inr ⟨y, (mem_out.1 hy).1, rfl⟩)
  clear h hs
  go_enter Try.func59, Try.ntmps59
  go_wp2
  refine wp_region_held_drew (S := (fun w' => w'.cell? ⟨w.heap.size, 0, none⟩ = some (ptr ⟨b, 0, none⟩) ∧ w'.cell? ⟨w.heap.size, 1, none⟩ = some (.string s) ∧ w'.cell? ⟨w.heap.size, 4, none⟩ = some (.int .i64 n) ∧ w'.cell? ⟨b, 1, none⟩ = some (.map (some bm)))) (by kernel_rfl) HJ.out.drew.four (fun hS => ?_)
  refine wpAnyH_take (i := 0) (oi := ({ dst := some 2, op := Op.fieldAddr 84 (Operand.tmp 1) 0, type := 0, pos := "job.go:114", after := #[], guard := none } : Oper)) (v := ?_) rfl (by kernel_rfl) (by kernel_rfl) (by kernel_rfl) (fun _ _ _ h => h) (Or.inl ⟨by rfl, ?_⟩) hS ?_
  rotate_left
  · (intro w hSw; (try dsimp only at hSw); go_simp; try with_reducible rfl)
  (try simp only [Act.put, List.setIfInBounds_toArray, List.set_cons_zero, List.set_cons_succ])
  refine wpAnyH_take (i := 1) (oi := ({ dst := some 3, op := Op.load 25 (Operand.tmp 2), type := 25, pos := "job.go:114", after := #[{ on := 0, ground := Ground.data }], guard := none } : Oper)) (v := ?_) rfl (by kernel_rfl) (by kernel_rfl) (by kernel_rfl) (fun _ _ _ h => h) (Or.inl ⟨by rfl, ?_⟩) hS ?_
  rotate_left
  · (intro w hSw; (try dsimp only at hSw); go_simp; try with_reducible rfl)
  (try simp only [Act.put, List.setIfInBounds_toArray, List.set_cons_zero, List.set_cons_succ])
  refine wpAnyH_take (i := 2) (oi := ({ dst := some 4, op := Op.nilCheck (Operand.tmp 3), type := 0, pos := "job.go:114", after := #[{ on := 1, ground := Ground.data }], guard := none } : Oper)) (v := ?_) rfl (by kernel_rfl) (by kernel_rfl) (by kernel_rfl) (fun _ _ _ h => h) (Or.inl ⟨by rfl, ?_⟩) hS ?_
  rotate_left
  · (intro w hSw; (try dsimp only at hSw); go_simp; try with_reducible rfl)
  (try simp only [Act.put, List.setIfInBounds_toArray, List.set_cons_zero, List.set_cons_succ])
  refine wpAnyH_take (i := 3) (oi := ({ dst := some 5, op := Op.fieldAddr 71 (Operand.tmp 4) 1, type := 0, pos := "job.go:114", after := #[{ on := 2, ground := Ground.data }], guard := none } : Oper)) (v := ?_) rfl (by kernel_rfl) (by kernel_rfl) (by kernel_rfl) (fun _ _ _ h => h) (Or.inl ⟨by rfl, ?_⟩) hS ?_
  rotate_left
  · (intro w hSw; (try dsimp only at hSw); go_simp; try with_reducible rfl)
  (try simp only [Act.put, List.setIfInBounds_toArray, List.set_cons_zero, List.set_cons_succ])
  refine wpAnyH_take (i := 4) (oi := ({ dst := some 6, op := Op.load 69 (Operand.tmp 5), type := 69, pos := "job.go:114", after := #[{ on := 3, ground := Ground.data }], guard := none } : Oper)) (v := ?_) rfl (by kernel_rfl) (by kernel_rfl) (by kernel_rfl) (fun _ _ _ h => h) (Or.inl ⟨by rfl, ?_⟩) hS ?_
  rotate_left
  · (intro w hSw; (try dsimp only at hSw); go_simp; try with_reducible rfl)
  (try simp only [Act.put, List.setIfInBounds_toArray, List.set_cons_zero, List.set_cons_succ])
  refine wpAnyH_take (i := 5) (oi := ({ dst := some 7, op := Op.fieldAddr 84 (Operand.tmp 1) 1, type := 0, pos := "job.go:114", after := #[], guard := none } : Oper)) (v := ?_) rfl (by kernel_rfl) (by kernel_rfl) (by kernel_rfl) (fun _ _ _ h => h) (Or.inl ⟨by rfl, ?_⟩) hS ?_
  rotate_left
  · (intro w hSw; (try dsimp only at hSw); go_simp; try with_reducible rfl)
  (try simp only [Act.put, List.setIfInBounds_toArray, List.set_cons_zero, List.set_cons_succ])
  refine wpAnyH_take (i := 6) (oi := ({ dst := some 8, op := Op.load 9 (Operand.tmp 7), type := 9, pos := "job.go:114", after := #[{ on := 5, ground := Ground.data }], guard := none } : Oper)) (v := ?_) rfl (by kernel_rfl) (by kernel_rfl) (by kernel_rfl) (fun _ _ _ h => h) (Or.inl ⟨by rfl, ?_⟩) hS ?_
  rotate_left
  · (intro w hSw; (try dsimp only at hSw); go_simp; try with_reducible rfl)
  (try simp only [Act.put, List.setIfInBounds_toArray, List.set_cons_zero, List.set_cons_succ])
  refine rg_one 7 ({ dst := none, op := Op.call { callee := Callee.builtin Builtin.delete, args := #[Operand.tmp 6, Operand.tmp 8], argTypes := #[69, 9] }, type := 0, pos := "job.go:114", after := #[{ on := 4, ground := Ground.data }, { on := 6, ground := Ground.data }], guard := none } : Oper) (by kernel_rfl) rfl (fun K hK => ?_)
  rw [if_pos (by rfl)]; refine wp_drop (.tmp 6) (.tmp 8) 69 9 rfl 92 Try.underlying9 Try.underlying69 bm l rfl HJ.out.drew.dk.map s rfl HZ.out ?_; intro w2 HM2 hG2; have HD2 := Lib.hid (HDN.out _ _ HJ.out.drew HM2.out hG2.out); have hN := HJ.out.drew.turned hG2.out
  refine hK.out _ _ ?_ (fun hS1 => ?_)
  · (exact hN)
  clear hK K hS; have hS := hS1; clear hS1
  (try simp only [Act.put])
  refine wpAnyH_done (by kernel_rfl) ?_ _
  clear hS
  go_wp2
  go_end0
  exact ⟨rfl, HD2.out⟩
theorem Jd.ren {w w1 : World} {b bm : Nat} {l : List MF} {d : AD} {s t : ByteArray} {x n : Int} {v : Value} (h : Jd w b bm l d s t x n v w1) :
    w1.cell? ⟨w.heap.size, 0, none⟩ = some (ptr ⟨b, 0, none⟩) ∧ w1.cell? ⟨w.heap.size, 1, none⟩ = some (.string s) ∧ w1.cell? ⟨w.heap.size, 2, none⟩ = some (.string t) ∧ w1.cell? ⟨b, 1, none⟩ = some (.map (some bm)) := by
  obtain ⟨c0, c1, _, _, e1, _⟩ := h.look
  obtain ⟨_, _, c2, _⟩ := h.jb.cells
  exact ⟨c0, c1, c2, e1⟩
theorem rent2 {w1 w2 : World} {b bm g : Nat} {s t : ByteArray} (hg : w1.grownBy w2 (some bm)) (h1 : g ≠ bm) (h2 : b ≠ bm)
    (h : w1.cell? ⟨g, 0, none⟩ = some (ptr ⟨b, 0, none⟩) ∧ w1.cell? ⟨g, 1, none⟩ = some (.string s) ∧ w1.cell? ⟨g, 2, none⟩ = some (.string t) ∧ w1.cell? ⟨b, 1, none⟩ = some (.map (some bm))) :
    w2.cell? ⟨g, 0, none⟩ = some (ptr ⟨b, 0, none⟩) ∧ w2.cell? ⟨g, 1, none⟩ = some (.string s) ∧ w2.cell? ⟨g, 2, none⟩ = some (.string t) ∧ w2.cell? ⟨b, 1, none⟩ = some (.map (some bm)) :=
  ⟨grown_cell hg h1 h.1, grown_cell hg h1 h.2.1, grown_cell hg h1 h.2.2.1, grown_cell hg h2 h.2.2.2⟩
theorem Jd.rent {w w1 w2 : World} {b bm : Nat} {l : List MF} {d : AD} {s t : ByteArray} {x n : Int} {v : Value} (h : Jd w b bm l d s t x n v w1) (hg : w1.grownBy w2 (some bm)) :
    w2.cell? ⟨w.heap.size, 0, none⟩ = some (ptr ⟨b, 0, none⟩) ∧ w2.cell? ⟨w.heap.size, 1, none⟩ = some (.string s) ∧ w2.cell? ⟨w.heap.size, 2, none⟩ = some (.string t) ∧ w2.cell? ⟨b, 1, none⟩ = some (.map (some bm)) := rent2 hg h.ne.1 h.ne.2 h.ren
set_option maxRecDepth 8000 in
set_option maxHeartbeats 1000000 in
theorem prename_any (F : Nat → Bool) (w : World) (b bm : Nat) (l : List MF) (d : AD) (s t : ByteArray) (x n : Int) (va : Option Addr) (vm vc : Nat) (h : Dk w b bm l d) (hg : Good d) (hF : ∀ k, own b bm l k → F k = true) (hs : s.size ≤ 281474976710656) (ht : t.size ≤ 281474976710656) (hst : t ≠ s) (hh : d.has s) :
    Calls Try.prog 58 #[jobV ⟨b, 0, none⟩ s t x n (.slice va vm vc)] w fun e w' => e = .returned (.tuple #[]) ∧ Done F w b bm l ((d.without s).withF { d.get s with name := t }) w' := by
  have HJ := Lib.hid (Jd.start h s t x n (.slice va vm vc))
  have HZ := Lib.hid (size_le hs)
  have HT := Lib.hid (size_le ht)
  have HL := Lib.hid (show l.length < maxLen by have := hg.few; rw [h.files, List.length_map] at this; unfold maxLen; omega)
  obtain ⟨y, hy, hf, hym, hl⟩ := h.has s hh
  have hname := d.get_name s hh
  rw [← hf] at hname
  have HLK := Lib.hid hl
  obtain ⟨z, hz⟩ : ∃ z : MF, z = ⟨{ y.f with name := t }, y.g, y.c⟩ := ⟨_, rfl⟩
  have HZV : Hid (y.v = z.v ∧ MF.nm z = t) := Lib.hid (by rw [hz]; exact ⟨rfl, rfl⟩)
  have HDN : Hid (∀ w1 w2 w3, Jd w b bm l d s t x n (.slice va vm vc) w1 → MapOf w3 bm (outBy MF.nm (inBy MF.nm (outBy MF.nm l t) z) s) → w1.grownBy w2 (some bm) → w2.grownBy w3 (some bm) → Done F w b bm l ((d.without s).withF { d.get s with name := t }) w3) := Lib.hid fun w1 w2 w3 h1 h2 h3 h4 => by
    have hG := grown_trans h3 h4
    have hsub : (outBy MF.nm l t).Sublist l := List.filter_sublist
    rw [out_in ((h1.dk.asc hg).sublist hsub) z s (by rw [HZV.out.2]; exact hst), out_comm] at h2
    have hap : ∀ u ∈ outBy MF.nm (outBy MF.nm l s) t, u.g ≠ z.g := fun u hu e => by
      obtain ⟨hu1, _⟩ := mem_out.1 hu
      obtain ⟨hu2, hu3⟩ := mem_out.1 hu1
      have hgz : z.g = y.g := by rw [hz]
      rw [hgz] at e
      have hinj := nodup_inj h1.dk.nodup hu2 hym e
      exact hu3 (by rw [hinj]; exact hname)
    refine ⟨_, h1.dk.turn ⟨rfl, rfl, rfl, rfl, rfl⟩ hG h2 ?_ (nodup_in (nodup_out (nodup_out h1.dk.nodup s) t) z hap) ?_, (Ext.below h1.below).grown hG (.inl (hF _ (.inr (.inl rfl)))), ?_⟩
    · intro u hu
      rcases mem_in.1 hu with rfl | hu
      · rw [hz]; exact h1.dk.row y hym
      · exact h1.dk.row u (mem_out.1 (mem_out.1 hu).1).1
    · rw [map_in, map_out, map_out, ← h1.dk.files, hz, ← hf]; rfl
    · rintro k (rfl | rfl | ⟨u, hu, rfl⟩) _
      · exact .inl rfl
      · exact .inr (.inl rfl)
      · rcases mem_in.1 hu with rfl | hu
        · exact .inr (.inr ⟨y, hym, by rw [hz]⟩)
        · exact .inr (.inr ⟨u, (mem_out.1 (mem_out.1 hu).1).1, rfl⟩)
  clear h hs ht hg hy hf hym hl hname hz hh hst
  go_enter Try.func58, Try.ntmps58
  go_wp2
  refine wp_region_held_drew (S := (fun w' => w'.cell? ⟨w.heap.size, 0, none⟩ = some (ptr ⟨b, 0, none⟩) ∧ w'.cell? ⟨w.heap.size, 1, none⟩ = some (.string s) ∧ w'.cell? ⟨w.heap.size, 2, none⟩ = some (.string t) ∧ w'.cell? ⟨b, 1, none⟩ = some (.map (some bm)))) (by kernel_rfl) HJ.out.drew.ren (fun hS => ?_)
  refine wpAnyH_take (i := 0) (oi := ({ dst := some 2, op := Op.fieldAddr 84 (Operand.tmp 1) 0, type := 0, pos := "job.go:109", after := #[], guard := none } : Oper)) (v := ?_) rfl (by kernel_rfl) (by kernel_rfl) (by kernel_rfl) (fun _ _ _ h => h) (Or.inl ⟨by rfl, ?_⟩) hS ?_
  rotate_left
  · (intro w hSw; (try dsimp only at hSw); go_simp; try with_reducible rfl)
  (try simp only [Act.put, List.setIfInBounds_toArray, List.set_cons_zero, List.set_cons_succ])
  refine wpAnyH_take (i := 1) (oi := ({ dst := some 3, op := Op.load 25 (Operand.tmp 2), type := 25, pos := "job.go:109", after := #[{ on := 0, ground := Ground.data }], guard := none } : Oper)) (v := ?_) rfl (by kernel_rfl) (by kernel_rfl) (by kernel_rfl) (fun _ _ _ h => h) (Or.inl ⟨by rfl, ?_⟩) hS ?_
  rotate_left
  · (intro w hSw; (try dsimp only at hSw); go_simp; try with_reducible rfl)
  (try simp only [Act.put, List.setIfInBounds_toArray, List.set_cons_zero, List.set_cons_succ])
  refine wpAnyH_take (i := 2) (oi := ({ dst := some 4, op := Op.nilCheck (Operand.tmp 3), type := 0, pos := "job.go:109", after := #[{ on := 1, ground := Ground.data }], guard := none } : Oper)) (v := ?_) rfl (by kernel_rfl) (by kernel_rfl) (by kernel_rfl) (fun _ _ _ h => h) (Or.inl ⟨by rfl, ?_⟩) hS ?_
  rotate_left
  · (intro w hSw; (try dsimp only at hSw); go_simp; try with_reducible rfl)
  (try simp only [Act.put, List.setIfInBounds_toArray, List.set_cons_zero, List.set_cons_succ])
  refine wpAnyH_take (i := 3) (oi := ({ dst := some 5, op := Op.fieldAddr 71 (Operand.tmp 4) 1, type := 0, pos := "job.go:109", after := #[{ on := 2, ground := Ground.data }], guard := none } : Oper)) (v := ?_) rfl (by kernel_rfl) (by kernel_rfl) (by kernel_rfl) (fun _ _ _ h => h) (Or.inl ⟨by rfl, ?_⟩) hS ?_
  rotate_left
  · (intro w hSw; (try dsimp only at hSw); go_simp; try with_reducible rfl)
  (try simp only [Act.put, List.setIfInBounds_toArray, List.set_cons_zero, List.set_cons_succ])
  refine wpAnyH_take (i := 4) (oi := ({ dst := some 6, op := Op.load 69 (Operand.tmp 5), type := 69, pos := "job.go:109", after := #[{ on := 3, ground := Ground.data }], guard := none } : Oper)) (v := ?_) rfl (by kernel_rfl) (by kernel_rfl) (by kernel_rfl) (fun _ _ _ h => h) (Or.inl ⟨by rfl, ?_⟩) hS ?_
  rotate_left
  · (intro w hSw; (try dsimp only at hSw); go_simp; try with_reducible rfl)
  (try simp only [Act.put, List.setIfInBounds_toArray, List.set_cons_zero, List.set_cons_succ])
  refine wpAnyH_take (i := 5) (oi := ({ dst := some 7, op := Op.fieldAddr 84 (Operand.tmp 1) 2, type := 0, pos := "job.go:109", after := #[], guard := none } : Oper)) (v := ?_) rfl (by kernel_rfl) (by kernel_rfl) (by kernel_rfl) (fun _ _ _ h => h) (Or.inl ⟨by rfl, ?_⟩) hS ?_
  rotate_left
  · (intro w hSw; (try dsimp only at hSw); go_simp; try with_reducible rfl)
  (try simp only [Act.put, List.setIfInBounds_toArray, List.set_cons_zero, List.set_cons_succ])
  refine wpAnyH_take (i := 6) (oi := ({ dst := some 8, op := Op.load 9 (Operand.tmp 7), type := 9, pos := "job.go:109", after := #[{ on := 5, ground := Ground.data }], guard := none } : Oper)) (v := ?_) rfl (by kernel_rfl) (by kernel_rfl) (by kernel_rfl) (fun _ _ _ h => h) (Or.inl ⟨by rfl, ?_⟩) hS ?_
  rotate_left
  · (intro w hSw; (try dsimp only at hSw); go_simp; try with_reducible rfl)
  (try simp only [Act.put, List.setIfInBounds_toArray, List.set_cons_zero, List.set_cons_succ])
  refine wpAnyH_take (i := 7) (oi := ({ dst := some 9, op := Op.fieldAddr 84 (Operand.tmp 1) 0, type := 0, pos := "job.go:109", after := #[], guard := none } : Oper)) (v := ?_) rfl (by kernel_rfl) (by kernel_rfl) (by kernel_rfl) (fun _ _ _ h => h) (Or.inl ⟨by rfl, ?_⟩) hS ?_
  rotate_left
  · (intro w hSw; (try dsimp only at hSw); go_simp; try with_reducible rfl)
  (try simp only [Act.put, List.setIfInBounds_toArray, List.set_cons_zero, List.set_cons_succ])
  refine wpAnyH_take (i := 8) (oi := ({ dst := some 10, op := Op.load 25 (Operand.tmp 9), type := 25, pos := "job.go:109", after := #[{ on := 7, ground := Ground.data }], guard := none } : Oper)) (v := ?_) rfl (by kernel_rfl) (by kernel_rfl) (by kernel_rfl) (fun _ _ _ h => h) (Or.inl ⟨by rfl, ?_⟩) hS ?_
  rotate_left
  · (intro w hSw; (try dsimp only at hSw); go_simp; try with_reducible rfl)
  (try simp only [Act.put, List.setIfInBounds_toArray, List.set_cons_zero, List.set_cons_succ])
  refine wpAnyH_take (i := 9) (oi := ({ dst := some 11, op := Op.nilCheck (Operand.tmp 10), type := 0, pos := "job.go:109", after := #[{ on := 8, ground := Ground.data }], guard := none } : Oper)) (v := ?_) rfl (by kernel_rfl) (by kernel_rfl) (by kernel_rfl) (fun _ _ _ h => h) (Or.inl ⟨by rfl, ?_⟩) hS ?_
  rotate_left
  · (intro w hSw; (try dsimp only at hSw); go_simp; try with_reducible rfl)
  (try simp only [Act.put, List.setIfInBounds_toArray, List.set_cons_zero, List.set_cons_succ])
  refine wpAnyH_take (i := 10) (oi := ({ dst := some 12, op := Op.fieldAddr 71 (Operand.tmp 11) 1, type := 0, pos := "job.go:109", after := #[{ on := 9, ground := Ground.data }], guard := none } : Oper)) (v := ?_) rfl (by kernel_rfl) (by kernel_rfl) (by kernel_rfl) (fun _ _ _ h => h) (Or.inl ⟨by rfl, ?_⟩) hS ?_
  rotate_left
  · (intro w hSw; (try dsimp only at hSw); go_simp; try with_reducible rfl)
  (try simp only [Act.put, List.setIfInBounds_toArray, List.set_cons_zero, List.set_cons_succ])
  refine wpAnyH_take (i := 11) (oi := ({ dst := some 13, op := Op.load 69 (Operand.tmp 12), type := 69, pos := "job.go:109", after := #[{ on := 10, ground := Ground.data }], guard := none } : Oper)) (v := ?_) rfl (by kernel_rfl) (by kernel_rfl) (by kernel_rfl) (fun _ _ _ h => h) (Or.inl ⟨by rfl, ?_⟩) hS ?_
  rotate_left
  · (intro w hSw; (try dsimp only at hSw); go_simp; try with_reducible rfl)
  (try simp only [Act.put, List.setIfInBounds_toArray, List.set_cons_zero, List.set_cons_succ])
  refine wpAnyH_take (i := 12) (oi := ({ dst := some 14, op := Op.fieldAddr 84 (Operand.tmp 1) 1, type := 0, pos := "job.go:109", after := #[], guard := none } : Oper)) (v := ?_) rfl (by kernel_rfl) (by kernel_rfl) (by kernel_rfl) (fun _ _ _ h => h) (Or.inl ⟨by rfl, ?_⟩) hS ?_
  rotate_left
  · (intro w hSw; (try dsimp only at hSw); go_simp; try with_reducible rfl)
  (try simp only [Act.put, List.setIfInBounds_toArray, List.set_cons_zero, List.set_cons_succ])
  refine wpAnyH_take (i := 13) (oi := ({ dst := some 15, op := Op.load 9 (Operand.tmp 14), type := 9, pos := "job.go:109", after := #[{ on := 12, ground := Ground.data }], guard := none } : Oper)) (v := ?_) rfl (by kernel_rfl) (by kernel_rfl) (by kernel_rfl) (fun _ _ _ h => h) (Or.inl ⟨by rfl, ?_⟩) hS ?_
  rotate_left
  · (intro w hSw; (try dsimp only at hSw); go_simp; try with_reducible rfl)
  (try simp only [Act.put, List.setIfInBounds_toArray, List.set_cons_zero, List.set_cons_succ])
  refine rg_one 14 ({ dst := some 16, op := Op.lookup 69 (Operand.tmp 13) (Operand.tmp 15) false, type := 92, pos := "job.go:109", after := #[{ on := 11, ground := Ground.data }, { on := 13, ground := Ground.data }], guard := none } : Oper) (by kernel_rfl) rfl (fun K hK => ?_)
  rw [if_pos (by rfl)]; refine wp_look secE (.tmp 13) (.tmp 15) 69 rfl 9 92 Try.underlying9 Try.underlying69 (zeroS _) bm l rfl HJ.out.drew.dk.map s rfl HZ.out ?_; rw [HLK.out, HZV.out.1]
  refine hK.out _ _ ?_ (fun hS1 => ?_)
  · (first | exact hN | exact hS)
  clear hK K hS; have hS := hS1; clear hS1
  (try simp only [Act.put, List.setIfInBounds_toArray, List.set_cons_zero, List.set_cons_succ])
  refine rg_one 15 ({ dst := none, op := Op.mapUpdate 69 (Operand.tmp 6) (Operand.tmp 8) (Operand.tmp 16), type := 0, pos := "job.go:109", after := #[{ on := 4, ground := Ground.data }, { on := 6, ground := Ground.data }, { on := 14, ground := Ground.data }, { on := 0, ground := Ground.phase }, { on := 1, ground := Ground.phase }, { on := 2, ground := Ground.phase }, { on := 3, ground := Ground.phase }, { on := 4, ground := Ground.phase }, { on := 5, ground := Ground.phase }, { on := 6, ground := Ground.phase }, { on := 7, ground := Ground.phase }, { on := 8, ground := Ground.phase }, { on := 9, ground := Ground.phase }, { on := 10, ground := Ground.phase }, { on := 11, ground := Ground.phase }, { on := 12, ground := Ground.phase }, { on := 13, ground := Ground.phase }, { on := 14, ground := Ground.phase }], guard := none } : Oper) (by kernel_rfl) rfl (fun K hK => ?_)
  rw [if_pos (by rfl)]; refine wp_put secE (.tmp 6) (.tmp 8) (.tmp 16) 69 rfl 9 92 Try.underlying9 Try.underlying69 bm l rfl HJ.out.drew.dk.map HL.out z (by rw [HZV.out.2]; rfl) (by rw [HZV.out.2]; exact HT.out) rfl ?_; intro w2 HM2 hG2; rw [HZV.out.2] at HM2; have HG2 := Lib.hid (grown_drew hG2.out); have hN := HJ.out.drew.rent hG2.out
  refine hK.out _ _ ?_ (fun hS1 => ?_)
  · (first | exact hN | exact hS)
  clear hK K hS; have hS := hS1; clear hS1
  (try simp only [Act.put])
  refine wpAnyH_done (by kernel_rfl) ?_ _
  have HS2 := Lib.hid hS
  clear hS hN hG2
  go_wp2
  refine wp_region_held_drew (S := (fun w' => w'.cell? ⟨w.heap.size, 0, none⟩ = some (ptr ⟨b, 0, none⟩) ∧ w'.cell? ⟨w.heap.size, 1, none⟩ = some (.string s) ∧ w'.cell? ⟨w.heap.size, 2, none⟩ = some (.string t) ∧ w'.cell? ⟨b, 1, none⟩ = some (.map (some bm)))) (by kernel_rfl) HS2.out (fun hS => ?_)
  refine wpAnyH_take (i := 0) (oi := ({ dst := some 17, op := Op.fieldAddr 84 (Operand.tmp 1) 0, type := 0, pos := "job.go:110", after := #[], guard := none } : Oper)) (v := ?_) rfl (by kernel_rfl) (by kernel_rfl) (by kernel_rfl) (fun _ _ _ h => h) (Or.inl ⟨by rfl, ?_⟩) hS ?_
  rotate_left
  · (intro w hSw; (try dsimp only at hSw); go_simp; try with_reducible rfl)
  (try simp only [Act.put, List.setIfInBounds_toArray, List.set_cons_zero, List.set_cons_succ])
  refine wpAnyH_take (i := 1) (oi := ({ dst := some 18, op := Op.load 25 (Operand.tmp 17), type := 25, pos := "job.go:110", after := #[{ on := 0, ground := Ground.data }], guard := none } : Oper)) (v := ?_) rfl (by kernel_rfl) (by kernel_rfl) (by kernel_rfl) (fun _ _ _ h => h) (Or.inl ⟨by rfl, ?_⟩) hS ?_
  rotate_left
  · (intro w hSw; (try dsimp only at hSw); go_simp; try with_reducible rfl)
  (try simp only [Act.put, List.setIfInBounds_toArray, List.set_cons_zero, List.set_cons_succ])
  refine wpAnyH_take (i := 2) (oi := ({ dst := some 19, op := Op.nilCheck (Operand.tmp 18), type := 0, pos := "job.go:110", after := #[{ on := 1, ground := Ground.data }], guard := none } : Oper)) (v := ?_) rfl (by kernel_rfl) (by kernel_rfl) (by kernel_rfl) (fun _ _ _ h => h) (Or.inl ⟨by rfl, ?_⟩) hS ?_
  rotate_left
  · (intro w hSw; (try dsimp only at hSw); go_simp; try with_reducible rfl)
  (try simp only [Act.put, List.setIfInBounds_toArray, List.set_cons_zero, List.set_cons_succ])
  refine wpAnyH_take (i := 3) (oi := ({ dst := some 20, op := Op.fieldAddr 71 (Operand.tmp 19) 1, type := 0, pos := "job.go:110", after := #[{ on := 2, ground := Ground.data }], guard := none } : Oper)) (v := ?_) rfl (by kernel_rfl) (by kernel_rfl) (by kernel_rfl) (fun _ _ _ h => h) (Or.inl ⟨by rfl, ?_⟩) hS ?_
  rotate_left
  · (intro w hSw; (try dsimp only at hSw); go_simp; try with_reducible rfl)
  (try simp only [Act.put, List.setIfInBounds_toArray, List.set_cons_zero, List.set_cons_succ])
  refine wpAnyH_take (i := 4) (oi := ({ dst := some 21, op := Op.load 69 (Operand.tmp 20), type := 69, pos := "job.go:110", after := #[{ on := 3, ground := Ground.data }], guard := none } : Oper)) (v := ?_) rfl (by kernel_rfl) (by kernel_rfl) (by kernel_rfl) (fun _ _ _ h => h) (Or.inl ⟨by rfl, ?_⟩) hS ?_
  rotate_left
  · (intro w hSw; (try dsimp only at hSw); go_simp; try with_reducible rfl)
  (try simp only [Act.put, List.setIfInBounds_toArray, List.set_cons_zero, List.set_cons_succ])
  refine wpAnyH_take (i := 5) (oi := ({ dst := some 22, op := Op.fieldAddr 84 (Operand.tmp 1) 1, type := 0, pos := "job.go:110", after := #[], guard := none } : Oper)) (v := ?_) rfl (by kernel_rfl) (by kernel_rfl) (by kernel_rfl) (fun _ _ _ h => h) (Or.inl ⟨by rfl, ?_⟩) hS ?_
  rotate_left
  · (intro w hSw; (try dsimp only at hSw); go_simp; try with_reducible rfl)
  (try simp only [Act.put, List.setIfInBounds_toArray, List.set_cons_zero, List.set_cons_succ])
  refine wpAnyH_take (i := 6) (oi := ({ dst := some 23, op := Op.load 9 (Operand.tmp 22), type := 9, pos := "job.go:110", after := #[{ on := 5, ground := Ground.data }], guard := none } : Oper)) (v := ?_) rfl (by kernel_rfl) (by kernel_rfl) (by kernel_rfl) (fun _ _ _ h => h) (Or.inl ⟨by rfl, ?_⟩) hS ?_
  rotate_left
  · (intro w hSw; (try dsimp only at hSw); go_simp; try with_reducible rfl)
  (try simp only [Act.put, List.setIfInBounds_toArray, List.set_cons_zero, List.set_cons_succ])
  refine rg_one 7 ({ dst := none, op := Op.call { callee := Callee.builtin Builtin.delete, args := #[Operand.tmp 21, Operand.tmp 23], argTypes := #[69, 9] }, type := 0, pos := "job.go:110", after := #[{ on := 4, ground := Ground.data }, { on := 6, ground := Ground.data }], guard := none } : Oper) (by kernel_rfl) rfl (fun K hK => ?_)
  rw [if_pos (by rfl)]; refine wp_drop (.tmp 21) (.tmp 23) 69 9 rfl 92 Try.underlying9 Try.underlying69 bm _ rfl (show MapOf w2.drew bm _ from HM2.out) s rfl HZ.out ?_; intro w3 HM3 hG3; have HD3 := Lib.hid (HDN.out _ _ _ HJ.out.drew HM3.out HG2.out hG3.out); have hN := rent2 hG3.out HJ.out.drew.ne.1 HJ.out.drew.ne.2 hS
  refine hK.out _ _ ?_ (fun hS1 => ?_)
  · (exact hN)
  clear hK K hS; have hS := hS1; clear hS1
  (try simp only [Act.put])
  refine wpAnyH_done (by kernel_rfl) ?_ _
  clear hS
  go_wp2
  go_end0
  exact ⟨rfl, HD3.out⟩
end Go.Proofs.Ytpnialanmidekaa
