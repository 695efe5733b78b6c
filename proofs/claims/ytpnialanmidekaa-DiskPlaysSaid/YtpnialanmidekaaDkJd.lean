/-
  LAYER 8 (disk), the program's own disk, joined: sync, write, ask, tell. No condition.
-/
import Derived.Test.YtpnialanmidekaaDkJc
/-
  LAYER 8 (disk), the program's own disk: a file whose sectors are turned (its row alone changes); sync. No condition.
-/
namespace Go.Proofs.Ytpnialanmidekaa
open Go.RowKit
theorem gtN_asymm {a b : ByteArray} (h : gtN a b = true) : ¬ gtN b a = true := fun k => gtN_ne (gtN_trans h k) rfl
/-- what takes the place of a thing of its name -/
theorem in_set {α : Type} {nm : α → ByteArray} : ∀ {l : List α}, l.Pairwise (fun x y => gtN (nm y) (nm x) = true) → ∀ (i : Nat) (x y : α), l[i]? = some x → nm y = nm x → inBy nm (outBy nm l (nm x)) y = l.set i y
  | [], _, i, x, y, hx, _ => by simp at hx
  | z :: r, h, 0, x, y, hx, hn => by
    simp at hx; subst hx
    rw [List.pairwise_cons] at h
    have h1 : outBy nm r (nm z) = r := by
      unfold outBy
      rw [List.filter_eq_self]
      intro q hq
      rw [Bool.not_eq_true', decide_eq_false_iff_not]
      exact gtN_ne (h.1 q hq)
    rw [out_cons, if_pos rfl, h1, in_first (fun q hq => by rw [hn]; exact h.1 q hq)]; rfl
  | z :: r, h, i + 1, x, y, hx, hn => by
    rw [List.pairwise_cons] at h
    have hx2 : r[i]? = some x := by simpa using hx
    have hg := h.1 x (List.mem_of_getElem? hx2)
    rw [out_cons, if_neg (fun e => gtN_ne hg e.symm), in_cons, if_neg (by rw [hn]; exact gtN_asymm hg), in_set h.2 i x y hx2 hn]; rfl
theorem withF_set {d : AD} (hg : Good d) (s : ByteArray) (hh : d.has s) (f : AF) (hf : f.name = s) : d.withF f = { d with L := d.L.set (idxN d.L s) f } := by
  have h1 := in_set (nm := AF.name) hg.asc (idxN d.L s) (d.get s) f (d.get_at s hh) (by rw [hf, d.get_name s hh])
  rw [d.get_name s hh] at h1
  unfold AD.withF
  rw [hf]
  exact congrArg (fun L => { d with L := L }) h1
/-- one file's row is turned -/
theorem Dk.rowed {w w' : World} {b bm : Nat} {l : List MF} {d : AD} (h : Dk w b bm l d) {i : Nat} {x : MF} {f : AF} (hx : l[i]? = some x) (hn : f.name = x.f.name) (hk : f.n = x.f.n) (hg : w.grownBy w' (some x.g)) (hr : SR w' x.g x.c (secsOf f)) :
    Dk w' b bm (l.set i ⟨f, x.g, x.c⟩) { d with L := d.L.set i f } := by
  obtain ⟨hi, hxe⟩ := List.getElem?_eq_some_iff.1 hx
  have hxm := List.mem_of_getElem? hx
  obtain ⟨fl, lf, hb, ht⟩ := h.blk
  have hne := h.ne
  have hgs : ((l.set i ⟨f, x.g, x.c⟩).map MF.g) = l.map MF.g := by
    rw [List.map_set]
    have : (l.map MF.g)[i]? = some x.g := by rw [List.getElem?_map, hx]; rfl
    obtain ⟨h1, h2⟩ := List.getElem?_eq_some_iff.1 this
    show (l.map MF.g).set i x.g = _
    rw [← h2, List.set_getElem_self]
  refine ⟨⟨fl, lf, ?_, ht⟩, ?_, ?_, by rw [hgs]; exact h.nodup, ?_⟩
  · exact (hg.block b (Array.getElem?_eq_some_iff.1 hb).1 (fun e => (hne.2 x hxm).1 (Option.some.inj e).symm)).trans hb
  · have he : ents MF.nm MF.dat (l.set i ⟨f, x.g, x.c⟩) = ents MF.nm MF.dat l := by
      unfold ents
      rw [List.map_set]
      have h0 : (l.map fun x => (keyL (MF.nm x), MF.dat x))[i]? = some (keyL (MF.nm x), MF.dat x) := by rw [List.getElem?_map, hx]; rfl
      obtain ⟨h1, h2⟩ := List.getElem?_eq_some_iff.1 h0
      have h3 : (keyL (MF.nm ⟨f, x.g, x.c⟩), MF.dat ⟨f, x.g, x.c⟩) = (keyL (MF.nm x), MF.dat x) := by
        unfold MF.nm MF.dat; rw [hn, hk]
      rw [h3, ← h2, List.set_getElem_self]
    have hm := h.map.keep (w' := w') (hg.block bm h.map.lt (fun e => (hne.2 x hxm).2 (Option.some.inj e).symm))
    unfold MapOf MO at hm ⊢
    rw [he, List.length_set]; exact hm
  · intro y hy
    obtain ⟨j, hj, rfl⟩ := List.getElem_of_mem hy
    rw [List.length_set] at hj
    by_cases hji : j = i
    · subst hji
      rw [List.getElem_set_self]; exact hr
    · rw [List.getElem_set_ne (Ne.symm hji)]
      have hrow := h.row _ (List.getElem_mem hj)
      refine hrow.keep (hg.block _ hrow.lt (fun e => ?_))
      have hnd := h.nodup
      have e2 : (l.map MF.g)[j]'(by simpa using hj) = (l.map MF.g)[i]'(by simpa using hi) := by
        simp only [List.getElem_map]
        rw [hxe]
        exact Option.some.inj e
      exact hji ((List.getElem_inj hnd).1 e2)
  · show d.L.set i f = _
    rw [List.map_set, ← h.files]
theorem own_set {b bm i : Nat} {l : List MF} {x : MF} {f : AF} (hx : l[i]? = some x) (k : Nat) (h : own b bm (l.set i ⟨f, x.g, x.c⟩) k) : own b bm l k := by
  rcases h with rfl | rfl | ⟨y, hy, rfl⟩
  · exact .inl rfl
  · exact .inr (.inl rfl)
  · rcases List.mem_or_eq_of_mem_set hy with hy | rfl
    · exact .inr (.inr ⟨y, hy, rfl⟩)
    · exact .inr (.inr ⟨x, List.mem_of_getElem? hx, rfl⟩)
/-- the first i sectors are as they are seen, lasting -/
def syS (f : AF) (i : Nat) : List Sc := (List.range f.n).map fun j => if j < i then ⟨chunk f.seen j, chunk f.seen j, false⟩ else ⟨chunk f.las j, chunk f.seen j, f.ws.getD j false⟩
theorem syS_get (f : AF) (i j : Nat) (h : j < f.n) : (syS f i)[j]? = some (if j < i then ⟨chunk f.seen j, chunk f.seen j, false⟩ else ⟨chunk f.las j, chunk f.seen j, f.ws.getD j false⟩) := by simp [syS, h]
theorem syS_len (f : AF) (i : Nat) : (syS f i).length = f.n := by simp [syS]
theorem syS_zero (f : AF) : syS f 0 = secsOf f := by simp [syS, secsOf]
theorem syS_succ (f : AF) (i : Nat) (h : i < f.n) : (syS f i).set i ⟨chunk f.seen i, chunk f.seen i, false⟩ = syS f (i + 1) := by
  refine List.ext_getElem? fun j => ?_
  by_cases hj : j < f.n
  · rw [syS_get _ _ _ hj]
    by_cases hji : j = i
    · subst hji
      rw [List.getElem?_set_self (by rw [syS_len]; exact hj), if_pos (by omega)]
    · rw [List.getElem?_set_ne (Ne.symm hji), syS_get _ _ _ hj]
      by_cases h1 : j < i
      · rw [if_pos h1, if_pos (by omega)]
      · rw [if_neg h1, if_neg (by omega)]
  · rw [List.getElem?_eq_none (by rw [List.length_set, syS_len]; omega), List.getElem?_eq_none (by rw [syS_len]; omega)]
/-- a file that was synced -/
def AF.synced (f : AF) : AF := ⟨f.name, f.n, f.seen, f.seen, List.replicate f.n false⟩
theorem syS_all (f : AF) : syS f f.n = secsOf f.synced := by
  refine List.ext_getElem? fun j => ?_
  by_cases hj : j < f.n
  · rw [syS_get _ _ _ hj, if_pos hj, secsOf_get f.synced j hj]
    simp [AF.synced, List.getD, hj]
  · rw [List.getElem?_eq_none (by rw [syS_len]; omega), List.getElem?_eq_none (by rw [secsOf_length]; exact Nat.not_lt.1 hj)]
theorem mixN_all (a b : List Int) (ha : a.length = 64) (hb : b.length = 64) : mixN a b 64 = b := by
  unfold mixN; rw [List.take_of_length_le (by omega), List.drop_eq_nil_of_le (by omega), List.append_nil]
set_option maxRecDepth 8000 in
set_option maxHeartbeats 1000000 in
theorem psync_any (F : Nat → Bool) (w : World) (b bm : Nat) (l : List MF) (d : AD) (s t : ByteArray) (x n : Int) (va : Option Addr) (vm vc : Nat) (h : Dk w b bm l d) (hg : Good d) (hF : ∀ k, own b bm l k → F k = true) (hs : s.size ≤ 281474976710656) (hh : d.has s) :
    Calls Try.prog 46 #[jobV ⟨b, 0, none⟩ s t x n (.slice va vm vc)] w fun e w' => e = .returned (.tuple #[]) ∧ Done F w b bm l (d.withF (d.get s).synced) w' := by
  have HJ := Lib.hid (Jd.start h s t x n (.slice va vm vc))
  have HZ := Lib.hid (size_le hs)
  obtain ⟨y, hy, hf, hym, hl⟩ := h.has s hh
  rw [withF_set hg s hh (d.get s).synced (d.get_name s hh), ← hf]
  have HY := Lib.hid hy
  have HXF := hg.file _ (get_mem hh)
  rw [← hf] at HXF
  have HFg := Lib.hid (hF _ (.inr (.inr ⟨y, hym, rfl⟩)))
  obtain ⟨k, hk⟩ : ∃ k, y.f.n = k := ⟨_, rfl⟩
  have HK := Lib.hid hk
  have hk64 : (k : Int) ≤ 64 := by have := HXF.n64; omega
  have HG2 := Lib.hid HXF
  have HLK := Lib.hid (hl.trans (show y.v = .slice (some ⟨y.g, 0, none⟩) k y.c by rw [← hk]; rfl))
  clear h hs hg hf hym hl hh hy hk HXF
  go_enter Try.func46, Try.ntmps46
  go_wp2
  refine wp_region_held_drew (S := (fun w' => w'.cell? ⟨w.heap.size, 0, none⟩ = some (ptr ⟨b, 0, none⟩) ∧ w'.cell? ⟨w.heap.size, 1, none⟩ = some (.string s) ∧ w'.cell? ⟨w.heap.size, 4, none⟩ = some (.int .i64 n) ∧ w'.cell? ⟨b, 1, none⟩ = some (.map (some bm)))) (by kernel_rfl) HJ.out.drew.four (fun hS => ?_)
  refine wpAnyH_take (i := 0) (oi := ({ dst := some 4, op := Op.fieldAddr 84 (Operand.tmp 1) 0, type := 0, pos := "job.go:102", after := #[], guard := none } : Oper)) (v := ?_) rfl (by kernel_rfl) (by kernel_rfl) (by kernel_rfl) (fun _ _ _ h => h) (Or.inl ⟨by rfl, ?_⟩) hS ?_
  rotate_left
  · (intro w hSw; (try dsimp only at hSw); go_simp; try with_reducible rfl)
  (try simp only [Act.put, List.setIfInBounds_toArray, List.set_cons_zero, List.set_cons_succ])
  refine wpAnyH_take (i := 1) (oi := ({ dst := some 5, op := Op.load 25 (Operand.tmp 4), type := 25, pos := "job.go:102", after := #[{ on := 0, ground := Ground.data }], guard := none } : Oper)) (v := ?_) rfl (by kernel_rfl) (by kernel_rfl) (by kernel_rfl) (fun _ _ _ h => h) (Or.inl ⟨by rfl, ?_⟩) hS ?_
  rotate_left
  · (intro w hSw; (try dsimp only at hSw); go_simp; try with_reducible rfl)
  (try simp only [Act.put, List.setIfInBounds_toArray, List.set_cons_zero, List.set_cons_succ])
  refine wpAnyH_take (i := 2) (oi := ({ dst := some 6, op := Op.nilCheck (Operand.tmp 5), type := 0, pos := "job.go:102", after := #[{ on := 1, ground := Ground.data }], guard := none } : Oper)) (v := ?_) rfl (by kernel_rfl) (by kernel_rfl) (by kernel_rfl) (fun _ _ _ h => h) (Or.inl ⟨by rfl, ?_⟩) hS ?_
  rotate_left
  · (intro w hSw; (try dsimp only at hSw); go_simp; try with_reducible rfl)
  (try simp only [Act.put, List.setIfInBounds_toArray, List.set_cons_zero, List.set_cons_succ])
  refine wpAnyH_take (i := 3) (oi := ({ dst := some 7, op := Op.fieldAddr 71 (Operand.tmp 6) 1, type := 0, pos := "job.go:102", after := #[{ on := 2, ground := Ground.data }], guard := none } : Oper)) (v := ?_) rfl (by kernel_rfl) (by kernel_rfl) (by kernel_rfl) (fun _ _ _ h => h) (Or.inl ⟨by rfl, ?_⟩) hS ?_
  rotate_left
  · (intro w hSw; (try dsimp only at hSw); go_simp; try with_reducible rfl)
  (try simp only [Act.put, List.setIfInBounds_toArray, List.set_cons_zero, List.set_cons_succ])
  refine wpAnyH_take (i := 4) (oi := ({ dst := some 8, op := Op.load 69 (Operand.tmp 7), type := 69, pos := "job.go:102", after := #[{ on := 3, ground := Ground.data }], guard := none } : Oper)) (v := ?_) rfl (by kernel_rfl) (by kernel_rfl) (by kernel_rfl) (fun _ _ _ h => h) (Or.inl ⟨by rfl, ?_⟩) hS ?_
  rotate_left
  · (intro w hSw; (try dsimp only at hSw); go_simp; try with_reducible rfl)
  (try simp only [Act.put, List.setIfInBounds_toArray, List.set_cons_zero, List.set_cons_succ])
  refine wpAnyH_take (i := 5) (oi := ({ dst := some 9, op := Op.fieldAddr 84 (Operand.tmp 1) 1, type := 0, pos := "job.go:102", after := #[], guard := none } : Oper)) (v := ?_) rfl (by kernel_rfl) (by kernel_rfl) (by kernel_rfl) (fun _ _ _ h => h) (Or.inl ⟨by rfl, ?_⟩) hS ?_
  rotate_left
  · (intro w hSw; (try dsimp only at hSw); go_simp; try with_reducible rfl)
  (try simp only [Act.put, List.setIfInBounds_toArray, List.set_cons_zero, List.set_cons_succ])
  refine wpAnyH_take (i := 6) (oi := ({ dst := some 10, op := Op.load 9 (Operand.tmp 9), type := 9, pos := "job.go:102", after := #[{ on := 5, ground := Ground.data }], guard := none } : Oper)) (v := ?_) rfl (by kernel_rfl) (by kernel_rfl) (by kernel_rfl) (fun _ _ _ h => h) (Or.inl ⟨by rfl, ?_⟩) hS ?_
  rotate_left
  · (intro w hSw; (try dsimp only at hSw); go_simp; try with_reducible rfl)
  (try simp only [Act.put, List.setIfInBounds_toArray, List.set_cons_zero, List.set_cons_succ])
  refine rg_one 7 ({ dst := some 11, op := Op.lookup 69 (Operand.tmp 8) (Operand.tmp 10) false, type := 92, pos := "job.go:102", after := #[{ on := 4, ground := Ground.data }, { on := 6, ground := Ground.data }], guard := none } : Oper) (by kernel_rfl) rfl (fun K hK => ?_)
  rw [if_pos (by rfl)]; refine wp_look secE (.tmp 8) (.tmp 10) 69 rfl 9 92 Try.underlying9 Try.underlying69 (zeroS _) bm l rfl HJ.out.drew.dk.map s rfl HZ.out ?_; rw [HLK.out]
  refine hK.out _ _ ?_ (fun hS1 => ?_)
  · (exact hS)
  clear hK K hS; have hS := hS1; clear hS1
  (try simp only [Act.put, List.setIfInBounds_toArray, List.set_cons_zero, List.set_cons_succ])
  refine wpAnyH_take (i := 8) (oi := ({ dst := some 2, op := Op.assign (Operand.tmp 11), type := 92, pos := "job.go:102", after := #[{ on := 7, ground := Ground.data }, { on := 0, ground := Ground.phase }, { on := 1, ground := Ground.phase }, { on := 2, ground := Ground.phase }, { on := 3, ground := Ground.phase }, { on := 4, ground := Ground.phase }, { on := 5, ground := Ground.phase }, { on := 6, ground := Ground.phase }, { on := 7, ground := Ground.phase }], guard := none } : Oper)) (v := ?_) rfl (by kernel_rfl) (by kernel_rfl) (by kernel_rfl) (fun _ _ _ h => h) (Or.inl ⟨by rfl, ?_⟩) hS ?_
  rotate_left
  · (intro w hSw; (try dsimp only at hSw); go_simp; try with_reducible rfl)
  (try simp only [Act.put, List.setIfInBounds_toArray, List.set_cons_zero, List.set_cons_succ])
  refine wpAnyH_done (by kernel_rfl) ?_ _
  clear hS
  have HJ2 := Lib.hid HJ.out.drew
  have hsr := HJ2.out.dk.row y (List.mem_of_getElem? HY.out)
  rw [← syS_zero] at hsr
  have HS0 := Lib.hid hsr
  have HB0 := Lib.hid HJ2.out.below
  clear hsr HJ
  obtain ⟨w1, hw1⟩ : ∃ w1, w1 = (w.alloc (.cells (jobC ⟨b, 0, none⟩ s t x n (.slice va vm vc)) 84)).drew := ⟨_, rfl⟩
  rw [← hw1] at HS0 HB0 HJ2 ⊢
  clear hw1
  go_wp2
  go_loopw [14] (fun iv wr => ∃ i : Nat, iv = .int .i64 i ∧ i ≤ k ∧ Hid (SR wr y.g y.c (syS y.f i)) ∧ Hid (w1.grownBy wr (some y.g))) (fun iv _ => k - (intOf iv).toNat)
  case atStart => exact ⟨0, rfl, by omega, HS0, grown_refl _ _⟩
  case round =>
    obtain ⟨i, rfl, hi, HS, HG⟩ := hrel
    by_cases hlt : (i : Int) < (k : Int)
    · have hik : i < y.f.n := by rw [HK.out]; omega
      have HGT := Lib.hid (syS_get y.f i i hik)
      rw [if_neg (by omega)] at HGT
      have HSU := Lib.hid (syS_succ y.f i hik)
      have HCL := Lib.hid (chunk_length y.f.las y.f.n i HG2.out.las hik)
      have HCS := Lib.hid (chunk_length y.f.seen y.f.n i HG2.out.seen hik)
      have HMX : Hid (mixN (chunk y.f.las i) (chunk y.f.seen i) 64 = chunk y.f.seen i) := Lib.hid (mixN_all _ _ HCL.out HCS.out)
      clear hik
      go_wp2_with (first
        | (go_at_call 49; (refine (settle_any _ y.g y.c i 64 _ _ HS.out HGT.out (Nat.le_refl _)).mono ?_); rintro e w2 ⟨rfl, hs2, hg2⟩; dsimp only at hs2; rw [HMX.out, HSU.out] at hs2; have HS2 := Lib.hid hs2; have HGG := Lib.hid (grown_trans HG.out hg2); clear hs2 hg2))
      go_roundw
      case rel => exact ⟨i + 1, by go_num, by omega, HS2, HGG⟩
      case measure => simp [intOf]; omega
    · obtain rfl : i = k := by omega
      have HDN : Hid (Done F w b bm l { d with L := d.L.set (idxN d.L s) y.f.synced } wr) := Lib.hid (by
        have hr := HS.out
        rw [← HK.out, syS_all] at hr
        exact ⟨_, HJ2.out.dk.rowed HY.out rfl rfl HG.out hr, (Ext.below HB0.out).grown HG.out (.inl HFg.out), fun k hk _ => own_set HY.out k hk⟩)
      go_wp2
      go_end0
      exact ⟨rfl, HDN.out⟩
end Go.Proofs.Ytpnialanmidekaa
/-
  LAYER 8 (disk), the program's own disk: write: sectors that came in are what is seen from some place on. No condition.
-/
namespace Go.Proofs.Ytpnialanmidekaa
open Go.RowKit
/-- a file of which m sectors were written from p on -/
def AF.written (f : AF) (p m : Nat) (fs : List Int) : AF := ⟨f.name, f.n, f.las, f.seen.take (p * 64) ++ fs ++ f.seen.drop (p * 64 + m * 64), f.ws.take p ++ List.replicate m true ++ f.ws.drop (p + m)⟩
/-- .. the first i of them -/
def wrS2 (f : AF) (p : Nat) (fs : List Int) (i : Nat) : List Sc := (List.range f.n).map fun j => if p ≤ j ∧ j < p + i then ⟨chunk f.las j, chunk fs (j - p), true⟩ else ⟨chunk f.las j, chunk f.seen j, f.ws.getD j false⟩
theorem wrS2_get (f : AF) (p : Nat) (fs : List Int) (i j : Nat) (h : j < f.n) : (wrS2 f p fs i)[j]? = some (if p ≤ j ∧ j < p + i then ⟨chunk f.las j, chunk fs (j - p), true⟩ else ⟨chunk f.las j, chunk f.seen j, f.ws.getD j false⟩) := by simp [wrS2, h]
theorem wrS2_len (f : AF) (p : Nat) (fs : List Int) (i : Nat) : (wrS2 f p fs i).length = f.n := by simp [wrS2]
theorem wrS2_zero (f : AF) (p : Nat) (fs : List Int) : wrS2 f p fs 0 = secsOf f := by
  refine List.ext_getElem? fun j => ?_
  by_cases hj : j < f.n
  · rw [wrS2_get _ _ _ _ _ hj, if_neg (by omega), secsOf_get _ _ hj]
  · rw [List.getElem?_eq_none (by rw [wrS2_len]; omega), List.getElem?_eq_none (by rw [secsOf_length]; omega)]
theorem wrS2_succ (f : AF) (p : Nat) (fs : List Int) (i : Nat) (_h : p + i < f.n) : (wrS2 f p fs i).set (p + i) ⟨chunk f.las (p + i), chunk fs i, true⟩ = wrS2 f p fs (i + 1) := by
  refine List.ext_getElem? fun j => ?_
  by_cases hj : j < f.n
  · rw [wrS2_get _ _ _ _ _ hj]
    by_cases hji : j = p + i
    · subst hji
      rw [List.getElem?_set_self (by rw [wrS2_len]; exact hj), if_pos (by omega), show p + i - p = i from by omega]
    · rw [List.getElem?_set_ne (Ne.symm hji), wrS2_get _ _ _ _ _ hj]
      by_cases h1 : p ≤ j ∧ j < p + i
      · rw [if_pos h1, if_pos (by omega)]
      · rw [if_neg h1, if_neg (by omega)]
  · rw [List.getElem?_eq_none (by rw [List.length_set, wrS2_len]; omega), List.getElem?_eq_none (by rw [wrS2_len]; omega)]
theorem chunk_get (l : List Int) (j q : Nat) (hq : q < 64) : (chunk l j)[q]? = l[j * 64 + q]? := by
  unfold chunk
  rw [List.getElem?_take_of_lt hq, List.getElem?_drop]
theorem chunk_out (l : List Int) (j q : Nat) (hq : ¬ q < 64) : (chunk l j)[q]? = none := by
  unfold chunk
  exact List.getElem?_eq_none (by rw [List.length_take]; omega)
theorem wrS2_all (f : AF) (p m : Nat) (fs : List Int) (hf : fs.length = m * 64) (hs : f.seen.length = f.n * 64) (hw : f.ws.length = f.n) (hp : p + m ≤ f.n) : wrS2 f p fs m = secsOf (f.written p m fs) := by
  have hpm : (p + m) * 64 ≤ f.n * 64 := Nat.mul_le_mul_right _ hp
  refine List.ext_getElem? fun j => ?_
  by_cases hj : j < f.n
  · rw [wrS2_get _ _ _ _ _ hj, secsOf_get (f.written p m fs) j hj]
    have hl1 : (f.seen.take (p * 64)).length = p * 64 := by rw [List.length_take]; omega
    have hl2 : (f.ws.take p).length = p := by rw [List.length_take]; omega
    by_cases h1 : p ≤ j ∧ j < p + m
    · rw [if_pos h1]
      have hjm : (j - p + 1) * 64 ≤ m * 64 := Nat.mul_le_mul_right _ (by omega)
      have e1 : chunk (f.written p m fs).seen j = chunk fs (j - p) := by
        refine List.ext_getElem? fun q => ?_
        by_cases hq : q < 64
        · rw [chunk_get _ _ _ hq, chunk_get _ _ _ hq]
          show (f.seen.take (p * 64) ++ fs ++ f.seen.drop (p * 64 + m * 64))[j * 64 + q]? = _
          have hpj : p * 64 ≤ j * 64 := Nat.mul_le_mul_right _ h1.1
          rw [List.append_assoc, List.getElem?_append_right (by omega), hl1, List.getElem?_append_left (by omega)]
          congr 1; omega
        · rw [chunk_out _ _ _ hq, chunk_out _ _ _ hq]
      have e2 : (f.written p m fs).ws.getD j false = true := by
        show (f.ws.take p ++ List.replicate m true ++ f.ws.drop (p + m)).getD j false = true
        unfold List.getD
        rw [List.append_assoc, List.getElem?_append_right (by omega), hl2, List.getElem?_append_left (by rw [List.length_replicate]; omega), List.getElem?_replicate, if_pos (by omega)]; rfl
      rw [e1, e2]; rfl
    · rw [if_neg h1]
      have e1 : chunk (f.written p m fs).seen j = chunk f.seen j := by
        refine List.ext_getElem? fun q => ?_
        by_cases hq : q < 64
        · rw [chunk_get _ _ _ hq, chunk_get _ _ _ hq]
          show (f.seen.take (p * 64) ++ fs ++ f.seen.drop (p * 64 + m * 64))[j * 64 + q]? = _
          by_cases h2 : j < p
          · have : (j + 1) * 64 ≤ p * 64 := Nat.mul_le_mul_right _ h2
            rw [List.append_assoc, List.getElem?_append_left (by omega), List.getElem?_take_of_lt (by omega)]
          · have : (p + m) * 64 ≤ j * 64 := Nat.mul_le_mul_right _ (by omega)
            rw [List.getElem?_append_right (by rw [List.length_append, hl1, hf]; omega), List.length_append, hl1, hf, List.getElem?_drop]
            congr 1; omega
        · rw [chunk_out _ _ _ hq, chunk_out _ _ _ hq]
      have e2 : (f.written p m fs).ws.getD j false = f.ws.getD j false := by
        show (f.ws.take p ++ List.replicate m true ++ f.ws.drop (p + m)).getD j false = _
        unfold List.getD
        by_cases h2 : j < p
        · rw [List.append_assoc, List.getElem?_append_left (by omega), List.getElem?_take_of_lt h2]
        · rw [List.getElem?_append_right (by rw [List.length_append, hl2, List.length_replicate]; omega), List.length_append, hl2, List.length_replicate, List.getElem?_drop]
          congr 2; omega
      rw [e1, e2]; rfl
  · rw [List.getElem?_eq_none (by rw [wrS2_len]; omega), List.getElem?_eq_none (by rw [secsOf_length]; exact Nat.not_lt.1 hj)]
theorem Blk.grown {w w' : World} {b g : Nat} {c : List Int} (h : Blk w b c) (hg : w.grownBy w' (some g)) (hne : b ≠ g) : Blk w' b c :=
  ⟨by rw [hg.block b (Array.getElem?_eq_some_iff.1 h.1).1 (fun e => hne (Option.some.inj e))]; exact h.1, h.2⟩
set_option maxRecDepth 8000 in
set_option maxHeartbeats 2000000 in
theorem pwrite_any (F : Nat → Bool) (w : World) (b bm : Nat) (l : List MF) (d : AD) (s t : ByteArray) (p m : Nat) (n : Int) (va : Option Addr) (vc : Nat) (fs : List Int) (h : Dk w b bm l d) (hg : Good d) (hF : ∀ k, own b bm l k → F k = true) (hs : s.size ≤ 281474976710656) (hh : d.has s)
    (hp : p + m ≤ (d.get s).n) (hfs : FS (mask F w) (.slice va m vc) m fs) :
    Calls Try.prog 45 #[jobV ⟨b, 0, none⟩ s t (p : Int) n (.slice va m vc)] w fun e w' => e = .returned (.tuple #[]) ∧ Done F w b bm l (d.withF ((d.get s).written p m fs)) w' := by
  have HJ := Lib.hid (Jd.start h s t (p : Int) n (.slice va m vc))
  have HZ := Lib.hid (size_le hs)
  obtain ⟨y, hy, hf, hym, hl⟩ := h.has s hh
  rw [withF_set hg s hh ((d.get s).written p m fs) (d.get_name s hh), ← hf]
  have HY := Lib.hid hy
  have HXF := hg.file _ (get_mem hh)
  rw [← hf] at HXF hp
  have HYL := Lib.hid (h.row y hym).lt
  have HFg := Lib.hid (hF _ (.inr (.inr ⟨y, hym, rfl⟩)))
  have HP := Lib.hid hp
  have HFS := Lib.hid hfs
  obtain ⟨k, hk⟩ : ∃ k, y.f.n = k := ⟨_, rfl⟩
  have HK := Lib.hid hk
  have hk64 : k ≤ 64 := by have := HXF.n64; omega
  have hpk : p + m ≤ k := by omega
  have hkc : k ≤ y.c := by
    obtain ⟨cur, _, _, h3, _⟩ := h.row y hym
    rwa [secsOf_length, hk] at h3
  have HG2 := Lib.hid HXF
  have HLK := Lib.hid (hl.trans (show y.v = .slice (some ⟨y.g, 0, none⟩) k y.c by rw [← hk]; rfl))
  clear h hs hg hf hym hl hh hy hk HXF hp hfs
  go_enter Try.func45, Try.ntmps45
  go_wp2
  refine wp_region_held_drew (S := (fun w' => w'.cell? ⟨w.heap.size, 0, none⟩ = some (ptr ⟨b, 0, none⟩) ∧ w'.cell? ⟨w.heap.size, 1, none⟩ = some (.string s) ∧ w'.cell? ⟨w.heap.size, 4, none⟩ = some (.int .i64 n) ∧ w'.cell? ⟨b, 1, none⟩ = some (.map (some bm)))) (by kernel_rfl) HJ.out.drew.four (fun hS => ?_)
  refine wpAnyH_take (i := 0) (oi := ({ dst := some 5, op := Op.fieldAddr 84 (Operand.tmp 1) 0, type := 0, pos := "job.go:87", after := #[], guard := none } : Oper)) (v := ?_) rfl (by kernel_rfl) (by kernel_rfl) (by kernel_rfl) (fun _ _ _ h => h) (Or.inl ⟨by rfl, ?_⟩) hS ?_
  rotate_left
  · (intro w hSw; (try dsimp only at hSw); go_simp; try with_reducible rfl)
  (try simp only [Act.put, List.setIfInBounds_toArray, List.set_cons_zero, List.set_cons_succ])
  refine wpAnyH_take (i := 1) (oi := ({ dst := some 6, op := Op.load 25 (Operand.tmp 5), type := 25, pos := "job.go:87", after := #[{ on := 0, ground := Ground.data }], guard := none } : Oper)) (v := ?_) rfl (by kernel_rfl) (by kernel_rfl) (by kernel_rfl) (fun _ _ _ h => h) (Or.inl ⟨by rfl, ?_⟩) hS ?_
  rotate_left
  · (intro w hSw; (try dsimp only at hSw); go_simp; try with_reducible rfl)
  (try simp only [Act.put, List.setIfInBounds_toArray, List.set_cons_zero, List.set_cons_succ])
  refine wpAnyH_take (i := 2) (oi := ({ dst := some 7, op := Op.nilCheck (Operand.tmp 6), type := 0, pos := "job.go:87", after := #[{ on := 1, ground := Ground.data }], guard := none } : Oper)) (v := ?_) rfl (by kernel_rfl) (by kernel_rfl) (by kernel_rfl) (fun _ _ _ h => h) (Or.inl ⟨by rfl, ?_⟩) hS ?_
  rotate_left
  · (intro w hSw; (try dsimp only at hSw); go_simp; try with_reducible rfl)
  (try simp only [Act.put, List.setIfInBounds_toArray, List.set_cons_zero, List.set_cons_succ])
  refine wpAnyH_take (i := 3) (oi := ({ dst := some 8, op := Op.fieldAddr 71 (Operand.tmp 7) 1, type := 0, pos := "job.go:87", after := #[{ on := 2, ground := Ground.data }], guard := none } : Oper)) (v := ?_) rfl (by kernel_rfl) (by kernel_rfl) (by kernel_rfl) (fun _ _ _ h => h) (Or.inl ⟨by rfl, ?_⟩) hS ?_
  rotate_left
  · (intro w hSw; (try dsimp only at hSw); go_simp; try with_reducible rfl)
  (try simp only [Act.put, List.setIfInBounds_toArray, List.set_cons_zero, List.set_cons_succ])
  refine wpAnyH_take (i := 4) (oi := ({ dst := some 9, op := Op.load 69 (Operand.tmp 8), type := 69, pos := "job.go:87", after := #[{ on := 3, ground := Ground.data }], guard := none } : Oper)) (v := ?_) rfl (by kernel_rfl) (by kernel_rfl) (by kernel_rfl) (fun _ _ _ h => h) (Or.inl ⟨by rfl, ?_⟩) hS ?_
  rotate_left
  · (intro w hSw; (try dsimp only at hSw); go_simp; try with_reducible rfl)
  (try simp only [Act.put, List.setIfInBounds_toArray, List.set_cons_zero, List.set_cons_succ])
  refine wpAnyH_take (i := 5) (oi := ({ dst := some 10, op := Op.fieldAddr 84 (Operand.tmp 1) 1, type := 0, pos := "job.go:87", after := #[], guard := none } : Oper)) (v := ?_) rfl (by kernel_rfl) (by kernel_rfl) (by kernel_rfl) (fun _ _ _ h => h) (Or.inl ⟨by rfl, ?_⟩) hS ?_
  rotate_left
  · (intro w hSw; (try dsimp only at hSw); go_simp; try with_reducible rfl)
  (try simp only [Act.put, List.setIfInBounds_toArray, List.set_cons_zero, List.set_cons_succ])
  refine wpAnyH_take (i := 6) (oi := ({ dst := some 11, op := Op.load 9 (Operand.tmp 10), type := 9, pos := "job.go:87", after := #[{ on := 5, ground := Ground.data }], guard := none } : Oper)) (v := ?_) rfl (by kernel_rfl) (by kernel_rfl) (by kernel_rfl) (fun _ _ _ h => h) (Or.inl ⟨by rfl, ?_⟩) hS ?_
  rotate_left
  · (intro w hSw; (try dsimp only at hSw); go_simp; try with_reducible rfl)
  (try simp only [Act.put, List.setIfInBounds_toArray, List.set_cons_zero, List.set_cons_succ])
  refine rg_one 7 ({ dst := some 12, op := Op.lookup 69 (Operand.tmp 9) (Operand.tmp 11) false, type := 92, pos := "job.go:87", after := #[{ on := 4, ground := Ground.data }, { on := 6, ground := Ground.data }], guard := none } : Oper) (by kernel_rfl) rfl (fun K hK => ?_)
  rw [if_pos (by rfl)]; refine wp_look secE (.tmp 9) (.tmp 11) 69 rfl 9 92 Try.underlying9 Try.underlying69 (zeroS _) bm l rfl HJ.out.drew.dk.map s rfl HZ.out ?_; rw [HLK.out]
  refine hK.out _ _ ?_ (fun hS1 => ?_)
  · (exact hS)
  clear hK K hS; have hS := hS1; clear hS1
  (try simp only [Act.put, List.setIfInBounds_toArray, List.set_cons_zero, List.set_cons_succ])
  refine wpAnyH_take (i := 8) (oi := ({ dst := some 2, op := Op.assign (Operand.tmp 12), type := 92, pos := "job.go:87", after := #[{ on := 7, ground := Ground.data }, { on := 0, ground := Ground.phase }, { on := 1, ground := Ground.phase }, { on := 2, ground := Ground.phase }, { on := 3, ground := Ground.phase }, { on := 4, ground := Ground.phase }, { on := 5, ground := Ground.phase }, { on := 6, ground := Ground.phase }, { on := 7, ground := Ground.phase }], guard := none } : Oper)) (v := ?_) rfl (by kernel_rfl) (by kernel_rfl) (by kernel_rfl) (fun _ _ _ h => h) (Or.inl ⟨by rfl, ?_⟩) hS ?_
  rotate_left
  · (intro w hSw; (try dsimp only at hSw); go_simp; try with_reducible rfl)
  (try simp only [Act.put, List.setIfInBounds_toArray, List.set_cons_zero, List.set_cons_succ])
  refine wpAnyH_done (by kernel_rfl) ?_ _
  clear hS
  have HJ2 := Lib.hid HJ.out.drew
  have hsr := HJ2.out.dk.row y (List.mem_of_getElem? HY.out)
  rw [← wrS2_zero y.f p fs] at hsr
  have HS0 := Lib.hid hsr
  have HB0 := Lib.hid HJ2.out.below
  clear hsr HJ
  obtain ⟨w1, hw1⟩ : ∃ w1, w1 = (w.alloc (.cells (jobC ⟨b, 0, none⟩ s t (p : Int) n (.slice va m vc)) 84)).drew := ⟨_, rfl⟩
  rw [← hw1] at HS0 HB0 HJ2 ⊢
  obtain ⟨c0, c1, c2, c3, c4, c5⟩ := HJ2.out.jb.cells
  clear hw1
  go_wp2
  go_loopw [16] (fun iv wr => ∃ i : Nat, iv = .int .i64 i ∧ i ≤ m ∧ Hid (SR wr y.g y.c (wrS2 y.f p fs i)) ∧ Hid (w1.grownBy wr (some y.g))) (fun iv _ => m - (intOf iv).toNat)
  case atStart => exact ⟨0, rfl, by omega, HS0, grown_refl _ _⟩
  case round =>
    obtain ⟨i, rfl, hi, HS, HG⟩ := hrel
    by_cases hlt : (i : Int) < (m : Int)
    · have him : i < m := by omega
      have hik : p + i < y.f.n := by rw [HK.out]; omega
      have HGT := Lib.hid (wrS2_get y.f p fs i (p + i) hik)
      rw [if_neg (by omega)] at HGT
      have HSU := Lib.hid (wrS2_succ y.f p fs i hik)
      have HEX := Lib.hid ((Ext.below (F := F) HB0.out).grown HG.out (.inl HFg.out))
      have HFW : Hid (FS wr (.slice va m vc) m fs) := Lib.hid ((HFS.out.kin HEX.out.kin).kin (unmask F wr))
      obtain ⟨sb, so, rfl, hat⟩ := HFW.out.at_ i him
      have HAT : Hid (At wr sb (so + i * 64) (chunk fs i)) := Lib.hid hat
      have HCL : Hid ((chunk fs i).length = 64) := Lib.hid hat.1
      have c3' : wr.cell? ⟨w.heap.size, 3, none⟩ = some (.int .i64 (p : Int)) := grown_cell HG.out (fun e => by have := HYL.out; simp only at e; omega) c3
      have hw2 : IntKind.i64.wrap ((p : Int) + (i : Int)) = ((p + i : Nat) : Int) := by rw [IntWalk.i64_in _ (by omega)]; omega
      obtain ⟨q, hq⟩ : ∃ q, p + i = q := ⟨_, rfl⟩
      rw [hq] at hw2 hik HGT HSU
      have hqk : q < k := by omega
      have hqc : (q : Int) < (k : Int) := by omega
      have HZ6 := Lib.hid z64_cells
      have HSZ := Lib.hid HG.out.size
      have HSZ2 := Lib.hid HJ2.out.size
      have HGT2 : Hid (((wrS2 y.f p fs i).set q ⟨chunk y.f.las q, chunk fs i, y.f.ws.getD q false⟩)[q]? = some ⟨chunk y.f.las q, chunk fs i, y.f.ws.getD q false⟩) := Lib.hid (List.getElem?_set_self (by rw [wrS2_len]; exact hik))
      have hny : w.heap.size ≠ y.g := fun e => by have := HYL.out; omega
      have hnr : wr.heap.size ≠ y.g := fun e => by have := HYL.out; have h1 := HSZ.out; have h2 := HSZ2.out; have h3 := HJ2.out.size; omega
      clear hat hik him
      go_wp2_with (first
        | (refine wpl_load_at rfl (.tmp 19) rfl sb (so + i * 64) rfl _ HAT.out ?_)
        | (rw [← HZ6.out]; refine wpl_store_new rfl _ _ rfl rfl wr.heap.size rfl _ HCL.out rfl rfl wr (Lib.hid (Below.refl _ _)) ?_; intro w2 HK2 HB2 HW2; have HS2 := Lib.hid (HS.out.keep (HB2.out.block _ HS.out.lt)); have HG3 := Lib.hid (grown_trans HG.out (show wr.grownBy w2 (some y.g) from ⟨HB2.out.os, HB2.out.tape, HB2.out.output, HB2.out.size, fun j hj _ => HB2.out.block j hj⟩)); have c3'' := cell_keep HB2.out c3'))
      refine wp_region_held_drew (S := (fun w' => w'.cell? ⟨w.heap.size, 3, none⟩ = some (.int .i64 (p : Int)) ∧ Blk w' wr.heap.size (chunk fs i))) (by kernel_rfl) ⟨c3'', HK2.out⟩ (fun hS => ?_)
      refine wpAnyH_take (i := 0) (oi := ({ dst := some 21, op := Op.move (Operand.tmp 2), type := 92, pos := "job.go:89", after := #[], guard := none } : Oper)) (v := ?_) rfl (by kernel_rfl) (by kernel_rfl) (by kernel_rfl) (fun _ _ _ h => h) (Or.inl ⟨by rfl, ?_⟩) hS ?_
      rotate_left
      · (intro w hSw; (try dsimp only at hSw); go_simp; try with_reducible rfl)
      (try simp only [Act.put, List.setIfInBounds_toArray, List.set_cons_zero, List.set_cons_succ])
      refine wpAnyH_take (i := 1) (oi := ({ dst := some 22, op := Op.fieldAddr 84 (Operand.tmp 1) 3, type := 0, pos := "job.go:89", after := #[], guard := none } : Oper)) (v := ?_) rfl (by kernel_rfl) (by kernel_rfl) (by kernel_rfl) (fun _ _ _ h => h) (Or.inl ⟨by rfl, ?_⟩) hS ?_
      rotate_left
      · (intro w hSw; (try dsimp only at hSw); go_simp; try with_reducible rfl)
      (try simp only [Act.put, List.setIfInBounds_toArray, List.set_cons_zero, List.set_cons_succ])
      refine wpAnyH_take (i := 2) (oi := ({ dst := some 23, op := Op.load 3 (Operand.tmp 22), type := 3, pos := "job.go:89", after := #[{ on := 1, ground := Ground.data }], guard := none } : Oper)) (v := ?_) rfl (by kernel_rfl) (by kernel_rfl) (by kernel_rfl) (fun _ _ _ h => h) (Or.inl ⟨by rfl, ?_⟩) hS ?_
      rotate_left
      · (intro w hSw; (try dsimp only at hSw); go_simp; try with_reducible rfl)
      (try simp only [Act.put, List.setIfInBounds_toArray, List.set_cons_zero, List.set_cons_succ])
      refine wpAnyH_take (i := 3) (oi := ({ dst := some 24, op := Op.move (Operand.tmp 3), type := 3, pos := "job.go:89", after := #[], guard := none } : Oper)) (v := ?_) rfl (by kernel_rfl) (by kernel_rfl) (by kernel_rfl) (fun _ _ _ h => h) (Or.inl ⟨by rfl, ?_⟩) hS ?_
      rotate_left
      · (intro w hSw; (try dsimp only at hSw); go_simp; try with_reducible rfl)
      (try simp only [Act.put, List.setIfInBounds_toArray, List.set_cons_zero, List.set_cons_succ])
      refine wpAnyH_take (i := 4) (oi := ({ dst := some 25, op := Op.binOp BinOp.add 3 (Operand.tmp 23) (Operand.tmp 24) 3, type := 3, pos := "job.go:89", after := #[{ on := 2, ground := Ground.data }, { on := 3, ground := Ground.data }], guard := none } : Oper)) (v := .int .i64 (q : Int)) rfl (by kernel_rfl) (by kernel_rfl) (by kernel_rfl) (fun _ _ _ h => h) (Or.inl ⟨by rfl, ?_⟩) hS ?_
      · (intro w hSw; (try dsimp only at hSw); go_simp)
      (try simp only [Act.put, List.setIfInBounds_toArray, List.set_cons_zero, List.set_cons_succ])
      refine wpAnyH_take (i := 5) (oi := ({ dst := some 26, op := Op.move (Operand.tmp 2), type := 92, pos := "job.go:89", after := #[{ on := 13, ground := Ground.gcOnly Departure.lateStores }], guard := none } : Oper)) (v := ?_) rfl (by kernel_rfl) (by kernel_rfl) (by kernel_rfl) (fun _ _ _ h => h) (Or.inl ⟨by rfl, ?_⟩) hS ?_
      rotate_left
      · (intro w hSw; (try dsimp only at hSw); go_simp; try with_reducible rfl)
      (try simp only [Act.put, List.setIfInBounds_toArray, List.set_cons_zero, List.set_cons_succ])
      refine wpAnyH_take (i := 6) (oi := ({ dst := some 27, op := Op.fieldAddr 84 (Operand.tmp 1) 3, type := 0, pos := "job.go:89", after := #[{ on := 13, ground := Ground.gcOnly Departure.lateStores }], guard := none } : Oper)) (v := ?_) rfl (by kernel_rfl) (by kernel_rfl) (by kernel_rfl) (fun _ _ _ h => h) (Or.inl ⟨by rfl, ?_⟩) hS ?_
      rotate_left
      · (intro w hSw; (try dsimp only at hSw); go_simp; try with_reducible rfl)
      (try simp only [Act.put, List.setIfInBounds_toArray, List.set_cons_zero, List.set_cons_succ])
      refine wpAnyH_take (i := 7) (oi := ({ dst := some 28, op := Op.load 3 (Operand.tmp 27), type := 3, pos := "job.go:89", after := #[{ on := 6, ground := Ground.data }, { on := 13, ground := Ground.gcOnly Departure.lateStores }], guard := none } : Oper)) (v := ?_) rfl (by kernel_rfl) (by kernel_rfl) (by kernel_rfl) (fun _ _ _ h => h) (Or.inl ⟨by rfl, ?_⟩) hS ?_
      rotate_left
      · (intro w hSw; (try dsimp only at hSw); go_simp; try with_reducible rfl)
      (try simp only [Act.put, List.setIfInBounds_toArray, List.set_cons_zero, List.set_cons_succ])
      refine wpAnyH_take (i := 8) (oi := ({ dst := some 29, op := Op.move (Operand.tmp 3), type := 3, pos := "job.go:89", after := #[{ on := 13, ground := Ground.gcOnly Departure.lateStores }], guard := none } : Oper)) (v := ?_) rfl (by kernel_rfl) (by kernel_rfl) (by kernel_rfl) (fun _ _ _ h => h) (Or.inl ⟨by rfl, ?_⟩) hS ?_
      rotate_left
      · (intro w hSw; (try dsimp only at hSw); go_simp; try with_reducible rfl)
      (try simp only [Act.put, List.setIfInBounds_toArray, List.set_cons_zero, List.set_cons_succ])
      refine wpAnyH_take (i := 9) (oi := ({ dst := some 30, op := Op.binOp BinOp.add 3 (Operand.tmp 28) (Operand.tmp 29) 3, type := 3, pos := "job.go:89", after := #[{ on := 7, ground := Ground.data }, { on := 8, ground := Ground.data }, { on := 13, ground := Ground.gcOnly Departure.lateStores }], guard := none } : Oper)) (v := .int .i64 (q : Int)) rfl (by kernel_rfl) (by kernel_rfl) (by kernel_rfl) (fun _ _ _ h => h) (Or.inl ⟨by rfl, ?_⟩) hS ?_
      · (intro w hSw; (try dsimp only at hSw); go_simp)
      (try simp only [Act.put, List.setIfInBounds_toArray, List.set_cons_zero, List.set_cons_succ])
      refine wpAnyH_take (i := 10) (oi := ({ dst := some 31, op := Op.load 67 (Operand.tmp 4), type := 67, pos := "job.go:89", after := #[], guard := none } : Oper)) (v := ?_) rfl (by kernel_rfl) (by kernel_rfl) (by kernel_rfl) (fun _ _ _ h => h) (Or.inl ⟨by rfl, ?_⟩) hS ?_
      rotate_left
      · (intro w hSw; (try dsimp only at hSw); refine exec_load_sec (.tmp 4) ?_ ?_ hSw.2 <;> rfl)
      (try simp only [Act.put, List.setIfInBounds_toArray, List.set_cons_zero, List.set_cons_succ])
      refine wpAnyH_take (i := 11) (oi := ({ dst := some 32, op := Op.indexAddr 92 (Operand.tmp 21) (Operand.tmp 25), type := 0, pos := "job.go:89", after := #[{ on := 0, ground := Ground.data }, { on := 4, ground := Ground.data }, { on := 0, ground := Ground.phase }, { on := 1, ground := Ground.phase }, { on := 2, ground := Ground.phase }, { on := 3, ground := Ground.phase }, { on := 4, ground := Ground.phase }, { on := 5, ground := Ground.textOnly Departure.lateStores }, { on := 6, ground := Ground.textOnly Departure.lateStores }, { on := 7, ground := Ground.textOnly Departure.lateStores }, { on := 8, ground := Ground.textOnly Departure.lateStores }, { on := 9, ground := Ground.textOnly Departure.lateStores }, { on := 10, ground := Ground.phase }], guard := none } : Oper)) (v := ?_) rfl (by kernel_rfl) (by kernel_rfl) (by kernel_rfl) (fun _ _ _ h => h) (Or.inl ⟨by rfl, ?_⟩) hS ?_
      rotate_left
      · (intro w hSw; (try dsimp only at hSw); go_simp; try with_reducible rfl)
      (try simp only [Act.put, List.setIfInBounds_toArray, List.set_cons_zero, List.set_cons_succ])
      refine wpAnyH_take (i := 12) (oi := ({ dst := some 33, op := Op.fieldAddr 95 (Operand.tmp 32) 1, type := 0, pos := "job.go:89", after := #[{ on := 11, ground := Ground.data }, { on := 0, ground := Ground.phase }, { on := 1, ground := Ground.phase }, { on := 2, ground := Ground.phase }, { on := 3, ground := Ground.phase }, { on := 4, ground := Ground.phase }, { on := 5, ground := Ground.textOnly Departure.lateStores }, { on := 6, ground := Ground.textOnly Departure.lateStores }, { on := 7, ground := Ground.textOnly Departure.lateStores }, { on := 8, ground := Ground.textOnly Departure.lateStores }, { on := 9, ground := Ground.textOnly Departure.lateStores }, { on := 10, ground := Ground.phase }], guard := none } : Oper)) (v := ?_) rfl (by kernel_rfl) (by kernel_rfl) (by kernel_rfl) (fun _ _ _ h => h) (Or.inl ⟨by rfl, ?_⟩) hS ?_
      rotate_left
      · (intro w hSw; (try dsimp only at hSw); go_simp; try with_reducible rfl)
      (try simp only [Act.put, List.setIfInBounds_toArray, List.set_cons_zero, List.set_cons_succ])
      refine rg_one 13 ({ dst := none, op := Op.store 67 (Operand.tmp 33) (Operand.tmp 31), type := 0, pos := "job.go:89", after := #[{ on := 12, ground := Ground.data }, { on := 10, ground := Ground.data }, { on := 0, ground := Ground.phase }, { on := 1, ground := Ground.phase }, { on := 2, ground := Ground.phase }, { on := 3, ground := Ground.phase }, { on := 4, ground := Ground.phase }, { on := 5, ground := Ground.textOnly Departure.lateStores }, { on := 6, ground := Ground.textOnly Departure.lateStores }, { on := 7, ground := Ground.textOnly Departure.lateStores }, { on := 8, ground := Ground.textOnly Departure.lateStores }, { on := 9, ground := Ground.textOnly Departure.lateStores }, { on := 10, ground := Ground.phase }], guard := none } : Oper) (by kernel_rfl) rfl (fun K hK => ?_)
      rw [if_pos (by rfl)]; refine wp_put_se (.tmp 33) (.tmp 31) rfl y.g y.c _ (SR.keep HS2.out rfl) q _ HGT.out (chunk fs i) HCL.out (q * 129 + 64) rfl rfl rfl ?_; intro w3 HS3 hG3; dsimp only at HS3; have HG4 := Lib.hid (grown_trans (grown_drew HG3.out) hG3.out); have hN := (⟨grown_cell hG3.out hny hS.1, hS.2.grown hG3.out hnr⟩ : w3.cell? ⟨w.heap.size, 3, none⟩ = some (.int .i64 (p : Int)) ∧ Blk w3 wr.heap.size (chunk fs i)); clear hG3
      refine hK.out _ _ ?_ (fun hS1 => ?_)
      · (exact hN)
      clear hK K hS; have hS := hS1; clear hS1
      (try simp only [Act.put])
      refine wpAnyH_take (i := 14) (oi := ({ dst := some 34, op := Op.indexAddr 92 (Operand.tmp 26) (Operand.tmp 30), type := 0, pos := "job.go:89", after := #[{ on := 5, ground := Ground.data }, { on := 9, ground := Ground.data }, { on := 0, ground := Ground.phase }, { on := 1, ground := Ground.phase }, { on := 2, ground := Ground.phase }, { on := 3, ground := Ground.phase }, { on := 4, ground := Ground.phase }, { on := 5, ground := Ground.phase }, { on := 6, ground := Ground.phase }, { on := 7, ground := Ground.phase }, { on := 8, ground := Ground.phase }, { on := 9, ground := Ground.phase }, { on := 10, ground := Ground.phase }, { on := 11, ground := Ground.phase }, { on := 12, ground := Ground.phase }, { on := 13, ground := Ground.phase }], guard := none } : Oper)) (v := ?_) rfl (by kernel_rfl) (by kernel_rfl) (by kernel_rfl) (fun _ _ _ h => h) (Or.inl ⟨by rfl, ?_⟩) hS ?_
      rotate_left
      · (intro w hSw; (try dsimp only at hSw); go_simp; try with_reducible rfl)
      (try simp only [Act.put, List.setIfInBounds_toArray, List.set_cons_zero, List.set_cons_succ])
      refine wpAnyH_take (i := 15) (oi := ({ dst := some 35, op := Op.fieldAddr 95 (Operand.tmp 34) 2, type := 0, pos := "job.go:89", after := #[{ on := 14, ground := Ground.data }, { on := 0, ground := Ground.phase }, { on := 1, ground := Ground.phase }, { on := 2, ground := Ground.phase }, { on := 3, ground := Ground.phase }, { on := 4, ground := Ground.phase }, { on := 5, ground := Ground.phase }, { on := 6, ground := Ground.phase }, { on := 7, ground := Ground.phase }, { on := 8, ground := Ground.phase }, { on := 9, ground := Ground.phase }, { on := 10, ground := Ground.phase }, { on := 11, ground := Ground.phase }, { on := 12, ground := Ground.phase }, { on := 13, ground := Ground.phase }], guard := none } : Oper)) (v := ?_) rfl (by kernel_rfl) (by kernel_rfl) (by kernel_rfl) (fun _ _ _ h => h) (Or.inl ⟨by rfl, ?_⟩) hS ?_
      rotate_left
      · (intro w hSw; (try dsimp only at hSw); go_simp; try with_reducible rfl)
      (try simp only [Act.put, List.setIfInBounds_toArray, List.set_cons_zero, List.set_cons_succ])
      refine rg_one 16 ({ dst := none, op := Op.store 4 (Operand.tmp 35) (Operand.const (Value.bool true)), type := 0, pos := "job.go:89", after := #[{ on := 15, ground := Ground.data }, { on := 13, ground := Ground.chain }, { on := 0, ground := Ground.phase }, { on := 1, ground := Ground.phase }, { on := 2, ground := Ground.phase }, { on := 3, ground := Ground.phase }, { on := 4, ground := Ground.phase }, { on := 5, ground := Ground.phase }, { on := 6, ground := Ground.phase }, { on := 7, ground := Ground.phase }, { on := 8, ground := Ground.phase }, { on := 9, ground := Ground.phase }, { on := 10, ground := Ground.phase }, { on := 11, ground := Ground.phase }, { on := 12, ground := Ground.phase }, { on := 13, ground := Ground.phase }], guard := none } : Oper) (by kernel_rfl) rfl (fun K hK => ?_)
      rw [if_pos (by rfl)]; refine wp_put_wt (.tmp 35) (.const (.bool true)) rfl y.g y.c _ HS3.out q _ HGT2.out true (q * 129 + 128) rfl rfl rfl ?_; intro w4 HS4 hG4; dsimp only at HS4; rw [List.set_set, HSU.out] at HS4; have HG5 := Lib.hid (grown_trans HG4.out hG4.out); clear hN; have hN := (⟨grown_cell hG4.out hny hS.1, hS.2.grown hG4.out hnr⟩ : w4.cell? ⟨w.heap.size, 3, none⟩ = some (.int .i64 (p : Int)) ∧ Blk w4 wr.heap.size (chunk fs i)); clear hG4
      refine hK.out _ _ ?_ (fun hS1 => ?_)
      · (exact hN)
      clear hK K hS; have hS := hS1; clear hS1
      (try simp only [Act.put])
      refine wpAnyH_done (by kernel_rfl) ?_ _
      clear hS hN
      go_wp2
      go_roundw
      case rel => exact ⟨i + 1, by go_num, by omega, HS4, HG5⟩
      case measure => simp [intOf]; omega
    · obtain rfl : i = m := by omega
      have HDN : Hid (Done F w b bm l { d with L := d.L.set (idxN d.L s) (y.f.written p i fs) } wr) := Lib.hid (by
        have hr := HS.out
        rw [wrS2_all y.f p i fs HFS.out.length HG2.out.seen HG2.out.ws HP.out] at hr
        exact ⟨_, HJ2.out.dk.rowed HY.out rfl rfl HG.out hr, (Ext.below HB0.out).grown HG.out (.inl HFg.out), fun k hk _ => own_set HY.out k hk⟩)
      go_wp2
      go_end0
      exact ⟨rfl, HDN.out⟩
end Go.Proofs.Ytpnialanmidekaa
/-
  LAYER 8 (disk), the program's own disk: ask and tell, of whatever function they are handed. No condition.
-/
namespace Go.Proofs.Ytpnialanmidekaa
open Go.RowKit
abbrev fnV (fn : Nat) (cs : Array Value) : Value := .func (.func fn) cs #[]
theorem ask_down (w : World) (b bm : Nat) (l : List MF) (d : AD) (h : Dk w b bm l d) (hd : d.down = true) (v : Value) :
    Calls Try.prog 52 #[ptr ⟨b, 0, none⟩, v] w fun e w' => e = .returned (.int .i64 9) ∧ w = w' := by
  obtain ⟨fl, lf, hb, _⟩ := h.blk
  obtain ⟨_, _, _, c3, _⟩ := hb.cells
  rw [hd] at c3
  clear hb h hd
  go_enter Try.func52, Try.ntmps52
  go_wp2
  go_ret
  exact ⟨rfl, rfl⟩
theorem ask_up (w : World) (b bm : Nat) (l : List MF) (d : AD) (h : Dk w b bm l d) (hd : d.down = false) (fn : Nat) (eg : ∀ args w, (callFunc fn args).run Try.prog w = .ok (.enter fn args) w) (cs : Array Value) (y : Int)
    (hmay : Calls Try.prog fn cs w fun e w' => e = .returned (.int .i64 y) ∧ Below w.heap.size w w') :
    Calls Try.prog 52 #[ptr ⟨b, 0, none⟩, fnV fn cs] w fun e w' => e = .returned (.int .i64 y) ∧ Below w.heap.size w w' := by
  obtain ⟨fl, lf, hb, _⟩ := h.blk
  obtain ⟨_, _, _, c3, _⟩ := hb.cells
  rw [hd] at c3
  have HM := Lib.hid hmay
  clear hb h hd hmay
  go_enter Try.func52, Try.ntmps52
  go_wp2_with (first
    | (with_reducible refine HM.out.mono ?_; rintro e w1 ⟨rfl, hb⟩; have HB := Lib.hid hb; clear hb))
  go_ret
  exact ⟨rfl, HB.out⟩
theorem tell_down (w : World) (b bm : Nat) (l : List MF) (d : AD) (h : Dk w b bm l d) (hd : d.down = true) (v u : Value) :
    Calls Try.prog 55 #[ptr ⟨b, 0, none⟩, v, u] w fun e w' => e = .returned (.int .i64 9) ∧ w = w' := by
  have HD := Lib.hid h
  have HDN := Lib.hid hd
  clear h hd
  go_enter Try.func55, Try.ntmps55
  go_wp2_with (first
    | (go_at_call 52; (with_reducible refine (ask_down _ b bm l d HD.out HDN.out v).mono ?_); rintro e w1 ⟨rfl, rfl⟩))
  go_ret
  exact ⟨rfl, rfl⟩
theorem tell_not (w : World) (b bm : Nat) (l : List MF) (d : AD) (h : Dk w b bm l d) (hd : d.down = false) (fn : Nat) (eg : ∀ args w, (callFunc fn args).run Try.prog w = .ok (.enter fn args) w) (cs : Array Value) (y : Int) (hy : ¬ y = 0)
    (hmay : Calls Try.prog fn cs w fun e w' => e = .returned (.int .i64 y) ∧ Below w.heap.size w w') (u : Value) :
    Calls Try.prog 55 #[ptr ⟨b, 0, none⟩, fnV fn cs, u] w fun e w' => e = .returned (.int .i64 y) ∧ Below w.heap.size w w' := by
  have HA := Lib.hid (ask_up w b bm l d h hd fn eg cs y hmay)
  clear h hd hmay eg
  go_enter Try.func55, Try.ntmps55
  go_wp2_with (first
    | (go_at_call 52; (with_reducible refine HA.out.mono ?_); rintro e w1 ⟨rfl, hb⟩; have HB := Lib.hid hb; clear hb))
  go_ret
  exact ⟨rfl, HB.out⟩
/-- a cell of the disk's block is turned -/
theorem Dk.cellset {w : World} {b bm : Nat} {l : List MF} {d d' : AD} {fl fl' : Bool} {lf lf' : Int} (h : Dk w b bm l d) (hb : DBk w b bm d fl lf) (j : Nat) (v : Value) (hc : (dCells bm d fl lf).setIfInBounds j v = dCells bm d' fl' lf') (hL : d'.L = d.L) (ht : d'.down = false → fl' = d'.told ∧ lf' = d'.after) :
    Dk (w.setCell ⟨b, j, none⟩ v) b bm l d' ∧ DBk (w.setCell ⟨b, j, none⟩ v) b bm d' fl' lf' := by
  have h1 : DBk (w.setCell ⟨b, j, none⟩ v) b bm d' fl' lf' := by
    have := hb.set j v
    rw [hc] at this; exact this
  have hne := h.ne
  have hk : ∀ k, k ≠ b → (w.setCell ⟨b, j, none⟩ v).heap[k]? = w.heap[k]? := fun k hk => Below.heap_setCell w ⟨b, j, none⟩ v k hk
  exact ⟨⟨⟨fl', lf', h1, ht⟩, h.map.keep (hk _ (fun e => hne.1 e.symm)), fun x hx => (h.row x hx).keep (hk _ (hne.2 x hx).1), h.nodup, by rw [hL, h.files]⟩, h1⟩
theorem Ext.cellset {F : Nat → Bool} {w w' : World} (h : Ext F w w' F) {b : Nat} (hb : F b = true) (j : Nat) (v : Value) : Ext F w (w'.setCell ⟨b, j, none⟩ v) F := h.grown (grown_setCell b j v w') (.inl hb)
theorem Done.trans {F : Nat → Bool} {w w1 w2 : World} {b bm : Nat} {l : List MF} {d : AD} (hx : Ext F w w1 F) (h : Done F w1 b bm l d w2) : Done F w b bm l d w2 := by
  obtain ⟨l', h1, h2, h3⟩ := h
  exact ⟨l', h1, hx.trans h2, fun k hk hl => h3 k hk (Nat.lt_of_lt_of_le hl hx.size)⟩
set_option maxRecDepth 8000 in
theorem tell_dies (F : Nat → Bool) (w : World) (b bm : Nat) (l : List MF) (d : AD) (h : Dk w b bm l d) (hF : ∀ k, own b bm l k → F k = true) (hd : d.down = false) (hto : d.told = true ∧ d.after = 0) (fn : Nat) (eg : ∀ args w, (callFunc fn args).run Try.prog w = .ok (.enter fn args) w) (cs : Array Value)
    (hmay : Calls Try.prog fn cs w fun e w' => e = .returned (.int .i64 0) ∧ Below w.heap.size w w') (u : Value) :
    Calls Try.prog 55 #[ptr ⟨b, 0, none⟩, fnV fn cs, u] w fun e w' => e = .returned (.int .i64 9) ∧ Done F w b bm l d.opd w' := by
  have HA := Lib.hid (ask_up w b bm l d h hd fn eg cs 0 hmay)
  obtain ⟨fl, lf, hb, ht⟩ := h.blk
  obtain ⟨h1, h2⟩ := ht hd
  rw [hto.1] at h1
  rw [hto.2] at h2
  subst h1; subst h2
  have HDN : Hid (∀ w1, Below w.heap.size w w1 → DBk w1 b bm d true 0 ∧ Done F w b bm l d.opd (w1.setCell ⟨b, 3, none⟩ (.bool true))) := Lib.hid fun w1 hb1 => by
    have hk := h.lt b (.inl rfl)
    have h1 : DBk w1 b bm d true 0 := (hb1.block b hk).trans hb
    have h2 := (h.below hb1).cellset (d' := d.opd) (fl' := true) (lf' := 0) h1 3 (.bool true) (by unfold AD.opd; rw [if_pos hto]; rfl) d.opd_L (by unfold AD.opd; rw [if_pos hto]; intro h; simp at h)
    exact ⟨h1, l, h2.1, (Ext.below hb1).cellset (hF b (.inl rfl)) _ _, fun k hk _ => hk⟩
  clear h hd hmay eg hto ht hb
  go_enter Try.func55, Try.ntmps55
  go_wp2_with (first
    | (go_at_call 52; (with_reducible refine HA.out.mono ?_); rintro e w1 ⟨rfl, hb⟩; obtain ⟨hdb, hdn⟩ := HDN.out w1 hb; have HDD := Lib.hid hdn; obtain ⟨c0, c1, c2, c3, c4, c5⟩ := hdb.cells; have z3 := hdb.frozen 3; clear hb hdb hdn))
  go_ret
  exact ⟨rfl, HDD.out⟩
set_option maxRecDepth 8000 in
theorem tell_does (F : Nat → Bool) (w : World) (b bm : Nat) (l : List MF) (d d2 : AD) (h : Dk w b bm l d) (hF : ∀ k, own b bm l k → F k = true) (hd : d.down = false) (hto : ¬ (d.told = true ∧ d.after = 0)) (fn : Nat) (eg : ∀ args w, (callFunc fn args).run Try.prog w = .ok (.enter fn args) w) (cs : Array Value)
    (hmay : Calls Try.prog fn cs w fun e w' => e = .returned (.int .i64 0) ∧ Below w.heap.size w w') (fn2 : Nat) (eg2 : ∀ args w, (callFunc fn2 args).run Try.prog w = .ok (.enter fn2 args) w) (cs2 : Array Value)
    (hdo : ∀ w1, Ext F w w1 F → Dk w1 b bm l d.opd → Calls Try.prog fn2 cs2 w1 fun e w' => e = .returned (.tuple #[]) ∧ Done F w1 b bm l d2 w') :
    Calls Try.prog 55 #[ptr ⟨b, 0, none⟩, fnV fn cs, fnV fn2 cs2] w fun e w' => e = .returned (.int .i64 0) ∧ Done F w b bm l d2 w' := by
  have HA := Lib.hid (ask_up w b bm l d h hd fn eg cs 0 hmay)
  have HDO := Lib.hid hdo
  obtain ⟨fl, lf, hb, ht⟩ := h.blk
  obtain ⟨h1, h2⟩ := ht hd
  subst h1; subst h2
  have hbF := hF b (.inl rfl)
  cases hT : d.told with
  | false =>
    have HDN : Hid (∀ w1, Below w.heap.size w w1 → DBk w1 b bm d false d.after ∧ Ext F w (w1.setCell ⟨b, 2, none⟩ (.int .i64 (wrap64 (d.ops + 1)))) F ∧ Dk (w1.setCell ⟨b, 2, none⟩ (.int .i64 (wrap64 (d.ops + 1)))) b bm l d.opd) := Lib.hid fun w1 hb1 => by
      have hk := h.lt b (.inl rfl)
      have h1 : DBk w1 b bm d d.told d.after := (hb1.block b hk).trans hb
      have ho : d.opd = { d with ops := wrap64 (d.ops + 1) } := by unfold AD.opd; rw [if_neg hto, hT]; simp
      have h2 := (h.below hb1).cellset (d' := d.opd) (fl' := d.told) (lf' := d.after) h1 2 (.int .i64 (wrap64 (d.ops + 1))) (by rw [ho]; rfl) d.opd_L (by rw [ho]; intro _; exact ⟨rfl, rfl⟩)
      rw [hT] at h1
      exact ⟨h1, (Ext.below hb1).cellset hbF _ _, h2.1⟩
    clear h hd hmay eg hto ht hb hdo
    go_enter Try.func55, Try.ntmps55
    go_wp2_with (first
      | (go_at_call 52; (with_reducible refine HA.out.mono ?_); rintro e w1 ⟨rfl, hb⟩; obtain ⟨hdb, hx, hdk⟩ := HDN.out w1 hb; have HX := Lib.hid hx; have HK := Lib.hid hdk; obtain ⟨c0, c1, c2, c3, c4, c5⟩ := hdb.cells; have z2 := hdb.frozen 2; clear hb hdb hx hdk)
      | (with_reducible refine (HDO.out _ HX.out HK.out).mono ?_; rintro e w2 ⟨rfl, hdn⟩; have HDD := Lib.hid (hdn.trans HX.out); clear hdn))
    go_ret
    exact ⟨rfl, HDD.out⟩
  | true =>
    have hne : ¬ d.after = 0 := fun e => hto ⟨hT, e⟩
    have HDN : Hid (∀ w1, Below w.heap.size w w1 → DBk w1 b bm d true d.after ∧ Ext F w ((w1.setCell ⟨b, 5, none⟩ (.int .i64 (wrap64 (d.after - 1)))).setCell ⟨b, 2, none⟩ (.int .i64 (wrap64 (d.ops + 1)))) F ∧ Dk ((w1.setCell ⟨b, 5, none⟩ (.int .i64 (wrap64 (d.after - 1)))).setCell ⟨b, 2, none⟩ (.int .i64 (wrap64 (d.ops + 1)))) b bm l d.opd) := Lib.hid fun w1 hb1 => by
      have hk := h.lt b (.inl rfl)
      have h1 : DBk w1 b bm d d.told d.after := (hb1.block b hk).trans hb
      have ho : d.opd = { d with after := wrap64 (d.after - 1), ops := wrap64 (d.ops + 1) } := by unfold AD.opd; rw [if_neg hto, hT]; simp
      have h2 := (h.below hb1).cellset (d' := { d with after := wrap64 (d.after - 1) }) (fl' := d.told) (lf' := wrap64 (d.after - 1)) h1 5 (.int .i64 (wrap64 (d.after - 1))) (rfl) rfl (fun _ => ⟨rfl, rfl⟩)
      have h3 := h2.1.cellset (d' := d.opd) (fl' := d.told) (lf' := wrap64 (d.after - 1)) h2.2 2 (.int .i64 (wrap64 (d.ops + 1))) (by rw [ho]; rfl) (by rw [d.opd_L]) (by rw [ho]; intro _; exact ⟨rfl, rfl⟩)
      rw [hT] at h1
      exact ⟨h1, ((Ext.below hb1).cellset hbF _ _).cellset hbF _ _, h3.1⟩
    clear h hd hmay eg hto ht hb hdo
    go_enter Try.func55, Try.ntmps55
    go_wp2_with (first
      | (go_at_call 52; (with_reducible refine HA.out.mono ?_); rintro e w1 ⟨rfl, hb⟩; obtain ⟨hdb, hx, hdk⟩ := HDN.out w1 hb; have HX := Lib.hid hx; have HK := Lib.hid hdk; obtain ⟨c0, c1, c2, c3, c4, c5⟩ := hdb.cells; have z2 := hdb.frozen 2; have z5 := hdb.frozen 5; clear hb hdb hx hdk)
      | (with_reducible refine (HDO.out _ HX.out HK.out).mono ?_; rintro e w2 ⟨rfl, hdn⟩; have HDD := Lib.hid (hdn.trans HX.out); clear hdn))
    go_ret
    exact ⟨rfl, HDD.out⟩
end Go.Proofs.Ytpnialanmidekaa
