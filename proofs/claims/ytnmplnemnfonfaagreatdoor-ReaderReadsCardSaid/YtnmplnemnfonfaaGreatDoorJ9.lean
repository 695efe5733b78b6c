/-
  TEXTS JOINED: DkApi2, DkCrashMath, DkCrash, DiskLaysMath, DkLay, DkLay2, DkClone. Each one's own words stand at its head.
-/
import Derived.Test.YtnmplnemnfonfaaGreatDoorJ8
import Derived.Test.YtnmplnemnfonfaaGreatDoorJ6
import Derived.Lib.SliceRun
namespace Go.Proofs.YtnmplnemnfonfaaGreatDoor
open Go.RowKit
theorem ask_any (w : World) (b bm : Nat) (l : List MF) (d : AD) (h : Dk w b bm l d) (fn : Nat) (eg : ∀ args w, (callFunc fn args).run Tryz.prog w = .ok (.enter fn args) w) (cs : Array Value) (y : Int)
    (hmay : Calls Tryz.prog fn cs w fun e w' => e = .returned (.int .i64 y) ∧ Below w.heap.size w w') :
    Calls Tryz.prog 40 #[ptr ⟨b, 0, none⟩, fnV fn cs] w fun e w' => e = .returned (.int .i64 (if d.down = true then 9 else y)) ∧ Below w.heap.size w w' := by
  cases hd : d.down with
  | true =>
    rw [if_pos rfl]
    exact (ask_down w b bm l d h hd _).mono (by rintro e w' ⟨rfl, rfl⟩; exact ⟨rfl, Below.refl _ _⟩)
  | false =>
    rw [if_neg (by simp)]
    exact ask_up w b bm l d h hd fn eg cs y hmay
set_option maxRecDepth 8000 in
theorem kread_any (w : World) (p : Addr) (F : Nat → Bool) (d : AD) (s : ByteArray) (at_ n : Int) (h : DKp w p F d) (hg : Good d) (hs : s.size ≤ 281474976710656) (ha : I63 at_) (hn : I63 n) :
    Calls Tryz.prog 44 #[ptr p, .string s, .int .i64 at_, .int .i64 n] w fun e w' => ∃ v, e = .returned (.tuple #[v, .int .i64 (d.readR s at_ n).2.2]) ∧ FS w' v (d.readR s at_ n).2.1 (d.readR s at_ n).1 ∧ Below w.heap.size w w' := by
  obtain ⟨hF, b, bm, l, rfl, hd, ho⟩ := h
  have hb0 := below_alloc w (.cells (jobC ⟨b, 0, none⟩ s eS at_ n zS) 63)
  have HK := Lib.hid (hd.below hb0)
  have HB0 := Lib.hid hb0
  obtain ⟨y, hy⟩ : ∃ y : Int, (if ¬ d.has s then 7 else if at_ < 0 ∨ n < 0 ∨ ((d.get s).n : Int) - n < at_ then 4 else 0) = y := ⟨_, rfl⟩
  have hmay := mayReach_any _ b bm l d s eS at_ n none 0 0 HK.out hg hs ha hn y hy
  have HT := Lib.hid (ask_any _ b bm l d HK.out _ eg53 #[jobV ⟨b, 0, none⟩ s eS at_ n zS] y hmay)
  by_cases hr : (if d.down = true then 9 else y) = (0 : Int)
  · have hdn : ¬ d.down = true := fun e => by rw [if_pos e] at hr; simp at hr
    rw [if_neg hdn] at hr
    have hh : d.has s ∧ ¬ (at_ < 0 ∨ n < 0 ∨ ((d.get s).n : Int) - n < at_) := by
      rw [hr] at hy
      by_cases hh : d.has s
      · rw [if_neg (Decidable.not_not.2 hh)] at hy
        refine ⟨hh, fun hc => ?_⟩
        rw [if_pos hc] at hy; simp at hy
      · rw [if_pos hh] at hy; simp at hy
    have hmk : d.readR s at_ n = (((d.get s).seen.drop (at_.toNat * 64)).take (n.toNat * 64), n.toNat, 0) := by
      unfold AD.readR
      rw [if_neg hdn, if_neg (Decidable.not_not.2 hh.1), if_neg (by omega)]
    rw [hmk]
    rw [if_neg hdn, hr] at HT
    have HR : Hid (∀ w1, Dk w1 b bm l d → Calls Tryz.prog 72 #[jobV ⟨b, 0, none⟩ s eS at_ n zS] w1 fun e w' => ∃ v, e = .returned v ∧ FS w' v n.toNat (((d.get s).seen.drop (at_.toNat * 64)).take (n.toNat * 64)) ∧ Below w1.heap.size w1 w') := Lib.hid fun w1 hk1 => by
      have := pread_any w1 b bm l d s eS at_.toNat n.toNat none 0 0 hk1 hg hs hh.1 (by omega)
      rwa [show ((at_.toNat : Nat) : Int) = at_ by omega, show ((n.toNat : Nat) : Int) = n by omega] at this
    clear hd hmk hb0 hg hs hy hmay hr hh hdn ha hn
    go_enter Tryz.func44, Tryz.ntmps44
    have hmf := mf_run
    go_wp2_with (first
      | (go_at_call 40; (with_reducible refine HT.out.mono ?_); rintro e w1 ⟨rfl, hb⟩; have HB1 := Lib.hid hb; have HK1 := Lib.hid (HK.out.below hb); have HJB := Lib.hid ((JbK.new w (jobC ⟨b, 0, none⟩ s eS at_ n zS)).below hb); clear hb)
      | (refine wpList_load_row rfl 63 (.tmp 10) rfl w.heap.size rfl _ (jobC ⟨b, 0, none⟩ s eS at_ n zS) (0, 0) _ HJB.out Tryz.underlying63 rfl (by kernel_rfl) ?_)
      | (go_at_call 72; (with_reducible refine (HR.out _ HK1.out).mono ?_); rintro e w2 ⟨v, rfl, hfs, hb⟩; have HFS := Lib.hid hfs; have HB2 := Lib.hid hb; clear hb hfs))
    go_ret2
    exact ⟨_, rfl, HFS.out, (chain HB0.out HB1.out).trans (HB2.out.mono (chain HB0.out HB1.out).size)⟩
  · obtain ⟨r, hr2⟩ : ∃ r : Int, (if d.down = true then 9 else y) = r := ⟨_, rfl⟩
    have hmk : d.readR s at_ n = ([], 0, r) := by
      unfold AD.readR
      rw [← hr2]
      by_cases hdn : d.down = true
      · rw [if_pos hdn, if_pos hdn]
      rw [if_neg hdn, if_neg hdn]
      rw [if_neg hdn] at hr
      subst hy
      by_cases hh : ¬ d.has s
      · rw [if_pos hh, if_pos hh]
      rw [if_neg hh, if_neg hh]
      rw [if_neg hh] at hr
      by_cases hc : at_ < 0 ∨ n < 0 ∨ ((d.get s).n : Int) - n < at_
      · rw [if_pos hc, if_pos (by omega)]
      · rw [if_neg hc] at hr; exact absurd rfl hr
    rw [hmk]
    rw [hr2] at HT hr
    clear hd hmk hb0 hg hs hy hmay hr2 ha hn
    go_enter Tryz.func44, Tryz.ntmps44
    have hmf := mf_run
    go_wp2_with (first
      | (go_at_call 40; (with_reducible refine HT.out.mono ?_); rintro e w1 ⟨rfl, hb⟩; have HB1 := Lib.hid hb; clear hb))
    go_ret2
    exact ⟨_, rfl, FS.nil _, chain HB0.out HB1.out⟩
end Go.Proofs.YtnmplnemnfonfaaGreatDoor
namespace Go.Proofs.YtnmplnemnfonfaaGreatDoor
open Go.RowKit
def CalmF (f : AF) : Prop := ∀ i, i < f.n → f.ws.getD i false = false → chunk f.seen i = chunk f.las i
def Calm (d : AD) : Prop := ∀ f ∈ d.L, CalmF f
def stM (kb : List Int) (torn cut : Int) (f : AF) (j r : Nat) : List Int := mixN (chunk f.las j) (chunk f.seen j) (keptN kb torn cut r)
def caS (kb : List Int) (torn cut : Int) (x : MF) (i0 k : Nat) : List Sc :=
  (List.range x.f.n).map fun j => if x.f.ws.getD j false = true ∧ i0 + (wlF x j).length < k then ⟨stM kb torn cut x.f j (i0 + (wlF x j).length), stM kb torn cut x.f j (i0 + (wlF x j).length), false⟩ else ⟨chunk x.f.las j, chunk x.f.seen j, x.f.ws.getD j false⟩
theorem caS_get (kb : List Int) (torn cut : Int) (x : MF) (i0 k j : Nat) (h : j < x.f.n) :
    (caS kb torn cut x i0 k)[j]? = some (if x.f.ws.getD j false = true ∧ i0 + (wlF x j).length < k then ⟨stM kb torn cut x.f j (i0 + (wlF x j).length), stM kb torn cut x.f j (i0 + (wlF x j).length), false⟩ else ⟨chunk x.f.las j, chunk x.f.seen j, x.f.ws.getD j false⟩) := by simp [caS, h]
theorem caS_len (kb : List Int) (torn cut : Int) (x : MF) (i0 k : Nat) : (caS kb torn cut x i0 k).length = x.f.n := by simp [caS]
theorem caS_step (kb : List Int) (torn cut : Int) (x : MF) (i0 k i : Nat) (hi : i < x.f.n) (hw : x.f.ws.getD i false = true) (hk : i0 + (wlF x i).length = k) (hu : ∀ j, x.f.ws.getD j false = true → i0 + (wlF x j).length = k → j = i) :
    (caS kb torn cut x i0 k).set i ⟨stM kb torn cut x.f i k, stM kb torn cut x.f i k, false⟩ = caS kb torn cut x i0 (k + 1) := by
  refine List.ext_getElem? fun j => ?_
  by_cases hj : j < x.f.n
  · rw [caS_get _ _ _ _ _ _ _ hj]
    by_cases hji : j = i
    · subst hji
      rw [List.getElem?_set_self (by rw [caS_len]; exact hj), if_pos ⟨hw, by omega⟩, hk]
    · rw [List.getElem?_set_ne (Ne.symm hji), caS_get _ _ _ _ _ _ _ hj]
      by_cases h1 : x.f.ws.getD j false = true ∧ i0 + (wlF x j).length < k
      · rw [if_pos h1, if_pos ⟨h1.1, by omega⟩]
      · rw [if_neg h1, if_neg]
        rintro ⟨h2, h3⟩
        exact hji (hu j h2 (by
          have : ¬ i0 + (wlF x j).length < k := fun h => h1 ⟨h2, h⟩
          omega))
  · rw [List.getElem?_eq_none (by rw [List.length_set, caS_len]; omega), List.getElem?_eq_none (by rw [caS_len]; omega)]
theorem wlF_mono (x : MF) : ∀ (j d : Nat), (wlF x j).length ≤ (wlF x (j + d)).length
  | _, 0 => Nat.le_refl _
  | j, d + 1 => by
    have := wlF_mono x j d
    rw [show j + (d + 1) = (j + d) + 1 from rfl, wlF_succ, List.length_append]; omega
theorem wlF_lt (x : MF) (i j : Nat) (hw : x.f.ws.getD i false = true) (h : i < j) : (wlF x i).length < (wlF x j).length := by
  have h1 := wlF_mono x (i + 1) (j - (i + 1))
  rw [show i + 1 + (j - (i + 1)) = j from by omega, wlF_succ, if_pos hw, List.length_append] at h1
  simp at h1; omega
theorem wlF_inj (x : MF) (i j : Nat) (hi : x.f.ws.getD i false = true) (hj : x.f.ws.getD j false = true) (h : (wlF x i).length = (wlF x j).length) : i = j := by
  rcases Nat.lt_trichotomy i j with h1 | h1 | h1
  · have := wlF_lt x i j hi h1; omega
  · exact h1
  · have := wlF_lt x j i hj h1; omega
def wB (l : List MF) (a : Nat) : Nat := (wlL (l.take a)).length
theorem wB_succ (l : List MF) (a : Nat) (x : MF) (h : l[a]? = some x) : wB l (a + 1) = wB l a + (wlF x x.f.n).length := by
  unfold wB; rw [wlL_succ l a x h, List.length_append]
theorem wB_mono (l : List MF) (a b : Nat) (h : a ≤ b) : wB l a ≤ wB l b := by
  unfold wB wlL
  have e := (List.take_append_drop a (l.take b)).symm
  rw [List.take_take, Nat.min_eq_left h] at e
  rw [e, List.flatMap_append, List.length_append]; omega
theorem rank_ne (l : List MF) (a b : Nat) (x y : MF) (i j : Nat) (ha : l[a]? = some x) (hb : l[b]? = some y) (hi : i < x.f.n) (hj : j < y.f.n) (hwi : x.f.ws.getD i false = true) (hwj : y.f.ws.getD j false = true) (h : wB l a + (wlF x i).length = wB l b + (wlF y j).length) : a = b := by
  have hx := wlF_lt x i x.f.n hwi hi
  have hy := wlF_lt y j y.f.n hwj hj
  rcases Nat.lt_trichotomy a b with h1 | h1 | h1
  · have h2 := wB_mono l (a + 1) b h1
    rw [wB_succ l a x ha] at h2; omega
  · exact h1
  · have h2 := wB_mono l (b + 1) a h1
    rw [wB_succ l b y hb] at h2; omega
theorem crS_waits (kb : List Int) (torn cut : Int) (x : MF) (i0 : Nat) : ∀ j, (crS kb torn cut x.f i0 j).2 = i0 + (wlF x j).length
  | 0 => by simp [crS, wlF]
  | j + 1 => by
    simp only [crS]
    rw [crS_waits kb torn cut x i0 j, wlF_succ, List.length_append]
    split <;> simp <;> omega
theorem crS_chunk (kb : List Int) (torn cut : Int) (f : AF) (i0 : Nat) (hl : f.las.length = f.n * 64) (hs : f.seen.length = f.n * 64) : ∀ (n j : Nat), n ≤ f.n → j < n → chunk (crS kb torn cut f i0 n).1 j = secC kb torn cut (chunk f.las j) (chunk f.seen j) (f.ws.getD j false) (crS kb torn cut f i0 j).2
  | n + 1, j, hn, hj => by
    have hlen := crS_length kb torn cut f i0 hl hs n (by omega)
    have hsl := secC_length kb torn cut (chunk f.las n) (chunk f.seen n) (f.ws.getD n false) (crS kb torn cut f i0 n).2 (chunk_length _ f.n n hl (by omega)) (chunk_length _ f.n n hs (by omega))
    simp only [crS]
    refine List.ext_getElem? fun q => ?_
    by_cases hq : q < 64
    · rw [chunk_get _ _ _ hq]
      by_cases hjn : j < n
      · have h1 : (j + 1) * 64 ≤ n * 64 := Nat.mul_le_mul_right _ hjn
        rw [List.getElem?_append_left (by omega), ← crS_chunk kb torn cut f i0 hl hs n j (by omega) hjn, chunk_get _ _ _ hq]
      · obtain rfl : j = n := by omega
        rw [List.getElem?_append_right (by omega), hlen]
        congr 1; omega
    · rw [chunk_out _ _ _ hq, List.getElem?_eq_none]
      have := secC_length kb torn cut (chunk f.las j) (chunk f.seen j) (f.ws.getD j false) (crS kb torn cut f i0 j).2 (chunk_length _ f.n j hl (by omega)) (chunk_length _ f.n j hs (by omega))
      omega
theorem caS_all (kb : List Int) (torn cut : Int) (x : MF) (i0 k : Nat) (hg : GF x.f) (hc : CalmF x.f) (hk : i0 + (wlF x x.f.n).length ≤ k) : caS kb torn cut x i0 k = secsOf (crFile kb torn cut x.f i0) := by
  refine List.ext_getElem? fun j => ?_
  by_cases hj : j < x.f.n
  · rw [caS_get _ _ _ _ _ _ _ hj, secsOf_get (crFile kb torn cut x.f i0) j hj]
    have hcl := chunk_length x.f.las x.f.n j hg.las hj
    have hcs := chunk_length x.f.seen x.f.n j hg.seen hj
    have e1 : chunk (crFile kb torn cut x.f i0).las j = secC kb torn cut (chunk x.f.las j) (chunk x.f.seen j) (x.f.ws.getD j false) (i0 + (wlF x j).length) := by
      rw [← crS_waits kb torn cut x i0 j]
      exact crS_chunk kb torn cut x.f i0 hg.las hg.seen x.f.n j (Nat.le_refl _) hj
    have e2 : chunk (crFile kb torn cut x.f i0).seen j = chunk (crFile kb torn cut x.f i0).las j := rfl
    have e3 : (crFile kb torn cut x.f i0).ws.getD j false = false := by
      show (List.replicate x.f.n false).getD j false = false
      simp [List.getD, hj]
    rw [e2, e1, e3]
    cases hw : x.f.ws.getD j false with
    | true =>
      rw [if_pos ⟨rfl, by have := wlF_lt x j x.f.n hw hj; omega⟩]
      have e4 : stM kb torn cut x.f j (i0 + (wlF x j).length) = secC kb torn cut (chunk x.f.las j) (chunk x.f.seen j) true (i0 + (wlF x j).length) := by
        unfold stM secC keptN
        rw [if_pos rfl]
        by_cases h1 : ((i0 + (wlF x j).length : Nat) : Int) = torn
        · rw [if_pos h1, if_pos h1]
        · rw [if_neg h1, if_neg h1]
          by_cases h2 : bitI kb ((i0 + (wlF x j).length : Nat) : Int) = true
          · rw [if_pos h2, if_pos h2, mixN_all _ _ hcl hcs]
          · rw [if_neg h2, if_neg h2, mixN_zero]
      rw [e4]
    | false =>
      rw [if_neg (by simp), hc j hj hw]
      unfold secC
      rw [if_neg (by simp)]
  · rw [List.getElem?_eq_none (by rw [caS_len]; omega), List.getElem?_eq_none (by rw [secsOf_length]; exact Nat.not_lt.1 hj)]
theorem crL_waits (kb : List Int) (torn cut : Int) (l : List MF) : ∀ a, a ≤ l.length → (crL kb torn cut (l.map MF.f) a).2 = wB l a
  | 0, _ => rfl
  | a + 1, h => by
    obtain ⟨x, hx⟩ := row_some (L := l) (i := a) (by omega)
    rw [crL_step kb torn cut (l.map MF.f) a x.f (by rw [List.getElem?_map, hx]; rfl), wB_succ l a x hx]
    show (crS kb torn cut x.f _ x.f.n).2 = _
    rw [crS_waits, crL_waits kb torn cut l a (by omega)]
def crM (kb : List Int) (torn cut : Int) (l : List MF) : List MF := l.mapIdx fun a x => ⟨crFile kb torn cut x.f (wB l a), x.g, x.c⟩
theorem crM_get (kb : List Int) (torn cut : Int) (l : List MF) (a : Nat) : (crM kb torn cut l)[a]? = (l[a]?).map fun x => ⟨crFile kb torn cut x.f (wB l a), x.g, x.c⟩ := by unfold crM; rw [List.getElem?_mapIdx]
theorem crL_get (kb : List Int) (torn cut : Int) (l : List MF) : ∀ (k a : Nat) (x : MF), k ≤ l.length → a < k → l[a]? = some x → (crL kb torn cut (l.map MF.f) k).1[a]? = some (crFile kb torn cut x.f (wB l a))
  | k + 1, a, x, hk, ha, hx => by
    obtain ⟨y, hy⟩ := row_some (L := l) (i := k) (by omega)
    have hlen := crL_length kb torn cut (l.map MF.f) k (by rw [List.length_map]; omega)
    rw [crL_step kb torn cut (l.map MF.f) k y.f (by rw [List.getElem?_map, hy]; rfl)]
    by_cases h1 : a < k
    · rw [List.getElem?_append_left (by omega)]
      exact crL_get kb torn cut l k a x (by omega) h1 hx
    · obtain rfl : a = k := by omega
      rw [hx] at hy
      obtain rfl := Option.some.inj hy
      rw [List.getElem?_append_right (by omega), hlen, Nat.sub_self, crL_waits kb torn cut l a (by omega)]; rfl
theorem crM_files (kb : List Int) (torn cut : Int) (l : List MF) : (crM kb torn cut l).map MF.f = (crL kb torn cut (l.map MF.f) (l.map MF.f).length).1 := by
  refine List.ext_getElem? fun a => ?_
  rw [List.getElem?_map, crM_get]
  by_cases ha : a < l.length
  · obtain ⟨x, hx⟩ := row_some (L := l) (i := a) ha
    rw [crL_get kb torn cut l _ a x (by rw [List.length_map]; exact Nat.le_refl _) (by rw [List.length_map]; exact ha) hx, hx]; rfl
  · rw [List.getElem?_eq_none (by omega), List.getElem?_eq_none]
    · rfl
    · rw [crL_length kb torn cut _ _ (Nat.le_refl _), List.length_map]; omega
end Go.Proofs.YtnmplnemnfonfaaGreatDoor
namespace Go.Proofs.YtnmplnemnfonfaaGreatDoor
open Go.RowKit
structure CrK (kb : List Int) (torn cut : Int) (F : Nat → Bool) (w : World) (b bm : Nat) (l : List MF) (d : AD) (v : Value) (va : Value) (k : Nat) (wr : World) : Prop where
  ext : Ext F w wr F
  blk : ∃ fl lf, DBk wr b bm d fl lf
  map : MapOf wr bm l
  row : ∀ (a : Nat) (x : MF), l[a]? = some x → SrK wr x.g x.c (caS kb torn cut x (wB l a) k)
  ptrs : wr.ownsRow w.heap.size 163 1 v (wlL l).length ((wlL l).map wpV)
  box : wr.heap[w.heap.size]? = some (.cells #[va, .int .i64 torn, .int .i64 cut] 216 (0, 0))
theorem CrK.below {kb : List Int} {torn cut : Int} {F : Nat → Bool} {w : World} {b bm : Nat} {l : List MF} {d : AD} {v va : Value} {k : Nat} {wr w1 : World} (h : CrK kb torn cut F w b bm l d v va k wr) (hb : Below wr.heap.size wr w1) : CrK kb torn cut F w b bm l d v va k w1 := by
  obtain ⟨fl, lf, h1⟩ := h.blk
  exact ⟨h.ext.then_below hb, ⟨fl, lf, (hb.block b (Array.getElem?_eq_some_iff.1 h1).1).trans h1⟩, h.map.keep (hb.block bm h.map.lt), fun a x hx => (h.row a x hx).keep (hb.block _ (h.row a x hx).lt), own_stay h.ptrs hb, (hb.block _ (Array.getElem?_eq_some_iff.1 h.box).1).trans h.box⟩
theorem CrK.next {kb : List Int} {torn cut : Int} {F : Nat → Bool} {w : World} {b bm : Nat} {l : List MF} {d : AD} {v va : Value} {k : Nat} {wr w1 : World} (h : CrK kb torn cut F w b bm l d v va k wr) (hn : (l.map MF.g).Nodup) (hF : ∀ k, own b bm l k → F k = true) (hlt : ∀ x ∈ l, x.g < w.heap.size)
    {a i : Nat} {x : MF} (hx : l[a]? = some x) (hi : i < x.f.n) (hw : x.f.ws.getD i false = true) (hk : wB l a + (wlF x i).length = k) (hg : wr.grownBy w1 (some x.g)) (hr : SrK w1 x.g x.c ((caS kb torn cut x (wB l a) k).set i ⟨stM kb torn cut x.f i k, stM kb torn cut x.f i k, false⟩)) :
    CrK kb torn cut F w b bm l d v va (k + 1) w1 := by
  have hxm := List.mem_of_getElem? hx
  obtain ⟨fl, lf, h1⟩ := h.blk
  obtain ⟨es, clock, h2⟩ := h.map.obj
  obtain ⟨cur, h3, _⟩ := h.row a x hx
  have hb1 : b ≠ x.g := fun e => by subst e; unfold DBk at h1; rw [h3] at h1; simp at h1
  have hb2 : bm ≠ x.g := fun e => by subst e; rw [h3] at h2; cases h2
  have hwg : w.heap.size ≠ x.g := fun e => by have := hlt x hxm; omega
  have hblk : ∀ q, q < wr.heap.size → q ≠ x.g → w1.heap[q]? = wr.heap[q]? := fun q hq hne => hg.block q hq (fun e => hne (Option.some.inj e))
  refine ⟨h.ext.grown hg (.inl (hF _ (.inr (.inr ⟨x, hxm, rfl⟩)))), ⟨fl, lf, (hblk b (Array.getElem?_eq_some_iff.1 h1).1 hb1).trans h1⟩, h.map.keep (hblk bm h.map.lt hb2), ?_, own_over h.ptrs hg (fun q hq e => by have := (h.ptrs.lt q hq).1; have := hlt x hxm; obtain rfl := Option.some.inj e; omega), (hblk _ (Array.getElem?_eq_some_iff.1 h.box).1 hwg).trans h.box⟩
  intro c y hy
  by_cases hca : c = a
  · subst hca
    rw [hx] at hy
    obtain rfl := Option.some.inj hy
    rw [← caS_step kb torn cut x (wB l c) k i hi hw hk (fun j hj e => wlF_inj x j i hj hw (by omega))]
    exact hr
  · have hne : y.g ≠ x.g := fun e => by
      have hc := (List.getElem?_eq_some_iff.1 hy).1
      have ha := (List.getElem?_eq_some_iff.1 hx).1
      have e2 : (l.map MF.g)[c]'(by simpa using hc) = (l.map MF.g)[a]'(by simpa using ha) := by
        simp only [List.getElem_map]
        rw [(List.getElem?_eq_some_iff.1 hy).2, (List.getElem?_eq_some_iff.1 hx).2]; exact e
      exact hca ((List.getElem_inj hn).1 e2)
    have hstay : caS kb torn cut y (wB l c) (k + 1) = caS kb torn cut y (wB l c) k := by
      refine List.ext_getElem? fun j => ?_
      by_cases hj : j < y.f.n
      · rw [caS_get _ _ _ _ _ _ _ hj, caS_get _ _ _ _ _ _ _ hj]
        by_cases h1 : y.f.ws.getD j false = true ∧ wB l c + (wlF y j).length < k
        · rw [if_pos h1, if_pos ⟨h1.1, by omega⟩]
        · rw [if_neg h1, if_neg]
          rintro ⟨h4, h5⟩
          have h6 : ¬ wB l c + (wlF y j).length < k := fun h => h1 ⟨h4, h⟩
          exact hca (rank_ne l c a y x j i hy hx hj hi h4 hw (by omega))
      · rw [List.getElem?_eq_none (by rw [caS_len]; omega), List.getElem?_eq_none (by rw [caS_len]; omega)]
    rw [hstay]
    exact (h.row c y hy).keep (hblk _ (h.row c y hy).lt hne)
theorem CrK.done {kb : List Int} {torn cut : Int} {F : Nat → Bool} {w : World} {b bm : Nat} {l : List MF} {d : AD} {v va : Value} {wr : World} (h : CrK kb torn cut F w b bm l d v va (wlL l).length wr) (hg : Good d) (hc : Calm d) (hL : d.L = l.map MF.f) (hn : (l.map MF.g).Nodup) (hF : ∀ k, own b bm l k → F k = true) :
    ∃ fl lf, DBk wr b bm d fl lf ∧ Done F w b bm l (d.crashR kb torn cut) (((wr.setCell ⟨b, 3, none⟩ (.bool false)).setCell ⟨b, 4, none⟩ (.bool false)).setCell ⟨b, 5, none⟩ (.int .i64 0)) := by
  obtain ⟨fl, lf, h1⟩ := h.blk
  refine ⟨fl, lf, h1, crM kb torn cut l, ?_, ?_, ?_⟩
  · have hgs : (crM kb torn cut l).map MF.g = l.map MF.g := by
      refine List.ext_getElem? fun a => ?_
      rw [List.getElem?_map, List.getElem?_map, crM_get, Option.map_map]; rfl
    have hd0 : Dk wr b bm (crM kb torn cut l) { d.crashR kb torn cut with down := d.down, told := fl, after := lf } := by
      refine ⟨⟨fl, lf, h1, fun _ => ⟨rfl, rfl⟩⟩, ?_, ?_, by rw [hgs]; exact hn, ?_⟩
      · have he : ents MF.nm MF.dat (crM kb torn cut l) = ents MF.nm MF.dat l := by
          unfold ents
          congr 1
          refine List.ext_getElem? fun a => ?_
          rw [List.getElem?_map, List.getElem?_map, crM_get, Option.map_map]; rfl
        have hl : (crM kb torn cut l).length = l.length := by unfold crM; simp
        have hm := h.map
        unfold MapOf MO at hm ⊢
        rw [he, hl]; exact hm
      · intro y hy
        obtain ⟨a, ha⟩ := List.getElem?_of_mem hy
        rw [crM_get] at ha
        obtain ⟨x, hx, rfl⟩ := Option.map_eq_some_iff.1 ha
        have hxm : x.f ∈ d.L := by rw [hL]; exact List.mem_map_of_mem (List.mem_of_getElem? hx)
        have hle : wB l a + (wlF x x.f.n).length ≤ (wlL l).length := by
          rw [← wB_succ l a x hx]
          have h2 := wB_mono l (a + 1) l.length (List.getElem?_eq_some_iff.1 hx).1
          unfold wB at h2 ⊢
          rwa [List.take_length] at h2
        have := h.row a x hx
        rwa [caS_all kb torn cut x _ _ (hg.file _ hxm) (hc _ hxm) hle] at this
      · show (crL kb torn cut d.L d.L.length).1 = _
        rw [crM_files, hL]
    have h2 := hd0.cellset (d' := { d.crashR kb torn cut with down := false, told := fl, after := lf }) (fl' := fl) (lf' := lf) h1 3 (.bool false) rfl rfl (fun _ => ⟨rfl, rfl⟩)
    have h3 := h2.1.cellset (d' := { d.crashR kb torn cut with down := false, told := false, after := lf }) (fl' := false) (lf' := lf) h2.2 4 (.bool false) rfl rfl (fun _ => ⟨rfl, rfl⟩)
    have h4 := h3.1.cellset (d' := d.crashR kb torn cut) (fl' := false) (lf' := 0) h3.2 5 (.int .i64 0) rfl rfl (fun _ => ⟨rfl, rfl⟩)
    exact h4.1
  · have hbF := hF b (.inl rfl)
    exact ((h.ext.cellset hbF _ _).cellset hbF _ _).cellset hbF _ _
  · rintro q (rfl | rfl | ⟨y, hy, rfl⟩) _
    · exact .inl rfl
    · exact .inr (.inl rfl)
    · obtain ⟨a, ha⟩ := List.getElem?_of_mem hy
      rw [crM_get] at ha
      obtain ⟨x, hx, rfl⟩ := Option.map_eq_some_iff.1 ha
      exact .inr (.inr ⟨x, List.mem_of_getElem? hx, rfl⟩)
end Go.Proofs.YtnmplnemnfonfaaGreatDoor
namespace Go.Proofs.YtnmplnemnfonfaaGreatDoor
open Go.RowKit
structure Still (d : AD) : Prop where
  down : d.down = false
  told : d.told = false
  after : d.after = 0
  file : ∀ f ∈ d.L, f.ws = List.replicate f.n false ∧ f.seen = f.las
theorem Still.new (c : Int) : Still (AD.newD c) := ⟨rfl, rfl, rfl, fun f hf => by simp [AD.newD] at hf⟩
theorem Still.put {d : AD} (s : Still d) {f : AF} (hf : f.ws = List.replicate f.n false ∧ f.seen = f.las) : Still (d.withF f) :=
  ⟨s.down, s.told, s.after, fun g hg => by
    rcases mem_ins.1 hg with rfl | hg
    · exact hf
    · exact s.file g (mem_without.1 hg).1⟩
theorem Still.op {d : AD} (s : Still d) : Still d.opd := by
  unfold AD.opd
  rw [if_neg (by rw [s.told]; simp)]
  exact ⟨s.down, s.told, by show (if d.told = true then wrap64 (d.after - 1) else d.after) = 0; rw [s.told]; simpa using s.after, s.file⟩
end Go.Proofs.YtnmplnemnfonfaaGreatDoor
namespace Go.Proofs.YtnmplnemnfonfaaGreatDoor
open Go.RowKit
def ownF (b bm : Nat) (l : List MF) : Nat → Bool := fun k => k == b || k == bm || l.any fun x => x.g == k
theorem ownF_iff (b bm : Nat) (l : List MF) (k : Nat) : ownF b bm l k = true ↔ own b bm l k := by
  unfold ownF own
  simp [List.any_eq_true, or_assoc]
structure LyS (w : World) (b bm : Nat) (l : List MF) (d : AD) (wr : World) : Prop where
  below : Below w.heap.size w wr
  dk : Dk wr b bm l d
  new : ∀ k, own b bm l k → w.heap.size ≤ k
theorem LyS.next {w wr w1 : World} {b bm : Nat} {l : List MF} {d : AD} (h : LyS w b bm l d wr) (hb : Below wr.heap.size wr w1) : LyS w b bm l d w1 := ⟨chain h.below hb, h.dk.below hb, h.new⟩
theorem LyS.done {w wr w1 : World} {b bm : Nat} {l : List MF} {d d' : AD} (h : LyS w b bm l d wr) (hd : Done (ownF b bm l) wr b bm l d' w1) : ∃ l', LyS w b bm l' d' w1 ∧ ∀ q, q < wr.heap.size → ¬ own b bm l q → w1.heap[q]? = wr.heap[q]? ∧ ¬ own b bm l' q ∧ q < w1.heap.size := by
  obtain ⟨l', h1, h2, h3⟩ := hd
  have hf : ∀ q, ¬ own b bm l q → ownF b bm l q = false := fun q hq => by
    cases hc : ownF b bm l q with
    | false => rfl
    | true => exact absurd ((ownF_iff _ _ _ _).1 hc) hq
  refine ⟨l', ⟨⟨h2.os.trans h.below.os, h2.tape.trans h.below.tape, h2.output.trans h.below.output, Nat.le_trans h.below.size h2.size, fun k hk => ?_⟩, h1, fun k hk => ?_⟩, fun q hq hn => ⟨h2.block q hq (hf q hn), fun ho => hn (h3 q ho hq), Nat.lt_of_lt_of_le hq h2.size⟩⟩
  · have hlt := Nat.lt_of_lt_of_le hk h.below.size
    exact (h2.block k hlt (hf k (fun ho => by have := h.new k ho; omega))).trans (h.below.block k hk)
  · by_cases hlt : k < wr.heap.size
    · exact h.new k (h3 k hk hlt)
    · have := h.below.size; omega
theorem LyS.apart {w wr : World} {b bm : Nat} {l : List MF} {d : AD} (h : LyS w b bm l d wr) (M : Nat → Bool) : Kin (mask M w) (mask (ownF b bm l) wr) := by
  intro a v hx
  have hx2 := unmask M w a v hx
  have hlt := World.block_lt_of_cell? w _ hx2
  have hf : ownF b bm l a.block = false := by
    cases hc : ownF b bm l a.block with
    | false => rfl
    | true => have := h.new _ ((ownF_iff _ _ _ _).1 hc); omega
  have hw := cell_keep h.below (a := a) (v := v) hx2
  unfold World.cell? at hw ⊢
  rw [mask_heap]
  cases hq : wr.heap[a.block]? with
  | none => simp [hq] at hw
  | some o => simpa [hq, hf] using hw
theorem LyS.dkp {w wr : World} {b bm : Nat} {l : List MF} {d : AD} (h : LyS w b bm l d wr) : ∃ F, DKp wr ⟨b, 0, none⟩ F d ∧ Ext noF w wr F :=
  DKp.done (Foot.none _) (Ext.below h.below) h.dk fun k hk hl => by have := h.new k hk; omega
set_option maxRecDepth 8000 in
theorem pnew_any (c : Int) (w : World) (hc : I63 c) : Calls Tryz.prog 7 #[.int .i64 c] w fun e w' => ∃ b bm, e = .returned (ptr ⟨b, 0, none⟩) ∧ LyS w b bm [] (AD.newD c) w' := by
  have HC := Lib.hid hc
  have HM := Lib.hid (show I63 1048576 from ⟨by omega, by omega⟩)
  have HN : Hid (∀ g, w.heap.size = g → LyS w (g + 1) g [] (AD.newD c) ((w.alloc (.map #[] 0)).alloc (.cells #[.int .i64 (min (max c 0) 1048576), .map (some g), .int .i64 0, .bool false, .bool false, .int .i64 0] 61))) := Lib.hid fun g hg => by
    subst hg
    have h1 : Below w.heap.size w (w.alloc (.map #[] 0)) := below_alloc w _
    have hm : MapOf ((w.alloc (.map #[] 0)).alloc (.cells #[.int .i64 (min (max c 0) 1048576), .map (some w.heap.size), .int .i64 0, .bool false, .bool false, .int .i64 0] 61)) w.heap.size [] :=
      MO.keep (MO.made _ w) (heap_alloc_old _ _ (by rw [alloc_size]; omega))
    refine ⟨chain h1 (below_alloc _ _), ⟨⟨false, 0, ?_, fun _ => ⟨rfl, rfl⟩⟩, hm, fun x hx => by simp at hx, by simp, rfl⟩, ?_⟩
    · have := heap_alloc_last (w.alloc (.map #[] 0)) (.cells #[.int .i64 (min (max c 0) 1048576), .map (some w.heap.size), .int .i64 0, .bool false, .bool false, .int .i64 0] 61)
      rw [alloc_size] at this; exact this
    · rintro k (rfl | rfl | ⟨x, hx, _⟩)
      · omega
      · omega
      · simp at hx
  have hmm := @run_makeMap Tryz.prog
  clear hc
  go_enter Tryz.func7, Tryz.ntmps7
  go_wp2_with (first
    | (go_at_call 18; (with_reducible refine (nearer_dsk c 1048576 HC.out HM.out _).mono ?_); rintro e w1 ⟨rfl, rfl⟩))
  go_ret
  exact ⟨_, _, rfl, HN.out _ rfl⟩
end Go.Proofs.YtnmplnemnfonfaaGreatDoor
namespace Go.Proofs.YtnmplnemnfonfaaGreatDoor
open Go.RowKit
def AD.z0 (d : AD) : AD := { d with ops := 0 }
theorem Good.z0 {d : AD} (h : Good d) : Good d.z0 := ⟨h.asc, h.file, h.few, h.cap0, h.cap1, h.used, by show I63 0; unfold I63; omega, h.after⟩
end Go.Proofs.YtnmplnemnfonfaaGreatDoor
namespace Go.Proofs.YtnmplnemnfonfaaGreatDoor
open Go.RowKit
theorem in_asc {α : Type} {nm : α → ByteArray} : ∀ {l : List α}, l.Pairwise (fun x y => gtN (nm y) (nm x) = true) → ∀ (y : α), (∀ x ∈ l, nm x ≠ nm y) → (inBy nm l y).Pairwise (fun x y => gtN (nm y) (nm x) = true)
  | [], _, y, _ => by rw [in_nil]; simp
  | z :: r, h, y, hn => by
    rw [List.pairwise_cons] at h
    rw [in_cons]
    by_cases h1 : gtN (nm z) (nm y) = true
    · rw [if_pos h1, List.pairwise_cons]
      refine ⟨fun q hq => ?_, List.pairwise_cons.2 h⟩
      rcases List.mem_cons.1 hq with rfl | hq
      · exact h1
      · exact gtN_trans (h.1 q hq) h1
    · rw [if_neg h1, List.pairwise_cons]
      have h2 : gtN (nm y) (nm z) = true := gtN_total (by simpa using h1) (hn z (List.mem_cons_self ..))
      refine ⟨fun q hq => ?_, in_asc h.2 y (fun x hx => hn x (List.mem_cons_of_mem _ hx))⟩
      have hp : (inBy nm r y).Perm (y :: r) := by
        unfold inBy
        refine List.perm_middle.trans ?_
        rw [List.take_append_drop]
      rcases List.mem_cons.1 (hp.mem_iff.1 hq) with rfl | hq
      · exact h2
      · exact h.1 q hq
structure ClK (w : World) (cb cm : Nat) (lc : List MF) (d : AD) (l todo : List MF) (wr : World) : Prop where
  ly : LyS w cb cm lc { d with L := lc.map MF.f } wr
  asc : lc.Pairwise fun x y => gtN (MF.nm y) (MF.nm x) = true
  perm : (lc.map MF.f ++ todo.map MF.f).Perm (l.map MF.f)
theorem ClK.below {w : World} {cb cm : Nat} {lc : List MF} {d : AD} {l todo : List MF} {wr w1 : World} (h : ClK w cb cm lc d l todo wr) (hb : Below wr.heap.size wr w1) : ClK w cb cm lc d l todo w1 := ⟨h.ly.next hb, h.asc, h.perm⟩
theorem ClK.more {w : World} {cb cm : Nat} {lc : List MF} {d : AD} {l todo : List MF} {wr w1 : World} (h : ClK w cb cm lc d l todo wr) (hn : (l.map MF.nm).Nodup) (hnt : (todo.map MF.nm).Nodup) {x : MF} (hx : x ∈ todo) (g c : Nat) (hr : SrK wr g c (secsOf x.f)) (hg : w.heap.size ≤ g) (hne : ∀ k, own cb cm lc k → k ≠ g)
    (hm : MapOf w1 cm (inBy MF.nm (outBy MF.nm lc (MF.nm x)) ⟨x.f, g, c⟩)) (hgr : wr.grownBy w1 (some cm)) : ∃ lc', ClK w cb cm lc' d l (outBy MF.nm todo (MF.nm x)) w1 := by
  have hp := out_perm hnt hx
  have hnl : ∀ y ∈ lc, MF.nm y ≠ MF.nm x := by
    intro y hy e
    have h1 := h.perm.map AF.name
    rw [List.map_append, List.map_map, List.map_map, List.map_map] at h1
    have h2 : ((l.map MF.nm)).Nodup := hn
    have h3 := h1.nodup_iff.2 (show (l.map (AF.name ∘ MF.f)).Nodup from h2)
    rw [List.nodup_append] at h3
    exact h3.2.2 _ (List.mem_map_of_mem hy) _ (List.mem_map_of_mem hx) e
  have ho : outBy MF.nm lc (MF.nm x) = lc := by
    unfold outBy
    rw [List.filter_eq_self]
    intro y hy
    rw [Bool.not_eq_true', decide_eq_false_iff_not]
    exact hnl y hy
  rw [ho] at hm
  have hap : ∀ y ∈ lc, y.g ≠ g := fun y hy => hne _ (.inr (.inr ⟨y, hy, rfl⟩))
  refine ⟨inBy MF.nm lc ⟨x.f, g, c⟩, ⟨?_, ?_, ?_⟩, in_asc h.asc _ hnl, ?_⟩
  · have := h.ly.below.grown hgr h.ly.below.size (fun j hj => by
      rw [← Option.some.inj hj]; exact h.ly.new cm (.inr (.inl rfl)))
    exact this
  · refine h.ly.dk.turn ⟨rfl, rfl, rfl, rfl, rfl⟩ hgr hm ?_ (nodup_in h.ly.dk.nodup _ hap) rfl
    intro y hy
    rcases mem_in.1 hy with rfl | hy
    · exact hr
    · exact h.ly.dk.row y hy
  · rintro k (rfl | rfl | ⟨y, hy, rfl⟩)
    · exact h.ly.new _ (.inl rfl)
    · exact h.ly.new _ (.inr (.inl rfl))
    · rcases mem_in.1 hy with rfl | hy
      · exact hg
      · exact h.ly.new _ (.inr (.inr ⟨y, hy, rfl⟩))
  · refine List.Perm.trans ?_ h.perm
    have h1 := (in_perm lc ⟨x.f, g, c⟩).map MF.f
    have h2 := hp.map MF.f
    rw [List.map_cons] at h1 h2
    refine (h1.append_right _).trans ?_
    refine List.Perm.trans ?_ ((List.Perm.append_left (lc.map MF.f) h2).symm)
    exact List.perm_middle.symm
end Go.Proofs.YtnmplnemnfonfaaGreatDoor
