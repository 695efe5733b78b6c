/-
  TEXTS JOINED: DkApi2, DkCrashMath, DkCrash, DiskLaysMath, DkLay, DkLay2, DkClone. Each one's own words stand at its head.
-/
import Derived.Test.YtgegbpnmfpjdmaaGreatDoorJ8
import Derived.Test.YtgegbpnmfpjdmaaGreatDoorJ6
import Derived.Lib.SliceRun
namespace Go.Proofs.YtgegbpnmfpjdmaaGreatDoor
open Go.RowKit
theorem ask_any (w : World) (b bm : Nat) (l : List MF) (d : AD) (h : Dk w b bm l d) (fn : Nat) (eg : ∀ args w, (callFunc fn args).run Tryz.prog w = .ok (.enter fn args) w) (cs : Array Value) (y : Int)
    (hmay : Calls Tryz.prog fn cs w fun e w' => e = .returned (.int .i64 y) ∧ Below w.heap.size w w') :
    Calls Tryz.prog 56 #[ptr ⟨b, 0, none⟩, fnV fn cs] w fun e w' => e = .returned (.int .i64 (if d.down = true then 9 else y)) ∧ Below w.heap.size w w' := by
  cases hd : d.down with
  | true =>
    rw [if_pos rfl]
    exact (ask_down w b bm l d h hd _).mono (by rintro e w' ⟨rfl, rfl⟩; exact ⟨rfl, Below.refl _ _⟩)
  | false =>
    rw [if_neg (by simp)]
    exact ask_up w b bm l d h hd fn eg cs y hmay
set_option maxRecDepth 8000 in
theorem krename_any (w : World) (p : Addr) (F : Nat → Bool) (d : AD) (s t : ByteArray) (h : DKp w p F d) (hg : Good d) (hs : s.size ≤ 281474976710656) (ht : t.size ≤ 281474976710656) :
    Calls Tryz.prog 31 #[ptr p, .string s, .string t] w fun e w' => ∃ F', e = .returned (.int .i64 (d.renameR s t).2) ∧ DKp w' p F' (d.renameR s t).1 ∧ Ext F w w' F' := by
  obtain ⟨hF, b, bm, l, rfl, hd, ho⟩ := h
  have hb0 := below_alloc w (.cells (jobC ⟨b, 0, none⟩ s t 0 0 zS) 102)
  have HK := Lib.hid (hd.below hb0)
  obtain ⟨y, hy⟩ : ∃ y : Int, (if ¬ d.has s then 7 else if rightB t = false then 10 else 0) = y := ⟨_, rfl⟩
  have hmay := mayRename_any _ b bm l d s t 0 0 none 0 0 HK.out hg hs ht y hy
  by_cases hst : s = t
  · have hmk : d.renameR s t = (d, if d.down = true then 9 else y) := by
      unfold AD.renameR
      subst hy
      by_cases hdn : d.down = true
      · rw [if_pos hdn, if_pos hdn]
      rw [if_neg hdn, if_neg hdn]
      by_cases hh : ¬ d.has s
      · rw [if_pos hh, if_pos hh]
      rw [if_neg hh, if_neg hh]
      by_cases hr : rightB t = false
      · rw [if_pos hr, if_pos hr]
      · rw [if_neg hr, if_neg hr, if_pos hst]
    rw [hmk]
    have HT := Lib.hid (ask_any _ b bm l d HK.out _ eg57 #[jobV ⟨b, 0, none⟩ s t 0 0 zS] y hmay)
    have HD := boxed hF ho hb0 d
    obtain ⟨r, hr⟩ : ∃ r : Int, (if d.down = true then 9 else y) = r := ⟨_, rfl⟩
    rw [hr] at HT ⊢
    clear hd hmk hb0 hg hs ht hy hr hmay
    subst hst
    go_enter Tryz.func31, Tryz.ntmps31
    have hmf := mf_run
    go_wp2_with (first
      | (go_at_call 56; (with_reducible refine HT.out.mono ?_); rintro e w1 ⟨rfl, hb⟩; obtain ⟨F', hk, hx⟩ := HD.out w1 (.same HK.out hb); have HK2 := Lib.hid hk; have HX2 := Lib.hid hx; clear hb hk hx))
    go_ret
    exact ⟨F', rfl, HK2.out, HX2.out⟩
  · have hmk : d.renameR s t = d.tellR y fun x => (x.without s).withF { d.get s with name := t } := by
      unfold AD.renameR AD.tellR
      subst hy
      by_cases hdn : d.down = true
      · rw [if_pos hdn, if_pos hdn]
      rw [if_neg hdn, if_neg hdn]
      by_cases hh : ¬ d.has s
      · rw [if_pos hh, if_pos hh]; rfl
      rw [if_neg hh, if_neg hh]
      by_cases hr : rightB t = false
      · rw [if_pos hr, if_pos hr]; rfl
      · rw [if_neg hr, if_neg hr, if_neg hst]; rfl
    rw [hmk]
    have HT := Lib.hid (tell_any F _ b bm l d HK.out ho _ eg57 #[jobV ⟨b, 0, none⟩ s t 0 0 zS] y hmay _ eg58 #[jobV ⟨b, 0, none⟩ s t 0 0 zS] (fun x => (x.without s).withF { d.get s with name := t }) (fun hy0 w1 hx1 hk1 => by
      have hh : d.has s := by
        by_cases hh : d.has s
        · exact hh
        · rw [hy0, if_pos hh] at hy; simp at hy
      have := prename_any F w1 b bm l d.opd s t 0 0 none 0 0 hk1 hg.op ho hs ht (fun e => hst e.symm) ((opd_has d s).2 hh)
      rwa [opd_get] at this))
    have HD := boxed hF ho hb0 (d.tellR y fun x => (x.without s).withF { d.get s with name := t }).1
    obtain ⟨r, hr⟩ : ∃ r, (d.tellR y fun x => (x.without s).withF { d.get s with name := t }) = r := ⟨_, rfl⟩
    rw [hr] at HT HD ⊢
    have hne := str_ne hst
    clear hd hmk hb0 hg hs ht hy hr hmay hst
    go_enter Tryz.func31, Tryz.ntmps31
    have hmf := mf_run
    go_wp2_with (first
      | (go_at_call 48; (with_reducible refine HT.out.mono ?_); rintro e w1 ⟨rfl, hdn⟩; obtain ⟨F', hk, hx⟩ := HD.out w1 hdn; have HK2 := Lib.hid hk; have HX2 := Lib.hid hx; clear hdn hk hx))
    go_ret
    exact ⟨F', rfl, HK2.out, HX2.out⟩
set_option maxRecDepth 8000 in
theorem kread_any (w : World) (p : Addr) (F : Nat → Bool) (d : AD) (s : ByteArray) (at_ n : Int) (h : DKp w p F d) (hg : Good d) (hs : s.size ≤ 281474976710656) (ha : I63 at_) (hn : I63 n) :
    Calls Tryz.prog 74 #[ptr p, .string s, .int .i64 at_, .int .i64 n] w fun e w' => ∃ v, e = .returned (.tuple #[v, .int .i64 (d.readR s at_ n).2.2]) ∧ FS w' v (d.readR s at_ n).2.1 (d.readR s at_ n).1 ∧ Below w.heap.size w w' := by
  obtain ⟨hF, b, bm, l, rfl, hd, ho⟩ := h
  have hb0 := below_alloc w (.cells (jobC ⟨b, 0, none⟩ s eS at_ n zS) 102)
  have HK := Lib.hid (hd.below hb0)
  have HB0 := Lib.hid hb0
  obtain ⟨y, hy⟩ : ∃ y : Int, (if ¬ d.has s then 7 else if at_ < 0 ∨ n < 0 ∨ ((d.get s).n : Int) - n < at_ then 4 else 0) = y := ⟨_, rfl⟩
  have hmay := mayReach_any _ b bm l d s eS at_ n none 0 0 HK.out hg hs ha hn y hy
  have HT := Lib.hid (ask_any _ b bm l d HK.out _ eg53 #[jobV ⟨b, 0, none⟩ s eS at_ n zS] y hmay)
  by_cases hr : (if d.down = true then 9 else y) = (0 : Int)
  · have hdn : ¬ d.down = true := fun e => by rw [if_pos e] at hr; simp at hr
    rw [if_neg hdn] at hr
    have hh : d.has s ∧ ¬ (at_ < 0 ∨ n < 0 ∨ ((d.get s).n : Int) - n < at_) := by
      rw [hr] at hy
      by_cases hh : d.has s
      · rw [if_neg (Decidable.not_not.2 hh)] at hy
        refine ⟨hh, fun hc => ?_⟩
        rw [if_pos hc] at hy; simp at hy
      · rw [if_pos hh] at hy; simp at hy
    have hmk : d.readR s at_ n = (((d.get s).seen.drop (at_.toNat * 64)).take (n.toNat * 64), n.toNat, 0) := by
      unfold AD.readR
      rw [if_neg hdn, if_neg (Decidable.not_not.2 hh.1), if_neg (by omega)]
    rw [hmk]
    rw [if_neg hdn, hr] at HT
    have HR : Hid (∀ w1, Dk w1 b bm l d → Calls Tryz.prog 99 #[jobV ⟨b, 0, none⟩ s eS at_ n zS] w1 fun e w' => ∃ v, e = .returned v ∧ FS w' v n.toNat (((d.get s).seen.drop (at_.toNat * 64)).take (n.toNat * 64)) ∧ Below w1.heap.size w1 w') := Lib.hid fun w1 hk1 => by
      have := pread_any w1 b bm l d s eS at_.toNat n.toNat none 0 0 hk1 hg hs hh.1 (by omega)
      rwa [show ((at_.toNat : Nat) : Int) = at_ by omega, show ((n.toNat : Nat) : Int) = n by omega] at this
    clear hd hmk hb0 hg hs hy hmay hr hh hdn ha hn
    go_enter Tryz.func74, Tryz.ntmps74
    have hmf := mf_run
    go_wp2_with (first
      | (go_at_call 56; (with_reducible refine HT.out.mono ?_); rintro e w1 ⟨rfl, hb⟩; have HB1 := Lib.hid hb; have HK1 := Lib.hid (HK.out.below hb); have HJB := Lib.hid ((JB.new w (jobC ⟨b, 0, none⟩ s eS at_ n zS)).below hb); clear hb)
      | (refine wpList_load_row rfl 102 (.tmp 10) rfl w.heap.size rfl _ (jobC ⟨b, 0, none⟩ s eS at_ n zS) (0, 0) _ HJB.out Tryz.underlying102 rfl (by kernel_rfl) ?_)
      | (go_at_call 99; (with_reducible refine (HR.out _ HK1.out).mono ?_); rintro e w2 ⟨v, rfl, hfs, hb⟩; have HFS := Lib.hid hfs; have HB2 := Lib.hid hb; clear hb hfs))
    go_ret2
    exact ⟨_, rfl, HFS.out, (chain HB0.out HB1.out).trans (HB2.out.mono (chain HB0.out HB1.out).size)⟩
  · obtain ⟨r, hr2⟩ : ∃ r : Int, (if d.down = true then 9 else y) = r := ⟨_, rfl⟩
    have hmk : d.readR s at_ n = ([], 0, r) := by
      unfold AD.readR
      rw [← hr2]
      by_cases hdn : d.down = true
      · rw [if_pos hdn, if_pos hdn]
      rw [if_neg hdn, if_neg hdn]
      rw [if_neg hdn] at hr
      subst hy
      by_cases hh : ¬ d.has s
      · rw [if_pos hh, if_pos hh]
      rw [if_neg hh, if_neg hh]
      rw [if_neg hh] at hr
      by_cases hc : at_ < 0 ∨ n < 0 ∨ ((d.get s).n : Int) - n < at_
      · rw [if_pos hc, if_pos (by omega)]
      · rw [if_neg hc] at hr; exact absurd rfl hr
    rw [hmk]
    rw [hr2] at HT hr
    clear hd hmk hb0 hg hs hy hmay hr2 ha hn
    go_enter Tryz.func74, Tryz.ntmps74
    have hmf := mf_run
    go_wp2_with (first
      | (go_at_call 56; (with_reducible refine HT.out.mono ?_); rintro e w1 ⟨rfl, hb⟩; have HB1 := Lib.hid hb; clear hb))
    go_ret2
    exact ⟨_, rfl, FS.nil _, chain HB0.out HB1.out⟩
end Go.Proofs.YtgegbpnmfpjdmaaGreatDoor
namespace Go.Proofs.YtgegbpnmfpjdmaaGreatDoor
open Go.RowKit
def CalmF (f : AF) : Prop := ∀ i, i < f.n → f.ws.getD i false = false → chunk f.seen i = chunk f.las i
def Calm (d : AD) : Prop := ∀ f ∈ d.L, CalmF f
def stM (kb : List Int) (torn cut : Int) (f : AF) (j r : Nat) : List Int := mixN (chunk f.las j) (chunk f.seen j) (keptN kb torn cut r)
def caS (kb : List Int) (torn cut : Int) (x : MF) (i0 k : Nat) : List Sc :=
  (List.range x.f.n).map fun j => if x.f.ws.getD j false = true ∧ i0 + (wlF x j).length < k then ⟨stM kb torn cut x.f j (i0 + (wlF x j).length), stM kb torn cut x.f j (i0 + (wlF x j).length), false⟩ else ⟨chunk x.f.las j, chunk x.f.seen j, x.f.ws.getD j false⟩
theorem caS_get (kb : List Int) (torn cut : Int) (x : MF) (i0 k j : Nat) (h : j < x.f.n) :
    (caS kb torn cut x i0 k)[j]? = some (if x.f.ws.getD j false = true ∧ i0 + (wlF x j).length < k then ⟨stM kb torn cut x.f j (i0 + (wlF x j).length), stM kb torn cut x.f j (i0 + (wlF x j).length), false⟩ else ⟨chunk x.f.las j, chunk x.f.seen j, x.f.ws.getD j false⟩) := by simp [caS, h]
theorem caS_len (kb : List Int) (torn cut : Int) (x : MF) (i0 k : Nat) : (caS kb torn cut x i0 k).length = x.f.n := by simp [caS]
theorem caS_zero (kb : List Int) (torn cut : Int) (x : MF) (i0 : Nat) : caS kb torn cut x i0 0 = secsOf x.f := by
  refine List.ext_getElem? fun j => ?_
  by_cases hj : j < x.f.n
  · rw [caS_get _ _ _ _ _ _ _ hj, if_neg (by omega), secsOf_get _ _ hj]
  · rw [List.getElem?_eq_none (by rw [caS_len]; omega), List.getElem?_eq_none (by rw [secsOf_length]; omega)]
theorem caS_step (kb : List Int) (torn cut : Int) (x : MF) (i0 k i : Nat) (hi : i < x.f.n) (hw : x.f.ws.getD i false = true) (hk : i0 + (wlF x i).length = k) (hu : ∀ j, x.f.ws.getD j false = true → i0 + (wlF x j).length = k → j = i) :
    (caS kb torn cut x i0 k).set i ⟨stM kb torn cut x.f i k, stM kb torn cut x.f i k, false⟩ = caS kb torn cut x i0 (k + 1) := by
  refine List.ext_getElem? fun j => ?_
  by_cases hj : j < x.f.n
  · rw [caS_get _ _ _ _ _ _ _ hj]
    by_cases hji : j = i
    · subst hji
      rw [List.getElem?_set_self (by rw [caS_len]; exact hj), if_pos ⟨hw, by omega⟩, hk]
    · rw [List.getElem?_set_ne (Ne.symm hji), caS_get _ _ _ _ _ _ _ hj]
      by_cases h1 : x.f.ws.getD j false = true ∧ i0 + (wlF x j).length < k
      · rw [if_pos h1, if_pos ⟨h1.1, by omega⟩]
      · rw [if_neg h1, if_neg]
        rintro ⟨h2, h3⟩
        exact hji (hu j h2 (by
          have : ¬ i0 + (wlF x j).length < k := fun h => h1 ⟨h2, h⟩
          omega))
  · rw [List.getElem?_eq_none (by rw [List.length_set, caS_len]; omega), List.getElem?_eq_none (by rw [caS_len]; omega)]
theorem wlF_mono (x : MF) : ∀ (j d : Nat), (wlF x j).length ≤ (wlF x (j + d)).length
  | _, 0 => Nat.le_refl _
  | j, d + 1 => by
    have := wlF_mono x j d
    rw [show j + (d + 1) = (j + d) + 1 from rfl, wlF_succ, List.length_append]; omega
theorem wlF_lt (x : MF) (i j : Nat) (hw : x.f.ws.getD i false = true) (h : i < j) : (wlF x i).length < (wlF x j).length := by
  have h1 := wlF_mono x (i + 1) (j - (i + 1))
  rw [show i + 1 + (j - (i + 1)) = j from by omega, wlF_succ, if_pos hw, List.length_append] at h1
  simp at h1; omega
theorem wlF_inj (x : MF) (i j : Nat) (hi : x.f.ws.getD i false = true) (hj : x.f.ws.getD j false = true) (h : (wlF x i).length = (wlF x j).length) : i = j := by
  rcases Nat.lt_trichotomy i j with h1 | h1 | h1
  · have := wlF_lt x i j hi h1; omega
  · exact h1
  · have := wlF_lt x j i hj h1; omega
def wB (l : List MF) (a : Nat) : Nat := (wlL (l.take a)).length
theorem wB_succ (l : List MF) (a : Nat) (x : MF) (h : l[a]? = some x) : wB l (a + 1) = wB l a + (wlF x x.f.n).length := by
  unfold wB; rw [wlL_succ l a x h, List.length_append]
theorem wB_mono (l : List MF) (a b : Nat) (h : a ≤ b) : wB l a ≤ wB l b := by
  unfold wB wlL
  have e := (List.take_append_drop a (l.take b)).symm
  rw [List.take_take, Nat.min_eq_left h] at e
  rw [e, List.flatMap_append, List.length_append]; omega
theorem wlL_at : ∀ (l : List MF) (k : Nat), k < (wlL l).length → ∃ a x i, l[a]? = some x ∧ i < x.f.n ∧ x.f.ws.getD i false = true ∧ (wlL l)[k]? = some (x.g, i) ∧ wB l a + (wlF x i).length = k
  | [], k, h => by simp [wlL] at h
  | y :: l, k, h => by
    have e : wlL (y :: l) = wlF y y.f.n ++ wlL l := by unfold wlL; rw [List.flatMap_cons]
    by_cases h1 : k < (wlF y y.f.n).length
    · have hw : ∀ n, k < (wlF y n).length → ∃ i, i < n ∧ y.f.ws.getD i false = true ∧ (wlF y n)[k]? = some (y.g, i) ∧ (wlF y i).length = k := by
        intro n
        induction n with
        | zero => intro h; simp [wlF] at h
        | succ n ih =>
          intro h
          rw [wlF_succ] at h ⊢
          by_cases h2 : k < (wlF y n).length
          · obtain ⟨i, h3, h4, h5, h6⟩ := ih h2
            exact ⟨i, by omega, h4, by rw [List.getElem?_append_left h2]; exact h5, h6⟩
          · cases hq : y.f.ws.getD n false with
            | false => rw [hq] at h; simp at h; omega
            | true =>
              rw [hq, if_pos rfl, List.length_append] at h
              simp at h
              refine ⟨n, by omega, hq, ?_, by omega⟩
              rw [List.getElem?_append_right (by omega), if_pos rfl, show k - (wlF y n).length = 0 from by omega]; rfl
      obtain ⟨i, h2, h3, h4, h5⟩ := hw _ h1
      refine ⟨0, y, i, rfl, h2, h3, by rw [e, List.getElem?_append_left h1]; exact h4, ?_⟩
      rw [h5]; simp [wB, wlL]
    · rw [e, List.length_append] at h
      obtain ⟨a, x, i, h2, h3, h4, h5, h6⟩ := wlL_at l (k - (wlF y y.f.n).length) (by omega)
      refine ⟨a + 1, x, i, by simpa using h2, h3, h4, by rw [e, List.getElem?_append_right (by omega)]; exact h5, ?_⟩
      have : wB (y :: l) (a + 1) = (wlF y y.f.n).length + wB l a := by
        unfold wB
        rw [List.take_succ_cons]
        show (wlL (y :: l.take a)).length = _
        unfold wlL
        rw [List.flatMap_cons, List.length_append]
      omega
theorem rank_ne (l : List MF) (a b : Nat) (x y : MF) (i j : Nat) (ha : l[a]? = some x) (hb : l[b]? = some y) (hi : i < x.f.n) (hj : j < y.f.n) (hwi : x.f.ws.getD i false = true) (hwj : y.f.ws.getD j false = true) (h : wB l a + (wlF x i).length = wB l b + (wlF y j).length) : a = b := by
  have hx := wlF_lt x i x.f.n hwi hi
  have hy := wlF_lt y j y.f.n hwj hj
  rcases Nat.lt_trichotomy a b with h1 | h1 | h1
  · have h2 := wB_mono l (a + 1) b h1
    rw [wB_succ l a x ha] at h2; omega
  · exact h1
  · have h2 := wB_mono l (b + 1) a h1
    rw [wB_succ l b y hb] at h2; omega
theorem crS_waits (kb : List Int) (torn cut : Int) (x : MF) (i0 : Nat) : ∀ j, (crS kb torn cut x.f i0 j).2 = i0 + (wlF x j).length
  | 0 => by simp [crS, wlF]
  | j + 1 => by
    simp only [crS]
    rw [crS_waits kb torn cut x i0 j, wlF_succ, List.length_append]
    split <;> simp <;> omega
theorem crS_chunk (kb : List Int) (torn cut : Int) (f : AF) (i0 : Nat) (hl : f.las.length = f.n * 64) (hs : f.seen.length = f.n * 64) : ∀ (n j : Nat), n ≤ f.n → j < n → chunk (crS kb torn cut f i0 n).1 j = secC kb torn cut (chunk f.las j) (chunk f.seen j) (f.ws.getD j false) (crS kb torn cut f i0 j).2
  | n + 1, j, hn, hj => by
    have hlen := crS_length kb torn cut f i0 hl hs n (by omega)
    have hsl := secC_length kb torn cut (chunk f.las n) (chunk f.seen n) (f.ws.getD n false) (crS kb torn cut f i0 n).2 (chunk_length _ f.n n hl (by omega)) (chunk_length _ f.n n hs (by omega))
    simp only [crS]
    refine List.ext_getElem? fun q => ?_
    by_cases hq : q < 64
    · rw [chunk_get _ _ _ hq]
      by_cases hjn : j < n
      · have h1 : (j + 1) * 64 ≤ n * 64 := Nat.mul_le_mul_right _ hjn
        rw [List.getElem?_append_left (by omega), ← crS_chunk kb torn cut f i0 hl hs n j (by omega) hjn, chunk_get _ _ _ hq]
      · obtain rfl : j = n := by omega
        rw [List.getElem?_append_right (by omega), hlen]
        congr 1; omega
    · rw [chunk_out _ _ _ hq, List.getElem?_eq_none]
      have := secC_length kb torn cut (chunk f.las j) (chunk f.seen j) (f.ws.getD j false) (crS kb torn cut f i0 j).2 (chunk_length _ f.n j hl (by omega)) (chunk_length _ f.n j hs (by omega))
      omega
theorem caS_all (kb : List Int) (torn cut : Int) (x : MF) (i0 k : Nat) (hg : GF x.f) (hc : CalmF x.f) (hk : i0 + (wlF x x.f.n).length ≤ k) : caS kb torn cut x i0 k = secsOf (crFile kb torn cut x.f i0) := by
  refine List.ext_getElem? fun j => ?_
  by_cases hj : j < x.f.n
  · rw [caS_get _ _ _ _ _ _ _ hj, secsOf_get (crFile kb torn cut x.f i0) j hj]
    have hcl := chunk_length x.f.las x.f.n j hg.las hj
    have hcs := chunk_length x.f.seen x.f.n j hg.seen hj
    have e1 : chunk (crFile kb torn cut x.f i0).las j = secC kb torn cut (chunk x.f.las j) (chunk x.f.seen j) (x.f.ws.getD j false) (i0 + (wlF x j).length) := by
      rw [← crS_waits kb torn cut x i0 j]
      exact crS_chunk kb torn cut x.f i0 hg.las hg.seen x.f.n j (Nat.le_refl _) hj
    have e2 : chunk (crFile kb torn cut x.f i0).seen j = chunk (crFile kb torn cut x.f i0).las j := rfl
    have e3 : (crFile kb torn cut x.f i0).ws.getD j false = false := by
      show (List.replicate x.f.n false).getD j false = false
      simp [List.getD, hj]
    rw [e2, e1, e3]
    cases hw : x.f.ws.getD j false with
    | true =>
      rw [if_pos ⟨rfl, by have := wlF_lt x j x.f.n hw hj; omega⟩]
      have e4 : stM kb torn cut x.f j (i0 + (wlF x j).length) = secC kb torn cut (chunk x.f.las j) (chunk x.f.seen j) true (i0 + (wlF x j).length) := by
        unfold stM secC keptN
        rw [if_pos rfl]
        by_cases h1 : ((i0 + (wlF x j).length : Nat) : Int) = torn
        · rw [if_pos h1, if_pos h1]
        · rw [if_neg h1, if_neg h1]
          by_cases h2 : bitI kb ((i0 + (wlF x j).length : Nat) : Int) = true
          · rw [if_pos h2, if_pos h2, mixN_all _ _ hcl hcs]
          · rw [if_neg h2, if_neg h2, mixN_zero]
      rw [e4]
    | false =>
      rw [if_neg (by simp), hc j hj hw]
      unfold secC
      rw [if_neg (by simp)]
  · rw [List.getElem?_eq_none (by rw [caS_len]; omega), List.getElem?_eq_none (by rw [secsOf_length]; exact Nat.not_lt.1 hj)]
theorem crL_waits (kb : List Int) (torn cut : Int) (l : List MF) : ∀ a, a ≤ l.length → (crL kb torn cut (l.map MF.f) a).2 = wB l a
  | 0, _ => rfl
  | a + 1, h => by
    obtain ⟨x, hx⟩ := row_some (L := l) (i := a) (by omega)
    rw [crL_step kb torn cut (l.map MF.f) a x.f (by rw [List.getElem?_map, hx]; rfl), wB_succ l a x hx]
    show (crS kb torn cut x.f _ x.f.n).2 = _
    rw [crS_waits, crL_waits kb torn cut l a (by omega)]
def crM (kb : List Int) (torn cut : Int) (l : List MF) : List MF := l.mapIdx fun a x => ⟨crFile kb torn cut x.f (wB l a), x.g, x.c⟩
theorem crM_get (kb : List Int) (torn cut : Int) (l : List MF) (a : Nat) : (crM kb torn cut l)[a]? = (l[a]?).map fun x => ⟨crFile kb torn cut x.f (wB l a), x.g, x.c⟩ := by unfold crM; rw [List.getElem?_mapIdx]
theorem crL_get (kb : List Int) (torn cut : Int) (l : List MF) : ∀ (k a : Nat) (x : MF), k ≤ l.length → a < k → l[a]? = some x → (crL kb torn cut (l.map MF.f) k).1[a]? = some (crFile kb torn cut x.f (wB l a))
  | k + 1, a, x, hk, ha, hx => by
    obtain ⟨y, hy⟩ := row_some (L := l) (i := k) (by omega)
    have hlen := crL_length kb torn cut (l.map MF.f) k (by rw [List.length_map]; omega)
    rw [crL_step kb torn cut (l.map MF.f) k y.f (by rw [List.getElem?_map, hy]; rfl)]
    by_cases h1 : a < k
    · rw [List.getElem?_append_left (by omega)]
      exact crL_get kb torn cut l k a x (by omega) h1 hx
    · obtain rfl : a = k := by omega
      rw [hx] at hy
      obtain rfl := Option.some.inj hy
      rw [List.getElem?_append_right (by omega), hlen, Nat.sub_self, crL_waits kb torn cut l a (by omega)]; rfl
theorem crM_files (kb : List Int) (torn cut : Int) (l : List MF) : (crM kb torn cut l).map MF.f = (crL kb torn cut (l.map MF.f) (l.map MF.f).length).1 := by
  refine List.ext_getElem? fun a => ?_
  rw [List.getElem?_map, crM_get]
  by_cases ha : a < l.length
  · obtain ⟨x, hx⟩ := row_some (L := l) (i := a) ha
    rw [crL_get kb torn cut l _ a x (by rw [List.length_map]; exact Nat.le_refl _) (by rw [List.length_map]; exact ha) hx, hx]; rfl
  · rw [List.getElem?_eq_none (by omega), List.getElem?_eq_none]
    · rfl
    · rw [crL_length kb torn cut _ _ (Nat.le_refl _), List.length_map]; omega
end Go.Proofs.YtgegbpnmfpjdmaaGreatDoor
namespace Go.Proofs.YtgegbpnmfpjdmaaGreatDoor
open Go.RowKit
structure CrK (kb : List Int) (torn cut : Int) (F : Nat → Bool) (w : World) (b bm : Nat) (l : List MF) (d : AD) (v : Value) (va : Value) (k : Nat) (wr : World) : Prop where
  ext : Ext F w wr F
  blk : ∃ fl lf, DBk wr b bm d fl lf
  map : MapOf wr bm l
  row : ∀ (a : Nat) (x : MF), l[a]? = some x → SR wr x.g x.c (caS kb torn cut x (wB l a) k)
  ptrs : wr.ownsRow w.heap.size 96 1 v (wlL l).length ((wlL l).map wpV)
  box : wr.heap[w.heap.size]? = some (.cells #[va, .int .i64 torn, .int .i64 cut] 58 (0, 0))
theorem CrK.below {kb : List Int} {torn cut : Int} {F : Nat → Bool} {w : World} {b bm : Nat} {l : List MF} {d : AD} {v va : Value} {k : Nat} {wr w1 : World} (h : CrK kb torn cut F w b bm l d v va k wr) (hb : Below wr.heap.size wr w1) : CrK kb torn cut F w b bm l d v va k w1 := by
  obtain ⟨fl, lf, h1⟩ := h.blk
  exact ⟨h.ext.then_below hb, ⟨fl, lf, (hb.block b (Array.getElem?_eq_some_iff.1 h1).1).trans h1⟩, h.map.keep (hb.block bm h.map.lt), fun a x hx => (h.row a x hx).keep (hb.block _ (h.row a x hx).lt), own_stay h.ptrs hb, (hb.block _ (Array.getElem?_eq_some_iff.1 h.box).1).trans h.box⟩
theorem CrK.next {kb : List Int} {torn cut : Int} {F : Nat → Bool} {w : World} {b bm : Nat} {l : List MF} {d : AD} {v va : Value} {k : Nat} {wr w1 : World} (h : CrK kb torn cut F w b bm l d v va k wr) (hn : (l.map MF.g).Nodup) (hF : ∀ k, own b bm l k → F k = true) (hlt : ∀ x ∈ l, x.g < w.heap.size)
    {a i : Nat} {x : MF} (hx : l[a]? = some x) (hi : i < x.f.n) (hw : x.f.ws.getD i false = true) (hk : wB l a + (wlF x i).length = k) (hg : wr.grownBy w1 (some x.g)) (hr : SR w1 x.g x.c ((caS kb torn cut x (wB l a) k).set i ⟨stM kb torn cut x.f i k, stM kb torn cut x.f i k, false⟩)) :
    CrK kb torn cut F w b bm l d v va (k + 1) w1 := by
  have hxm := List.mem_of_getElem? hx
  obtain ⟨fl, lf, h1⟩ := h.blk
  obtain ⟨es, clock, h2⟩ := h.map.obj
  obtain ⟨cur, h3, _⟩ := h.row a x hx
  have hb1 : b ≠ x.g := fun e => by subst e; unfold DBk at h1; rw [h3] at h1; simp at h1
  have hb2 : bm ≠ x.g := fun e => by subst e; rw [h3] at h2; cases h2
  have hwg : w.heap.size ≠ x.g := fun e => by have := hlt x hxm; omega
  have hblk : ∀ q, q < wr.heap.size → q ≠ x.g → w1.heap[q]? = wr.heap[q]? := fun q hq hne => hg.block q hq (fun e => hne (Option.some.inj e))
  refine ⟨h.ext.grown hg (.inl (hF _ (.inr (.inr ⟨x, hxm, rfl⟩)))), ⟨fl, lf, (hblk b (Array.getElem?_eq_some_iff.1 h1).1 hb1).trans h1⟩, h.map.keep (hblk bm h.map.lt hb2), ?_, own_over h.ptrs hg (fun q hq e => by have := (h.ptrs.lt q hq).1; have := hlt x hxm; obtain rfl := Option.some.inj e; omega), (hblk _ (Array.getElem?_eq_some_iff.1 h.box).1 hwg).trans h.box⟩
  intro c y hy
  by_cases hca : c = a
  · subst hca
    rw [hx] at hy
    obtain rfl := Option.some.inj hy
    rw [← caS_step kb torn cut x (wB l c) k i hi hw hk (fun j hj e => wlF_inj x j i hj hw (by omega))]
    exact hr
  · have hne : y.g ≠ x.g := fun e => by
      have hc := (List.getElem?_eq_some_iff.1 hy).1
      have ha := (List.getElem?_eq_some_iff.1 hx).1
      have e2 : (l.map MF.g)[c]'(by simpa using hc) = (l.map MF.g)[a]'(by simpa using ha) := by
        simp only [List.getElem_map]
        rw [(List.getElem?_eq_some_iff.1 hy).2, (List.getElem?_eq_some_iff.1 hx).2]; exact e
      exact hca ((List.getElem_inj hn).1 e2)
    have hstay : caS kb torn cut y (wB l c) (k + 1) = caS kb torn cut y (wB l c) k := by
      refine List.ext_getElem? fun j => ?_
      by_cases hj : j < y.f.n
      · rw [caS_get _ _ _ _ _ _ _ hj, caS_get _ _ _ _ _ _ _ hj]
        by_cases h1 : y.f.ws.getD j false = true ∧ wB l c + (wlF y j).length < k
        · rw [if_pos h1, if_pos ⟨h1.1, by omega⟩]
        · rw [if_neg h1, if_neg]
          rintro ⟨h4, h5⟩
          have h6 : ¬ wB l c + (wlF y j).length < k := fun h => h1 ⟨h4, h⟩
          exact hca (rank_ne l c a y x j i hy hx hj hi h4 hw (by omega))
      · rw [List.getElem?_eq_none (by rw [caS_len]; omega), List.getElem?_eq_none (by rw [caS_len]; omega)]
    rw [hstay]
    exact (h.row c y hy).keep (hblk _ (h.row c y hy).lt hne)
theorem CrK.done {kb : List Int} {torn cut : Int} {F : Nat → Bool} {w : World} {b bm : Nat} {l : List MF} {d : AD} {v va : Value} {wr : World} (h : CrK kb torn cut F w b bm l d v va (wlL l).length wr) (hg : Good d) (hc : Calm d) (hL : d.L = l.map MF.f) (hn : (l.map MF.g).Nodup) (hF : ∀ k, own b bm l k → F k = true) :
    ∃ fl lf, DBk wr b bm d fl lf ∧ Done F w b bm l (d.crashR kb torn cut) (((wr.setCell ⟨b, 3, none⟩ (.bool false)).setCell ⟨b, 4, none⟩ (.bool false)).setCell ⟨b, 5, none⟩ (.int .i64 0)) := by
  obtain ⟨fl, lf, h1⟩ := h.blk
  refine ⟨fl, lf, h1, crM kb torn cut l, ?_, ?_, ?_⟩
  · have hgs : (crM kb torn cut l).map MF.g = l.map MF.g := by
      refine List.ext_getElem? fun a => ?_
      rw [List.getElem?_map, List.getElem?_map, crM_get, Option.map_map]; rfl
    have hd0 : Dk wr b bm (crM kb torn cut l) { d.crashR kb torn cut with down := d.down, told := fl, after := lf } := by
      refine ⟨⟨fl, lf, h1, fun _ => ⟨rfl, rfl⟩⟩, ?_, ?_, by rw [hgs]; exact hn, ?_⟩
      · have he : ents MF.nm MF.dat (crM kb torn cut l) = ents MF.nm MF.dat l := by
          unfold ents
          congr 1
          refine List.ext_getElem? fun a => ?_
          rw [List.getElem?_map, List.getElem?_map, crM_get, Option.map_map]; rfl
        have hl : (crM kb torn cut l).length = l.length := by unfold crM; simp
        have hm := h.map
        unfold MapOf MO at hm ⊢
        rw [he, hl]; exact hm
      · intro y hy
        obtain ⟨a, ha⟩ := List.getElem?_of_mem hy
        rw [crM_get] at ha
        obtain ⟨x, hx, rfl⟩ := Option.map_eq_some_iff.1 ha
        have hxm : x.f ∈ d.L := by rw [hL]; exact List.mem_map_of_mem (List.mem_of_getElem? hx)
        have hle : wB l a + (wlF x x.f.n).length ≤ (wlL l).length := by
          rw [← wB_succ l a x hx]
          have h2 := wB_mono l (a + 1) l.length (List.getElem?_eq_some_iff.1 hx).1
          unfold wB at h2 ⊢
          rwa [List.take_length] at h2
        have := h.row a x hx
        rwa [caS_all kb torn cut x _ _ (hg.file _ hxm) (hc _ hxm) hle] at this
      · show (crL kb torn cut d.L d.L.length).1 = _
        rw [crM_files, hL]
    have h2 := hd0.cellset (d' := { d.crashR kb torn cut with down := false, told := fl, after := lf }) (fl' := fl) (lf' := lf) h1 3 (.bool false) rfl rfl (fun _ => ⟨rfl, rfl⟩)
    have h3 := h2.1.cellset (d' := { d.crashR kb torn cut with down := false, told := false, after := lf }) (fl' := false) (lf' := lf) h2.2 4 (.bool false) rfl rfl (fun _ => ⟨rfl, rfl⟩)
    have h4 := h3.1.cellset (d' := d.crashR kb torn cut) (fl' := false) (lf' := 0) h3.2 5 (.int .i64 0) rfl rfl (fun _ => ⟨rfl, rfl⟩)
    exact h4.1
  · have hbF := hF b (.inl rfl)
    exact ((h.ext.cellset hbF _ _).cellset hbF _ _).cellset hbF _ _
  · rintro q (rfl | rfl | ⟨y, hy, rfl⟩) _
    · exact .inl rfl
    · exact .inr (.inl rfl)
    · obtain ⟨a, ha⟩ := List.getElem?_of_mem hy
      rw [crM_get] at ha
      obtain ⟨x, hx, rfl⟩ := Option.map_eq_some_iff.1 ha
      exact .inr (.inr ⟨x, List.mem_of_getElem? hx, rfl⟩)
theorem crash_info : (Tryz.prog.info? 58).map (·.size) = some 3 := by kernel_rfl
set_option maxRecDepth 8000 in
set_option maxHeartbeats 1000000 in
theorem kcrash_any (w : World) (p : Addr) (F : Nat → Bool) (d : AD) (va : Value) (len : Nat) (kb : List Int) (torn cut : Int) (h : DKp w p F d) (hg : Good d) (hc : Calm d) (hv : RI .u8 (mask F w) va len kb) (hkb : Bytes kb) (ht : I63 torn) (hcut : I63 cut) :
    Calls Tryz.prog 22 #[ptr p, .agg #[va, .int .i64 torn, .int .i64 cut]] w fun e w' => ∃ F', e = .returned (.tuple #[]) ∧ DKp w' p F' (d.crashR kb torn cut) ∧ Ext F w w' F' := by
  obtain ⟨hF, b, bm, l, rfl, hd, ho⟩ := h
  have hb0 := below_alloc w (.cells #[va, .int .i64 torn, .int .i64 cut] 58)
  have HK := Lib.hid (hd.below hb0)
  have HG := Lib.hid hg
  have HV := Lib.hid hv
  have HKB := Lib.hid hkb
  have HT := Lib.hid ht
  have HC := Lib.hid hcut
  have HB0 := Lib.hid hb0
  have HHF := Lib.hid (show ∀ wr, CrK kb torn cut F w b bm l d (.slice none 0 0) va 0 wr → True from fun _ _ => trivial)
  have HW := Lib.hid (show (wlL l).length ≤ 4096 by
    have h1 := wlL_le l (fun x hx => (hg.file _ (by rw [hd.files]; exact List.mem_map_of_mem hx)).n64)
    have h2 := hg.few
    rw [hd.files, List.length_map] at h2
    omega)
  have HST : Hid (∀ (v : Value) (w1 : World), Below (w.alloc (.cells #[va, .int .i64 torn, .int .i64 cut] 58)).heap.size (w.alloc (.cells #[va, .int .i64 torn, .int .i64 cut] 58)) w1 → w1.ownsRow (w.alloc (.cells #[va, .int .i64 torn, .int .i64 cut] 58)).heap.size 96 1 v (wlL l).length ((wlL l).map wpV) → CrK kb torn cut F w b bm l d v va 0 w1) := Lib.hid fun v w1 hb1 hv1 => by
    have hk1 := HK.out.below hb1
    obtain ⟨fl, lf, h1, _⟩ := hk1.blk
    refine ⟨Ext.below (chain hb0 hb1), ⟨fl, lf, h1⟩, hk1.map, fun a x hx => ?_, own_low hv1 hb0.size, (hb1.block _ (by rw [alloc_size]; omega)).trans (heap_alloc_last w _)⟩
    rw [caS_zero]; exact hk1.row x (List.mem_of_getElem? hx)
  have HNX : Hid (∀ (v : Value) (k : Nat) (wr : World), CrK kb torn cut F w b bm l d v va k wr → k < (wlL l).length → ∃ a x i, l[a]? = some x ∧ (wlL l)[k]? = some (x.g, i) ∧ SR wr x.g x.c (caS kb torn cut x (wB l a) k) ∧ (caS kb torn cut x (wB l a) k)[i]? = some ⟨chunk x.f.las i, chunk x.f.seen i, true⟩ ∧
      ∀ w1 w2, Below wr.heap.size wr w1 → w1.grownBy w2 (some x.g) → SR w2 x.g x.c ((caS kb torn cut x (wB l a) k).set i ⟨stM kb torn cut x.f i k, stM kb torn cut x.f i k, false⟩) → CrK kb torn cut F w b bm l d v va (k + 1) w2) := Lib.hid fun v k wr hk hlt => by
    obtain ⟨a, x, i, hx, hi, hw, hp, hr⟩ := wlL_at l k hlt
    refine ⟨a, x, i, hx, hp, hk.row a x hx, ?_, fun w1 w2 hb1 hg1 hs1 => (hk.below hb1).next hd.nodup ho (fun y hy => hd.lt _ (.inr (.inr ⟨y, hy, rfl⟩))) hx hi hw hr hg1 hs1⟩
    rw [caS_get _ _ _ _ _ _ _ hi, if_neg (by omega), hw]
  have HDN : Hid (∀ (v : Value) (wr : World), CrK kb torn cut F w b bm l d v va (wlL l).length wr → ∃ fl lf, DBk wr b bm d fl lf ∧ ∃ F', DKp (((wr.setCell ⟨b, 3, none⟩ (.bool false)).setCell ⟨b, 4, none⟩ (.bool false)).setCell ⟨b, 5, none⟩ (.int .i64 0)) ⟨b, 0, none⟩ F' (d.crashR kb torn cut) ∧ Ext F w (((wr.setCell ⟨b, 3, none⟩ (.bool false)).setCell ⟨b, 4, none⟩ (.bool false)).setCell ⟨b, 5, none⟩ (.int .i64 0)) F') := Lib.hid fun v wr hk => by
    obtain ⟨fl, lf, h1, h2⟩ := hk.done hg hc hd.files hd.nodup ho
    exact ⟨fl, lf, h1, h2.dkp hF ho⟩
  clear hd hg hc hv hkb ht hcut hb0 HHF
  go_enter Tryz.func22, Tryz.ntmps22
  go_wp2_with (first
    | (go_at_call 40; (with_reducible refine (pwaiting_any _ b bm l d HK.out HG.out).mono ?_); rintro e w1 ⟨v1, rfl, hcs, hb⟩; have HK1 := Lib.hid (HST.out v1 w1 hb hcs); obtain ⟨a1, k1, rfl⟩ := own_slice hcs; clear hcs hb))
  go_loopw [11] (fun iv wr => ∃ k : Nat, iv = .int .i64 k ∧ k ≤ (wlL l).length ∧ Hid (CrK kb torn cut F w b bm l d (.slice a1 (wlL l).length k1) va k wr)) (fun iv _ => (wlL l).length - (intOf iv).toNat)
  case atStart => exact ⟨0, rfl, by omega, HK1⟩
  case round =>
    obtain ⟨k, rfl, hk, HR⟩ := hrel
    by_cases hlt : (k : Int) < ((wlL l).length : Int)
    · have hkl : k < (wlL l).length := by omega
      obtain ⟨a, x, i, hx, hp, hsr, hsi, hnx⟩ := HNX.out _ k wr HR.out hkl
      have HSI := Lib.hid hsi
      have HNX2 := Lib.hid hnx
      have HSR := Lib.hid hsr
      obtain ⟨pb, po, rfl, hpc⟩ := (CS.own HR.out.ptrs).at_ k hkl
      have hcell := hpc 0 (by omega)
      rw [Nat.mul_one, Nat.add_zero, Nat.add_zero, List.getElem?_map, hp] at hcell
      have hcell2 : wr.cell? ⟨pb, po + k, none⟩ = some (.pointer (some ⟨x.g, i * 129, none⟩)) := hcell
      have HBX := Lib.hid HR.out.box
      have HRI : Hid (RI .u8 wr va len kb) := Lib.hid ((HV.out.kin HR.out.ext.kin).kin (unmask F wr))
      have hk63 : (k : Int) ≤ 4096 := by have := HW.out; omega
      clear hcell hpc hsi hnx hp hx hsr
      go_wp2_with (first
        | (refine wpList_load_row rfl 58 (.tmp 3) rfl w.heap.size rfl _ #[va, .int .i64 torn, .int .i64 cut] (0, 0) _ HBX.out Tryz.underlying58 rfl crash_info ?_)
        | (go_at_call 45; (with_reducible refine (kept_any _ va len kb torn cut k HRI.out HKB.out HT.out HC.out (by omega)).mono ?_); rintro e w2 ⟨rfl, hb2⟩; have HR2 := Lib.hid (HR.out.below hb2); have HB2 := Lib.hid hb2; have HSR2 := Lib.hid (HSR.out.keep (hb2.block _ HSR.out.lt)); clear hb2)
        | (go_at_call 44; (refine (settle_any _ x.g x.c i (keptN kb torn cut k) _ _ HSR2.out HSI.out (keptN_le _ _ _ _)).mono ?_); rintro e w3 ⟨rfl, hs3, hg3⟩; dsimp only at hs3; have HK3 := Lib.hid (HNX2.out w2 w3 HB2.out hg3 hs3); clear hs3 hg3))
      go_roundw
      case rel => exact ⟨k + 1, by go_num, by omega, HK3⟩
      case measure => simp [intOf]; omega
    · obtain rfl : k = (wlL l).length := by omega
      obtain ⟨fl, lf, hdb, F', hdk, hex⟩ := HDN.out _ wr HR.out
      have HDK := Lib.hid hdk
      have HEX := Lib.hid hex
      obtain ⟨c0, c1, c2, c3, c4, c5⟩ := hdb.cells
      have z3 := hdb.frozen 3
      have z4 := hdb.frozen 4
      have z5 := hdb.frozen 5
      clear hdb hdk hex
      go_wp2
      go_end0
      exact ⟨rfl, F', HDK.out, HEX.out⟩
end Go.Proofs.YtgegbpnmfpjdmaaGreatDoor
namespace Go.Proofs.YtgegbpnmfpjdmaaGreatDoor
open Go.RowKit
structure Still (d : AD) : Prop where
  down : d.down = false
  told : d.told = false
  after : d.after = 0
  file : ∀ f ∈ d.L, f.ws = List.replicate f.n false ∧ f.seen = f.las
theorem crS_still (kb : List Int) (torn cut : Int) (f : AF) (i0 : Nat) (hw : f.ws = List.replicate f.n false) : ∀ j, crS kb torn cut f i0 j = (f.las.take (j * 64), i0)
  | 0 => by simp [crS]
  | j + 1 => by
    have hg : f.ws.getD j false = false := by rw [hw]; simp [List.getD, List.getElem?_replicate]; split <;> rfl
    simp only [crS, crS_still kb torn cut f i0 hw j, hg]
    have e : f.las.take ((j + 1) * 64) = f.las.take (j * 64) ++ chunk f.las j := by
      unfold chunk; rw [show (j + 1) * 64 = j * 64 + 64 from by omega, List.take_add]
    simp [secC, e]
theorem crL_still (kb : List Int) (torn cut : Int) (L : List AF) (hL : ∀ f ∈ L, f.ws = List.replicate f.n false ∧ f.seen = f.las ∧ f.las.length = f.n * 64) : ∀ k, k ≤ L.length → crL kb torn cut L k = (L.take k, 0)
  | 0, _ => by simp [crL]
  | k + 1, h => by
    obtain ⟨f, hf⟩ := row_some (L := L) (i := k) (by omega)
    obtain ⟨h1, h2, h3⟩ := hL f (List.mem_of_getElem? hf)
    rw [crL_step kb torn cut L k f hf, crL_still kb torn cut L hL k (by omega)]
    have e : crFile kb torn cut f 0 = f := by
      unfold crFile
      rw [crS_still kb torn cut f 0 h1, List.take_of_length_le (by omega)]
      obtain ⟨nm, n, las, seen, ws⟩ := f
      simp only at h1 h2 ⊢
      rw [h1, h2]
    obtain ⟨hk, rfl⟩ := List.getElem?_eq_some_iff.1 hf
    rw [List.take_succ_eq_append_getElem hk]
    simp only [crS_still kb torn cut _ 0 h1, e]
theorem Still.crash {d : AD} (s : Still d) (h : Good d) (kb : List Int) (torn cut : Int) : d.crashR kb torn cut = d := by
  have hL := crL_still kb torn cut d.L (fun f hf => ⟨(s.file f hf).1, (s.file f hf).2, (h.file f hf).las⟩) d.L.length (Nat.le_refl _)
  unfold AD.crashR
  rw [hL, List.take_length]
  have h1 := s.down; have h2 := s.told; have h3 := s.after
  obtain ⟨L, cap, ops, down, told, after⟩ := d
  simp only at h1 h2 h3
  subst h1; subst h2; subst h3
  rfl
theorem Still.new (c : Int) : Still (AD.newD c) := ⟨rfl, rfl, rfl, fun f hf => by simp [AD.newD] at hf⟩
theorem Still.put {d : AD} (s : Still d) {f : AF} (hf : f.ws = List.replicate f.n false ∧ f.seen = f.las) : Still (d.withF f) :=
  ⟨s.down, s.told, s.after, fun g hg => by
    rcases mem_ins.1 hg with rfl | hg
    · exact hf
    · exact s.file g (mem_without.1 hg).1⟩
theorem Still.op {d : AD} (s : Still d) : Still d.opd := by
  unfold AD.opd
  rw [if_neg (by rw [s.told]; simp)]
  exact ⟨s.down, s.told, by show (if d.told = true then wrap64 (d.after - 1) else d.after) = 0; rw [s.told]; simpa using s.after, s.file⟩
end Go.Proofs.YtgegbpnmfpjdmaaGreatDoor
namespace Go.Proofs.YtgegbpnmfpjdmaaGreatDoor
open Go.RowKit
def ownF (b bm : Nat) (l : List MF) : Nat → Bool := fun k => k == b || k == bm || l.any fun x => x.g == k
theorem ownF_iff (b bm : Nat) (l : List MF) (k : Nat) : ownF b bm l k = true ↔ own b bm l k := by
  unfold ownF own
  simp [List.any_eq_true, or_assoc]
structure LyS (w : World) (b bm : Nat) (l : List MF) (d : AD) (wr : World) : Prop where
  below : Below w.heap.size w wr
  dk : Dk wr b bm l d
  new : ∀ k, own b bm l k → w.heap.size ≤ k
theorem LyS.next {w wr w1 : World} {b bm : Nat} {l : List MF} {d : AD} (h : LyS w b bm l d wr) (hb : Below wr.heap.size wr w1) : LyS w b bm l d w1 := ⟨chain h.below hb, h.dk.below hb, h.new⟩
theorem LyS.done {w wr w1 : World} {b bm : Nat} {l : List MF} {d d' : AD} (h : LyS w b bm l d wr) (hd : Done (ownF b bm l) wr b bm l d' w1) : ∃ l', LyS w b bm l' d' w1 ∧ ∀ q, q < wr.heap.size → ¬ own b bm l q → w1.heap[q]? = wr.heap[q]? ∧ ¬ own b bm l' q ∧ q < w1.heap.size := by
  obtain ⟨l', h1, h2, h3⟩ := hd
  have hf : ∀ q, ¬ own b bm l q → ownF b bm l q = false := fun q hq => by
    cases hc : ownF b bm l q with
    | false => rfl
    | true => exact absurd ((ownF_iff _ _ _ _).1 hc) hq
  refine ⟨l', ⟨⟨h2.os.trans h.below.os, h2.tape.trans h.below.tape, h2.output.trans h.below.output, Nat.le_trans h.below.size h2.size, fun k hk => ?_⟩, h1, fun k hk => ?_⟩, fun q hq hn => ⟨h2.block q hq (hf q hn), fun ho => hn (h3 q ho hq), Nat.lt_of_lt_of_le hq h2.size⟩⟩
  · have hlt := Nat.lt_of_lt_of_le hk h.below.size
    exact (h2.block k hlt (hf k (fun ho => by have := h.new k ho; omega))).trans (h.below.block k hk)
  · by_cases hlt : k < wr.heap.size
    · exact h.new k (h3 k hk hlt)
    · have := h.below.size; omega
theorem LyS.apart {w wr : World} {b bm : Nat} {l : List MF} {d : AD} (h : LyS w b bm l d wr) (M : Nat → Bool) : Kin (mask M w) (mask (ownF b bm l) wr) := by
  intro a v hx
  have hx2 := unmask M w a v hx
  have hlt := World.block_lt_of_cell? w _ hx2
  have hf : ownF b bm l a.block = false := by
    cases hc : ownF b bm l a.block with
    | false => rfl
    | true => have := h.new _ ((ownF_iff _ _ _ _).1 hc); omega
  have hw := cell_keep h.below (a := a) (v := v) hx2
  unfold World.cell? at hw ⊢
  rw [mask_heap]
  cases hq : wr.heap[a.block]? with
  | none => simp [hq] at hw
  | some o => simpa [hq, hf] using hw
theorem LyS.dkp {w wr : World} {b bm : Nat} {l : List MF} {d : AD} (h : LyS w b bm l d wr) : ∃ F, DKp wr ⟨b, 0, none⟩ F d ∧ Ext noF w wr F :=
  DKp.done (Foot.none _) (Ext.below h.below) h.dk fun k hk hl => by have := h.new k hk; omega
set_option maxRecDepth 8000 in
theorem pnew_any (c : Int) (w : World) (hc : I63 c) : Calls Tryz.prog 7 #[.int .i64 c] w fun e w' => ∃ b bm, e = .returned (ptr ⟨b, 0, none⟩) ∧ LyS w b bm [] (AD.newD c) w' := by
  have HC := Lib.hid hc
  have HM := Lib.hid (show I63 1048576 from ⟨by omega, by omega⟩)
  have HN : Hid (∀ g, w.heap.size = g → LyS w (g + 1) g [] (AD.newD c) ((w.alloc (.map #[] 0)).alloc (.cells #[.int .i64 (min (max c 0) 1048576), .map (some g), .int .i64 0, .bool false, .bool false, .int .i64 0] 69))) := Lib.hid fun g hg => by
    subst hg
    have h1 : Below w.heap.size w (w.alloc (.map #[] 0)) := below_alloc w _
    have hm : MapOf ((w.alloc (.map #[] 0)).alloc (.cells #[.int .i64 (min (max c 0) 1048576), .map (some w.heap.size), .int .i64 0, .bool false, .bool false, .int .i64 0] 69)) w.heap.size [] :=
      MO.keep (MO.made _ w) (heap_alloc_old _ _ (by rw [alloc_size]; omega))
    refine ⟨chain h1 (below_alloc _ _), ⟨⟨false, 0, ?_, fun _ => ⟨rfl, rfl⟩⟩, hm, fun x hx => by simp at hx, by simp, rfl⟩, ?_⟩
    · have := heap_alloc_last (w.alloc (.map #[] 0)) (.cells #[.int .i64 (min (max c 0) 1048576), .map (some w.heap.size), .int .i64 0, .bool false, .bool false, .int .i64 0] 69)
      rw [alloc_size] at this; exact this
    · rintro k (rfl | rfl | ⟨x, hx, _⟩)
      · omega
      · omega
      · simp at hx
  have hmm := @run_makeMap Tryz.prog
  clear hc
  go_enter Tryz.func7, Tryz.ntmps7
  go_wp2_with (first
    | (go_at_call 25; (with_reducible refine (nearer_dsk c 1048576 HC.out HM.out _).mono ?_); rintro e w1 ⟨rfl, rfl⟩))
  go_ret
  exact ⟨_, _, rfl, HN.out _ rfl⟩
end Go.Proofs.YtgegbpnmfpjdmaaGreatDoor
namespace Go.Proofs.YtgegbpnmfpjdmaaGreatDoor
open Go.RowKit
def AD.z0 (d : AD) : AD := { d with ops := 0 }
theorem Good.z0 {d : AD} (h : Good d) : Good d.z0 := ⟨h.asc, h.file, h.few, h.cap0, h.cap1, h.used, by show I63 0; unfold I63; omega, h.after⟩
end Go.Proofs.YtgegbpnmfpjdmaaGreatDoor
namespace Go.Proofs.YtgegbpnmfpjdmaaGreatDoor
open Go.RowKit
structure ClK (w : World) (cb cm : Nat) (lc : List MF) (d : AD) (l todo : List MF) (wr : World) : Prop where
  ly : LyS w cb cm lc { d with L := lc.map MF.f } wr
  asc : lc.Pairwise fun x y => gtN (MF.nm y) (MF.nm x) = true
  perm : (lc.map MF.f ++ todo.map MF.f).Perm (l.map MF.f)
theorem ClK.below {w : World} {cb cm : Nat} {lc : List MF} {d : AD} {l todo : List MF} {wr w1 : World} (h : ClK w cb cm lc d l todo wr) (hb : Below wr.heap.size wr w1) : ClK w cb cm lc d l todo w1 := ⟨h.ly.next hb, h.asc, h.perm⟩
theorem RPk.iterm {w : World} {bm r cnt : Nat} {l todo : List MF} (h : RPk w bm r l todo cnt) : ∀ es ck, w.heap[r]? ≠ some (.map es ck) := by
  obtain ⟨_, h, _⟩ := h
  obtain ⟨_, _, _, _, _, _, _, _, _, hit, _⟩ := h
  intro es ck e
  rw [hit] at e; cases e
theorem ClK.iter {w : World} {cb cm : Nat} {lc : List MF} {d : AD} {l todo : List MF} {wr w1 : World} (h : ClK w cb cm lc d l todo wr) {bm r cnt : Nat} {l2 todo2 : List MF} (hr : RPk wr bm r l2 todo2 cnt) (hg : wr.grownBy w1 (some r)) (hw : w.heap.size ≤ r) : ClK w cb cm lc d l todo w1 := by
  refine ⟨⟨h.ly.below.grown hg h.ly.below.size (fun j hj => by rw [← Option.some.inj hj]; exact hw), h.ly.dk.keep fun k hk => hg.block k (h.ly.dk.lt k hk) (fun e => ?_), h.ly.new⟩, h.asc, h.perm⟩
  obtain rfl := Option.some.inj e
  rcases hk with rfl | rfl | ⟨x, hx, rfl⟩
  · obtain ⟨fl, lf, hb, _⟩ := h.ly.dk.blk
    exact hr.iter _ _ _ hb
  · obtain ⟨es, ck, hm⟩ := h.ly.dk.map.obj
    exact RPk.iterm hr _ _ hm
  · obtain ⟨cur, hc, _⟩ := h.ly.dk.row x hx
    exact hr.iter _ _ _ hc
end Go.Proofs.YtgegbpnmfpjdmaaGreatDoor
