/-
  TEXTS JOINED: DkApi2, DkCrashMath, DkCrash, DkLay, DkLay2, DkClone, DkNil. Each one's own words stand at its head.
-/
import Derived.Test.YtoempaagpgoilaaDoorJ7
import Derived.Test.YtoempaagpgoilaaDoorJ5
import Derived.Lib.SliceRun
/-
  LAYER 8 (disk), the program's own disk: Rename, Fail, Read, as the laws' walks ask for them. No condition.
-/
namespace Go.Proofs.YtoempaagpgoilaaDoor
open Go.RowKit
/-- what is asked -/
theorem ask_any (w : World) (b bm : Nat) (l : List MF) (d : AD) (h : Dk w b bm l d) (fn : Nat) (eg : ∀ args w, (callFunc fn args).run Tryd.prog w = .ok (.enter fn args) w) (cs : Array Value) (y : Int)
    (hmay : Calls Tryd.prog fn cs w fun e w' => e = .returned (.int .i64 y) ∧ Below w.heap.size w w') :
    Calls Tryd.prog 42 #[ptr ⟨b, 0, none⟩, fnV fn cs] w fun e w' => e = .returned (.int .i64 (if d.down = true then 9 else y)) ∧ Below w.heap.size w w' := by
  cases hd : d.down with
  | true =>
    rw [if_pos rfl]
    exact (ask_down w b bm l d h hd _).mono (by rintro e w' ⟨rfl, rfl⟩; exact ⟨rfl, Below.refl _ _⟩)
  | false =>
    rw [if_neg (by simp)]
    exact ask_up w b bm l d h hd fn eg cs y hmay
set_option maxRecDepth 8000 in
theorem krename_any (w : World) (p : Addr) (F : Nat → Bool) (d : AD) (s t : ByteArray) (h : DKp w p F d) (hg : Good d) (hs : s.size ≤ 281474976710656) (ht : t.size ≤ 281474976710656) :
    Calls Tryd.prog 28 #[ptr p, .string s, .string t] w fun e w' => ∃ F', e = .returned (.int .i64 (d.renameR s t).2) ∧ DKp w' p F' (d.renameR s t).1 ∧ Ext F w w' F' := by
  obtain ⟨hF, b, bm, l, rfl, hd, ho⟩ := h
  have hb0 := below_alloc w (.cells (jobC ⟨b, 0, none⟩ s t 0 0 zS) 67)
  have HK := Lib.hid (hd.below hb0)
  obtain ⟨y, hy⟩ : ∃ y : Int, (if ¬ d.has s then 7 else if rightB t = false then 10 else 0) = y := ⟨_, rfl⟩
  have hmay := mayRename_any _ b bm l d s t 0 0 none 0 0 HK.out hg hs ht y hy
  by_cases hst : s = t
  · have hmk : d.renameR s t = (d, if d.down = true then 9 else y) := by
      unfold AD.renameR
      subst hy
      by_cases hdn : d.down = true
      · rw [if_pos hdn, if_pos hdn]
      rw [if_neg hdn, if_neg hdn]
      by_cases hh : ¬ d.has s
      · rw [if_pos hh, if_pos hh]
      rw [if_neg hh, if_neg hh]
      by_cases hr : rightB t = false
      · rw [if_pos hr, if_pos hr]
      · rw [if_neg hr, if_neg hr, if_pos hst]
    rw [hmk]
    have HT := Lib.hid (ask_any _ b bm l d HK.out _ eg57 #[jobV ⟨b, 0, none⟩ s t 0 0 zS] y hmay)
    have HD := boxed hF ho hb0 d
    obtain ⟨r, hr⟩ : ∃ r : Int, (if d.down = true then 9 else y) = r := ⟨_, rfl⟩
    rw [hr] at HT ⊢
    clear hd hmk hb0 hg hs ht hy hr hmay
    subst hst
    go_enter Tryd.func28, Tryd.ntmps28
    have hmf := mf_run
    go_wp2_with (first
      | (go_at_call 42; (with_reducible refine HT.out.mono ?_); rintro e w1 ⟨rfl, hb⟩; obtain ⟨F', hk, hx⟩ := HD.out w1 (.same HK.out hb); have HK2 := Lib.hid hk; have HX2 := Lib.hid hx; clear hb hk hx))
    go_ret
    exact ⟨F', rfl, HK2.out, HX2.out⟩
  · have hmk : d.renameR s t = d.tellR y fun x => (x.without s).withF { d.get s with name := t } := by
      unfold AD.renameR AD.tellR
      subst hy
      by_cases hdn : d.down = true
      · rw [if_pos hdn, if_pos hdn]
      rw [if_neg hdn, if_neg hdn]
      by_cases hh : ¬ d.has s
      · rw [if_pos hh, if_pos hh]; rfl
      rw [if_neg hh, if_neg hh]
      by_cases hr : rightB t = false
      · rw [if_pos hr, if_pos hr]; rfl
      · rw [if_neg hr, if_neg hr, if_neg hst]; rfl
    rw [hmk]
    have HT := Lib.hid (tell_any F _ b bm l d HK.out ho _ eg57 #[jobV ⟨b, 0, none⟩ s t 0 0 zS] y hmay _ eg58 #[jobV ⟨b, 0, none⟩ s t 0 0 zS] (fun x => (x.without s).withF { d.get s with name := t }) (fun hy0 w1 hx1 hk1 => by
      have hh : d.has s := by
        by_cases hh : d.has s
        · exact hh
        · rw [hy0, if_pos hh] at hy; simp at hy
      have := prename_any F w1 b bm l d.opd s t 0 0 none 0 0 hk1 hg.op ho hs ht (fun e => hst e.symm) ((opd_has d s).2 hh)
      rwa [opd_get] at this))
    have HD := boxed hF ho hb0 (d.tellR y fun x => (x.without s).withF { d.get s with name := t }).1
    obtain ⟨r, hr⟩ : ∃ r, (d.tellR y fun x => (x.without s).withF { d.get s with name := t }) = r := ⟨_, rfl⟩
    rw [hr] at HT HD ⊢
    have hne := str_ne hst
    clear hd hmk hb0 hg hs ht hy hr hmay hst
    go_enter Tryd.func28, Tryd.ntmps28
    have hmf := mf_run
    go_wp2_with (first
      | (go_at_call 34; (with_reducible refine HT.out.mono ?_); rintro e w1 ⟨rfl, hdn⟩; obtain ⟨F', hk, hx⟩ := HD.out w1 hdn; have HK2 := Lib.hid hk; have HX2 := Lib.hid hx; clear hdn hk hx))
    go_ret
    exact ⟨F', rfl, HK2.out, HX2.out⟩
set_option maxRecDepth 8000 in
theorem kfail_any (w : World) (p : Addr) (F : Nat → Bool) (d : AD) (n : Int) (h : DKp w p F d) (_hn : I63 n) :
    Calls Tryd.prog 18 #[ptr p, .int .i64 n] w fun e w' => ∃ F', e = .returned (.int .i64 (d.failR n).2) ∧ DKp w' p F' (d.failR n).1 ∧ Ext F w w' F' := by
  obtain ⟨hF, b, bm, l, rfl, hd, ho⟩ := h
  have hb0 := below_alloc w (.cells #[.pointer none, .string eS, .string eS, .int .i64 0, .int .i64 n, zS] 67)
  have HK := Lib.hid (hd.below hb0)
  have hmay := mayFail_any (w.alloc (.cells #[.pointer none, .string eS, .string eS, .int .i64 0, .int .i64 n, zS] 67)) (.pointer none) (.string eS) (.string eS) (.int .i64 0) zS n
  have HT := Lib.hid (ask_any _ b bm l d HK.out _ eg60 #[.agg #[.pointer none, .string eS, .string eS, .int .i64 0, .int .i64 n, zS]] _ hmay)
  by_cases hc : d.down = true ∨ n < 0
  · have hmk : d.failR n = (d, if d.down = true then 9 else if n < 0 then 4 else 0) := by
      unfold AD.failR
      by_cases hdn : d.down = true
      · rw [if_pos hdn, if_pos hdn]
      rw [if_neg hdn, if_neg hdn]
      rcases hc with hc | hc
      · exact absurd hc hdn
      · rw [if_pos hc, if_pos hc]
    rw [hmk]
    have HD := boxed hF ho hb0 d
    obtain ⟨r, hr⟩ : ∃ r : Int, (if d.down = true then 9 else if n < 0 then 4 else 0) = r := ⟨_, rfl⟩
    have hr0 : ¬ r = 0 := by
      rw [← hr]
      by_cases hdn : d.down = true
      · rw [if_pos hdn]; simp
      · rcases hc with hc | hc
        · exact absurd hc hdn
        · rw [if_neg hdn, if_pos hc]; simp
    rw [hr] at HT ⊢
    clear hd hmk hb0 hr hmay hc
    go_enter Tryd.func18, Tryd.ntmps18
    have hmf := mf_run
    go_wp2_with (first
      | (go_at_call 42; (with_reducible refine HT.out.mono ?_); rintro e w1 ⟨rfl, hb⟩; obtain ⟨F', hk, hx⟩ := HD.out w1 (.same HK.out hb); have HK2 := Lib.hid hk; have HX2 := Lib.hid hx; clear hb hk hx))
    go_ret
    exact ⟨F', rfl, HK2.out, HX2.out⟩
  · have hdn : d.down = false := by
      cases hq : d.down with
      | true => exact absurd (.inl hq) hc
      | false => rfl
    have hn0 : ¬ n < 0 := fun e => hc (.inr e)
    have hmk : d.failR n = ({ d with told := true, after := n }, 0) := by
      unfold AD.failR
      rw [if_neg (by rw [hdn]; simp), if_neg hn0]
    rw [hmk]
    rw [hdn, if_neg (by simp), if_neg hn0] at HT
    obtain ⟨fl, lf, hb, ht⟩ := hd.blk
    obtain ⟨h1, h2⟩ := ht hdn
    subst h1; subst h2
    have HDN : Hid (∀ w1, Below w.heap.size w w1 → DBk w1 b bm d d.told d.after ∧ ∃ F', DKp ((w1.setCell ⟨b, 4, none⟩ (.bool true)).setCell ⟨b, 5, none⟩ (.int .i64 n)) ⟨b, 0, none⟩ F' { d with told := true, after := n } ∧ Ext F w ((w1.setCell ⟨b, 4, none⟩ (.bool true)).setCell ⟨b, 5, none⟩ (.int .i64 n)) F') := Lib.hid fun w1 hb1 => by
      have h1 : DBk w1 b bm d d.told d.after := (hb1.block b (hd.lt b (.inl rfl))).trans hb
      have h2 := (hd.below hb1).cellset (d' := { d with told := true }) (fl' := true) (lf' := d.after) h1 4 (.bool true) rfl rfl (fun _ => ⟨rfl, rfl⟩)
      have h3 := h2.1.cellset (d' := { d with told := true, after := n }) (fl' := true) (lf' := n) h2.2 5 (.int .i64 n) rfl rfl (fun _ => ⟨rfl, rfl⟩)
      have hbF := ho b (.inl rfl)
      exact ⟨h1, Done.dkp hF ho ⟨l, h3.1, ((Ext.below hb1).cellset hbF _ _).cellset hbF _ _, fun _ hk _ => hk⟩⟩
    have HB0 := Lib.hid hb0
    clear hd hmk hb0 hmay hc hdn hn0 ht hb
    go_enter Tryd.func18, Tryd.ntmps18
    have hmf := mf_run
    go_wp2_with (first
      | (go_at_call 42; (with_reducible refine HT.out.mono ?_); rintro e w1 ⟨rfl, hb⟩; obtain ⟨hdb, F', hk, hx⟩ := HDN.out w1 (chain HB0.out hb); have HK2 := Lib.hid hk; have HX2 := Lib.hid hx; obtain ⟨c0, c1, c2, c3, c4, c5⟩ := hdb.cells; have z4 := hdb.frozen 4; have z5 := hdb.frozen 5; clear hb hk hx hdb))
    go_ret
    exact ⟨F', rfl, HK2.out, HX2.out⟩
end Go.Proofs.YtoempaagpgoilaaDoor
/-
  LAYER 8 (disk), the program's own disk: Crash. Each sector that waits is settled, in order; of the others nothing is lost, since what is seen of them is what is lasting. No condition.
-/
namespace Go.Proofs.YtoempaagpgoilaaDoor
open Go.RowKit
/-- of what doesn't wait, what is seen is what is lasting -/
def CalmF (f : AF) : Prop := ∀ i, i < f.n → f.ws.getD i false = false → chunk f.seen i = chunk f.las i
def Calm (d : AD) : Prop := ∀ f ∈ d.L, CalmF f
/-- a sector behind its turn -/
def stM (kb : List Int) (torn cut : Int) (f : AF) (j r : Nat) : List Int := mixN (chunk f.las j) (chunk f.seen j) (keptN kb torn cut r)
/-- the sectors of a file, of which i0 wait ahead of it, when the first k of all that wait are settled -/
def caS (kb : List Int) (torn cut : Int) (x : MF) (i0 k : Nat) : List Sc :=
  (List.range x.f.n).map fun j => if x.f.ws.getD j false = true ∧ i0 + (wlF x j).length < k then ⟨stM kb torn cut x.f j (i0 + (wlF x j).length), stM kb torn cut x.f j (i0 + (wlF x j).length), false⟩ else ⟨chunk x.f.las j, chunk x.f.seen j, x.f.ws.getD j false⟩
theorem caS_get (kb : List Int) (torn cut : Int) (x : MF) (i0 k j : Nat) (h : j < x.f.n) :
    (caS kb torn cut x i0 k)[j]? = some (if x.f.ws.getD j false = true ∧ i0 + (wlF x j).length < k then ⟨stM kb torn cut x.f j (i0 + (wlF x j).length), stM kb torn cut x.f j (i0 + (wlF x j).length), false⟩ else ⟨chunk x.f.las j, chunk x.f.seen j, x.f.ws.getD j false⟩) := by simp [caS, h]
theorem caS_len (kb : List Int) (torn cut : Int) (x : MF) (i0 k : Nat) : (caS kb torn cut x i0 k).length = x.f.n := by simp [caS]
theorem wlF_mono (x : MF) : ∀ (j d : Nat), (wlF x j).length ≤ (wlF x (j + d)).length
  | _, 0 => Nat.le_refl _
  | j, d + 1 => by
    have := wlF_mono x j d
    rw [show j + (d + 1) = (j + d) + 1 from rfl, wlF_succ, List.length_append]; omega
theorem wlF_lt (x : MF) (i j : Nat) (hw : x.f.ws.getD i false = true) (h : i < j) : (wlF x i).length < (wlF x j).length := by
  have h1 := wlF_mono x (i + 1) (j - (i + 1))
  rw [show i + 1 + (j - (i + 1)) = j from by omega, wlF_succ, if_pos hw, List.length_append] at h1
  simp at h1; omega
/-- how many wait ahead of the a-th file -/
def wB (l : List MF) (a : Nat) : Nat := (wlL (l.take a)).length
theorem wB_succ (l : List MF) (a : Nat) (x : MF) (h : l[a]? = some x) : wB l (a + 1) = wB l a + (wlF x x.f.n).length := by
  unfold wB; rw [wlL_succ l a x h, List.length_append]
theorem wB_mono (l : List MF) (a b : Nat) (h : a ≤ b) : wB l a ≤ wB l b := by
  unfold wB wlL
  have e := (List.take_append_drop a (l.take b)).symm
  rw [List.take_take, Nat.min_eq_left h] at e
  rw [e, List.flatMap_append, List.length_append]; omega
/-! what the document's crash leaves -/
theorem crS_waits (kb : List Int) (torn cut : Int) (x : MF) (i0 : Nat) : ∀ j, (crS kb torn cut x.f i0 j).2 = i0 + (wlF x j).length
  | 0 => by simp [crS, wlF]
  | j + 1 => by
    simp only [crS]
    rw [crS_waits kb torn cut x i0 j, wlF_succ, List.length_append]
    split <;> simp <;> omega
theorem crS_chunk (kb : List Int) (torn cut : Int) (f : AF) (i0 : Nat) (hl : f.las.length = f.n * 64) (hs : f.seen.length = f.n * 64) : ∀ (n j : Nat), n ≤ f.n → j < n → chunk (crS kb torn cut f i0 n).1 j = secC kb torn cut (chunk f.las j) (chunk f.seen j) (f.ws.getD j false) (crS kb torn cut f i0 j).2
  | n + 1, j, hn, hj => by
    have hlen := crS_length kb torn cut f i0 hl hs n (by omega)
    have hsl := secC_length kb torn cut (chunk f.las n) (chunk f.seen n) (f.ws.getD n false) (crS kb torn cut f i0 n).2 (chunk_length _ f.n n hl (by omega)) (chunk_length _ f.n n hs (by omega))
    simp only [crS]
    refine List.ext_getElem? fun q => ?_
    by_cases hq : q < 64
    · rw [chunk_get _ _ _ hq]
      by_cases hjn : j < n
      · have h1 : (j + 1) * 64 ≤ n * 64 := Nat.mul_le_mul_right _ hjn
        rw [List.getElem?_append_left (by omega), ← crS_chunk kb torn cut f i0 hl hs n j (by omega) hjn, chunk_get _ _ _ hq]
      · obtain rfl : j = n := by omega
        rw [List.getElem?_append_right (by omega), hlen]
        congr 1; omega
    · rw [chunk_out _ _ _ hq, List.getElem?_eq_none]
      have := secC_length kb torn cut (chunk f.las j) (chunk f.seen j) (f.ws.getD j false) (crS kb torn cut f i0 j).2 (chunk_length _ f.n j hl (by omega)) (chunk_length _ f.n j hs (by omega))
      omega
/-- a file behind the crash -/
theorem caS_all (kb : List Int) (torn cut : Int) (x : MF) (i0 k : Nat) (hg : GF x.f) (hc : CalmF x.f) (hk : i0 + (wlF x x.f.n).length ≤ k) : caS kb torn cut x i0 k = secsOf (crFile kb torn cut x.f i0) := by
  refine List.ext_getElem? fun j => ?_
  by_cases hj : j < x.f.n
  · rw [caS_get _ _ _ _ _ _ _ hj, secsOf_get (crFile kb torn cut x.f i0) j hj]
    have hcl := chunk_length x.f.las x.f.n j hg.las hj
    have hcs := chunk_length x.f.seen x.f.n j hg.seen hj
    have e1 : chunk (crFile kb torn cut x.f i0).las j = secC kb torn cut (chunk x.f.las j) (chunk x.f.seen j) (x.f.ws.getD j false) (i0 + (wlF x j).length) := by
      rw [← crS_waits kb torn cut x i0 j]
      exact crS_chunk kb torn cut x.f i0 hg.las hg.seen x.f.n j (Nat.le_refl _) hj
    have e2 : chunk (crFile kb torn cut x.f i0).seen j = chunk (crFile kb torn cut x.f i0).las j := rfl
    have e3 : (crFile kb torn cut x.f i0).ws.getD j false = false := by
      show (List.replicate x.f.n false).getD j false = false
      simp [List.getD, hj]
    rw [e2, e1, e3]
    cases hw : x.f.ws.getD j false with
    | true =>
      rw [if_pos ⟨rfl, by have := wlF_lt x j x.f.n hw hj; omega⟩]
      have e4 : stM kb torn cut x.f j (i0 + (wlF x j).length) = secC kb torn cut (chunk x.f.las j) (chunk x.f.seen j) true (i0 + (wlF x j).length) := by
        unfold stM secC keptN
        rw [if_pos rfl]
        by_cases h1 : ((i0 + (wlF x j).length : Nat) : Int) = torn
        · rw [if_pos h1, if_pos h1]
        · rw [if_neg h1, if_neg h1]
          by_cases h2 : bitI kb ((i0 + (wlF x j).length : Nat) : Int) = true
          · rw [if_pos h2, if_pos h2, mixN_all _ _ hcl hcs]
          · rw [if_neg h2, if_neg h2, mixN_zero]
      rw [e4]
    | false =>
      rw [if_neg (by simp), hc j hj hw]
      unfold secC
      rw [if_neg (by simp)]
  · rw [List.getElem?_eq_none (by rw [caS_len]; omega), List.getElem?_eq_none (by rw [secsOf_length]; exact Nat.not_lt.1 hj)]
theorem crL_waits (kb : List Int) (torn cut : Int) (l : List MF) : ∀ a, a ≤ l.length → (crL kb torn cut (l.map MF.f) a).2 = wB l a
  | 0, _ => rfl
  | a + 1, h => by
    obtain ⟨x, hx⟩ := row_some (L := l) (i := a) (by omega)
    rw [crL_step kb torn cut (l.map MF.f) a x.f (by rw [List.getElem?_map, hx]; rfl), wB_succ l a x hx]
    show (crS kb torn cut x.f _ x.f.n).2 = _
    rw [crS_waits, crL_waits kb torn cut l a (by omega)]
/-- the files behind the crash, each with its row -/
def crM (kb : List Int) (torn cut : Int) (l : List MF) : List MF := l.mapIdx fun a x => ⟨crFile kb torn cut x.f (wB l a), x.g, x.c⟩
theorem crM_get (kb : List Int) (torn cut : Int) (l : List MF) (a : Nat) : (crM kb torn cut l)[a]? = (l[a]?).map fun x => ⟨crFile kb torn cut x.f (wB l a), x.g, x.c⟩ := by unfold crM; rw [List.getElem?_mapIdx]
theorem crL_get (kb : List Int) (torn cut : Int) (l : List MF) : ∀ (k a : Nat) (x : MF), k ≤ l.length → a < k → l[a]? = some x → (crL kb torn cut (l.map MF.f) k).1[a]? = some (crFile kb torn cut x.f (wB l a))
  | k + 1, a, x, hk, ha, hx => by
    obtain ⟨y, hy⟩ := row_some (L := l) (i := k) (by omega)
    have hlen := crL_length kb torn cut (l.map MF.f) k (by rw [List.length_map]; omega)
    rw [crL_step kb torn cut (l.map MF.f) k y.f (by rw [List.getElem?_map, hy]; rfl)]
    by_cases h1 : a < k
    · rw [List.getElem?_append_left (by omega)]
      exact crL_get kb torn cut l k a x (by omega) h1 hx
    · obtain rfl : a = k := by omega
      rw [hx] at hy
      obtain rfl := Option.some.inj hy
      rw [List.getElem?_append_right (by omega), hlen, Nat.sub_self, crL_waits kb torn cut l a (by omega)]; rfl
theorem crM_files (kb : List Int) (torn cut : Int) (l : List MF) : (crM kb torn cut l).map MF.f = (crL kb torn cut (l.map MF.f) (l.map MF.f).length).1 := by
  refine List.ext_getElem? fun a => ?_
  rw [List.getElem?_map, crM_get]
  by_cases ha : a < l.length
  · obtain ⟨x, hx⟩ := row_some (L := l) (i := a) ha
    rw [crL_get kb torn cut l _ a x (by rw [List.length_map]; exact Nat.le_refl _) (by rw [List.length_map]; exact ha) hx, hx]; rfl
  · rw [List.getElem?_eq_none (by omega), List.getElem?_eq_none]
    · rfl
    · rw [crL_length kb torn cut _ _ (Nat.le_refl _), List.length_map]; omega
end Go.Proofs.YtoempaagpgoilaaDoor
/-
  LAYER 8 (disk), the program's own disk: Crash, as the laws' walks ask for it. No condition.
-/
namespace Go.Proofs.YtoempaagpgoilaaDoor
open Go.RowKit
/-- where a crash stands: k of those that wait are settled -/
structure CrK (kb : List Int) (torn cut : Int) (F : Nat → Bool) (w : World) (b bm : Nat) (l : List MF) (d : AD) (v : Value) (va : Value) (k : Nat) (wr : World) : Prop where
  ext : Ext F w wr F
  blk : ∃ fl lf, DBk wr b bm d fl lf
  map : MapOf wr bm l
  row : ∀ (a : Nat) (x : MF), l[a]? = some x → SR wr x.g x.c (caS kb torn cut x (wB l a) k)
/-- all are settled -/
theorem CrK.done {kb : List Int} {torn cut : Int} {F : Nat → Bool} {w : World} {b bm : Nat} {l : List MF} {d : AD} {v va : Value} {wr : World} (h : CrK kb torn cut F w b bm l d v va (wlL l).length wr) (hg : Good d) (hc : Calm d) (hL : d.L = l.map MF.f) (hn : (l.map MF.g).Nodup) (hF : ∀ k, own b bm l k → F k = true) :
    ∃ fl lf, DBk wr b bm d fl lf ∧ Done F w b bm l (d.crashR kb torn cut) (((wr.setCell ⟨b, 3, none⟩ (.bool false)).setCell ⟨b, 4, none⟩ (.bool false)).setCell ⟨b, 5, none⟩ (.int .i64 0)) := by
  obtain ⟨fl, lf, h1⟩ := h.blk
  refine ⟨fl, lf, h1, crM kb torn cut l, ?_, ?_, ?_⟩
  · have hgs : (crM kb torn cut l).map MF.g = l.map MF.g := by
      refine List.ext_getElem? fun a => ?_
      rw [List.getElem?_map, List.getElem?_map, crM_get, Option.map_map]; rfl
    have hd0 : Dk wr b bm (crM kb torn cut l) { d.crashR kb torn cut with down := d.down, told := fl, after := lf } := by
      refine ⟨⟨fl, lf, h1, fun _ => ⟨rfl, rfl⟩⟩, ?_, ?_, by rw [hgs]; exact hn, ?_⟩
      · have he : ents MF.nm MF.dat (crM kb torn cut l) = ents MF.nm MF.dat l := by
          unfold ents
          congr 1
          refine List.ext_getElem? fun a => ?_
          rw [List.getElem?_map, List.getElem?_map, crM_get, Option.map_map]; rfl
        have hl : (crM kb torn cut l).length = l.length := by unfold crM; simp
        have hm := h.map
        unfold MapOf MO at hm ⊢
        rw [he, hl]; exact hm
      · intro y hy
        obtain ⟨a, ha⟩ := List.getElem?_of_mem hy
        rw [crM_get] at ha
        obtain ⟨x, hx, rfl⟩ := Option.map_eq_some_iff.1 ha
        have hxm : x.f ∈ d.L := by rw [hL]; exact List.mem_map_of_mem (List.mem_of_getElem? hx)
        have hle : wB l a + (wlF x x.f.n).length ≤ (wlL l).length := by
          rw [← wB_succ l a x hx]
          have h2 := wB_mono l (a + 1) l.length (List.getElem?_eq_some_iff.1 hx).1
          unfold wB at h2 ⊢
          rwa [List.take_length] at h2
        have := h.row a x hx
        rwa [caS_all kb torn cut x _ _ (hg.file _ hxm) (hc _ hxm) hle] at this
      · show (crL kb torn cut d.L d.L.length).1 = _
        rw [crM_files, hL]
    have h2 := hd0.cellset (d' := { d.crashR kb torn cut with down := false, told := fl, after := lf }) (fl' := fl) (lf' := lf) h1 3 (.bool false) rfl rfl (fun _ => ⟨rfl, rfl⟩)
    have h3 := h2.1.cellset (d' := { d.crashR kb torn cut with down := false, told := false, after := lf }) (fl' := false) (lf' := lf) h2.2 4 (.bool false) rfl rfl (fun _ => ⟨rfl, rfl⟩)
    have h4 := h3.1.cellset (d' := d.crashR kb torn cut) (fl' := false) (lf' := 0) h3.2 5 (.int .i64 0) rfl rfl (fun _ => ⟨rfl, rfl⟩)
    exact h4.1
  · have hbF := hF b (.inl rfl)
    exact ((h.ext.cellset hbF _ _).cellset hbF _ _).cellset hbF _ _
  · rintro q (rfl | rfl | ⟨y, hy, rfl⟩) _
    · exact .inl rfl
    · exact .inr (.inl rfl)
    · obtain ⟨a, ha⟩ := List.getElem?_of_mem hy
      rw [crM_get] at ha
      obtain ⟨x, hx, rfl⟩ := Option.map_eq_some_iff.1 ha
      exact .inr (.inr ⟨x, List.mem_of_getElem? hx, rfl⟩)
end Go.Proofs.YtoempaagpgoilaaDoor
/-
  LAYER 8 (disk), the program's own disk: New and Lay, as the laws' walks ask for them. No condition.
-/
namespace Go.Proofs.YtoempaagpgoilaaDoor
open Go.RowKit
/-- a disk's own blocks, as a test -/
def ownF (b bm : Nat) (l : List MF) : Nat → Bool := fun k => k == b || k == bm || l.any fun x => x.g == k
theorem ownF_iff (b bm : Nat) (l : List MF) (k : Nat) : ownF b bm l k = true ↔ own b bm l k := by
  unfold ownF own
  simp [List.any_eq_true, or_assoc]
/-- a disk that a call makes -/
structure LyS (w : World) (b bm : Nat) (l : List MF) (d : AD) (wr : World) : Prop where
  below : Below w.heap.size w wr
  dk : Dk wr b bm l d
  new : ∀ k, own b bm l k → w.heap.size ≤ k
theorem LyS.next {w wr w1 : World} {b bm : Nat} {l : List MF} {d : AD} (h : LyS w b bm l d wr) (hb : Below wr.heap.size wr w1) : LyS w b bm l d w1 := ⟨chain h.below hb, h.dk.below hb, h.new⟩
theorem LyS.done {w wr w1 : World} {b bm : Nat} {l : List MF} {d d' : AD} (h : LyS w b bm l d wr) (hd : Done (ownF b bm l) wr b bm l d' w1) : ∃ l', LyS w b bm l' d' w1 ∧ ∀ q, q < wr.heap.size → ¬ own b bm l q → w1.heap[q]? = wr.heap[q]? ∧ ¬ own b bm l' q ∧ q < w1.heap.size := by
  obtain ⟨l', h1, h2, h3⟩ := hd
  have hf : ∀ q, ¬ own b bm l q → ownF b bm l q = false := fun q hq => by
    cases hc : ownF b bm l q with
    | false => rfl
    | true => exact absurd ((ownF_iff _ _ _ _).1 hc) hq
  refine ⟨l', ⟨⟨h2.os.trans h.below.os, h2.tape.trans h.below.tape, h2.output.trans h.below.output, Nat.le_trans h.below.size h2.size, fun k hk => ?_⟩, h1, fun k hk => ?_⟩, fun q hq hn => ⟨h2.block q hq (hf q hn), fun ho => hn (h3 q ho hq), Nat.lt_of_lt_of_le hq h2.size⟩⟩
  · have hlt := Nat.lt_of_lt_of_le hk h.below.size
    exact (h2.block k hlt (hf k (fun ho => by have := h.new k ho; omega))).trans (h.below.block k hk)
  · by_cases hlt : k < wr.heap.size
    · exact h.new k (h3 k hk hlt)
    · have := h.below.size; omega
/-- what came in lies apart from it -/
theorem LyS.apart {w wr : World} {b bm : Nat} {l : List MF} {d : AD} (h : LyS w b bm l d wr) (M : Nat → Bool) : Kin (mask M w) (mask (ownF b bm l) wr) := by
  intro a v hx
  have hx2 := unmask M w a v hx
  have hlt := World.block_lt_of_cell? w _ hx2
  have hf : ownF b bm l a.block = false := by
    cases hc : ownF b bm l a.block with
    | false => rfl
    | true => have := h.new _ ((ownF_iff _ _ _ _).1 hc); omega
  have hw := cell_keep h.below (a := a) (v := v) hx2
  unfold World.cell? at hw ⊢
  rw [mask_heap]
  cases hq : wr.heap[a.block]? with
  | none => simp [hq] at hw
  | some o => simpa [hq, hf] using hw
theorem LyS.dkp {w wr : World} {b bm : Nat} {l : List MF} {d : AD} (h : LyS w b bm l d wr) : ∃ F, DKp wr ⟨b, 0, none⟩ F d ∧ Ext noF w wr F :=
  DKp.done (Foot.none _) (Ext.below h.below) h.dk fun k hk hl => by have := h.new k hk; omega
/-! New -/
set_option maxRecDepth 8000 in
theorem pnew_any (c : Int) (w : World) (hc : I63 c) : Calls Tryd.prog 6 #[.int .i64 c] w fun e w' => ∃ b bm, e = .returned (ptr ⟨b, 0, none⟩) ∧ LyS w b bm [] (AD.newD c) w' := by
  have HC := Lib.hid hc
  have HM := Lib.hid (show I63 1048576 from ⟨by omega, by omega⟩)
  have HN : Hid (∀ g, w.heap.size = g → LyS w (g + 1) g [] (AD.newD c) ((w.alloc (.map #[] 0)).alloc (.cells #[.int .i64 (min (max c 0) 1048576), .map (some g), .int .i64 0, .bool false, .bool false, .int .i64 0] 55))) := Lib.hid fun g hg => by
    subst hg
    have h1 : Below w.heap.size w (w.alloc (.map #[] 0)) := below_alloc w _
    have hm : MapOf ((w.alloc (.map #[] 0)).alloc (.cells #[.int .i64 (min (max c 0) 1048576), .map (some w.heap.size), .int .i64 0, .bool false, .bool false, .int .i64 0] 55)) w.heap.size [] :=
      MO.keep (MO.made _ w) (heap_alloc_old _ _ (by rw [alloc_size]; omega))
    refine ⟨chain h1 (below_alloc _ _), ⟨⟨false, 0, ?_, fun _ => ⟨rfl, rfl⟩⟩, hm, fun x hx => by simp at hx, by simp, rfl⟩, ?_⟩
    · have := heap_alloc_last (w.alloc (.map #[] 0)) (.cells #[.int .i64 (min (max c 0) 1048576), .map (some w.heap.size), .int .i64 0, .bool false, .bool false, .int .i64 0] 55)
      rw [alloc_size] at this; exact this
    · rintro k (rfl | rfl | ⟨x, hx, _⟩)
      · omega
      · omega
      · simp at hx
  have hmm := @run_makeMap Tryd.prog
  clear hc
  go_enter Tryd.func6, Tryd.ntmps6
  go_wp2_with (first
    | (go_at_call 23; (with_reducible refine (nearer_any c 1048576 HC.out HM.out _).mono ?_); rintro e w1 ⟨rfl, rfl⟩))
  go_ret
  exact ⟨_, _, rfl, HN.out _ rfl⟩
end Go.Proofs.YtoempaagpgoilaaDoor
/-
  LAYER 8 (disk), the program's own disk: Lay. No condition.
-/
namespace Go.Proofs.YtoempaagpgoilaaDoor
open Go.RowKit
/-- a disk without ops -/
def AD.z0 (d : AD) : AD := { d with ops := 0 }
theorem Good.z0 {d : AD} (h : Good d) : Good d.z0 := ⟨h.asc, h.file, h.few, h.cap0, h.cap1, h.used, by show I63 0; unfold I63; omega, h.after⟩
end Go.Proofs.YtoempaagpgoilaaDoor
/-
  LAYER 8 (disk), the program's own disk: Clone, as the laws' walks ask for it. No condition.
-/
namespace Go.Proofs.YtoempaagpgoilaaDoor
open Go.RowKit
/-- where a clone stands -/
structure ClK (w : World) (cb cm : Nat) (lc : List MF) (d : AD) (l todo : List MF) (wr : World) : Prop where
  ly : LyS w cb cm lc { d with L := lc.map MF.f } wr
  asc : lc.Pairwise fun x y => gtN (MF.nm y) (MF.nm x) = true
  perm : (lc.map MF.f ++ todo.map MF.f).Perm (l.map MF.f)
theorem ClK.below {w : World} {cb cm : Nat} {lc : List MF} {d : AD} {l todo : List MF} {wr w1 : World} (h : ClK w cb cm lc d l todo wr) (hb : Below wr.heap.size wr w1) : ClK w cb cm lc d l todo w1 := ⟨h.ly.next hb, h.asc, h.perm⟩
/-- the iterator of a range is no map and no row -/
theorem RPk.iterm {w : World} {bm r cnt : Nat} {l todo : List MF} (h : RPk w bm r l todo cnt) : ∀ es ck, w.heap[r]? ≠ some (.map es ck) := by
  obtain ⟨_, h, _⟩ := h
  obtain ⟨_, _, _, _, _, _, _, _, _, hit, _⟩ := h
  intro es ck e
  rw [hit] at e; cases e
theorem ClK.iter {w : World} {cb cm : Nat} {lc : List MF} {d : AD} {l todo : List MF} {wr w1 : World} (h : ClK w cb cm lc d l todo wr) {bm r cnt : Nat} {l2 todo2 : List MF} (hr : RPk wr bm r l2 todo2 cnt) (hg : wr.grownBy w1 (some r)) (hw : w.heap.size ≤ r) : ClK w cb cm lc d l todo w1 := by
  refine ⟨⟨h.ly.below.grown hg h.ly.below.size (fun j hj => by rw [← Option.some.inj hj]; exact hw), h.ly.dk.keep fun k hk => hg.block k (h.ly.dk.lt k hk) (fun e => ?_), h.ly.new⟩, h.asc, h.perm⟩
  obtain rfl := Option.some.inj e
  rcases hk with rfl | rfl | ⟨x, hx, rfl⟩
  · obtain ⟨fl, lf, hb, _⟩ := h.ly.dk.blk
    exact hr.iter _ _ _ hb
  · obtain ⟨es, ck, hm⟩ := h.ly.dk.map.obj
    exact RPk.iterm hr _ _ hm
  · obtain ⟨cur, hc, _⟩ := h.ly.dk.row x hx
    exact hr.iter _ _ _ hc
end Go.Proofs.YtoempaagpgoilaaDoor
/-
  LAYER 8 (disk), the program's own disk: what is answered of nil. No condition.
-/
namespace Go.Proofs.YtoempaagpgoilaaDoor
open Go.RowKit
theorem nask (v : Value) (w : World) : Calls Tryd.prog 42 #[.pointer none, v] w fun e w' => e = .returned (.int .i64 11) ∧ w = w' := by
  go_enter Tryd.func42, Tryd.ntmps42
  go_wp2
  go_ret
  exact ⟨rfl, rfl⟩
theorem ntell (v u : Value) (w : World) : Calls Tryd.prog 34 #[.pointer none, v, u] w fun e w' => e = .returned (.int .i64 11) ∧ w = w' := by
  go_enter Tryd.func34, Tryd.ntmps34
  go_wp2_with (first
    | (go_at_call 42; (with_reducible refine (nask _ _).mono ?_); rintro e w1 ⟨rfl, rfl⟩))
  go_ret
  exact ⟨rfl, rfl⟩
theorem nmake (w : World) (s : ByteArray) (n : Int) : Calls Tryd.prog 16 #[.pointer none, .string s, .int .i64 n] w fun e w' => e = .returned (.int .i64 11) ∧ Below w.heap.size w w' := by
  have hmf := mf_run
  go_enter Tryd.func16, Tryd.ntmps16
  go_wp2_with (first
    | (go_at_call 34; (with_reducible refine (ntell _ _ _).mono ?_); rintro e w1 ⟨rfl, rfl⟩))
  go_ret
  exact ⟨rfl, below_alloc _ _⟩
theorem nrename (w : World) (s t : ByteArray) : Calls Tryd.prog 28 #[.pointer none, .string s, .string t] w fun e w' => e = .returned (.int .i64 11) ∧ Below w.heap.size w w' := by
  have hmf := mf_run
  by_cases hst : s = t
  · subst hst
    go_enter Tryd.func28, Tryd.ntmps28
    go_wp2_with (first
      | (go_at_call 42; (with_reducible refine (nask _ _).mono ?_); rintro e w1 ⟨rfl, rfl⟩))
    go_ret
    exact ⟨rfl, below_alloc _ _⟩
  · have hne := str_ne hst
    clear hst
    go_enter Tryd.func28, Tryd.ntmps28
    go_wp2_with (first
      | (go_at_call 34; (with_reducible refine (ntell _ _ _).mono ?_); rintro e w1 ⟨rfl, rfl⟩))
    go_ret
    exact ⟨rfl, below_alloc _ _⟩
theorem nremove (w : World) (s : ByteArray) : Calls Tryd.prog 29 #[.pointer none, .string s] w fun e w' => e = .returned (.int .i64 11) ∧ Below w.heap.size w w' := by
  have hmf := mf_run
  go_enter Tryd.func29, Tryd.ntmps29
  go_wp2_with (first
    | (go_at_call 34; (with_reducible refine (ntell _ _ _).mono ?_); rintro e w1 ⟨rfl, rfl⟩))
  go_ret
  exact ⟨rfl, below_alloc _ _⟩
theorem nfail (w : World) (n : Int) : Calls Tryd.prog 18 #[.pointer none, .int .i64 n] w fun e w' => e = .returned (.int .i64 11) ∧ Below w.heap.size w w' := by
  have hmf := mf_run
  go_enter Tryd.func18, Tryd.ntmps18
  go_wp2_with (first
    | (go_at_call 42; (with_reducible refine (nask _ _).mono ?_); rintro e w1 ⟨rfl, rfl⟩))
  go_ret
  exact ⟨rfl, below_alloc _ _⟩
theorem nsize (w : World) (s : ByteArray) : Calls Tryd.prog 22 #[.pointer none, .string s] w fun e w' => e = .returned (.int .i64 0) ∧ Below w.heap.size w w' := by
  go_enter Tryd.func22, Tryd.ntmps22
  go_wp2
  go_ret
  exact ⟨rfl, Below.refl _ _⟩
theorem nlist0 (w : World) : Calls Tryd.prog 58 #[.pointer none] w fun e w' => e = .returned (.slice none 0 0) ∧ w = w' := by
  go_enter Tryd.func58, Tryd.ntmps58
  go_wp2
  go_ret
  exact ⟨rfl, rfl⟩
theorem nused (w : World) : Calls Tryd.prog 56 #[.pointer none] w fun e w' => e = .returned (.int .i64 0) ∧ Below w.heap.size w w' := by
  go_enter Tryd.func56, Tryd.ntmps56
  go_wp2
  go_ret
  exact ⟨rfl, Below.refl _ _⟩
theorem nops (w : World) : Calls Tryd.prog 45 #[.pointer none] w fun e w' => e = .returned (.int .i64 0) ∧ Below w.heap.size w w' := by
  go_enter Tryd.func45, Tryd.ntmps45
  go_wp2
  go_ret
  exact ⟨rfl, Below.refl _ _⟩
theorem ndown (w : World) : Calls Tryd.prog 46 #[.pointer none] w fun e w' => e = .returned (.bool false) ∧ Below w.heap.size w w' := by
  go_enter Tryd.func46, Tryd.ntmps46
  go_wp2
  go_ret
  exact ⟨rfl, Below.refl _ _⟩
theorem nfiles0 (w : World) : Calls Tryd.prog 44 #[.pointer none] w fun e w' => e = .returned (.slice none 0 0) ∧ w = w' := by
  go_enter Tryd.func44, Tryd.ntmps44
  go_wp2_with (first
    | (go_at_call 58; (with_reducible refine (nlist0 _).mono ?_); rintro e w1 ⟨rfl, rfl⟩))
  go_loopw [3, 12] (fun v iv wr => v = .slice none 0 0 ∧ iv = .int .i64 0 ∧ w = wr) (fun _ _ _ => 0)
  case atStart => exact ⟨rfl, rfl, rfl⟩
  case round =>
    obtain ⟨rfl, rfl, rfl⟩ := hrel
    go_wp2
    go_ret
    exact ⟨rfl, rfl⟩
theorem nil_says : NilSays where
  make := nmake
  rename := nrename
  remove := nremove
  fail := nfail
  size := nsize
  list w := (nlist0 w).mono (by rintro e w' ⟨rfl, rfl⟩; exact ⟨_, _, rfl, Below.refl _ _⟩)
  files w := (nfiles0 w).mono (by rintro e w' ⟨rfl, rfl⟩; exact ⟨_, _, rfl, Below.refl _ _⟩)
  used := nused
  ops := nops
  down := ndown
end Go.Proofs.YtoempaagpgoilaaDoor
