/-
  LAYER 17 (image): what lay does: a record's fragments laid into a body. The record must be one that fits; the table of half a byte's steps must lie in its block as start-up lays it.
-/
import Derived.Test.YtjlnceldnbpapaaDoorImgRec
import Derived.Test.YtjlnceldnbpapaaDoorJFrag
namespace Go.Proofs.YtjlnceldnbpapaaDoor
open Go.RowKit
theorem Tab.over {w w' : World} (h : Tab w) {g : Nat} (hg : w.grownBy w' (some g)) (h0 : 0 < g) : Tab w' := fun j hj => hg.cell (h j hj) (fun e => by have := Option.some.inj e; simp at this; omega)
theorem FL.apart {base : Nat} {w w' : World} {v : Value} {m : Nat} {es : List (FR × Value)} (h : FL base w v m es) {g : Nat} (hg : w.grownBy w' (some g)) (hb : g < base) : FL base w' v m es :=
  ⟨own_over h.row hg (fun q hq e => by have := (h.row.lt q hq).1; have := Option.some.inj e; omega), fun e he => own_over (h.data e he) hg (fun q hq e' => by have := ((h.data e he).lt q hq).1; have := Option.some.inj e'; omega)⟩
theorem grown_below {w w' : World} {g : Nat} (h : Below w.heap.size w w') : w.grownBy w' (some g) := ⟨h.os, h.tape, h.output, h.size, fun k hk _ => h.block k hk⟩
theorem grown_chain {a b c : World} {g : Nat} (h : a.grownBy b (some g)) (k : Below b.heap.size b c) : a.grownBy c (some g) := grown_trans h (grown_below k)
theorem u32_wrap (x : Int) : IntKind.u32.wrap x = x % 4294967296 := by simp [IntKind.wrap, IntKind.signed, IntKind.bits]
theorem YB.lt {w : World} {g : Nat} {zs : List Int} (h : YB w g zs) : g < w.heap.size := (Array.getElem?_eq_some_iff.1 h).1
set_option maxRecDepth 8000 in
set_option maxHeartbeats 4000000 in
theorem lay_any (ep : Int) (x : Int) (zs : List Int) (hzb : isB zs) (n : Nat) (da : Option Addr) (dc : Nat) (bh : Int) (pa : Option Addr) (pc g : Nat) (body : List Int) (hbl : body.length = 832) (hfit : fitI x n = true) (w : World) (ht : Tab w) (hg0 : 0 < g)
    (hy : YB w g body) (hri : RI .u8 w (.slice da n dc) n zs) (hp : ∀ w', w.grownBy w' (some g) → PS w' (.slice pa (pcsI x n).length pc) (pcsI x n)) :
    Calls Tryd.prog 17 #[.agg (rA (.slice da n dc) (beginN (nr x) : Nat) (.slice pa (pcsI x n).length pc) bh), .int .u64 ep, .slice (some ⟨g, 0, none⟩) 832 832] w fun e w' =>
      e = .returned (.tuple #[]) ∧ YB w' g (layR (ep % 4294967296) body x zs) ∧ w.grownBy w' (some g) := by
  have hzl := hri.length
  have hglt := hy.lt
  obtain ⟨e32, he⟩ : ∃ e32, ep % 4294967296 = e32 := ⟨_, rfl⟩
  have he0 : 0 ≤ e32 ∧ e32 ≤ 4294967295 := by omega
  have hw32 : IntKind.u32.wrap ep = e32 := by rw [u32_wrap, he]
  rw [he]
  have HF : Hid (∀ w, RI .u8 w (.slice da n dc) n zs → Calls Tryd.prog 25 #[.int .u32 e32, .int .i64 (beginN (nr x) : Nat), .slice da n dc] w fun e w' =>
      ∃ v es, e = .returned (.tuple #[v, .bool true]) ∧ FL w.heap.size w' v es.length es ∧ es.map Prod.fst = (pcsI x n).map (frOf e32 zs) ∧ Below w.heap.size w w') := Lib.hid fun w h => by
    have hbg := begin_le _ (nr_le x)
    have h1 := frags_any e32 (beginN (nr x) : Nat) (.slice da n dc) n zs (by unfold I63; omega) w h
    have h2 := pcs_begin x n
    rw [h2.1, hfit] at h1
    unfold fragsI at h1
    rw [hzl, h2.2] at h1
    exact h1
  have HPF : Hid (∀ (i : Nat) (c : PC), (pcsI x n)[i]? = some c → ∃ q l k, PcFit (nr x) n c q l k) := Lib.hid fun i c h => by
    obtain ⟨m, q, l, k, hm, hf⟩ := pc_fit h
    obtain rfl : n = m := by omega
    exact ⟨q, l, k, hf⟩
  have HLN : Hid (∀ i, (layP e32 zs body ((pcsI x n).take i)).length = 832) := Lib.hid fun i => by rw [← hzl]; exact layP_len hbl i
  have HLR : Hid (layP e32 zs body (pcsI x n) = layR e32 body x zs) := Lib.hid (by unfold layR; rw [hzl])
  generalize layR e32 body x zs = out at *
  have hpl := pcs_len x n
  generalize pcsI x n = ps at *
  generalize beginN (nr x) = bg at *
  obtain ⟨m, hm⟩ : ∃ m, ps.length = m := ⟨_, rfl⟩
  rw [hm] at hp hpl ⊢
  have HM := Lib.hid hm
  have HP := Lib.hid hp
  have HZB := Lib.hid hzb
  have HZL := Lib.hid hzl
  obtain ⟨w0, hw0⟩ : ∃ q, w.alloc (.cells (rA (.slice da n dc) bg (.slice pa m pc) bh) 48) = q := ⟨_, rfl⟩
  have HA : Hid (MO w0 w.heap.size (.slice da n dc) bg (.slice pa m pc) bh) := Lib.hid (by rw [← hw0]; exact MO.alloc w)
  have HB0 : Hid (Below w.heap.size w w0) := Lib.hid (by rw [← hw0]; exact balloc w _)
  have HG0 : Hid (w.grownBy w0 (some g)) := Lib.hid (grown_below HB0.out)
  have HY0 := Lib.hid (hy.keep HB0.out)
  have HR0 := Lib.hid (hri.keep HB0.out)
  have HT0 := Lib.hid (ht.keep HB0.out)
  have HGL : Hid (g < w.heap.size ∧ 0 < g) := Lib.hid ⟨hglt, hg0⟩
  obtain ⟨z0, z1, z2, z3⟩ := HA.out.cells
  clear hzb hbl hfit ht hg0 hy hri hp hzl he hm hglt
  go_enter Tryd.func17, Tryd.ntmps17
  go_wp2_with (first
    | (go_at_call 25; ((with_reducible refine (HF.out _ HR0.out).mono ?_); rintro e w1 ⟨v1, es, rfl, hfl, hes, hb⟩; obtain ⟨a1, c1, rfl⟩ := own_form hfl.row; have HFL1 := Lib.hid hfl; have HES := Lib.hid hes; have HG1 := Lib.hid (grown_chain HG0.out hb); have HY1 := Lib.hid (HY0.out.keep hb); have HA1 := Lib.hid (HA.out.keep hb); have HT1 := Lib.hid (HT0.out.keep hb); clear hb hfl hes)))
  obtain ⟨z0, z1, z2, z3⟩ := HA1.out.cells
  have HLE : Hid (es.length = m) := Lib.hid (by have := congrArg List.length HES.out; simp only [List.length_map] at this; rw [this]; exact HM.out)
  obtain ⟨ml, hml⟩ : ∃ ml, es.length = ml := ⟨_, rfl⟩
  rw [hml] at HFL1 HLE ⊢
  have hle : ml = m := HLE.out
  subst hle
  have HBS : Hid (g < w0.heap.size) := Lib.hid (Nat.lt_of_lt_of_le HGL.out.1 HB0.out.size)
  have HPS : Hid (∀ w', w1.grownBy w' (some g) → PS w' (.slice pa ml pc) ps) := Lib.hid fun w' h => HP.out _ (grown_trans HG1.out h)
  obtain ⟨rb, hrb⟩ : ∃ rb, w.heap.size = rb := ⟨_, rfl⟩
  have HRB : Hid (rb ≠ g) := Lib.hid (by have := HGL.out.1; omega)
  rw [hrb] at HA1
  simp only [hrb] at z0 z1 z2 z3 ⊢
  clear HF HY0 HR0 HT0 HA HG0 HB0 hml hw32 z0 z1 z2 z3
  go_wp2
  go_loopw [24] (fun iv wr => ∃ i : Nat, iv = .int .i64 (i : Int) ∧ i ≤ ml ∧ Hid (w1.grownBy wr (some g)) ∧ Hid (YB wr g (layP e32 zs body (ps.take i)))) (fun iv _ => ml - (intOf iv).toNat)
  case atStart => exact ⟨0, rfl, by omega, Lib.hid (grown_refl _ _), HY1⟩
  case round =>
    obtain ⟨i, rfl, him, HG, HY⟩ := hrel
    by_cases hlt : (i : Int) < (ml : Int)
    · obtain ⟨c, hc⟩ : ∃ c, ps[i]? = some c := ⟨ps[i]'(by have := HM.out; omega), List.getElem?_eq_getElem _⟩
      obtain ⟨q, l, k, hpf⟩ := HPF.out i c hc
      have hee : ∃ v, es[i]? = some (frOf e32 zs c, v) := by
        have h1 := congrArg (fun l => l[i]?) HES.out
        simp only [List.getElem?_map, hc, Option.map_some] at h1
        cases he : es[i]? with
        | none => rw [he] at h1; simp at h1
        | some e => rw [he] at h1; simp at h1; exact ⟨e.2, by rw [← h1]⟩
      obtain ⟨v, hev⟩ := hee
      obtain ⟨dd, hdd⟩ : ∃ dd, (frOf e32 zs c).data = dd := ⟨_, rfl⟩
      have hfr : frOf e32 zs c = ⟨c.kind, e32, dd⟩ := by rw [← hdd]; rfl
      have hdl : dd.length = k := by
        rw [← hdd, hpf.data, List.length_take, List.length_drop]; have := hpf.upto; have := HZL.out; omega
      have hdb : isB dd := by rw [← hdd, hpf.data]; exact (HZB.out.drop _).take _
      have HPB : Hid (fragB c.kind e32 dd = pcB e32 zs c) := Lib.hid (by unfold pcB; rw [hdd])
      have HPL : Hid ((pcB e32 zs c).length = 11 + k) := Lib.hid (hpf.len e32 zs HZL.out)
      have HNX := Lib.hid (layP_next e32 zs body ps i c hc)
      rw [hpf.at_, Int.toNat_natCast] at HNX
      obtain ⟨b2, o2, e2, r2⟩ := (HPS.out wr HG.out).at_ i c hc
      obtain rfl := e2
      have HC2 : Hid (∀ w', w1.grownBy w' (some g) → w'.cell? ⟨b2, o2 + i * 4, none⟩ = some (.int .i64 (q : Int))) := Lib.hid fun w' hg => by
        obtain ⟨b3, o3, e3, r3⟩ := (HPS.out w' hg).at_ i c hc
        obtain ⟨rfl, rfl⟩ : b2 = b3 ∧ o2 = o3 := by simpa using e3
        rw [← hpf.at_]; exact (pc_cells r3).1
      rw [hfr] at hev
      have HFL := Lib.hid (HFL1.out.apart HG.out HBS.out)
      obtain ⟨b1, o1, rfl, r1⟩ := HFL.out.at_ i _ hev
      have HD := Lib.hid (HFL.out.data _ (List.mem_of_getElem? hev))
      obtain ⟨va, vc, hv⟩ := own_form HD.out
      have hv2 : v = .slice va k vc := by rw [← hdl]; exact hv
      subst hv2
      simp only [hdl] at HD
      have HR1 := Lib.hid r1
      have hok : fragOk c.kind k = true := decide_eq_true ⟨hpf.k1, hpf.k4, hpf.most⟩
      have hq : (q : Int) ≤ 821 := by have := hpf.room; omega
      have hq2 : ¬ 832 = q := by omega
      have HQ : Hid (q + 11 + k ≤ 832) := Lib.hid hpf.room
      obtain ⟨kd, hkd⟩ : ∃ kd, c.kind = kd := ⟨_, rfl⟩
      rw [hkd] at HPB hok HR1
      obtain ⟨w5, hw5⟩ : ∃ w5, (wr.alloc (.cells #[.int .i64 0, .int .u32 0, .slice none 0 0] 63)).setRow wr.heap.size (fA kd e32 (.slice va k vc)) = w5 := ⟨_, rfl⟩
      have hb5 : Below wr.heap.size wr w5 := by rw [← hw5]; exact bnew wr _ _
      have HF5 : Hid (FO w5 wr.heap.size kd e32 (.slice va k vc)) := Lib.hid (by rw [← hw5]; exact FO.new _)
      have HG5 := Lib.hid (grown_chain HG.out hb5)
      have HT5 := Lib.hid (HT1.out.over HG5.out HGL.out.2)
      have HY5 := Lib.hid (HY.out.keep hb5)
      have HD5 := Lib.hid (own_keep HD.out hb5)
      have HE : Hid (Calls Tryd.prog 26 #[.agg (fA kd e32 (.slice va k vc))] w5 fun r w' => ∃ p c, r = .returned (.tuple #[.slice p (11 + k) c, .int .i64 0]) ∧ RI .u8 w' (.slice p (11 + k) c) (11 + k) (fragB kd e32 dd) ∧ Below w5.heap.size w5 w') :=
        Lib.hid (fenc_right kd e32 va k vc dd w5 HT5.out hok he0 (RI.own HD5.out) hdb)
      rw [HPB.out] at HE
      clear hb5 hdd hfr hok hdb hev HFL r1 r2 hv hpf hdl hc
      go_wp2_with (first
        | (refine wpl_val rfl (exec_load_el (e := (⟨kd, e32, dd⟩, .slice va k vc)) (.tmp 27) rfl rfl HR1.out) ?_)
        | (refine wpList_store_row rfl 63 _ _ rfl wr.heap.size (fA kd e32 (.slice va k vc)) rfl rfl _ _ (heap_alloc_last wr _) (fr_info _ rfl) rfl (fr_one _ _ _ _ _) ?_; rw [hw5])
        | (refine wpl_load_fr rfl (.tmp 9) rfl rfl HF5.out ?_)
        | (go_at_call 26; (with_reducible refine (HE.out).mono ?_); rintro e w6 ⟨p6, c6, rfl, hr, hb⟩; have HR6 := Lib.hid hr; have HG6 := Lib.hid (grown_chain HG5.out hb); have HY6 := Lib.hid (HY5.out.keep hb); obtain ⟨t0, t1, t2, t3⟩ := (HA1.out.over HG6.out HRB.out).cells; have y6 := HC2.out w6 HG6.out; clear hb hr)
        | (refine wpl_copy_yb rfl _ _ rfl g q (832 - q) (832 - q) _ HY6.out rfl _ (11 + k) (pcB e32 zs c) rfl HR6.out (by have := HQ.out; omega) (by rw [HLN.out]; omega) ?_; intro w7 HY7 HG7; rw [← HNX.out] at HY7; have HG7 := Lib.hid (grown_trans HG6.out HG7.out)))
      go_roundw
      case rel => exact ⟨i + 1, by go_num, by omega, HG7, HY7⟩
      case measure => simp [intOf]; omega
    · obtain rfl : i = ml := by omega
      have HE : Hid (YB wr g out) := Lib.hid (by have := HY.out; rw [List.take_of_length_le (by rw [HM.out]; omega), HLR.out] at this; exact this)
      have HGE := Lib.hid (grown_trans HG1.out HG.out)
      go_wp2
      go_end0
      exact ⟨rfl, HE.out, HGE.out⟩
end Go.Proofs.YtjlnceldnbpapaaDoor
