/-
  TEXTS JOINED: SegRef, DiskCrash, DiskDo1, DiskRead, DiskWaits, DiskLawSame, PoolRefS. Each one's own words stand at its head.
-/
import Derived.Test.YtpoiapfgbbmekaaGreatDoorJ12
import Derived.Test.YtpoiapfgbbmekaaGreatDoorJ17
import Derived.Test.YtpoiapfgbbmekaaGreatDoorJ15
import Derived.Test.YtpoiapfgbbmekaaGreatDoorJ4
import Derived.Test.YtpoiapfgbbmekaaGreatDoorJ2
import Derived.Test.YtpoiapfgbbmekaaGreatDoorJ16
import Derived.Test.YtpoiapfgbbmekaaGreatDoorJ3
import Derived.Test.YtpoiapfgbbmekaaGreatDoorJ1
namespace Go.Proofs.YtpoiapfgbbmekaaGreatDoor
open Go.RowKit
theorem rwal_of {q : Int} (hq : I63 q) {s : ByteArray} (hs : walB q = s) : Hid (∀ w, Calls Tryz.prog 36 #[.int .i64 q] w fun e w' => e = .returned (.string s) ∧ w' = w) :=
  Lib.hid fun w => by rw [← hs]; exact rwal_any q hq.1 hq.2 w
theorem rdec_of {l : List Int} (hl : 64 ≤ l.length) (hb : Bytes l) {x : Hdr} {e : Int} (h : fstI l = (x, e)) :
    Hid (∀ w, Calls Tryz.prog 95 #[.agg (sv (l.take 64))] w fun r w' => r = .returned (.tuple #[.agg (hv x), .int .i64 e]) ∧ Below w.heap.size w w') :=
  Lib.hid fun w => rdec_any (l.take 64) (by simp; omega) ((bytes_isB hb).take 64) w h
theorem rfind_of {d : AD} {s : ByteArray} {i : Int} (hi : findI d.L s = i) : Hid (∀ W v, RD W v d → Calls Tryz.prog 35 #[v, .string s] W fun e w' => e = .returned (.int .i64 i) ∧ Below W.heap.size W w') :=
  Lib.hid fun W v h => by rw [← hi]; exact rfind_any v d s W h
structure BH (w : World) (cs : Array Value) (d : AD) (W : World) : Prop where
  br : BR w cs d W
  hr : HB W (w.heap.size + 1) noH
theorem BH.next {w W W' : World} {cs : Array Value} {d : AD} (h : BH w cs d W) (hb : Below W.heap.size W W') : BH w cs d W' := ⟨h.br.next hb, h.hr.keep hb⟩
theorem BH.start {w : World} {cs : Array Value} {d : AD} (h6 : cs.size = 6) (h : RD w (.agg cs) d) : BH w cs d ((w.alloc (.cells cs 28)).alloc (.cells #[.int .u64 0, .int .i64 0, .int .i64 0, .int .i64 0, .int .i64 0, .int .i64 0, .int .i64 0] 34)) := by
  have h1 := (BR.start h6 h).next (balloc _ (.cells (hv noH) 34))
  refine ⟨h1, ?_⟩
  have := HB.new (w.alloc (.cells cs 28)) noH rfl
  rwa [alloc_size] at this
structure FA (W : World) (a : Option Addr) (k : Nat) (f : AF) (b off : Nat) (v1 : Value) (b1 o1 c1 b2 o2 c2 : Nat) (v3 : Value) : Prop where
  ha : a = some ⟨b, off, none⟩
  k0 : W.cell? ⟨b, off + k * 4, none⟩ = some (.string f.name)
  k1 : W.cell? ⟨b, off + k * 4 + 1, none⟩ = some v1
  k2 : W.cell? ⟨b, off + k * 4 + 2, none⟩ = some (.slice (some ⟨b2, o2, none⟩) f.n c2)
  k3 : W.cell? ⟨b, off + k * 4 + 3, none⟩ = some v3
  e1 : v1 = .slice (some ⟨b1, o1, none⟩) f.n c1
  a1 : At W b1 o1 (f.las.take 64)
  a2 : At W b2 o2 (f.seen.take 64)
  s1 : FS W v1 f.n f.las
  s2 : FS W (.slice (some ⟨b2, o2, none⟩) f.n c2) f.n f.seen
theorem FA.next {W W' : World} {a : Option Addr} {k : Nat} {f : AF} {b off : Nat} {v1 : Value} {b1 o1 c1 b2 o2 c2 : Nat} {v3 : Value} (h : FA W a k f b off v1 b1 o1 c1 b2 o2 c2 v3) (hb : Below W.heap.size W W') : FA W' a k f b off v1 b1 o1 c1 b2 o2 c2 v3 :=
  ⟨h.ha, cell_keep hb h.k0, cell_keep hb h.k1, cell_keep hb h.k2, cell_keep hb h.k3, h.e1, h.a1.keep hb, h.a2.keep hb, h.s1.keep hb, h.s2.keep hb⟩
theorem FA.of {W : World} {a : Option Addr} {n cap : Nat} {L : List AF} (h : FLs W (.slice a n cap) L) {k : Nat} {f : AF} (hf : L[k]? = some f) (hg : GF f) :
    ∃ b off v1 b1 o1 c1 b2 o2 c2 v3, FA W a k f b off v1 b1 o1 c1 b2 o2 c2 v3 := by
  obtain ⟨b, off, v1, v2, v3, h1, h2, h3, h4, h5, h6, h7, _⟩ := h.at_ k f hf
  have hn := hg.n1
  obtain ⟨a1, c1, e1, _⟩ := id h6
  obtain ⟨a2, c2, e2, _⟩ := id h7
  subst e1; subst e2
  obtain ⟨b1, o1, rfl, g1⟩ := h6.at_ 0 (by omega)
  obtain ⟨b2, o2, rfl, g2⟩ := h7.at_ 0 (by omega)
  exact ⟨b, off, _, b1, o1, c1, b2, o2, c2, v3, h1, h2, h3, h4, h5, rfl, by simpa using g1, by simpa using g2, h6, h7⟩
set_option maxRecDepth 8000 in
set_option maxHeartbeats 4000000 in
theorem rhead_any (vd : Value) (d : AD) (q : Int) (w : World) (h : RD w vd d) (hg : Good d) (hq : I63 q) :
    Calls Tryz.prog 67 #[vd, .int .i64 q] w fun e w' => e = .returned (.tuple #[.agg (hv (headI d q).1), .int .i64 (headI d q).2]) ∧ Below w.heap.size w w' := by
  obtain ⟨a, n, cap, rfl, hn, hc1, hc2⟩ := h.agg
  have hst := BH.start rfl h
  obtain ⟨w0, hw0⟩ : ∃ q, (w.alloc (.cells #[.slice a n cap, .int .i64 d.cap, .int .i64 d.ops, .bool d.down, .bool d.told, .int .i64 d.after] 28)).alloc (.cells #[.int .u64 0, .int .i64 0, .int .i64 0, .int .i64 0, .int .i64 0, .int .i64 0, .int .i64 0] 34) = q := ⟨_, rfl⟩
  rw [hw0] at hst
  have HS := Lib.hid hst
  have HSZ := Lib.hid (show w.heap.size + 2 ≤ w0.heap.size from by rw [← hw0, alloc_size, alloc_size]; omega)
  obtain ⟨q0, q1, q2, q3, q4, q5⟩ := hst.br.d0.six
  obtain ⟨s, hs⟩ : ∃ s, walB q = s := ⟨_, rfl⟩
  have HWL := rwal_of hq hs
  clear hst hq
  by_cases h0 : s = noS
  · rw [show headI d q = (noH, 13) from by unfold headI; rw [hs, if_pos h0]]
    subst h0
    clear hs h hg hn
    go_enter Tryz.func67, Tryz.ntmps67
    go_wp2_with (first
      | (go_at_call 36; (with_reducible refine (HWL.out _).mono ?_); rintro e w1 ⟨rfl, rfl⟩)
      | (refine wpl_put_hd rfl (.tmp 4) (.tmp 12) rfl (w.heap.size + 1) noH noH HS.out.hr rfl rfl rfl ?_; intro wf HOF HGF))
    refine bodyPost_ret_by (results_row_tmp rfl _ _ (w.heap.size + 1) _ rfl HOF.out.load) rfl ⟨rfl, hbelow_grown HS.out.br.below HGF.out (by omega) HS.out.br.below.size⟩
  have b0 : (s.toList == ([] : List UInt8)) = false := str_empty h0
  cases hd : d.down with
  | true =>
    rw [show headI d q = (noH, 9) from by unfold headI; rw [hs, if_neg h0, if_pos hd]]
    simp only [hd] at q3 hw0 HS
    clear hs h hg hn hd
    go_enter Tryz.func67, Tryz.ntmps67
    go_wp2_with (first
      | (go_at_call 36; (with_reducible refine (HWL.out _).mono ?_); rintro e w1 ⟨rfl, rfl⟩)
      | (refine wpl_put_hd rfl (.tmp 4) (.tmp 15) rfl (w.heap.size + 1) noH noH HS.out.hr rfl rfl rfl ?_; intro wf HOF HGF))
    refine bodyPost_ret_by (results_row_tmp rfl _ _ (w.heap.size + 1) _ rfl HOF.out.load) rfl ⟨rfl, hbelow_grown HS.out.br.below HGF.out (by omega) HS.out.br.below.size⟩
  | false =>
    have hdd : ¬ d.down = true := by rw [hd]; simp
    simp only [hd] at q3 hw0 HS
    obtain ⟨i, hi⟩ : ∃ i, findI d.L s = i := ⟨_, rfl⟩
    have HFD := rfind_of hi
    have HSD := Lib.hid (HS.out.next (Below.refl _ _).drew)
    by_cases hh : d.has s
    · have hat := d.get_at s hh
      have hgf := hg.file _ (get_mem hh)
      have hii : i = (idxN d.L s : Nat) := by rw [← hi]; unfold findI; exact if_pos hh
      obtain ⟨k, hk⟩ : ∃ k, idxN d.L s = k := ⟨_, rfl⟩
      rw [hk] at hii hat
      have hex : headI d q = if (d.get s).n ≠ 17 ∨ (fstI (d.get s).seen).2 ≠ 0 ∨ (fstI (d.get s).seen).1.s ≠ q then (noH, 12) else ((fstI (d.get s).seen).1, 0) := by
        unfold headI; rw [hs, if_neg h0, if_neg hdd, if_neg (Decidable.not_not.2 hh)]
      rw [hex]
      obtain ⟨f, hf⟩ : ∃ f, d.get s = f := ⟨_, rfl⟩
      rw [hf] at hat hgf ⊢
      have hkn : k < n := by rw [← hn]; exact (List.getElem?_eq_some_iff.1 hat).1
      obtain ⟨b, off, v1, b1, o1, c1, b2, o2, c2, v3, hfa⟩ := FA.of (h.fls) hat hgf
      obtain rfl := hfa.ha
      have HFA := Lib.hid hfa
      have hl := hgf.seen
      have hn1 := hgf.n1
      have hn64 := hgf.n64
      have hb := hgf.bseen
      obtain ⟨⟨x, e⟩, hx⟩ : ∃ r, fstI f.seen = r := ⟨_, rfl⟩
      have HDC := rdec_of (by omega) hb hx
      have HXT := Lib.hid (show HdT x from by have := fstI_typed hb; rw [hx] at this; exact this)
      rw [hx]
      subst hii
      have hk63 : (k : Int) < (n : Int) := by omega
      have HLB := Lib.hid (show ∀ W, Below w.heap.size w W → FA W (some ⟨b, off, none⟩) k f b off v1 b1 o1 c1 b2 o2 c2 v3 from fun W hW => HFA.out.next hW)
      obtain ⟨nm, k17, las, seen, ws⟩ := f
      simp only at HDC hn1 ⊢
      have hk1 : (0 : Int) < (k17 : Int) := by omega
      clear hs h hg hn hd hdd hi hex hat hf hh hgf hfa hb hl hx hn1 hn64
      by_cases h17 : k17 = 17
      · subst h17
        by_cases he : e = 0
        · subst he
          by_cases hq2 : x.s = q
          · rw [if_neg (by simp [hq2])]
            have bq : (x.s == q) = true := by simpa using hq2
            focus
              go_enter Tryz.func67, Tryz.ntmps67
              go_wp2_with (first
                | (go_at_call 36; (with_reducible refine (HWL.out _).mono ?_); rintro e w1 ⟨rfl, rfl⟩))
              refine wp_region_held_drew (S := (fun W' => DB W' w.heap.size #[.slice (some ⟨b, off, none⟩) n cap, .int .i64 d.cap, .int .i64 d.ops, .bool false, .bool d.told, .int .i64 d.after])) (by kernel_rfl) HSD.out.br.d0 (fun hS => ?_)
              refine rgw 0 ⟨some 16, .load 28 (.tmp 2), 28, _, _, none⟩ hS ?_ (hy := by intro w hSw; (try dsimp only at hSw); refine exec_load_db (.tmp 2) ?_ ?_ hSw <;> rfl)
              refine rgw 1 ⟨some 17, .move (.tmp 1), 3, _, _, none⟩ hS ?_
              refine rg_one 2 ⟨some 18, .call { callee := .value (.func 36), args := #[.tmp 17], argTypes := #[3] }, 9, _, _, none⟩ (by kernel_rfl) rfl (fun K hK => ?_)
              go_simp
              (go_at_call 36; (with_reducible refine (HWL.out _).mono ?_); rintro e w1 ⟨rfl, rfl⟩)
              refine hK.out _ _ ?_ (fun hS1 => ?_)
              · (first | exact hS | exact hS.next hb)
              clear hK K hS; have hS := hS1; clear hS1
              (try simp only [rgp])
              refine rg_one 3 ⟨some 19, .call { callee := .value (.func 35), args := #[.tmp 16, .tmp 18], argTypes := #[28, 9] }, 3, _, _, none⟩ (by kernel_rfl) rfl (fun K hK => ?_)
              go_simp
              (go_at_call 35; (with_reducible refine (HFD.out _ _ HSD.out.br.rd).mono ?_); rintro e w3 ⟨rfl, hb⟩; have HS3 := Lib.hid (HSD.out.next hb))
              refine hK.out _ _ ?_ (fun hS1 => ?_)
              · (first | exact hS | exact hS.next hb)
              clear hK K hS; have hS := hS1; clear hS1
              (try simp only [rgp])
              refine rgw 4 ⟨some 6, .assign (.tmp 19), 3, _, _, none⟩ hS ?_
              refine wpAnyH_done (by kernel_rfl) ?_ _
              clear hS
              obtain ⟨z0, z1, z2, z3, z4, z5⟩ := HS3.out.br.d0.six
              have HF3 := Lib.hid (HLB.out _ HS3.out.br.below)
              have y2 := HF3.out.k2
              go_wp2_with (first
                | (refine wpl_load_at rfl (.tmp 30) rfl b2 o2 rfl _ HF3.out.a2 ?_)
                | (go_at_call 95; (with_reducible refine (HDC.out _).mono ?_); rintro e w4 ⟨rfl, hb⟩; have HS4 := Lib.hid (HS3.out.next hb); have HF4 := Lib.hid (HF3.out.next hb); clear hb)
                | (refine wpl_store_newH rfl _ _ rfl rfl w4.heap.size rfl x HXT.out.n rfl rfl ?_; intro w5 HK5 HB5; have HS5 := Lib.hid (HS4.out.next HB5.out); have HF5 := Lib.hid (HF4.out.next HB5.out); obtain ⟨u0, u1, u2, u3, u4, u5⟩ := HS5.out.br.d0.six; have x2 := HF5.out.k2; clear z0 z1 z2 z3 z4 z5 y2)
                | (refine wpl_load_hs (by rfl) (.tmp 48) rfl rfl HK5.out ?_)
                | (refine wpl_load_hd (by rfl) (.tmp 7) rfl rfl HK5.out ?_)
                | (refine wpl_put_hd rfl (.tmp 4) (.tmp 54) rfl (w.heap.size + 1) noH x HS5.out.hr HXT.out.n rfl rfl ?_; intro wf HOF HGF))
              refine bodyPost_ret_by (results_row_tmp rfl _ _ (w.heap.size + 1) _ rfl HOF.out.load) rfl ⟨rfl, hbelow_grown HS5.out.br.below HGF.out (by omega) HS5.out.br.below.size⟩
          · rw [if_pos (by simp [hq2])]
            have bq : (x.s == q) = false := by simpa using hq2
            focus
              go_enter Tryz.func67, Tryz.ntmps67
              go_wp2_with (first
                | (go_at_call 36; (with_reducible refine (HWL.out _).mono ?_); rintro e w1 ⟨rfl, rfl⟩))
              refine wp_region_held_drew (S := (fun W' => DB W' w.heap.size #[.slice (some ⟨b, off, none⟩) n cap, .int .i64 d.cap, .int .i64 d.ops, .bool false, .bool d.told, .int .i64 d.after])) (by kernel_rfl) HSD.out.br.d0 (fun hS => ?_)
              refine rgw 0 ⟨some 16, .load 28 (.tmp 2), 28, _, _, none⟩ hS ?_ (hy := by intro w hSw; (try dsimp only at hSw); refine exec_load_db (.tmp 2) ?_ ?_ hSw <;> rfl)
              refine rgw 1 ⟨some 17, .move (.tmp 1), 3, _, _, none⟩ hS ?_
              refine rg_one 2 ⟨some 18, .call { callee := .value (.func 36), args := #[.tmp 17], argTypes := #[3] }, 9, _, _, none⟩ (by kernel_rfl) rfl (fun K hK => ?_)
              go_simp
              (go_at_call 36; (with_reducible refine (HWL.out _).mono ?_); rintro e w1 ⟨rfl, rfl⟩)
              refine hK.out _ _ ?_ (fun hS1 => ?_)
              · (first | exact hS | exact hS.next hb)
              clear hK K hS; have hS := hS1; clear hS1
              (try simp only [rgp])
              refine rg_one 3 ⟨some 19, .call { callee := .value (.func 35), args := #[.tmp 16, .tmp 18], argTypes := #[28, 9] }, 3, _, _, none⟩ (by kernel_rfl) rfl (fun K hK => ?_)
              go_simp
              (go_at_call 35; (with_reducible refine (HFD.out _ _ HSD.out.br.rd).mono ?_); rintro e w3 ⟨rfl, hb⟩; have HS3 := Lib.hid (HSD.out.next hb))
              refine hK.out _ _ ?_ (fun hS1 => ?_)
              · (first | exact hS | exact hS.next hb)
              clear hK K hS; have hS := hS1; clear hS1
              (try simp only [rgp])
              refine rgw 4 ⟨some 6, .assign (.tmp 19), 3, _, _, none⟩ hS ?_
              refine wpAnyH_done (by kernel_rfl) ?_ _
              clear hS
              obtain ⟨z0, z1, z2, z3, z4, z5⟩ := HS3.out.br.d0.six
              have HF3 := Lib.hid (HLB.out _ HS3.out.br.below)
              have y2 := HF3.out.k2
              go_wp2_with (first
                | (refine wpl_load_at rfl (.tmp 30) rfl b2 o2 rfl _ HF3.out.a2 ?_)
                | (go_at_call 95; (with_reducible refine (HDC.out _).mono ?_); rintro e w4 ⟨rfl, hb⟩; have HS4 := Lib.hid (HS3.out.next hb); have HF4 := Lib.hid (HF3.out.next hb); clear hb)
                | (refine wpl_store_newH rfl _ _ rfl rfl w4.heap.size rfl x HXT.out.n rfl rfl ?_; intro w5 HK5 HB5; have HS5 := Lib.hid (HS4.out.next HB5.out); have HF5 := Lib.hid (HF4.out.next HB5.out); obtain ⟨u0, u1, u2, u3, u4, u5⟩ := HS5.out.br.d0.six; have x2 := HF5.out.k2; clear z0 z1 z2 z3 z4 z5 y2)
                | (refine wpl_load_hs (by rfl) (.tmp 48) rfl rfl HK5.out ?_)
                | (refine wpl_put_hd rfl (.tmp 4) (.tmp 53) rfl (w.heap.size + 1) noH noH HS5.out.hr rfl rfl rfl ?_; intro wf HOF HGF))
              refine bodyPost_ret_by (results_row_tmp rfl _ _ (w.heap.size + 1) _ rfl HOF.out.load) rfl ⟨rfl, hbelow_grown HS5.out.br.below HGF.out (by omega) HS5.out.br.below.size⟩
        · rw [if_pos (by simp [he])]
          have be : (e == 0) = false := by simpa using he
          focus
            go_enter Tryz.func67, Tryz.ntmps67
            go_wp2_with (first
              | (go_at_call 36; (with_reducible refine (HWL.out _).mono ?_); rintro e w1 ⟨rfl, rfl⟩))
            refine wp_region_held_drew (S := (fun W' => DB W' w.heap.size #[.slice (some ⟨b, off, none⟩) n cap, .int .i64 d.cap, .int .i64 d.ops, .bool false, .bool d.told, .int .i64 d.after])) (by kernel_rfl) HSD.out.br.d0 (fun hS => ?_)
            refine rgw 0 ⟨some 16, .load 28 (.tmp 2), 28, _, _, none⟩ hS ?_ (hy := by intro w hSw; (try dsimp only at hSw); refine exec_load_db (.tmp 2) ?_ ?_ hSw <;> rfl)
            refine rgw 1 ⟨some 17, .move (.tmp 1), 3, _, _, none⟩ hS ?_
            refine rg_one 2 ⟨some 18, .call { callee := .value (.func 36), args := #[.tmp 17], argTypes := #[3] }, 9, _, _, none⟩ (by kernel_rfl) rfl (fun K hK => ?_)
            go_simp
            (go_at_call 36; (with_reducible refine (HWL.out _).mono ?_); rintro e w1 ⟨rfl, rfl⟩)
            refine hK.out _ _ ?_ (fun hS1 => ?_)
            · (first | exact hS | exact hS.next hb)
            clear hK K hS; have hS := hS1; clear hS1
            (try simp only [rgp])
            refine rg_one 3 ⟨some 19, .call { callee := .value (.func 35), args := #[.tmp 16, .tmp 18], argTypes := #[28, 9] }, 3, _, _, none⟩ (by kernel_rfl) rfl (fun K hK => ?_)
            go_simp
            (go_at_call 35; (with_reducible refine (HFD.out _ _ HSD.out.br.rd).mono ?_); rintro e w3 ⟨rfl, hb⟩; have HS3 := Lib.hid (HSD.out.next hb))
            refine hK.out _ _ ?_ (fun hS1 => ?_)
            · (first | exact hS | exact hS.next hb)
            clear hK K hS; have hS := hS1; clear hS1
            (try simp only [rgp])
            refine rgw 4 ⟨some 6, .assign (.tmp 19), 3, _, _, none⟩ hS ?_
            refine wpAnyH_done (by kernel_rfl) ?_ _
            clear hS
            obtain ⟨z0, z1, z2, z3, z4, z5⟩ := HS3.out.br.d0.six
            have HF3 := Lib.hid (HLB.out _ HS3.out.br.below)
            have y2 := HF3.out.k2
            go_wp2_with (first
              | (refine wpl_load_at rfl (.tmp 30) rfl b2 o2 rfl _ HF3.out.a2 ?_)
              | (go_at_call 95; (with_reducible refine (HDC.out _).mono ?_); rintro e w4 ⟨rfl, hb⟩; have HS4 := Lib.hid (HS3.out.next hb); have HF4 := Lib.hid (HF3.out.next hb); clear hb)
              | (refine wpl_store_newH rfl _ _ rfl rfl w4.heap.size rfl x HXT.out.n rfl rfl ?_; intro w5 HK5 HB5; have HS5 := Lib.hid (HS4.out.next HB5.out); have HF5 := Lib.hid (HF4.out.next HB5.out); obtain ⟨u0, u1, u2, u3, u4, u5⟩ := HS5.out.br.d0.six; have x2 := HF5.out.k2; clear z0 z1 z2 z3 z4 z5 y2)
              | (refine wpl_load_hs (by rfl) (.tmp 48) rfl rfl HK5.out ?_)
              | (refine wpl_put_hd rfl (.tmp 4) (.tmp 53) rfl (w.heap.size + 1) noH noH HS5.out.hr rfl rfl rfl ?_; intro wf HOF HGF))
            refine bodyPost_ret_by (results_row_tmp rfl _ _ (w.heap.size + 1) _ rfl HOF.out.load) rfl ⟨rfl, hbelow_grown HS5.out.br.below HGF.out (by omega) HS5.out.br.below.size⟩
      · rw [if_pos (by simp [h17])]
        have b17 : ((k17 : Int) == 17) = false := by simp; omega
        focus
          go_enter Tryz.func67, Tryz.ntmps67
          go_wp2_with (first
            | (go_at_call 36; (with_reducible refine (HWL.out _).mono ?_); rintro e w1 ⟨rfl, rfl⟩))
          refine wp_region_held_drew (S := (fun W' => DB W' w.heap.size #[.slice (some ⟨b, off, none⟩) n cap, .int .i64 d.cap, .int .i64 d.ops, .bool false, .bool d.told, .int .i64 d.after])) (by kernel_rfl) HSD.out.br.d0 (fun hS => ?_)
          refine rgw 0 ⟨some 16, .load 28 (.tmp 2), 28, _, _, none⟩ hS ?_ (hy := by intro w hSw; (try dsimp only at hSw); refine exec_load_db (.tmp 2) ?_ ?_ hSw <;> rfl)
          refine rgw 1 ⟨some 17, .move (.tmp 1), 3, _, _, none⟩ hS ?_
          refine rg_one 2 ⟨some 18, .call { callee := .value (.func 36), args := #[.tmp 17], argTypes := #[3] }, 9, _, _, none⟩ (by kernel_rfl) rfl (fun K hK => ?_)
          go_simp
          (go_at_call 36; (with_reducible refine (HWL.out _).mono ?_); rintro e w1 ⟨rfl, rfl⟩)
          refine hK.out _ _ ?_ (fun hS1 => ?_)
          · (first | exact hS | exact hS.next hb)
          clear hK K hS; have hS := hS1; clear hS1
          (try simp only [rgp])
          refine rg_one 3 ⟨some 19, .call { callee := .value (.func 35), args := #[.tmp 16, .tmp 18], argTypes := #[28, 9] }, 3, _, _, none⟩ (by kernel_rfl) rfl (fun K hK => ?_)
          go_simp
          (go_at_call 35; (with_reducible refine (HFD.out _ _ HSD.out.br.rd).mono ?_); rintro e w3 ⟨rfl, hb⟩; have HS3 := Lib.hid (HSD.out.next hb))
          refine hK.out _ _ ?_ (fun hS1 => ?_)
          · (first | exact hS | exact hS.next hb)
          clear hK K hS; have hS := hS1; clear hS1
          (try simp only [rgp])
          refine rgw 4 ⟨some 6, .assign (.tmp 19), 3, _, _, none⟩ hS ?_
          refine wpAnyH_done (by kernel_rfl) ?_ _
          clear hS
          obtain ⟨z0, z1, z2, z3, z4, z5⟩ := HS3.out.br.d0.six
          have HF3 := Lib.hid (HLB.out _ HS3.out.br.below)
          have y2 := HF3.out.k2
          go_wp2_with (first
            | (refine wpl_load_at rfl (.tmp 30) rfl b2 o2 rfl _ HF3.out.a2 ?_)
            | (go_at_call 95; (with_reducible refine (HDC.out _).mono ?_); rintro e w4 ⟨rfl, hb⟩; have HS4 := Lib.hid (HS3.out.next hb); have HF4 := Lib.hid (HF3.out.next hb); clear hb)
            | (refine wpl_store_newH rfl _ _ rfl rfl w4.heap.size rfl x HXT.out.n rfl rfl ?_; intro w5 HK5 HB5; have HS5 := Lib.hid (HS4.out.next HB5.out); have HF5 := Lib.hid (HF4.out.next HB5.out); obtain ⟨u0, u1, u2, u3, u4, u5⟩ := HS5.out.br.d0.six; have x2 := HF5.out.k2; clear z0 z1 z2 z3 z4 z5 y2)
            | (refine wpl_load_hs (by rfl) (.tmp 48) rfl rfl HK5.out ?_)
            | (refine wpl_put_hd rfl (.tmp 4) (.tmp 53) rfl (w.heap.size + 1) noH noH HS5.out.hr rfl rfl rfl ?_; intro wf HOF HGF))
          refine bodyPost_ret_by (results_row_tmp rfl _ _ (w.heap.size + 1) _ rfl HOF.out.load) rfl ⟨rfl, hbelow_grown HS5.out.br.below HGF.out (by omega) HS5.out.br.below.size⟩
    · rw [show headI d q = (noH, 7) from by unfold headI; rw [hs, if_neg h0, if_neg hdd, if_pos hh]]
      have hi0 : i < 0 := by rw [← hi, AD.find_neg]; exact hh
      clear hs h hg hn hd hdd hi
      go_enter Tryz.func67, Tryz.ntmps67
      go_wp2_with (first
        | (go_at_call 36; (with_reducible refine (HWL.out _).mono ?_); rintro e w1 ⟨rfl, rfl⟩))
      refine wp_region_held_drew (S := (fun W' => DB W' w.heap.size #[.slice a n cap, .int .i64 d.cap, .int .i64 d.ops, .bool false, .bool d.told, .int .i64 d.after])) (by kernel_rfl) HSD.out.br.d0 (fun hS => ?_)
      refine rgw 0 ⟨some 16, .load 28 (.tmp 2), 28, _, _, none⟩ hS ?_ (hy := by intro w hSw; (try dsimp only at hSw); refine exec_load_db (.tmp 2) ?_ ?_ hSw <;> rfl)
      refine rgw 1 ⟨some 17, .move (.tmp 1), 3, _, _, none⟩ hS ?_
      refine rg_one 2 ⟨some 18, .call { callee := .value (.func 36), args := #[.tmp 17], argTypes := #[3] }, 9, _, _, none⟩ (by kernel_rfl) rfl (fun K hK => ?_)
      go_simp
      (go_at_call 36; (with_reducible refine (HWL.out _).mono ?_); rintro e w1 ⟨rfl, rfl⟩)
      refine hK.out _ _ ?_ (fun hS1 => ?_)
      · (first | exact hS | exact hS.next hb)
      clear hK K hS; have hS := hS1; clear hS1
      (try simp only [rgp])
      refine rg_one 3 ⟨some 19, .call { callee := .value (.func 35), args := #[.tmp 16, .tmp 18], argTypes := #[28, 9] }, 3, _, _, none⟩ (by kernel_rfl) rfl (fun K hK => ?_)
      go_simp
      (go_at_call 35; (with_reducible refine (HFD.out _ _ HSD.out.br.rd).mono ?_); rintro e w3 ⟨rfl, hb⟩; have HS3 := Lib.hid (HSD.out.next hb))
      refine hK.out _ _ ?_ (fun hS1 => ?_)
      · (first | exact hS | exact hS.next hb)
      clear hK K hS; have hS := hS1; clear hS1
      (try simp only [rgp])
      refine rgw 4 ⟨some 6, .assign (.tmp 19), 3, _, _, none⟩ hS ?_
      refine wpAnyH_done (by kernel_rfl) ?_ _
      clear hS
      go_wp2_with (first
        | (refine wpl_put_hd rfl (.tmp 4) (.tmp 22) rfl (w.heap.size + 1) noH noH HS3.out.hr rfl rfl rfl ?_; intro wf HOF HGF))
      refine bodyPost_ret_by (results_row_tmp rfl _ _ (w.heap.size + 1) _ rfl HOF.out.load) rfl ⟨rfl, hbelow_grown HS3.out.br.below HGF.out (by omega) HS3.out.br.below.size⟩
end Go.Proofs.YtpoiapfgbbmekaaGreatDoor
namespace Go.Proofs.YtpoiapfgbbmekaaGreatDoor
open Go.RowKit
structure Bc (w : World) (cs : Array Value) (fc : Array Value) (W3 : World) : Prop where
  below : Below w.heap.size w W3
  size : W3.heap.size = w.heap.size + 3
  d0 : DB W3 w.heap.size cs
  f1 : W3.heap[w.heap.size + 1]? = some (.cells fc 38 (0, 0))
  d2 : DB W3 (w.heap.size + 2) dz
theorem Bc.start (w : World) (cs : Array Value) (h : cs.size = 6) (fc : Array Value) :
    Bc w cs fc (((w.alloc (.cells cs 28)).alloc (.cells fc 38)).alloc (.cells dz 28)) := by
  have k0 := heap_alloc_last w (.cells cs 28)
  have s0 := alloc_size w (.cells cs 28)
  have b0 := below_alloc w (.cells cs 28)
  generalize w.alloc (.cells cs 28) = w0 at *
  have k1 := heap_alloc_last w0 (.cells fc 38)
  have s1 := alloc_size w0 (.cells fc 38)
  have b1 := below_alloc w0 (.cells fc 38)
  generalize w0.alloc (.cells fc 38) = w1 at *
  have k2 := heap_alloc_last w1 (.cells dz 28)
  have s2 := alloc_size w1 (.cells dz 28)
  have b2 := below_alloc w1 (.cells dz 28)
  generalize w1.alloc (.cells dz 28) = w2 at *
  rw [s0] at k1
  rw [s1, s0] at k2
  refine ⟨chain (chain b0 b1) b2, by omega, ⟨?_, h⟩, ?_, ⟨k2, rfl⟩⟩
  · rw [b2.block _ (by omega), b1.block _ (by omega)]; exact k0
  · rw [b2.block _ (by omega)]; exact k1
theorem wp_app_file {w : World} {o : Oper} {a : Act} {K : Act → World → Prop} {Q : Exit → Act → World → Prop} (s x : Operand)
    (ho : o.op = .call { callee := .builtin .append, args := #[s, x], argTypes := #[26, 26] })
    (base : Nat) (v : Value) (n : Nat) (es : List (List Value)) (hs : a.eval s = v) (hown : w.ownsRow base 85 4 v n es.flatten)
    (g : Nat) (e : List Value) (hx : a.eval x = .slice (some ⟨g, 0, none⟩) 1 1) (hblk : w.heap[g]? = some (.cells e.toArray 85 (0, 0))) (he : e.length = 4) (h1 : ∀ u ∈ e, u.oneCell' = true) (hn : n ≤ 1000000000000) (hbase : base ≤ w.heap.size)
    (h : ∀ v' w', w'.ownsRow base 85 4 v' (n + 1) (es ++ [e]).flatten → w.grownBy w' v.ownBlock → K (a.put o.dst v') w') : Oper.wp Tryz.prog o a w K Q := by
  obtain ⟨i, hi, hz0, hz1, hz2⟩ := info_parts file_parts
  refine wp_append_own_wide w s x 26 ho base 85 i _ 4 88 Tryz.underlying26 hi hz0 hz1 hz2 rfl (by omega) v n es.flatten hs hown ⟨g, 0, none⟩ 1 1 e hx (by rw [he]) ?_ h1 (by unfold maxLen; omega) (by omega) hbase ?_
  · intro j u hj
    have hc : w.cell? ⟨g, j, none⟩ = some u := by rw [cell_of_row _ g j _ _ _ hblk]; simpa using hj
    by_cases h0 : j = 0
    · subst h0; simpa [Addr.add] using hc
    · simpa [Addr.add, h0] using hc
  · intro v' w' h1 h2 _
    exact h v' w' (by rw [List.flatten_append, List.flatten_singleton]; exact h1) h2
theorem own_bools (w : World) (k : Nat) (hk : k ≤ maxLen) (e : TypeId) : (w.alloc (.cells (Array.replicate k (Value.bool false)) e)).ownsRow w.heap.size e 1 (.slice (some ⟨w.heap.size, 0, none⟩) k k) k ((List.replicate k false).map .bool) :=
  ⟨by simp, .inr ⟨w.heap.size, k, _, rfl, Nat.le_refl _, heap_alloc_last w _, Nat.le_refl _, hk, by simp, by simp⟩⟩
set_option maxRecDepth 8000 in
set_option maxHeartbeats 4000000 in
theorem rcrash_any (F : Nat → Bool) (vd : Value) (d : AD) (vk : Value) (len : Nat) (kb : List Int) (torn cut : Int) (w : World) (hF : Foot F w.heap.size) (h : RD (mask F w) vd d) (hk : RI .u8 (mask F w) vk len kb) (hkb : Bytes kb) (ht63 : I63 torn) (hc63 : I63 cut)
    (hn1 : d.L.length ≤ 1000000) (hu : usedN d.L ≤ 1000000000) :
    Calls Tryz.prog 18 #[vd, .agg #[vk, .int .i64 torn, .int .i64 cut]] w fun e w' => ∃ v', e = .returned v' ∧ RD (mask F w') v' (d.crashR kb torn cut) ∧ Below w.heap.size w w' := by
  obtain ⟨a, n, cap, rfl, hn, hc1, hc2⟩ := h.agg
  obtain ⟨ak, ck, rfl, hkl, _⟩ := id hk
  have hx := Bc.start w #[.slice a n cap, .int .i64 d.cap, .int .i64 d.ops, .bool d.down, .bool d.told, .int .i64 d.after] rfl #[.slice ak len ck, .int .i64 torn, .int .i64 cut]
  rw [show dz = #[.slice none 0 0, .int .i64 0, .int .i64 0, .bool false, .bool false, .int .i64 0] from rfl] at hx
  obtain ⟨W3, hW3⟩ : ∃ W3, ((w.alloc (.cells #[.slice a n cap, .int .i64 d.cap, .int .i64 d.ops, .bool d.down, .bool d.told, .int .i64 d.after] 28)).alloc (.cells #[.slice ak len ck, .int .i64 torn, .int .i64 cut] 38)).alloc (.cells #[.slice none 0 0, .int .i64 0, .int .i64 0, .bool false, .bool false, .int .i64 0] 28) = W3 := ⟨_, rfl⟩
  rw [hW3] at hx
  have hext : Ext F w W3 (plusF F w.heap.size W3.heap.size) := plusF_ext hx.below
  have HFL := Lib.hid ((h.kin hext.kin).fls)
  have HRK := Lib.hid (hk.kin hext.kin)
  have HFT := Lib.hid (plusF_foot hF hx.below.size)
  have HX := Lib.hid hx
  have HN := Lib.hid hn
  have HU := Lib.hid hu
  have HKB := Lib.hid hkb
  have HT63 := Lib.hid ht63
  have HC63 := Lib.hid hc63
  have HZ := Lib.hid z64_cells
  obtain ⟨F1, hF1⟩ : ∃ F1, plusF F w.heap.size W3.heap.size = F1 := ⟨_, rfl⟩
  have HIN2 : Hid (F1 (w.heap.size + 2) = true) := Lib.hid (by rw [← hF1]; exact plusF_in F _ _ _ (by omega) (by rw [hx.size]; omega))
  have HM1 : Hid (∀ k, F k = true → F1 k = true) := Lib.hid fun k h1 => by rw [← hF1]; exact plusF_mono F _ _ k h1
  rw [hF1] at HFL HRK HFT
  have hnn : n ≤ 1000000 := by omega
  obtain ⟨L, hL⟩ : ∃ L, d.L = L := ⟨_, rfl⟩
  rw [hL] at HFL HN HU
  have HLE := Lib.hid hL
  have hu1 := hu
  rw [hL] at hu1
  clear hF h hk hkb hx hn hu hext hF1 ht63 hc63 hL hn1
  go_enter Tryz.func18, Tryz.ntmps18
  go_wp2
  go_loopw [5, 6, 7] (fun iv lv kv wr => ∃ (k : Nat) (es : List (List Value)), kv = .int .i64 k ∧ k ≤ n ∧ iv = .int .i64 ((crL kb torn cut L k).2 : Int) ∧ Hid (wr.ownsRow W3.heap.size 85 4 lv k es.flatten) ∧ Hid (RFs (tmask F1 W3.heap.size 85 wr) es (crL kb torn cut L k).1) ∧ Hid (Below W3.heap.size W3 wr)) (fun _ _ kv _ => n - (intOf kv).toNat)
  case atStart => exact ⟨0, [], rfl, by omega, rfl, Lib.hid (World.ownsRow_nil _ _ _ _), Lib.hid (RFs.nil _), Lib.hid (Below.refl _ _)⟩
  case round =>
    obtain ⟨k, es, rfl, hkn, rfl, HOL, HR, HB⟩ := hrel
    obtain ⟨wo, hwo⟩ : ∃ wo, wo = wr := ⟨_, rfl⟩
    subst hwo
    have hcw := (HX.out.d0.below HB.out (by rw [HX.out.size]; omega)).six
    obtain ⟨q0, q1, q2, q3, q4, q5⟩ := hcw
    by_cases hlt : (k : Int) < (n : Int)
    · obtain ⟨f, hf⟩ := row_some (L := L) (i := k) (by have := HN.out; omega)
      obtain ⟨b, off, a1, c1, a2, c2, a3, c3, rfl, k0, k1, k2, k3, f1, f2, f3⟩ := HFL.out.form4 k f hf
      have hkk : Kin (mask F1 W3) wo := (unmask F1 W3).trans (Kin.below HB.out)
      replace k0 := hkk _ _ k0
      replace k1 := hkk _ _ k1
      replace k2 := hkk _ _ k2
      replace k3 := hkk _ _ k3
      have HF4 := Lib.hid (And.intro f1 (And.intro f2 f3))
      have HCK := Lib.hid (crL_step kb torn cut L k f hf)
      have hfn : f.n ≤ 1000000000 := by have h1 := usedN_take L k f hf; have h2 := usedN_le L (k + 1); omega
      have hcnt := crL_count kb torn cut L k
      have hcn1 := usedN_le L k
      obtain ⟨i0, hi0⟩ : ∃ i0, (crL kb torn cut L k).2 = i0 := ⟨_, rfl⟩
      rw [hi0] at hcnt HCK ⊢
      have hi0b : i0 ≤ 1000000000 := by omega
      obtain ⟨wq, hwq⟩ : ∃ wq, wo.alloc (.cells #[.string f.name, .slice a1 f.n c1, .slice a2 f.n c2, .slice a3 f.n c3] 85) = wq := ⟨_, rfl⟩
      have HBQ : Hid (Below wo.heap.size wo wq) := Lib.hid (by rw [← hwq]; exact below_alloc wo _)
      have hqq : wq.heap[wo.heap.size]? = some (.cells #[.string f.name, .slice a1 f.n c1, .slice a2 f.n c2, .slice a3 f.n c3] 85) := by rw [← hwq]; exact heap_alloc_last wo _
      have HCL : Hid (∀ wx, Below wq.heap.size wq wx → wx.cell? ⟨wo.heap.size, 0, none⟩ = some (.string f.name) ∧ wx.cell? ⟨wo.heap.size, 1, none⟩ = some (.slice a1 f.n c1) ∧ wx.cell? ⟨wo.heap.size, 2, none⟩ = some (.slice a2 f.n c2) ∧ wx.cell? ⟨wo.heap.size, 3, none⟩ = some (.slice a3 f.n c3) ∧ wx.cell? ⟨w.heap.size + 1, 0, none⟩ = some (.slice ak len ck) ∧ wx.cell? ⟨w.heap.size + 1, 1, none⟩ = some (.int .i64 torn) ∧ wx.cell? ⟨w.heap.size + 1, 2, none⟩ = some (.int .i64 cut)) := Lib.hid fun wx hb => by
        have hq2 : wx.heap[wo.heap.size]? = some (.cells #[.string f.name, .slice a1 f.n c1, .slice a2 f.n c2, .slice a3 f.n c3] 85) := by rw [hb.block _ (Array.getElem?_eq_some_iff.1 hqq).1]; exact hqq
        have hc := fun q => cell_of_row wx wo.heap.size q _ _ _ hq2
        have hcr : wx.heap[w.heap.size + 1]? = _ := (chain HB.out (chain HBQ.out hb)).block (w.heap.size + 1) (by rw [HX.out.size]; omega) |>.trans HX.out.f1
        have hc3 := fun q => cell_of_row wx (w.heap.size + 1) q _ _ _ hcr
        exact ⟨hc 0, hc 1, hc 2, hc 3, hc3 0, hc3 1, hc3 2⟩
      have HQQ := Lib.hid hqq
      clear hf f1 f2 f3 hkk hqq hcn1
      go_wp2
      go_loopw [5, 9, 10] (fun iv sv_ jv wr => ∃ j : Nat, jv = .int .i64 j ∧ j ≤ f.n ∧ iv = .int .i64 ((crS kb torn cut f i0 j).2 : Int) ∧ Hid (wr.ownsRow wq.heap.size 63 64 sv_ j (il .u8 (crS kb torn cut f i0 j).1)) ∧ Hid (Below wq.heap.size wq wr)) (fun _ _ jv _ => f.n - (intOf jv).toNat)
      case atStart => exact ⟨0, rfl, by omega, rfl, Lib.hid (World.ownsRow_nil _ _ _ _), Lib.hid (Below.refl _ _)⟩
      case round =>
        obtain ⟨j, rfl, hjn, rfl, HO, HBI⟩ := hrel
        obtain ⟨p0, p1, p2, p3, t0, t1, t2⟩ := HCL.out wr HBI.out
        by_cases hlj : (j : Int) < (f.n : Int)
        · have hj : j < f.n := by omega
          have hkin : Kin (mask F1 W3) wr := (unmask F1 W3).trans (Kin.below (chain HB.out (chain HBQ.out HBI.out)))
          obtain ⟨bA, oA, eA, hA1⟩ := (HF4.out.1.kin hkin).at_ j hj
          obtain ⟨bS, oS, eS, hA2⟩ := (HF4.out.2.1.kin hkin).at_ j hj
          obtain ⟨bW, oW, eW, hbw⟩ := (HF4.out.2.2.kin hkin).at_ j hj
          obtain ⟨z1, hz1⟩ : ∃ z1, chunk f.las j = z1 := ⟨_, rfl⟩
          obtain ⟨z2, hz2⟩ : ∃ z2, chunk f.seen j = z2 := ⟨_, rfl⟩
          obtain ⟨y, hy⟩ : ∃ y, f.ws.getD j false = y := ⟨_, rfl⟩
          obtain ⟨ic, hic⟩ : ∃ ic, (crS kb torn cut f i0 j).2 = ic := ⟨_, rfl⟩
          have HST : Hid ((crS kb torn cut f i0 (j + 1)).1 = (crS kb torn cut f i0 j).1 ++ secC kb torn cut z1 z2 y ic ∧ (crS kb torn cut f i0 (j + 1)).2 = if y = true then ic + 1 else ic) := Lib.hid (by rw [← hz1, ← hz2, ← hy, ← hic]; exact ⟨rfl, rfl⟩)
          have hicb : ic ≤ 2000000000 := by have h1 := crS_count kb torn cut f i0 j; omega
          rw [show (f.las.drop (j * 64)).take 64 = z1 from hz1] at hA1
          rw [show (f.seen.drop (j * 64)).take 64 = z2 from hz2] at hA2
          rw [hy] at hbw
          rw [hic]
          have HA1 := Lib.hid hA1
          have HA2 := Lib.hid hA2
          have HCL2 : Hid (∀ wx, Below wr.heap.size wr wx → At wx bS (oS + j * 64) z2 ∧ wx.cell? ⟨bW, oW + j, none⟩ = some (.bool y)) := Lib.hid fun wx hb => ⟨hA2.keep hb, cell_keep hb hbw⟩
          have hwi1 : IntKind.i64.wrap ((ic : Int) + 1) = (ic : Int) + 1 := IntWalk.i64_in _ (by omega)
          rw [eA] at p1 HCL
          rw [eS] at p2 HCL
          rw [eW] at p3 HCL
          clear hA1 hA2 hz1 hz2 hy hic hkin hj eA eS eW
          cases y with
          | false =>
            have HZL : Hid (z1.length = 64) := Lib.hid HA1.out.1
            have HSC : Hid (secC kb torn cut z1 z2 false ic = z1) := Lib.hid (by unfold secC; rw [if_neg (by simp)])
            rw [HSC.out] at HST
            go_wp2_with (first
              | (refine wpl_load_at rfl _ rfl bA (oA + j * 64) rfl z1 HA1.out ?_)
              | (rw [← HZ.out]; refine wpl_store_new rfl _ _ rfl rfl wr.heap.size rfl z1 HA1.out.1 rfl rfl wq HBI ?_; intro w6 HK6 HBQ6 HBI6; obtain ⟨p0, p1, p2, p3, t0, t1, t2⟩ := HCL.out w6 HBQ6.out; obtain ⟨hs6, hw6⟩ := HCL2.out w6 HBI6.out; have HA6 := Lib.hid hs6; clear hs6)
              | (refine wpl_load_sec (by rfl) _ rfl wr.heap.size rfl (z1) HK6.out ?_)
              | (refine wpl_build_sec rfl (.tmp 66) rfl (z1) HZL.out rfl ?_)
              | (at_builtin; refine wpl_app_fs rfl (.tmp 65) (.tmp 67) rfl wq.heap.size u9 j _ rfl (Lib.hid (own_keep HO.out (chain HBI6.out (below_alloc w6 (.cells (sv (z1)) 63))))) _ 1 (z1) rfl (Lib.hid (FS.blk (Blk.new w6 (z1) HZL.out))) (by omega) wq.heap.size wq (Lib.hid (chain HBQ6.out (below_alloc w6 (.cells (sv (z1)) 63)))) (Nat.le_refl _) (by rw [alloc_size]; have := HBQ6.out.size; omega) ?_; intro v7 w7 HO7 HB7 _))
            go_roundw
            case rel => exact ⟨j + 1, by go_num, by omega, by rw [HST.out.2]; rfl, Lib.hid (by rw [HST.out.1]; exact HO7.out), HB7⟩
            case measure => simp [intOf]; omega
          | true =>
            have hz1l : z1.length = 64 := HA1.out.1
            have hz2l : z2.length = 64 := HA2.out.1
            by_cases htt : (ic : Int) = torn
            · obtain ⟨zm, hzm⟩ : ∃ zm, mixN z1 z2 (cutN cut) = zm := ⟨_, rfl⟩
              have HZL : Hid (zm.length = 64) := Lib.hid (by rw [← hzm]; exact mixN_length _ _ _ hz1l hz2l (by unfold cutN; omega))
              have HSC : Hid (secC kb torn cut z1 z2 true ic = zm) := Lib.hid (by unfold secC; rw [if_pos rfl, if_pos htt, hzm])
              have HMX := Lib.hid fun W => rmix_any z1 z2 cut hz1l hz2l HC63.out W
              rw [hzm] at HMX
              rw [HSC.out] at HST
              clear hzm hz1l hz2l
              go_wp2_with (first
                | (refine wpl_load_at rfl _ rfl bA (oA + j * 64) rfl z1 HA1.out ?_)
                | (rw [← HZ.out]; refine wpl_store_new rfl _ _ rfl rfl wr.heap.size rfl z1 HA1.out.1 rfl rfl wq HBI ?_; intro w6 HK6 HBQ6 HBI6; obtain ⟨p0, p1, p2, p3, t0, t1, t2⟩ := HCL.out w6 HBQ6.out; obtain ⟨hs6, hw6⟩ := HCL2.out w6 HBI6.out; have HA6 := Lib.hid hs6; clear hs6))
              have HK6d := Lib.hid (HK6.out.keep (Below.refl w6.heap.size w6).drew)
              refine wp_region_held_drew (S := (fun W' => Below wr.heap.size wr W')) (by kernel_rfl) (HBI6.out.drew) (fun hS => ?_)
              refine rgw 1 ⟨some 46, .fieldAddr 85 (.tmp 8) 2, 0, _, _, none⟩ hS ?_
              refine rgw 2 ⟨some 47, .load 35 (.tmp 46), 35, _, _, none⟩ hS ?_ (hy := by intro w hSw; (try dsimp only at hSw); obtain ⟨_, _, z5, _, _, _, z6⟩ := HCL.out w (chain HBI.out hSw); go_simp; try with_reducible rfl)
              refine rgw 3 ⟨some 48, .move (.tmp 10), 3, _, _, none⟩ hS ?_
              refine rgw 4 ⟨some 49, .indexAddr 35 (.tmp 47) (.tmp 48), 0, _, _, none⟩ hS ?_
              refine rgw 5 ⟨some 50, .load 63 (.tmp 49), 63, _, _, none⟩ hS ?_ (hy := by intro w hSw; (try dsimp only at hSw); refine exec_load_at (.tmp 49) ?_ ?_ (HCL2.out _ hSw).1 <;> rfl)
              refine rgw 6 ⟨some 51, .fieldAddr 38 (.tmp 3) 2, 0, _, _, none⟩ hS ?_
              refine rgw 7 ⟨some 52, .load 3 (.tmp 51), 3, _, _, none⟩ hS ?_ (hy := by intro w hSw; (try dsimp only at hSw); obtain ⟨_, _, z5, _, _, _, z6⟩ := HCL.out w (chain HBI.out hSw); go_simp; try with_reducible rfl)
              refine rg_one 0 ⟨some 45, .load 63 (.tmp 11), 63, _, _, none⟩ (by kernel_rfl) rfl (fun K hK => ?_)
              rw [if_pos (by rfl)]; refine wp_load_row 63 (.tmp 11) rfl wr.heap.size rfl _ (sv z1) (0, 0) _ HK6d.out.1 Tryz.underlying63 rfl (sv_info _ HK6d.out.2) ?_
              refine hK.out _ _ ?_ (fun hS1 => ?_)
              · (first | exact hS | exact chain hS hb | exact hN)
              clear hK K hS; have hS := hS1; clear hS1
              (try simp only [rgp])
              refine rg_one 8 ⟨some 53, .call { callee := .value (.func 57), args := #[.tmp 45, .tmp 50, .tmp 52], argTypes := #[63, 63, 3] }, 63, _, _, none⟩ (by kernel_rfl) rfl (fun K hK => ?_)
              go_simp
              (go_at_call 57; (with_reducible refine (HMX.out _).mono ?_); rintro e w8 ⟨rfl, hb⟩; have HK8 := Lib.hid (HK6d.out.keep hb))
              refine hK.out _ _ ?_ (fun hS1 => ?_)
              · (first | exact hS | exact chain hS hb | exact hN)
              clear hK K hS; have hS := hS1; clear hS1
              (try simp only [rgp])
              refine rg_one 9 ⟨none, .store 63 (.tmp 11) (.tmp 53), 0, _, _, none⟩ (by kernel_rfl) rfl (fun K hK => ?_)
              rw [if_pos (by rfl)]; refine wp_store_row 63 (.tmp 11) (.tmp 53) rfl wr.heap.size (sv zm) rfl rfl _ (sv z1) HK8.out.1 (sv_info _ HZL.out) (by rw [sv_size, sv_size, HK8.out.2, HZL.out]) (sv_one _) ?_; have hN := below_row hS (Nat.le_refl _) (sv zm); have HK9 := Lib.hid (HK8.out.row HZL.out)
              refine hK.out _ _ ?_ (fun hS1 => ?_)
              · (first | exact hS | exact chain hS hb | exact hN)
              clear hK K hS; have hS := hS1; clear hS1
              (try simp only [Act.put])
              refine wpAnyH_done (by kernel_rfl) ?_ _
              have HBI9 := Lib.hid hS
              have HBQ9 := Lib.hid (chain HBI.out hS)
              obtain ⟨w9, hw9⟩ : ∃ w9, w8.setRow wr.heap.size (sv zm) = w9 := ⟨_, rfl⟩
              rw [hw9] at HK9 HBI9 HBQ9 ⊢
              clear hw9
              go_wp2_with (first
                | (refine wpl_load_sec (by rfl) _ rfl wr.heap.size rfl (zm) HK9.out ?_)
                | (refine wpl_build_sec rfl (.tmp 66) rfl (zm) HZL.out rfl ?_)
                | (at_builtin; refine wpl_app_fs rfl (.tmp 65) (.tmp 67) rfl wq.heap.size u9 j _ rfl (Lib.hid (own_keep HO.out (chain HBI9.out (below_alloc w9 (.cells (sv (zm)) 63))))) _ 1 (zm) rfl (Lib.hid (FS.blk (Blk.new w9 (zm) HZL.out))) (by omega) wq.heap.size wq (Lib.hid (chain HBQ9.out (below_alloc w9 (.cells (sv (zm)) 63)))) (Nat.le_refl _) (by rw [alloc_size]; have := HBQ9.out.size; omega) ?_; intro v7 w7 HO7 HB7 _))
              go_roundw
              case rel => exact ⟨j + 1, by go_num, by omega, by rw [HST.out.2, ← htt]; rfl, Lib.hid (by rw [HST.out.1]; exact HO7.out), HB7⟩
              case measure => simp [intOf]; omega
            · have HRW := Lib.hid (HRK.out.kin ((unmask F1 W3).trans (Kin.below (chain HB.out (chain HBQ.out HBI.out)))))
              cases hbit : bitI kb (ic : Int) with
              | true =>
                have HZL : Hid (z2.length = 64) := Lib.hid hz2l
                have HSC : Hid (secC kb torn cut z1 z2 true ic = z2) := Lib.hid (by unfold secC; rw [if_pos rfl, if_neg htt, if_pos hbit])
                have HBT := Lib.hid hbit
                rw [HSC.out] at HST
                clear hz1l hz2l hbit
                go_wp2_with (first
                  | (refine wpl_load_at rfl _ rfl bA (oA + j * 64) rfl z1 HA1.out ?_)
                  | (rw [← HZ.out]; refine wpl_store_new rfl _ _ rfl rfl wr.heap.size rfl z1 HA1.out.1 rfl rfl wq HBI ?_; intro w6 HK6 HBQ6 HBI6; obtain ⟨p0, p1, p2, p3, t0, t1, t2⟩ := HCL.out w6 HBQ6.out; obtain ⟨hs6, hw6⟩ := HCL2.out w6 HBI6.out; have HA6 := Lib.hid hs6; clear hs6)
                  | (go_at_call 58; (with_reducible refine (rbit_ri _ len kb ic w6 (HRW.out.keep HBI6.out) HKB.out (by unfold I63; omega)).mono ?_); rintro e w8 ⟨rfl, hb⟩; rw [HBT.out]; have HK8 := Lib.hid (HK6.out.keep hb); have HBI8 := Lib.hid (chain HBI6.out hb); have HBQ8 := Lib.hid (chain HBQ6.out hb); obtain ⟨p0, p1, p2, p3, t0, t1, t2⟩ := HCL.out w8 HBQ8.out; obtain ⟨hs8, hw8⟩ := HCL2.out w8 HBI8.out; have HA8 := Lib.hid hs8; clear hs8 hb)
                  | (refine wpl_load_at rfl _ rfl bS (oS + j * 64) rfl z2 HA8.out ?_)
                  | (refine wpList_store_row rfl 63 _ _ rfl wr.heap.size (sv z2) rfl rfl _ (sv z1) HK8.out.1 (sv_info _ HZL.out) (by rw [sv_size, sv_size, HK8.out.2, HZL.out]) (sv_one _) ?_; have HK9 := Lib.hid (HK8.out.row HZL.out); have HBI9 := Lib.hid (below_row HBI8.out (Nat.le_refl _) (sv z2)); have HBQ9 := Lib.hid (chain HBI.out HBI9.out); generalize hw9 : w8.setRow wr.heap.size (sv z2) = w9; rw [hw9] at HK9 HBI9 HBQ9)
                  | (refine wpl_load_sec (by rfl) _ rfl wr.heap.size rfl (z2) HK9.out ?_)
                  | (refine wpl_build_sec rfl (.tmp 66) rfl (z2) HZL.out rfl ?_)
                  | (at_builtin; refine wpl_app_fs rfl (.tmp 65) (.tmp 67) rfl wq.heap.size u9 j _ rfl (Lib.hid (own_keep HO.out (chain HBI9.out (below_alloc w9 (.cells (sv (z2)) 63))))) _ 1 (z2) rfl (Lib.hid (FS.blk (Blk.new w9 (z2) HZL.out))) (by omega) wq.heap.size wq (Lib.hid (chain HBQ9.out (below_alloc w9 (.cells (sv (z2)) 63)))) (Nat.le_refl _) (by rw [alloc_size]; have := HBQ9.out.size; omega) ?_; intro v7 w7 HO7 HB7 _))
                go_roundw
                case rel => exact ⟨j + 1, by go_num, by omega, by rw [HST.out.2]; rfl, Lib.hid (by rw [HST.out.1]; exact HO7.out), HB7⟩
                case measure => simp [intOf]; omega
              | false =>
                have HZL : Hid (z1.length = 64) := Lib.hid hz1l
                have HSC : Hid (secC kb torn cut z1 z2 true ic = z1) := Lib.hid (by unfold secC; rw [if_pos rfl, if_neg htt, if_neg (by rw [hbit]; simp)])
                have HBT := Lib.hid hbit
                rw [HSC.out] at HST
                clear hz1l hz2l hbit
                go_wp2_with (first
                  | (refine wpl_load_at rfl _ rfl bA (oA + j * 64) rfl z1 HA1.out ?_)
                  | (rw [← HZ.out]; refine wpl_store_new rfl _ _ rfl rfl wr.heap.size rfl z1 HA1.out.1 rfl rfl wq HBI ?_; intro w6 HK6 HBQ6 HBI6; obtain ⟨p0, p1, p2, p3, t0, t1, t2⟩ := HCL.out w6 HBQ6.out; obtain ⟨hs6, hw6⟩ := HCL2.out w6 HBI6.out; have HA6 := Lib.hid hs6; clear hs6)
                  | (go_at_call 58; (with_reducible refine (rbit_ri _ len kb ic w6 (HRW.out.keep HBI6.out) HKB.out (by unfold I63; omega)).mono ?_); rintro e w8 ⟨rfl, hb⟩; rw [HBT.out]; have HK8 := Lib.hid (HK6.out.keep hb); have HBI8 := Lib.hid (chain HBI6.out hb); have HBQ8 := Lib.hid (chain HBQ6.out hb); obtain ⟨p0, p1, p2, p3, t0, t1, t2⟩ := HCL.out w8 HBQ8.out; obtain ⟨hs8, hw8⟩ := HCL2.out w8 HBI8.out; have HA8 := Lib.hid hs8; clear hs8 hb)
                  | (refine wpl_load_sec (by rfl) _ rfl wr.heap.size rfl (z1) HK8.out ?_)
                  | (refine wpl_build_sec rfl (.tmp 66) rfl (z1) HZL.out rfl ?_)
                  | (at_builtin; refine wpl_app_fs rfl (.tmp 65) (.tmp 67) rfl wq.heap.size u9 j _ rfl (Lib.hid (own_keep HO.out (chain HBI8.out (below_alloc w8 (.cells (sv (z1)) 63))))) _ 1 (z1) rfl (Lib.hid (FS.blk (Blk.new w8 (z1) HZL.out))) (by omega) wq.heap.size wq (Lib.hid (chain HBQ8.out (below_alloc w8 (.cells (sv (z1)) 63)))) (Nat.le_refl _) (by rw [alloc_size]; have := HBQ8.out.size; omega) ?_; intro v7 w7 HO7 HB7 _))
                go_roundw
                case rel => exact ⟨j + 1, by go_num, by omega, by rw [HST.out.2]; rfl, Lib.hid (by rw [HST.out.1]; exact HO7.out), HB7⟩
                case measure => simp [intOf]; omega
        · have hq : j = f.n := by omega
          have hmk := make_bools_run f.n (by omega)
          obtain ⟨ns, hns⟩ : ∃ ns, (crS kb torn cut f i0 f.n).1 = ns := ⟨_, rfl⟩
          obtain ⟨ic, hic⟩ : ∃ ic, (crS kb torn cut f i0 f.n).2 = ic := ⟨_, rfl⟩
          rw [hq, hns] at HO
          rw [hq, hic]
          have HCF : Hid (crFile kb torn cut f i0 = ⟨f.name, f.n, ns, ns, List.replicate f.n false⟩) := Lib.hid (by unfold crFile; rw [hns])
          rw [hic, HCF.out] at HCK
          obtain ⟨a9, c9, rfl⟩ := own_slice HO.out
          have hlj2 : ¬ (f.n : Int) < (f.n : Int) := by omega
          clear hlj hns hic hq
          go_wp2
          have HW9 := Lib.hid (chain HBQ.out HBI.out)
          refine wp_region_held_drew (S := (fun W' => W'.cell? ⟨wo.heap.size, 0, none⟩ = some (.string f.name))) (by kernel_rfl) p0 (fun hS => ?_)
          refine rgw 0 ⟨some 69, .move (.tmp 6), 26, _, _, none⟩ hS ?_
          refine rgw 1 ⟨some 70, .fieldAddr 85 (.tmp 8) 0, 0, _, _, none⟩ hS ?_
          refine rgw 2 ⟨some 71, .load 9 (.tmp 70), 9, _, _, none⟩ hS ?_ (hy := by intro w hSw; (try dsimp only at hSw); have z0 := hSw; go_simp; try with_reducible rfl)
          refine rgw 3 ⟨some 72, .move (.tmp 9), 35, _, _, none⟩ hS ?_
          refine rgw 4 ⟨some 73, .move (.tmp 9), 35, _, _, none⟩ hS ?_
          refine rgw 5 ⟨some 74, .move (.tmp 9), 35, _, _, none⟩ hS ?_
          refine rgw 6 ⟨some 75, .call { callee := .builtin Builtin.len, args := #[.tmp 74], argTypes := #[35] }, 3, _, _, none⟩ hS ?_
          refine rg_one 7 ⟨some 76, .makeSlice 83 (.tmp 75) (.tmp 75), 83, _, _, none⟩ (by kernel_rfl) rfl (fun K hK => ?_)
          go_simp
          (have hb : Below wr.drew.heap.size wr.drew (wr.alloc (.cells (Array.replicate f.n (Value.bool false)) 4)).drew := below_drew_alloc wr (.cells (Array.replicate f.n (Value.bool false)) 4))
          refine hK.out _ _ ?_ (fun hS1 => ?_)
          · (first | exact hS | exact cell_keep hb hS | exact hN)
          clear hK K hS; have hS := hS1; clear hS1
          (try simp only [rgp])
          refine rgw 8 ⟨some 77, .build 85 #[(0, .tmp 71), (1, .tmp 72), (2, .tmp 73), (3, .tmp 76)], 85, _, _, none⟩ hS ?_
          refine rg_one 9 ⟨some 78, .buildSlice 26 1 #[(0, .tmp 77)], 26, _, _, none⟩ (by kernel_rfl) rfl (fun K hK => ?_)
          go_simp
          (have hb : Below (wr.alloc (.cells (Array.replicate f.n (Value.bool false)) 4)).drew.heap.size (wr.alloc (.cells (Array.replicate f.n (Value.bool false)) 4)).drew ((wr.alloc (.cells (Array.replicate f.n (Value.bool false)) 4)).alloc (.cells #[.string f.name, .slice a9 f.n c9, .slice a9 f.n c9, .slice (some ⟨wr.heap.size, 0, none⟩) f.n f.n] 85)).drew := below_drew_alloc (wr.alloc (.cells (Array.replicate f.n (Value.bool false)) 4)) (.cells #[.string f.name, .slice a9 f.n c9, .slice a9 f.n c9, .slice (some ⟨wr.heap.size, 0, none⟩) f.n f.n] 85); have HWA : Hid (Below wo.heap.size wo ((wr.alloc (.cells (Array.replicate f.n (Value.bool false)) 4)).alloc (.cells #[.string f.name, .slice a9 f.n c9, .slice a9 f.n c9, .slice (some ⟨wr.heap.size, 0, none⟩) f.n f.n] 85)).drew) := Lib.hid (chain HW9.out (chain (below_alloc wr (.cells (Array.replicate f.n (Value.bool false)) 4)) (below_alloc (wr.alloc (.cells (Array.replicate f.n (Value.bool false)) 4)) (.cells #[.string f.name, .slice a9 f.n c9, .slice a9 f.n c9, .slice (some ⟨wr.heap.size, 0, none⟩) f.n f.n] 85)).drew)); have HOA := Lib.hid (own_keep HOL.out HWA.out))
          refine hK.out _ _ ?_ (fun hS1 => ?_)
          · (first | exact hS | exact cell_keep hb hS | exact hN)
          clear hK K hS; have hS := hS1; clear hS1
          (try simp only [rgp])
          refine rg_one 10 ⟨some 79, .call { callee := .builtin Builtin.append, args := #[.tmp 69, .tmp 78], argTypes := #[26, 26] }, 26, _, _, none⟩ (by kernel_rfl) rfl (fun K hK => ?_)
          rw [if_pos (by rfl)]; refine wp_app_file (.tmp 69) (.tmp 78) rfl W3.heap.size u6 k es rfl HOA.out (wr.heap.size + 1) [.string f.name, .slice a9 f.n c9, .slice a9 f.n c9, .slice (some ⟨wr.heap.size, 0, none⟩) f.n f.n] rfl (by have h := heap_alloc_last (wr.alloc (.cells (Array.replicate f.n (Value.bool false)) 4)) (.cells #[.string f.name, .slice a9 f.n c9, .slice a9 f.n c9, .slice (some ⟨wr.heap.size, 0, none⟩) f.n f.n] 85); rw [alloc_size] at h; exact h) rfl (by simp [Value.oneCell']) (by omega) (Nat.le_trans HB.out.size HWA.out.size) ?_; intro v10 w10 ho10 hg10; have hN : w10.cell? ⟨wo.heap.size, 0, none⟩ = some (.string f.name) := (World.cell?_of_block (hg10.block wo.heap.size (World.block_lt_of_cell? _ _ hS) (fun e => by have := (HOL.out.lt _ e.symm).2; omega))).trans hS
          refine hK.out _ _ ?_ (fun hS1 => ?_)
          · (first | exact hS | exact cell_keep hb hS | exact hN)
          clear hK K hS; have hS := hS1; clear hS1
          (try simp only [rgp])
          refine rgw 11 ⟨some 6, .assign (.tmp 79), 26, _, _, none⟩ hS ?_
          refine wpAnyH_done (by kernel_rfl) ?_ _
          have hkA : Kin (tmask F1 W3.heap.size 85 wo) (tmask F1 W3.heap.size 85 w10) := (tmask_below HWA.out).trans (tmask_grown HOA.out (Nat.le_refl _) hg10)
          have hbBA : Below (wr.alloc (.cells (Array.replicate f.n (Value.bool false)) 4)).heap.size (wr.alloc (.cells (Array.replicate f.n (Value.bool false)) 4)) ((wr.alloc (.cells (Array.replicate f.n (Value.bool false)) 4)).alloc (.cells #[.string f.name, .slice a9 f.n c9, .slice a9 f.n c9, .slice (some ⟨wr.heap.size, 0, none⟩) f.n f.n] 85)).drew := (below_alloc (wr.alloc (.cells (Array.replicate f.n (Value.bool false)) 4)) (.cells #[.string f.name, .slice a9 f.n c9, .slice a9 f.n c9, .slice (some ⟨wr.heap.size, 0, none⟩) f.n f.n] 85)).drew
          have hkB : Kin (tmask F1 W3.heap.size 85 (wr.alloc (.cells (Array.replicate f.n (Value.bool false)) 4))) (tmask F1 W3.heap.size 85 w10) := (tmask_below hbBA).trans (tmask_grown HOA.out (Nat.le_refl _) hg10)
          have hkI : Kin (tmask F1 W3.heap.size 85 wr) (tmask F1 W3.heap.size 85 w10) := (tmask_below (below_alloc wr (.cells (Array.replicate f.n (Value.bool false)) 4))).trans hkB
          have hft : Foot F1 wq.heap.size := HFT.out.mono (chain HB.out HBQ.out).size
          have hfs := (FS.own (own_tmask (T := 85) (B := W3.heap.size) hft (by decide) HO.out)).kin hkI
          have hbs : BS (tmask F1 W3.heap.size 85 w10) (.slice (some ⟨wr.heap.size, 0, none⟩) f.n f.n) f.n (List.replicate f.n false) := (CS.own (own_tmask (T := 85) (B := W3.heap.size) (hft.mono HBI.out.size) (by decide) (own_bools wr f.n (by unfold maxLen; omega) 4))).kin hkB
          have HRN := Lib.hid (RFs.snoc (HR.out.kin hkA) (show RF (tmask F1 W3.heap.size 85 w10) [.string f.name, .slice a9 f.n c9, .slice a9 f.n c9, .slice (some ⟨wr.heap.size, 0, none⟩) f.n f.n] ⟨f.name, f.n, ns, ns, List.replicate f.n false⟩ from ⟨_, _, _, rfl, hfs, hfs, hbs⟩))
          have HBN : Hid (Below W3.heap.size W3 w10) := Lib.hid ((chain HB.out HWA.out).grown hg10 (Nat.le_trans HB.out.size HWA.out.size) (fun q hq => (HOL.out.lt q hq).1))
          have HON := Lib.hid ho10
          clear hkA hkB hkI hbBA hft hfs hbs
          go_wp2
          exact ⟨⟨k + 1, es ++ [_], by go_num, by omega, by rw [HCK.out], HON, Lib.hid (by rw [HCK.out]; exact HRN.out), HBN⟩, by simp [intOf]; omega⟩
    · have hq : k = n := by omega
      subst hq
      obtain ⟨a9, c9, rfl⟩ := own_slice HOL.out
      have hd2 := HX.out.d2.below HB.out (by rw [HX.out.size]; omega)
      have HD2 := Lib.hid hd2
      have HBW := Lib.hid (chain HX.out.below HB.out)
      have HLL := Lib.hid (show L.length = k from HN.out)
      clear hd2
      go_wp2_with (first
        | (refine wpList_store_row rfl 28 _ _ rfl (w.heap.size + 2) #[.slice a9 k c9, .int .i64 d.cap, .int .i64 d.ops, .bool false, .bool false, .int .i64 0] rfl rfl _ dz HD2.out.1 disk_info (by rfl) (by simp [Value.oneCell']) ?_))
      have hbl := below_row HBW.out (show w.heap.size ≤ w.heap.size + 2 by omega) #[.slice a9 k c9, .int .i64 d.cap, .int .i64 d.ops, .bool false, .bool false, .int .i64 0]
      refine bodyPost_ret_by (v := .agg #[.slice a9 k c9, .int .i64 d.cap, .int .i64 d.ops, .bool false, .bool false, .int .i64 0]) (results_cell_row rfl _ _ (w.heap.size + 2) _ _ (0, 0) _ rfl (HD2.out.row (cs' := #[.slice a9 k c9, .int .i64 d.cap, .int .i64 d.ops, .bool false, .bool false, .int .i64 0]) rfl).1 Tryz.underlying28 rfl disk_info) rfl ⟨_, rfl, ⟨.slice a9 k c9, ?_, ?_⟩, hbl⟩
      · simp only [dv, AD.crashR]
      · have hlen : (crL kb torn cut L k).1.length = k := crL_length kb torn cut L k (by rw [HLL.out]; exact Nat.le_refl _)
        have h1 : FLs (mask F1 wo) (.slice a9 k c9) (crL kb torn cut L k).1 := by
          refine ⟨es, ?_, HR.out.kin (tmask_mask _ _ _ _)⟩
          rw [hlen]
          exact CS.own (own_mask HFT.out HOL.out)
        have h2 := (h1.kin ((Ext.refl F1 wo).setRow (w.heap.size + 2) HIN2.out #[.slice a9 k c9, .int .i64 d.cap, .int .i64 d.ops, .bool false, .bool false, .int .i64 0]).kin).kin (mask_mono HM1.out _)
        show FLs _ _ (crL kb torn cut d.L d.L.length).1
        rw [HLE.out, HLL.out]
        exact h2
end Go.Proofs.YtpoiapfgbbmekaaGreatDoor
namespace Go.Proofs.YtpoiapfgbbmekaaGreatDoor
open Go.RowKit
end Go.Proofs.YtpoiapfgbbmekaaGreatDoor
namespace Go.Proofs.YtpoiapfgbbmekaaGreatDoor
open Go.RowKit
end Go.Proofs.YtpoiapfgbbmekaaGreatDoor
namespace Go.Proofs.YtpoiapfgbbmekaaGreatDoor
open Go.RowKit
set_option maxRecDepth 8000 in
set_option maxHeartbeats 1000000 in
theorem rwaiting_any (vd : Value) (d : AD) (w : World) (h : RD w vd d) (hu : waitingN d.L ≤ 1000000000000) :
    Calls Tryz.prog 64 #[vd] w fun e w' => e = .returned (.int .i64 (waitingN d.L : Int)) ∧ Below w.heap.size w w' := by
  obtain ⟨vl, rfl, hl⟩ := h
  obtain ⟨a, cap, rfl, hc1, hc2, _⟩ := hl.form
  obtain ⟨n, hn⟩ : ∃ n, d.L.length = n := ⟨_, rfl⟩
  obtain ⟨W0, hW0⟩ : ∃ W0, w.alloc (.cells #[.slice a d.L.length cap, .int .i64 d.cap, .int .i64 d.ops, .bool d.down, .bool d.told, .int .i64 d.after] 28) = W0 := ⟨_, rfl⟩
  have hb : Below w.heap.size w W0 := by rw [← hW0]; exact below_alloc w _
  have hc0 : W0.cell? ⟨w.heap.size, 0, none⟩ = some (.slice a d.L.length cap) := by
    rw [← hW0]; exact cell_of_row _ w.heap.size 0 _ _ _ (heap_alloc_last w _)
  have HL := Lib.hid (hl.kin (Kin.below hb))
  have HB := Lib.hid hb
  have HN := Lib.hid hn
  have HU := Lib.hid hu
  rw [hn] at HL hc0 hc1 hW0
  unfold dv
  rw [hn]
  generalize d.cap = x1 at *
  generalize d.ops = x2 at *
  generalize d.down = x3 at *
  generalize d.told = x4 at *
  generalize d.after = x5 at *
  generalize d.L = L at *
  clear hb hl hu hn
  go_enter Tryz.func64, Tryz.ntmps64
  go_wp2
  go_loop [3, 4] (fun nv iv => ∃ i : Nat, iv = .int .i64 i ∧ i ≤ n ∧ nv = .int .i64 (waitingN (L.take i) : Int)) (fun _ iv => n - (intOf iv).toNat)
  case atStart => exact ⟨0, rfl, by omega, rfl⟩
  case round =>
    obtain ⟨i, rfl, hi, rfl⟩ := hrel
    by_cases hlt : (i : Int) < (n : Int)
    · obtain ⟨f, hf⟩ := row_some (L := L) (i := i) (by have := HN.out; omega)
      obtain ⟨b, off, v1, v2, v3, rfl, _, _, _, hcell, _, _, hf3⟩ := HL.out.at_ i f hf
      have HF3 := Lib.hid hf3
      have hbl := BS.length hf3
      obtain ⟨a3, c3, rfl, _, hm1, hm2, _⟩ := hf3
      have hst := waitingN_take L i f hf
      have hle1 := waitingN_le L (i + 1)
      obtain ⟨m, hm⟩ : ∃ m, f.n = m := ⟨_, rfl⟩
      obtain ⟨bs, hbs⟩ : ∃ bs, f.ws = bs := ⟨_, rfl⟩
      rw [hm, hbs] at HF3
      rw [hm] at hcell hbl hm1
      rw [hbs] at hst hbl
      obtain ⟨u, hu⟩ : ∃ u, waitingN (L.take i) = u := ⟨_, rfl⟩
      rw [hu] at hst ⊢
      have hle := HU.out
      have HST := Lib.hid hst
      have HBL := Lib.hid hbl
      have hub : u + waitsN bs ≤ 1000000000000 := by omega
      clear hst hu hm hbs hf hbl hle1 hle
      go_wp2
      go_loop [3, 5] (fun nv kv => ∃ k : Nat, kv = .int .i64 k ∧ k ≤ m ∧ nv = .int .i64 ((u + waitsN (bs.take k) : Nat) : Int)) (fun _ kv => m - (intOf kv).toNat)
      case atStart => exact ⟨0, rfl, by omega, rfl⟩
      case round =>
        obtain ⟨k, rfl, hk, rfl⟩ := hrel
        by_cases hlk : (k : Int) < (m : Int)
        · obtain ⟨b3, o3, rfl, hbw⟩ := HF3.out.at_ k (by omega)
          have HS1 := Lib.hid (waitsN_take bs k (by have := HBL.out; omega))
          have hwl := waitsN_le bs (k + 1)
          obtain ⟨q, hq⟩ : ∃ q, u + waitsN (bs.take k) = q := ⟨_, rfl⟩
          have HQ := Lib.hid hq
          cases hy : bs.getD k false with
          | false =>
            rw [hy] at hbw HS1
            clear hy hwl hq
            rw [HQ.out]
            go_wp2
            refine ⟨⟨k + 1, by go_num, by omega, ?_⟩, by simp [intOf]; omega⟩
            rw [HS1.out, if_neg (by simp), Nat.add_zero, HQ.out]
          | true =>
            rw [hy] at hbw HS1
            have hqb : q + 1 ≤ 1000000000000 := by have := HS1.out; rw [if_pos rfl] at this; omega
            clear hy hwl hq
            rw [HQ.out]
            go_wp2
            refine ⟨⟨k + 1, by go_num, by omega, ?_⟩, by simp [intOf]; omega⟩
            rw [HS1.out, if_pos rfl, ← Nat.add_assoc, HQ.out]
            first | rfl | (unfold wrap64; congr 1; omega)
        · have hq : k = m := by omega
          subst hq
          have HALL := Lib.hid (show bs.take k = bs from List.take_of_length_le (Nat.le_of_eq HBL.out))
          rw [HALL.out]
          go_wp2
          refine ⟨⟨i + 1, by go_num, by omega, ?_⟩, by simp [intOf]; omega⟩
          rw [HST.out]
    · have hq : i = n := by omega
      subst hq
      go_wp2
      go_ret
      refine ⟨ret_int ?_, HB.out⟩
      rw [List.take_of_length_le (Nat.le_of_eq HN.out)]
end Go.Proofs.YtpoiapfgbbmekaaGreatDoor
namespace Go.Proofs.YtpoiapfgbbmekaaGreatDoor
open Go.RowKit
theorem Good.at_ {d : AD} (h : Good d) {i : Nat} {f : AF} (hf : d.L[i]? = some f) : d.has f.name ∧ d.get f.name = f := by
  obtain ⟨hi, rfl⟩ := List.getElem?_eq_some_iff.1 hf
  have hh : d.has (d.L[i]).name := by
    rcases Decidable.em (d.has (d.L[i]).name) with h1 | h1
    · exact h1
    · exact absurd rfl (has_mem h1 _ (List.getElem_mem hi))
  refine ⟨hh, ?_⟩
  have h1 := d.get_at _ hh
  have h2 := d.get_name _ hh
  obtain ⟨hj, e⟩ := List.getElem?_eq_some_iff.1 h1
  have hp := List.pairwise_iff_getElem.1 h.asc
  rcases Nat.lt_trichotomy (idxN d.L (d.L[i]).name) i with hlt | heq | hgt
  · have := gtN_ne (hp _ _ hj hi hlt); rw [e, h2] at this; exact absurd rfl this
  · rw [← e]; simp only [heq]
  · have := gtN_ne (hp _ _ hi hj hgt); rw [e, h2] at this; exact absurd rfl this
theorem RD.below {w w' : World} {v : Value} {d : AD} (h : RD w v d) (hb : Below w.heap.size w w') : RD w' v d := h.kin (Kin.below hb)
theorem LA.below {w w' : World} {v : Value} {l : List LFile} (h : LA w v l) (hb : Below w.heap.size w w') : LA w' v l := h.kin (Kin.below hb)
structure SaS (DK : World → Addr → (Nat → Bool) → AD → Prop) (w : World) (p : Addr) (F : Nat → Bool) (cs : Array Value) (d : AD) (W : World) : Prop where
  dk : DK W p F d
  rd : RD W (.agg cs) d
  below : Below w.heap.size w W
  d0 : DB W w.heap.size cs
theorem SaS.next {DK : World → Addr → (Nat → Bool) → AD → Prop} (H : DiskSays DK) {w W W' : World} {p : Addr} {F : Nat → Bool} {cs : Array Value} {d : AD} (h : SaS DK w p F cs d W) (hb : Below W.heap.size W W') : SaS DK w p F cs d W' :=
  ⟨H.below h.dk hb, h.rd.below hb, chain h.below hb, h.d0.next hb⟩
theorem SaS.start {DK : World → Addr → (Nat → Bool) → AD → Prop} (H : DiskSays DK) {w : World} {p : Addr} {F : Nat → Bool} {cs : Array Value} {d : AD} (hk : DK w p F d) (hr : RD w (.agg cs) d) (h6 : cs.size = 6) :
    SaS DK w p F cs d (w.alloc (.cells cs 28)) :=
  have hb := below_alloc w (.cells cs 28)
  ⟨H.below hk hb, hr.below hb, hb, ⟨heap_alloc_last w _, h6⟩⟩
theorem waiting_used : ∀ L : List AF, (∀ f ∈ L, GF f) → waitingN L ≤ usedN L
  | [], _ => by simp [waitingN, usedN]
  | f :: L, h => by
    have h1 := waiting_used L fun g hg => h g (List.mem_cons_of_mem _ hg)
    have h2 := waitsN_len f.ws
    have h3 := (h f (List.mem_cons_self ..)).ws
    simp only [waitingN, usedN, List.map_cons, List.sum_cons] at h1 ⊢
    omega
end Go.Proofs.YtpoiapfgbbmekaaGreatDoor
namespace Go.Proofs.YtpoiapfgbbmekaaGreatDoor
open Go.RowKit
theorem St.put {F : Nat → Bool} {w W : World} {cs cs' : Array Value} {d d' : AD} (h : St F w cs d W) (hr : RD (mask (boxF F w) W) (.agg cs') d') (h6 : cs'.size = 6) : St F w cs' d' (W.setRow w.heap.size cs') := by
  have hs : (W.setRow w.heap.size cs').heap.size = W.heap.size := by simp
  exact ⟨below_row h.below (Nat.le_refl _) _, by rw [hs]; exact h.size, h.d0.row h6, h.d1.over _ (by omega) _, by rw [hs]; exact h.foot, hr.kin ((Ext.refl (boxF F w) W).setRow _ (box_in0 F w) _).kin⟩
theorem rmake_of {d d2 : AD} {s : ByteArray} {e2 : Int} (hg : Good d) (hs : s.size ≤ 281474976710656) (h : d.makeR s 17 = (d2, e2)) : Hid (∀ F W v, Foot F W.heap.size → RD (mask F W) v d → Calls Tryz.prog 14 #[v, .string s, .int .i64 17] W fun e w' => ∃ v', e = .returned (.tuple #[v', .int .i64 e2]) ∧ RD (mask F w') v' d2 ∧ Below W.heap.size W w') :=
  Lib.hid fun F W v hF hr => by
    have h1 := hg.few
    have h2 := hg.used
    have h3 := hg.cap1
    have := rmake_any F v d s 17 W hF hr (by omega) (by omega) hs (by unfold I63; omega)
    rwa [h] at this
theorem rrename_of {d d2 : AD} {s t : ByteArray} {e2 : Int} (hg : Good d) (hs : t.size ≤ 281474976710656) (h : d.renameR s t = (d2, e2)) : Hid (∀ F W v, Foot F W.heap.size → RD (mask F W) v d → Calls Tryz.prog 38 #[v, .string s, .string t] W fun e w' => ∃ v', e = .returned (.tuple #[v', .int .i64 e2]) ∧ RD (mask F w') v' d2 ∧ Below W.heap.size W w') :=
  Lib.hid fun F W v hF hr => by
    have h1 := hg.few
    have := rrename_any F v d s t W hF hr (by omega) hs
    rwa [h] at this
theorem wpl_load_dbP {w : World} {ops : Array Oper} {rest : List Oper} {o : Oper} {a : Act} {Q : Exit → Act → World → Prop} (hw : Region.wanted o (yielded ops a.tmps) = true) (x : Operand) (ho : o.op = .load 28 x)
    (g : Nat) (hx : a.eval x = .pointer (some ⟨g, 0, none⟩)) (cs : Array Value) (hk : DB w g cs) (h : wpList Tryz.prog ops Q rest (a.put o.dst (.agg cs)) w) : wpList Tryz.prog ops Q (o :: rest) a w := by
  unfold wpList
  rw [if_pos hw]
  exact Or.inl (wp_load_row 28 x ho g hx _ cs (0, 0) _ hk.1 Tryz.underlying28 rfl hk.info h)
theorem runused_of {d : AD} {u : ByteArray} (hu : firstI d 0 = u) : Hid (∀ W v, RD W v d → Calls Tryz.prog 81 #[v] W fun e w' => e = .returned (.string u) ∧ Below W.heap.size W w') :=
  Lib.hid fun W v h => by rw [← hu]; exact runused_any v d W h
set_option maxRecDepth 8000 in
set_option maxHeartbeats 1000000 in
theorem rtake_any (F : Nat → Bool) (vd : Value) (d : AD) (w : World) (hF : Foot F w.heap.size) (h : RD (mask F w) vd d) (hg : Good d) :
    Calls Tryz.prog 37 #[vd] w fun e w' => ∃ v', e = .returned (.tuple #[v', .string d.takeR.2.1, .int .i64 d.takeR.2.2]) ∧ RD (mask F w') v' d.takeR.1 ∧ Below w.heap.size w w' := by
  obtain ⟨a, n, cap, rfl, hn, hc1, hc2⟩ := h.agg
  have hst := St.start hF rfl h
  obtain ⟨W2, hW2⟩ : ∃ W2, (w.alloc (.cells #[.slice a n cap, .int .i64 d.cap, .int .i64 d.ops, .bool d.down, .bool d.told, .int .i64 d.after] 28)).alloc (.cells #[.slice none 0 0, .int .i64 0, .int .i64 0, .bool false, .bool false, .int .i64 0] 28) = W2 := ⟨_, rfl⟩
  rw [hW2] at hst
  have HS := Lib.hid hst
  obtain ⟨q0, q1, q2, q3, q4, q5⟩ := hst.d0.six
  clear hst hn h hF
  unfold AD.takeR
  by_cases hd : d.down = true
  · rw [if_pos hd]
    simp only [hd] at q3 hW2 HS ⊢
    clear hd
    go_enter Tryz.func37, Tryz.ntmps37
    go_wp2_with (first
      | (refine wpList_load_row rfl 28 _ rfl w.heap.size rfl _ _ (0, 0) _ HS.out.d0.1 Tryz.underlying28 rfl HS.out.d0.info ?_)
      | (refine wpList_store_row rfl 28 _ _ rfl (w.heap.size + 1) #[.slice a n cap, .int .i64 d.cap, .int .i64 d.ops, .bool true, .bool d.told, .int .i64 d.after] rfl rfl _ dz HS.out.d1.1 disk_info (by rfl) (by simp [Value.oneCell']) ?_))
    obtain ⟨e1, e2, e3⟩ := HS.out.done (cs' := #[.slice a n cap, .int .i64 d.cap, .int .i64 d.ops, .bool true, .bool d.told, .int .i64 d.after]) HS.out.rd rfl
    exact bodyPost_ret_by (results_row_tmp2 rfl _ _ (w.heap.size + 1) _ rfl (disk_load e1.1 rfl)) rfl ⟨_, rfl, e2, e3⟩
  · rw [if_neg hd]
    rw [Bool.not_eq_true] at hd
    simp only [hd] at q3 hW2 HS ⊢
    clear hd
    obtain ⟨x1, hx1⟩ : ∃ x, szI d fr1 = x := ⟨_, rfl⟩
    obtain ⟨x2, hx2⟩ : ∃ x, szI d fr2 = x := ⟨_, rfl⟩
    have H1 := rsize_of hx1
    have H2 := rsize_of hx2
    have hq : ∀ m, firstI d m = if x1 = m then fr1 else if x2 = m then fr2 else noS := fun m => by unfold firstI; rw [hx1, hx2]
    have HU := runused_of (hq 0)
    simp only [hq]
    clear hx1 hx2 hq
    by_cases h1 : x1 = 17
    · subst h1
      simp only [if_true, if_pos fr1_ne, ne_eq]
      (try rw [if_pos (by decide)])
      go_enter Tryz.func37, Tryz.ntmps37
      go_wp2_with (first
        | (refine wpList_load_row rfl 28 _ rfl w.heap.size rfl _ _ (0, 0) _ HS1.out.d0.1 Tryz.underlying28 rfl HS1.out.d0.info ?_)
        | (refine wpList_load_row rfl 28 _ rfl w.heap.size rfl _ _ (0, 0) _ HS.out.d0.1 Tryz.underlying28 rfl HS.out.d0.info ?_)
        | (go_at_call 80; (with_reducible refine (H1.out _ _ (HS.out.rd.kin (unmask _ _))).mono ?_); rintro e w1 ⟨rfl, hb⟩; have HS1 := Lib.hid (HS.out.next hb); clear hb)
        | (refine wpList_store_row rfl 28 _ _ rfl (w.heap.size + 1) #[.slice a n cap, .int .i64 d.cap, .int .i64 d.ops, .bool false, .bool d.told, .int .i64 d.after] rfl rfl _ dz HS1.out.d1.1 disk_info (by rfl) (by simp [Value.oneCell']) ?_))
      obtain ⟨e1, e2, e3⟩ := HS1.out.done (cs' := #[.slice a n cap, .int .i64 d.cap, .int .i64 d.ops, .bool false, .bool d.told, .int .i64 d.after]) HS1.out.rd rfl
      exact bodyPost_ret_by (results_row_tmp2 rfl _ _ (w.heap.size + 1) _ rfl (disk_load e1.1 rfl)) rfl ⟨_, rfl, e2, e3⟩
    simp only [if_neg h1]
    by_cases h2 : x2 = 17
    · subst h2
      simp only [if_true, ne_eq]
      (try rw [if_pos (by decide)])
      go_enter Tryz.func37, Tryz.ntmps37
      go_wp2_with (first
        | (refine wpList_load_row rfl 28 _ rfl w.heap.size rfl _ _ (0, 0) _ HS2.out.d0.1 Tryz.underlying28 rfl HS2.out.d0.info ?_)
        | (refine wpList_load_row rfl 28 _ rfl w.heap.size rfl _ _ (0, 0) _ HS1.out.d0.1 Tryz.underlying28 rfl HS1.out.d0.info ?_)
        | (refine wpList_load_row rfl 28 _ rfl w.heap.size rfl _ _ (0, 0) _ HS.out.d0.1 Tryz.underlying28 rfl HS.out.d0.info ?_)
        | (go_at_call 80; (with_reducible refine (H1.out _ _ (HS.out.rd.kin (unmask _ _))).mono ?_); rintro e w1 ⟨rfl, hb⟩; have HS1 := Lib.hid (HS.out.next hb); clear hb)
        | (go_at_call 80; (with_reducible refine (H2.out _ _ (HS1.out.rd.kin (unmask _ _))).mono ?_); rintro e w2 ⟨rfl, hb⟩; have HS2 := Lib.hid (HS1.out.next hb); clear hb)
        | (refine wpList_store_row rfl 28 _ _ rfl (w.heap.size + 1) #[.slice a n cap, .int .i64 d.cap, .int .i64 d.ops, .bool false, .bool d.told, .int .i64 d.after] rfl rfl _ dz HS2.out.d1.1 disk_info (by rfl) (by simp [Value.oneCell']) ?_))
      obtain ⟨e1, e2, e3⟩ := HS2.out.done (cs' := #[.slice a n cap, .int .i64 d.cap, .int .i64 d.ops, .bool false, .bool d.told, .int .i64 d.after]) HS2.out.rd rfl
      exact bodyPost_ret_by (results_row_tmp2 rfl _ _ (w.heap.size + 1) _ rfl (disk_load e1.1 rfl)) rfl ⟨_, rfl, e2, e3⟩
    simp only [if_neg h2]
    (try rw [if_neg (by simp)])
    by_cases h3 : x1 = 0
    · subst h3
      simp only [if_true] at HU ⊢
      (try rw [if_neg (by decide)])
      obtain ⟨⟨d2, e2⟩, hr⟩ : ∃ r, d.makeR fr1 17 = r := ⟨_, rfl⟩
      have HM := rmake_of hg (by decide) hr
      simp only [hr]
      clear hr
      by_cases he : e2 = 0
      · subst he
        simp only [if_true]
        go_enter Tryz.func37, Tryz.ntmps37
        go_wp2_with (first
          | (refine wpList_load_row rfl 28 _ rfl w.heap.size rfl _ _ (0, 0) _ HS3.out.d0.1 Tryz.underlying28 rfl HS3.out.d0.info ?_)
          | (refine wpList_load_row rfl 28 _ rfl w.heap.size rfl _ _ (0, 0) _ HS2.out.d0.1 Tryz.underlying28 rfl HS2.out.d0.info ?_)
          | (refine wpList_load_row rfl 28 _ rfl w.heap.size rfl _ _ (0, 0) _ HS1.out.d0.1 Tryz.underlying28 rfl HS1.out.d0.info ?_)
          | (refine wpList_load_row rfl 28 _ rfl w.heap.size rfl _ _ (0, 0) _ HS.out.d0.1 Tryz.underlying28 rfl HS.out.d0.info ?_)
          | (go_at_call 80; (with_reducible refine (H1.out _ _ (HS.out.rd.kin (unmask _ _))).mono ?_); rintro e w1 ⟨rfl, hb⟩; have HS1 := Lib.hid (HS.out.next hb); clear hb)
          | (go_at_call 80; (with_reducible refine (H2.out _ _ (HS1.out.rd.kin (unmask _ _))).mono ?_); rintro e w2 ⟨rfl, hb⟩; have HS2 := Lib.hid (HS1.out.next hb); clear hb)
          | (go_at_call 81; (with_reducible refine (HU.out _ _ (HS2.out.rd.kin (unmask _ _))).mono ?_); rintro e w3 ⟨rfl, hb⟩; have HS3 := Lib.hid (HS2.out.next hb); clear hb)
          | (go_at_call 14; (with_reducible refine (HM.out _ _ _ HS3.out.foot HS3.out.rd).mono ?_); rintro e w4 ⟨v4, rfl, hr, hb⟩; have HS4 := Lib.hid (HS3.out.next hb); clear hb; obtain ⟨a4, n4, c4, rfl, _⟩ := hr.agg; have HR4 := Lib.hid hr; clear hr)
          | (refine wpl_store_newD rfl _ _ rfl rfl w4.heap.size rfl #[.slice a4 n4 c4, .int .i64 d2.cap, .int .i64 d2.ops, .bool d2.down, .bool d2.told, .int .i64 d2.after] rfl (by simp [Value.oneCell']) rfl rfl ?_; intro w5 HX5 hb5; have HS5 := Lib.hid (HS4.out.next hb5.out); have HB5 := hb5)
          | (refine wpList_load_row rfl 28 _ rfl w4.heap.size rfl _ _ (0, 0) _ HX5.out.1 Tryz.underlying28 rfl HX5.out.info ?_)
          | (refine wpList_store_row rfl 28 _ _ rfl (w.heap.size + 1) #[.slice a4 n4 c4, .int .i64 d2.cap, .int .i64 d2.ops, .bool d2.down, .bool d2.told, .int .i64 d2.after] rfl rfl _ dz HS5.out.d1.1 disk_info (by rfl) (by simp [Value.oneCell']) ?_))
        obtain ⟨e1, e2, e3⟩ := HS5.out.done (cs' := #[.slice a4 n4 c4, .int .i64 d2.cap, .int .i64 d2.ops, .bool d2.down, .bool d2.told, .int .i64 d2.after]) (HR4.out.kin (kin_mask HB5.out)) rfl
        exact bodyPost_ret_by (results_row_tmp2 rfl _ _ (w.heap.size + 1) _ rfl (disk_load e1.1 rfl)) rfl ⟨_, rfl, e2, e3⟩
      · simp only [if_neg he]
        go_enter Tryz.func37, Tryz.ntmps37
        go_wp2_with (first
          | (refine wpList_load_row rfl 28 _ rfl w.heap.size rfl _ _ (0, 0) _ HS3.out.d0.1 Tryz.underlying28 rfl HS3.out.d0.info ?_)
          | (refine wpList_load_row rfl 28 _ rfl w.heap.size rfl _ _ (0, 0) _ HS2.out.d0.1 Tryz.underlying28 rfl HS2.out.d0.info ?_)
          | (refine wpList_load_row rfl 28 _ rfl w.heap.size rfl _ _ (0, 0) _ HS1.out.d0.1 Tryz.underlying28 rfl HS1.out.d0.info ?_)
          | (refine wpList_load_row rfl 28 _ rfl w.heap.size rfl _ _ (0, 0) _ HS.out.d0.1 Tryz.underlying28 rfl HS.out.d0.info ?_)
          | (go_at_call 80; (with_reducible refine (H1.out _ _ (HS.out.rd.kin (unmask _ _))).mono ?_); rintro e w1 ⟨rfl, hb⟩; have HS1 := Lib.hid (HS.out.next hb); clear hb)
          | (go_at_call 80; (with_reducible refine (H2.out _ _ (HS1.out.rd.kin (unmask _ _))).mono ?_); rintro e w2 ⟨rfl, hb⟩; have HS2 := Lib.hid (HS1.out.next hb); clear hb)
          | (go_at_call 81; (with_reducible refine (HU.out _ _ (HS2.out.rd.kin (unmask _ _))).mono ?_); rintro e w3 ⟨rfl, hb⟩; have HS3 := Lib.hid (HS2.out.next hb); clear hb)
          | (go_at_call 14; (with_reducible refine (HM.out _ _ _ HS3.out.foot HS3.out.rd).mono ?_); rintro e w4 ⟨v4, rfl, hr, hb⟩; have HS4 := Lib.hid (HS3.out.next hb); clear hb; obtain ⟨a4, n4, c4, rfl, _⟩ := hr.agg; have HR4 := Lib.hid hr; clear hr)
          | (refine wpl_store_newD rfl _ _ rfl rfl w4.heap.size rfl #[.slice a4 n4 c4, .int .i64 d2.cap, .int .i64 d2.ops, .bool d2.down, .bool d2.told, .int .i64 d2.after] rfl (by simp [Value.oneCell']) rfl rfl ?_; intro w5 HX5 hb5; have HS5 := Lib.hid (HS4.out.next hb5.out); have HB5 := hb5)
          | (refine wpList_load_row rfl 28 _ rfl w4.heap.size rfl _ _ (0, 0) _ HX5.out.1 Tryz.underlying28 rfl HX5.out.info ?_)
          | (refine wpList_store_row rfl 28 _ _ rfl (w.heap.size + 1) #[.slice a4 n4 c4, .int .i64 d2.cap, .int .i64 d2.ops, .bool d2.down, .bool d2.told, .int .i64 d2.after] rfl rfl _ dz HS5.out.d1.1 disk_info (by rfl) (by simp [Value.oneCell']) ?_))
        obtain ⟨e1, e2, e3⟩ := HS5.out.done (cs' := #[.slice a4 n4 c4, .int .i64 d2.cap, .int .i64 d2.ops, .bool d2.down, .bool d2.told, .int .i64 d2.after]) (HR4.out.kin (kin_mask HB5.out)) rfl
        exact bodyPost_ret_by (results_row_tmp2 rfl _ _ (w.heap.size + 1) _ rfl (disk_load e1.1 rfl)) rfl ⟨_, rfl, e2, e3⟩
    simp only [if_neg h3] at HU ⊢
    by_cases h4 : x2 = 0
    · subst h4
      simp only [if_true] at HU ⊢
      (try rw [if_neg (by decide)])
      obtain ⟨⟨d2, e2⟩, hr⟩ : ∃ r, d.makeR fr2 17 = r := ⟨_, rfl⟩
      have HM := rmake_of hg (by decide) hr
      simp only [hr]
      clear hr
      by_cases he : e2 = 0
      · subst he
        simp only [if_true]
        go_enter Tryz.func37, Tryz.ntmps37
        go_wp2_with (first
          | (refine wpList_load_row rfl 28 _ rfl w.heap.size rfl _ _ (0, 0) _ HS3.out.d0.1 Tryz.underlying28 rfl HS3.out.d0.info ?_)
          | (refine wpList_load_row rfl 28 _ rfl w.heap.size rfl _ _ (0, 0) _ HS2.out.d0.1 Tryz.underlying28 rfl HS2.out.d0.info ?_)
          | (refine wpList_load_row rfl 28 _ rfl w.heap.size rfl _ _ (0, 0) _ HS1.out.d0.1 Tryz.underlying28 rfl HS1.out.d0.info ?_)
          | (refine wpList_load_row rfl 28 _ rfl w.heap.size rfl _ _ (0, 0) _ HS.out.d0.1 Tryz.underlying28 rfl HS.out.d0.info ?_)
          | (go_at_call 80; (with_reducible refine (H1.out _ _ (HS.out.rd.kin (unmask _ _))).mono ?_); rintro e w1 ⟨rfl, hb⟩; have HS1 := Lib.hid (HS.out.next hb); clear hb)
          | (go_at_call 80; (with_reducible refine (H2.out _ _ (HS1.out.rd.kin (unmask _ _))).mono ?_); rintro e w2 ⟨rfl, hb⟩; have HS2 := Lib.hid (HS1.out.next hb); clear hb)
          | (go_at_call 81; (with_reducible refine (HU.out _ _ (HS2.out.rd.kin (unmask _ _))).mono ?_); rintro e w3 ⟨rfl, hb⟩; have HS3 := Lib.hid (HS2.out.next hb); clear hb)
          | (go_at_call 14; (with_reducible refine (HM.out _ _ _ HS3.out.foot HS3.out.rd).mono ?_); rintro e w4 ⟨v4, rfl, hr, hb⟩; have HS4 := Lib.hid (HS3.out.next hb); clear hb; obtain ⟨a4, n4, c4, rfl, _⟩ := hr.agg; have HR4 := Lib.hid hr; clear hr)
          | (refine wpl_store_newD rfl _ _ rfl rfl w4.heap.size rfl #[.slice a4 n4 c4, .int .i64 d2.cap, .int .i64 d2.ops, .bool d2.down, .bool d2.told, .int .i64 d2.after] rfl (by simp [Value.oneCell']) rfl rfl ?_; intro w5 HX5 hb5; have HS5 := Lib.hid (HS4.out.next hb5.out); have HB5 := hb5)
          | (refine wpList_load_row rfl 28 _ rfl w4.heap.size rfl _ _ (0, 0) _ HX5.out.1 Tryz.underlying28 rfl HX5.out.info ?_)
          | (refine wpList_store_row rfl 28 _ _ rfl (w.heap.size + 1) #[.slice a4 n4 c4, .int .i64 d2.cap, .int .i64 d2.ops, .bool d2.down, .bool d2.told, .int .i64 d2.after] rfl rfl _ dz HS5.out.d1.1 disk_info (by rfl) (by simp [Value.oneCell']) ?_))
        obtain ⟨e1, e2, e3⟩ := HS5.out.done (cs' := #[.slice a4 n4 c4, .int .i64 d2.cap, .int .i64 d2.ops, .bool d2.down, .bool d2.told, .int .i64 d2.after]) (HR4.out.kin (kin_mask HB5.out)) rfl
        exact bodyPost_ret_by (results_row_tmp2 rfl _ _ (w.heap.size + 1) _ rfl (disk_load e1.1 rfl)) rfl ⟨_, rfl, e2, e3⟩
      · simp only [if_neg he]
        go_enter Tryz.func37, Tryz.ntmps37
        go_wp2_with (first
          | (refine wpList_load_row rfl 28 _ rfl w.heap.size rfl _ _ (0, 0) _ HS3.out.d0.1 Tryz.underlying28 rfl HS3.out.d0.info ?_)
          | (refine wpList_load_row rfl 28 _ rfl w.heap.size rfl _ _ (0, 0) _ HS2.out.d0.1 Tryz.underlying28 rfl HS2.out.d0.info ?_)
          | (refine wpList_load_row rfl 28 _ rfl w.heap.size rfl _ _ (0, 0) _ HS1.out.d0.1 Tryz.underlying28 rfl HS1.out.d0.info ?_)
          | (refine wpList_load_row rfl 28 _ rfl w.heap.size rfl _ _ (0, 0) _ HS.out.d0.1 Tryz.underlying28 rfl HS.out.d0.info ?_)
          | (go_at_call 80; (with_reducible refine (H1.out _ _ (HS.out.rd.kin (unmask _ _))).mono ?_); rintro e w1 ⟨rfl, hb⟩; have HS1 := Lib.hid (HS.out.next hb); clear hb)
          | (go_at_call 80; (with_reducible refine (H2.out _ _ (HS1.out.rd.kin (unmask _ _))).mono ?_); rintro e w2 ⟨rfl, hb⟩; have HS2 := Lib.hid (HS1.out.next hb); clear hb)
          | (go_at_call 81; (with_reducible refine (HU.out _ _ (HS2.out.rd.kin (unmask _ _))).mono ?_); rintro e w3 ⟨rfl, hb⟩; have HS3 := Lib.hid (HS2.out.next hb); clear hb)
          | (go_at_call 14; (with_reducible refine (HM.out _ _ _ HS3.out.foot HS3.out.rd).mono ?_); rintro e w4 ⟨v4, rfl, hr, hb⟩; have HS4 := Lib.hid (HS3.out.next hb); clear hb; obtain ⟨a4, n4, c4, rfl, _⟩ := hr.agg; have HR4 := Lib.hid hr; clear hr)
          | (refine wpl_store_newD rfl _ _ rfl rfl w4.heap.size rfl #[.slice a4 n4 c4, .int .i64 d2.cap, .int .i64 d2.ops, .bool d2.down, .bool d2.told, .int .i64 d2.after] rfl (by simp [Value.oneCell']) rfl rfl ?_; intro w5 HX5 hb5; have HS5 := Lib.hid (HS4.out.next hb5.out); have HB5 := hb5)
          | (refine wpList_load_row rfl 28 _ rfl w4.heap.size rfl _ _ (0, 0) _ HX5.out.1 Tryz.underlying28 rfl HX5.out.info ?_)
          | (refine wpList_store_row rfl 28 _ _ rfl (w.heap.size + 1) #[.slice a4 n4 c4, .int .i64 d2.cap, .int .i64 d2.ops, .bool d2.down, .bool d2.told, .int .i64 d2.after] rfl rfl _ dz HS5.out.d1.1 disk_info (by rfl) (by simp [Value.oneCell']) ?_))
        obtain ⟨e1, e2, e3⟩ := HS5.out.done (cs' := #[.slice a4 n4 c4, .int .i64 d2.cap, .int .i64 d2.ops, .bool d2.down, .bool d2.told, .int .i64 d2.after]) (HR4.out.kin (kin_mask HB5.out)) rfl
        exact bodyPost_ret_by (results_row_tmp2 rfl _ _ (w.heap.size + 1) _ rfl (disk_load e1.1 rfl)) rfl ⟨_, rfl, e2, e3⟩
    simp only [if_neg h4] at HU ⊢
    simp only [if_true]
    go_enter Tryz.func37, Tryz.ntmps37
    go_wp2_with (first
      | (refine wpList_load_row rfl 28 _ rfl w.heap.size rfl _ _ (0, 0) _ HS3.out.d0.1 Tryz.underlying28 rfl HS3.out.d0.info ?_)
      | (refine wpList_load_row rfl 28 _ rfl w.heap.size rfl _ _ (0, 0) _ HS2.out.d0.1 Tryz.underlying28 rfl HS2.out.d0.info ?_)
      | (refine wpList_load_row rfl 28 _ rfl w.heap.size rfl _ _ (0, 0) _ HS1.out.d0.1 Tryz.underlying28 rfl HS1.out.d0.info ?_)
      | (refine wpList_load_row rfl 28 _ rfl w.heap.size rfl _ _ (0, 0) _ HS.out.d0.1 Tryz.underlying28 rfl HS.out.d0.info ?_)
      | (go_at_call 80; (with_reducible refine (H1.out _ _ (HS.out.rd.kin (unmask _ _))).mono ?_); rintro e w1 ⟨rfl, hb⟩; have HS1 := Lib.hid (HS.out.next hb); clear hb)
      | (go_at_call 80; (with_reducible refine (H2.out _ _ (HS1.out.rd.kin (unmask _ _))).mono ?_); rintro e w2 ⟨rfl, hb⟩; have HS2 := Lib.hid (HS1.out.next hb); clear hb)
      | (go_at_call 81; (with_reducible refine (HU.out _ _ (HS2.out.rd.kin (unmask _ _))).mono ?_); rintro e w3 ⟨rfl, hb⟩; have HS3 := Lib.hid (HS2.out.next hb); clear hb)
      | (refine wpList_store_row rfl 28 _ _ rfl (w.heap.size + 1) #[.slice a n cap, .int .i64 d.cap, .int .i64 d.ops, .bool false, .bool d.told, .int .i64 d.after] rfl rfl _ dz HS3.out.d1.1 disk_info (by rfl) (by simp [Value.oneCell']) ?_))
    obtain ⟨e1, e2, e3⟩ := HS3.out.done (cs' := #[.slice a n cap, .int .i64 d.cap, .int .i64 d.ops, .bool false, .bool d.told, .int .i64 d.after]) HS3.out.rd rfl
    exact bodyPost_ret_by (results_row_tmp2 rfl _ _ (w.heap.size + 1) _ rfl (disk_load e1.1 rfl)) rfl ⟨_, rfl, e2, e3⟩
end Go.Proofs.YtpoiapfgbbmekaaGreatDoor
