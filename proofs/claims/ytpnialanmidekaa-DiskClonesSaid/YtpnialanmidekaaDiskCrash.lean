/-
  WHAT THE DOCUMENT'S ANSWERS OF LAYER 8 (disk) ANSWER: the reference's Crash.
-/
import Derived.Test.YtpnialanmidekaaDiskCr
import Derived.Test.YtpnialanmidekaaRegion
import Derived.Test.YtpnialanmidekaaDiskOps
namespace Go.Proofs.Ytpnialanmidekaa
open Go.RowKit
/-- what the call begins with: three blocks -/
structure Bc (w : World) (cs : Array Value) (fc : Array Value) (W3 : World) : Prop where
  below : Below w.heap.size w W3
  size : W3.heap.size = w.heap.size + 3
  d0 : DB W3 w.heap.size cs
  f1 : W3.heap[w.heap.size + 1]? = some (.cells fc 36 (0, 0))
  d2 : DB W3 (w.heap.size + 2) dz
theorem Bc.start (w : World) (cs : Array Value) (h : cs.size = 6) (fc : Array Value) :
    Bc w cs fc (((w.alloc (.cells cs 29)).alloc (.cells fc 36)).alloc (.cells dz 29)) := by
  have k0 := heap_alloc_last w (.cells cs 29)
  have s0 := alloc_size w (.cells cs 29)
  have b0 := below_alloc w (.cells cs 29)
  generalize w.alloc (.cells cs 29) = w0 at *
  have k1 := heap_alloc_last w0 (.cells fc 36)
  have s1 := alloc_size w0 (.cells fc 36)
  have b1 := below_alloc w0 (.cells fc 36)
  generalize w0.alloc (.cells fc 36) = w1 at *
  have k2 := heap_alloc_last w1 (.cells dz 29)
  have s2 := alloc_size w1 (.cells dz 29)
  have b2 := below_alloc w1 (.cells dz 29)
  generalize w1.alloc (.cells dz 29) = w2 at *
  rw [s0] at k1
  rw [s1, s0] at k2
  refine ⟨chain (chain b0 b1) b2, by omega, ⟨?_, h⟩, ?_, ⟨k2, rfl⟩⟩
  · rw [b2.block _ (by omega), b1.block _ (by omega)]; exact k0
  · rw [b2.block _ (by omega)]; exact k1
theorem wp_app_file {w : World} {o : Oper} {a : Act} {K : Act → World → Prop} {Q : Exit → Act → World → Prop} (s x : Operand)
    (ho : o.op = .call { callee := .builtin .append, args := #[s, x], argTypes := #[27, 27] })
    (base : Nat) (v : Value) (n : Nat) (es : List (List Value)) (hs : a.eval s = v) (hown : w.ownsRow base 82 4 v n es.flatten)
    (g : Nat) (e : List Value) (hx : a.eval x = .slice (some ⟨g, 0, none⟩) 1 1) (hblk : w.heap[g]? = some (.cells e.toArray 82 (0, 0))) (he : e.length = 4) (h1 : ∀ u ∈ e, u.oneCell' = true) (hn : n ≤ 1000000000000) (hbase : base ≤ w.heap.size)
    (h : ∀ v' w', w'.ownsRow base 82 4 v' (n + 1) (es ++ [e]).flatten → w.grownBy w' v.ownBlock → K (a.put o.dst v') w') : Oper.wp Try.prog o a w K Q := by
  obtain ⟨i, hi, hz0, hz1, hz2⟩ := info_parts file_parts
  refine wp_append_own_wide w s x 27 ho base 82 i _ 4 88 Try.underlying27 hi hz0 hz1 hz2 rfl (by omega) v n es.flatten hs hown ⟨g, 0, none⟩ 1 1 e hx (by rw [he]) ?_ h1 (by unfold maxLen; omega) (by omega) hbase ?_
  · intro j u hj
    have hc : w.cell? ⟨g, j, none⟩ = some u := by rw [cell_of_row _ g j _ _ _ hblk]; simpa using hj
    by_cases h0 : j = 0
    · subst h0; simpa [Addr.add] using hc
    · simpa [Addr.add, h0] using hc
  · intro v' w' h1 h2 _
    exact h v' w' (by rw [List.flatten_append, List.flatten_singleton]; exact h1) h2
theorem own_bools (w : World) (k : Nat) (hk : k ≤ maxLen) (e : TypeId) : (w.alloc (.cells (Array.replicate k (Value.bool false)) e)).ownsRow w.heap.size e 1 (.slice (some ⟨w.heap.size, 0, none⟩) k k) k ((List.replicate k false).map .bool) :=
  ⟨by simp, .inr ⟨w.heap.size, k, _, rfl, Nat.le_refl _, heap_alloc_last w _, Nat.le_refl _, hk, by simp, by simp⟩⟩
set_option maxRecDepth 8000 in
set_option maxHeartbeats 4000000 in
theorem rcrash_any (F : Nat → Bool) (vd : Value) (d : AD) (vk : Value) (len : Nat) (kb : List Int) (torn cut : Int) (w : World) (hF : Foot F w.heap.size) (h : RD (mask F w) vd d) (hk : RI .u8 (mask F w) vk len kb) (hkb : Bytes kb) (ht63 : I63 torn) (hc63 : I63 cut)
    (hn1 : d.L.length ≤ 1000000) (hu : usedN d.L ≤ 1000000000) :
    Calls Try.prog 38 #[vd, .agg #[vk, .int .i64 torn, .int .i64 cut]] w fun e w' => ∃ v', e = .returned v' ∧ RD (mask F w') v' (d.crashR kb torn cut) ∧ Below w.heap.size w w' := by
  obtain ⟨a, n, cap, rfl, hn, hc1, hc2⟩ := h.agg
  obtain ⟨ak, ck, rfl, hkl, _⟩ := id hk
  have hx := Bc.start w #[.slice a n cap, .int .i64 d.cap, .int .i64 d.ops, .bool d.down, .bool d.told, .int .i64 d.after] rfl #[.slice ak len ck, .int .i64 torn, .int .i64 cut]
  rw [show dz = #[.slice none 0 0, .int .i64 0, .int .i64 0, .bool false, .bool false, .int .i64 0] from rfl] at hx
  obtain ⟨W3, hW3⟩ : ∃ W3, ((w.alloc (.cells #[.slice a n cap, .int .i64 d.cap, .int .i64 d.ops, .bool d.down, .bool d.told, .int .i64 d.after] 29)).alloc (.cells #[.slice ak len ck, .int .i64 torn, .int .i64 cut] 36)).alloc (.cells #[.slice none 0 0, .int .i64 0, .int .i64 0, .bool false, .bool false, .int .i64 0] 29) = W3 := ⟨_, rfl⟩
  rw [hW3] at hx
  have hext : Ext F w W3 (plusF F w.heap.size W3.heap.size) := plusF_ext hx.below
  have HFL := Lib.hid ((h.kin hext.kin).fls)
  have HRK := Lib.hid (hk.kin hext.kin)
  have HFT := Lib.hid (plusF_foot hF hx.below.size)
  have HX := Lib.hid hx
  have HN := Lib.hid hn
  have HU := Lib.hid hu
  have HKB := Lib.hid hkb
  have HT63 := Lib.hid ht63
  have HC63 := Lib.hid hc63
  have HZ := Lib.hid z64_cells
  obtain ⟨F1, hF1⟩ : ∃ F1, plusF F w.heap.size W3.heap.size = F1 := ⟨_, rfl⟩
  have HIN2 : Hid (F1 (w.heap.size + 2) = true) := Lib.hid (by rw [← hF1]; exact plusF_in F _ _ _ (by omega) (by rw [hx.size]; omega))
  have HM1 : Hid (∀ k, F k = true → F1 k = true) := Lib.hid fun k h1 => by rw [← hF1]; exact plusF_mono F _ _ k h1
  rw [hF1] at HFL HRK HFT
  have hnn : n ≤ 1000000 := by omega
  obtain ⟨L, hL⟩ : ∃ L, d.L = L := ⟨_, rfl⟩
  rw [hL] at HFL HN HU
  have HLE := Lib.hid hL
  have hu1 := hu
  rw [hL] at hu1
  clear hF h hk hkb hx hn hu hext hF1 ht63 hc63 hL hn1
  go_enter Try.func38, Try.ntmps38
  go_wp2
  go_loopw [5, 6, 7] (fun iv lv kv wr => ∃ (k : Nat) (es : List (List Value)), kv = .int .i64 k ∧ k ≤ n ∧ iv = .int .i64 ((crL kb torn cut L k).2 : Int) ∧ Hid (wr.ownsRow W3.heap.size 82 4 lv k es.flatten) ∧ Hid (RFs (tmask F1 W3.heap.size 82 wr) es (crL kb torn cut L k).1) ∧ Hid (Below W3.heap.size W3 wr)) (fun _ _ kv _ => n - (intOf kv).toNat)
  case atStart => exact ⟨0, [], rfl, by omega, rfl, Lib.hid (World.ownsRow_nil _ _ _ _), Lib.hid (RFs.nil _), Lib.hid (Below.refl _ _)⟩
  case round =>
    obtain ⟨k, es, rfl, hkn, rfl, HOL, HR, HB⟩ := hrel
    obtain ⟨wo, hwo⟩ : ∃ wo, wo = wr := ⟨_, rfl⟩
    subst hwo
    have hcw := (HX.out.d0.below HB.out (by rw [HX.out.size]; omega)).six
    obtain ⟨q0, q1, q2, q3, q4, q5⟩ := hcw
    by_cases hlt : (k : Int) < (n : Int)
    · obtain ⟨f, hf⟩ := row_some (L := L) (i := k) (by have := HN.out; omega)
      obtain ⟨b, off, a1, c1, a2, c2, a3, c3, rfl, k0, k1, k2, k3, f1, f2, f3⟩ := HFL.out.form4 k f hf
      have hkk : Kin (mask F1 W3) wo := (unmask F1 W3).trans (Kin.below HB.out)
      replace k0 := hkk _ _ k0
      replace k1 := hkk _ _ k1
      replace k2 := hkk _ _ k2
      replace k3 := hkk _ _ k3
      have HF4 := Lib.hid (And.intro f1 (And.intro f2 f3))
      have HCK := Lib.hid (crL_step kb torn cut L k f hf)
      have hfn : f.n ≤ 1000000000 := by have h1 := usedN_take L k f hf; have h2 := usedN_le L (k + 1); omega
      have hcnt := crL_count kb torn cut L k
      have hcn1 := usedN_le L k
      obtain ⟨i0, hi0⟩ : ∃ i0, (crL kb torn cut L k).2 = i0 := ⟨_, rfl⟩
      rw [hi0] at hcnt HCK ⊢
      have hi0b : i0 ≤ 1000000000 := by omega
      obtain ⟨wq, hwq⟩ : ∃ wq, wo.alloc (.cells #[.string f.name, .slice a1 f.n c1, .slice a2 f.n c2, .slice a3 f.n c3] 82) = wq := ⟨_, rfl⟩
      have HBQ : Hid (Below wo.heap.size wo wq) := Lib.hid (by rw [← hwq]; exact below_alloc wo _)
      have hqq : wq.heap[wo.heap.size]? = some (.cells #[.string f.name, .slice a1 f.n c1, .slice a2 f.n c2, .slice a3 f.n c3] 82) := by rw [← hwq]; exact heap_alloc_last wo _
      have HCL : Hid (∀ wx, Below wq.heap.size wq wx → wx.cell? ⟨wo.heap.size, 0, none⟩ = some (.string f.name) ∧ wx.cell? ⟨wo.heap.size, 1, none⟩ = some (.slice a1 f.n c1) ∧ wx.cell? ⟨wo.heap.size, 2, none⟩ = some (.slice a2 f.n c2) ∧ wx.cell? ⟨wo.heap.size, 3, none⟩ = some (.slice a3 f.n c3) ∧ wx.cell? ⟨w.heap.size + 1, 0, none⟩ = some (.slice ak len ck) ∧ wx.cell? ⟨w.heap.size + 1, 1, none⟩ = some (.int .i64 torn) ∧ wx.cell? ⟨w.heap.size + 1, 2, none⟩ = some (.int .i64 cut)) := Lib.hid fun wx hb => by
        have hq2 : wx.heap[wo.heap.size]? = some (.cells #[.string f.name, .slice a1 f.n c1, .slice a2 f.n c2, .slice a3 f.n c3] 82) := by rw [hb.block _ (Array.getElem?_eq_some_iff.1 hqq).1]; exact hqq
        have hc := fun q => cell_of_row wx wo.heap.size q _ _ _ hq2
        have hcr : wx.heap[w.heap.size + 1]? = _ := (chain HB.out (chain HBQ.out hb)).block (w.heap.size + 1) (by rw [HX.out.size]; omega) |>.trans HX.out.f1
        have hc3 := fun q => cell_of_row wx (w.heap.size + 1) q _ _ _ hcr
        exact ⟨hc 0, hc 1, hc 2, hc 3, hc3 0, hc3 1, hc3 2⟩
      have HQQ := Lib.hid hqq
      clear hf f1 f2 f3 hkk hqq hcn1
      go_wp2
      go_loopw [5, 9, 10] (fun iv sv_ jv wr => ∃ j : Nat, jv = .int .i64 j ∧ j ≤ f.n ∧ iv = .int .i64 ((crS kb torn cut f i0 j).2 : Int) ∧ Hid (wr.ownsRow wq.heap.size 67 64 sv_ j (il .u8 (crS kb torn cut f i0 j).1)) ∧ Hid (Below wq.heap.size wq wr)) (fun _ _ jv _ => f.n - (intOf jv).toNat)
      case atStart => exact ⟨0, rfl, by omega, rfl, Lib.hid (World.ownsRow_nil _ _ _ _), Lib.hid (Below.refl _ _)⟩
      case round =>
        obtain ⟨j, rfl, hjn, rfl, HO, HBI⟩ := hrel
        obtain ⟨p0, p1, p2, p3, t0, t1, t2⟩ := HCL.out wr HBI.out
        by_cases hlj : (j : Int) < (f.n : Int)
        · have hj : j < f.n := by omega
          have hkin : Kin (mask F1 W3) wr := (unmask F1 W3).trans (Kin.below (chain HB.out (chain HBQ.out HBI.out)))
          obtain ⟨bA, oA, eA, hA1⟩ := (HF4.out.1.kin hkin).at_ j hj
          obtain ⟨bS, oS, eS, hA2⟩ := (HF4.out.2.1.kin hkin).at_ j hj
          obtain ⟨bW, oW, eW, hbw⟩ := (HF4.out.2.2.kin hkin).at_ j hj
          obtain ⟨z1, hz1⟩ : ∃ z1, chunk f.las j = z1 := ⟨_, rfl⟩
          obtain ⟨z2, hz2⟩ : ∃ z2, chunk f.seen j = z2 := ⟨_, rfl⟩
          obtain ⟨y, hy⟩ : ∃ y, f.ws.getD j false = y := ⟨_, rfl⟩
          obtain ⟨ic, hic⟩ : ∃ ic, (crS kb torn cut f i0 j).2 = ic := ⟨_, rfl⟩
          have HST : Hid ((crS kb torn cut f i0 (j + 1)).1 = (crS kb torn cut f i0 j).1 ++ secC kb torn cut z1 z2 y ic ∧ (crS kb torn cut f i0 (j + 1)).2 = if y = true then ic + 1 else ic) := Lib.hid (by rw [← hz1, ← hz2, ← hy, ← hic]; exact ⟨rfl, rfl⟩)
          have hicb : ic ≤ 2000000000 := by have h1 := crS_count kb torn cut f i0 j; omega
          rw [show (f.las.drop (j * 64)).take 64 = z1 from hz1] at hA1
          rw [show (f.seen.drop (j * 64)).take 64 = z2 from hz2] at hA2
          rw [hy] at hbw
          rw [hic]
          have HA1 := Lib.hid hA1
          have HA2 := Lib.hid hA2
          have HCL2 : Hid (∀ wx, Below wr.heap.size wr wx → At wx bS (oS + j * 64) z2 ∧ wx.cell? ⟨bW, oW + j, none⟩ = some (.bool y)) := Lib.hid fun wx hb => ⟨hA2.keep hb, cell_keep hb hbw⟩
          have hwi1 : IntKind.i64.wrap ((ic : Int) + 1) = (ic : Int) + 1 := IntWalk.i64_in _ (by omega)
          rw [eA] at p1 HCL
          rw [eS] at p2 HCL
          rw [eW] at p3 HCL
          clear hA1 hA2 hz1 hz2 hy hic hkin hj eA eS eW
          cases y with
          | false =>
            have HZL : Hid (z1.length = 64) := Lib.hid HA1.out.1
            have HSC : Hid (secC kb torn cut z1 z2 false ic = z1) := Lib.hid (by unfold secC; rw [if_neg (by simp)])
            rw [HSC.out] at HST
            go_wp2_with (first
              | (refine wpl_load_at rfl _ rfl bA (oA + j * 64) rfl z1 HA1.out ?_)
              | (rw [← HZ.out]; refine wpl_store_new rfl _ _ rfl rfl wr.heap.size rfl z1 HA1.out.1 rfl rfl wq HBI ?_; intro w6 HK6 HBQ6 HBI6; obtain ⟨p0, p1, p2, p3, t0, t1, t2⟩ := HCL.out w6 HBQ6.out; obtain ⟨hs6, hw6⟩ := HCL2.out w6 HBI6.out; have HA6 := Lib.hid hs6; clear hs6)
              | (refine wpl_load_sec (by rfl) _ rfl wr.heap.size rfl (z1) HK6.out ?_)
              | (refine wpl_build_sec rfl (.tmp 66) rfl (z1) HZL.out rfl ?_)
              | (at_builtin; refine wpl_app_fs rfl (.tmp 65) (.tmp 67) rfl wq.heap.size u9 j _ rfl (Lib.hid (own_keep HO.out (chain HBI6.out (below_alloc w6 (.cells (sv (z1)) 67))))) _ 1 (z1) rfl (Lib.hid (FS.blk (Blk.new w6 (z1) HZL.out))) (by omega) wq.heap.size wq (Lib.hid (chain HBQ6.out (below_alloc w6 (.cells (sv (z1)) 67)))) (Nat.le_refl _) (by rw [alloc_size]; have := HBQ6.out.size; omega) ?_; intro v7 w7 HO7 HB7 _))
            go_roundw
            case rel => exact ⟨j + 1, by go_num, by omega, by rw [HST.out.2]; rfl, Lib.hid (by rw [HST.out.1]; exact HO7.out), HB7⟩
            case measure => simp [intOf]; omega
          | true =>
            have hz1l : z1.length = 64 := HA1.out.1
            have hz2l : z2.length = 64 := HA2.out.1
            by_cases htt : (ic : Int) = torn
            · obtain ⟨zm, hzm⟩ : ∃ zm, mixN z1 z2 (cutN cut) = zm := ⟨_, rfl⟩
              have HZL : Hid (zm.length = 64) := Lib.hid (by rw [← hzm]; exact mixN_length _ _ _ hz1l hz2l (by unfold cutN; omega))
              have HSC : Hid (secC kb torn cut z1 z2 true ic = zm) := Lib.hid (by unfold secC; rw [if_pos rfl, if_pos htt, hzm])
              have HMX := Lib.hid fun W => rmix_any z1 z2 cut hz1l hz2l HC63.out W
              rw [hzm] at HMX
              rw [HSC.out] at HST
              clear hzm hz1l hz2l
              go_wp2_with (first
                | (refine wpl_load_at rfl _ rfl bA (oA + j * 64) rfl z1 HA1.out ?_)
                | (rw [← HZ.out]; refine wpl_store_new rfl _ _ rfl rfl wr.heap.size rfl z1 HA1.out.1 rfl rfl wq HBI ?_; intro w6 HK6 HBQ6 HBI6; obtain ⟨p0, p1, p2, p3, t0, t1, t2⟩ := HCL.out w6 HBQ6.out; obtain ⟨hs6, hw6⟩ := HCL2.out w6 HBI6.out; have HA6 := Lib.hid hs6; clear hs6))
              have HK6d := Lib.hid (HK6.out.keep (Below.refl w6.heap.size w6).drew)
              refine wp_region_held_drew (S := (fun W' => Below wr.heap.size wr W')) (by kernel_rfl) (HBI6.out.drew) (fun hS => ?_)
              refine wpAnyH_take (i := 1) (oi := ({ dst := some 46, op := Op.fieldAddr 82 (Operand.tmp 8) 2, type := 0, pos := "ref.go:290", after := #[], guard := none } : Oper)) (v := ?_) rfl (by kernel_rfl) (by kernel_rfl) (by kernel_rfl) (fun _ _ _ h => h) (Or.inl ⟨by rfl, ?_⟩) hS ?_
              rotate_left
              · (intro w hSw; (try dsimp only at hSw); go_simp; try with_reducible rfl)
              (try simp only [Act.put, List.setIfInBounds_toArray, List.set_cons_zero, List.set_cons_succ])
              refine wpAnyH_take (i := 2) (oi := ({ dst := some 47, op := Op.load 42 (Operand.tmp 46), type := 42, pos := "ref.go:290", after := #[{ on := 1, ground := Ground.data }], guard := none } : Oper)) (v := ?_) rfl (by kernel_rfl) (by kernel_rfl) (by kernel_rfl) (fun _ _ _ h => h) (Or.inl ⟨by rfl, ?_⟩) hS ?_
              rotate_left
              · (intro w hSw; (try dsimp only at hSw); obtain ⟨_, _, z5, _, _, _, z6⟩ := HCL.out w (chain HBI.out hSw); go_simp; try with_reducible rfl)
              (try simp only [Act.put, List.setIfInBounds_toArray, List.set_cons_zero, List.set_cons_succ])
              refine wpAnyH_take (i := 3) (oi := ({ dst := some 48, op := Op.move (Operand.tmp 10), type := 3, pos := "ref.go:290", after := #[], guard := none } : Oper)) (v := ?_) rfl (by kernel_rfl) (by kernel_rfl) (by kernel_rfl) (fun _ _ _ h => h) (Or.inl ⟨by rfl, ?_⟩) hS ?_
              rotate_left
              · (intro w hSw; (try dsimp only at hSw); go_simp; try with_reducible rfl)
              (try simp only [Act.put, List.setIfInBounds_toArray, List.set_cons_zero, List.set_cons_succ])
              refine wpAnyH_take (i := 4) (oi := ({ dst := some 49, op := Op.indexAddr 42 (Operand.tmp 47) (Operand.tmp 48), type := 0, pos := "ref.go:290", after := #[{ on := 2, ground := Ground.data }, { on := 3, ground := Ground.data }], guard := none } : Oper)) (v := ?_) rfl (by kernel_rfl) (by kernel_rfl) (by kernel_rfl) (fun _ _ _ h => h) (Or.inl ⟨by rfl, ?_⟩) hS ?_
              rotate_left
              · (intro w hSw; (try dsimp only at hSw); go_simp; try with_reducible rfl)
              (try simp only [Act.put, List.setIfInBounds_toArray, List.set_cons_zero, List.set_cons_succ])
              refine wpAnyH_take (i := 5) (oi := ({ dst := some 50, op := Op.load 67 (Operand.tmp 49), type := 67, pos := "ref.go:290", after := #[{ on := 4, ground := Ground.data }], guard := none } : Oper)) (v := ?_) rfl (by kernel_rfl) (by kernel_rfl) (by kernel_rfl) (fun _ _ _ h => h) (Or.inl ⟨by rfl, ?_⟩) hS ?_
              rotate_left
              · (intro w hSw; (try dsimp only at hSw); refine exec_load_at (.tmp 49) ?_ ?_ (HCL2.out _ hSw).1 <;> rfl)
              (try simp only [Act.put, List.setIfInBounds_toArray, List.set_cons_zero, List.set_cons_succ])
              refine wpAnyH_take (i := 6) (oi := ({ dst := some 51, op := Op.fieldAddr 36 (Operand.tmp 3) 2, type := 0, pos := "ref.go:290", after := #[], guard := none } : Oper)) (v := ?_) rfl (by kernel_rfl) (by kernel_rfl) (by kernel_rfl) (fun _ _ _ h => h) (Or.inl ⟨by rfl, ?_⟩) hS ?_
              rotate_left
              · (intro w hSw; (try dsimp only at hSw); go_simp; try with_reducible rfl)
              (try simp only [Act.put, List.setIfInBounds_toArray, List.set_cons_zero, List.set_cons_succ])
              refine wpAnyH_take (i := 7) (oi := ({ dst := some 52, op := Op.load 3 (Operand.tmp 51), type := 3, pos := "ref.go:290", after := #[{ on := 6, ground := Ground.data }], guard := none } : Oper)) (v := ?_) rfl (by kernel_rfl) (by kernel_rfl) (by kernel_rfl) (fun _ _ _ h => h) (Or.inl ⟨by rfl, ?_⟩) hS ?_
              rotate_left
              · (intro w hSw; (try dsimp only at hSw); obtain ⟨_, _, z5, _, _, _, z6⟩ := HCL.out w (chain HBI.out hSw); go_simp; try with_reducible rfl)
              (try simp only [Act.put, List.setIfInBounds_toArray, List.set_cons_zero, List.set_cons_succ])
              refine rg_one 0 ({ dst := some 45, op := Op.load 67 (Operand.tmp 11), type := 67, pos := "ref.go:290", after := #[], guard := none } : Oper) (by kernel_rfl) rfl (fun K hK => ?_)
              rw [if_pos (by rfl)]; refine wp_load_row 67 (.tmp 11) rfl wr.heap.size rfl _ (sv z1) (0, 0) _ HK6d.out.1 Try.underlying67 rfl (sv_info _ HK6d.out.2) ?_
              refine hK.out _ _ ?_ (fun hS1 => ?_)
              · (first | exact hS | exact chain hS hb | exact hN)
              clear hK K hS; have hS := hS1; clear hS1
              (try simp only [Act.put, List.setIfInBounds_toArray, List.set_cons_zero, List.set_cons_succ])
              refine rg_one 8 ({ dst := some 53, op := Op.call { callee := Callee.value (Operand.func 66), args := #[Operand.tmp 45, Operand.tmp 50, Operand.tmp 52], argTypes := #[67, 67, 3] }, type := 67, pos := "ref.go:290", after := #[{ on := 0, ground := Ground.data }, { on := 5, ground := Ground.data }, { on := 7, ground := Ground.data }], guard := none } : Oper) (by kernel_rfl) rfl (fun K hK => ?_)
              go_simp
              (go_at_call 66; (with_reducible refine (HMX.out _).mono ?_); rintro e w8 ⟨rfl, hb⟩; have HK8 := Lib.hid (HK6d.out.keep hb))
              refine hK.out _ _ ?_ (fun hS1 => ?_)
              · (first | exact hS | exact chain hS hb | exact hN)
              clear hK K hS; have hS := hS1; clear hS1
              (try simp only [Act.put, List.setIfInBounds_toArray, List.set_cons_zero, List.set_cons_succ])
              refine rg_one 9 ({ dst := none, op := Op.store 67 (Operand.tmp 11) (Operand.tmp 53), type := 0, pos := "ref.go:290", after := #[{ on := 8, ground := Ground.data }, { on := 8, ground := Ground.chain }, { on := 0, ground := Ground.phase }, { on := 1, ground := Ground.phase }, { on := 2, ground := Ground.phase }, { on := 3, ground := Ground.phase }, { on := 4, ground := Ground.phase }, { on := 5, ground := Ground.phase }, { on := 6, ground := Ground.phase }, { on := 7, ground := Ground.phase }, { on := 8, ground := Ground.phase }], guard := none } : Oper) (by kernel_rfl) rfl (fun K hK => ?_)
              rw [if_pos (by rfl)]; refine wp_store_row 67 (.tmp 11) (.tmp 53) rfl wr.heap.size (sv zm) rfl rfl _ (sv z1) HK8.out.1 (sv_info _ HZL.out) (by rw [sv_size, sv_size, HK8.out.2, HZL.out]) (sv_one _) ?_; have hN := below_row hS (Nat.le_refl _) (sv zm); have HK9 := Lib.hid (HK8.out.row HZL.out)
              refine hK.out _ _ ?_ (fun hS1 => ?_)
              · (first | exact hS | exact chain hS hb | exact hN)
              clear hK K hS; have hS := hS1; clear hS1
              (try simp only [Act.put])
              refine wpAnyH_done (by kernel_rfl) ?_ _
              have HBI9 := Lib.hid hS
              have HBQ9 := Lib.hid (chain HBI.out hS)
              obtain ⟨w9, hw9⟩ : ∃ w9, w8.setRow wr.heap.size (sv zm) = w9 := ⟨_, rfl⟩
              rw [hw9] at HK9 HBI9 HBQ9 ⊢
              clear hw9
              go_wp2_with (first
                | (refine wpl_load_sec (by rfl) _ rfl wr.heap.size rfl (zm) HK9.out ?_)
                | (refine wpl_build_sec rfl (.tmp 66) rfl (zm) HZL.out rfl ?_)
                | (at_builtin; refine wpl_app_fs rfl (.tmp 65) (.tmp 67) rfl wq.heap.size u9 j _ rfl (Lib.hid (own_keep HO.out (chain HBI9.out (below_alloc w9 (.cells (sv (zm)) 67))))) _ 1 (zm) rfl (Lib.hid (FS.blk (Blk.new w9 (zm) HZL.out))) (by omega) wq.heap.size wq (Lib.hid (chain HBQ9.out (below_alloc w9 (.cells (sv (zm)) 67)))) (Nat.le_refl _) (by rw [alloc_size]; have := HBQ9.out.size; omega) ?_; intro v7 w7 HO7 HB7 _))
              go_roundw
              case rel => exact ⟨j + 1, by go_num, by omega, by rw [HST.out.2, ← htt]; rfl, Lib.hid (by rw [HST.out.1]; exact HO7.out), HB7⟩
              case measure => simp [intOf]; omega
            · have HRW := Lib.hid (HRK.out.kin ((unmask F1 W3).trans (Kin.below (chain HB.out (chain HBQ.out HBI.out)))))
              cases hbit : bitI kb (ic : Int) with
              | true =>
                have HZL : Hid (z2.length = 64) := Lib.hid hz2l
                have HSC : Hid (secC kb torn cut z1 z2 true ic = z2) := Lib.hid (by unfold secC; rw [if_pos rfl, if_neg htt, if_pos hbit])
                have HBT := Lib.hid hbit
                rw [HSC.out] at HST
                clear hz1l hz2l hbit
                go_wp2_with (first
                  | (refine wpl_load_at rfl _ rfl bA (oA + j * 64) rfl z1 HA1.out ?_)
                  | (rw [← HZ.out]; refine wpl_store_new rfl _ _ rfl rfl wr.heap.size rfl z1 HA1.out.1 rfl rfl wq HBI ?_; intro w6 HK6 HBQ6 HBI6; obtain ⟨p0, p1, p2, p3, t0, t1, t2⟩ := HCL.out w6 HBQ6.out; obtain ⟨hs6, hw6⟩ := HCL2.out w6 HBI6.out; have HA6 := Lib.hid hs6; clear hs6)
                  | (go_at_call 67; (with_reducible refine (rbit_ri _ len kb ic w6 (HRW.out.keep HBI6.out) HKB.out (by unfold I63; omega)).mono ?_); rintro e w8 ⟨rfl, hb⟩; rw [HBT.out]; have HK8 := Lib.hid (HK6.out.keep hb); have HBI8 := Lib.hid (chain HBI6.out hb); have HBQ8 := Lib.hid (chain HBQ6.out hb); obtain ⟨p0, p1, p2, p3, t0, t1, t2⟩ := HCL.out w8 HBQ8.out; obtain ⟨hs8, hw8⟩ := HCL2.out w8 HBI8.out; have HA8 := Lib.hid hs8; clear hs8 hb)
                  | (refine wpl_load_at rfl _ rfl bS (oS + j * 64) rfl z2 HA8.out ?_)
                  | (refine wpList_store_row rfl 67 _ _ rfl wr.heap.size (sv z2) rfl rfl _ (sv z1) HK8.out.1 (sv_info _ HZL.out) (by rw [sv_size, sv_size, HK8.out.2, HZL.out]) (sv_one _) ?_; have HK9 := Lib.hid (HK8.out.row HZL.out); have HBI9 := Lib.hid (below_row HBI8.out (Nat.le_refl _) (sv z2)); have HBQ9 := Lib.hid (chain HBI.out HBI9.out); generalize hw9 : w8.setRow wr.heap.size (sv z2) = w9; rw [hw9] at HK9 HBI9 HBQ9)
                  | (refine wpl_load_sec (by rfl) _ rfl wr.heap.size rfl (z2) HK9.out ?_)
                  | (refine wpl_build_sec rfl (.tmp 66) rfl (z2) HZL.out rfl ?_)
                  | (at_builtin; refine wpl_app_fs rfl (.tmp 65) (.tmp 67) rfl wq.heap.size u9 j _ rfl (Lib.hid (own_keep HO.out (chain HBI9.out (below_alloc w9 (.cells (sv (z2)) 67))))) _ 1 (z2) rfl (Lib.hid (FS.blk (Blk.new w9 (z2) HZL.out))) (by omega) wq.heap.size wq (Lib.hid (chain HBQ9.out (below_alloc w9 (.cells (sv (z2)) 67)))) (Nat.le_refl _) (by rw [alloc_size]; have := HBQ9.out.size; omega) ?_; intro v7 w7 HO7 HB7 _))
                go_roundw
                case rel => exact ⟨j + 1, by go_num, by omega, by rw [HST.out.2]; rfl, Lib.hid (by rw [HST.out.1]; exact HO7.out), HB7⟩
                case measure => simp [intOf]; omega
              | false =>
                have HZL : Hid (z1.length = 64) := Lib.hid hz1l
                have HSC : Hid (secC kb torn cut z1 z2 true ic = z1) := Lib.hid (by unfold secC; rw [if_pos rfl, if_neg htt, if_neg (by rw [hbit]; simp)])
                have HBT := Lib.hid hbit
                rw [HSC.out] at HST
                clear hz1l hz2l hbit
                go_wp2_with (first
                  | (refine wpl_load_at rfl _ rfl bA (oA + j * 64) rfl z1 HA1.out ?_)
                  | (rw [← HZ.out]; refine wpl_store_new rfl _ _ rfl rfl wr.heap.size rfl z1 HA1.out.1 rfl rfl wq HBI ?_; intro w6 HK6 HBQ6 HBI6; obtain ⟨p0, p1, p2, p3, t0, t1, t2⟩ := HCL.out w6 HBQ6.out; obtain ⟨hs6, hw6⟩ := HCL2.out w6 HBI6.out; have HA6 := Lib.hid hs6; clear hs6)
                  | (go_at_call 67; (with_reducible refine (rbit_ri _ len kb ic w6 (HRW.out.keep HBI6.out) HKB.out (by unfold I63; omega)).mono ?_); rintro e w8 ⟨rfl, hb⟩; rw [HBT.out]; have HK8 := Lib.hid (HK6.out.keep hb); have HBI8 := Lib.hid (chain HBI6.out hb); have HBQ8 := Lib.hid (chain HBQ6.out hb); obtain ⟨p0, p1, p2, p3, t0, t1, t2⟩ := HCL.out w8 HBQ8.out; obtain ⟨hs8, hw8⟩ := HCL2.out w8 HBI8.out; have HA8 := Lib.hid hs8; clear hs8 hb)
                  | (refine wpl_load_sec (by rfl) _ rfl wr.heap.size rfl (z1) HK8.out ?_)
                  | (refine wpl_build_sec rfl (.tmp 66) rfl (z1) HZL.out rfl ?_)
                  | (at_builtin; refine wpl_app_fs rfl (.tmp 65) (.tmp 67) rfl wq.heap.size u9 j _ rfl (Lib.hid (own_keep HO.out (chain HBI8.out (below_alloc w8 (.cells (sv (z1)) 67))))) _ 1 (z1) rfl (Lib.hid (FS.blk (Blk.new w8 (z1) HZL.out))) (by omega) wq.heap.size wq (Lib.hid (chain HBQ8.out (below_alloc w8 (.cells (sv (z1)) 67)))) (Nat.le_refl _) (by rw [alloc_size]; have := HBQ8.out.size; omega) ?_; intro v7 w7 HO7 HB7 _))
                go_roundw
                case rel => exact ⟨j + 1, by go_num, by omega, by rw [HST.out.2]; rfl, Lib.hid (by rw [HST.out.1]; exact HO7.out), HB7⟩
                case measure => simp [intOf]; omega
        · have hq : j = f.n := by omega
          have hmk := make_bools_run f.n (by omega)
          obtain ⟨ns, hns⟩ : ∃ ns, (crS kb torn cut f i0 f.n).1 = ns := ⟨_, rfl⟩
          obtain ⟨ic, hic⟩ : ∃ ic, (crS kb torn cut f i0 f.n).2 = ic := ⟨_, rfl⟩
          rw [hq, hns] at HO
          rw [hq, hic]
          have HCF : Hid (crFile kb torn cut f i0 = ⟨f.name, f.n, ns, ns, List.replicate f.n false⟩) := Lib.hid (by unfold crFile; rw [hns])
          rw [hic, HCF.out] at HCK
          obtain ⟨a9, c9, rfl⟩ := own_slice HO.out
          have hlj2 : ¬ (f.n : Int) < (f.n : Int) := by omega
          clear hlj hns hic hq
          go_wp2
          have HW9 := Lib.hid (chain HBQ.out HBI.out)
          refine wp_region_held_drew (S := (fun W' => W'.cell? ⟨wo.heap.size, 0, none⟩ = some (.string f.name))) (by kernel_rfl) p0 (fun hS => ?_)
          refine wpAnyH_take (i := 0) (oi := ({ dst := some 69, op := Op.move (Operand.tmp 6), type := 27, pos := "ref.go:298", after := #[], guard := none } : Oper)) (v := ?_) rfl (by kernel_rfl) (by kernel_rfl) (by kernel_rfl) (fun _ _ _ h => h) (Or.inl ⟨by rfl, ?_⟩) hS ?_
          rotate_left
          · (intro w hSw; (try dsimp only at hSw); go_simp; try with_reducible rfl)
          (try simp only [Act.put, List.setIfInBounds_toArray, List.set_cons_zero, List.set_cons_succ])
          refine wpAnyH_take (i := 1) (oi := ({ dst := some 70, op := Op.fieldAddr 82 (Operand.tmp 8) 0, type := 0, pos := "ref.go:298", after := #[], guard := none } : Oper)) (v := ?_) rfl (by kernel_rfl) (by kernel_rfl) (by kernel_rfl) (fun _ _ _ h => h) (Or.inl ⟨by rfl, ?_⟩) hS ?_
          rotate_left
          · (intro w hSw; (try dsimp only at hSw); go_simp; try with_reducible rfl)
          (try simp only [Act.put, List.setIfInBounds_toArray, List.set_cons_zero, List.set_cons_succ])
          refine wpAnyH_take (i := 2) (oi := ({ dst := some 71, op := Op.load 9 (Operand.tmp 70), type := 9, pos := "ref.go:298", after := #[{ on := 1, ground := Ground.data }], guard := none } : Oper)) (v := ?_) rfl (by kernel_rfl) (by kernel_rfl) (by kernel_rfl) (fun _ _ _ h => h) (Or.inl ⟨by rfl, ?_⟩) hS ?_
          rotate_left
          · (intro w hSw; (try dsimp only at hSw); have z0 := hSw; go_simp; try with_reducible rfl)
          (try simp only [Act.put, List.setIfInBounds_toArray, List.set_cons_zero, List.set_cons_succ])
          refine wpAnyH_take (i := 3) (oi := ({ dst := some 72, op := Op.move (Operand.tmp 9), type := 42, pos := "ref.go:298", after := #[], guard := none } : Oper)) (v := ?_) rfl (by kernel_rfl) (by kernel_rfl) (by kernel_rfl) (fun _ _ _ h => h) (Or.inl ⟨by rfl, ?_⟩) hS ?_
          rotate_left
          · (intro w hSw; (try dsimp only at hSw); go_simp; try with_reducible rfl)
          (try simp only [Act.put, List.setIfInBounds_toArray, List.set_cons_zero, List.set_cons_succ])
          refine wpAnyH_take (i := 4) (oi := ({ dst := some 73, op := Op.move (Operand.tmp 9), type := 42, pos := "ref.go:298", after := #[], guard := none } : Oper)) (v := ?_) rfl (by kernel_rfl) (by kernel_rfl) (by kernel_rfl) (fun _ _ _ h => h) (Or.inl ⟨by rfl, ?_⟩) hS ?_
          rotate_left
          · (intro w hSw; (try dsimp only at hSw); go_simp; try with_reducible rfl)
          (try simp only [Act.put, List.setIfInBounds_toArray, List.set_cons_zero, List.set_cons_succ])
          refine wpAnyH_take (i := 5) (oi := ({ dst := some 74, op := Op.move (Operand.tmp 9), type := 42, pos := "ref.go:298", after := #[], guard := none } : Oper)) (v := ?_) rfl (by kernel_rfl) (by kernel_rfl) (by kernel_rfl) (fun _ _ _ h => h) (Or.inl ⟨by rfl, ?_⟩) hS ?_
          rotate_left
          · (intro w hSw; (try dsimp only at hSw); go_simp; try with_reducible rfl)
          (try simp only [Act.put, List.setIfInBounds_toArray, List.set_cons_zero, List.set_cons_succ])
          refine wpAnyH_take (i := 6) (oi := ({ dst := some 75, op := Op.call { callee := Callee.builtin Builtin.len, args := #[Operand.tmp 74], argTypes := #[42] }, type := 3, pos := "ref.go:298", after := #[{ on := 5, ground := Ground.data }], guard := none } : Oper)) (v := ?_) rfl (by kernel_rfl) (by kernel_rfl) (by kernel_rfl) (fun _ _ _ h => h) (Or.inl ⟨by rfl, ?_⟩) hS ?_
          rotate_left
          · (intro w hSw; (try dsimp only at hSw); go_simp; try with_reducible rfl)
          (try simp only [Act.put, List.setIfInBounds_toArray, List.set_cons_zero, List.set_cons_succ])
          refine rg_one 7 ({ dst := some 76, op := Op.makeSlice 80 (Operand.tmp 75) (Operand.tmp 75), type := 80, pos := "ref.go:298", after := #[{ on := 6, ground := Ground.data }, { on := 6, ground := Ground.data }], guard := none } : Oper) (by kernel_rfl) rfl (fun K hK => ?_)
          go_simp
          (have hb : Below wr.drew.heap.size wr.drew (wr.alloc (.cells (Array.replicate f.n (Value.bool false)) 4)).drew := below_drew_alloc wr (.cells (Array.replicate f.n (Value.bool false)) 4))
          refine hK.out _ _ ?_ (fun hS1 => ?_)
          · (first | exact hS | exact cell_keep hb hS | exact hN)
          clear hK K hS; have hS := hS1; clear hS1
          (try simp only [Act.put, List.setIfInBounds_toArray, List.set_cons_zero, List.set_cons_succ])
          refine wpAnyH_take (i := 8) (oi := ({ dst := some 77, op := Op.build 82 #[(0, Operand.tmp 71), (1, Operand.tmp 72), (2, Operand.tmp 73), (3, Operand.tmp 76)], type := 82, pos := "ref.go:298", after := #[{ on := 2, ground := Ground.data }, { on := 3, ground := Ground.data }, { on := 4, ground := Ground.data }, { on := 7, ground := Ground.data }], guard := none } : Oper)) (v := ?_) rfl (by kernel_rfl) (by kernel_rfl) (by kernel_rfl) (fun _ _ _ h => h) (Or.inl ⟨by rfl, ?_⟩) hS ?_
          rotate_left
          · (intro w hSw; (try dsimp only at hSw); go_simp; try with_reducible rfl)
          (try simp only [Act.put, List.setIfInBounds_toArray, List.set_cons_zero, List.set_cons_succ])
          refine rg_one 9 ({ dst := some 78, op := Op.buildSlice 27 1 #[(0, Operand.tmp 77)], type := 27, pos := "ref.go:298", after := #[{ on := 8, ground := Ground.data }], guard := none } : Oper) (by kernel_rfl) rfl (fun K hK => ?_)
          go_simp
          (have hb : Below (wr.alloc (.cells (Array.replicate f.n (Value.bool false)) 4)).drew.heap.size (wr.alloc (.cells (Array.replicate f.n (Value.bool false)) 4)).drew ((wr.alloc (.cells (Array.replicate f.n (Value.bool false)) 4)).alloc (.cells #[.string f.name, .slice a9 f.n c9, .slice a9 f.n c9, .slice (some ⟨wr.heap.size, 0, none⟩) f.n f.n] 82)).drew := below_drew_alloc (wr.alloc (.cells (Array.replicate f.n (Value.bool false)) 4)) (.cells #[.string f.name, .slice a9 f.n c9, .slice a9 f.n c9, .slice (some ⟨wr.heap.size, 0, none⟩) f.n f.n] 82); have HWA : Hid (Below wo.heap.size wo ((wr.alloc (.cells (Array.replicate f.n (Value.bool false)) 4)).alloc (.cells #[.string f.name, .slice a9 f.n c9, .slice a9 f.n c9, .slice (some ⟨wr.heap.size, 0, none⟩) f.n f.n] 82)).drew) := Lib.hid (chain HW9.out (chain (below_alloc wr (.cells (Array.replicate f.n (Value.bool false)) 4)) (below_alloc (wr.alloc (.cells (Array.replicate f.n (Value.bool false)) 4)) (.cells #[.string f.name, .slice a9 f.n c9, .slice a9 f.n c9, .slice (some ⟨wr.heap.size, 0, none⟩) f.n f.n] 82)).drew)); have HOA := Lib.hid (own_keep HOL.out HWA.out))
          refine hK.out _ _ ?_ (fun hS1 => ?_)
          · (first | exact hS | exact cell_keep hb hS | exact hN)
          clear hK K hS; have hS := hS1; clear hS1
          (try simp only [Act.put, List.setIfInBounds_toArray, List.set_cons_zero, List.set_cons_succ])
          refine rg_one 10 ({ dst := some 79, op := Op.call { callee := Callee.builtin Builtin.append, args := #[Operand.tmp 69, Operand.tmp 78], argTypes := #[27, 27] }, type := 27, pos := "ref.go:298", after := #[{ on := 0, ground := Ground.data }, { on := 9, ground := Ground.data }], guard := none } : Oper) (by kernel_rfl) rfl (fun K hK => ?_)
          rw [if_pos (by rfl)]; refine wp_app_file (.tmp 69) (.tmp 78) rfl W3.heap.size u6 k es rfl HOA.out (wr.heap.size + 1) [.string f.name, .slice a9 f.n c9, .slice a9 f.n c9, .slice (some ⟨wr.heap.size, 0, none⟩) f.n f.n] rfl (by have h := heap_alloc_last (wr.alloc (.cells (Array.replicate f.n (Value.bool false)) 4)) (.cells #[.string f.name, .slice a9 f.n c9, .slice a9 f.n c9, .slice (some ⟨wr.heap.size, 0, none⟩) f.n f.n] 82); rw [alloc_size] at h; exact h) rfl (by simp [Value.oneCell']) (by omega) (Nat.le_trans HB.out.size HWA.out.size) ?_; intro v10 w10 ho10 hg10; have hN : w10.cell? ⟨wo.heap.size, 0, none⟩ = some (.string f.name) := (World.cell?_of_block (hg10.block wo.heap.size (World.block_lt_of_cell? _ _ hS) (fun e => by have := (HOL.out.lt _ e.symm).2; omega))).trans hS
          refine hK.out _ _ ?_ (fun hS1 => ?_)
          · (first | exact hS | exact cell_keep hb hS | exact hN)
          clear hK K hS; have hS := hS1; clear hS1
          (try simp only [Act.put, List.setIfInBounds_toArray, List.set_cons_zero, List.set_cons_succ])
          refine wpAnyH_take (i := 11) (oi := ({ dst := some 6, op := Op.assign (Operand.tmp 79), type := 27, pos := "ref.go:298", after := #[{ on := 10, ground := Ground.data }, { on := 10, ground := Ground.chain }, { on := 0, ground := Ground.phase }, { on := 1, ground := Ground.phase }, { on := 2, ground := Ground.phase }, { on := 3, ground := Ground.phase }, { on := 4, ground := Ground.phase }, { on := 5, ground := Ground.phase }, { on := 6, ground := Ground.phase }, { on := 7, ground := Ground.phase }, { on := 8, ground := Ground.phase }, { on := 9, ground := Ground.phase }, { on := 10, ground := Ground.phase }], guard := none } : Oper)) (v := ?_) rfl (by kernel_rfl) (by kernel_rfl) (by kernel_rfl) (fun _ _ _ h => h) (Or.inl ⟨by rfl, ?_⟩) hS ?_
          rotate_left
          · (intro w hSw; (try dsimp only at hSw); go_simp; try with_reducible rfl)
          (try simp only [Act.put, List.setIfInBounds_toArray, List.set_cons_zero, List.set_cons_succ])
          refine wpAnyH_done (by kernel_rfl) ?_ _
          have hkA : Kin (tmask F1 W3.heap.size 82 wo) (tmask F1 W3.heap.size 82 w10) := (tmask_below HWA.out).trans (tmask_grown HOA.out (Nat.le_refl _) hg10)
          have hbBA : Below (wr.alloc (.cells (Array.replicate f.n (Value.bool false)) 4)).heap.size (wr.alloc (.cells (Array.replicate f.n (Value.bool false)) 4)) ((wr.alloc (.cells (Array.replicate f.n (Value.bool false)) 4)).alloc (.cells #[.string f.name, .slice a9 f.n c9, .slice a9 f.n c9, .slice (some ⟨wr.heap.size, 0, none⟩) f.n f.n] 82)).drew := (below_alloc (wr.alloc (.cells (Array.replicate f.n (Value.bool false)) 4)) (.cells #[.string f.name, .slice a9 f.n c9, .slice a9 f.n c9, .slice (some ⟨wr.heap.size, 0, none⟩) f.n f.n] 82)).drew
          have hkB : Kin (tmask F1 W3.heap.size 82 (wr.alloc (.cells (Array.replicate f.n (Value.bool false)) 4))) (tmask F1 W3.heap.size 82 w10) := (tmask_below hbBA).trans (tmask_grown HOA.out (Nat.le_refl _) hg10)
          have hkI : Kin (tmask F1 W3.heap.size 82 wr) (tmask F1 W3.heap.size 82 w10) := (tmask_below (below_alloc wr (.cells (Array.replicate f.n (Value.bool false)) 4))).trans hkB
          have hft : Foot F1 wq.heap.size := HFT.out.mono (chain HB.out HBQ.out).size
          have hfs := (FS.own (own_tmask (T := 82) (B := W3.heap.size) hft (by decide) HO.out)).kin hkI
          have hbs : BS (tmask F1 W3.heap.size 82 w10) (.slice (some ⟨wr.heap.size, 0, none⟩) f.n f.n) f.n (List.replicate f.n false) := (CS.own (own_tmask (T := 82) (B := W3.heap.size) (hft.mono HBI.out.size) (by decide) (own_bools wr f.n (by unfold maxLen; omega) 4))).kin hkB
          have HRN := Lib.hid (RFs.snoc (HR.out.kin hkA) (show RF (tmask F1 W3.heap.size 82 w10) [.string f.name, .slice a9 f.n c9, .slice a9 f.n c9, .slice (some ⟨wr.heap.size, 0, none⟩) f.n f.n] ⟨f.name, f.n, ns, ns, List.replicate f.n false⟩ from ⟨_, _, _, rfl, hfs, hfs, hbs⟩))
          have HBN : Hid (Below W3.heap.size W3 w10) := Lib.hid ((chain HB.out HWA.out).grown hg10 (Nat.le_trans HB.out.size HWA.out.size) (fun q hq => (HOL.out.lt q hq).1))
          have HON := Lib.hid ho10
          clear hkA hkB hkI hbBA hft hfs hbs
          go_wp2
          exact ⟨⟨k + 1, es ++ [_], by go_num, by omega, by rw [HCK.out], HON, Lib.hid (by rw [HCK.out]; exact HRN.out), HBN⟩, by simp [intOf]; omega⟩
    · have hq : k = n := by omega
      subst hq
      obtain ⟨a9, c9, rfl⟩ := own_slice HOL.out
      have hd2 := HX.out.d2.below HB.out (by rw [HX.out.size]; omega)
      have HD2 := Lib.hid hd2
      have HBW := Lib.hid (chain HX.out.below HB.out)
      have HLL := Lib.hid (show L.length = k from HN.out)
      clear hd2
      go_wp2_with (first
        | (refine wpList_store_row rfl 29 _ _ rfl (w.heap.size + 2) #[.slice a9 k c9, .int .i64 d.cap, .int .i64 d.ops, .bool false, .bool false, .int .i64 0] rfl rfl _ dz HD2.out.1 disk_info (by rfl) (by simp [Value.oneCell']) ?_))
      have hbl := below_row HBW.out (show w.heap.size ≤ w.heap.size + 2 by omega) #[.slice a9 k c9, .int .i64 d.cap, .int .i64 d.ops, .bool false, .bool false, .int .i64 0]
      refine bodyPost_ret_by (v := .agg #[.slice a9 k c9, .int .i64 d.cap, .int .i64 d.ops, .bool false, .bool false, .int .i64 0]) (results_cell_row rfl _ _ (w.heap.size + 2) _ _ (0, 0) _ rfl (HD2.out.row (cs' := #[.slice a9 k c9, .int .i64 d.cap, .int .i64 d.ops, .bool false, .bool false, .int .i64 0]) rfl).1 Try.underlying29 rfl disk_info) rfl ⟨_, rfl, ⟨.slice a9 k c9, ?_, ?_⟩, hbl⟩
      · simp only [dv, AD.crashR]
      · have hlen : (crL kb torn cut L k).1.length = k := crL_length kb torn cut L k (by rw [HLL.out]; exact Nat.le_refl _)
        have h1 : FLs (mask F1 wo) (.slice a9 k c9) (crL kb torn cut L k).1 := by
          refine ⟨es, ?_, HR.out.kin (tmask_mask _ _ _ _)⟩
          rw [hlen]
          exact CS.own (own_mask HFT.out HOL.out)
        have h2 := (h1.kin ((Ext.refl F1 wo).setRow (w.heap.size + 2) HIN2.out #[.slice a9 k c9, .int .i64 d.cap, .int .i64 d.ops, .bool false, .bool false, .int .i64 0]).kin).kin (mask_mono HM1.out _)
        show FLs _ _ (crL kb torn cut d.L d.L.length).1
        rw [HLE.out, HLL.out]
        exact h2
end Go.Proofs.Ytpnialanmidekaa
