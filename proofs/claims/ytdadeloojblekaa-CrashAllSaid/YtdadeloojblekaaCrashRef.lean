/-
  WHAT THE DOCUMENT'S ANSWERS OF LAYER 9 (crash) ANSWER: the reference's Limit, Apply. No condition of ours but bounds on lengths.
-/
import Derived.Test.YtdadeloojblekaaMix
import Derived.Test.YtdadeloojblekaaBit
import Derived.Test.YtdadeloojblekaaSecsB
import Derived.Test.YtdadeloojblekaaView
import Derived.Test.YtdadeloojblekaaRegion
namespace Go.Proofs.Ytdadeloojblekaa
open Go.RowKit
def sct (l : List Int) (j : Nat) : List Int := (l.drop (j * 64)).take 64
theorem sct_length (l : List Int) (n j : Nat) (h : l.length = n * 64) (hj : j < n) : (sct l j).length = 64 := by simp [sct]; omega
/-- one sector behind a crash, if it waits as the i-th one -/
def leaves (kb : List Int) (torn cut : Int) (o n : List Int) (i : Nat) : List Int :=
  if (i : Int) = torn then mixN o n (cutN cut) else if bitI kb (i : Int) = true then n else o
theorem leaves_length (kb : List Int) (torn cut : Int) (o n : List Int) (i : Nat) (ho : o.length = 64) (hn : n.length = 64) : (leaves kb torn cut o n i).length = 64 := by
  unfold leaves
  split
  · exact mixN_length _ _ _ ho hn (by unfold cutN; omega)
  · split <;> assumption
/-- the first j of them -/
def applyN (kb : List Int) (torn cut : Int) (os ns : List Int) : Nat → List Int
  | 0 => []
  | j + 1 => applyN kb torn cut os ns j ++ leaves kb torn cut (sct os j) (sct ns j) j
theorem applyN_length (kb : List Int) (torn cut : Int) (os ns : List Int) (n m : Nat) (ho : os.length = n * 64) (hn : ns.length = m * 64) : ∀ j, j ≤ n → j ≤ m → (applyN kb torn cut os ns j).length = j * 64
  | 0, _, _ => rfl
  | j + 1, h, h2 => by
    rw [applyN, List.length_append, applyN_length kb torn cut os ns n m ho hn j (by omega) (by omega), leaves_length _ _ _ _ _ _ (sct_length _ n _ ho (by omega)) (sct_length _ m _ hn (by omega))]; omega
/-- a crash -/
structure AC where
  len : Nat
  kb : List Int
  torn : Int
  cut : Int
theorem limit_any (n m : Int) (h : I63 n) (h2 : 0 ≤ m ∧ m ≤ 1000000) (w : World) : Calls Try.prog 26 #[.int .i64 n, .int .i64 m] w fun e w' => e = .returned (.int .i64 (min (max n 0) m)) ∧ w = w' := by
  unfold I63 at h
  go_enter Try.func26, Try.ntmps26
  by_cases h0 : n < 0
  · go_wp2
    go_ret
    exact ⟨ret_int (by omega), rfl⟩
  · by_cases h1 : n > m
    · go_wp2
      go_ret
      exact ⟨ret_int (by omega), rfl⟩
    · go_wp2
      go_ret
      exact ⟨ret_int (by omega), rfl⟩
set_option maxRecDepth 8000 in
set_option maxHeartbeats 4000000 in
theorem rapply_any (v1 v2 vk : Value) (n m klen : Nat) (os ns kb : List Int) (torn cut : Int) (w : World) (h1 : FS w v1 n os) (h2 : FS w v2 m ns) (hk : RI .u8 w vk klen kb) (hkb : Bytes kb) (ht : I63 torn) (hc : I63 cut) (hn : n ≤ 1000000) (_hm : m ≤ 1000000) :
    Calls Try.prog 9 #[v1, v2, .agg #[vk, .int .i64 torn, .int .i64 cut]] w fun e w' => ∃ v', e = .returned v' ∧ FS w' v' (min n m) (applyN kb torn cut os ns (min n m)) ∧ Below w.heap.size w w' := by
  have H1 := Lib.hid h1
  have H2 := Lib.hid h2
  have HK := Lib.hid hk
  have HKB := Lib.hid hkb
  have HT := Lib.hid ht
  have HC := Lib.hid hc
  obtain ⟨a1, c1, rfl, hl1, hc1, hm1, _⟩ := id h1
  obtain ⟨a2, c2, rfl, hl2, hc2, hm2, _⟩ := id h2
  obtain ⟨ak, ck, rfl, _⟩ := id hk
  obtain ⟨w0, hw0⟩ : ∃ w0, w.alloc (.cells #[.slice ak klen ck, .int .i64 torn, .int .i64 cut] 25) = w0 := ⟨_, rfl⟩
  have HB0 : Hid (Below w.heap.size w w0) := Lib.hid (by rw [← hw0]; exact below_alloc _ _)
  have hcx := fun j => cell_of_row w0 w.heap.size j _ _ _ (by rw [← hw0]; exact heap_alloc_last w (.cells #[.slice ak klen ck, .int .i64 torn, .int .i64 cut] 25))
  have HCX := Lib.hid (And.intro (hcx 0) (And.intro (hcx 1) (hcx 2)))
  have HL1 := Lib.hid hl1
  have HL2 := Lib.hid hl2
  obtain ⟨q, hq⟩ : ∃ q, min n m = q := ⟨_, rfl⟩
  rw [hq]
  have hqn : q ≤ n := by omega
  have hqm : q ≤ m := by omega
  have HQ := Lib.hid hq
  clear h1 h2 hk hkb ht hc hcx hl1 hl2 hq
  go_enter Try.func9, Try.ntmps9
  go_wp2_with (rw [hw0])
  clear hw0
  go_loopw [7, 8] (fun x iv wr => ∃ i : Nat, iv = .int .i64 i ∧ i ≤ q ∧ Hid (wr.ownsRow w0.heap.size 31 64 x i (il .u8 (applyN kb torn cut os ns i))) ∧ Hid (Below w0.heap.size w0 wr)) (fun _ iv _ => q - (intOf iv).toNat)
  case atStart => exact ⟨0, rfl, by omega, Lib.hid (by simpa [applyN, il] using World.ownsRow_nil _ _ _ _), Lib.hid (Below.refl _ _)⟩
  case round =>
    obtain ⟨i, rfl, hi, HO, HB⟩ := hrel
    by_cases hlt : i < q
    · have hlt1 : (i : Int) < (n : Int) := by omega
      have hlt2 : (i : Int) < (m : Int) := by omega
      obtain ⟨b1, o1, rfl, ha1⟩ := (H1.out.keep HB0.out).at_ i (by omega)
      obtain ⟨b2, o2, rfl, ha2⟩ := (H2.out.keep HB0.out).at_ i (by omega)
      obtain ⟨z1, hz1⟩ : ∃ z1, sct os i = z1 := ⟨_, rfl⟩
      obtain ⟨z2, hz2⟩ : ∃ z2, sct ns i = z2 := ⟨_, rfl⟩
      rw [show (os.drop (i * 64)).take 64 = z1 from hz1] at ha1
      rw [show (ns.drop (i * 64)).take 64 = z2 from hz2] at ha2
      have HA1 := Lib.hid ha1
      have HA2 := Lib.hid ha2
      have HST : Hid (applyN kb torn cut os ns (i + 1) = applyN kb torn cut os ns i ++ leaves kb torn cut z1 z2 i) := Lib.hid (by rw [← hz1, ← hz2]; rfl)
      have z0 := cell_keep HB.out HCX.out.1
      have t1 := cell_keep HB.out HCX.out.2.1
      have t2 := cell_keep HB.out HCX.out.2.2
      clear ha1 ha2 hz1 hz2
      by_cases htt : (i : Int) = torn
      · have HSC : Hid (leaves kb torn cut z1 z2 i = mixN z1 z2 (cutN cut)) := Lib.hid (by unfold leaves; rw [if_pos htt])
        subst htt
        have HMX := Lib.hid fun W => rmix_any z1 z2 cut HA1.out.1 HA2.out.1 HC.out W
        obtain ⟨zm, hzm⟩ : ∃ zm, mixN z1 z2 (cutN cut) = zm := ⟨_, rfl⟩
        have HZL : Hid (zm.length = 64) := Lib.hid (by rw [← hzm]; exact mixN_length _ _ _ HA1.out.1 HA2.out.1 (by unfold cutN; omega))
        rw [hzm] at HMX HSC
        rw [HSC.out] at HST
        clear hzm
        go_wp2_with fail
        refine wp_region_held_drew (S := (fun W' => Below w0.heap.size w0 W')) (by kernel_rfl) (HB.out.drew) (fun hS => ?_)
        refine wpAnyH_take (i := 0) (oi := ({ dst := some 25, op := Op.move (Operand.tmp 7), type := 22, pos := "ref.go:15", after := #[], guard := none } : Oper)) (v := ?_) rfl (by kernel_rfl) (by kernel_rfl) (by kernel_rfl) (fun _ _ _ h => h) (Or.inl ⟨by rfl, ?_⟩) hS ?_
        rotate_left
        · (intro w hSw; (try dsimp only at hSw); go_simp; try with_reducible rfl)
        (try simp only [Act.put, List.setIfInBounds_toArray, List.set_cons_zero, List.set_cons_succ])
        refine wpAnyH_take (i := 1) (oi := ({ dst := some 26, op := Op.move (Operand.tmp 0), type := 22, pos := "ref.go:15", after := #[], guard := none } : Oper)) (v := ?_) rfl (by kernel_rfl) (by kernel_rfl) (by kernel_rfl) (fun _ _ _ h => h) (Or.inl ⟨by rfl, ?_⟩) hS ?_
        rotate_left
        · (intro w hSw; (try dsimp only at hSw); go_simp; try with_reducible rfl)
        (try simp only [Act.put, List.setIfInBounds_toArray, List.set_cons_zero, List.set_cons_succ])
        refine wpAnyH_take (i := 2) (oi := ({ dst := some 27, op := Op.move (Operand.tmp 8), type := 3, pos := "ref.go:15", after := #[], guard := none } : Oper)) (v := ?_) rfl (by kernel_rfl) (by kernel_rfl) (by kernel_rfl) (fun _ _ _ h => h) (Or.inl ⟨by rfl, ?_⟩) hS ?_
        rotate_left
        · (intro w hSw; (try dsimp only at hSw); go_simp; try with_reducible rfl)
        (try simp only [Act.put, List.setIfInBounds_toArray, List.set_cons_zero, List.set_cons_succ])
        refine wpAnyH_take (i := 3) (oi := ({ dst := some 28, op := Op.indexAddr 22 (Operand.tmp 26) (Operand.tmp 27), type := 0, pos := "ref.go:15", after := #[{ on := 1, ground := Ground.data }, { on := 2, ground := Ground.data }], guard := none } : Oper)) (v := ?_) rfl (by kernel_rfl) (by kernel_rfl) (by kernel_rfl) (fun _ _ _ h => h) (Or.inl ⟨by rfl, ?_⟩) hS ?_
        rotate_left
        · (intro w hSw; (try dsimp only at hSw); go_simp; try with_reducible rfl)
        (try simp only [Act.put, List.setIfInBounds_toArray, List.set_cons_zero, List.set_cons_succ])
        refine wpAnyH_take (i := 4) (oi := ({ dst := some 29, op := Op.load 31 (Operand.tmp 28), type := 31, pos := "ref.go:15", after := #[{ on := 3, ground := Ground.data }], guard := none } : Oper)) (v := ?_) rfl (by kernel_rfl) (by kernel_rfl) (by kernel_rfl) (fun _ _ _ h => h) (Or.inl ⟨by rfl, ?_⟩) hS ?_
        rotate_left
        · (intro w hSw; (try dsimp only at hSw); refine exec_load_at (.tmp 28) ?_ ?_ (HA1.out.keep hSw) <;> rfl)
        (try simp only [Act.put, List.setIfInBounds_toArray, List.set_cons_zero, List.set_cons_succ])
        refine wpAnyH_take (i := 5) (oi := ({ dst := some 30, op := Op.move (Operand.tmp 1), type := 22, pos := "ref.go:15", after := #[], guard := none } : Oper)) (v := ?_) rfl (by kernel_rfl) (by kernel_rfl) (by kernel_rfl) (fun _ _ _ h => h) (Or.inl ⟨by rfl, ?_⟩) hS ?_
        rotate_left
        · (intro w hSw; (try dsimp only at hSw); go_simp; try with_reducible rfl)
        (try simp only [Act.put, List.setIfInBounds_toArray, List.set_cons_zero, List.set_cons_succ])
        refine wpAnyH_take (i := 6) (oi := ({ dst := some 31, op := Op.move (Operand.tmp 8), type := 3, pos := "ref.go:15", after := #[], guard := none } : Oper)) (v := ?_) rfl (by kernel_rfl) (by kernel_rfl) (by kernel_rfl) (fun _ _ _ h => h) (Or.inl ⟨by rfl, ?_⟩) hS ?_
        rotate_left
        · (intro w hSw; (try dsimp only at hSw); go_simp; try with_reducible rfl)
        (try simp only [Act.put, List.setIfInBounds_toArray, List.set_cons_zero, List.set_cons_succ])
        refine wpAnyH_take (i := 7) (oi := ({ dst := some 32, op := Op.indexAddr 22 (Operand.tmp 30) (Operand.tmp 31), type := 0, pos := "ref.go:15", after := #[{ on := 5, ground := Ground.data }, { on := 6, ground := Ground.data }], guard := none } : Oper)) (v := ?_) rfl (by kernel_rfl) (by kernel_rfl) (by kernel_rfl) (fun _ _ _ h => h) (Or.inl ⟨by rfl, ?_⟩) hS ?_
        rotate_left
        · (intro w hSw; (try dsimp only at hSw); go_simp; try with_reducible rfl)
        (try simp only [Act.put, List.setIfInBounds_toArray, List.set_cons_zero, List.set_cons_succ])
        refine wpAnyH_take (i := 8) (oi := ({ dst := some 33, op := Op.load 31 (Operand.tmp 32), type := 31, pos := "ref.go:15", after := #[{ on := 7, ground := Ground.data }], guard := none } : Oper)) (v := ?_) rfl (by kernel_rfl) (by kernel_rfl) (by kernel_rfl) (fun _ _ _ h => h) (Or.inl ⟨by rfl, ?_⟩) hS ?_
        rotate_left
        · (intro w hSw; (try dsimp only at hSw); refine exec_load_at (.tmp 32) ?_ ?_ (HA2.out.keep hSw) <;> rfl)
        (try simp only [Act.put, List.setIfInBounds_toArray, List.set_cons_zero, List.set_cons_succ])
        refine wpAnyH_take (i := 9) (oi := ({ dst := some 34, op := Op.fieldAddr 25 (Operand.tmp 5) 2, type := 0, pos := "ref.go:15", after := #[], guard := none } : Oper)) (v := ?_) rfl (by kernel_rfl) (by kernel_rfl) (by kernel_rfl) (fun _ _ _ h => h) (Or.inl ⟨by rfl, ?_⟩) hS ?_
        rotate_left
        · (intro w hSw; (try dsimp only at hSw); go_simp; try with_reducible rfl)
        (try simp only [Act.put, List.setIfInBounds_toArray, List.set_cons_zero, List.set_cons_succ])
        refine wpAnyH_take (i := 10) (oi := ({ dst := some 35, op := Op.load 3 (Operand.tmp 34), type := 3, pos := "ref.go:15", after := #[{ on := 9, ground := Ground.data }], guard := none } : Oper)) (v := ?_) rfl (by kernel_rfl) (by kernel_rfl) (by kernel_rfl) (fun _ _ _ h => h) (Or.inl ⟨by rfl, ?_⟩) hS ?_
        rotate_left
        · (intro w hSw; (try dsimp only at hSw); have z5 := cell_keep hSw HCX.out.2.2; go_simp; try with_reducible rfl)
        (try simp only [Act.put, List.setIfInBounds_toArray, List.set_cons_zero, List.set_cons_succ])
        refine rg_one 11 ({ dst := some 36, op := Op.call { callee := Callee.value (Operand.func 14), args := #[Operand.tmp 29, Operand.tmp 33, Operand.tmp 35], argTypes := #[31, 31, 3] }, type := 31, pos := "ref.go:15", after := #[{ on := 4, ground := Ground.data }, { on := 8, ground := Ground.data }, { on := 10, ground := Ground.data }], guard := none } : Oper) (by kernel_rfl) rfl (fun K hK => ?_)
        go_simp
        (go_at_call 14; (with_reducible refine (HMX.out _).mono ?_); rintro e w8 ⟨rfl, hb⟩; have HX8 : Hid (Below wr.heap.size wr w8) := Lib.hid (chain ((Below.refl _ _).drew) hb))
        refine hK.out _ _ ?_ (fun hS1 => ?_)
        · (first | exact hS | exact chain hS hb | exact hN)
        clear hK K hS; have hS := hS1; clear hS1
        (try simp only [Act.put, List.setIfInBounds_toArray, List.set_cons_zero, List.set_cons_succ])
        refine rg_one 12 ({ dst := some 37, op := Op.buildSlice 22 1 #[(0, Operand.tmp 36)], type := 22, pos := "ref.go:15", after := #[{ on := 11, ground := Ground.data }], guard := none } : Oper) (by kernel_rfl) rfl (fun K hK => ?_)
        rw [if_pos (by rfl)]; refine wp_build_sec (.tmp 36) rfl zm HZL.out rfl ?_; have hb := below_alloc w8 (.cells (sv zm) 31)
        refine hK.out _ _ ?_ (fun hS1 => ?_)
        · (first | exact hS | exact chain hS hb | exact hN)
        clear hK K hS; have hS := hS1; clear hS1
        (try simp only [Act.put, List.setIfInBounds_toArray, List.set_cons_zero, List.set_cons_succ])
        refine rg_one 13 ({ dst := some 38, op := Op.call { callee := Callee.builtin Builtin.append, args := #[Operand.tmp 25, Operand.tmp 37], argTypes := #[22, 22] }, type := 22, pos := "ref.go:15", after := #[{ on := 0, ground := Ground.data }, { on := 12, ground := Ground.data }, { on := 11, ground := Ground.chain }], guard := none } : Oper) (by kernel_rfl) rfl (fun K hK => ?_)
        rw [if_pos (by rfl)]; refine wp_app_sec (.tmp 25) (.tmp 37) rfl w0.heap.size _ i _ rfl (Lib.hid (own_keep HO.out (chain HX8.out (below_alloc w8 (.cells (sv zm) 31))))) w8.heap.size zm rfl (Blk.new w8 _ HZL.out) (by omega) w0.heap.size w0 (Lib.hid hS) (Nat.le_refl _) hS.size ?_; intro v9 w9 HO9 HB9; have hN := HB9.out
        refine hK.out _ _ ?_ (fun hS1 => ?_)
        · (first | exact hS | exact chain hS hb | exact hN)
        clear hK K hS; have hS := hS1; clear hS1
        (try simp only [Act.put, List.setIfInBounds_toArray, List.set_cons_zero, List.set_cons_succ])
        refine wpAnyH_take (i := 14) (oi := ({ dst := some 7, op := Op.assign (Operand.tmp 38), type := 22, pos := "ref.go:15", after := #[{ on := 13, ground := Ground.data }, { on := 13, ground := Ground.chain }, { on := 0, ground := Ground.phase }, { on := 1, ground := Ground.phase }, { on := 2, ground := Ground.phase }, { on := 3, ground := Ground.phase }, { on := 4, ground := Ground.phase }, { on := 5, ground := Ground.phase }, { on := 6, ground := Ground.phase }, { on := 7, ground := Ground.phase }, { on := 8, ground := Ground.phase }, { on := 9, ground := Ground.phase }, { on := 10, ground := Ground.phase }, { on := 11, ground := Ground.phase }, { on := 12, ground := Ground.phase }, { on := 13, ground := Ground.phase }], guard := none } : Oper)) (v := ?_) rfl (by kernel_rfl) (by kernel_rfl) (by kernel_rfl) (fun _ _ _ h => h) (Or.inl ⟨by rfl, ?_⟩) hS ?_
        rotate_left
        · (intro w hSw; (try dsimp only at hSw); go_simp; try with_reducible rfl)
        (try simp only [Act.put, List.setIfInBounds_toArray, List.set_cons_zero, List.set_cons_succ])
        refine wpAnyH_done (by kernel_rfl) ?_ _
        clear hS
        go_wp2
        exact ⟨⟨i + 1, by go_num, by omega, Lib.hid (by rw [HST.out]; exact HO9.out), HB9⟩, by simp [intOf]; omega⟩
      · obtain ⟨y, hy⟩ : ∃ y, bitI kb (i : Int) = y := ⟨_, rfl⟩
        have HBT : Hid (∀ w, RI .u8 w (.slice ak klen ck) klen kb → Calls Try.prog 11 #[.slice ak klen ck, .int .i64 i] w fun e w' => e = .returned (.bool y) ∧ Below w.heap.size w w') := Lib.hid fun w h => by
          have := rbit_ri _ klen kb i w h HKB.out (by unfold I63; omega); rwa [hy] at this
        cases y with
        | true =>
          have HSC : Hid (leaves kb torn cut z1 z2 i = z2) := Lib.hid (by unfold leaves; rw [if_neg htt, if_pos hy])
          clear hy
          have HZL : Hid (z2.length = 64) := Lib.hid HA2.out.1
          rw [HSC.out] at HST
          go_wp2_with (first
            | (go_at_call 11; (with_reducible refine (HBT.out _ (HK.out.keep (chain HB0.out HB.out))).mono ?_); rintro e w5 ⟨rfl, hb⟩; have HB5 := Lib.hid hb; have HA5 := Lib.hid ((HA2.out.keep HB.out).keep hb); clear hb)
            | (refine wpl_load_at rfl _ rfl b2 _ rfl z2 HA5.out ?_)
            | (refine wpl_build_sec rfl _ rfl z2 HZL.out rfl ?_)
            | (at_builtin; refine wpl_app_sec rfl (.tmp 43) (.tmp 48) rfl w0.heap.size _ i _ rfl (Lib.hid (own_keep HO.out (chain HB5.out (below_alloc w5 (.cells (sv z2) 31))))) w5.heap.size z2 rfl (Blk.new w5 _ HZL.out) (by omega) w0.heap.size w0 (Lib.hid (chain HB.out (chain HB5.out (below_alloc w5 (.cells (sv z2) 31))))) (Nat.le_refl _) (by rw [alloc_size]; have := HB.out.size; have := HB5.out.size; omega) ?_; intro v9 w9 HO9 HB9))
          go_roundw
          case rel => exact ⟨i + 1, by go_num, by omega, Lib.hid (by rw [HST.out]; exact HO9.out), HB9⟩
          case measure => simp [intOf]; omega
        | false =>
          have HSC : Hid (leaves kb torn cut z1 z2 i = z1) := Lib.hid (by unfold leaves; rw [if_neg htt, if_neg (by rw [hy]; simp)])
          clear hy
          have HZL : Hid (z1.length = 64) := Lib.hid HA1.out.1
          rw [HSC.out] at HST
          go_wp2_with (first
            | (go_at_call 11; (with_reducible refine (HBT.out _ (HK.out.keep (chain HB0.out HB.out))).mono ?_); rintro e w5 ⟨rfl, hb⟩; have HB5 := Lib.hid hb; have HA5 := Lib.hid ((HA1.out.keep HB.out).keep hb); clear hb)
            | (refine wpl_load_at rfl _ rfl b1 _ rfl z1 HA5.out ?_)
            | (refine wpl_build_sec rfl _ rfl z1 HZL.out rfl ?_)
            | (at_builtin; refine wpl_app_sec rfl (.tmp 50) (.tmp 55) rfl w0.heap.size _ i _ rfl (Lib.hid (own_keep HO.out (chain HB5.out (below_alloc w5 (.cells (sv z1) 31))))) w5.heap.size z1 rfl (Blk.new w5 _ HZL.out) (by omega) w0.heap.size w0 (Lib.hid (chain HB.out (chain HB5.out (below_alloc w5 (.cells (sv z1) 31))))) (Nat.le_refl _) (by rw [alloc_size]; have := HB.out.size; have := HB5.out.size; omega) ?_; intro v9 w9 HO9 HB9))
          go_roundw
          case rel => exact ⟨i + 1, by go_num, by omega, Lib.hid (by rw [HST.out]; exact HO9.out), HB9⟩
          case measure => simp [intOf]; omega
    · have hq : i = q := by omega
      subst hq
      by_cases hlt1 : (i : Int) < (n : Int)
      · have hlt2 : ¬ (i : Int) < (m : Int) := by have := HQ.out; omega
        go_wp2
        go_ret
        exact ⟨_, rfl, FS.own HO.out, chain HB0.out HB.out⟩
      · go_wp2
        go_ret
        exact ⟨_, rfl, FS.own HO.out, chain HB0.out HB.out⟩
end Go.Proofs.Ytdadeloojblekaa
