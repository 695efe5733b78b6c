/-
  LAYER 9 (crash), the program's own: the function that yields torn crashes (tears), which ranges over choices itself; Tears.
-/
import Derived.Test.YtdadeloojblekaaCrSeq
import Derived.Lib.SliceRun
namespace Go.Proofs.Ytdadeloojblekaa
open Go.RowKit
attribute [local go_sem] Oper.semAt_some
theorem own_empty8 {w : World} {base b : Nat} (hb : w.heap.size = b) (h : base ≤ b) : Hid ((w.alloc (.cells #[] 5)).ownsRow base 5 1 (.slice (some ⟨b, 0, none⟩) 0 0) 0 (il .u8 [])) := by
  subst hb
  exact ⟨rfl, .inr ⟨w.heap.size, 0, #[], rfl, h, heap_alloc_last w _, Nat.le_refl _, by unfold maxLen; omega, rfl, rfl⟩⟩
set_option maxRecDepth 8000 in
theorem clone_any (v : Value) (len : Nat) (zs : List Int) (w : World) (hri : RI .u8 w v len zs) (hlen : (len : Int) ≤ 200000000000000) :
    Calls Try.prog 32 #[v] w fun e w' => ∃ v', e = .returned v' ∧ w'.ownsRow w.heap.size 5 1 v' len (bl zs) ∧ Below w.heap.size w w' := by
  have HR := Lib.hid hri
  obtain ⟨a, cap, rfl, hl, hlc, _, hnil, _⟩ := hri
  cases a with
  | none =>
    obtain rfl : cap = 0 := hnil rfl
    obtain rfl : len = 0 := by omega
    obtain rfl : zs = [] := List.length_eq_zero_iff.1 hl
    have he : (binOp .eql 23 (.slice none 0 0) (.slice none 0 0)).run Try.prog w = .ok (.bool true) w := Lib.run_eql_slice_nil w _ _ none 0 0 0 0 Try.underlying23
    clear hl hlc hnil
    go_enter Try.func32, Try.ntmps32
    go_wp2
    go_ret
    exact ⟨_, rfl, World.ownsRow_nil _ _ _ _, Below.refl _ _⟩
  | some x =>
    have he : (binOp .eql 23 (.slice (some x) len cap) (.slice none 0 0)).run Try.prog w = .ok (.bool false) w := Lib.run_eql_slice_nil w _ _ (some x) len cap 0 0 Try.underlying23
    clear hl hnil
    go_enter Try.func32, Try.ntmps32
    go_wp2_with (first
      | (at_builtin; go_loud (refine wpl_appn rfl (.tmp 5) (.tmp 6) 23 rfl 5 .u8 1 Try.underlying23 Try.info_u8 w.heap.size _ 0 [] rfl (own_empty8 rfl (by omega)) _ len zs rfl (HR.out.keep ((Below.refl _ _).alloc (Nat.le_refl _) _)) (by omega) (by omega) w.heap.size w ((Below.refl _ _).alloc (Nat.le_refl _) _) (Nat.le_refl _) (by simp) ?_); intro v1 w4 HO1 HB1))
    go_ret
    have h5 := HO1.out
    rw [Nat.zero_add, List.nil_append] at h5
    exact ⟨_, rfl, h5, HB1.out⟩
theorem tmaker_any (m cut : Int) (w : World) : CallsIn Fence.wide 6 Try.prog 27 #[.int .i64 m, .int .i64 cut] w fun e w' => e = .returned (.func (.func 31) #[] #[.pointer (some ⟨w.heap.size, 0, none⟩), .pointer (some ⟨w.heap.size + 1, 0, none⟩)]) ∧ w' = (w.alloc (.cells #[.int .i64 m] 3)).alloc (.cells #[.int .i64 cut] 3) := by
  refine callsIn_of_wp Try.func27 rfl trivial ?_ rfl
  simp only [Try.ntmps27, List.size_toArray, List.length_cons, List.length_nil, Nat.reduceAdd, Nat.reduceSub, Array.replicate_succ, Array.replicate_zero, List.push_toArray, List.append_toArray, List.nil_append, List.cons_append]
  gi_wp2
  go_ret
  exact ⟨rfl, rfl⟩
/-- one crash, torn at its i-th sector -/
def tearOf (cut : Int) (c : AC) (i : Nat) : AC := ⟨c.len, c.kb, (i : Int), cut⟩
def tearsOf (m : Nat) (cut : Int) (cs : List AC) : List AC := cs.flatMap fun c => (List.range m).map (tearOf cut c)
theorem tearsOf_snoc (m : Nat) (cut : Int) (cs : List AC) (c : AC) : tearsOf m cut (cs ++ [c]) = tearsOf m cut cs ++ (List.range m).map (tearOf cut c) := by simp [tearsOf]
theorem tearsOf_length (m : Nat) (cut : Int) (cs : List AC) : (tearsOf m cut cs).length = cs.length * m := by
  unfold tearsOf
  induction cs with
  | nil => simp
  | cons c cs ih => rw [List.flatMap_cons, List.length_append, ih]; simp; rw [Nat.add_mul]; omega
theorem tearsOf_all (m : Nat) (cut : Int) (k : Nat) : tearsOf m cut (allN k) = tearsN m cut k := by
  unfold tearsOf allN tearsN
  rw [List.flatMap_map]; rfl
theorem roundIn_wide {P : Program} {a b l l2 : Nat} {fn : FuncId} {tmps : Array Value} {ac bd : Code} {w : World} {R : Ending → World → Prop} (h : RoundIn Fence.wide a P l fn tmps ac bd w R) : RoundIn (Fence.wide.inRound l2) b P l fn tmps ac bd w R :=
  ⟨trivial, fun c cs _ => h.2 c cs (fun _ h => by simp [Fence.wide] at h)⟩
theorem own_rows {W W' : World} {base size : Nat} {e : TypeId} {v : Value} {n : Nat} {xs : List Value} (h : W.ownsRow base e size v n xs) (hr : RowsKeep e W W') : W'.ownsRow base e size v n xs := by
  refine ⟨h.1, ?_⟩
  rcases h.2 with h2 | ⟨g, cap, cur, hv, hg, hcur, h3⟩
  · exact .inl h2
  · exact .inr ⟨g, cap, cur, hv, hg, hr _ _ hcur, h3⟩
theorem roundIn_wide2 {P : Program} {a b l : Nat} {fn : FuncId} {tmps : Array Value} {ac bd : Code} {w : World} {R : Ending → World → Prop} (h : RoundIn Fence.wide a P l fn tmps ac bd w R) : RoundIn Fence.wide b P l fn tmps ac bd w R :=
  ⟨trivial, fun c cs _ => h.2 c cs (fun _ h => by simp [Fence.wide] at h)⟩
/-- where the outer loop stands, between two rounds -/
structure TI (J : (Nat → Bool) → List CrX → World → Prop) (B By Bn Bc m l : Nat) (cut : Int) (f : Nat → Bool) (pre : List CrX) (W : World) : Prop where
  ex : ∃ ys, J f ys W ∧ ys.map Prod.snd = tearsOf m cut (pre.map Prod.snd)
  foot : Foot f W.heap.size
  fp : (∀ k, B ≤ k → k < B + 4 → f k = false) ∧ f Bn = false ∧ f Bc = false
  bn : Boxed W Bn 3 (.int .i64 (m : Int))
  bc : Boxed W Bc 3 (.int .i64 cut)
  by_ : Boxed W By 53 (.func (.yield l) #[] #[])
  size : B + 4 ≤ W.heap.size
theorem TI.free {J : (Nat → Bool) → List CrX → World → Prop} {B By Bn Bc m l : Nat} {cut : Int} {f : Nat → Bool} {pre : List CrX} {A A' : World} {b : Nat} (h : TI J B By Bn Bc m l cut f pre A) (hJ : ∀ f s A A', J f s A → Free B A A' → J f s A') (hf : Free b A A') (hb : B ≤ b) : TI J B By Bn Bc m l cut f pre A' := by
  obtain ⟨ys, hj, hy⟩ := h.ex
  exact ⟨⟨ys, hJ _ _ _ _ hj (hf.mono hb), hy⟩, h.foot.mono hf.1.size, h.fp, hf.2 _ _ h.bn rfl, hf.2 _ _ h.bc rfl, hf.2 _ _ h.by_ rfl, Nat.le_trans h.size hf.1.size⟩
set_option maxRecDepth 100000 in
set_option maxHeartbeats 4000000 in
theorem tears_told (n : Nat) (hn : 6 ≤ n) (Bn Bc m M : Nat) (cut : Int) (w : World) (hm : m ≤ 6) (hM : 2 ^ m = M) (hB : Bn < w.heap.size) (hC : Bc < w.heap.size) (hbn : Boxed w Bn 3 (.int .i64 (m : Int))) (hbc : Boxed w Bc 3 (.int .i64 cut)) :
    SeqTold Fence.wide n Try.prog 31 #[.pointer (some ⟨Bn, 0, none⟩), .pointer (some ⟨Bc, 0, none⟩)] encC TC (KpE 5) OkE (fun xs => xs.map Prod.snd = tearsN m cut M) (M * m) w := by
  intro l J f W hb hok hJ hY h0
  have h1 : 1 ≤ n := by omega
  have hbnW : Boxed W Bn 3 (.int .i64 (m : Int)) := (hb.block _ hB).trans hbn
  have hbcW : Boxed W Bc 3 (.int .i64 cut) := (hb.block _ hC).trans hbc
  have hcW := (hbnW.alloc (.cells #[.func (.yield l) #[] #[]] 53)).cell
  have HC := Lib.hid fun w => choices_any (m : Int) w
  refine callsIn_of_wp_marks Try.func31 rfl trivial ?_ rfl
  simp only [Try.ntmps31, List.size_toArray, List.length_cons, List.length_nil, Nat.reduceAdd, Nat.reduceSub, Array.replicate_succ, Array.replicate_zero, List.push_toArray, List.append_toArray, List.nil_append, List.cons_append]
  gi_wp2_with (refine ⟨trivial, ?_⟩; gi_at_call 25; refine (callsIn_wide.2 (callsIn_wide.1 (HC.out _))).mono ?_; rintro e w2 ⟨rfl, rfl⟩)
  have hby := (Boxed.new W 53 (.func (.yield l) #[] #[])).alloc (.cells #[.int .i64 (m : Int)] 3)
  have hbm := Boxed.new (W.alloc (.cells #[.func (.yield l) #[] #[]] 53)) 3 (.int .i64 (m : Int))
  have hb1 : Below W.heap.size W ((W.alloc (.cells #[.func (.yield l) #[] #[]] 53)).alloc (.cells #[.int .i64 (m : Int)] 3)) := chain (below_alloc _ _) (below_alloc _ _)
  have hs1 : ((W.alloc (.cells #[.func (.yield l) #[] #[]] 53)).alloc (.cells #[.int .i64 (m : Int)] 3)).heap.size = W.heap.size + 2 := by simp
  rw [alloc_size] at hbm
  generalize (W.alloc (.cells #[.func (.yield l) #[] #[]] 53)).alloc (.cells #[.int .i64 (m : Int)] 3) = w1 at *
  have hfW : ∀ k, W.heap.size ≤ k → f k = false := fun k hk => by
    cases h : f k with
    | false => rfl
    | true => have := hok.1 k h; omega
  refine wpIn_rangeFunc_told rfl h1 (gf := 29) (lb := #[.pointer (some ⟨W.heap.size + 1, 0, none⟩)]) rfl trivial (enters_of Try.func29 (by kernel_rfl) rfl)
    (choices_told (n - 1) (by omega) (W.heap.size + 1) m M w1 (by omega) hM (by omega) hbm.cell) (Below.refl _ _) (fun _ => rfl) f (fun _ _ => trivial) (fun h k => Nat.le_trans h k) (fun h => h.size)
    (TI J W.heap.size W.heap.size Bn Bc m l cut) (fun f s A B h hf => h.free hJ hf (by omega)) (fun x A B h hf => ⟨own_free h.1 hf, h.2⟩) (fun f s W o o' _ _ _ => by show W.heap.size ≤ (W.putObj _ _).heap.size; simp) ?start
    (fun f x a' W' => ∃ Bx, W.heap.size + 4 ≤ Bx ∧ f Bx = false ∧ W'.heap[Bx]? = some (.cells (rowC x).toArray 25 (0, 0)) ∧ ∃ t8, a' = { tmps := #[.func (.yield l) #[] #[], .pointer (some ⟨Bn, 0, none⟩), .pointer (some ⟨Bc, 0, none⟩), .pointer (some ⟨W.heap.size, 0, none⟩), .pointer (some ⟨Bx, 0, none⟩), undef, .int .i64 (m : Int), .func (.func 29) #[] #[.pointer (some ⟨W.heap.size + 1, 0, none⟩)], t8, undef, undef, undef, undef, undef, undef, undef, undef, undef, undef, undef, undef, undef, undef], defers := [] })
    (fun _ x a' A B h hf => by obtain ⟨Bx, h1, h2, h3, h4⟩ := h; exact ⟨Bx, h1, h2, hf.2 _ _ h3 rfl, h4⟩) ?assign ?body ?done
  case start =>
    intro o o'
    have hb2 : Below W.heap.size W ((w1.alloc o).alloc o') := chain hb1 (chain (below_alloc w1 o) (below_alloc (w1.alloc o) o'))
    have hb3 : Below w1.heap.size w1 ((w1.alloc o).alloc o') := chain (below_alloc w1 o) (below_alloc (w1.alloc o) o')
    have hf2 := Free.of hb2 (Nat.le_refl _)
    exact ⟨⟨[], hJ _ _ _ _ h0 hf2, rfl⟩, hok.1.mono hf2.1.size, ⟨fun k hk _ => hfW k hk, hok.2 _ hB, hok.2 _ hC⟩, hf2.2 _ _ hbnW rfl, hf2.2 _ _ hbcW rfl, (Free.of hb3 (Nat.le_refl _)).2 _ _ hby rfl, by simp only [alloc_size]; omega⟩
  case assign =>
    rintro l2 fx pre ⟨vk, c⟩ W2 K hI ht hK
    obtain ⟨av, nv, cv, rfl⟩ := own_slice (show W2.ownsRow 0 5 1 vk c.len (bl c.kb) from ht.1)
    simp only [encC]
    gi_wp2
    refine hK _ _ (below_alloc _ _) ⟨W2.heap.size, hI.size, ?_, heap_alloc_last W2 _, _, rfl⟩
    cases h : fx W2.heap.size with
    | false => rfl
    | true => have := hI.foot _ h; omega
  case body =>
    rintro l2 fx pre ⟨vk, c⟩ a' Wr hD hL hI ht ⟨Bx, hBx, hfx, hX, t8, rfl⟩ hlen
    obtain ⟨av, nv, cv, rfl⟩ := own_slice (show Wr.ownsRow 0 5 1 vk c.len (bl c.kb) from ht.1)
    have hcn := hI.bn.cell
    have HI := Lib.hid hI
    have HT := Lib.hid ht
    have HX := Lib.hid hX
    have HJ := Lib.hid hJ
    have HY := Lib.hid hY
    clear hI ht hX hJ hY
    gi_wp2
    gi_loopw [10] (fun p wr => ∃ (i : Nat) (fi : Nat → Bool) (ys : List CrX), p = .int .i64 (i : Int) ∧ i ≤ m ∧ Hid (J fi ys wr) ∧ Hid (ys.map Prod.snd = tearsOf m cut (pre.map Prod.snd) ++ (List.range i).map (tearOf cut c)) ∧ Hid (KpE 5 fx Wr fi wr)) (fun p _ => m - (intOf p).toNat)
    case atStart =>
      obtain ⟨ys, hj, hy⟩ := HI.out.ex
      exact ⟨0, fx, ys, rfl, by omega, Lib.hid hj, Lib.hid (by simpa using hy), Lib.hid (KpE.of (Below.refl _ _))⟩
    case round =>
      obtain ⟨i, fi, ys, rfl, hi, HJ1, HY1, HK1⟩ := hrel
      by_cases hlt : i < m
      · have hkeep := fun (o : Obj) k (h : Wr.heap[k]? = some o) (hf : fx k = false) => (HK1.out.1.block k (Array.getElem?_eq_some_iff.1 h).1 hf).trans h
        have hs0 := HI.out.size
        have hsz := HK1.out.1.size
        have hyw : wr.drew.cell? ⟨W.heap.size, 0, none⟩ = _ := Boxed.cell (W := wr) (hkeep _ _ HI.out.by_ (HI.out.fp.1 _ (Nat.le_refl _) (by omega)))
        have hcw : wr.drew.cell? ⟨Bc, 0, none⟩ = _ := Boxed.cell (W := wr) (hkeep _ _ HI.out.bc HI.out.fp.2.2)
        have hxw := hkeep _ _ HX.out hfx
        have hx0 : wr.drew.cell? ⟨Bx, 0, none⟩ = some (.slice av nv cv) := cell_of_row wr Bx 0 _ _ _ hxw
        have hri : RI .u8 wr.drew (.slice av nv cv) c.len c.kb := (RI.own (own_rows HT.out.1 HK1.out.2.2)).keep ((Below.refl _ _).drew)
        have HCL := Lib.hid (clone_any _ c.len c.kb wr.drew hri (by have : c.len ≤ 1000 := HT.out.2; omega))
        have hyl : ys.length < M * m := by
          have := congrArg List.length HY1.out
          rw [List.length_map, List.length_append, tearsOf_length, List.length_map, List.length_map, List.length_range] at this
          have h2 : (pre.length + 1) * m ≤ M * m := Nat.mul_le_mul_right _ hlen
          rw [Nat.add_mul] at h2
          omega
        have h1' : 1 ≤ n - 1 - 1 := by omega
        have hmx : Try.prog.follows .mixedOrders = true := by kernel_rfl
        have hi2 : (i : Int) < (m : Int) := by omega
        clear hkeep hri hxw
        gi_wp2
        refine wpIn_region_any hmx ?_
        change wpAnyIn _ _ _ _ _ _ _ _ _ (World.drew _)
        refine wpAnyIn_round (by kernel_rfl) _ _ _ _ ?_
        refine wpAnyIn_take (i := 1) (v := .pointer (some ⟨Bx, 0, none⟩)) rfl rfl (by kernel_rfl) (by kernel_rfl) (by kernel_rfl) (fun _ _ _ h => h) ⟨Or.inl ⟨by rfl, ?_⟩, fun _ => rfl⟩ ?_
        · intro w; go_simp
        refine wpAnyIn_take (i := 4) (v := .int .i64 (i : Int)) rfl rfl (by kernel_rfl) (by kernel_rfl) (by kernel_rfl) (fun _ _ _ h => h) ⟨Or.inl ⟨by rfl, ?_⟩, fun _ => rfl⟩ ?_
        · intro w; go_simp
        -- BEGIN g11
        refine wpAnyIn_ready (rs := [0, 2, 5]) (by kernel_rfl) (by simp) ?_
        refine AllReadyIn.cons rfl (fun K hK => ?_) (AllReadyIn.cons rfl (fun K hK => ?_) (AllReadyIn.cons rfl (fun K hK => ?_) (AllReadyIn.nil)))
        · go_simp; refine hK _ _ ?_; clear hK K
          refine wpAnyIn_ready (rs := [2, 5]) (by kernel_rfl) (by simp) ?_
          refine AllReadyIn.cons rfl (fun K hK => ?_) (AllReadyIn.cons rfl (fun K hK => ?_) (AllReadyIn.nil))
          · go_simp; refine hK _ _ ?_; clear hK K
            refine wpAnyIn_ready (rs := [3, 5]) (by kernel_rfl) (by simp) ?_
            refine AllReadyIn.cons rfl (fun K hK => ?_) (AllReadyIn.cons rfl (fun K hK => ?_) (AllReadyIn.nil))
            · go_simp; refine ⟨trivial, ?_⟩; refine (callsIn_wide.2 HCL.out).mono ?_; rintro e w5 ⟨v5, rfl, ho5, hb5⟩; obtain ⟨a5, n5, c5, rfl⟩ := own_slice ho5; have hy5 := cell_keep hb5 hyw; have hc5 := cell_keep hb5 hcw; obtain ⟨fn, tmps, assign, body, hy, hR⟩ := HY.out fi ys (.slice a5 n5 c5, tearOf cut c i) w5 (HJ.out _ _ _ _ HJ1.out (Free.of (chain ((Below.refl _ _).drew) hb5) (by omega))) ⟨own_base ho5 (Nat.zero_le _), HT.out.2⟩ hyl; dsimp only [encC, tearOf] at hy; have HB5 := Lib.hid (chain ((Below.refl _ _).drew) hb5); clear hb5 ho5; refine hK _ _ ?_; clear hK K
              refine wpAnyIn_ready (rs := [5]) (by kernel_rfl) (by simp) ?_
              refine AllReadyIn.cons rfl (fun K hK => ?_) (AllReadyIn.nil)
              go_simp; refine hK _ _ ?_; clear hK K
              refine wpAnyIn_ready (rs := [6]) (by kernel_rfl) (by simp) ?_
              refine AllReadyIn.cons rfl (fun K hK => ?_) (AllReadyIn.nil)
              go_simp; refine hK _ _ ?_; clear hK K
              refine wpAnyIn_ready (rs := [7]) (by kernel_rfl) (by simp) ?_
              refine AllReadyIn.cons rfl (fun K hK => ?_) (AllReadyIn.nil)
              go_simp; refine RoundIn.mono (roundIn_wide2 hR) ?_; rintro e w6 ⟨rfl, f6, hj6, hk6⟩; refine hK _ _ ?_; clear hK K
              refine wpAnyIn_ready (rs := [8]) (by kernel_rfl) (by simp) ?_
              refine AllReadyIn.cons rfl (fun K hK => ?_) (AllReadyIn.nil)
              go_simp; refine hK _ _ ?_; clear hK K
              refine wpAnyIn_done (by kernel_rfl) ?_ _
              gi_wp2
              exact ⟨⟨i + 1, f6, ys ++ [(.slice a5 n5 c5, tearOf cut c i)], by go_num, by omega, Lib.hid hj6, Lib.hid (by rw [List.map_append, HY1.out, List.range_succ, List.map_append, List.append_assoc]; rfl), Lib.hid (HK1.out.trans ((KpE.of HB5.out).trans hk6))⟩, by simp [intOf]; omega⟩
            · go_simp; refine hK _ _ ?_; clear hK K
              refine wpAnyIn_ready (rs := [3]) (by kernel_rfl) (by simp) ?_
              refine AllReadyIn.cons rfl (fun K hK => ?_) (AllReadyIn.nil)
              go_simp; refine ⟨trivial, ?_⟩; refine (callsIn_wide.2 HCL.out).mono ?_; rintro e w5 ⟨v5, rfl, ho5, hb5⟩; obtain ⟨a5, n5, c5, rfl⟩ := own_slice ho5; have hy5 := cell_keep hb5 hyw; have hc5 := cell_keep hb5 hcw; obtain ⟨fn, tmps, assign, body, hy, hR⟩ := HY.out fi ys (.slice a5 n5 c5, tearOf cut c i) w5 (HJ.out _ _ _ _ HJ1.out (Free.of (chain ((Below.refl _ _).drew) hb5) (by omega))) ⟨own_base ho5 (Nat.zero_le _), HT.out.2⟩ hyl; dsimp only [encC, tearOf] at hy; have HB5 := Lib.hid (chain ((Below.refl _ _).drew) hb5); clear hb5 ho5; refine hK _ _ ?_; clear hK K
              refine wpAnyIn_ready (rs := [6]) (by kernel_rfl) (by simp) ?_
              refine AllReadyIn.cons rfl (fun K hK => ?_) (AllReadyIn.nil)
              go_simp; refine hK _ _ ?_; clear hK K
              refine wpAnyIn_ready (rs := [7]) (by kernel_rfl) (by simp) ?_
              refine AllReadyIn.cons rfl (fun K hK => ?_) (AllReadyIn.nil)
              go_simp; refine RoundIn.mono (roundIn_wide2 hR) ?_; rintro e w6 ⟨rfl, f6, hj6, hk6⟩; refine hK _ _ ?_; clear hK K
              refine wpAnyIn_ready (rs := [8]) (by kernel_rfl) (by simp) ?_
              refine AllReadyIn.cons rfl (fun K hK => ?_) (AllReadyIn.nil)
              go_simp; refine hK _ _ ?_; clear hK K
              refine wpAnyIn_done (by kernel_rfl) ?_ _
              gi_wp2
              exact ⟨⟨i + 1, f6, ys ++ [(.slice a5 n5 c5, tearOf cut c i)], by go_num, by omega, Lib.hid hj6, Lib.hid (by rw [List.map_append, HY1.out, List.range_succ, List.map_append, List.append_assoc]; rfl), Lib.hid (HK1.out.trans ((KpE.of HB5.out).trans hk6))⟩, by simp [intOf]; omega⟩
          · go_simp; refine hK _ _ ?_; clear hK K
            refine wpAnyIn_ready (rs := [2]) (by kernel_rfl) (by simp) ?_
            refine AllReadyIn.cons rfl (fun K hK => ?_) (AllReadyIn.nil)
            go_simp; refine hK _ _ ?_; clear hK K
            refine wpAnyIn_ready (rs := [3]) (by kernel_rfl) (by simp) ?_
            refine AllReadyIn.cons rfl (fun K hK => ?_) (AllReadyIn.nil)
            go_simp; refine ⟨trivial, ?_⟩; refine (callsIn_wide.2 HCL.out).mono ?_; rintro e w5 ⟨v5, rfl, ho5, hb5⟩; obtain ⟨a5, n5, c5, rfl⟩ := own_slice ho5; have hy5 := cell_keep hb5 hyw; have hc5 := cell_keep hb5 hcw; obtain ⟨fn, tmps, assign, body, hy, hR⟩ := HY.out fi ys (.slice a5 n5 c5, tearOf cut c i) w5 (HJ.out _ _ _ _ HJ1.out (Free.of (chain ((Below.refl _ _).drew) hb5) (by omega))) ⟨own_base ho5 (Nat.zero_le _), HT.out.2⟩ hyl; dsimp only [encC, tearOf] at hy; have HB5 := Lib.hid (chain ((Below.refl _ _).drew) hb5); clear hb5 ho5; refine hK _ _ ?_; clear hK K
            refine wpAnyIn_ready (rs := [6]) (by kernel_rfl) (by simp) ?_
            refine AllReadyIn.cons rfl (fun K hK => ?_) (AllReadyIn.nil)
            go_simp; refine hK _ _ ?_; clear hK K
            refine wpAnyIn_ready (rs := [7]) (by kernel_rfl) (by simp) ?_
            refine AllReadyIn.cons rfl (fun K hK => ?_) (AllReadyIn.nil)
            go_simp; refine RoundIn.mono (roundIn_wide2 hR) ?_; rintro e w6 ⟨rfl, f6, hj6, hk6⟩; refine hK _ _ ?_; clear hK K
            refine wpAnyIn_ready (rs := [8]) (by kernel_rfl) (by simp) ?_
            refine AllReadyIn.cons rfl (fun K hK => ?_) (AllReadyIn.nil)
            go_simp; refine hK _ _ ?_; clear hK K
            refine wpAnyIn_done (by kernel_rfl) ?_ _
            gi_wp2
            exact ⟨⟨i + 1, f6, ys ++ [(.slice a5 n5 c5, tearOf cut c i)], by go_num, by omega, Lib.hid hj6, Lib.hid (by rw [List.map_append, HY1.out, List.range_succ, List.map_append, List.append_assoc]; rfl), Lib.hid (HK1.out.trans ((KpE.of HB5.out).trans hk6))⟩, by simp [intOf]; omega⟩
        · go_simp; refine hK _ _ ?_; clear hK K
          refine wpAnyIn_ready (rs := [0, 3, 5]) (by kernel_rfl) (by simp) ?_
          refine AllReadyIn.cons rfl (fun K hK => ?_) (AllReadyIn.cons rfl (fun K hK => ?_) (AllReadyIn.cons rfl (fun K hK => ?_) (AllReadyIn.nil)))
          · go_simp; refine hK _ _ ?_; clear hK K
            refine wpAnyIn_ready (rs := [3, 5]) (by kernel_rfl) (by simp) ?_
            refine AllReadyIn.cons rfl (fun K hK => ?_) (AllReadyIn.cons rfl (fun K hK => ?_) (AllReadyIn.nil))
            · go_simp; refine ⟨trivial, ?_⟩; refine (callsIn_wide.2 HCL.out).mono ?_; rintro e w5 ⟨v5, rfl, ho5, hb5⟩; obtain ⟨a5, n5, c5, rfl⟩ := own_slice ho5; have hy5 := cell_keep hb5 hyw; have hc5 := cell_keep hb5 hcw; obtain ⟨fn, tmps, assign, body, hy, hR⟩ := HY.out fi ys (.slice a5 n5 c5, tearOf cut c i) w5 (HJ.out _ _ _ _ HJ1.out (Free.of (chain ((Below.refl _ _).drew) hb5) (by omega))) ⟨own_base ho5 (Nat.zero_le _), HT.out.2⟩ hyl; dsimp only [encC, tearOf] at hy; have HB5 := Lib.hid (chain ((Below.refl _ _).drew) hb5); clear hb5 ho5; refine hK _ _ ?_; clear hK K
              refine wpAnyIn_ready (rs := [5]) (by kernel_rfl) (by simp) ?_
              refine AllReadyIn.cons rfl (fun K hK => ?_) (AllReadyIn.nil)
              go_simp; refine hK _ _ ?_; clear hK K
              refine wpAnyIn_ready (rs := [6]) (by kernel_rfl) (by simp) ?_
              refine AllReadyIn.cons rfl (fun K hK => ?_) (AllReadyIn.nil)
              go_simp; refine hK _ _ ?_; clear hK K
              refine wpAnyIn_ready (rs := [7]) (by kernel_rfl) (by simp) ?_
              refine AllReadyIn.cons rfl (fun K hK => ?_) (AllReadyIn.nil)
              go_simp; refine RoundIn.mono (roundIn_wide2 hR) ?_; rintro e w6 ⟨rfl, f6, hj6, hk6⟩; refine hK _ _ ?_; clear hK K
              refine wpAnyIn_ready (rs := [8]) (by kernel_rfl) (by simp) ?_
              refine AllReadyIn.cons rfl (fun K hK => ?_) (AllReadyIn.nil)
              go_simp; refine hK _ _ ?_; clear hK K
              refine wpAnyIn_done (by kernel_rfl) ?_ _
              gi_wp2
              exact ⟨⟨i + 1, f6, ys ++ [(.slice a5 n5 c5, tearOf cut c i)], by go_num, by omega, Lib.hid hj6, Lib.hid (by rw [List.map_append, HY1.out, List.range_succ, List.map_append, List.append_assoc]; rfl), Lib.hid (HK1.out.trans ((KpE.of HB5.out).trans hk6))⟩, by simp [intOf]; omega⟩
            · go_simp; refine hK _ _ ?_; clear hK K
              refine wpAnyIn_ready (rs := [3]) (by kernel_rfl) (by simp) ?_
              refine AllReadyIn.cons rfl (fun K hK => ?_) (AllReadyIn.nil)
              go_simp; refine ⟨trivial, ?_⟩; refine (callsIn_wide.2 HCL.out).mono ?_; rintro e w5 ⟨v5, rfl, ho5, hb5⟩; obtain ⟨a5, n5, c5, rfl⟩ := own_slice ho5; have hy5 := cell_keep hb5 hyw; have hc5 := cell_keep hb5 hcw; obtain ⟨fn, tmps, assign, body, hy, hR⟩ := HY.out fi ys (.slice a5 n5 c5, tearOf cut c i) w5 (HJ.out _ _ _ _ HJ1.out (Free.of (chain ((Below.refl _ _).drew) hb5) (by omega))) ⟨own_base ho5 (Nat.zero_le _), HT.out.2⟩ hyl; dsimp only [encC, tearOf] at hy; have HB5 := Lib.hid (chain ((Below.refl _ _).drew) hb5); clear hb5 ho5; refine hK _ _ ?_; clear hK K
              refine wpAnyIn_ready (rs := [6]) (by kernel_rfl) (by simp) ?_
              refine AllReadyIn.cons rfl (fun K hK => ?_) (AllReadyIn.nil)
              go_simp; refine hK _ _ ?_; clear hK K
              refine wpAnyIn_ready (rs := [7]) (by kernel_rfl) (by simp) ?_
              refine AllReadyIn.cons rfl (fun K hK => ?_) (AllReadyIn.nil)
              go_simp; refine RoundIn.mono (roundIn_wide2 hR) ?_; rintro e w6 ⟨rfl, f6, hj6, hk6⟩; refine hK _ _ ?_; clear hK K
              refine wpAnyIn_ready (rs := [8]) (by kernel_rfl) (by simp) ?_
              refine AllReadyIn.cons rfl (fun K hK => ?_) (AllReadyIn.nil)
              go_simp; refine hK _ _ ?_; clear hK K
              refine wpAnyIn_done (by kernel_rfl) ?_ _
              gi_wp2
              exact ⟨⟨i + 1, f6, ys ++ [(.slice a5 n5 c5, tearOf cut c i)], by go_num, by omega, Lib.hid hj6, Lib.hid (by rw [List.map_append, HY1.out, List.range_succ, List.map_append, List.append_assoc]; rfl), Lib.hid (HK1.out.trans ((KpE.of HB5.out).trans hk6))⟩, by simp [intOf]; omega⟩
          · go_simp; refine ⟨trivial, ?_⟩; refine (callsIn_wide.2 HCL.out).mono ?_; rintro e w5 ⟨v5, rfl, ho5, hb5⟩; obtain ⟨a5, n5, c5, rfl⟩ := own_slice ho5; have hy5 := cell_keep hb5 hyw; have hc5 := cell_keep hb5 hcw; obtain ⟨fn, tmps, assign, body, hy, hR⟩ := HY.out fi ys (.slice a5 n5 c5, tearOf cut c i) w5 (HJ.out _ _ _ _ HJ1.out (Free.of (chain ((Below.refl _ _).drew) hb5) (by omega))) ⟨own_base ho5 (Nat.zero_le _), HT.out.2⟩ hyl; dsimp only [encC, tearOf] at hy; have HB5 := Lib.hid (chain ((Below.refl _ _).drew) hb5); clear hb5 ho5; refine hK _ _ ?_; clear hK K
            refine wpAnyIn_ready (rs := [0, 5]) (by kernel_rfl) (by simp) ?_
            refine AllReadyIn.cons rfl (fun K hK => ?_) (AllReadyIn.cons rfl (fun K hK => ?_) (AllReadyIn.nil))
            · go_simp; refine hK _ _ ?_; clear hK K
              refine wpAnyIn_ready (rs := [5]) (by kernel_rfl) (by simp) ?_
              refine AllReadyIn.cons rfl (fun K hK => ?_) (AllReadyIn.nil)
              go_simp; refine hK _ _ ?_; clear hK K
              refine wpAnyIn_ready (rs := [6]) (by kernel_rfl) (by simp) ?_
              refine AllReadyIn.cons rfl (fun K hK => ?_) (AllReadyIn.nil)
              go_simp; refine hK _ _ ?_; clear hK K
              refine wpAnyIn_ready (rs := [7]) (by kernel_rfl) (by simp) ?_
              refine AllReadyIn.cons rfl (fun K hK => ?_) (AllReadyIn.nil)
              go_simp; refine RoundIn.mono (roundIn_wide2 hR) ?_; rintro e w6 ⟨rfl, f6, hj6, hk6⟩; refine hK _ _ ?_; clear hK K
              refine wpAnyIn_ready (rs := [8]) (by kernel_rfl) (by simp) ?_
              refine AllReadyIn.cons rfl (fun K hK => ?_) (AllReadyIn.nil)
              go_simp; refine hK _ _ ?_; clear hK K
              refine wpAnyIn_done (by kernel_rfl) ?_ _
              gi_wp2
              exact ⟨⟨i + 1, f6, ys ++ [(.slice a5 n5 c5, tearOf cut c i)], by go_num, by omega, Lib.hid hj6, Lib.hid (by rw [List.map_append, HY1.out, List.range_succ, List.map_append, List.append_assoc]; rfl), Lib.hid (HK1.out.trans ((KpE.of HB5.out).trans hk6))⟩, by simp [intOf]; omega⟩
            · go_simp; refine hK _ _ ?_; clear hK K
              refine wpAnyIn_ready (rs := [0, 6]) (by kernel_rfl) (by simp) ?_
              refine AllReadyIn.cons rfl (fun K hK => ?_) (AllReadyIn.cons rfl (fun K hK => ?_) (AllReadyIn.nil))
              · go_simp; refine hK _ _ ?_; clear hK K
                refine wpAnyIn_ready (rs := [6]) (by kernel_rfl) (by simp) ?_
                refine AllReadyIn.cons rfl (fun K hK => ?_) (AllReadyIn.nil)
                go_simp; refine hK _ _ ?_; clear hK K
                refine wpAnyIn_ready (rs := [7]) (by kernel_rfl) (by simp) ?_
                refine AllReadyIn.cons rfl (fun K hK => ?_) (AllReadyIn.nil)
                go_simp; refine RoundIn.mono (roundIn_wide2 hR) ?_; rintro e w6 ⟨rfl, f6, hj6, hk6⟩; refine hK _ _ ?_; clear hK K
                refine wpAnyIn_ready (rs := [8]) (by kernel_rfl) (by simp) ?_
                refine AllReadyIn.cons rfl (fun K hK => ?_) (AllReadyIn.nil)
                go_simp; refine hK _ _ ?_; clear hK K
                refine wpAnyIn_done (by kernel_rfl) ?_ _
                gi_wp2
                exact ⟨⟨i + 1, f6, ys ++ [(.slice a5 n5 c5, tearOf cut c i)], by go_num, by omega, Lib.hid hj6, Lib.hid (by rw [List.map_append, HY1.out, List.range_succ, List.map_append, List.append_assoc]; rfl), Lib.hid (HK1.out.trans ((KpE.of HB5.out).trans hk6))⟩, by simp [intOf]; omega⟩
              · go_simp; refine hK _ _ ?_; clear hK K
                refine wpAnyIn_ready (rs := [0]) (by kernel_rfl) (by simp) ?_
                refine AllReadyIn.cons rfl (fun K hK => ?_) (AllReadyIn.nil)
                go_simp; refine hK _ _ ?_; clear hK K
                refine wpAnyIn_ready (rs := [7]) (by kernel_rfl) (by simp) ?_
                refine AllReadyIn.cons rfl (fun K hK => ?_) (AllReadyIn.nil)
                go_simp; refine RoundIn.mono (roundIn_wide2 hR) ?_; rintro e w6 ⟨rfl, f6, hj6, hk6⟩; refine hK _ _ ?_; clear hK K
                refine wpAnyIn_ready (rs := [8]) (by kernel_rfl) (by simp) ?_
                refine AllReadyIn.cons rfl (fun K hK => ?_) (AllReadyIn.nil)
                go_simp; refine hK _ _ ?_; clear hK K
                refine wpAnyIn_done (by kernel_rfl) ?_ _
                gi_wp2
                exact ⟨⟨i + 1, f6, ys ++ [(.slice a5 n5 c5, tearOf cut c i)], by go_num, by omega, Lib.hid hj6, Lib.hid (by rw [List.map_append, HY1.out, List.range_succ, List.map_append, List.append_assoc]; rfl), Lib.hid (HK1.out.trans ((KpE.of HB5.out).trans hk6))⟩, by simp [intOf]; omega⟩
          · go_simp; refine hK _ _ ?_; clear hK K
            refine wpAnyIn_ready (rs := [0, 3]) (by kernel_rfl) (by simp) ?_
            refine AllReadyIn.cons rfl (fun K hK => ?_) (AllReadyIn.cons rfl (fun K hK => ?_) (AllReadyIn.nil))
            · go_simp; refine hK _ _ ?_; clear hK K
              refine wpAnyIn_ready (rs := [3]) (by kernel_rfl) (by simp) ?_
              refine AllReadyIn.cons rfl (fun K hK => ?_) (AllReadyIn.nil)
              go_simp; refine ⟨trivial, ?_⟩; refine (callsIn_wide.2 HCL.out).mono ?_; rintro e w5 ⟨v5, rfl, ho5, hb5⟩; obtain ⟨a5, n5, c5, rfl⟩ := own_slice ho5; have hy5 := cell_keep hb5 hyw; have hc5 := cell_keep hb5 hcw; obtain ⟨fn, tmps, assign, body, hy, hR⟩ := HY.out fi ys (.slice a5 n5 c5, tearOf cut c i) w5 (HJ.out _ _ _ _ HJ1.out (Free.of (chain ((Below.refl _ _).drew) hb5) (by omega))) ⟨own_base ho5 (Nat.zero_le _), HT.out.2⟩ hyl; dsimp only [encC, tearOf] at hy; have HB5 := Lib.hid (chain ((Below.refl _ _).drew) hb5); clear hb5 ho5; refine hK _ _ ?_; clear hK K
              refine wpAnyIn_ready (rs := [6]) (by kernel_rfl) (by simp) ?_
              refine AllReadyIn.cons rfl (fun K hK => ?_) (AllReadyIn.nil)
              go_simp; refine hK _ _ ?_; clear hK K
              refine wpAnyIn_ready (rs := [7]) (by kernel_rfl) (by simp) ?_
              refine AllReadyIn.cons rfl (fun K hK => ?_) (AllReadyIn.nil)
              go_simp; refine RoundIn.mono (roundIn_wide2 hR) ?_; rintro e w6 ⟨rfl, f6, hj6, hk6⟩; refine hK _ _ ?_; clear hK K
              refine wpAnyIn_ready (rs := [8]) (by kernel_rfl) (by simp) ?_
              refine AllReadyIn.cons rfl (fun K hK => ?_) (AllReadyIn.nil)
              go_simp; refine hK _ _ ?_; clear hK K
              refine wpAnyIn_done (by kernel_rfl) ?_ _
              gi_wp2
              exact ⟨⟨i + 1, f6, ys ++ [(.slice a5 n5 c5, tearOf cut c i)], by go_num, by omega, Lib.hid hj6, Lib.hid (by rw [List.map_append, HY1.out, List.range_succ, List.map_append, List.append_assoc]; rfl), Lib.hid (HK1.out.trans ((KpE.of HB5.out).trans hk6))⟩, by simp [intOf]; omega⟩
            · go_simp; refine ⟨trivial, ?_⟩; refine (callsIn_wide.2 HCL.out).mono ?_; rintro e w5 ⟨v5, rfl, ho5, hb5⟩; obtain ⟨a5, n5, c5, rfl⟩ := own_slice ho5; have hy5 := cell_keep hb5 hyw; have hc5 := cell_keep hb5 hcw; obtain ⟨fn, tmps, assign, body, hy, hR⟩ := HY.out fi ys (.slice a5 n5 c5, tearOf cut c i) w5 (HJ.out _ _ _ _ HJ1.out (Free.of (chain ((Below.refl _ _).drew) hb5) (by omega))) ⟨own_base ho5 (Nat.zero_le _), HT.out.2⟩ hyl; dsimp only [encC, tearOf] at hy; have HB5 := Lib.hid (chain ((Below.refl _ _).drew) hb5); clear hb5 ho5; refine hK _ _ ?_; clear hK K
              refine wpAnyIn_ready (rs := [0, 6]) (by kernel_rfl) (by simp) ?_
              refine AllReadyIn.cons rfl (fun K hK => ?_) (AllReadyIn.cons rfl (fun K hK => ?_) (AllReadyIn.nil))
              · go_simp; refine hK _ _ ?_; clear hK K
                refine wpAnyIn_ready (rs := [6]) (by kernel_rfl) (by simp) ?_
                refine AllReadyIn.cons rfl (fun K hK => ?_) (AllReadyIn.nil)
                go_simp; refine hK _ _ ?_; clear hK K
                refine wpAnyIn_ready (rs := [7]) (by kernel_rfl) (by simp) ?_
                refine AllReadyIn.cons rfl (fun K hK => ?_) (AllReadyIn.nil)
                go_simp; refine RoundIn.mono (roundIn_wide2 hR) ?_; rintro e w6 ⟨rfl, f6, hj6, hk6⟩; refine hK _ _ ?_; clear hK K
                refine wpAnyIn_ready (rs := [8]) (by kernel_rfl) (by simp) ?_
                refine AllReadyIn.cons rfl (fun K hK => ?_) (AllReadyIn.nil)
                go_simp; refine hK _ _ ?_; clear hK K
                refine wpAnyIn_done (by kernel_rfl) ?_ _
                gi_wp2
                exact ⟨⟨i + 1, f6, ys ++ [(.slice a5 n5 c5, tearOf cut c i)], by go_num, by omega, Lib.hid hj6, Lib.hid (by rw [List.map_append, HY1.out, List.range_succ, List.map_append, List.append_assoc]; rfl), Lib.hid (HK1.out.trans ((KpE.of HB5.out).trans hk6))⟩, by simp [intOf]; omega⟩
              · go_simp; refine hK _ _ ?_; clear hK K
                refine wpAnyIn_ready (rs := [0]) (by kernel_rfl) (by simp) ?_
                refine AllReadyIn.cons rfl (fun K hK => ?_) (AllReadyIn.nil)
                go_simp; refine hK _ _ ?_; clear hK K
                refine wpAnyIn_ready (rs := [7]) (by kernel_rfl) (by simp) ?_
                refine AllReadyIn.cons rfl (fun K hK => ?_) (AllReadyIn.nil)
                go_simp; refine RoundIn.mono (roundIn_wide2 hR) ?_; rintro e w6 ⟨rfl, f6, hj6, hk6⟩; refine hK _ _ ?_; clear hK K
                refine wpAnyIn_ready (rs := [8]) (by kernel_rfl) (by simp) ?_
                refine AllReadyIn.cons rfl (fun K hK => ?_) (AllReadyIn.nil)
                go_simp; refine hK _ _ ?_; clear hK K
                refine wpAnyIn_done (by kernel_rfl) ?_ _
                gi_wp2
                exact ⟨⟨i + 1, f6, ys ++ [(.slice a5 n5 c5, tearOf cut c i)], by go_num, by omega, Lib.hid hj6, Lib.hid (by rw [List.map_append, HY1.out, List.range_succ, List.map_append, List.append_assoc]; rfl), Lib.hid (HK1.out.trans ((KpE.of HB5.out).trans hk6))⟩, by simp [intOf]; omega⟩
        · go_simp; refine hK _ _ ?_; clear hK K
          refine wpAnyIn_ready (rs := [0, 2]) (by kernel_rfl) (by simp) ?_
          refine AllReadyIn.cons rfl (fun K hK => ?_) (AllReadyIn.cons rfl (fun K hK => ?_) (AllReadyIn.nil))
          · go_simp; refine hK _ _ ?_; clear hK K
            refine wpAnyIn_ready (rs := [2]) (by kernel_rfl) (by simp) ?_
            refine AllReadyIn.cons rfl (fun K hK => ?_) (AllReadyIn.nil)
            go_simp; refine hK _ _ ?_; clear hK K
            refine wpAnyIn_ready (rs := [3]) (by kernel_rfl) (by simp) ?_
            refine AllReadyIn.cons rfl (fun K hK => ?_) (AllReadyIn.nil)
            go_simp; refine ⟨trivial, ?_⟩; refine (callsIn_wide.2 HCL.out).mono ?_; rintro e w5 ⟨v5, rfl, ho5, hb5⟩; obtain ⟨a5, n5, c5, rfl⟩ := own_slice ho5; have hy5 := cell_keep hb5 hyw; have hc5 := cell_keep hb5 hcw; obtain ⟨fn, tmps, assign, body, hy, hR⟩ := HY.out fi ys (.slice a5 n5 c5, tearOf cut c i) w5 (HJ.out _ _ _ _ HJ1.out (Free.of (chain ((Below.refl _ _).drew) hb5) (by omega))) ⟨own_base ho5 (Nat.zero_le _), HT.out.2⟩ hyl; dsimp only [encC, tearOf] at hy; have HB5 := Lib.hid (chain ((Below.refl _ _).drew) hb5); clear hb5 ho5; refine hK _ _ ?_; clear hK K
            refine wpAnyIn_ready (rs := [6]) (by kernel_rfl) (by simp) ?_
            refine AllReadyIn.cons rfl (fun K hK => ?_) (AllReadyIn.nil)
            go_simp; refine hK _ _ ?_; clear hK K
            refine wpAnyIn_ready (rs := [7]) (by kernel_rfl) (by simp) ?_
            refine AllReadyIn.cons rfl (fun K hK => ?_) (AllReadyIn.nil)
            go_simp; refine RoundIn.mono (roundIn_wide2 hR) ?_; rintro e w6 ⟨rfl, f6, hj6, hk6⟩; refine hK _ _ ?_; clear hK K
            refine wpAnyIn_ready (rs := [8]) (by kernel_rfl) (by simp) ?_
            refine AllReadyIn.cons rfl (fun K hK => ?_) (AllReadyIn.nil)
            go_simp; refine hK _ _ ?_; clear hK K
            refine wpAnyIn_done (by kernel_rfl) ?_ _
            gi_wp2
            exact ⟨⟨i + 1, f6, ys ++ [(.slice a5 n5 c5, tearOf cut c i)], by go_num, by omega, Lib.hid hj6, Lib.hid (by rw [List.map_append, HY1.out, List.range_succ, List.map_append, List.append_assoc]; rfl), Lib.hid (HK1.out.trans ((KpE.of HB5.out).trans hk6))⟩, by simp [intOf]; omega⟩
          · go_simp; refine hK _ _ ?_; clear hK K
            refine wpAnyIn_ready (rs := [0, 3]) (by kernel_rfl) (by simp) ?_
            refine AllReadyIn.cons rfl (fun K hK => ?_) (AllReadyIn.cons rfl (fun K hK => ?_) (AllReadyIn.nil))
            · go_simp; refine hK _ _ ?_; clear hK K
              refine wpAnyIn_ready (rs := [3]) (by kernel_rfl) (by simp) ?_
              refine AllReadyIn.cons rfl (fun K hK => ?_) (AllReadyIn.nil)
              go_simp; refine ⟨trivial, ?_⟩; refine (callsIn_wide.2 HCL.out).mono ?_; rintro e w5 ⟨v5, rfl, ho5, hb5⟩; obtain ⟨a5, n5, c5, rfl⟩ := own_slice ho5; have hy5 := cell_keep hb5 hyw; have hc5 := cell_keep hb5 hcw; obtain ⟨fn, tmps, assign, body, hy, hR⟩ := HY.out fi ys (.slice a5 n5 c5, tearOf cut c i) w5 (HJ.out _ _ _ _ HJ1.out (Free.of (chain ((Below.refl _ _).drew) hb5) (by omega))) ⟨own_base ho5 (Nat.zero_le _), HT.out.2⟩ hyl; dsimp only [encC, tearOf] at hy; have HB5 := Lib.hid (chain ((Below.refl _ _).drew) hb5); clear hb5 ho5; refine hK _ _ ?_; clear hK K
              refine wpAnyIn_ready (rs := [6]) (by kernel_rfl) (by simp) ?_
              refine AllReadyIn.cons rfl (fun K hK => ?_) (AllReadyIn.nil)
              go_simp; refine hK _ _ ?_; clear hK K
              refine wpAnyIn_ready (rs := [7]) (by kernel_rfl) (by simp) ?_
              refine AllReadyIn.cons rfl (fun K hK => ?_) (AllReadyIn.nil)
              go_simp; refine RoundIn.mono (roundIn_wide2 hR) ?_; rintro e w6 ⟨rfl, f6, hj6, hk6⟩; refine hK _ _ ?_; clear hK K
              refine wpAnyIn_ready (rs := [8]) (by kernel_rfl) (by simp) ?_
              refine AllReadyIn.cons rfl (fun K hK => ?_) (AllReadyIn.nil)
              go_simp; refine hK _ _ ?_; clear hK K
              refine wpAnyIn_done (by kernel_rfl) ?_ _
              gi_wp2
              exact ⟨⟨i + 1, f6, ys ++ [(.slice a5 n5 c5, tearOf cut c i)], by go_num, by omega, Lib.hid hj6, Lib.hid (by rw [List.map_append, HY1.out, List.range_succ, List.map_append, List.append_assoc]; rfl), Lib.hid (HK1.out.trans ((KpE.of HB5.out).trans hk6))⟩, by simp [intOf]; omega⟩
            · go_simp; refine ⟨trivial, ?_⟩; refine (callsIn_wide.2 HCL.out).mono ?_; rintro e w5 ⟨v5, rfl, ho5, hb5⟩; obtain ⟨a5, n5, c5, rfl⟩ := own_slice ho5; have hy5 := cell_keep hb5 hyw; have hc5 := cell_keep hb5 hcw; obtain ⟨fn, tmps, assign, body, hy, hR⟩ := HY.out fi ys (.slice a5 n5 c5, tearOf cut c i) w5 (HJ.out _ _ _ _ HJ1.out (Free.of (chain ((Below.refl _ _).drew) hb5) (by omega))) ⟨own_base ho5 (Nat.zero_le _), HT.out.2⟩ hyl; dsimp only [encC, tearOf] at hy; have HB5 := Lib.hid (chain ((Below.refl _ _).drew) hb5); clear hb5 ho5; refine hK _ _ ?_; clear hK K
              refine wpAnyIn_ready (rs := [0, 6]) (by kernel_rfl) (by simp) ?_
              refine AllReadyIn.cons rfl (fun K hK => ?_) (AllReadyIn.cons rfl (fun K hK => ?_) (AllReadyIn.nil))
              · go_simp; refine hK _ _ ?_; clear hK K
                refine wpAnyIn_ready (rs := [6]) (by kernel_rfl) (by simp) ?_
                refine AllReadyIn.cons rfl (fun K hK => ?_) (AllReadyIn.nil)
                go_simp; refine hK _ _ ?_; clear hK K
                refine wpAnyIn_ready (rs := [7]) (by kernel_rfl) (by simp) ?_
                refine AllReadyIn.cons rfl (fun K hK => ?_) (AllReadyIn.nil)
                go_simp; refine RoundIn.mono (roundIn_wide2 hR) ?_; rintro e w6 ⟨rfl, f6, hj6, hk6⟩; refine hK _ _ ?_; clear hK K
                refine wpAnyIn_ready (rs := [8]) (by kernel_rfl) (by simp) ?_
                refine AllReadyIn.cons rfl (fun K hK => ?_) (AllReadyIn.nil)
                go_simp; refine hK _ _ ?_; clear hK K
                refine wpAnyIn_done (by kernel_rfl) ?_ _
                gi_wp2
                exact ⟨⟨i + 1, f6, ys ++ [(.slice a5 n5 c5, tearOf cut c i)], by go_num, by omega, Lib.hid hj6, Lib.hid (by rw [List.map_append, HY1.out, List.range_succ, List.map_append, List.append_assoc]; rfl), Lib.hid (HK1.out.trans ((KpE.of HB5.out).trans hk6))⟩, by simp [intOf]; omega⟩
              · go_simp; refine hK _ _ ?_; clear hK K
                refine wpAnyIn_ready (rs := [0]) (by kernel_rfl) (by simp) ?_
                refine AllReadyIn.cons rfl (fun K hK => ?_) (AllReadyIn.nil)
                go_simp; refine hK _ _ ?_; clear hK K
                refine wpAnyIn_ready (rs := [7]) (by kernel_rfl) (by simp) ?_
                refine AllReadyIn.cons rfl (fun K hK => ?_) (AllReadyIn.nil)
                go_simp; refine RoundIn.mono (roundIn_wide2 hR) ?_; rintro e w6 ⟨rfl, f6, hj6, hk6⟩; refine hK _ _ ?_; clear hK K
                refine wpAnyIn_ready (rs := [8]) (by kernel_rfl) (by simp) ?_
                refine AllReadyIn.cons rfl (fun K hK => ?_) (AllReadyIn.nil)
                go_simp; refine hK _ _ ?_; clear hK K
                refine wpAnyIn_done (by kernel_rfl) ?_ _
                gi_wp2
                exact ⟨⟨i + 1, f6, ys ++ [(.slice a5 n5 c5, tearOf cut c i)], by go_num, by omega, Lib.hid hj6, Lib.hid (by rw [List.map_append, HY1.out, List.range_succ, List.map_append, List.append_assoc]; rfl), Lib.hid (HK1.out.trans ((KpE.of HB5.out).trans hk6))⟩, by simp [intOf]; omega⟩
        -- END g11
      · have hq : i = m := by omega
        subst hq
        have hkeep := fun (o : Obj) k (h : Wr.heap[k]? = some o) (hf : fx k = false) => (HK1.out.1.block k (Array.getElem?_eq_some_iff.1 h).1 hf).trans h
        have hs0 := HI.out.size
        have hsz := HK1.out.1.size
        have hfoot := fun k (hk : k < Wr.heap.size) (hf : fx k = false) => (HK1.out.1.foot k hk).trans hf
        obtain ⟨hf1, hf2, hf3⟩ := HI.out.fp
        have hlB := (Array.getElem?_eq_some_iff.1 HI.out.bn).1
        have hlC := (Array.getElem?_eq_some_iff.1 HI.out.bc).1
        gi_wp2
        have hD2 := HK1.out.1.block w1.heap.size (by omega) (hf1 _ (by omega) (by omega))
        have hL2 := HK1.out.1.block (w1.heap.size + 1) (by omega) (hf1 _ (by omega) (by omega))
        exact ⟨fi, hD2, hL2, hsz, ⟨ys, HJ1.out, by rw [List.map_append, List.map_cons, List.map_nil, tearsOf_snoc]; exact HY1.out⟩, HK1.out.2.1 HI.out.foot, ⟨fun k h1 h2 => hfoot k (by omega) (hf1 k h1 h2), hfoot _ hlB hf2, hfoot _ hlC hf3⟩, hkeep _ _ HI.out.bn hf2, hkeep _ _ HI.out.bc hf3, hkeep _ _ HI.out.by_ (hf1 _ (Nat.le_refl _) (by omega)), by omega⟩
  case done =>
    intro f2 xs W2 hS hI hK
    obtain ⟨ys, hj, hy⟩ := hI.ex
    gi_wp2
    have hf := Free.put (b := W.heap.size) (.deferred none) (by rw [hs1]; omega) hK rfl
    refine ⟨by simp, .inl ⟨_, _, rfl, run_takeDeferred hK, ?_⟩⟩
    exact ⟨_, results_none rfl _ _ _, ⟨_, rfl⟩, f2, ys, by rw [hy, hS, tearsOf_all], hJ _ _ _ _ hj hf⟩
end Go.Proofs.Ytdadeloojblekaa
