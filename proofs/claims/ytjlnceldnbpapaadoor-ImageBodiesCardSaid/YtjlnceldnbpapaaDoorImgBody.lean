/-
  LAYER 17 (image): what the program's Body answers, of any records that lie somewhere. The table of half a byte's steps must lie in its block as start-up lays it.
-/
import Derived.Test.YtjlnceldnbpapaaDoorImgSeq
import Derived.Test.YtjlnceldnbpapaaDoorImgYb
namespace Go.Proofs.YtjlnceldnbpapaaDoor
open Go.RowKit
attribute [local go_sem] Oper.semAt_some
theorem wplIn_mk_yb {F : Fence} {m : Nat} {w : World} {ops : Array Oper} {rest : List Oper} {o : Oper} {a : Act} {Q : Exit → Act → World → Prop} (hgd : o.guard = none) (x y : Operand) (ho : o.op = Op.makeSlice 26 x y) (n : Nat) (hx : a.eval x = .int .i64 (n : Int)) (hy : a.eval y = .int .i64 (n : Int)) (hn : n ≤ 1000000)
    (h : ∀ g w', Hid (YB w' g (List.replicate n 0)) → Hid (w.heap.size ≤ g) → Hid (Below w.heap.size w w') → wpListIn F m Tryd.prog ops Q rest (a.put o.dst (.slice (some ⟨g, 0, none⟩) n n)) w') : wpListIn F m Tryd.prog ops Q (o :: rest) a w := by
  refine wplIn_run hgd (by simp [Oper.about, ho]) (by rw [ho]; intro c hc; cases hc) (v := .slice (some ⟨w.heap.size, 0, none⟩) n n) (w' := w.alloc (.cells (il .u8 (List.replicate n 0)).toArray 5)) ?_ (h _ _ (heap_alloc_last w _) (Nat.le_refl _) (below_alloc w _))
  have hrun := make_bytes_run n (by omega) w
  simp [execOp, ho, hx, hy, hrun, Result.andThen]
theorem PS.over' {w w' : World} {base : Nat} {v : Value} {ps : List PC} (h : w.ownsRow base 60 4 v ps.length (pF ps)) {g : Nat} (hg : w.grownBy w' (some g)) (hne : ∀ q, v.ownBlock = some q → q ≠ g) : PS w' v ps :=
  PS.own (own_over h hg (fun q hq e => hne q hq (Option.some.inj e)))
theorem alloc2 (w : World) (a b : Obj) : ((w.alloc a).alloc b).heap[w.heap.size]? = some a ∧ ((w.alloc a).alloc b).heap[w.heap.size + 1]? = some b ∧ Below w.heap.size w ((w.alloc a).alloc b) ∧ ((w.alloc a).alloc b).heap.size = w.heap.size + 1 + 1 := by
  refine ⟨(Below.heap_alloc (w.alloc a) b _ (by simp)).trans (heap_alloc_last w a), ?_, bch (balloc w a) (balloc _ b), by simp⟩
  have := heap_alloc_last (w.alloc a) b
  rwa [alloc_size] at this
theorem alloc4 (w : World) (a b c d : Obj) : ((((w.alloc a).alloc b).alloc c).alloc d).heap[w.heap.size]? = some a ∧ ((((w.alloc a).alloc b).alloc c).alloc d).heap[w.heap.size + 1]? = some b ∧ ((((w.alloc a).alloc b).alloc c).alloc d).heap[w.heap.size + 1 + 1]? = some c ∧
    ((((w.alloc a).alloc b).alloc c).alloc d).heap[w.heap.size + 1 + 1 + 1]? = some d ∧ Below w.heap.size w ((((w.alloc a).alloc b).alloc c).alloc d) ∧ ((((w.alloc a).alloc b).alloc c).alloc d).heap.size = w.heap.size + 1 + 1 + 1 + 1 := by
  obtain ⟨h1, h2, h3, h4⟩ := alloc2 w a b
  obtain ⟨k1, k2, k3, k4⟩ := alloc2 ((w.alloc a).alloc b) c d
  rw [h4] at k1 k2 k4
  have kk : ∀ q, q < w.heap.size + 1 + 1 → ((((w.alloc a).alloc b).alloc c).alloc d).heap[q]? = ((w.alloc a).alloc b).heap[q]? := fun q hq => k3.block q (by rw [h4]; exact hq)
  exact ⟨(kk _ (by omega)).trans h1, (kk _ (by omega)).trans h2, k1, k2, h3.trans (k3.mono h3.size), k4⟩
theorem set1 {W : World} {b : Nat} {u : Value} {t : TypeId} (h : W.heap[b]? = some (.cells #[u] t (0, 0))) (v : Value) : (W.setCell ⟨b, 0, none⟩ v).heap[b]? = some (.cells #[v] t (0, 0)) := by
  have := Joins.block_setCell (i := 0) h v
  simpa using this
theorem set_other {W : World} {b b' : Nat} (h : b ≠ b') (v : Value) : (W.setCell ⟨b', 0, none⟩ v).heap[b]? = W.heap[b]? := heap_setCell_other W ⟨b', 0, none⟩ b v h
theorem cell1 {W : World} {b : Nat} {u : Value} {t : TypeId} (h : W.heap[b]? = some (.cells #[u] t (0, 0))) : W.cell? ⟨b, 0, none⟩ = some u := cell_of_row W b 0 _ _ _ h
theorem frozen1 {W : World} {b : Nat} {u : Value} {t : TypeId} (h : W.heap[b]? = some (.cells #[u] t (0, 0))) : W.frozen? ⟨b, 0, none⟩ = false := Joins.unfrozen_of_block h 0
theorem NoC.ne {W : World} {k b : Nat} {c : Array Value} {t : TypeId} {m : Nat × Nat} (h : NoC W k) (hb : W.heap[b]? = some (.cells c t m)) : k ≠ b := by
  rintro rfl
  obtain ⟨o, ho, hc⟩ := h
  rw [hb] at ho
  cases ho
  cases hc
/-- between two rounds of Body -/
structure BI (w : World) (ep : Int) (g bv be : Nat) (ls : List (List Int)) (e32 : Int) (f : Nat → Bool) (k : Nat) (W : World) : Prop where
  bx : W.heap[w.heap.size]? = some (.cells #[.int .u64 ep] 22 (0, 0))
  r1 : W.heap[w.heap.size + 1]? = some (.cells #[.slice none 0 0] 26 (0, 0))
  r2 : W.heap[w.heap.size + 1 + 1]? = some (.cells #[.int .i64 0] 3 (0, 0))
  r3 : W.heap[w.heap.size + 1 + 1 + 1]? = some (.cells #[.bool false] 4 (0, 0))
  vb : W.heap[bv]? = some (.cells #[.slice (some ⟨g, 0, none⟩) 832 832] 26 (0, 0))
  ve : W.heap[be]? = some (.cells #[.int .i64 (aK ls k : Nat)] 3 (0, 0))
  y : YB W g (bodyF e32 (ls.take k))
  ff : f = fun q => q == g || q == be
  below : Below w.heap.size w W
/-- .. where a round has left -/
structure BX (w : World) (W : World) : Prop where
  r1 : W.heap[w.heap.size + 1]? = some (.cells #[.slice none 0 0] 26 (0, 0))
  r2 : W.heap[w.heap.size + 1 + 1]? = some (.cells #[.int .i64 0] 3 (0, 0))
  r3 : W.heap[w.heap.size + 1 + 1 + 1]? = some (.cells #[.bool false] 4 (0, 0))
  below : Below w.heap.size w W
theorem BI.free {w : World} {ep : Int} {g bv be : Nat} {ls : List (List Int)} {e32 : Int} {f : Nat → Bool} {k : Nat} {A B : World} {b : Nat} (h : BI w ep g bv be ls e32 f k A) (hf : Free b A B) (hb : w.heap.size ≤ b) : BI w ep g bv be ls e32 f k B :=
  ⟨hf.2 _ _ h.bx rfl, hf.2 _ _ h.r1 rfl, hf.2 _ _ h.r2 rfl, hf.2 _ _ h.r3 rfl, hf.2 _ _ h.vb rfl, hf.2 _ _ h.ve rfl, hf.2 _ _ h.y rfl, h.ff, h.below.trans (hf.1.mono hb)⟩
theorem BX.free {w A B : World} {b : Nat} (h : BX w A) (hf : Free b A B) (hb : w.heap.size ≤ b) : BX w B :=
  ⟨hf.2 _ _ h.r1 rfl, hf.2 _ _ h.r2 rfl, hf.2 _ _ h.r3 rfl, h.below.trans (hf.1.mono hb)⟩
theorem MO.free {A B : World} {b q : Nat} {d pv : Value} {pl bh : Int} (h : MO A q d pl pv bh) (hf : Free b A B) : MO B q d pl pv bh := hf.2 _ _ h rfl
/-- what Body answers -/
def BodyF (w : World) (ls : List (List Int)) (e32 : Int) (e : Ending) (w' : World) : Prop :=
  (fitsF ls = true ∧ ∃ g, e = .returned (.tuple #[.slice (some ⟨g, 0, none⟩) 832 832, .int .i64 (endF ls : Nat), .bool true]) ∧ YB w' g (bodyF e32 ls) ∧ w.heap.size ≤ g ∧ Below w.heap.size w w') ∨
  (fitsF ls = false ∧ e = .returned (.tuple #[.slice none 0 0, .int .i64 0, .bool false]) ∧ Below w.heap.size w w')
set_option maxRecDepth 100000 in
set_option maxHeartbeats 4000000 in
theorem body_any (ep : Int) (lv : Value) (N : Nat) (ls : List (List Int)) (hlb : ∀ l ∈ ls, isB l) (w : World) (ht : Tab w) (hrl : RL .u8 w lv N ls) :
    Calls Tryd.prog 8 #[.int .u64 ep, lv] w (BodyF w ls (ep % 4294967296)) := by
  obtain ⟨la, lc, rfl, _⟩ := hrl.form
  have HS : Hid (∀ n, 1 ≤ n → ∀ w1 Bn, Below w.heap.size w w1 → Bn < w1.heap.size → w1.cell? ⟨Bn, 0, none⟩ = some (.slice la N lc) → SeqTill Fence.wide n Tryd.prog 24 #[.pointer (some ⟨Bn, 0, none⟩)] (encR ls) (TR ls) (badR ls) (KpI w.heap.size) OkI (GoodF ls N) (BadF ls) N w1) := Lib.hid fun n hn w1 Bn h1 h2 h3 => records_told n hn w _ N ls hrl Bn w1 h1 h2 h3
  have HLL := Lib.hid hrl.length
  have HLB := Lib.hid hlb
  have HT := Lib.hid ht
  clear hlb ht hrl
  refine (callsIn_wide (n := 8)).1 ?_
  refine callsIn_of_wp_marks Tryd.func8 rfl trivial ?_ rfl
  simp only [Tryd.ntmps8, List.size_toArray, List.length_cons, List.length_nil, Nat.reduceAdd, Nat.reduceSub, Array.replicate_succ, Array.replicate_zero, List.push_toArray, List.append_toArray, List.nil_append, List.cons_append]
  gi_wp2_with (first
    | (refine wplIn_mk_yb rfl _ _ rfl 832 rfl rfl (by omega) ?_; intro g w1 HY1 HG1 HB1)
    | (refine ⟨trivial, ?_⟩; gi_at_call 16; refine (callsIn_wide.2 (callsIn_wide.1 (records_any la N lc _))).mono ?_; rintro e w2 ⟨rfl, rfl⟩))
  obtain ⟨q1, q2, q3, q4, q5, q6⟩ := alloc4 w (.cells #[.int .u64 ep] 22) (.cells #[.slice none 0 0] 26) (.cells #[.int .i64 0] 3) (.cells #[.bool false] 4)
  have hbs := HB1.out
  have hg1 := HG1.out
  generalize (((w.alloc (.cells #[.int .u64 ep] 22)).alloc (.cells #[.slice none 0 0] 26)).alloc (.cells #[.int .i64 0] 3)).alloc (.cells #[.bool false] 4) = w0 at *
  rw [q6] at hg1
  have p1 := (hbs.block _ (by omega)).trans q1
  have p2 := (hbs.block _ (by omega)).trans q2
  have p3 := (hbs.block _ (by omega)).trans q3
  have p4 := (hbs.block _ (by omega)).trans q4
  have hb1 := q5.trans (hbs.mono q5.size)
  have hy1 := HY1.out
  clear HB1 HG1 HY1 hbs q1 q2 q3 q4 q5
  obtain ⟨s1, s2, s3, s4⟩ := alloc2 w1 (.cells #[.slice (some ⟨g, 0, none⟩) 832 832] 26) (.cells #[.int .i64 0] 3)
  have hgl := hy1.lt
  have s5 := heap_alloc_last ((w1.alloc (.cells #[.slice (some ⟨g, 0, none⟩) 832 832] 26)).alloc (.cells #[.int .i64 0] 3)) (.cells #[.slice la N lc] 23)
  have s6 := balloc ((w1.alloc (.cells #[.slice (some ⟨g, 0, none⟩) 832 832] 26)).alloc (.cells #[.int .i64 0] 3)) (.cells #[.slice la N lc] 23)
  have s7 := alloc_size ((w1.alloc (.cells #[.slice (some ⟨g, 0, none⟩) 832 832] 26)).alloc (.cells #[.int .i64 0] 3)) (.cells #[.slice la N lc] 23)
  generalize (w1.alloc (.cells #[.slice (some ⟨g, 0, none⟩) 832 832] 26)).alloc (.cells #[.int .i64 0] 3) = w2 at *
  rw [s4] at s5 s7
  generalize w2.alloc (.cells #[.slice la N lc] 23) = w3 at *
  have hb2 : Below w.heap.size w w2 := hb1.trans (s3.mono hb1.size)
  have h23 : ∀ (q : Nat) (o : Obj), w2.heap[q]? = some o → w3.heap[q]? = some o := fun q o h => (s6.block q (Array.getElem?_eq_some_iff.1 h).1).trans h
  have h12 : ∀ (q : Nat) (o : Obj), w1.heap[q]? = some o → w3.heap[q]? = some o := fun q o h => h23 q o ((s3.block q (Array.getElem?_eq_some_iff.1 h).1).trans h)
  have hb3 : Below w.heap.size w w3 := hb2.trans (s6.mono hb2.size)
  have HI0 : BI w ep g w1.heap.size (w1.heap.size + 1) ls (ep % 4294967296) (fun q => q == g || q == w1.heap.size + 1) 0 w3 :=
    ⟨h12 _ _ p1, h12 _ _ p2, h12 _ _ p3, h12 _ _ p4, h23 _ _ s1, h23 _ _ (by rw [show (aK ls 0 : Nat) = 0 from by simp [aK, endF_nil]]; exact s2), h12 _ _ (by rw [List.take_zero, bodyF_nil]; exact hy1), rfl, hb3⟩
  have hbx : Below w.heap.size w w3 := hb3
  obtain ⟨be, hbe⟩ : ∃ be, w1.heap.size + 1 = be := ⟨_, rfl⟩
  have hb0 : w.heap.size ≤ g := by omega
  have hgbe : g < w1.heap.size ∧ w1.heap.size < be ∧ w.heap.size + 1 + 1 + 1 < g := by omega
  have hbes : be < w3.heap.size := by omega
  simp only [hbe] at *
  refine wpIn_rangeFunc_till rfl (by omega) (gf := 24) (lb := #[.pointer (some ⟨be + 1, 0, none⟩)]) rfl trivial (enters_of Tryd.func24 (by kernel_rfl) rfl)
    (HS.out 7 (by omega) w3 (be + 1) hb3 (by omega) (by rw [cell_of_row _ _ 0 _ _ _ s5]; rfl)) (Below.refl _ _) (fun _ _ => rfl) (fun q => q == g || q == be)
    ?ok KpI.trans KpI.of
    (BI w ep g w1.heap.size be ls (ep % 4294967296)) (BX w) (fun f s A B h hf => h.free hf (by omega)) (fun A B h hf => h.free hf (by omega)) (fun k x A B h hf => h.free hf) ?kb ?start
    (fun _ k x a' W => ∃ Bx, be < Bx ∧ MO W Bx (.slice x.1.1 (nK ls k) x.1.2) (beginN (aK ls k) : Nat) (.slice x.2.1 (psK ls k).length x.2.2) (endI (aK ls k : Nat) (nK ls k : Nat) : Nat) ∧ a' = { tmps := #[.int .u64 ep, .slice la N lc, .pointer (some ⟨w.heap.size, 0, none⟩), undef, .pointer (some ⟨w.heap.size + 1, 0, none⟩), .pointer (some ⟨w.heap.size + 1 + 1, 0, none⟩), .pointer (some ⟨w.heap.size + 1 + 1 + 1, 0, none⟩), .pointer (some ⟨w1.heap.size, 0, none⟩), .pointer (some ⟨be, 0, none⟩), .pointer (some ⟨Bx, 0, none⟩), .bool (fitI (aK ls k : Nat) (nK ls k : Nat)), .slice (some ⟨g, 0, none⟩) 832 832, .slice la N lc, .func (.func 24) #[] #[.pointer (some ⟨be + 1, 0, none⟩)], .agg (rA (.slice x.1.1 (nK ls k) x.1.2) (beginN (aK ls k) : Nat) (.slice x.2.1 (psK ls k).length x.2.2) (endI (aK ls k : Nat) (nK ls k : Nat) : Nat)), .bool (fitI (aK ls k : Nat) (nK ls k : Nat)), undef, undef, undef, undef, undef, undef, undef, undef, undef, undef], defers := [] })
    (fun _ k x a' A B h hf => by obtain ⟨Bx, h1, h2, h3⟩ := h; exact ⟨Bx, h1, h2.free hf, h3⟩) ?assign ?body ?done ?stop
  case ok =>
    intro o o' q hq
    simp only [Bool.or_eq_true, beq_iff_eq] at hq
    simp only [alloc_size]; omega
  case kb =>
    intro f s W o o' h ho hc
    have hlt := (Array.getElem?_eq_some_iff.1 ho).1
    have hpf := Free.put (b := w.heap.size) o' (by omega) ho hc
    exact ⟨hpf.1.size, fun _ => hpf.1, fun i c _ hi hcc => hpf.2 i c hi hcc, fun hf => hf.mono hpf.1.size, fun _ _ => rfl⟩
  case start =>
    intro o o'
    exact HI0.free (Free.of (bch (balloc w3 o) (balloc _ o')) (Nat.le_refl _)) (by omega)
  case assign =>
    rintro l f k ⟨⟨da, dc⟩, pa, pc⟩ W K hI ht hK
    simp only [encR]
    have hbl := (Array.getElem?_eq_some_iff.1 hI.ve).1
    generalize beginN (aK ls k) = bg at *
    generalize endI (aK ls k : Nat) (nK ls k : Nat) = en at *
    generalize fitI (aK ls k : Nat) (nK ls k : Nat) = fit at *
    gi_wp2_with (refine wplIn_store_row rfl 48 _ _ rfl W.heap.size (rA (.slice da (nK ls k) dc) bg (.slice pa (psK ls k).length pc) en) rfl rfl _ _ (heap_alloc_last W _) (rec_info _ rfl) rfl (rec_one _ _ _ _ _ _ _ _) ?_)
    exact hK _ _ (bnew W _ _) ⟨W.heap.size, hbl, MO.new _, rfl⟩
  case body =>
    rintro l f k ⟨⟨da, dc⟩, pa, pc⟩ a' W hD hL hI ht ⟨Bx, hBx, hM, rfl⟩ hkN
    obtain rfl := hI.ff
    have hkl : k < ls.length := by rw [HLL.out]; exact hkN
    have HEN := Lib.hid (endF_next ls k hkl)
    have HBN := Lib.hid (bodyF_next (ep % 4294967296) ls k hkl)
    have HBL := Lib.hid (bodyF_at (ep % 4294967296) ls k (by omega))
    have c0 := cell1 hI.bx
    have c1 := cell1 hI.r1
    have c2 := cell1 hI.r2
    have c3 := cell1 hI.r3
    have c4 := cell1 hI.vb
    have c5 := cell1 hI.ve
    have f1 := frozen1 hI.r1
    have f2 := frozen1 hI.r2
    have f3 := frozen1 hI.r3
    have f5 := frozen1 hI.ve
    cases hft : fitI (aK ls k : Nat) (nK ls k : Nat) with
    | false =>
      have hbad : badR ls k = true := by unfold badR; rw [hft]; rfl
      rw [hbad]
      gi_wp2
      refine ⟨rfl, ?_, ?_, ?_⟩
      · rw [set_other (by omega), set_other (by omega), set_other (by omega)]
      · rw [set_other (by omega), set_other (by omega), set_other (by omega)]
      · refine ⟨?_, ?_, ?_, ?_⟩
        · rw [set_other (by omega), set_other (by omega)]; exact set1 hI.r1 _
        · rw [set_other (by omega)]; exact set1 (by rw [set_other (by omega)]; exact hI.r2) _
        · exact set1 (by rw [set_other (by omega), set_other (by omega)]; exact hI.r3) _
        · exact bset (bset (bset hI.below (by omega) (Nat.le_refl _) 0 _) (by omega) (Nat.le_refl _) 0 _) (by omega) (Nat.le_refl _) 0 _
    | true =>
      have hbad : badR ls k = false := by unfold badR; rw [hft]; rfl
      rw [hbad]
      have HLAY : Hid (CallsIn Fence.wide 3 Tryd.prog 17 #[.agg (rA (.slice da (nK ls k) dc) (beginN (aK ls k) : Nat) (.slice pa (psK ls k).length pc) (endI (aK ls k : Nat) (nK ls k : Nat) : Nat)), .int .u64 ep, .slice (some ⟨g, 0, none⟩) 832 832] W fun e w' =>
          e = .returned (.tuple #[]) ∧ YB w' g (bodyF (ep % 4294967296) (ls.take (k + 1))) ∧ W.grownBy w' (some g)) := Lib.hid (callsIn_wide.2 (by
        have hal : aK ls k ≤ 832 := endF_le _
        have h := lay_any ep (aK ls k : Nat) (ls.getD k []) (HLB.out _ (by simp [List.getD, hkl])) (nK ls k) da dc (endI (aK ls k : Nat) (nK ls k : Nat) : Nat) pa pc g (bodyF (ep % 4294967296) (ls.take k)) HBL.out hft W (HT.out.keep hI.below) (by omega) hI.y ht.1 (fun w' hg => PS.over' ht.2 hg (hI.y.ne_row ht.2 (by decide)))
        rw [nr_nat _ hal] at h
        rw [HBN.out]
        exact h))
      have HI := Lib.hid hI
      have HM := Lib.hid hM
      generalize beginN (aK ls k) = bg at *
      generalize psK ls k = ps at *
      gi_wp2_with (first
        | (refine wplIn_load_row rfl 48 _ rfl Bx rfl HM.out.load ?_)
        | (refine ⟨trivial, ?_⟩; gi_at_call 17; refine (CallsIn.inRound l (callsIn_wide.2 (callsIn_wide.1 HLAY.out))).mono ?_; rintro e W2 ⟨rfl, hy, hg⟩; have HG2 := Lib.hid hg; have HY2 := Lib.hid hy; have HM2 := Lib.hid (HM.out.over hg (by omega)); obtain ⟨z0, z1, z2, z3⟩ := HM2.out.cells; have hv2 : W2.heap[be]? = some (.cells #[.int .i64 (aK ls k : Nat)] 3 (0, 0)) := (hg.block be (Array.getElem?_eq_some_iff.1 HI.out.ve).1 (fun e => by have := Option.some.inj e; omega)).trans HI.out.ve; have c6 := cell1 hv2; have f6 := frozen1 hv2; clear hy hg))
      have hne : ∀ (q : Nat) (o : Obj), q ≠ g → W.heap[q]? = some o → W2.heap[q]? = some o := fun q o hq h => (HG2.out.block q (Array.getElem?_eq_some_iff.1 h).1 (fun e => hq (Option.some.inj e))).trans h
      have hcb := HI.out.ve
      have hcg : W.heap[g]? = some (.cells _ _ _) := HI.out.y
      obtain ⟨oD, hoD, _⟩ := id hD
      obtain ⟨oL, hoL, _⟩ := id hL
      have hb2 : Below w.heap.size w W2 := below_grown HI.out.below HG2.out hb0 HI.out.below.size
      refine ⟨rfl, fun q => q == g || q == be, ?_, ?_, ?_, ?_⟩
      · rw [set_other (hD.ne hcb), hne _ _ (hD.ne hcg) hoD, hoD]
      · rw [set_other (hL.ne hcb), hne _ _ (hL.ne hcg) hoL, hoL]
      · refine ⟨by have := HG2.out.size; simpa using this, fun _ => bset (below_grown (Below.refl _ _) HG2.out hb0 HI.out.below.size) (by omega) HI.out.below.size 0 _, fun q o hf ho _ => ?_, fun hf => hf.mono (by have := HG2.out.size; simpa using this), fun _ _ => rfl⟩
        simp only [Bool.or_eq_false_iff, beq_eq_false_iff_ne] at hf
        rw [set_other hf.2]
        exact hne q o hf.1 ho
      · refine ⟨?_, ?_, ?_, ?_, ?_, ?_, ?_, rfl, bset hb2 (by omega) (Nat.le_refl _) 0 _⟩
        · rw [set_other (by omega)]; exact hne _ _ (by omega) HI.out.bx
        · rw [set_other (by omega)]; exact hne _ _ (by omega) HI.out.r1
        · rw [set_other (by omega)]; exact hne _ _ (by omega) HI.out.r2
        · rw [set_other (by omega)]; exact hne _ _ (by omega) HI.out.r3
        · rw [set_other (by omega)]; exact hne _ _ (by omega) HI.out.vb
        · rw [show aK ls (k + 1) = endI (aK ls k : Nat) (nK ls k : Nat) from HEN.out]; exact set1 hv2 _
        · exact (set_other (by omega) _).trans HY2.out
  case stop =>
    intro W hB hI hK
    have c1 := cell1 hI.r1
    have c2 := cell1 hI.r2
    have c3 := cell1 hI.r3
    clear c1 c2 c3
    gi_wp2
    have hf := Free.put (b := w.heap.size) (.deferred none) (by omega) hK rfl
    have hX := hI.free hf (Nat.le_refl _)
    have d1 := cell1 hX.r1
    have d2 := cell1 hX.r2
    have d3 := cell1 hX.r3
    refine ⟨by simp, .inl ⟨_, _, rfl, run_takeDeferred hK, ?_⟩⟩
    refine ⟨.tuple #[.slice none 0 0, .int .i64 0, .bool false], ?_, .inr ⟨fitsF_bad hB, rfl, hX.below⟩⟩
    simp [results, Tryd.f8, go_sem, d1, d2, d3]
  case done =>
    intro f W hS hI hK
    have c4 := cell1 hI.vb
    have c5 := cell1 hI.ve
    have c1 := cell1 hI.r1
    have c2 := cell1 hI.r2
    have c3 := cell1 hI.r3
    have f1 := frozen1 hI.r1
    have f2 := frozen1 hI.r2
    have f3 := frozen1 hI.r3
    clear c1 c2 c3
    have c1 := cell1 hI.r1
    have c2 := cell1 hI.r2
    have c3 := cell1 hI.r3
    gi_wp2
    gi_region
    have hKn : NoC W w3.heap.size := ⟨_, hK, rfl⟩
    obtain ⟨W5, hW5⟩ : ∃ q, (((W.setCell ⟨w.heap.size + 1, 0, none⟩ (.slice (some ⟨g, 0, none⟩) 832 832)).setCell ⟨w.heap.size + 1 + 1, 0, none⟩ (.int .i64 (aK ls N : Nat))).setCell ⟨w.heap.size + 1 + 1 + 1, 0, none⟩ (.bool true)).drew = q := ⟨_, rfl⟩
    rw [hW5]
    have e5 : ∀ q : Nat, W5.heap[q]? = (((W.setCell ⟨w.heap.size + 1, 0, none⟩ (.slice (some ⟨g, 0, none⟩) 832 832)).setCell ⟨w.heap.size + 1 + 1, 0, none⟩ (.int .i64 (aK ls N : Nat))).setCell ⟨w.heap.size + 1 + 1 + 1, 0, none⟩ (.bool true)).heap[q]? := fun q => by rw [← hW5]; rfl
    have o5 : ∀ q : Nat, w.heap.size + 1 + 1 + 1 < q → W5.heap[q]? = W.heap[q]? := fun q hq => by rw [e5, set_other (by omega), set_other (by omega), set_other (by omega)]
    have hb5 : Below w.heap.size w W5 := by rw [← hW5]; exact (bset (bset (bset hI.below (by omega) (Nat.le_refl _) 0 _) (by omega) (Nat.le_refl _) 0 _) (by omega) (Nat.le_refl _) 0 _).drew
    have r1 : W5.heap[w.heap.size + 1]? = some (.cells #[.slice (some ⟨g, 0, none⟩) 832 832] 26 (0, 0)) := by rw [e5, set_other (by omega), set_other (by omega)]; exact set1 hI.r1 _
    have r2 : W5.heap[w.heap.size + 1 + 1]? = some (.cells #[.int .i64 (aK ls N : Nat)] 3 (0, 0)) := by rw [e5, set_other (by omega)]; exact set1 (by rw [set_other (by omega)]; exact hI.r2) _
    have r3 : W5.heap[w.heap.size + 1 + 1 + 1]? = some (.cells #[.bool true] 4 (0, 0)) := by rw [e5]; exact set1 (by rw [set_other (by omega), set_other (by omega)]; exact hI.r3) _
    have hK5 : W5.heap[w3.heap.size]? = some (.deferred (some [])) := (o5 _ (by omega)).trans hK
    have hy5 : YB W5 g (bodyF (ep % 4294967296) (ls.take N)) := (o5 _ (by omega)).trans hI.y
    clear hW5 e5 o5 c1 c2 c3 c4 c5 f1 f2 f3
    gi_wp2
    have hf := Free.put (b := w.heap.size) (.deferred none) (by omega) hK5 rfl
    have d1 := cell1 (hf.2 _ _ r1 rfl)
    have d2 := cell1 (hf.2 _ _ r2 rfl)
    have d3 := cell1 (hf.2 _ _ r3 rfl)
    have hyf := hf.2 _ _ hy5 rfl
    have hbf := hb5.trans hf.1
    refine ⟨by simp, .inl ⟨_, _, rfl, run_takeDeferred hK5, ?_⟩⟩
    have hlN : ls.take N = ls := List.take_of_length_le (by rw [HLL.out]; exact Nat.le_refl _)
    have heN : aK ls N = endF ls := by unfold aK; rw [hlN]
    rw [hlN] at hyf
    rw [heN] at d2
    refine ⟨.tuple #[.slice (some ⟨g, 0, none⟩) 832 832, .int .i64 (endF ls : Nat), .bool true], ?_, .inl ⟨fitsF_good (by rw [HLL.out]; exact hS), g, rfl, hyf, hb0, hbf⟩⟩
    simp [results, Tryd.f8, go_sem, d1, d2, d3]
end Go.Proofs.YtjlnceldnbpapaaDoor
