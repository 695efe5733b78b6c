/-
  THE WALK OF TearNear: whatever records and whatever crash come in: the call returns true and changes nothing that was there. The table of half a byte's steps must lie in its block as start-up lays it.
-/
import Derived.Test.YtepaghohojomeaaDoorJ19
import Derived.Test.YtepaghohojomeaaDoorJ24
import Derived.Test.YtepaghohojomeaaDoorTearLen
import Derived.Test.YtepaghohojomeaaDoorJ16
namespace Go.Proofs.YtepaghohojomeaaDoor
open Go.RowKit
/-- the first and the last of the first k bytes that differ; -1, if none -/
def flN (a b : List Int) : Nat → Int × Int
  | 0 => (-1, -1)
  | k + 1 => if a.getD k 0 = b.getD k 0 then flN a b k else (if (flN a b k).1 < 0 then (k : Int) else (flN a b k).1, (k : Int))
theorem flN_tells (a b : List Int) : ∀ k, -1 ≤ (flN a b k).1 ∧ (flN a b k).1 < k ∧ -1 ≤ (flN a b k).2 ∧ (flN a b k).2 < k ∧ ((flN a b k).1 < 0 → (flN a b k).2 < 0) ∧ ∀ j : Nat, j < k → ((j : Int) < (flN a b k).1 ∨ (flN a b k).2 < (j : Int)) → a.getD j 0 = b.getD j 0
  | 0 => ⟨by show (-1 : Int) ≤ -1; decide, by show (-1 : Int) < ((0 : Nat) : Int); decide, by show (-1 : Int) ≤ -1; decide, by show (-1 : Int) < ((0 : Nat) : Int); decide, fun _ => by show (-1 : Int) < 0; decide, fun j hj => absurd hj (by omega)⟩
  | k + 1 => by
    obtain ⟨h1, h2, h3, h4, h5, h6⟩ := flN_tells a b k
    by_cases he : a.getD k 0 = b.getD k 0
    · have e : flN a b (k + 1) = flN a b k := by rw [flN, if_pos he]
      rw [e]
      refine ⟨h1, by omega, h3, by omega, h5, fun j hj hb => ?_⟩
      by_cases hjk : j = k
      · subst hjk; exact he
      · exact h6 j (by omega) hb
    · by_cases h0 : (flN a b k).1 < 0
      · have e : flN a b (k + 1) = ((k : Int), (k : Int)) := by rw [flN, if_neg he, if_pos h0]
        rw [e]
        refine ⟨by dsimp only; omega, by dsimp only; omega, by dsimp only; omega, by dsimp only; omega, fun h => by dsimp only at h; omega, fun j hj hb => ?_⟩
        dsimp only at hb
        have := h5 h0
        exact h6 j (by omega) (.inr (by omega))
      · have e : flN a b (k + 1) = ((flN a b k).1, (k : Int)) := by rw [flN, if_neg he, if_neg h0]
        rw [e]
        refine ⟨by dsimp only; omega, by dsimp only; omega, by dsimp only; omega, by dsimp only; omega, fun h => by dsimp only at h; omega, fun j hj hb => ?_⟩
        dsimp only at hb
        exact h6 j (by omega) (.inl (by omega))
theorem lenR_bd {x n : Int} {y : Int} (hy : y ∈ lenR (pcsI x n)) : 0 ≤ y ∧ y ≤ 832 := by
  unfold lenR at hy
  obtain ⟨c, hc, hy⟩ := List.mem_flatMap.1 hy
  obtain ⟨i, hi⟩ := List.getElem?_of_mem hc
  obtain ⟨_, p, l, k, _, hf⟩ := pc_fit hi
  have h1 := hf.at_
  have h2 := hf.room
  simp only [List.mem_cons, List.not_mem_nil, or_false] at hy
  omega
theorem lenF_bd (ls : List (List Int)) : ∀ k, ∀ y ∈ lenF ls k, 0 ≤ y ∧ y ≤ 832
  | 0, y, hy => by simp [lenF] at hy
  | k + 1, y, hy => by
    rw [lenF, List.mem_append] at hy
    rcases hy with h | h
    · exact lenF_bd ls k y h
    · exact lenR_bd h
theorem sub_exec {a : Act} {o : Oper} {w : World} (s t : Operand) (x y : Int) (ho : o.op = .binOp .sub 3 s t 3) (hs : a.eval s = .int .i64 x) (ht : a.eval t = .int .i64 y) (h : -1000 ≤ x ∧ x ≤ 1000 ∧ -1000 ≤ y ∧ y ≤ 1000) : (execOp a.eval o).run Tryd.prog w = .ok (.value (.int .i64 (x - y))) w := by
  have := Tryd.underlying3
  have hw : IntKind.i64.wrap (x - y) = x - y := IntWalk.i64_in _ (by omega)
  unfold execOp
  simp only [ho, hs, ht]
  go_simp
  (try simp [hw])
set_option maxRecDepth 8000 in
set_option maxHeartbeats 8000000 in
theorem near_walk (x : Int) (hx : U64 x) (la : Option Addr) (n lc : Nat) (ls : List (List Int)) (hlb : ∀ l ∈ ls, isB l) (N : Int) (hN : U64 N) (ka : Option Addr) (kn kc : Nat) (kb : List Int) (hkb : Bytes kb) (torn cut : Int) (ht : I63 torn) (hct : I63 cut) (w : World)
    (h : RL .u8 w (.slice la n lc) n ls) (hk : RI .u8 w (.slice ka kn kc) kn kb) (hT : Tab w) :
    Calls Tryd.prog 5 #[yV x (.slice la n lc) N, cV (.slice ka kn kc) torn cut] w fun r w' => r = .returned (.bool true) ∧ Below w.heap.size w w' := by
  have hln := h.length
  obtain ⟨w0, hw0⟩ : ∃ q, (w.alloc (.cells #[.int .u64 x, .slice la n lc, .int .u64 N] 42)).alloc (.cells #[.slice ka kn kc, .int .i64 torn, .int .i64 cut] 45) = q := ⟨_, rfl⟩
  have hz1 : (w.alloc (.cells #[.int .u64 x, .slice la n lc, .int .u64 N] 42)).heap.size = w.heap.size + 1 := alloc_size w _
  have hb0 : Below w.heap.size w w0 := by rw [← hw0]; exact bch (balloc w _) (balloc _ _)
  have HB0 := Lib.hid hb0
  have hy0 : w0.heap[w.heap.size]? = some (.cells #[.int .u64 x, .slice la n lc, .int .u64 N] 42 (0, 0)) := by
    rw [← hw0]
    exact ((balloc (w.alloc (.cells #[.int .u64 x, .slice la n lc, .int .u64 N] 42)) _).block w.heap.size (by rw [hz1]; omega)).trans (heap_alloc_last w _)
  have hc0 : w0.heap[w.heap.size + 1]? = some (.cells #[.slice ka kn kc, .int .i64 torn, .int .i64 cut] 45 (0, 0)) := by
    rw [← hw0, ← hz1]; exact heap_alloc_last _ _
  have HY0 := Lib.hid hy0
  have HC0 := Lib.hid hc0
  have HY : Hid (∀ w', Below w0.heap.size w0 w' → w'.cell? ⟨w.heap.size, 0, none⟩ = some (.int .u64 x) ∧ w'.cell? ⟨w.heap.size, 1, none⟩ = some (.slice la n lc) ∧ w'.cell? ⟨w.heap.size + 1, 1, none⟩ = some (.int .i64 torn)) := Lib.hid fun w' hb =>
    ⟨cell_keep hb (cell_of_row w0 _ 0 _ _ _ hy0), cell_keep hb (cell_of_row w0 _ 1 _ _ _ hy0), cell_keep hb (cell_of_row w0 _ 1 _ _ _ hc0)⟩
  have HAW : Hid (∀ w', Below w0.heap.size w0 w' → Calls Tryd.prog 7 #[] w' fun r w'' => r = .returned (.bool true) ∧ Below w'.heap.size w' w'') := Lib.hid fun w' hb => tawake_any w' (hT.keep (bch hb0 hb))
  have hAF := after_any x hx la n lc ls hlb N hN ka kn kc kb hkb torn cut ht hct w0 (h.keep hb0) (hk.keep hb0)
  cases hok : synOk x ls with
  | false =>
    have HAF : Hid (Calls Tryd.prog 12 #[yV x (.slice la n lc) N, cV (.slice ka kn kc) torn cut] w0 fun r w' => r = .returned (.tuple #[.slice none 0 0, .int .i64 0, .bool false]) ∧ Below w0.heap.size w0 w') := Lib.hid (hAF.mono fun r w' h => by
      rcases h with ⟨_, h1, h2⟩ | ⟨h1, _⟩
      · exact ⟨h1, h2⟩
      · rw [hok] at h1; cases h1)
    clear hAF hx hlb hN hkb ht hct h hk hT hln hz1 hb0 hy0 hc0 hok
    go_enter Tryd.func5, Tryd.ntmps5
    go_wp2_with (first
      | (refine wpList_load_row rfl 42 (.tmp 2) rfl w.heap.size rfl _ #[.int .u64 x, .slice la n lc, .int .u64 N] (0, 0) _ HY0.out Tryd.underlying42 rfl syn_info ?_)
      | (refine wpList_load_row rfl 45 (.tmp 3) rfl (w.heap.size + 1) rfl _ #[.slice ka kn kc, .int .i64 torn, .int .i64 cut] (0, 0) _ HC0.out Tryd.underlying45 rfl crash_info ?_)
      | (go_at_call 12; (refine HAF.out.mono ?_); rintro r w1 ⟨rfl, hb⟩; have HB1 := Lib.hid hb; clear hb)
      | (go_at_call 7; (refine (HAW.out _ HB1.out).mono ?_); rintro r w2 ⟨rfl, hb⟩; have HB2 := Lib.hid (bch HB1.out hb); clear hb))
    go_ret
    exact ⟨rfl, bch HB0.out HB2.out⟩
  | true =>
    obtain ⟨hw, hf, h0⟩ := synOk_parts hok
    obtain ⟨hfew, h512⟩ := fewB_parts hw
    have hg := (fitsF_iff ls).1 hf
    have hsn := synN_le N ls
    have hbf0 := synF_isB x ls hlb N kb torn cut
    obtain ⟨fs, hfs⟩ : ∃ fs, synF x ls N kb torn cut = fs := ⟨_, rfl⟩
    rw [hfs] at hbf0
    have HAF : Hid (Calls Tryd.prog 12 #[yV x (.slice la n lc) N, cV (.slice ka kn kc) torn cut] w0 fun r w' => ∃ a c, r = .returned (.tuple #[.slice a 16 c, .int .i64 (synN N ls : Nat), .bool true]) ∧ FS w' (.slice a 16 c) 16 fs ∧ Below w0.heap.size w0 w') := Lib.hid (hAF.mono fun r w' h => by
      rcases h with ⟨h1, _⟩ | ⟨_, a, c, h1, h2, h3⟩
      · rw [hok] at h1; cases h1
      · rw [hfs] at h2; exact ⟨a, c, h1, h2, h3⟩)
    clear hAF
    obtain ⟨ns, hns⟩ : ∃ ns, wholeK x (bodyF (x % 4294967296) ls) (touchN 0 (endF ls)).2 16 = ns := ⟨_, rfl⟩
    have hnear : ∀ (T : Nat) (f l : Int), (∀ i : Nat, i < 16 → (i : Int) = torn → i = T) → l ≤ f + 3 → (T < 16 → ∀ j : Nat, j < 64 → ((j : Int) < f ∨ l < (j : Int)) → (secOf fs T).getD j 0 = (secOf ns T).getD j 0) → (∀ y ∈ lenF ls ls.length, ¬ (y / 52 = T ∧ f ≤ y - 52 * T + 12 ∧ y - 52 * T + 12 ≤ l)) → clF (x % 4294967296) (flatB x 16 fs 16) (flatK x 16 fs 16) ls ls.length = [] := fun T f l h1 h2 h3 h4 => by
      have hfs2 : applyN kb torn cut (wholeK x (bodyF (x % 4294967296) (ls.take (synN N ls))) (touchN 0 (endF (ls.take (synN N ls)))).2 16) ns 16 = fs := by rw [← hns]; exact hfs
      exact (near_crash hx h0 hg (synN N ls) hsn kb torn cut fs ns hbf0 hns hfs2 T h1 f l h2 h3).free (by omega) hg hlb hsn h4
    have hfin : clF (x % 4294967296) (flatB x 16 fs 16) (flatK x 16 fs 16) ls ls.length = [] →
        (∀ (w' : World) (v : Value), Below w0.heap.size w0 w' → FS w' v 16 fs → Calls Tryd.prog 10 #[.int .u64 x, .slice la n lc, v] w' fun r w'' => r = .returned (.bool true) ∧ Below w'.heap.size w' w'') ∧
        ∃ m : Nat, (m : Int) ≤ (n : Int) ∧ ∀ (w' : World) (v : Value), Below w0.heap.size w0 w' → FS w' v 16 fs → Calls Tryd.prog 17 #[.int .u64 x, v] w' fun r w'' => ∃ (ra : Option Addr) (rc : Nat) (pa : Option Addr) (pn pc : Nat) (F k : Int), r = .returned (.agg (uA (.slice ra m rc) (.slice pa pn pc) F k)) ∧ Below w'.heap.size w' w'' := fun hc => by
      refine ⟨fun w' v hb hv => ?_, ?_⟩
      · have := tfree_any x hx (.slice la n lc) n ls (by omega) hlb v 16 fs hbf0 w' (hT.keep (bch hb0 hb)) (h.keep (bch hb0 hb)) hv
        have hz : tclF x 16 fs ls = [] := by unfold tclF; rw [hf, if_pos rfl]; exact hc
        rw [hf, hz] at this
        exact this
      · obtain ⟨m, hm1, hm2, hm3⟩ := told_torn hg h512 (synN N ls) hsn kb torn cut fs hfs hc
        have hml : (ls.take m).length = m := by rw [List.length_take]; omega
        refine ⟨m, by omega, fun w' v hb hv => (rscan_any x hx v 16 fs hbf0 w' hv (by omega)).mono fun r w'' ⟨rv, pv, es, h1, h2, h3, h4, h5⟩ => ?_⟩
        have hr := h2.rl_ (h3.trans hm3)
        rw [hml] at hr
        obtain ⟨ra, rc, rfl, _⟩ := hr.form
        obtain ⟨pa, pc, hp⟩ := own_form h4
        subst hp
        exact ⟨ra, rc, pa, _, pc, _, _, h1, h5⟩
    by_cases hto : (0 : Int) ≤ torn ∧ torn < 16
    · obtain ⟨T, rfl⟩ : ∃ T : Nat, torn = (T : Int) := ⟨torn.toNat, by omega⟩
      have hT16 : (T : Int) < 16 := hto.2
      have HNR : Hid (∀ (f l : Int), l ≤ f + 3 → (∀ j : Nat, j < 64 → ((j : Int) < f ∨ l < (j : Int)) → (secOf fs T).getD j 0 = (secOf ns T).getD j 0) → (∀ y ∈ lenF ls ls.length, ¬ (y / 52 = T ∧ f ≤ y - 52 * T + 12 ∧ y - 52 * T + 12 ≤ l)) → clF (x % 4294967296) (flatB x 16 fs 16) (flatK x 16 fs 16) ls ls.length = []) := Lib.hid fun f l h1 h2 h3 => hnear T f l (fun i _ e => by omega) h1 (fun _ => h2) h3
      have HFIN := Lib.hid hfin
      have HSQ : Hid (∀ w', Below w0.heap.size w0 w' → Calls Tryd.prog 15 #[.int .u64 x, .slice la n lc] w' fun r w'' => ∃ a c, r = .returned (.tuple #[.slice a 16 c, .bool true]) ∧ FS w'' (.slice a 16 c) 16 ns ∧ Below w'.heap.size w' w'') := Lib.hid fun w' hb =>
        (rsectors_any x hx (.slice la n lc) n ls (by omega) hlb w' (h.keep (bch hb0 hb))).mono fun r w'' h => by
          rcases h with ⟨_, v, h1, h2, h3⟩ | ⟨h1, _⟩
          · rw [hns] at h2
            obtain ⟨a, c, rfl, _⟩ := id h2
            exact ⟨a, c, h1, h2, h3⟩
          · rw [hf] at h1; cases h1
      have HLN : Hid (∀ w', Below w0.heap.size w0 w' → Calls Tryd.prog 16 #[.slice la n lc] w' fun r w'' => ∃ a nn c, r = .returned (.slice a nn c) ∧ RI .i64 w'' (.slice a nn c) nn (lenF ls ls.length) ∧ Below w'.heap.size w' w'') := Lib.hid fun w' hb => rlengths_any (.slice la n lc) n ls (by omega) hlb hf w' (h.keep (bch hb0 hb))
      have HLB := Lib.hid (lenF_bd ls ls.length)
      generalize lenF ls ls.length = Y at *
      generalize clF (x % 4294967296) (flatB x 16 fs 16) (flatK x 16 fs 16) ls ls.length = CL at *
      generalize synN N ls = q at *
      clear hx hlb hN hkb ht hct h hk hT hln hz1 hb0 hy0 hc0 hok hw hf h0 hfew h512 hg hsn hfs hbf0 hns hnear hfin hto
      go_enter Tryd.func5, Tryd.ntmps5
      go_wp2_with (first
        | (refine wpList_load_row rfl 42 (.tmp 2) rfl w.heap.size rfl _ #[.int .u64 x, .slice la n lc, .int .u64 N] (0, 0) _ HY0.out Tryd.underlying42 rfl syn_info ?_)
        | (refine wpList_load_row rfl 45 (.tmp 3) rfl (w.heap.size + 1) rfl _ #[.slice ka kn kc, .int .i64 (T : Int), .int .i64 cut] (0, 0) _ HC0.out Tryd.underlying45 rfl crash_info ?_)
        | (go_at_call 12; (refine HAF.out.mono ?_); rintro r w1 ⟨a1, c1, rfl, hs, hb⟩; have HB1 := Lib.hid hb; have HS1 := Lib.hid hs; obtain ⟨t0, t1, t2⟩ := HY.out w1 hb; clear hb hs)
        | (go_at_call 15; (refine (HSQ.out _ HB1.out).mono ?_); rintro r w2 ⟨a2, c2, rfl, hs, hb⟩; have HB2 := Lib.hid (bch HB1.out hb); have HS2 := Lib.hid (HS1.out.keep hb); have HN2 := Lib.hid hs; clear hb hs))
      have HFL := Lib.hid (flN_tells (secOf fs T) (secOf ns T))
      go_loopw [10, 11, 12] (fun fv lv iv wr => ∃ i : Nat, iv = .int .i64 (i : Int) ∧ i ≤ 64 ∧ fv = .int .i64 (flN (secOf fs T) (secOf ns T) i).1 ∧ lv = .int .i64 (flN (secOf fs T) (secOf ns T) i).2 ∧ Hid (Below w2.heap.size w2 wr)) (fun _ _ iv _ => 64 - (intOf iv).toNat)
      case atStart => exact ⟨0, rfl, by omega, rfl, rfl, Lib.hid (Below.refl _ _)⟩
      case round =>
        obtain ⟨i, rfl, hi, rfl, rfl, HB⟩ := hrel
        by_cases hlt : (i : Int) < 64
        · obtain ⟨b1, o1, rfl, r1⟩ := HS2.out.at_ T (by omega)
          obtain ⟨b2, o2, rfl, r2⟩ := HN2.out.at_ T (by omega)
          have d1 := r1.2 i (by omega)
          have d2 := r2.2 i (by omega)
          have HN : Hid (flN (secOf fs T) (secOf ns T) (i + 1) = if (secOf fs T).getD i 0 = (secOf ns T).getD i 0 then flN (secOf fs T) (secOf ns T) i else (if (flN (secOf fs T) (secOf ns T) i).1 < 0 then (i : Int) else (flN (secOf fs T) (secOf ns T) i).1, (i : Int))) := Lib.hid (by rw [flN])
          obtain ⟨p1, p2, p3, p4, _⟩ := HFL.out i
          obtain ⟨d, hd⟩ : ∃ d, flN (secOf fs T) (secOf ns T) i = d := ⟨_, rfl⟩
          rw [hd] at HN p1 p2 p3 p4 ⊢
          obtain ⟨f, l⟩ := d
          clear hd
          dsimp only at HN p1 p2 p3 p4 ⊢
          change w2.cell? _ = some (.int .u8 ((secOf fs T).getD i 0)) at d1
          change w2.cell? _ = some (.int .u8 ((secOf ns T).getD i 0)) at d2
          obtain ⟨p, hp⟩ : ∃ p, (secOf fs T).getD i 0 = p := ⟨_, rfl⟩
          obtain ⟨q', hq⟩ : ∃ q, (secOf ns T).getD i 0 = q := ⟨_, rfl⟩
          rw [hp] at d1 HN
          rw [hq] at d2 HN
          have HST : Hid (wr.drew.cell? ⟨w.heap.size + 1, 1, none⟩ = some (.int .i64 (T : Int)) ∧ wr.drew.cell? ⟨b1, o1 + T * 64 + i, none⟩ = some (.int .u8 p) ∧ wr.drew.cell? ⟨b2, o2 + T * 64 + i, none⟩ = some (.int .u8 q')) := Lib.hid ⟨(HY.out _ (bch HB2.out HB.out.drew)).2.2, cell_keep HB.out.drew d1, cell_keep HB.out.drew d2⟩
          clear d1 d2 hp hq r1 r2
          by_cases he : p = q'
          · have HD : Hid (flN (secOf fs T) (secOf ns T) (i + 1) = (f, l)) := Lib.hid (by rw [HN.out, if_pos he])
            subst he
            go_wp2_with fail
            refine wp_region_held_drew (S := (fun w' => w'.cell? ⟨w.heap.size + 1, 1, none⟩ = some (.int .i64 (T : Int)) ∧ w'.cell? ⟨b1, o1 + T * 64 + i, none⟩ = some (.int .u8 p) ∧ w'.cell? ⟨b2, o2 + T * 64 + i, none⟩ = some (.int .u8 p))) (by kernel_rfl) HST.out (fun hS => ?_)
            refine wpAnyH_take (i := 0) (oi := ({ dst := some 49, op := Op.move (Operand.tmp 5), type := 24, pos := "law.go:73", after := #[], guard := none } : Oper)) (v := ?_) rfl (by kernel_rfl) (by kernel_rfl) (by kernel_rfl) (fun _ _ _ h => h) (Or.inl ⟨by rfl, ?_⟩) hS ?_
            rotate_left
            · (intro w hSw; (try dsimp only at hSw); go_simp; try with_reducible rfl)
            (try simp only [Act.put, List.setIfInBounds_toArray, List.set_cons_zero, List.set_cons_succ])
            refine wpAnyH_take (i := 1) (oi := ({ dst := some 50, op := Op.fieldAddr 45 (Operand.tmp 3) 1, type := 0, pos := "law.go:73", after := #[], guard := none } : Oper)) (v := ?_) rfl (by kernel_rfl) (by kernel_rfl) (by kernel_rfl) (fun _ _ _ h => h) (Or.inl ⟨by rfl, ?_⟩) hS ?_
            rotate_left
            · (intro w hSw; (try dsimp only at hSw); go_simp; try with_reducible rfl)
            (try simp only [Act.put, List.setIfInBounds_toArray, List.set_cons_zero, List.set_cons_succ])
            refine wpAnyH_take (i := 2) (oi := ({ dst := some 51, op := Op.load 3 (Operand.tmp 50), type := 3, pos := "law.go:73", after := #[{ on := 1, ground := Ground.data }], guard := none } : Oper)) (v := ?_) rfl (by kernel_rfl) (by kernel_rfl) (by kernel_rfl) (fun _ _ _ h => h) (Or.inl ⟨by rfl, ?_⟩) hS ?_
            rotate_left
            · (intro w hSw; (try dsimp only at hSw); go_simp; try with_reducible rfl)
            (try simp only [Act.put, List.setIfInBounds_toArray, List.set_cons_zero, List.set_cons_succ])
            refine wpAnyH_take (i := 3) (oi := ({ dst := some 52, op := Op.move (Operand.tmp 12), type := 3, pos := "law.go:73", after := #[], guard := none } : Oper)) (v := ?_) rfl (by kernel_rfl) (by kernel_rfl) (by kernel_rfl) (fun _ _ _ h => h) (Or.inl ⟨by rfl, ?_⟩) hS ?_
            rotate_left
            · (intro w hSw; (try dsimp only at hSw); go_simp; try with_reducible rfl)
            (try simp only [Act.put, List.setIfInBounds_toArray, List.set_cons_zero, List.set_cons_succ])
            refine wpAnyH_take (i := 4) (oi := ({ dst := some 53, op := Op.indexAddr 24 (Operand.tmp 49) (Operand.tmp 51), type := 0, pos := "law.go:73", after := #[{ on := 0, ground := Ground.data }, { on := 2, ground := Ground.data }], guard := none } : Oper)) (v := ?_) rfl (by kernel_rfl) (by kernel_rfl) (by kernel_rfl) (fun _ _ _ h => h) (Or.inl ⟨by rfl, ?_⟩) hS ?_
            rotate_left
            · (intro w hSw; (try dsimp only at hSw); go_simp; try with_reducible rfl)
            (try simp only [Act.put, List.setIfInBounds_toArray, List.set_cons_zero, List.set_cons_succ])
            refine wpAnyH_take (i := 5) (oi := ({ dst := some 54, op := Op.indexAddr 28 (Operand.tmp 53) (Operand.tmp 52), type := 0, pos := "law.go:73", after := #[{ on := 4, ground := Ground.data }, { on := 3, ground := Ground.data }], guard := none } : Oper)) (v := ?_) rfl (by kernel_rfl) (by kernel_rfl) (by kernel_rfl) (fun _ _ _ h => h) (Or.inl ⟨by rfl, ?_⟩) hS ?_
            rotate_left
            · (intro w hSw; (try dsimp only at hSw); go_simp; try with_reducible rfl)
            (try simp only [Act.put, List.setIfInBounds_toArray, List.set_cons_zero, List.set_cons_succ])
            refine wpAnyH_take (i := 6) (oi := ({ dst := some 55, op := Op.load 5 (Operand.tmp 54), type := 5, pos := "law.go:73", after := #[{ on := 5, ground := Ground.data }], guard := none } : Oper)) (v := ?_) rfl (by kernel_rfl) (by kernel_rfl) (by kernel_rfl) (fun _ _ _ h => h) (Or.inl ⟨by rfl, ?_⟩) hS ?_
            rotate_left
            · (intro w hSw; (try dsimp only at hSw); go_simp; try with_reducible rfl)
            (try simp only [Act.put, List.setIfInBounds_toArray, List.set_cons_zero, List.set_cons_succ])
            refine wpAnyH_take (i := 7) (oi := ({ dst := some 56, op := Op.move (Operand.tmp 8), type := 24, pos := "law.go:73", after := #[], guard := none } : Oper)) (v := ?_) rfl (by kernel_rfl) (by kernel_rfl) (by kernel_rfl) (fun _ _ _ h => h) (Or.inl ⟨by rfl, ?_⟩) hS ?_
            rotate_left
            · (intro w hSw; (try dsimp only at hSw); go_simp; try with_reducible rfl)
            (try simp only [Act.put, List.setIfInBounds_toArray, List.set_cons_zero, List.set_cons_succ])
            refine wpAnyH_take (i := 8) (oi := ({ dst := some 57, op := Op.fieldAddr 45 (Operand.tmp 3) 1, type := 0, pos := "law.go:73", after := #[], guard := none } : Oper)) (v := ?_) rfl (by kernel_rfl) (by kernel_rfl) (by kernel_rfl) (fun _ _ _ h => h) (Or.inl ⟨by rfl, ?_⟩) hS ?_
            rotate_left
            · (intro w hSw; (try dsimp only at hSw); go_simp; try with_reducible rfl)
            (try simp only [Act.put, List.setIfInBounds_toArray, List.set_cons_zero, List.set_cons_succ])
            refine wpAnyH_take (i := 9) (oi := ({ dst := some 58, op := Op.load 3 (Operand.tmp 57), type := 3, pos := "law.go:73", after := #[{ on := 8, ground := Ground.data }], guard := none } : Oper)) (v := ?_) rfl (by kernel_rfl) (by kernel_rfl) (by kernel_rfl) (fun _ _ _ h => h) (Or.inl ⟨by rfl, ?_⟩) hS ?_
            rotate_left
            · (intro w hSw; (try dsimp only at hSw); go_simp; try with_reducible rfl)
            (try simp only [Act.put, List.setIfInBounds_toArray, List.set_cons_zero, List.set_cons_succ])
            refine wpAnyH_take (i := 10) (oi := ({ dst := some 59, op := Op.move (Operand.tmp 12), type := 3, pos := "law.go:73", after := #[], guard := none } : Oper)) (v := ?_) rfl (by kernel_rfl) (by kernel_rfl) (by kernel_rfl) (fun _ _ _ h => h) (Or.inl ⟨by rfl, ?_⟩) hS ?_
            rotate_left
            · (intro w hSw; (try dsimp only at hSw); go_simp; try with_reducible rfl)
            (try simp only [Act.put, List.setIfInBounds_toArray, List.set_cons_zero, List.set_cons_succ])
            refine wpAnyH_take (i := 11) (oi := ({ dst := some 60, op := Op.indexAddr 24 (Operand.tmp 56) (Operand.tmp 58), type := 0, pos := "law.go:73", after := #[{ on := 7, ground := Ground.data }, { on := 9, ground := Ground.data }], guard := none } : Oper)) (v := ?_) rfl (by kernel_rfl) (by kernel_rfl) (by kernel_rfl) (fun _ _ _ h => h) (Or.inl ⟨by rfl, ?_⟩) hS ?_
            rotate_left
            · (intro w hSw; (try dsimp only at hSw); go_simp; try with_reducible rfl)
            (try simp only [Act.put, List.setIfInBounds_toArray, List.set_cons_zero, List.set_cons_succ])
            refine wpAnyH_take (i := 12) (oi := ({ dst := some 61, op := Op.indexAddr 28 (Operand.tmp 60) (Operand.tmp 59), type := 0, pos := "law.go:73", after := #[{ on := 11, ground := Ground.data }, { on := 10, ground := Ground.data }], guard := none } : Oper)) (v := ?_) rfl (by kernel_rfl) (by kernel_rfl) (by kernel_rfl) (fun _ _ _ h => h) (Or.inl ⟨by rfl, ?_⟩) hS ?_
            rotate_left
            · (intro w hSw; (try dsimp only at hSw); go_simp; try with_reducible rfl)
            (try simp only [Act.put, List.setIfInBounds_toArray, List.set_cons_zero, List.set_cons_succ])
            refine wpAnyH_take (i := 13) (oi := ({ dst := some 62, op := Op.load 5 (Operand.tmp 61), type := 5, pos := "law.go:73", after := #[{ on := 12, ground := Ground.data }], guard := none } : Oper)) (v := ?_) rfl (by kernel_rfl) (by kernel_rfl) (by kernel_rfl) (fun _ _ _ h => h) (Or.inl ⟨by rfl, ?_⟩) hS ?_
            rotate_left
            · (intro w hSw; (try dsimp only at hSw); go_simp; try with_reducible rfl)
            (try simp only [Act.put, List.setIfInBounds_toArray, List.set_cons_zero, List.set_cons_succ])
            refine wpAnyH_take (i := 14) (oi := ({ dst := some 63, op := Op.binOp BinOp.neq 5 (Operand.tmp 55) (Operand.tmp 62) 5, type := 4, pos := "law.go:73", after := #[{ on := 6, ground := Ground.data }, { on := 13, ground := Ground.data }], guard := none } : Oper)) (v := ?_) rfl (by kernel_rfl) (by kernel_rfl) (by kernel_rfl) (fun _ _ _ h => h) (Or.inl ⟨by rfl, ?_⟩) hS ?_
            rotate_left
            · (intro w hSw; (try dsimp only at hSw); go_simp; try with_reducible rfl)
            (try simp only [Act.put, List.setIfInBounds_toArray, List.set_cons_zero, List.set_cons_succ])
            refine wpAnyH_done (by kernel_rfl) ?_ _
            clear hS
            go_wp2
            go_roundw
            case rel => exact ⟨i + 1, by go_num, by omega, by rw [HD.out], by rw [HD.out], Lib.hid HB.out.drew⟩
            case measure => simp [intOf]; omega
          · have heq : (p != q') = true := by simpa using he
            by_cases hf0 : f < 0
            · have HD : Hid (flN (secOf fs T) (secOf ns T) (i + 1) = ((i : Int), (i : Int))) := Lib.hid (by rw [HN.out, if_neg he, if_pos hf0])
              clear he
              go_wp2_with fail
              refine wp_region_held_drew (S := (fun w' => w'.cell? ⟨w.heap.size + 1, 1, none⟩ = some (.int .i64 (T : Int)) ∧ w'.cell? ⟨b1, o1 + T * 64 + i, none⟩ = some (.int .u8 p) ∧ w'.cell? ⟨b2, o2 + T * 64 + i, none⟩ = some (.int .u8 q'))) (by kernel_rfl) HST.out (fun hS => ?_)
              refine wpAnyH_take (i := 0) (oi := ({ dst := some 49, op := Op.move (Operand.tmp 5), type := 24, pos := "law.go:73", after := #[], guard := none } : Oper)) (v := ?_) rfl (by kernel_rfl) (by kernel_rfl) (by kernel_rfl) (fun _ _ _ h => h) (Or.inl ⟨by rfl, ?_⟩) hS ?_
              rotate_left
              · (intro w hSw; (try dsimp only at hSw); go_simp; try with_reducible rfl)
              (try simp only [Act.put, List.setIfInBounds_toArray, List.set_cons_zero, List.set_cons_succ])
              refine wpAnyH_take (i := 1) (oi := ({ dst := some 50, op := Op.fieldAddr 45 (Operand.tmp 3) 1, type := 0, pos := "law.go:73", after := #[], guard := none } : Oper)) (v := ?_) rfl (by kernel_rfl) (by kernel_rfl) (by kernel_rfl) (fun _ _ _ h => h) (Or.inl ⟨by rfl, ?_⟩) hS ?_
              rotate_left
              · (intro w hSw; (try dsimp only at hSw); go_simp; try with_reducible rfl)
              (try simp only [Act.put, List.setIfInBounds_toArray, List.set_cons_zero, List.set_cons_succ])
              refine wpAnyH_take (i := 2) (oi := ({ dst := some 51, op := Op.load 3 (Operand.tmp 50), type := 3, pos := "law.go:73", after := #[{ on := 1, ground := Ground.data }], guard := none } : Oper)) (v := ?_) rfl (by kernel_rfl) (by kernel_rfl) (by kernel_rfl) (fun _ _ _ h => h) (Or.inl ⟨by rfl, ?_⟩) hS ?_
              rotate_left
              · (intro w hSw; (try dsimp only at hSw); go_simp; try with_reducible rfl)
              (try simp only [Act.put, List.setIfInBounds_toArray, List.set_cons_zero, List.set_cons_succ])
              refine wpAnyH_take (i := 3) (oi := ({ dst := some 52, op := Op.move (Operand.tmp 12), type := 3, pos := "law.go:73", after := #[], guard := none } : Oper)) (v := ?_) rfl (by kernel_rfl) (by kernel_rfl) (by kernel_rfl) (fun _ _ _ h => h) (Or.inl ⟨by rfl, ?_⟩) hS ?_
              rotate_left
              · (intro w hSw; (try dsimp only at hSw); go_simp; try with_reducible rfl)
              (try simp only [Act.put, List.setIfInBounds_toArray, List.set_cons_zero, List.set_cons_succ])
              refine wpAnyH_take (i := 4) (oi := ({ dst := some 53, op := Op.indexAddr 24 (Operand.tmp 49) (Operand.tmp 51), type := 0, pos := "law.go:73", after := #[{ on := 0, ground := Ground.data }, { on := 2, ground := Ground.data }], guard := none } : Oper)) (v := ?_) rfl (by kernel_rfl) (by kernel_rfl) (by kernel_rfl) (fun _ _ _ h => h) (Or.inl ⟨by rfl, ?_⟩) hS ?_
              rotate_left
              · (intro w hSw; (try dsimp only at hSw); go_simp; try with_reducible rfl)
              (try simp only [Act.put, List.setIfInBounds_toArray, List.set_cons_zero, List.set_cons_succ])
              refine wpAnyH_take (i := 5) (oi := ({ dst := some 54, op := Op.indexAddr 28 (Operand.tmp 53) (Operand.tmp 52), type := 0, pos := "law.go:73", after := #[{ on := 4, ground := Ground.data }, { on := 3, ground := Ground.data }], guard := none } : Oper)) (v := ?_) rfl (by kernel_rfl) (by kernel_rfl) (by kernel_rfl) (fun _ _ _ h => h) (Or.inl ⟨by rfl, ?_⟩) hS ?_
              rotate_left
              · (intro w hSw; (try dsimp only at hSw); go_simp; try with_reducible rfl)
              (try simp only [Act.put, List.setIfInBounds_toArray, List.set_cons_zero, List.set_cons_succ])
              refine wpAnyH_take (i := 6) (oi := ({ dst := some 55, op := Op.load 5 (Operand.tmp 54), type := 5, pos := "law.go:73", after := #[{ on := 5, ground := Ground.data }], guard := none } : Oper)) (v := ?_) rfl (by kernel_rfl) (by kernel_rfl) (by kernel_rfl) (fun _ _ _ h => h) (Or.inl ⟨by rfl, ?_⟩) hS ?_
              rotate_left
              · (intro w hSw; (try dsimp only at hSw); go_simp; try with_reducible rfl)
              (try simp only [Act.put, List.setIfInBounds_toArray, List.set_cons_zero, List.set_cons_succ])
              refine wpAnyH_take (i := 7) (oi := ({ dst := some 56, op := Op.move (Operand.tmp 8), type := 24, pos := "law.go:73", after := #[], guard := none } : Oper)) (v := ?_) rfl (by kernel_rfl) (by kernel_rfl) (by kernel_rfl) (fun _ _ _ h => h) (Or.inl ⟨by rfl, ?_⟩) hS ?_
              rotate_left
              · (intro w hSw; (try dsimp only at hSw); go_simp; try with_reducible rfl)
              (try simp only [Act.put, List.setIfInBounds_toArray, List.set_cons_zero, List.set_cons_succ])
              refine wpAnyH_take (i := 8) (oi := ({ dst := some 57, op := Op.fieldAddr 45 (Operand.tmp 3) 1, type := 0, pos := "law.go:73", after := #[], guard := none } : Oper)) (v := ?_) rfl (by kernel_rfl) (by kernel_rfl) (by kernel_rfl) (fun _ _ _ h => h) (Or.inl ⟨by rfl, ?_⟩) hS ?_
              rotate_left
              · (intro w hSw; (try dsimp only at hSw); go_simp; try with_reducible rfl)
              (try simp only [Act.put, List.setIfInBounds_toArray, List.set_cons_zero, List.set_cons_succ])
              refine wpAnyH_take (i := 9) (oi := ({ dst := some 58, op := Op.load 3 (Operand.tmp 57), type := 3, pos := "law.go:73", after := #[{ on := 8, ground := Ground.data }], guard := none } : Oper)) (v := ?_) rfl (by kernel_rfl) (by kernel_rfl) (by kernel_rfl) (fun _ _ _ h => h) (Or.inl ⟨by rfl, ?_⟩) hS ?_
              rotate_left
              · (intro w hSw; (try dsimp only at hSw); go_simp; try with_reducible rfl)
              (try simp only [Act.put, List.setIfInBounds_toArray, List.set_cons_zero, List.set_cons_succ])
              refine wpAnyH_take (i := 10) (oi := ({ dst := some 59, op := Op.move (Operand.tmp 12), type := 3, pos := "law.go:73", after := #[], guard := none } : Oper)) (v := ?_) rfl (by kernel_rfl) (by kernel_rfl) (by kernel_rfl) (fun _ _ _ h => h) (Or.inl ⟨by rfl, ?_⟩) hS ?_
              rotate_left
              · (intro w hSw; (try dsimp only at hSw); go_simp; try with_reducible rfl)
              (try simp only [Act.put, List.setIfInBounds_toArray, List.set_cons_zero, List.set_cons_succ])
              refine wpAnyH_take (i := 11) (oi := ({ dst := some 60, op := Op.indexAddr 24 (Operand.tmp 56) (Operand.tmp 58), type := 0, pos := "law.go:73", after := #[{ on := 7, ground := Ground.data }, { on := 9, ground := Ground.data }], guard := none } : Oper)) (v := ?_) rfl (by kernel_rfl) (by kernel_rfl) (by kernel_rfl) (fun _ _ _ h => h) (Or.inl ⟨by rfl, ?_⟩) hS ?_
              rotate_left
              · (intro w hSw; (try dsimp only at hSw); go_simp; try with_reducible rfl)
              (try simp only [Act.put, List.setIfInBounds_toArray, List.set_cons_zero, List.set_cons_succ])
              refine wpAnyH_take (i := 12) (oi := ({ dst := some 61, op := Op.indexAddr 28 (Operand.tmp 60) (Operand.tmp 59), type := 0, pos := "law.go:73", after := #[{ on := 11, ground := Ground.data }, { on := 10, ground := Ground.data }], guard := none } : Oper)) (v := ?_) rfl (by kernel_rfl) (by kernel_rfl) (by kernel_rfl) (fun _ _ _ h => h) (Or.inl ⟨by rfl, ?_⟩) hS ?_
              rotate_left
              · (intro w hSw; (try dsimp only at hSw); go_simp; try with_reducible rfl)
              (try simp only [Act.put, List.setIfInBounds_toArray, List.set_cons_zero, List.set_cons_succ])
              refine wpAnyH_take (i := 13) (oi := ({ dst := some 62, op := Op.load 5 (Operand.tmp 61), type := 5, pos := "law.go:73", after := #[{ on := 12, ground := Ground.data }], guard := none } : Oper)) (v := ?_) rfl (by kernel_rfl) (by kernel_rfl) (by kernel_rfl) (fun _ _ _ h => h) (Or.inl ⟨by rfl, ?_⟩) hS ?_
              rotate_left
              · (intro w hSw; (try dsimp only at hSw); go_simp; try with_reducible rfl)
              (try simp only [Act.put, List.setIfInBounds_toArray, List.set_cons_zero, List.set_cons_succ])
              refine wpAnyH_take (i := 14) (oi := ({ dst := some 63, op := Op.binOp BinOp.neq 5 (Operand.tmp 55) (Operand.tmp 62) 5, type := 4, pos := "law.go:73", after := #[{ on := 6, ground := Ground.data }, { on := 13, ground := Ground.data }], guard := none } : Oper)) (v := ?_) rfl (by kernel_rfl) (by kernel_rfl) (by kernel_rfl) (fun _ _ _ h => h) (Or.inl ⟨by rfl, ?_⟩) hS ?_
              rotate_left
              · (intro w hSw; (try dsimp only at hSw); go_simp; try with_reducible rfl)
              (try simp only [Act.put, List.setIfInBounds_toArray, List.set_cons_zero, List.set_cons_succ])
              refine wpAnyH_done (by kernel_rfl) ?_ _
              clear hS
              go_wp2
              go_roundw
              case rel => exact ⟨i + 1, by go_num, by omega, by rw [HD.out], by rw [HD.out], Lib.hid HB.out.drew⟩
              case measure => simp [intOf]; omega
            · have HD : Hid (flN (secOf fs T) (secOf ns T) (i + 1) = (f, (i : Int))) := Lib.hid (by rw [HN.out, if_neg he, if_neg hf0])
              clear he
              go_wp2_with fail
              refine wp_region_held_drew (S := (fun w' => w'.cell? ⟨w.heap.size + 1, 1, none⟩ = some (.int .i64 (T : Int)) ∧ w'.cell? ⟨b1, o1 + T * 64 + i, none⟩ = some (.int .u8 p) ∧ w'.cell? ⟨b2, o2 + T * 64 + i, none⟩ = some (.int .u8 q'))) (by kernel_rfl) HST.out (fun hS => ?_)
              refine wpAnyH_take (i := 0) (oi := ({ dst := some 49, op := Op.move (Operand.tmp 5), type := 24, pos := "law.go:73", after := #[], guard := none } : Oper)) (v := ?_) rfl (by kernel_rfl) (by kernel_rfl) (by kernel_rfl) (fun _ _ _ h => h) (Or.inl ⟨by rfl, ?_⟩) hS ?_
              rotate_left
              · (intro w hSw; (try dsimp only at hSw); go_simp; try with_reducible rfl)
              (try simp only [Act.put, List.setIfInBounds_toArray, List.set_cons_zero, List.set_cons_succ])
              refine wpAnyH_take (i := 1) (oi := ({ dst := some 50, op := Op.fieldAddr 45 (Operand.tmp 3) 1, type := 0, pos := "law.go:73", after := #[], guard := none } : Oper)) (v := ?_) rfl (by kernel_rfl) (by kernel_rfl) (by kernel_rfl) (fun _ _ _ h => h) (Or.inl ⟨by rfl, ?_⟩) hS ?_
              rotate_left
              · (intro w hSw; (try dsimp only at hSw); go_simp; try with_reducible rfl)
              (try simp only [Act.put, List.setIfInBounds_toArray, List.set_cons_zero, List.set_cons_succ])
              refine wpAnyH_take (i := 2) (oi := ({ dst := some 51, op := Op.load 3 (Operand.tmp 50), type := 3, pos := "law.go:73", after := #[{ on := 1, ground := Ground.data }], guard := none } : Oper)) (v := ?_) rfl (by kernel_rfl) (by kernel_rfl) (by kernel_rfl) (fun _ _ _ h => h) (Or.inl ⟨by rfl, ?_⟩) hS ?_
              rotate_left
              · (intro w hSw; (try dsimp only at hSw); go_simp; try with_reducible rfl)
              (try simp only [Act.put, List.setIfInBounds_toArray, List.set_cons_zero, List.set_cons_succ])
              refine wpAnyH_take (i := 3) (oi := ({ dst := some 52, op := Op.move (Operand.tmp 12), type := 3, pos := "law.go:73", after := #[], guard := none } : Oper)) (v := ?_) rfl (by kernel_rfl) (by kernel_rfl) (by kernel_rfl) (fun _ _ _ h => h) (Or.inl ⟨by rfl, ?_⟩) hS ?_
              rotate_left
              · (intro w hSw; (try dsimp only at hSw); go_simp; try with_reducible rfl)
              (try simp only [Act.put, List.setIfInBounds_toArray, List.set_cons_zero, List.set_cons_succ])
              refine wpAnyH_take (i := 4) (oi := ({ dst := some 53, op := Op.indexAddr 24 (Operand.tmp 49) (Operand.tmp 51), type := 0, pos := "law.go:73", after := #[{ on := 0, ground := Ground.data }, { on := 2, ground := Ground.data }], guard := none } : Oper)) (v := ?_) rfl (by kernel_rfl) (by kernel_rfl) (by kernel_rfl) (fun _ _ _ h => h) (Or.inl ⟨by rfl, ?_⟩) hS ?_
              rotate_left
              · (intro w hSw; (try dsimp only at hSw); go_simp; try with_reducible rfl)
              (try simp only [Act.put, List.setIfInBounds_toArray, List.set_cons_zero, List.set_cons_succ])
              refine wpAnyH_take (i := 5) (oi := ({ dst := some 54, op := Op.indexAddr 28 (Operand.tmp 53) (Operand.tmp 52), type := 0, pos := "law.go:73", after := #[{ on := 4, ground := Ground.data }, { on := 3, ground := Ground.data }], guard := none } : Oper)) (v := ?_) rfl (by kernel_rfl) (by kernel_rfl) (by kernel_rfl) (fun _ _ _ h => h) (Or.inl ⟨by rfl, ?_⟩) hS ?_
              rotate_left
              · (intro w hSw; (try dsimp only at hSw); go_simp; try with_reducible rfl)
              (try simp only [Act.put, List.setIfInBounds_toArray, List.set_cons_zero, List.set_cons_succ])
              refine wpAnyH_take (i := 6) (oi := ({ dst := some 55, op := Op.load 5 (Operand.tmp 54), type := 5, pos := "law.go:73", after := #[{ on := 5, ground := Ground.data }], guard := none } : Oper)) (v := ?_) rfl (by kernel_rfl) (by kernel_rfl) (by kernel_rfl) (fun _ _ _ h => h) (Or.inl ⟨by rfl, ?_⟩) hS ?_
              rotate_left
              · (intro w hSw; (try dsimp only at hSw); go_simp; try with_reducible rfl)
              (try simp only [Act.put, List.setIfInBounds_toArray, List.set_cons_zero, List.set_cons_succ])
              refine wpAnyH_take (i := 7) (oi := ({ dst := some 56, op := Op.move (Operand.tmp 8), type := 24, pos := "law.go:73", after := #[], guard := none } : Oper)) (v := ?_) rfl (by kernel_rfl) (by kernel_rfl) (by kernel_rfl) (fun _ _ _ h => h) (Or.inl ⟨by rfl, ?_⟩) hS ?_
              rotate_left
              · (intro w hSw; (try dsimp only at hSw); go_simp; try with_reducible rfl)
              (try simp only [Act.put, List.setIfInBounds_toArray, List.set_cons_zero, List.set_cons_succ])
              refine wpAnyH_take (i := 8) (oi := ({ dst := some 57, op := Op.fieldAddr 45 (Operand.tmp 3) 1, type := 0, pos := "law.go:73", after := #[], guard := none } : Oper)) (v := ?_) rfl (by kernel_rfl) (by kernel_rfl) (by kernel_rfl) (fun _ _ _ h => h) (Or.inl ⟨by rfl, ?_⟩) hS ?_
              rotate_left
              · (intro w hSw; (try dsimp only at hSw); go_simp; try with_reducible rfl)
              (try simp only [Act.put, List.setIfInBounds_toArray, List.set_cons_zero, List.set_cons_succ])
              refine wpAnyH_take (i := 9) (oi := ({ dst := some 58, op := Op.load 3 (Operand.tmp 57), type := 3, pos := "law.go:73", after := #[{ on := 8, ground := Ground.data }], guard := none } : Oper)) (v := ?_) rfl (by kernel_rfl) (by kernel_rfl) (by kernel_rfl) (fun _ _ _ h => h) (Or.inl ⟨by rfl, ?_⟩) hS ?_
              rotate_left
              · (intro w hSw; (try dsimp only at hSw); go_simp; try with_reducible rfl)
              (try simp only [Act.put, List.setIfInBounds_toArray, List.set_cons_zero, List.set_cons_succ])
              refine wpAnyH_take (i := 10) (oi := ({ dst := some 59, op := Op.move (Operand.tmp 12), type := 3, pos := "law.go:73", after := #[], guard := none } : Oper)) (v := ?_) rfl (by kernel_rfl) (by kernel_rfl) (by kernel_rfl) (fun _ _ _ h => h) (Or.inl ⟨by rfl, ?_⟩) hS ?_
              rotate_left
              · (intro w hSw; (try dsimp only at hSw); go_simp; try with_reducible rfl)
              (try simp only [Act.put, List.setIfInBounds_toArray, List.set_cons_zero, List.set_cons_succ])
              refine wpAnyH_take (i := 11) (oi := ({ dst := some 60, op := Op.indexAddr 24 (Operand.tmp 56) (Operand.tmp 58), type := 0, pos := "law.go:73", after := #[{ on := 7, ground := Ground.data }, { on := 9, ground := Ground.data }], guard := none } : Oper)) (v := ?_) rfl (by kernel_rfl) (by kernel_rfl) (by kernel_rfl) (fun _ _ _ h => h) (Or.inl ⟨by rfl, ?_⟩) hS ?_
              rotate_left
              · (intro w hSw; (try dsimp only at hSw); go_simp; try with_reducible rfl)
              (try simp only [Act.put, List.setIfInBounds_toArray, List.set_cons_zero, List.set_cons_succ])
              refine wpAnyH_take (i := 12) (oi := ({ dst := some 61, op := Op.indexAddr 28 (Operand.tmp 60) (Operand.tmp 59), type := 0, pos := "law.go:73", after := #[{ on := 11, ground := Ground.data }, { on := 10, ground := Ground.data }], guard := none } : Oper)) (v := ?_) rfl (by kernel_rfl) (by kernel_rfl) (by kernel_rfl) (fun _ _ _ h => h) (Or.inl ⟨by rfl, ?_⟩) hS ?_
              rotate_left
              · (intro w hSw; (try dsimp only at hSw); go_simp; try with_reducible rfl)
              (try simp only [Act.put, List.setIfInBounds_toArray, List.set_cons_zero, List.set_cons_succ])
              refine wpAnyH_take (i := 13) (oi := ({ dst := some 62, op := Op.load 5 (Operand.tmp 61), type := 5, pos := "law.go:73", after := #[{ on := 12, ground := Ground.data }], guard := none } : Oper)) (v := ?_) rfl (by kernel_rfl) (by kernel_rfl) (by kernel_rfl) (fun _ _ _ h => h) (Or.inl ⟨by rfl, ?_⟩) hS ?_
              rotate_left
              · (intro w hSw; (try dsimp only at hSw); go_simp; try with_reducible rfl)
              (try simp only [Act.put, List.setIfInBounds_toArray, List.set_cons_zero, List.set_cons_succ])
              refine wpAnyH_take (i := 14) (oi := ({ dst := some 63, op := Op.binOp BinOp.neq 5 (Operand.tmp 55) (Operand.tmp 62) 5, type := 4, pos := "law.go:73", after := #[{ on := 6, ground := Ground.data }, { on := 13, ground := Ground.data }], guard := none } : Oper)) (v := ?_) rfl (by kernel_rfl) (by kernel_rfl) (by kernel_rfl) (fun _ _ _ h => h) (Or.inl ⟨by rfl, ?_⟩) hS ?_
              rotate_left
              · (intro w hSw; (try dsimp only at hSw); go_simp; try with_reducible rfl)
              (try simp only [Act.put, List.setIfInBounds_toArray, List.set_cons_zero, List.set_cons_succ])
              refine wpAnyH_done (by kernel_rfl) ?_ _
              clear hS
              go_wp2
              go_roundw
              case rel => exact ⟨i + 1, by go_num, by omega, by rw [HD.out], by rw [HD.out], Lib.hid HB.out.drew⟩
              case measure => simp [intOf]; omega
        · obtain rfl : i = 64 := by omega
          obtain ⟨p1, p2, p3, p4, p5, p6⟩ := HFL.out 64
          obtain ⟨d, hd⟩ : ∃ d, flN (secOf fs T) (secOf ns T) 64 = d := ⟨_, rfl⟩
          rw [hd] at p1 p2 p3 p4 p5 p6 ⊢
          obtain ⟨f, l⟩ := d
          clear hd HFL
          dsimp only at p1 p2 p3 p4 p5 p6 ⊢
          have HP6 := Lib.hid p6
          have p2' : f ≤ 63 := by omega
          have p4' : l ≤ 63 := by omega
          clear p2 p4 p5 p6
          have HBr := Lib.hid (bch HB2.out HB.out)
          have HSr := Lib.hid (HS2.out.keep HB.out)
          obtain ⟨u0, u1, u2⟩ := HY.out _ HBr.out
          have hws : IntKind.i64.wrap (l - f) = l - f := IntWalk.i64_in _ (by omega)
          by_cases h3 : (3 : Int) < l - f
          · go_wp2_with (first
              | (go_at_call 7; (refine (HAW.out _ HBr.out).mono ?_); rintro r w3 ⟨rfl, hb⟩; have HB3 := Lib.hid (bch HBr.out hb); clear hb))
            (first | go_ret2 | go_ret3 | go_ret)
            exact ⟨rfl, bch HB0.out HB3.out⟩
          · have h3n : l - f ≤ 3 := by omega
            have HNX := Lib.hid (HNR.out f l (by omega) HP6.out)
            go_wp2_with (first
              | (go_at_call 16; (refine (HLN.out _ HBr.out).mono ?_); rintro r w3 ⟨a3, n3, c3, rfl, hy, hb⟩; have HB3 := Lib.hid (bch HBr.out hb); have HS3 := Lib.hid (HSr.out.keep hb); have HY3 := Lib.hid hy; have hn3 := hy.le; clear hb hy))
            clear h3 hws
            go_loopw [14] (fun iv wr => ∃ i : Nat, iv = .int .i64 (i : Int) ∧ i ≤ n3 ∧ Hid (∀ j, j < i → ¬ (Y.getD j 0 / 52 = T ∧ f ≤ Y.getD j 0 - 52 * T + 12 ∧ Y.getD j 0 - 52 * T + 12 ≤ l)) ∧ Hid (Below w3.heap.size w3 wr)) (fun iv _ => n3 - (intOf iv).toNat)
            case atStart => exact ⟨0, rfl, by omega, Lib.hid (fun j hj => absurd hj (by omega)), Lib.hid (Below.refl _ _)⟩
            case round =>
              obtain ⟨i, rfl, hi, HJ, HBl⟩ := hrel
              rename World => wl
              have HBw := Lib.hid (bch HB3.out HBl.out)
              by_cases hlt2 : (i : Int) < (n3 : Int)
              · obtain ⟨yb, yo, rfl, hcell⟩ := (HY3.out.keep HBl.out).at_ (by omega)
                have d1 := hcell i (by omega)
                have hyl := HY3.out.length
                have hyb := HLB.out (Y.getD i 0) (by simp [List.getD, show i < Y.length by omega])
                have HJN : Hid (¬ (Y.getD i 0 / 52 = T ∧ f ≤ Y.getD i 0 - 52 * T + 12 ∧ Y.getD i 0 - 52 * T + 12 ≤ l) → ∀ j, j < i + 1 → ¬ (Y.getD j 0 / 52 = T ∧ f ≤ Y.getD j 0 - 52 * T + 12 ∧ Y.getD j 0 - 52 * T + 12 ≤ l)) := Lib.hid fun hn j hj => by
                  by_cases e : j = i
                  · subst e; exact hn
                  · exact HJ.out j (by omega)
                obtain ⟨y, hy⟩ : ∃ y, Y.getD i 0 = y := ⟨_, rfl⟩
                rw [hy] at d1 hyb HJN
                obtain ⟨hy0, hy8⟩ := hyb
                obtain ⟨td, htd⟩ : ∃ td, y.tdiv 52 = td := ⟨_, rfl⟩
                have htd2 : td = y / 52 := by rw [← htd]; exact Int.tdiv_eq_ediv_of_nonneg hy0
                have HTD := Lib.hid htd
                obtain ⟨at_, hat⟩ : ∃ a : Int, y - 52 * (T : Int) + 12 = a := ⟨_, rfl⟩
                have HWM : Hid (IntKind.i64.wrap (52 * (T : Int)) = 52 * (T : Int)) := Lib.hid (IntWalk.i64_in _ (by omega))
                have HWS : Hid (IntKind.i64.wrap (y - 52 * (T : Int)) = y - 52 * (T : Int)) := Lib.hid (IntWalk.i64_in _ (by omega))
                have HWA : Hid (IntKind.i64.wrap (y - 52 * (T : Int) + 12) = at_) := Lib.hid (by rw [hat]; exact IntWalk.i64_in _ (by omega))
                have HWT : Hid (IntKind.i64.wrap (T : Int) = (T : Int)) := Lib.hid (IntWalk.i64_in _ (by omega))
                have HWD : Hid (IntKind.i64.wrap td = td) := Lib.hid (IntWalk.i64_in _ (by omega))
                have HYE : Hid (td = (T : Int) ∧ f ≤ at_ ∧ at_ ≤ l ∨ ¬ (y / 52 = T ∧ f ≤ y - 52 * T + 12 ∧ y - 52 * T + 12 ≤ l)) := Lib.hid (by omega)
                have HNE : Hid (¬ (td = (T : Int) ∧ f ≤ at_ ∧ at_ ≤ l) → ¬ (y / 52 = T ∧ f ≤ y - 52 * T + 12 ∧ y - 52 * T + 12 ≤ l)) := Lib.hid (by omega)
                have HST : Hid (wl.drew.cell? ⟨w.heap.size + 1, 1, none⟩ = some (.int .i64 (T : Int)) ∧ wl.drew.cell? ⟨yb, yo + i, none⟩ = some (.int .i64 y)) := Lib.hid ⟨(HY.out _ HBw.out.drew).2.2, cell_keep (Below.refl _ wl).drew d1⟩
                have HST2 : Hid (wl.drew.drew.cell? ⟨w.heap.size + 1, 1, none⟩ = some (.int .i64 (T : Int)) ∧ wl.drew.drew.cell? ⟨yb, yo + i, none⟩ = some (.int .i64 y)) := Lib.hid ⟨(HY.out _ HBw.out.drew.drew).2.2, cell_keep (Below.refl _ wl).drew.drew d1⟩
                have HBd := Lib.hid HBw.out.drew.drew
                have HBe := Lib.hid HBl.out.drew.drew
                clear hcell d1 hyl hy htd htd2 hat hy0 hy8 u0 u1 u2
                go_wp2_with fail
                refine wp_region_held_drew (S := (fun w' => w'.cell? ⟨w.heap.size + 1, 1, none⟩ = some (.int .i64 (T : Int)) ∧ w'.cell? ⟨yb, yo + i, none⟩ = some (.int .i64 y))) (by kernel_rfl) HST.out (fun hS => ?_)
                refine wpAnyH_take (i := 0) (oi := ({ dst := some 82, op := Op.move (Operand.tmp 13), type := 32, pos := "law.go:85", after := #[], guard := none } : Oper)) (v := ?_) rfl (by kernel_rfl) (by kernel_rfl) (by kernel_rfl) (fun _ _ _ h => h) (Or.inl ⟨by rfl, ?_⟩) hS ?_
                rotate_left
                · (intro w hSw; (try dsimp only at hSw); go_simp; try with_reducible rfl)
                (try simp only [Act.put, List.setIfInBounds_toArray, List.set_cons_zero, List.set_cons_succ])
                refine wpAnyH_take (i := 1) (oi := ({ dst := some 83, op := Op.move (Operand.tmp 14), type := 3, pos := "law.go:85", after := #[], guard := none } : Oper)) (v := ?_) rfl (by kernel_rfl) (by kernel_rfl) (by kernel_rfl) (fun _ _ _ h => h) (Or.inl ⟨by rfl, ?_⟩) hS ?_
                rotate_left
                · (intro w hSw; (try dsimp only at hSw); go_simp; try with_reducible rfl)
                (try simp only [Act.put, List.setIfInBounds_toArray, List.set_cons_zero, List.set_cons_succ])
                refine wpAnyH_take (i := 2) (oi := ({ dst := some 84, op := Op.indexAddr 32 (Operand.tmp 82) (Operand.tmp 83), type := 0, pos := "law.go:85", after := #[{ on := 0, ground := Ground.data }, { on := 1, ground := Ground.data }], guard := none } : Oper)) (v := ?_) rfl (by kernel_rfl) (by kernel_rfl) (by kernel_rfl) (fun _ _ _ h => h) (Or.inl ⟨by rfl, ?_⟩) hS ?_
                rotate_left
                · (intro w hSw; (try dsimp only at hSw); go_simp; try with_reducible rfl)
                (try simp only [Act.put, List.setIfInBounds_toArray, List.set_cons_zero, List.set_cons_succ])
                refine wpAnyH_take (i := 3) (oi := ({ dst := some 85, op := Op.load 3 (Operand.tmp 84), type := 3, pos := "law.go:85", after := #[{ on := 2, ground := Ground.data }], guard := none } : Oper)) (v := ?_) rfl (by kernel_rfl) (by kernel_rfl) (by kernel_rfl) (fun _ _ _ h => h) (Or.inl ⟨by rfl, ?_⟩) hS ?_
                rotate_left
                · (intro w hSw; (try dsimp only at hSw); go_simp; try with_reducible rfl)
                (try simp only [Act.put, List.setIfInBounds_toArray, List.set_cons_zero, List.set_cons_succ])
                refine wpAnyH_take (i := 4) (oi := ({ dst := some 86, op := Op.fieldAddr 45 (Operand.tmp 3) 1, type := 0, pos := "law.go:85", after := #[], guard := none } : Oper)) (v := ?_) rfl (by kernel_rfl) (by kernel_rfl) (by kernel_rfl) (fun _ _ _ h => h) (Or.inl ⟨by rfl, ?_⟩) hS ?_
                rotate_left
                · (intro w hSw; (try dsimp only at hSw); go_simp; try with_reducible rfl)
                (try simp only [Act.put, List.setIfInBounds_toArray, List.set_cons_zero, List.set_cons_succ])
                refine wpAnyH_take (i := 5) (oi := ({ dst := some 87, op := Op.load 3 (Operand.tmp 86), type := 3, pos := "law.go:85", after := #[{ on := 4, ground := Ground.data }], guard := none } : Oper)) (v := ?_) rfl (by kernel_rfl) (by kernel_rfl) (by kernel_rfl) (fun _ _ _ h => h) (Or.inl ⟨by rfl, ?_⟩) hS ?_
                rotate_left
                · (intro w hSw; (try dsimp only at hSw); go_simp; try with_reducible rfl)
                (try simp only [Act.put, List.setIfInBounds_toArray, List.set_cons_zero, List.set_cons_succ])
                refine wpAnyH_take (i := 6) (oi := ({ dst := some 88, op := Op.binOp BinOp.mul 3 (Operand.const (Value.int IntKind.i64 52)) (Operand.tmp 87) 3, type := 3, pos := "law.go:85", after := #[{ on := 5, ground := Ground.data }], guard := none } : Oper)) (v := .int .i64 (52 * (T : Int))) rfl (by kernel_rfl) (by kernel_rfl) (by kernel_rfl) (fun _ _ _ h => h) (Or.inl ⟨by rfl, ?_⟩) hS ?_
                · (intro w hSw; (try dsimp only at hSw); have z := HWM.out; go_simp; (try exact z))
                (try simp only [Act.put, List.setIfInBounds_toArray, List.set_cons_zero, List.set_cons_succ])
                refine wpAnyH_take (i := 7) (oi := ({ dst := some 89, op := Op.binOp BinOp.sub 3 (Operand.tmp 85) (Operand.tmp 88) 3, type := 3, pos := "law.go:85", after := #[{ on := 3, ground := Ground.data }, { on := 6, ground := Ground.data }], guard := none } : Oper)) (v := .int .i64 (y - 52 * (T : Int))) rfl (by kernel_rfl) (by kernel_rfl) (by kernel_rfl) (fun _ _ _ h => h) (Or.inl ⟨by rfl, ?_⟩) hS ?_
                · (intro w hSw; (try dsimp only at hSw); have z := HWS.out; go_simp; (try exact z))
                (try simp only [Act.put, List.setIfInBounds_toArray, List.set_cons_zero, List.set_cons_succ])
                refine wpAnyH_take (i := 8) (oi := ({ dst := some 90, op := Op.binOp BinOp.add 3 (Operand.tmp 89) (Operand.const (Value.int IntKind.i64 12)) 3, type := 3, pos := "law.go:85", after := #[{ on := 7, ground := Ground.data }], guard := none } : Oper)) (v := .int .i64 at_) rfl (by kernel_rfl) (by kernel_rfl) (by kernel_rfl) (fun _ _ _ h => h) (Or.inl ⟨by rfl, ?_⟩) hS ?_
                · (intro w hSw; (try dsimp only at hSw); have z := HWA.out; go_simp; (try exact z))
                (try simp only [Act.put, List.setIfInBounds_toArray, List.set_cons_zero, List.set_cons_succ])
                refine wpAnyH_take (i := 9) (oi := ({ dst := some 15, op := Op.assign (Operand.tmp 90), type := 3, pos := "law.go:85", after := #[{ on := 8, ground := Ground.data }, { on := 0, ground := Ground.phase }, { on := 1, ground := Ground.phase }, { on := 2, ground := Ground.phase }, { on := 3, ground := Ground.phase }, { on := 4, ground := Ground.phase }, { on := 5, ground := Ground.phase }, { on := 6, ground := Ground.phase }, { on := 7, ground := Ground.phase }, { on := 8, ground := Ground.phase }], guard := none } : Oper)) (v := ?_) rfl (by kernel_rfl) (by kernel_rfl) (by kernel_rfl) (fun _ _ _ h => h) (Or.inl ⟨by rfl, ?_⟩) hS ?_
                rotate_left
                · (intro w hSw; (try dsimp only at hSw); go_simp; try with_reducible rfl)
                (try simp only [Act.put, List.setIfInBounds_toArray, List.set_cons_zero, List.set_cons_succ])
                refine wpAnyH_done (by kernel_rfl) ?_ _
                clear hS
                by_cases k1 : td = (T : Int)
                · by_cases k2 : f ≤ at_
                  · by_cases k3 : at_ ≤ l
                    · go_wp2_with fail
                      refine wp_region_held_drew (S := (fun w' => w'.cell? ⟨w.heap.size + 1, 1, none⟩ = some (.int .i64 (T : Int)) ∧ w'.cell? ⟨yb, yo + i, none⟩ = some (.int .i64 y))) (by kernel_rfl) HST2.out (fun hS => ?_)
                      refine wpAnyH_take (i := 0) (oi := ({ dst := some 91, op := Op.move (Operand.tmp 13), type := 32, pos := "law.go:86", after := #[], guard := none } : Oper)) (v := ?_) rfl (by kernel_rfl) (by kernel_rfl) (by kernel_rfl) (fun _ _ _ h => h) (Or.inl ⟨by rfl, ?_⟩) hS ?_
                      rotate_left
                      · (intro w hSw; (try dsimp only at hSw); go_simp; try with_reducible rfl)
                      (try simp only [Act.put, List.setIfInBounds_toArray, List.set_cons_zero, List.set_cons_succ])
                      refine wpAnyH_take (i := 1) (oi := ({ dst := some 92, op := Op.move (Operand.tmp 14), type := 3, pos := "law.go:86", after := #[], guard := none } : Oper)) (v := ?_) rfl (by kernel_rfl) (by kernel_rfl) (by kernel_rfl) (fun _ _ _ h => h) (Or.inl ⟨by rfl, ?_⟩) hS ?_
                      rotate_left
                      · (intro w hSw; (try dsimp only at hSw); go_simp; try with_reducible rfl)
                      (try simp only [Act.put, List.setIfInBounds_toArray, List.set_cons_zero, List.set_cons_succ])
                      refine wpAnyH_take (i := 2) (oi := ({ dst := some 93, op := Op.indexAddr 32 (Operand.tmp 91) (Operand.tmp 92), type := 0, pos := "law.go:86", after := #[{ on := 0, ground := Ground.data }, { on := 1, ground := Ground.data }], guard := none } : Oper)) (v := ?_) rfl (by kernel_rfl) (by kernel_rfl) (by kernel_rfl) (fun _ _ _ h => h) (Or.inl ⟨by rfl, ?_⟩) hS ?_
                      rotate_left
                      · (intro w hSw; (try dsimp only at hSw); go_simp; try with_reducible rfl)
                      (try simp only [Act.put, List.setIfInBounds_toArray, List.set_cons_zero, List.set_cons_succ])
                      refine wpAnyH_take (i := 3) (oi := ({ dst := some 94, op := Op.load 3 (Operand.tmp 93), type := 3, pos := "law.go:86", after := #[{ on := 2, ground := Ground.data }], guard := none } : Oper)) (v := ?_) rfl (by kernel_rfl) (by kernel_rfl) (by kernel_rfl) (fun _ _ _ h => h) (Or.inl ⟨by rfl, ?_⟩) hS ?_
                      rotate_left
                      · (intro w hSw; (try dsimp only at hSw); go_simp; try with_reducible rfl)
                      (try simp only [Act.put, List.setIfInBounds_toArray, List.set_cons_zero, List.set_cons_succ])
                      refine wpAnyH_take (i := 4) (oi := ({ dst := some 95, op := Op.binOp BinOp.quo 3 (Operand.tmp 94) (Operand.const (Value.int IntKind.i64 52)) 3, type := 3, pos := "law.go:86", after := #[{ on := 3, ground := Ground.data }], guard := none } : Oper)) (v := .int .i64 td) rfl (by kernel_rfl) (by kernel_rfl) (by kernel_rfl) (fun _ _ _ h => h) (Or.inl ⟨by rfl, ?_⟩) hS ?_
                      · (intro w hSw; (try dsimp only at hSw); have z := HTD.out; have z2 := HWD.out; have z3 := HWT.out; go_simp; (try simp [z, z2, z3]))
                      (try simp only [Act.put, List.setIfInBounds_toArray, List.set_cons_zero, List.set_cons_succ])
                      refine wpAnyH_take (i := 5) (oi := ({ dst := some 96, op := Op.fieldAddr 45 (Operand.tmp 3) 1, type := 0, pos := "law.go:86", after := #[], guard := none } : Oper)) (v := ?_) rfl (by kernel_rfl) (by kernel_rfl) (by kernel_rfl) (fun _ _ _ h => h) (Or.inl ⟨by rfl, ?_⟩) hS ?_
                      rotate_left
                      · (intro w hSw; (try dsimp only at hSw); go_simp; try with_reducible rfl)
                      (try simp only [Act.put, List.setIfInBounds_toArray, List.set_cons_zero, List.set_cons_succ])
                      refine wpAnyH_take (i := 6) (oi := ({ dst := some 97, op := Op.load 3 (Operand.tmp 96), type := 3, pos := "law.go:86", after := #[{ on := 5, ground := Ground.data }], guard := none } : Oper)) (v := ?_) rfl (by kernel_rfl) (by kernel_rfl) (by kernel_rfl) (fun _ _ _ h => h) (Or.inl ⟨by rfl, ?_⟩) hS ?_
                      rotate_left
                      · (intro w hSw; (try dsimp only at hSw); go_simp; try with_reducible rfl)
                      (try simp only [Act.put, List.setIfInBounds_toArray, List.set_cons_zero, List.set_cons_succ])
                      refine wpAnyH_take (i := 7) (oi := ({ dst := some 98, op := Op.binOp BinOp.eql 3 (Operand.tmp 95) (Operand.tmp 97) 3, type := 4, pos := "law.go:86", after := #[{ on := 4, ground := Ground.data }, { on := 6, ground := Ground.data }], guard := none } : Oper)) (v := .bool true) rfl (by kernel_rfl) (by kernel_rfl) (by kernel_rfl) (fun _ _ _ h => h) (Or.inl ⟨by rfl, ?_⟩) hS ?_
                      · (intro w hSw; (try dsimp only at hSw); have z := k1; go_simp; (try simp [z]))
                      (try simp only [Act.put, List.setIfInBounds_toArray, List.set_cons_zero, List.set_cons_succ])
                      refine wpAnyH_take (i := 8) (oi := ({ dst := some 99, op := Op.move (Operand.tmp 98), type := 4, pos := "law.go:86", after := #[{ on := 7, ground := Ground.data }], guard := none } : Oper)) (v := ?_) rfl (by kernel_rfl) (by kernel_rfl) (by kernel_rfl) (fun _ _ _ h => h) (Or.inl ⟨by rfl, ?_⟩) hS ?_
                      rotate_left
                      · (intro w hSw; (try dsimp only at hSw); go_simp; try with_reducible rfl)
                      (try simp only [Act.put, List.setIfInBounds_toArray, List.set_cons_zero, List.set_cons_succ])
                      refine wpAnyH_take (i := 9) (oi := ({ dst := some 100, op := Op.move (Operand.tmp 15), type := 3, pos := "law.go:86", after := #[{ on := 8, ground := Ground.guard }], guard := some (8, true) } : Oper)) (v := ?_) rfl (by kernel_rfl) (by kernel_rfl) (by kernel_rfl) (fun _ _ _ h => h) (Or.inl ⟨by rfl, ?_⟩) hS ?_
                      rotate_left
                      · (intro w hSw; (try dsimp only at hSw); go_simp; try with_reducible rfl)
                      (try simp only [Act.put, List.setIfInBounds_toArray, List.set_cons_zero, List.set_cons_succ])
                      refine wpAnyH_take (i := 10) (oi := ({ dst := some 101, op := Op.move (Operand.tmp 10), type := 3, pos := "law.go:86", after := #[{ on := 8, ground := Ground.guard }], guard := some (8, true) } : Oper)) (v := ?_) rfl (by kernel_rfl) (by kernel_rfl) (by kernel_rfl) (fun _ _ _ h => h) (Or.inl ⟨by rfl, ?_⟩) hS ?_
                      rotate_left
                      · (intro w hSw; (try dsimp only at hSw); go_simp; try with_reducible rfl)
                      (try simp only [Act.put, List.setIfInBounds_toArray, List.set_cons_zero, List.set_cons_succ])
                      refine wpAnyH_take (i := 11) (oi := ({ dst := some 102, op := Op.binOp BinOp.geq 3 (Operand.tmp 100) (Operand.tmp 101) 3, type := 4, pos := "law.go:86", after := #[{ on := 9, ground := Ground.data }, { on := 10, ground := Ground.data }, { on := 8, ground := Ground.guard }], guard := some (8, true) } : Oper)) (v := .bool true) rfl (by kernel_rfl) (by kernel_rfl) (by kernel_rfl) (fun _ _ _ h => h) (Or.inl ⟨by rfl, ?_⟩) hS ?_
                      · (intro w hSw; (try dsimp only at hSw); have z := k2; go_simp; (try simp [z]))
                      (try simp only [Act.put, List.setIfInBounds_toArray, List.set_cons_zero, List.set_cons_succ])
                      refine wpAnyH_take (i := 12) (oi := ({ dst := some 103, op := Op.pick (Operand.tmp 99) (Operand.tmp 102) (Operand.const (Value.bool false)), type := 4, pos := "law.go:86", after := #[{ on := 8, ground := Ground.data }, { on := 11, ground := Ground.data }], guard := none } : Oper)) (v := ?_) rfl (by kernel_rfl) (by kernel_rfl) (by kernel_rfl) (fun _ _ _ h => h) (Or.inl ⟨by rfl, ?_⟩) hS ?_
                      rotate_left
                      · (intro w hSw; (try dsimp only at hSw); go_simp; try with_reducible rfl)
                      (try simp only [Act.put, List.setIfInBounds_toArray, List.set_cons_zero, List.set_cons_succ])
                      refine wpAnyH_take (i := 13) (oi := ({ dst := some 104, op := Op.move (Operand.tmp 103), type := 4, pos := "law.go:86", after := #[{ on := 12, ground := Ground.data }, { on := 8, ground := Ground.chain }], guard := none } : Oper)) (v := ?_) rfl (by kernel_rfl) (by kernel_rfl) (by kernel_rfl) (fun _ _ _ h => h) (Or.inl ⟨by rfl, ?_⟩) hS ?_
                      rotate_left
                      · (intro w hSw; (try dsimp only at hSw); go_simp; try with_reducible rfl)
                      (try simp only [Act.put, List.setIfInBounds_toArray, List.set_cons_zero, List.set_cons_succ])
                      refine wpAnyH_take (i := 14) (oi := ({ dst := some 105, op := Op.move (Operand.tmp 15), type := 3, pos := "law.go:86", after := #[{ on := 13, ground := Ground.guard }], guard := some (13, true) } : Oper)) (v := ?_) rfl (by kernel_rfl) (by kernel_rfl) (by kernel_rfl) (fun _ _ _ h => h) (Or.inl ⟨by rfl, ?_⟩) hS ?_
                      rotate_left
                      · (intro w hSw; (try dsimp only at hSw); go_simp; try with_reducible rfl)
                      (try simp only [Act.put, List.setIfInBounds_toArray, List.set_cons_zero, List.set_cons_succ])
                      refine wpAnyH_take (i := 15) (oi := ({ dst := some 106, op := Op.move (Operand.tmp 11), type := 3, pos := "law.go:86", after := #[{ on := 13, ground := Ground.guard }], guard := some (13, true) } : Oper)) (v := ?_) rfl (by kernel_rfl) (by kernel_rfl) (by kernel_rfl) (fun _ _ _ h => h) (Or.inl ⟨by rfl, ?_⟩) hS ?_
                      rotate_left
                      · (intro w hSw; (try dsimp only at hSw); go_simp; try with_reducible rfl)
                      (try simp only [Act.put, List.setIfInBounds_toArray, List.set_cons_zero, List.set_cons_succ])
                      refine wpAnyH_take (i := 16) (oi := ({ dst := some 107, op := Op.binOp BinOp.leq 3 (Operand.tmp 105) (Operand.tmp 106) 3, type := 4, pos := "law.go:86", after := #[{ on := 14, ground := Ground.data }, { on := 15, ground := Ground.data }, { on := 13, ground := Ground.guard }], guard := some (13, true) } : Oper)) (v := .bool true) rfl (by kernel_rfl) (by kernel_rfl) (by kernel_rfl) (fun _ _ _ h => h) (Or.inl ⟨by rfl, ?_⟩) hS ?_
                      · (intro w hSw; (try dsimp only at hSw); have z := k3; go_simp; (try simp [z]))
                      (try simp only [Act.put, List.setIfInBounds_toArray, List.set_cons_zero, List.set_cons_succ])
                      refine wpAnyH_take (i := 17) (oi := ({ dst := some 108, op := Op.pick (Operand.tmp 104) (Operand.tmp 107) (Operand.const (Value.bool false)), type := 4, pos := "law.go:86", after := #[{ on := 13, ground := Ground.data }, { on := 16, ground := Ground.data }], guard := none } : Oper)) (v := ?_) rfl (by kernel_rfl) (by kernel_rfl) (by kernel_rfl) (fun _ _ _ h => h) (Or.inl ⟨by rfl, ?_⟩) hS ?_
                      rotate_left
                      · (intro w hSw; (try dsimp only at hSw); go_simp; try with_reducible rfl)
                      (try simp only [Act.put, List.setIfInBounds_toArray, List.set_cons_zero, List.set_cons_succ])
                      refine wpAnyH_done (by kernel_rfl) ?_ _
                      clear hS
                      have HBd2 := HBd
                      go_wp2_with (first
                        | (go_at_call 7; (refine (HAW.out _ HBd2.out).mono ?_); rintro r w7 ⟨rfl, hb⟩; have HB7 := Lib.hid (bch HBd2.out hb); clear hb))
                      (first | go_ret2 | go_ret3 | go_ret)
                      exact ⟨rfl, bch HB0.out HB7.out⟩
                    · have HNJ := Lib.hid (HJN.out (HNE.out (by omega)))
                      go_wp2_with fail
                      refine wp_region_held_drew (S := (fun w' => w'.cell? ⟨w.heap.size + 1, 1, none⟩ = some (.int .i64 (T : Int)) ∧ w'.cell? ⟨yb, yo + i, none⟩ = some (.int .i64 y))) (by kernel_rfl) HST2.out (fun hS => ?_)
                      refine wpAnyH_take (i := 0) (oi := ({ dst := some 91, op := Op.move (Operand.tmp 13), type := 32, pos := "law.go:86", after := #[], guard := none } : Oper)) (v := ?_) rfl (by kernel_rfl) (by kernel_rfl) (by kernel_rfl) (fun _ _ _ h => h) (Or.inl ⟨by rfl, ?_⟩) hS ?_
                      rotate_left
                      · (intro w hSw; (try dsimp only at hSw); go_simp; try with_reducible rfl)
                      (try simp only [Act.put, List.setIfInBounds_toArray, List.set_cons_zero, List.set_cons_succ])
                      refine wpAnyH_take (i := 1) (oi := ({ dst := some 92, op := Op.move (Operand.tmp 14), type := 3, pos := "law.go:86", after := #[], guard := none } : Oper)) (v := ?_) rfl (by kernel_rfl) (by kernel_rfl) (by kernel_rfl) (fun _ _ _ h => h) (Or.inl ⟨by rfl, ?_⟩) hS ?_
                      rotate_left
                      · (intro w hSw; (try dsimp only at hSw); go_simp; try with_reducible rfl)
                      (try simp only [Act.put, List.setIfInBounds_toArray, List.set_cons_zero, List.set_cons_succ])
                      refine wpAnyH_take (i := 2) (oi := ({ dst := some 93, op := Op.indexAddr 32 (Operand.tmp 91) (Operand.tmp 92), type := 0, pos := "law.go:86", after := #[{ on := 0, ground := Ground.data }, { on := 1, ground := Ground.data }], guard := none } : Oper)) (v := ?_) rfl (by kernel_rfl) (by kernel_rfl) (by kernel_rfl) (fun _ _ _ h => h) (Or.inl ⟨by rfl, ?_⟩) hS ?_
                      rotate_left
                      · (intro w hSw; (try dsimp only at hSw); go_simp; try with_reducible rfl)
                      (try simp only [Act.put, List.setIfInBounds_toArray, List.set_cons_zero, List.set_cons_succ])
                      refine wpAnyH_take (i := 3) (oi := ({ dst := some 94, op := Op.load 3 (Operand.tmp 93), type := 3, pos := "law.go:86", after := #[{ on := 2, ground := Ground.data }], guard := none } : Oper)) (v := ?_) rfl (by kernel_rfl) (by kernel_rfl) (by kernel_rfl) (fun _ _ _ h => h) (Or.inl ⟨by rfl, ?_⟩) hS ?_
                      rotate_left
                      · (intro w hSw; (try dsimp only at hSw); go_simp; try with_reducible rfl)
                      (try simp only [Act.put, List.setIfInBounds_toArray, List.set_cons_zero, List.set_cons_succ])
                      refine wpAnyH_take (i := 4) (oi := ({ dst := some 95, op := Op.binOp BinOp.quo 3 (Operand.tmp 94) (Operand.const (Value.int IntKind.i64 52)) 3, type := 3, pos := "law.go:86", after := #[{ on := 3, ground := Ground.data }], guard := none } : Oper)) (v := .int .i64 td) rfl (by kernel_rfl) (by kernel_rfl) (by kernel_rfl) (fun _ _ _ h => h) (Or.inl ⟨by rfl, ?_⟩) hS ?_
                      · (intro w hSw; (try dsimp only at hSw); have z := HTD.out; have z2 := HWD.out; have z3 := HWT.out; go_simp; (try simp [z, z2, z3]))
                      (try simp only [Act.put, List.setIfInBounds_toArray, List.set_cons_zero, List.set_cons_succ])
                      refine wpAnyH_take (i := 5) (oi := ({ dst := some 96, op := Op.fieldAddr 45 (Operand.tmp 3) 1, type := 0, pos := "law.go:86", after := #[], guard := none } : Oper)) (v := ?_) rfl (by kernel_rfl) (by kernel_rfl) (by kernel_rfl) (fun _ _ _ h => h) (Or.inl ⟨by rfl, ?_⟩) hS ?_
                      rotate_left
                      · (intro w hSw; (try dsimp only at hSw); go_simp; try with_reducible rfl)
                      (try simp only [Act.put, List.setIfInBounds_toArray, List.set_cons_zero, List.set_cons_succ])
                      refine wpAnyH_take (i := 6) (oi := ({ dst := some 97, op := Op.load 3 (Operand.tmp 96), type := 3, pos := "law.go:86", after := #[{ on := 5, ground := Ground.data }], guard := none } : Oper)) (v := ?_) rfl (by kernel_rfl) (by kernel_rfl) (by kernel_rfl) (fun _ _ _ h => h) (Or.inl ⟨by rfl, ?_⟩) hS ?_
                      rotate_left
                      · (intro w hSw; (try dsimp only at hSw); go_simp; try with_reducible rfl)
                      (try simp only [Act.put, List.setIfInBounds_toArray, List.set_cons_zero, List.set_cons_succ])
                      refine wpAnyH_take (i := 7) (oi := ({ dst := some 98, op := Op.binOp BinOp.eql 3 (Operand.tmp 95) (Operand.tmp 97) 3, type := 4, pos := "law.go:86", after := #[{ on := 4, ground := Ground.data }, { on := 6, ground := Ground.data }], guard := none } : Oper)) (v := .bool true) rfl (by kernel_rfl) (by kernel_rfl) (by kernel_rfl) (fun _ _ _ h => h) (Or.inl ⟨by rfl, ?_⟩) hS ?_
                      · (intro w hSw; (try dsimp only at hSw); have z := k1; go_simp; (try simp [z]))
                      (try simp only [Act.put, List.setIfInBounds_toArray, List.set_cons_zero, List.set_cons_succ])
                      refine wpAnyH_take (i := 8) (oi := ({ dst := some 99, op := Op.move (Operand.tmp 98), type := 4, pos := "law.go:86", after := #[{ on := 7, ground := Ground.data }], guard := none } : Oper)) (v := ?_) rfl (by kernel_rfl) (by kernel_rfl) (by kernel_rfl) (fun _ _ _ h => h) (Or.inl ⟨by rfl, ?_⟩) hS ?_
                      rotate_left
                      · (intro w hSw; (try dsimp only at hSw); go_simp; try with_reducible rfl)
                      (try simp only [Act.put, List.setIfInBounds_toArray, List.set_cons_zero, List.set_cons_succ])
                      refine wpAnyH_take (i := 9) (oi := ({ dst := some 100, op := Op.move (Operand.tmp 15), type := 3, pos := "law.go:86", after := #[{ on := 8, ground := Ground.guard }], guard := some (8, true) } : Oper)) (v := ?_) rfl (by kernel_rfl) (by kernel_rfl) (by kernel_rfl) (fun _ _ _ h => h) (Or.inl ⟨by rfl, ?_⟩) hS ?_
                      rotate_left
                      · (intro w hSw; (try dsimp only at hSw); go_simp; try with_reducible rfl)
                      (try simp only [Act.put, List.setIfInBounds_toArray, List.set_cons_zero, List.set_cons_succ])
                      refine wpAnyH_take (i := 10) (oi := ({ dst := some 101, op := Op.move (Operand.tmp 10), type := 3, pos := "law.go:86", after := #[{ on := 8, ground := Ground.guard }], guard := some (8, true) } : Oper)) (v := ?_) rfl (by kernel_rfl) (by kernel_rfl) (by kernel_rfl) (fun _ _ _ h => h) (Or.inl ⟨by rfl, ?_⟩) hS ?_
                      rotate_left
                      · (intro w hSw; (try dsimp only at hSw); go_simp; try with_reducible rfl)
                      (try simp only [Act.put, List.setIfInBounds_toArray, List.set_cons_zero, List.set_cons_succ])
                      refine wpAnyH_take (i := 11) (oi := ({ dst := some 102, op := Op.binOp BinOp.geq 3 (Operand.tmp 100) (Operand.tmp 101) 3, type := 4, pos := "law.go:86", after := #[{ on := 9, ground := Ground.data }, { on := 10, ground := Ground.data }, { on := 8, ground := Ground.guard }], guard := some (8, true) } : Oper)) (v := .bool true) rfl (by kernel_rfl) (by kernel_rfl) (by kernel_rfl) (fun _ _ _ h => h) (Or.inl ⟨by rfl, ?_⟩) hS ?_
                      · (intro w hSw; (try dsimp only at hSw); have z := k2; go_simp; (try simp [z]))
                      (try simp only [Act.put, List.setIfInBounds_toArray, List.set_cons_zero, List.set_cons_succ])
                      refine wpAnyH_take (i := 12) (oi := ({ dst := some 103, op := Op.pick (Operand.tmp 99) (Operand.tmp 102) (Operand.const (Value.bool false)), type := 4, pos := "law.go:86", after := #[{ on := 8, ground := Ground.data }, { on := 11, ground := Ground.data }], guard := none } : Oper)) (v := ?_) rfl (by kernel_rfl) (by kernel_rfl) (by kernel_rfl) (fun _ _ _ h => h) (Or.inl ⟨by rfl, ?_⟩) hS ?_
                      rotate_left
                      · (intro w hSw; (try dsimp only at hSw); go_simp; try with_reducible rfl)
                      (try simp only [Act.put, List.setIfInBounds_toArray, List.set_cons_zero, List.set_cons_succ])
                      refine wpAnyH_take (i := 13) (oi := ({ dst := some 104, op := Op.move (Operand.tmp 103), type := 4, pos := "law.go:86", after := #[{ on := 12, ground := Ground.data }, { on := 8, ground := Ground.chain }], guard := none } : Oper)) (v := ?_) rfl (by kernel_rfl) (by kernel_rfl) (by kernel_rfl) (fun _ _ _ h => h) (Or.inl ⟨by rfl, ?_⟩) hS ?_
                      rotate_left
                      · (intro w hSw; (try dsimp only at hSw); go_simp; try with_reducible rfl)
                      (try simp only [Act.put, List.setIfInBounds_toArray, List.set_cons_zero, List.set_cons_succ])
                      refine wpAnyH_take (i := 14) (oi := ({ dst := some 105, op := Op.move (Operand.tmp 15), type := 3, pos := "law.go:86", after := #[{ on := 13, ground := Ground.guard }], guard := some (13, true) } : Oper)) (v := ?_) rfl (by kernel_rfl) (by kernel_rfl) (by kernel_rfl) (fun _ _ _ h => h) (Or.inl ⟨by rfl, ?_⟩) hS ?_
                      rotate_left
                      · (intro w hSw; (try dsimp only at hSw); go_simp; try with_reducible rfl)
                      (try simp only [Act.put, List.setIfInBounds_toArray, List.set_cons_zero, List.set_cons_succ])
                      refine wpAnyH_take (i := 15) (oi := ({ dst := some 106, op := Op.move (Operand.tmp 11), type := 3, pos := "law.go:86", after := #[{ on := 13, ground := Ground.guard }], guard := some (13, true) } : Oper)) (v := ?_) rfl (by kernel_rfl) (by kernel_rfl) (by kernel_rfl) (fun _ _ _ h => h) (Or.inl ⟨by rfl, ?_⟩) hS ?_
                      rotate_left
                      · (intro w hSw; (try dsimp only at hSw); go_simp; try with_reducible rfl)
                      (try simp only [Act.put, List.setIfInBounds_toArray, List.set_cons_zero, List.set_cons_succ])
                      refine wpAnyH_take (i := 16) (oi := ({ dst := some 107, op := Op.binOp BinOp.leq 3 (Operand.tmp 105) (Operand.tmp 106) 3, type := 4, pos := "law.go:86", after := #[{ on := 14, ground := Ground.data }, { on := 15, ground := Ground.data }, { on := 13, ground := Ground.guard }], guard := some (13, true) } : Oper)) (v := .bool false) rfl (by kernel_rfl) (by kernel_rfl) (by kernel_rfl) (fun _ _ _ h => h) (Or.inl ⟨by rfl, ?_⟩) hS ?_
                      · (intro w hSw; (try dsimp only at hSw); have z := k3; go_simp; (try (simp; omega)))
                      (try simp only [Act.put, List.setIfInBounds_toArray, List.set_cons_zero, List.set_cons_succ])
                      refine wpAnyH_take (i := 17) (oi := ({ dst := some 108, op := Op.pick (Operand.tmp 104) (Operand.tmp 107) (Operand.const (Value.bool false)), type := 4, pos := "law.go:86", after := #[{ on := 13, ground := Ground.data }, { on := 16, ground := Ground.data }], guard := none } : Oper)) (v := ?_) rfl (by kernel_rfl) (by kernel_rfl) (by kernel_rfl) (fun _ _ _ h => h) (Or.inl ⟨by rfl, ?_⟩) hS ?_
                      rotate_left
                      · (intro w hSw; (try dsimp only at hSw); go_simp; try with_reducible rfl)
                      (try simp only [Act.put, List.setIfInBounds_toArray, List.set_cons_zero, List.set_cons_succ])
                      refine wpAnyH_done (by kernel_rfl) ?_ _
                      clear hS
                      go_wp2
                      go_roundw
                      case rel => exact ⟨i + 1, by go_num, by omega, HNJ, HBe⟩
                      case measure => simp [intOf]; omega
                  · have HNJ := Lib.hid (HJN.out (HNE.out (by omega)))
                    go_wp2_with fail
                    refine wp_region_held_drew (S := (fun w' => w'.cell? ⟨w.heap.size + 1, 1, none⟩ = some (.int .i64 (T : Int)) ∧ w'.cell? ⟨yb, yo + i, none⟩ = some (.int .i64 y))) (by kernel_rfl) HST2.out (fun hS => ?_)
                    refine wpAnyH_take (i := 0) (oi := ({ dst := some 91, op := Op.move (Operand.tmp 13), type := 32, pos := "law.go:86", after := #[], guard := none } : Oper)) (v := ?_) rfl (by kernel_rfl) (by kernel_rfl) (by kernel_rfl) (fun _ _ _ h => h) (Or.inl ⟨by rfl, ?_⟩) hS ?_
                    rotate_left
                    · (intro w hSw; (try dsimp only at hSw); go_simp; try with_reducible rfl)
                    (try simp only [Act.put, List.setIfInBounds_toArray, List.set_cons_zero, List.set_cons_succ])
                    refine wpAnyH_take (i := 1) (oi := ({ dst := some 92, op := Op.move (Operand.tmp 14), type := 3, pos := "law.go:86", after := #[], guard := none } : Oper)) (v := ?_) rfl (by kernel_rfl) (by kernel_rfl) (by kernel_rfl) (fun _ _ _ h => h) (Or.inl ⟨by rfl, ?_⟩) hS ?_
                    rotate_left
                    · (intro w hSw; (try dsimp only at hSw); go_simp; try with_reducible rfl)
                    (try simp only [Act.put, List.setIfInBounds_toArray, List.set_cons_zero, List.set_cons_succ])
                    refine wpAnyH_take (i := 2) (oi := ({ dst := some 93, op := Op.indexAddr 32 (Operand.tmp 91) (Operand.tmp 92), type := 0, pos := "law.go:86", after := #[{ on := 0, ground := Ground.data }, { on := 1, ground := Ground.data }], guard := none } : Oper)) (v := ?_) rfl (by kernel_rfl) (by kernel_rfl) (by kernel_rfl) (fun _ _ _ h => h) (Or.inl ⟨by rfl, ?_⟩) hS ?_
                    rotate_left
                    · (intro w hSw; (try dsimp only at hSw); go_simp; try with_reducible rfl)
                    (try simp only [Act.put, List.setIfInBounds_toArray, List.set_cons_zero, List.set_cons_succ])
                    refine wpAnyH_take (i := 3) (oi := ({ dst := some 94, op := Op.load 3 (Operand.tmp 93), type := 3, pos := "law.go:86", after := #[{ on := 2, ground := Ground.data }], guard := none } : Oper)) (v := ?_) rfl (by kernel_rfl) (by kernel_rfl) (by kernel_rfl) (fun _ _ _ h => h) (Or.inl ⟨by rfl, ?_⟩) hS ?_
                    rotate_left
                    · (intro w hSw; (try dsimp only at hSw); go_simp; try with_reducible rfl)
                    (try simp only [Act.put, List.setIfInBounds_toArray, List.set_cons_zero, List.set_cons_succ])
                    refine wpAnyH_take (i := 4) (oi := ({ dst := some 95, op := Op.binOp BinOp.quo 3 (Operand.tmp 94) (Operand.const (Value.int IntKind.i64 52)) 3, type := 3, pos := "law.go:86", after := #[{ on := 3, ground := Ground.data }], guard := none } : Oper)) (v := .int .i64 td) rfl (by kernel_rfl) (by kernel_rfl) (by kernel_rfl) (fun _ _ _ h => h) (Or.inl ⟨by rfl, ?_⟩) hS ?_
                    · (intro w hSw; (try dsimp only at hSw); have z := HTD.out; have z2 := HWD.out; have z3 := HWT.out; go_simp; (try simp [z, z2, z3]))
                    (try simp only [Act.put, List.setIfInBounds_toArray, List.set_cons_zero, List.set_cons_succ])
                    refine wpAnyH_take (i := 5) (oi := ({ dst := some 96, op := Op.fieldAddr 45 (Operand.tmp 3) 1, type := 0, pos := "law.go:86", after := #[], guard := none } : Oper)) (v := ?_) rfl (by kernel_rfl) (by kernel_rfl) (by kernel_rfl) (fun _ _ _ h => h) (Or.inl ⟨by rfl, ?_⟩) hS ?_
                    rotate_left
                    · (intro w hSw; (try dsimp only at hSw); go_simp; try with_reducible rfl)
                    (try simp only [Act.put, List.setIfInBounds_toArray, List.set_cons_zero, List.set_cons_succ])
                    refine wpAnyH_take (i := 6) (oi := ({ dst := some 97, op := Op.load 3 (Operand.tmp 96), type := 3, pos := "law.go:86", after := #[{ on := 5, ground := Ground.data }], guard := none } : Oper)) (v := ?_) rfl (by kernel_rfl) (by kernel_rfl) (by kernel_rfl) (fun _ _ _ h => h) (Or.inl ⟨by rfl, ?_⟩) hS ?_
                    rotate_left
                    · (intro w hSw; (try dsimp only at hSw); go_simp; try with_reducible rfl)
                    (try simp only [Act.put, List.setIfInBounds_toArray, List.set_cons_zero, List.set_cons_succ])
                    refine wpAnyH_take (i := 7) (oi := ({ dst := some 98, op := Op.binOp BinOp.eql 3 (Operand.tmp 95) (Operand.tmp 97) 3, type := 4, pos := "law.go:86", after := #[{ on := 4, ground := Ground.data }, { on := 6, ground := Ground.data }], guard := none } : Oper)) (v := .bool true) rfl (by kernel_rfl) (by kernel_rfl) (by kernel_rfl) (fun _ _ _ h => h) (Or.inl ⟨by rfl, ?_⟩) hS ?_
                    · (intro w hSw; (try dsimp only at hSw); have z := k1; go_simp; (try simp [z]))
                    (try simp only [Act.put, List.setIfInBounds_toArray, List.set_cons_zero, List.set_cons_succ])
                    refine wpAnyH_take (i := 8) (oi := ({ dst := some 99, op := Op.move (Operand.tmp 98), type := 4, pos := "law.go:86", after := #[{ on := 7, ground := Ground.data }], guard := none } : Oper)) (v := ?_) rfl (by kernel_rfl) (by kernel_rfl) (by kernel_rfl) (fun _ _ _ h => h) (Or.inl ⟨by rfl, ?_⟩) hS ?_
                    rotate_left
                    · (intro w hSw; (try dsimp only at hSw); go_simp; try with_reducible rfl)
                    (try simp only [Act.put, List.setIfInBounds_toArray, List.set_cons_zero, List.set_cons_succ])
                    refine wpAnyH_take (i := 9) (oi := ({ dst := some 100, op := Op.move (Operand.tmp 15), type := 3, pos := "law.go:86", after := #[{ on := 8, ground := Ground.guard }], guard := some (8, true) } : Oper)) (v := ?_) rfl (by kernel_rfl) (by kernel_rfl) (by kernel_rfl) (fun _ _ _ h => h) (Or.inl ⟨by rfl, ?_⟩) hS ?_
                    rotate_left
                    · (intro w hSw; (try dsimp only at hSw); go_simp; try with_reducible rfl)
                    (try simp only [Act.put, List.setIfInBounds_toArray, List.set_cons_zero, List.set_cons_succ])
                    refine wpAnyH_take (i := 10) (oi := ({ dst := some 101, op := Op.move (Operand.tmp 10), type := 3, pos := "law.go:86", after := #[{ on := 8, ground := Ground.guard }], guard := some (8, true) } : Oper)) (v := ?_) rfl (by kernel_rfl) (by kernel_rfl) (by kernel_rfl) (fun _ _ _ h => h) (Or.inl ⟨by rfl, ?_⟩) hS ?_
                    rotate_left
                    · (intro w hSw; (try dsimp only at hSw); go_simp; try with_reducible rfl)
                    (try simp only [Act.put, List.setIfInBounds_toArray, List.set_cons_zero, List.set_cons_succ])
                    refine wpAnyH_take (i := 11) (oi := ({ dst := some 102, op := Op.binOp BinOp.geq 3 (Operand.tmp 100) (Operand.tmp 101) 3, type := 4, pos := "law.go:86", after := #[{ on := 9, ground := Ground.data }, { on := 10, ground := Ground.data }, { on := 8, ground := Ground.guard }], guard := some (8, true) } : Oper)) (v := .bool false) rfl (by kernel_rfl) (by kernel_rfl) (by kernel_rfl) (fun _ _ _ h => h) (Or.inl ⟨by rfl, ?_⟩) hS ?_
                    · (intro w hSw; (try dsimp only at hSw); have z := k2; go_simp; (try (simp; omega)))
                    (try simp only [Act.put, List.setIfInBounds_toArray, List.set_cons_zero, List.set_cons_succ])
                    refine wpAnyH_take (i := 12) (oi := ({ dst := some 103, op := Op.pick (Operand.tmp 99) (Operand.tmp 102) (Operand.const (Value.bool false)), type := 4, pos := "law.go:86", after := #[{ on := 8, ground := Ground.data }, { on := 11, ground := Ground.data }], guard := none } : Oper)) (v := ?_) rfl (by kernel_rfl) (by kernel_rfl) (by kernel_rfl) (fun _ _ _ h => h) (Or.inl ⟨by rfl, ?_⟩) hS ?_
                    rotate_left
                    · (intro w hSw; (try dsimp only at hSw); go_simp; try with_reducible rfl)
                    (try simp only [Act.put, List.setIfInBounds_toArray, List.set_cons_zero, List.set_cons_succ])
                    refine wpAnyH_take (i := 13) (oi := ({ dst := some 104, op := Op.move (Operand.tmp 103), type := 4, pos := "law.go:86", after := #[{ on := 12, ground := Ground.data }, { on := 8, ground := Ground.chain }], guard := none } : Oper)) (v := ?_) rfl (by kernel_rfl) (by kernel_rfl) (by kernel_rfl) (fun _ _ _ h => h) (Or.inl ⟨by rfl, ?_⟩) hS ?_
                    rotate_left
                    · (intro w hSw; (try dsimp only at hSw); go_simp; try with_reducible rfl)
                    (try simp only [Act.put, List.setIfInBounds_toArray, List.set_cons_zero, List.set_cons_succ])
                    refine wpAnyH_take (i := 14) (oi := ({ dst := some 105, op := Op.move (Operand.tmp 15), type := 3, pos := "law.go:86", after := #[{ on := 13, ground := Ground.guard }], guard := some (13, true) } : Oper)) (v := undef) rfl (by kernel_rfl) (by kernel_rfl) (by kernel_rfl) (fun _ _ _ h => h) (Or.inr ⟨by rfl, rfl⟩) hS ?_
                    (try simp only [Act.put, List.setIfInBounds_toArray, List.set_cons_zero, List.set_cons_succ])
                    refine wpAnyH_take (i := 15) (oi := ({ dst := some 106, op := Op.move (Operand.tmp 11), type := 3, pos := "law.go:86", after := #[{ on := 13, ground := Ground.guard }], guard := some (13, true) } : Oper)) (v := undef) rfl (by kernel_rfl) (by kernel_rfl) (by kernel_rfl) (fun _ _ _ h => h) (Or.inr ⟨by rfl, rfl⟩) hS ?_
                    (try simp only [Act.put, List.setIfInBounds_toArray, List.set_cons_zero, List.set_cons_succ])
                    refine wpAnyH_take (i := 16) (oi := ({ dst := some 107, op := Op.binOp BinOp.leq 3 (Operand.tmp 105) (Operand.tmp 106) 3, type := 4, pos := "law.go:86", after := #[{ on := 14, ground := Ground.data }, { on := 15, ground := Ground.data }, { on := 13, ground := Ground.guard }], guard := some (13, true) } : Oper)) (v := undef) rfl (by kernel_rfl) (by kernel_rfl) (by kernel_rfl) (fun _ _ _ h => h) (Or.inr ⟨by rfl, rfl⟩) hS ?_
                    (try simp only [Act.put, List.setIfInBounds_toArray, List.set_cons_zero, List.set_cons_succ])
                    refine wpAnyH_take (i := 17) (oi := ({ dst := some 108, op := Op.pick (Operand.tmp 104) (Operand.tmp 107) (Operand.const (Value.bool false)), type := 4, pos := "law.go:86", after := #[{ on := 13, ground := Ground.data }, { on := 16, ground := Ground.data }], guard := none } : Oper)) (v := ?_) rfl (by kernel_rfl) (by kernel_rfl) (by kernel_rfl) (fun _ _ _ h => h) (Or.inl ⟨by rfl, ?_⟩) hS ?_
                    rotate_left
                    · (intro w hSw; (try dsimp only at hSw); go_simp; try with_reducible rfl)
                    (try simp only [Act.put, List.setIfInBounds_toArray, List.set_cons_zero, List.set_cons_succ])
                    refine wpAnyH_done (by kernel_rfl) ?_ _
                    clear hS
                    go_wp2
                    go_roundw
                    case rel => exact ⟨i + 1, by go_num, by omega, HNJ, HBe⟩
                    case measure => simp [intOf]; omega
                · have HNJ := Lib.hid (HJN.out (HNE.out (by omega)))
                  go_wp2_with fail
                  refine wp_region_held_drew (S := (fun w' => w'.cell? ⟨w.heap.size + 1, 1, none⟩ = some (.int .i64 (T : Int)) ∧ w'.cell? ⟨yb, yo + i, none⟩ = some (.int .i64 y))) (by kernel_rfl) HST2.out (fun hS => ?_)
                  refine wpAnyH_take (i := 0) (oi := ({ dst := some 91, op := Op.move (Operand.tmp 13), type := 32, pos := "law.go:86", after := #[], guard := none } : Oper)) (v := ?_) rfl (by kernel_rfl) (by kernel_rfl) (by kernel_rfl) (fun _ _ _ h => h) (Or.inl ⟨by rfl, ?_⟩) hS ?_
                  rotate_left
                  · (intro w hSw; (try dsimp only at hSw); go_simp; try with_reducible rfl)
                  (try simp only [Act.put, List.setIfInBounds_toArray, List.set_cons_zero, List.set_cons_succ])
                  refine wpAnyH_take (i := 1) (oi := ({ dst := some 92, op := Op.move (Operand.tmp 14), type := 3, pos := "law.go:86", after := #[], guard := none } : Oper)) (v := ?_) rfl (by kernel_rfl) (by kernel_rfl) (by kernel_rfl) (fun _ _ _ h => h) (Or.inl ⟨by rfl, ?_⟩) hS ?_
                  rotate_left
                  · (intro w hSw; (try dsimp only at hSw); go_simp; try with_reducible rfl)
                  (try simp only [Act.put, List.setIfInBounds_toArray, List.set_cons_zero, List.set_cons_succ])
                  refine wpAnyH_take (i := 2) (oi := ({ dst := some 93, op := Op.indexAddr 32 (Operand.tmp 91) (Operand.tmp 92), type := 0, pos := "law.go:86", after := #[{ on := 0, ground := Ground.data }, { on := 1, ground := Ground.data }], guard := none } : Oper)) (v := ?_) rfl (by kernel_rfl) (by kernel_rfl) (by kernel_rfl) (fun _ _ _ h => h) (Or.inl ⟨by rfl, ?_⟩) hS ?_
                  rotate_left
                  · (intro w hSw; (try dsimp only at hSw); go_simp; try with_reducible rfl)
                  (try simp only [Act.put, List.setIfInBounds_toArray, List.set_cons_zero, List.set_cons_succ])
                  refine wpAnyH_take (i := 3) (oi := ({ dst := some 94, op := Op.load 3 (Operand.tmp 93), type := 3, pos := "law.go:86", after := #[{ on := 2, ground := Ground.data }], guard := none } : Oper)) (v := ?_) rfl (by kernel_rfl) (by kernel_rfl) (by kernel_rfl) (fun _ _ _ h => h) (Or.inl ⟨by rfl, ?_⟩) hS ?_
                  rotate_left
                  · (intro w hSw; (try dsimp only at hSw); go_simp; try with_reducible rfl)
                  (try simp only [Act.put, List.setIfInBounds_toArray, List.set_cons_zero, List.set_cons_succ])
                  refine wpAnyH_take (i := 4) (oi := ({ dst := some 95, op := Op.binOp BinOp.quo 3 (Operand.tmp 94) (Operand.const (Value.int IntKind.i64 52)) 3, type := 3, pos := "law.go:86", after := #[{ on := 3, ground := Ground.data }], guard := none } : Oper)) (v := .int .i64 td) rfl (by kernel_rfl) (by kernel_rfl) (by kernel_rfl) (fun _ _ _ h => h) (Or.inl ⟨by rfl, ?_⟩) hS ?_
                  · (intro w hSw; (try dsimp only at hSw); have z := HTD.out; have z2 := HWD.out; have z3 := HWT.out; go_simp; (try simp [z, z2, z3]))
                  (try simp only [Act.put, List.setIfInBounds_toArray, List.set_cons_zero, List.set_cons_succ])
                  refine wpAnyH_take (i := 5) (oi := ({ dst := some 96, op := Op.fieldAddr 45 (Operand.tmp 3) 1, type := 0, pos := "law.go:86", after := #[], guard := none } : Oper)) (v := ?_) rfl (by kernel_rfl) (by kernel_rfl) (by kernel_rfl) (fun _ _ _ h => h) (Or.inl ⟨by rfl, ?_⟩) hS ?_
                  rotate_left
                  · (intro w hSw; (try dsimp only at hSw); go_simp; try with_reducible rfl)
                  (try simp only [Act.put, List.setIfInBounds_toArray, List.set_cons_zero, List.set_cons_succ])
                  refine wpAnyH_take (i := 6) (oi := ({ dst := some 97, op := Op.load 3 (Operand.tmp 96), type := 3, pos := "law.go:86", after := #[{ on := 5, ground := Ground.data }], guard := none } : Oper)) (v := ?_) rfl (by kernel_rfl) (by kernel_rfl) (by kernel_rfl) (fun _ _ _ h => h) (Or.inl ⟨by rfl, ?_⟩) hS ?_
                  rotate_left
                  · (intro w hSw; (try dsimp only at hSw); go_simp; try with_reducible rfl)
                  (try simp only [Act.put, List.setIfInBounds_toArray, List.set_cons_zero, List.set_cons_succ])
                  refine wpAnyH_take (i := 7) (oi := ({ dst := some 98, op := Op.binOp BinOp.eql 3 (Operand.tmp 95) (Operand.tmp 97) 3, type := 4, pos := "law.go:86", after := #[{ on := 4, ground := Ground.data }, { on := 6, ground := Ground.data }], guard := none } : Oper)) (v := .bool false) rfl (by kernel_rfl) (by kernel_rfl) (by kernel_rfl) (fun _ _ _ h => h) (Or.inl ⟨by rfl, ?_⟩) hS ?_
                  · (intro w hSw; (try dsimp only at hSw); have z := k1; go_simp; (try simp [z]))
                  (try simp only [Act.put, List.setIfInBounds_toArray, List.set_cons_zero, List.set_cons_succ])
                  refine wpAnyH_take (i := 8) (oi := ({ dst := some 99, op := Op.move (Operand.tmp 98), type := 4, pos := "law.go:86", after := #[{ on := 7, ground := Ground.data }], guard := none } : Oper)) (v := ?_) rfl (by kernel_rfl) (by kernel_rfl) (by kernel_rfl) (fun _ _ _ h => h) (Or.inl ⟨by rfl, ?_⟩) hS ?_
                  rotate_left
                  · (intro w hSw; (try dsimp only at hSw); go_simp; try with_reducible rfl)
                  (try simp only [Act.put, List.setIfInBounds_toArray, List.set_cons_zero, List.set_cons_succ])
                  refine wpAnyH_take (i := 9) (oi := ({ dst := some 100, op := Op.move (Operand.tmp 15), type := 3, pos := "law.go:86", after := #[{ on := 8, ground := Ground.guard }], guard := some (8, true) } : Oper)) (v := undef) rfl (by kernel_rfl) (by kernel_rfl) (by kernel_rfl) (fun _ _ _ h => h) (Or.inr ⟨by rfl, rfl⟩) hS ?_
                  (try simp only [Act.put, List.setIfInBounds_toArray, List.set_cons_zero, List.set_cons_succ])
                  refine wpAnyH_take (i := 10) (oi := ({ dst := some 101, op := Op.move (Operand.tmp 10), type := 3, pos := "law.go:86", after := #[{ on := 8, ground := Ground.guard }], guard := some (8, true) } : Oper)) (v := undef) rfl (by kernel_rfl) (by kernel_rfl) (by kernel_rfl) (fun _ _ _ h => h) (Or.inr ⟨by rfl, rfl⟩) hS ?_
                  (try simp only [Act.put, List.setIfInBounds_toArray, List.set_cons_zero, List.set_cons_succ])
                  refine wpAnyH_take (i := 11) (oi := ({ dst := some 102, op := Op.binOp BinOp.geq 3 (Operand.tmp 100) (Operand.tmp 101) 3, type := 4, pos := "law.go:86", after := #[{ on := 9, ground := Ground.data }, { on := 10, ground := Ground.data }, { on := 8, ground := Ground.guard }], guard := some (8, true) } : Oper)) (v := undef) rfl (by kernel_rfl) (by kernel_rfl) (by kernel_rfl) (fun _ _ _ h => h) (Or.inr ⟨by rfl, rfl⟩) hS ?_
                  (try simp only [Act.put, List.setIfInBounds_toArray, List.set_cons_zero, List.set_cons_succ])
                  refine wpAnyH_take (i := 12) (oi := ({ dst := some 103, op := Op.pick (Operand.tmp 99) (Operand.tmp 102) (Operand.const (Value.bool false)), type := 4, pos := "law.go:86", after := #[{ on := 8, ground := Ground.data }, { on := 11, ground := Ground.data }], guard := none } : Oper)) (v := ?_) rfl (by kernel_rfl) (by kernel_rfl) (by kernel_rfl) (fun _ _ _ h => h) (Or.inl ⟨by rfl, ?_⟩) hS ?_
                  rotate_left
                  · (intro w hSw; (try dsimp only at hSw); go_simp; try with_reducible rfl)
                  (try simp only [Act.put, List.setIfInBounds_toArray, List.set_cons_zero, List.set_cons_succ])
                  refine wpAnyH_take (i := 13) (oi := ({ dst := some 104, op := Op.move (Operand.tmp 103), type := 4, pos := "law.go:86", after := #[{ on := 12, ground := Ground.data }, { on := 8, ground := Ground.chain }], guard := none } : Oper)) (v := ?_) rfl (by kernel_rfl) (by kernel_rfl) (by kernel_rfl) (fun _ _ _ h => h) (Or.inl ⟨by rfl, ?_⟩) hS ?_
                  rotate_left
                  · (intro w hSw; (try dsimp only at hSw); go_simp; try with_reducible rfl)
                  (try simp only [Act.put, List.setIfInBounds_toArray, List.set_cons_zero, List.set_cons_succ])
                  refine wpAnyH_take (i := 14) (oi := ({ dst := some 105, op := Op.move (Operand.tmp 15), type := 3, pos := "law.go:86", after := #[{ on := 13, ground := Ground.guard }], guard := some (13, true) } : Oper)) (v := undef) rfl (by kernel_rfl) (by kernel_rfl) (by kernel_rfl) (fun _ _ _ h => h) (Or.inr ⟨by rfl, rfl⟩) hS ?_
                  (try simp only [Act.put, List.setIfInBounds_toArray, List.set_cons_zero, List.set_cons_succ])
                  refine wpAnyH_take (i := 15) (oi := ({ dst := some 106, op := Op.move (Operand.tmp 11), type := 3, pos := "law.go:86", after := #[{ on := 13, ground := Ground.guard }], guard := some (13, true) } : Oper)) (v := undef) rfl (by kernel_rfl) (by kernel_rfl) (by kernel_rfl) (fun _ _ _ h => h) (Or.inr ⟨by rfl, rfl⟩) hS ?_
                  (try simp only [Act.put, List.setIfInBounds_toArray, List.set_cons_zero, List.set_cons_succ])
                  refine wpAnyH_take (i := 16) (oi := ({ dst := some 107, op := Op.binOp BinOp.leq 3 (Operand.tmp 105) (Operand.tmp 106) 3, type := 4, pos := "law.go:86", after := #[{ on := 14, ground := Ground.data }, { on := 15, ground := Ground.data }, { on := 13, ground := Ground.guard }], guard := some (13, true) } : Oper)) (v := undef) rfl (by kernel_rfl) (by kernel_rfl) (by kernel_rfl) (fun _ _ _ h => h) (Or.inr ⟨by rfl, rfl⟩) hS ?_
                  (try simp only [Act.put, List.setIfInBounds_toArray, List.set_cons_zero, List.set_cons_succ])
                  refine wpAnyH_take (i := 17) (oi := ({ dst := some 108, op := Op.pick (Operand.tmp 104) (Operand.tmp 107) (Operand.const (Value.bool false)), type := 4, pos := "law.go:86", after := #[{ on := 13, ground := Ground.data }, { on := 16, ground := Ground.data }], guard := none } : Oper)) (v := ?_) rfl (by kernel_rfl) (by kernel_rfl) (by kernel_rfl) (fun _ _ _ h => h) (Or.inl ⟨by rfl, ?_⟩) hS ?_
                  rotate_left
                  · (intro w hSw; (try dsimp only at hSw); go_simp; try with_reducible rfl)
                  (try simp only [Act.put, List.setIfInBounds_toArray, List.set_cons_zero, List.set_cons_succ])
                  refine wpAnyH_done (by kernel_rfl) ?_ _
                  clear hS
                  go_wp2
                  go_roundw
                  case rel => exact ⟨i + 1, by go_num, by omega, HNJ, HBe⟩
                  case measure => simp [intOf]; omega
              · obtain rfl : i = n3 := by omega
                have hcl := HNX.out (fun y hy => by
                  obtain ⟨j, hj⟩ := List.getElem?_of_mem hy
                  have hjl := (List.getElem?_eq_some_iff.1 hj).1
                  have hyl := HY3.out.length
                  have := HJ.out j (by omega)
                  simp only [List.getD, hj, Option.getD_some] at this
                  exact this)
                obtain ⟨hfe, m, hmn, hp⟩ := HFIN.out hcl
                have HFE := Lib.hid hfe
                have HP := Lib.hid hp
                have HSw := Lib.hid (HS3.out.keep HBl.out)
                obtain ⟨v0, v1, v2⟩ := HY.out _ HBw.out
                clear hfe hp hcl u0 u1 u2
                go_wp2_with (first
                  | (go_at_call 17; (refine (HP.out _ _ HBw.out HSw.out).mono ?_); rintro r w8 ⟨ra, rc, pa, pn, pc, F, k8, rfl, hb⟩; obtain ⟨w9, hw9⟩ : ∃ q', w8.alloc (.cells (uA (.slice ra m rc) (.slice pa pn pc) F k8) 56) = q' := ⟨_, rfl⟩; have hk9 : w9.heap[w8.heap.size]? = some (.cells (uA (.slice ra m rc) (.slice pa pn pc) F k8) 56 (0, 0)) := (by rw [← hw9]; exact heap_alloc_last w8 _); have hb9 : Below w8.heap.size w8 w9 := (by rw [← hw9]; exact balloc _ _); have HB9 := Lib.hid (bch HBw.out (bch hb hb9)); have HS9 := Lib.hid (HSw.out.keep (bch hb hb9)); have HK9 := Lib.hid hk9; obtain ⟨e0, e1, _⟩ := HY.out _ HB9.out; clear hb hk9 hb9)
                  | (go_at_call 10; (with_reducible refine (HFE.out _ _ HB9.out HS9.out).mono ?_); rintro r wa ⟨rfl, hb⟩; have HBa := Lib.hid (bch HB9.out hb); obtain ⟨f0, f1, _⟩ := HY.out _ HBa.out; have y9 : wa.cell? ⟨w8.heap.size, 0, none⟩ = some (.slice ra m rc) := cell_keep hb (cell_of_row w9 _ 0 _ _ _ HK9.out); clear hb)
                  | (go_at_call 7; (refine (HAW.out _ HBa.out).mono ?_); rintro r wb ⟨rfl, hb⟩; have HBb := Lib.hid (bch HBa.out hb); clear hb))
                go_ret
                exact ⟨rfl, bch HB0.out HBb.out⟩
    · have hcl := hnear 16 0 (-1) (fun i hi e => by omega) (by omega) (fun h => absurd h (by omega)) (fun y _ hh => by omega)
      obtain ⟨hfe, m, hmn, hp⟩ := hfin hcl
      have HFE := Lib.hid hfe
      have HP := Lib.hid hp
      generalize synN N ls = q at *
      clear hx hlb hN hkb ht hct h hk hT hln hz1 hb0 hy0 hc0 hok hw hf h0 hfew h512 hg hsn hfs hbf0 hns hnear hfin hcl hfe hp
      by_cases htn : (0 : Int) ≤ torn
      · have ht16 : ¬ torn < 16 := fun e => hto ⟨htn, e⟩
        clear hto
        go_enter Tryd.func5, Tryd.ntmps5
        go_wp2_with (first
          | (refine wpList_load_row rfl 42 (.tmp 2) rfl w.heap.size rfl _ #[.int .u64 x, .slice la n lc, .int .u64 N] (0, 0) _ HY0.out Tryd.underlying42 rfl syn_info ?_)
          | (refine wpList_load_row rfl 45 (.tmp 3) rfl (w.heap.size + 1) rfl _ #[.slice ka kn kc, .int .i64 torn, .int .i64 cut] (0, 0) _ HC0.out Tryd.underlying45 rfl crash_info ?_)
          | (go_at_call 12; (refine HAF.out.mono ?_); rintro r w1 ⟨a1, c1, rfl, hs, hb⟩; have HB1 := Lib.hid hb; have HS1 := Lib.hid hs; obtain ⟨t0, t1, t2⟩ := HY.out w1 hb; clear hb hs)
          | (go_at_call 17; (refine (HP.out _ _ HB1.out HS1.out).mono ?_); rintro r w8 ⟨ra, rc, pa, pn, pc, F, k8, rfl, hb⟩; obtain ⟨w9, hw9⟩ : ∃ q', w8.alloc (.cells (uA (.slice ra m rc) (.slice pa pn pc) F k8) 56) = q' := ⟨_, rfl⟩; have hk9 : w9.heap[w8.heap.size]? = some (.cells (uA (.slice ra m rc) (.slice pa pn pc) F k8) 56 (0, 0)) := (by rw [← hw9]; exact heap_alloc_last w8 _); have hb9 : Below w8.heap.size w8 w9 := (by rw [← hw9]; exact balloc _ _); have HB9 := Lib.hid (bch HB1.out (bch hb hb9)); have HS9 := Lib.hid (HS1.out.keep (bch hb hb9)); have HK9 := Lib.hid hk9; obtain ⟨e0, e1, _⟩ := HY.out _ HB9.out; clear hb hk9 hb9)
          | (go_at_call 10; (with_reducible refine (HFE.out _ _ HB9.out HS9.out).mono ?_); rintro r wa ⟨rfl, hb⟩; have HBa := Lib.hid (bch HB9.out hb); obtain ⟨f0, f1, _⟩ := HY.out _ HBa.out; have y9 : wa.cell? ⟨w8.heap.size, 0, none⟩ = some (.slice ra m rc) := cell_keep hb (cell_of_row w9 _ 0 _ _ _ HK9.out); clear hb)
          | (go_at_call 7; (refine (HAW.out _ HBa.out).mono ?_); rintro r wb ⟨rfl, hb⟩; have HBb := Lib.hid (bch HBa.out hb); clear hb))
        go_ret
        exact ⟨rfl, bch HB0.out HBb.out⟩
      · clear hto
        go_enter Tryd.func5, Tryd.ntmps5
        go_wp2_with (first
          | (refine wpList_load_row rfl 42 (.tmp 2) rfl w.heap.size rfl _ #[.int .u64 x, .slice la n lc, .int .u64 N] (0, 0) _ HY0.out Tryd.underlying42 rfl syn_info ?_)
          | (refine wpList_load_row rfl 45 (.tmp 3) rfl (w.heap.size + 1) rfl _ #[.slice ka kn kc, .int .i64 torn, .int .i64 cut] (0, 0) _ HC0.out Tryd.underlying45 rfl crash_info ?_)
          | (go_at_call 12; (refine HAF.out.mono ?_); rintro r w1 ⟨a1, c1, rfl, hs, hb⟩; have HB1 := Lib.hid hb; have HS1 := Lib.hid hs; obtain ⟨t0, t1, t2⟩ := HY.out w1 hb; clear hb hs)
          | (go_at_call 17; (refine (HP.out _ _ HB1.out HS1.out).mono ?_); rintro r w8 ⟨ra, rc, pa, pn, pc, F, k8, rfl, hb⟩; obtain ⟨w9, hw9⟩ : ∃ q', w8.alloc (.cells (uA (.slice ra m rc) (.slice pa pn pc) F k8) 56) = q' := ⟨_, rfl⟩; have hk9 : w9.heap[w8.heap.size]? = some (.cells (uA (.slice ra m rc) (.slice pa pn pc) F k8) 56 (0, 0)) := (by rw [← hw9]; exact heap_alloc_last w8 _); have hb9 : Below w8.heap.size w8 w9 := (by rw [← hw9]; exact balloc _ _); have HB9 := Lib.hid (bch HB1.out (bch hb hb9)); have HS9 := Lib.hid (HS1.out.keep (bch hb hb9)); have HK9 := Lib.hid hk9; obtain ⟨e0, e1, _⟩ := HY.out _ HB9.out; clear hb hk9 hb9)
          | (go_at_call 10; (with_reducible refine (HFE.out _ _ HB9.out HS9.out).mono ?_); rintro r wa ⟨rfl, hb⟩; have HBa := Lib.hid (bch HB9.out hb); obtain ⟨f0, f1, _⟩ := HY.out _ HBa.out; have y9 : wa.cell? ⟨w8.heap.size, 0, none⟩ = some (.slice ra m rc) := cell_keep hb (cell_of_row w9 _ 0 _ _ _ HK9.out); clear hb)
          | (go_at_call 7; (refine (HAW.out _ HBa.out).mono ?_); rintro r wb ⟨rfl, hb⟩; have HBb := Lib.hid (bch HBa.out hb); clear hb))
        go_ret
        exact ⟨rfl, bch HB0.out HBb.out⟩
end Go.Proofs.YtepaghohojomeaaDoor
