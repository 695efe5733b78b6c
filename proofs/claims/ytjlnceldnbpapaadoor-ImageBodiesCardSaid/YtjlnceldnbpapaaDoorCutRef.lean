/-
  WHAT THE DOCUMENT'S OWN Cut OF LAYER 14 ANSWERS (the reference), of any place and any number. No condition.
-/
import Derived.Test.YtjlnceldnbpapaaDoorJCut
import Derived.Deep.AppendLies
namespace Go.Proofs.YtjlnceldnbpapaaDoor
open Go.RowKit
theorem pF_cons (c : PC) (l : List PC) : pF (c :: l) = pL c ++ pF l := by simp [pF]
theorem pF_set : ∀ (l : List PC) (i : Nat) (c : PC), l[i]? = some c → ∀ k : Int, (pF l).set (i * 4 + 1) (.int .i64 k) = pF (l.set i { c with kind := k })
  | [], i, c, h, k => by simp at h
  | x :: r, 0, c, h, k => by
    simp at h; subst h
    rw [List.set_cons_zero, pF_cons, pF_cons]; rfl
  | x :: r, i + 1, c, h, k => by
    rw [List.set_cons_succ, pF_cons, pF_cons, ← pF_set r i c (by simpa using h) k, show (i + 1) * 4 + 1 = (i * 4 + 1) + 4 from by omega]
    rfl
/-- a piece's kind is stored anew -/
theorem own_kind {w : World} {base g n cap : Nat} {l : List PC} (h : w.ownsRow base 60 4 (.slice (some ⟨g, 0, none⟩) n cap) n (pF l)) (i : Nat) (c : PC) (hc : l[i]? = some c) (k : Int) (o : Nat) (ho : o = i * 4 + 1) :
    (w.setCell ⟨g, o, none⟩ (.int .i64 k)).ownsRow base 60 4 (.slice (some ⟨g, 0, none⟩) n cap) n (pF (l.set i { c with kind := k })) := by
  subst ho
  have := (h.stored (i * 4 + 1) (.int .i64 k)).1
  rwa [pF_set l i c hc k] at this
/-- .. what is there ahead of that -/
theorem own_there {w : World} {base g n cap : Nat} {l : List PC} (h : w.ownsRow base 60 4 (.slice (some ⟨g, 0, none⟩) n cap) n (pF l)) (i : Nat) (c : PC) (hc : l[i]? = some c) (o : Nat) (ho : o = i * 4 + 1) : w.cell? ⟨g, o, none⟩ = some (.int .i64 c.kind) ∧ w.frozen? ⟨g, o, none⟩ = false := by
  subst ho
  refine ⟨?_, h.frozenAt _⟩
  have hl := (List.getElem?_eq_some_iff.1 hc).1
  have hn := h.1
  rw [pF_length] at hn
  rw [h.cellAt (i * 4 + 1) (by omega)]
  unfold pF
  rw [flat_get 4 (l.map pL) i 1 (fun e he => by obtain ⟨o, _, rfl⟩ := List.mem_map.1 he; rfl) (by omega) (pL c) (by simp [hc])]
  rfl
set_option maxRecDepth 8000 in
theorem rcut_neg (x n : Int) (hn : n < 0) (w : World) : Calls Tryd.prog 22 #[.int .i64 x, .int .i64 n] w fun e w' => e = .returned (.tuple #[.slice none 0 0, .int .i64 0, .bool false]) ∧ w' = w := by
  go_enter Tryd.func22, Tryd.ntmps22
  go_wp2
  go_ret3
  exact ⟨rfl, rfl⟩
set_option maxRecDepth 8000 in
set_option maxHeartbeats 4000000 in
theorem rcut_nat (x : Int) (n : Nat) (hx : I63 x) (hn : (n : Int) ≤ 9223372036854775807) (w : World) : Calls Tryd.prog 22 #[.int .i64 x, .int .i64 (n : Int)] w fun e w' =>
    ∃ v, e = .returned (.tuple #[v, .int .i64 (endI x n : Int), .bool (fitI x n)]) ∧ w'.ownsRow w.heap.size 60 4 v (pcsI x n).length (pF (pcsI x n)) ∧ Below w.heap.size w w' := by
  have HX := Lib.hid hx
  obtain ⟨a, ha⟩ : ∃ a, nr x = a := ⟨_, rfl⟩
  have HAX := Lib.hid ha
  have HA : Hid (a ≤ 832) := Lib.hid (by rw [← ha]; exact nr_le x)
  have HNO : Hid (¬ Fit a n → fitI x n = false ∧ pcsI x n = [] ∧ endI x n = 0) := Lib.hid (fun h => by
    have h1 : fitI x n = false := by
      cases hq : fitI x n with
      | false => rfl
      | true => exact absurd ((fit_nat x n).1 hq) (by rw [ha]; exact h)
    exact ⟨h1, told_no h1⟩)
  have HYES : Hid (∀ m, Run a n m → 0 < m → fS a n m = n → Cuts a n m ∧ fitI x n = true ∧ pcsI x n = firstP a n m ∧ endI x n = pS a n m) := Lib.hid (fun m hr h0 hm => by
    have h1 := hr.end_ HA.out h0 hm
    have hc := cuts_cnt HA.out h1.1
    rw [h1.2] at hc
    have := told_yes (a := x) (n := n) (m := m) (by rw [ha]; exact hc) (by rw [ha]; exact h1.1)
    rw [ha] at this
    exact ⟨hc, this⟩)
  generalize fitI x n = fit at *
  generalize pcsI x n = pcs at *
  generalize endI x n = en at *
  have hn0 : 0 ≤ (n : Int) := by omega
  clear hx ha
  go_enter Tryd.func22, Tryd.ntmps22
  go_wp2
  go_loopw [0, 7, 8] (fun av ov fv wr => ∃ (i : Nat) (p : Int) (va : Option Addr) (vc f : Nat), av = .int .i64 p ∧ ov = .slice va i vc ∧ fv = .int .i64 (f : Int) ∧ f ≤ n ∧ i ≤ 100 ∧ Hid (I63 p ∧ nr p = pS a n i ∧ Run a n i ∧ fS a n i = f ∧ (i = 0 ∨ p = (pS a n i : Int))) ∧ Hid (wr.ownsRow w.heap.size 60 4 (.slice va i vc) i (pF (firstR a n i))) ∧ Hid (Below w.heap.size w wr)) (fun av _ _ _ => (832 - intOf av).toNat)
  case atStart => exact ⟨0, x, none, 0, 0, rfl, rfl, rfl, by omega, by omega, Lib.hid ⟨HX.out, HAX.out, Run.zero HA.out, rfl, .inl rfl⟩, Lib.hid (World.ownsRow_nil _ _ _ _), Lib.hid (Below.refl _ _)⟩
  case round =>
    obtain ⟨i, p, va, vc, f, rfl, rfl, rfl, hfn, hi100, HR, HO, HB⟩ := hrel
    obtain ⟨hp, hpn, hr, hf, hpe⟩ := HR.out
    by_cases hend : (i : Int) = 0 ∨ (f : Int) < (n : Int)
    · have hi : i = 0 ∨ fS a n i < n := by rw [hf]; omega
      have HIT : Hid (i = 0 ∨ fS a n i < n) := Lib.hid hi
      have hbl := hr.begin_le
      have H1 : Hid (∀ w, Calls Tryd.prog 18 #[.int .i64 p] w fun e w' => e = .returned (.int .i64 (bS a n i : Int)) ∧ w = w') := fun w => by
        have := rbegin_any p hp w; rw [hpn] at this; exact this.mono fun _ _ ⟨q1, q2⟩ => ⟨q1, q2.symm⟩
      by_cases h8 : bS a n i = 832
      · have HS := Lib.hid (hr.stop hi h8)
        rw [h8] at H1
        clear hbl h8 hp hpn hr hf hi hpe
        rcases (by omega : (i : Int) = 0 ∨ (¬ (i : Int) = 0 ∧ (f : Int) < (n : Int))) with h0 | ⟨h0, hlt⟩
        all_goals
          clear hend
          go_wp2_with (first
            | (go_at_call 18; (with_reducible refine (H1.out _).mono ?_); rintro e w' ⟨rfl, rfl⟩))
          go_ret3
          obtain ⟨q1, q2, q3⟩ := HNO.out HS.out
          subst q1 q2 q3
          exact ⟨_, rfl, World.ownsRow_nil _ _ _ _, HB.out⟩
      · have hst := hr.step h8
        have hrn := hr.next hi h8
        have H2 : Hid (∀ w, Calls Tryd.prog 34 #[.int .i64 (bS a n i : Int)] w fun e w' => e = .returned (.int .i64 (leftN (bS a n i) : Int)) ∧ w = w') := fun w => by
          have := rleft_any (bS a n i) (by unfold I63; omega) w; rw [nr_nat _ (by omega)] at this; exact this.mono fun _ _ ⟨q1, q2⟩ => ⟨q1, q2.symm⟩
        have HPC : Hid (pc3 a n i = ⟨bS a n i, 3, fS a n i, fS a n (i + 1)⟩) := rfl
        have HFN := Lib.hid (firstR_next a n i)
        have HRN := Lib.hid hrn
        obtain ⟨s1, s2, s3, s4, s5, s6, s7⟩ := hst
        have hpb : pS a n i ≤ bS a n i := by unfold bS beginN; split <;> omega
        have hpx : p ≤ (nr p : Int) ∨ (832 ≤ p ∧ nr p = 832) := by unfold nr; omega
        have HM : Hid ((832 - (pS a n (i + 1) : Int)).toNat < (832 - p).toNat) := Lib.hid (by have := hrn.p_le; omega)
        have hi99 : i + 1 ≤ 100 := by have := hrn.p_le; have := hrn.p_ge; omega
        rw [hf] at HPC s3 s5 s6 s7
        have hb8 : ¬ (832 : Int) ≤ (bS a n i : Int) := by omega
        obtain ⟨b, hb⟩ : ∃ b, bS a n i = b := ⟨_, rfl⟩
        obtain ⟨f1, hf1⟩ : ∃ f1, fS a n (i + 1) = f1 := ⟨_, rfl⟩
        obtain ⟨p1, hp1⟩ : ∃ p1, pS a n (i + 1) = p1 := ⟨_, rfl⟩
        rw [hb] at H1 H2 HPC s1 s2 s5 s6 s7 hb8 hpb hbl
        rw [hf1] at HPC s3 s4 s5 s6 s7
        rw [hp1] at s6 HM
        have HF1 := Lib.hid hf1
        have HP1 := Lib.hid hp1
        obtain ⟨lf, hlf⟩ : ∃ lf, leftN b = lf := ⟨_, rfl⟩
        rw [hlf] at H2 s1 s2 s5 s7
        have hk : ((n : Int) - f > (lf : Int) - 11 ∧ (f : Int) + ((lf : Int) - 11) = f1 ∧ (b : Int) + 11 + ((lf : Int) - 11) = p1) ∨ (¬ (n : Int) - f > (lf : Int) - 11 ∧ (f : Int) + ((n : Int) - f) = f1 ∧ (b : Int) + 11 + ((n : Int) - f) = p1) := by omega
        have hb821 : (b : Int) ≤ 821 := by omega
        have hlf208 : (lf : Int) ≤ 832 := by omega
        have hlf11 : (11 : Int) ≤ lf := by omega
        have hsum : (b : Int) + lf ≤ 832 := by omega
        have hfn2 : (f1 : Int) ≤ n := by omega
        clear hpe hf1 hp1 hlf s1 s2 s3 s4 s5 s6 s7 hb hpb hpx h8 hrn hr hpn hf hbl hi hp HNO HYES
        rcases (by omega : (i : Int) = 0 ∨ (¬ (i : Int) = 0 ∧ (f : Int) < (n : Int))) with h0 | ⟨h0, hlt⟩
        all_goals
          clear hend
          rcases hk with ⟨hk, hk1, hk2⟩ | ⟨hk, hk1, hk2⟩
        all_goals
          have HK1 := Lib.hid hk1
          have HK2 := Lib.hid hk2
          clear hk1 hk2
          go_wp2_with (first
            | (go_at_call 18; (with_reducible refine (H1.out _).mono ?_); rintro e w' ⟨rfl, rfl⟩)
            | (go_at_call 34; (with_reducible refine (H2.out _).mono ?_); rintro e w' ⟨rfl, rfl⟩)
            | (at_builtin; refine wpl_app_pc rfl (.tmp 35) (.tmp 42) rfl w.heap.size _ i (firstR a n i) rfl (Lib.hid (HO.out.alloc _)) wr.heap.size (pc3 a n i) rfl (by rw [HPC.out, ← HK1.out]; exact heap_alloc_last wr _) (by omega) w.heap.size w (Lib.hid (HB.out.alloc HB.out.size _)) (Nat.le_refl _) (by have := HB.out.size; simp; omega) ?_; intro v4 w4 HO4 HB4 HQ4; rw [HFN.out] at HO4; obtain ⟨a4, c4, rfl⟩ := own_form HO4.out))
          go_roundw
          case rel =>
            refine ⟨i + 1, p1, a4, c4, f1, by rw [HK2.out], rfl, by rw [HK1.out], by omega, hi99, Lib.hid ?_, HO4, HB4⟩
            have h := HRN.out
            have e1 := HP1.out
            have h2 := h.p_le
            rw [e1] at h2
            refine ⟨by unfold I63; omega, ?_, h, HF1.out, .inr (by rw [e1])⟩
            rw [e1]; exact nr_nat _ h2
          case measure =>
            simp only [intOf]
            rw [HK2.out]; exact HM.out
    · obtain ⟨k, rfl⟩ : ∃ k, i = k + 1 := ⟨i - 1, by omega⟩
      obtain rfl : f = n := by omega
      obtain ⟨hc, y1, y2, y3⟩ := HYES.out (k + 1) hr (by omega) hf
      subst y1 y2 y3
      obtain ⟨g, cp, hv, hgb, hgs⟩ := HO.out.form (by omega)
      cases hv
      obtain rfl : p = (pS a f (k + 1) : Int) := by rcases hpe with h | h <;> first | omega | exact h
      have h0 : ¬ ((k + 1 : Nat) : Int) = 0 := by omega
      have hlt : ¬ (f : Int) < (f : Int) := by omega
      clear hp hpn hr hf hend hpe
      have hg0 := firstR_get a f (k + 1) 0 (by omega)
      have hgk := firstR_get a f (k + 1) k (by omega)
      obtain ⟨w5, hw5⟩ : ∃ q, wr.setCell ⟨g, 1, none⟩ (.int .i64 2) = q := ⟨_, rfl⟩
      have HO5 : Hid (w5.ownsRow w.heap.size 60 4 (.slice (some ⟨g, 0, none⟩) (k + 1) vc) (k + 1) (pF ((firstR a f (k + 1)).set 0 { pc3 a f 0 with kind := 2 }))) := Lib.hid (by rw [← hw5]; exact own_kind HO.out 0 _ hg0 2 1 rfl)
      obtain ⟨z1, z2⟩ := own_there HO.out 0 _ hg0 1 rfl
      have HB5 : Hid (Below w.heap.size w w5) := Lib.hid (by rw [← hw5]; exact bset HB.out hgb (Nat.le_refl _) 1 _)
      by_cases hk0 : k = 0
      · subst hk0
        have hl1 : (firstR a f (0 + 1)).set 0 { pc3 a f 0 with kind := 2 } = [{ pc3 a f 0 with kind := 2 }] := by simp [firstR]
        rw [hl1] at HO5
        obtain ⟨z3, z4⟩ := own_there HO5.out 0 _ rfl 1 rfl
        obtain ⟨w6, hw6⟩ : ∃ q, w5.setCell ⟨g, 1, none⟩ (.int .i64 4) = q := ⟨_, rfl⟩
        have HO6 : Hid (w6.ownsRow w.heap.size 60 4 (.slice (some ⟨g, 0, none⟩) (0 + 1) vc) (0 + 1) (pF [{ pc3 a f 0 with kind := 4 }])) := Lib.hid (by rw [← hw6]; exact own_kind HO5.out 0 _ rfl 4 1 rfl)
        have HB6 : Hid (Below w.heap.size w w6) := Lib.hid (by rw [← hw6]; exact bset HB5.out hgb (Nat.le_refl _) 1 _)
        obtain ⟨z5, z6⟩ := own_there HO6.out 0 _ rfl 1 rfl
        obtain ⟨w7, hw7⟩ : ∃ q, w6.setCell ⟨g, 1, none⟩ (.int .i64 1) = q := ⟨_, rfl⟩
        have HO7 : Hid (w7.ownsRow w.heap.size 60 4 (.slice (some ⟨g, 0, none⟩) (0 + 1) vc) (0 + 1) (pF [{ pc3 a f 0 with kind := 1 }])) := Lib.hid (by rw [← hw7]; exact own_kind HO6.out 0 _ rfl 1 1 rfl)
        have HB7 : Hid (Below w.heap.size w w7) := Lib.hid (by rw [← hw7]; exact bset HB6.out hgb (Nat.le_refl _) 1 _)
        have HKS := Lib.hid (kinds_one hc)
        clear hg0 hgk hl1 hc
        go_wp2
        go_ret3
        refine ⟨_, rfl, ?_, HB7.out⟩
        rw [firstP_len, HKS.out]
        exact HO7.out
      · have hgk5 : ((firstR a f (k + 1)).set 0 { pc3 a f 0 with kind := 2 })[k]? = some (pc3 a f k) := by rw [List.getElem?_set_ne (Ne.symm hk0)]; exact hgk
        obtain ⟨z3, z4⟩ := own_there HO5.out k _ hgk5 (k * 4 + 1) rfl
        obtain ⟨w6, hw6⟩ : ∃ q, w5.setCell ⟨g, k * 4 + 1, none⟩ (.int .i64 4) = q := ⟨_, rfl⟩
        have HO6 : Hid (w6.ownsRow w.heap.size 60 4 (.slice (some ⟨g, 0, none⟩) (k + 1) vc) (k + 1) (pF (firstP a f (k + 1)))) := Lib.hid (by
          rw [← hw6, kinds_more hc (by omega)]
          exact own_kind HO5.out k _ hgk5 4 (k * 4 + 1) rfl)
        have HB6 : Hid (Below w.heap.size w w6) := Lib.hid (by rw [← hw6]; exact bset HB5.out hgb (Nat.le_refl _) _ _)
        have hk1 : ¬ (k : Int) + 1 = 1 := by omega
        clear hg0 hgk hgk5 hc
        go_wp2
        go_ret3
        refine ⟨_, rfl, ?_, HB6.out⟩
        rw [firstP_len]
        exact HO6.out
/-- whatever comes in -/
theorem rcut_any (x n : Int) (hx : I63 x) (hn : I63 n) (w : World) : Calls Tryd.prog 22 #[.int .i64 x, .int .i64 n] w fun e w' =>
    ∃ v, e = .returned (.tuple #[v, .int .i64 (endI x n : Int), .bool (fitI x n)]) ∧ w'.ownsRow w.heap.size 60 4 v (pcsI x n).length (pF (pcsI x n)) ∧ Below w.heap.size w w' := by
  by_cases h0 : n < 0
  · have hf := fitI_neg x n h0
    obtain ⟨h1, h2⟩ := told_no hf
    rw [h1, h2, hf]
    exact (rcut_neg x n h0 w).mono fun e w' ⟨he, hw⟩ => ⟨_, he, World.ownsRow_nil _ _ _ _, by rw [hw]; exact Below.refl _ _⟩
  · obtain ⟨k, rfl⟩ : ∃ k : Nat, n = (k : Int) := ⟨n.toNat, by omega⟩
    exact rcut_nat x k hx (by unfold I63 at hn; omega) w
end Go.Proofs.YtjlnceldnbpapaaDoor
