/-
  TEXTS JOINED: PutGet, FragGet, Clone, FragTold, FragDec, StampMath, SpanNear. Each one's own words stand at its head.
-/
import Derived.Test.YtnmplnemnfonfaaGreatDoorJ12
import Derived.Test.YtnmplnemnfonfaaGreatDoorJ5
import Derived.Test.YtnmplnemnfonfaaGreatDoorJ1
import Derived.Lib.SliceRun
import Derived.Test.YtnmplnemnfonfaaGreatDoorJ3
import Derived.Test.YtnmplnemnfonfaaGreatDoorJ0
namespace Go.Proofs.YtnmplnemnfonfaaGreatDoor
open Go.RowKit
set_option maxHeartbeats 400000 in
theorem get_some (b off len cap : Nat) (zs : List Int) (w : World) (hz : Bytes zs) (hlen : 0 < len) (hmax : len ≤ 9223372036854775807)
    (hc : ∀ j, j < len → w.cell? ⟨b, off + j, none⟩ = some (.int .u8 (zs.getD j 0))) :
    Calls Tryz.prog 118 #[.slice (some ⟨b, off, none⟩) len cap] w fun e w' => e = .returned (.int .u64 (getI zs (min len 8))) ∧ w = w' := by
  obtain ⟨m, hm, hm1, hm2, hm3⟩ : ∃ m : Nat, min len 8 = m ∧ m ≤ len ∧ m ≤ 8 ∧ (m = len ∨ m = 8) := ⟨_, rfl, by omega, by omega, by omega⟩
  rw [hm]
  have HM := Lib.hid hm; clear hm
  go_enter Tryz.func118, Tryz.ntmps118
  rcases (by have := HM.out; omega : (len : Int) ≤ 8 ∧ len ≤ m ∨ 8 < (len : Int) ∧ 8 ≤ m) with ⟨h8, hl⟩ | ⟨h8, hl⟩
  all_goals
    go_wp2
    go_loop [3, 8] (fun n i => ∃ k : Nat, k ≤ m ∧ i = .int .i64 k ∧ n = .int .u64 (getI zs k)) (fun _ i => m - (intOf i).toNat)
    case atStart => exact ⟨0, by omega, rfl, rfl⟩
    case round =>
      obtain ⟨k, hk, rfl, rfl⟩ := hrel
      have hb : 0 ≤ zs[k]?.getD 0 ∧ zs[k]?.getD 0 ≤ 255 := hz k
      by_cases hlt : k < m
      · have hcell : w.cell? ⟨b, off + k, none⟩ = some (.int .u8 (zs.getD k 0)) := hc k (by omega)
        have HG := Lib.hid (getI_or zs hz k (by omega))
        go_wp2
        go_round
        case rel => exact ⟨k + 1, by omega, by go_num, by rw [← HG.out]; rfl⟩
        case measure => simp [intOf]; omega
      · go_wp2
        go_ret
        exact ⟨ret_int (by congr 1; omega), rfl⟩
end Go.Proofs.YtnmplnemnfonfaaGreatDoor
namespace Go.Proofs.YtnmplnemnfonfaaGreatDoor
open Go.RowKit
theorem hget_any (b f n t : Nat) (ht : f + n = t) (h1 : t ≤ 11) (h0 : 0 < n) (h8 : n ≤ 8) {w : World} {zs : List Int} (hh : HD w b zs) (hb : isB zs) {x : Int} (hx : num zs f n = x) :
    Calls Tryz.prog 104 #[.pointer (some ⟨b, 0, none⟩), .int .i64 f, .int .i64 t] w fun e w' => e = .returned (.int .u64 x) ∧ w = w' := by
  have HC := Lib.hid (hcut_any b f n t ht h1 h0)
  have HG : Hid (Calls Tryz.prog 118 #[.slice (some ⟨b, f, none⟩) n n] w fun e w' => e = .returned (.int .u64 x) ∧ w = w') := Lib.hid (by
    have hr := hh.ri f n (by omega)
    obtain ⟨b2, of2, e1, hcell⟩ := hr.at_ h0
    obtain ⟨rfl, rfl⟩ : b = b2 ∧ f = of2 := by simpa using e1
    have := get_some b f n n ((zs.drop f).take n) w (bytes_of_mem ((hb.drop f).take n)) h0 (by omega) hcell
    rw [Nat.min_eq_left h8, getI_take _ _ _ (Nat.le_refl _), show getI (zs.drop f) n = x from hx] at this
    exact this)
  clear ht h1 h0 h8 hh hb hx
  go_enter Tryz.func104, Tryz.ntmps104
  go_wp2_with (first
    | (go_at_call 119; (with_reducible refine (HC.out _).mono ?_); rintro e w' ⟨rfl, rfl⟩)
    | (go_at_call 118; (with_reducible refine (HG.out).mono ?_); rintro e w' ⟨rfl, rfl⟩))
  go_ret
  exact ⟨rfl, rfl⟩
end Go.Proofs.YtnmplnemnfonfaaGreatDoor
namespace Go.Proofs.YtnmplnemnfonfaaGreatDoor
open Go.RowKit
set_option maxRecDepth 8000 in
theorem clone_any (v : Value) (len : Nat) (zs : List Int) (w : World) (hri : RI .u8 w v len zs) (hlen : (len : Int) ≤ 200000000000000) :
    Calls Tryz.prog 107 #[v] w fun e w' => ∃ v', e = .returned v' ∧ w'.ownsRow w.heap.size 5 1 v' len (il .u8 zs) ∧ Below w.heap.size w w' := by
  have HR := Lib.hid hri
  obtain ⟨a, cap, rfl, hl, hlc, _, hnil, _⟩ := hri
  cases a with
  | none =>
    obtain rfl : cap = 0 := hnil rfl
    obtain rfl : len = 0 := by omega
    obtain rfl : zs = [] := List.length_eq_zero_iff.1 hl
    have he : (binOp .eql 49 (.slice none 0 0) (.slice none 0 0)).run Tryz.prog w = .ok (.bool true) w := Lib.run_eql_slice_nil w _ _ none 0 0 0 0 Tryz.underlying49
    clear hl hlc hnil
    go_enter Tryz.func107, Tryz.ntmps107
    go_wp2
    go_ret
    exact ⟨_, rfl, World.ownsRow_nil _ _ _ _, Below.refl _ _⟩
  | some x =>
    have he : (binOp .eql 49 (.slice (some x) len cap) (.slice none 0 0)).run Tryz.prog w = .ok (.bool false) w := Lib.run_eql_slice_nil w _ _ (some x) len cap 0 0 Tryz.underlying49
    clear hl hnil
    go_enter Tryz.func107, Tryz.ntmps107
    go_wp2_with (first
      | (at_builtin; go_loud (refine wpl_appn rfl (.tmp 5) (.tmp 6) 49 rfl 5 .u8 1 Tryz.underlying49 Tryz.info_u8 w.heap.size _ 0 [] rfl (own_empty rfl (by omega)) _ len zs rfl (HR.out.keep ((Below.refl _ _).alloc (Nat.le_refl _) _)) (by omega) (by omega) w.heap.size w ((Below.refl _ _).alloc (Nat.le_refl _) _) (Nat.le_refl _) (by simp) ?_); intro v1 w4 HO1 HB1))
    go_ret
    have h5 := HO1.out
    rw [Nat.zero_add, List.nil_append] at h5
    exact ⟨_, rfl, h5, HB1.out⟩
end Go.Proofs.YtnmplnemnfonfaaGreatDoor
namespace Go.Proofs.YtnmplnemnfonfaaGreatDoor
open Go.RowKit
def DecF (zs : List Int) (ep : Int) (w : World) (r : Ending) (w' : World) : Prop :=
  ∃ a n c, r = .returned (.tuple #[.agg (fA (fragD zs ep).1.kind (fragD zs ep).1.epoch (.slice a n c)), .int .i64 ((fragD zs ep).2.1 : Nat), .int .i64 (fragD zs ep).2.2]) ∧
    w'.ownsRow w.heap.size 5 1 (.slice a n c) n (il .u8 (fragD zs ep).1.data) ∧ Below w.heap.size w w'
theorem decf_none {zs : List Int} {ep x : Int} {w w' : World} (h : fragD zs ep = (noFr, 0, x)) (hb : Below w.heap.size w w') : DecF zs ep w (.returned (.tuple #[.agg (fA 0 0 (.slice none 0 0)), .int .i64 0, .int .i64 x])) w' := by
  refine ⟨none, 0, 0, ?_, ?_, hb⟩
  · rw [h]; rfl
  · rw [h]; exact World.ownsRow_nil _ _ _ _
theorem decf_some {zs : List Int} {ep : Int} {k e : Int} {d : List Int} {s : Nat} {a : Option Addr} {n c : Nat} {w w' : World} (h : fragD zs ep = (⟨k, e, d⟩, s, 0)) (ho : w'.ownsRow w.heap.size 5 1 (.slice a n c) n (il .u8 d)) (hb : Below w.heap.size w w') :
    DecF zs ep w (.returned (.tuple #[.agg (fA k e (.slice a n c)), .int .i64 (s : Nat), .int .i64 0])) w' := by
  refine ⟨a, n, c, ?_, ?_, hb⟩
  · rw [h]
  · rw [h]; exact ho
theorem head_nums (zs : List Int) (hb : isB zs) (h1 : 11 ≤ zs.length) : ∃ (h : List Int) (k e : Int) (n s : Nat), zs.take 11 = h ∧ h.length = 11 ∧ isB h ∧ num zs 6 1 = k ∧ num zs 7 4 = e ∧ num zs 4 2 = n ∧ num zs 0 4 = s ∧
    num h 6 1 = k ∧ num h 7 4 = e ∧ num h 4 2 = n ∧ num h 0 4 = s ∧ 0 ≤ k ∧ k ≤ 255 ∧ 0 ≤ e ∧ e ≤ 4294967295 ∧ n ≤ 65535 ∧ s ≤ 4294967295 := by
  have b1 := num_bd hb 6 1
  have b2 := num_bd hb 7 4
  have b3 := num_bd hb 4 2
  have b4 := num_bd hb 0 4
  have e3 : (2 : Int) ^ (8 * 2) = 65536 := by decide
  have e4 : (2 : Int) ^ (8 * 4) = 4294967296 := by decide
  have e1 : (2 : Int) ^ (8 * 1) = 256 := by decide
  rw [e1] at b1
  rw [e4] at b2 b4
  rw [e3] at b3
  refine ⟨_, _, _, (num zs 4 2).toNat, (num zs 0 4).toNat, rfl, by simp; omega, hb.take 11, rfl, rfl, by omega, by omega, num_take _ _ _ _ (by omega), num_take _ _ _ _ (by omega), ?_, ?_, b1.1, by omega, b2.1, by omega, by omega, by omega⟩
  · rw [num_take _ _ _ _ (by omega)]; omega
  · rw [num_take _ _ _ _ (by omega)]; omega
theorem tail_split (zs : List Int) (n : Nat) (h : 11 ≤ zs.length) : (zs.take (11 + n)).drop 4 = (zs.take 11).drop 4 ++ (zs.drop 11).take n := by
  rw [List.take_add, List.drop_append_of_le_length (by simp; omega)]
theorem fragOk_no {k : Int} {n : Nat} (h : ¬ (1 ≤ k ∧ k ≤ 4 ∧ n ≤ 197)) : fragOk k n = false := decide_eq_false h
def az (zs : List Int) (k : Nat) : Bool := (zs.take k).all (· == 0)
theorem az_succ (zs : List Int) (k : Nat) (h : k < zs.length) : az zs (k + 1) = (az zs k && zs.getD k 0 == 0) := by
  unfold az
  rw [List.take_succ_eq_append_getElem h, List.all_append]
  simp [List.getD, h]
theorem az_head (zs : List Int) (k : Nat) (h : k ≤ zs.length) : az zs k = true ↔ zs.take k = List.replicate k 0 := by
  unfold az
  rw [List.all_eq_true]
  constructor
  · intro hq
    refine List.eq_replicate_iff.2 ⟨by simp; omega, fun b hb => by simpa using hq b hb⟩
  · intro hq x hx
    rw [hq] at hx
    simpa using List.eq_of_mem_replicate hx
theorem fragD_cases (zs : List Int) (ep k e : Int) (n sz : Nat) (hb : isB zs) (h1 : ¬ zs.length < 11) (h2 : ¬ zs.take 11 = List.replicate 11 0) (hk : num zs 6 1 = k) (he : num zs 7 4 = e) (hn : num zs 4 2 = n) (hsz : 11 + n = sz) :
    (197 < (n : Int) ∧ fragD zs ep = (noFr, 0, 2)) ∨ ((n : Int) ≤ 197 ∧ k < 1 ∧ fragD zs ep = (noFr, 0, 2)) ∨ ((n : Int) ≤ 197 ∧ 1 ≤ k ∧ 4 < k ∧ fragD zs ep = (noFr, 0, 2)) ∨
    ((n : Int) ≤ 197 ∧ 1 ≤ k ∧ k ≤ 4 ∧ e ≠ ep ∧ fragD zs ep = (noFr, 0, 2)) ∨ ((n : Int) ≤ 197 ∧ 1 ≤ k ∧ k ≤ 4 ∧ e = ep ∧ zs.length < sz ∧ fragD zs ep = (noFr, 0, 1)) ∨
    ((n : Int) ≤ 197 ∧ 1 ≤ k ∧ k ≤ 4 ∧ e = ep ∧ sz ≤ zs.length ∧ fragB k e ((zs.drop 11).take n) ≠ zs.take sz ∧ fragD zs ep = (noFr, 0, 3)) ∨
    ((n : Int) ≤ 197 ∧ 1 ≤ k ∧ k ≤ 4 ∧ e = ep ∧ sz ≤ zs.length ∧ fragB k e ((zs.drop 11).take n) = zs.take sz ∧ fragD zs ep = (⟨k, e, (zs.drop 11).take n⟩, sz, 0)) := by
  have hnn : (num zs 4 2).toNat = n := by omega
  by_cases c1 : 197 < (n : Int)
  · exact .inl ⟨c1, fragD_form h1 h2 (.inl (by rw [hk, hnn]; exact fragOk_no (by omega)))⟩
  by_cases c2 : k < 1
  · exact .inr (.inl ⟨by omega, c2, fragD_form h1 h2 (.inl (by rw [hk, hnn]; exact fragOk_no (by omega)))⟩)
  by_cases c3 : 4 < k
  · exact .inr (.inr (.inl ⟨by omega, by omega, c3, fragD_form h1 h2 (.inl (by rw [hk, hnn]; exact fragOk_no (by omega)))⟩))
  have hok : fragOk (num zs 6 1) (num zs 4 2).toNat = true := by rw [hk, hnn]; exact decide_eq_true ⟨by omega, by omega, by omega⟩
  by_cases c4 : e = ep
  · subst c4
    by_cases c5 : zs.length < sz
    · exact .inr (.inr (.inr (.inr (.inl ⟨by omega, by omega, by omega, rfl, c5, fragD_cut h1 h2 hok he (by omega)⟩))))
    have ht := tail_back zs hb (by rw [hnn]; omega)
    have hlen : ((zs.drop 11).take n).length = n := by simp; omega
    have hT : (zs.take sz).drop 4 = fragT k e ((zs.drop 11).take n) := by rw [hk, he, hnn, hsz] at ht; exact ht.symm
    have h04 := num_put hb 0 4 (by omega)
    rw [List.drop_zero] at h04
    have h4 : zs.take 4 = (zs.take sz).take 4 := by rw [List.take_take, Nat.min_eq_left (by omega)]
    by_cases c6 : num zs 0 4 = maskS (ofS ((zs.take (11 + (num zs 4 2).toNat)).drop 4))
    · have hd := fragD_ok h1 h2 hok he (by omega) c6
      rw [hk, he, hnn, hsz] at hd
      refine .inr (.inr (.inr (.inr (.inr (.inr ⟨by omega, by omega, by omega, rfl, by omega, ?_, hd⟩)))))
      rw [hnn, hsz, hT] at c6
      unfold fragB fragS
      rw [← c6, h04, ← hT, h4, List.take_append_drop]
    · have hd := fragD_sum h1 h2 hok he (by omega) c6
      refine .inr (.inr (.inr (.inr (.inr (.inl ⟨by omega, by omega, by omega, rfl, by omega, ?_, hd⟩)))))
      intro hq
      apply c6
      rw [hnn, hsz, hT]
      have hq2 := congrArg (fun l => num l 0 4) hq
      have e4 : (2 : Int) ^ (8 * 4) = 4294967296 := by decide
      have heb := num_bd hb 7 4
      rw [e4, he] at heb
      have hf := (frag_nums k e ((zs.drop 11).take n) [] (by omega) heb).1
      rw [List.append_nil] at hf
      simp only [hf, num_take zs sz 0 4 (by omega)] at hq2
      exact hq2.symm
  · exact .inr (.inr (.inr (.inl ⟨by omega, by omega, by omega, c4, fragD_form h1 h2 (.inr (by rw [he]; exact c4))⟩)))
end Go.Proofs.YtnmplnemnfonfaaGreatDoor
namespace Go.Proofs.YtnmplnemnfonfaaGreatDoor
open Go.RowKit
set_option maxRecDepth 8000 in
set_option maxHeartbeats 4000000 in
theorem fdec_any (v : Value) (len : Nat) (zs : List Int) (ep : Int) (w : World) (ht : Tab w) (hri : RI .u8 w v len zs) (hbz : isB zs) : Calls Tryz.prog 87 #[v, .int .u32 ep] w (DecF zs ep w) := by
  have hz := hri.length
  obtain ⟨w0, hw0⟩ : ∃ q, w.alloc (.cells (fA 0 0 (.slice none 0 0)) 82) = q := ⟨_, rfl⟩
  have HA : Hid (FO w0 w.heap.size 0 0 (.slice none 0 0)) := Lib.hid (by rw [← hw0]; exact FO.alloc w)
  have HB : Hid (Below w.heap.size w w0) := Lib.hid (by rw [← hw0]; exact balloc w _)
  have HR := Lib.hid (hri.keep HB.out)
  have HT := Lib.hid (ht.keep HB.out)
  obtain ⟨a, cap, rfl, hlc⟩ : ∃ a cap, v = .slice a len cap ∧ len ≤ cap := by obtain ⟨a, c, e, _, h, _⟩ := hri; exact ⟨a, c, e, h⟩
  by_cases h1 : zs.length < 11
  · have hR := Lib.hid (fragD_short (ep := ep) h1)
    have h1' : (len : Int) < 11 := by omega
    clear h1 hz hri hbz ht hlc
    go_enter Tryz.func87, Tryz.ntmps87
    go_wp2_with (first
      | (refine wpList_store_row rfl 82 _ _ rfl w.heap.size (fA 0 0 (.slice none 0 0)) rfl rfl _ _ HA.out (fr_info _ rfl) rfl (fr_one _ _ _ _ _) ?_))
    refine bodyPost_ret_by (results_row_tmp2 rfl _ _ w.heap.size _ rfl (HA.out.row 0 0 (.slice none 0 0)).load) rfl ?_
    exact decf_none hR.out (brow HB.out (Nat.le_refl _) (Nat.le_refl _) _)
  have h1' : ¬ (len : Int) < 11 := by omega
  have hcap : (11 : Int) ≤ (cap : Int) := by omega
  obtain ⟨h11, k, e, n, s, hh, hhl, hhb, hk, he, hn, hs, gk, ge, gn, gs, k0, k1, e0, e1, n1, s1⟩ := head_nums zs hbz (by omega)
  have hnn : (num zs 4 2).toNat = n := by omega
  obtain ⟨x, off, rfl, hcell⟩ := HR.out.at_ (by omega)
  have HAT : Hid (HAt w0 x off h11) := Lib.hid ⟨hhl, fun j hj => by
    rw [hcell j (by omega), ← hh]
    simp only [List.getD, List.getElem?_take, hj, if_true]⟩
  have HL := Lib.hid hhl
  have HG6 : Hid (∀ w, HD w w0.heap.size h11 → Calls Tryz.prog 104 #[.pointer (some ⟨w0.heap.size, 0, none⟩), .int .i64 6, .int .i64 7] w fun e w' => e = .returned (.int .u64 k) ∧ w = w') := Lib.hid fun w h => hget_any w0.heap.size 6 1 7 rfl (by omega) (by omega) (by omega) h hhb gk
  have HG7 : Hid (∀ w, HD w w0.heap.size h11 → Calls Tryz.prog 104 #[.pointer (some ⟨w0.heap.size, 0, none⟩), .int .i64 7, .int .i64 11] w fun e' w' => e' = .returned (.int .u64 e) ∧ w = w') := Lib.hid fun w h => hget_any w0.heap.size 7 4 11 rfl (by omega) (by omega) (by omega) h hhb ge
  have HG4 : Hid (∀ w, HD w w0.heap.size h11 → Calls Tryz.prog 104 #[.pointer (some ⟨w0.heap.size, 0, none⟩), .int .i64 4, .int .i64 6] w fun e w' => e = .returned (.int .u64 n) ∧ w = w') := Lib.hid fun w h => hget_any w0.heap.size 4 2 6 rfl (by omega) (by omega) (by omega) h hhb gn
  have HG0 : Hid (∀ w, HD w w0.heap.size h11 → Calls Tryz.prog 104 #[.pointer (some ⟨w0.heap.size, 0, none⟩), .int .i64 0, .int .i64 4] w fun e w' => e = .returned (.int .u64 s) ∧ w = w') := Lib.hid fun w h => hget_any w0.heap.size 0 4 4 rfl (by omega) (by omega) (by omega) h hhb gs
  have hq : ∀ w, (Op.equalIn 10000 172 (.agg (av h11)) (.agg #[.int .u8 0, .int .u8 0, .int .u8 0, .int .u8 0, .int .u8 0, .int .u8 0, .int .u8 0, .int .u8 0, .int .u8 0, .int .u8 0, .int .u8 0])).run Tryz.prog w = .ok (decide (h11 = z11)) w := fun w => run_eq_head h11 z11 hhl z11_length w
  obtain ⟨sz, hsz⟩ : ∃ sz, 11 + n = sz := ⟨_, rfl⟩
  have hszI : (11 : Int) + (n : Int) = (sz : Int) := by omega
  have hszb : (sz : Int) ≤ 65546 := by omega
  have hnb : (n : Int) ≤ 65535 := by omega
  have hz11 : (h11 = z11) ↔ zs.take 11 = List.replicate 11 0 := by rw [hh]; rfl
  by_cases h2 : zs.take 11 = List.replicate 11 0
  · have hR := Lib.hid (fragD_none (ep := ep) h1 h2)
    rw [show decide (h11 = z11) = true from decide_eq_true (hz11.2 h2)] at hq
    clear h1 h2 hz hri hbz ht hlc hh hhl hhb hk he hn hs gk ge gn gs hcell hnn hsz n1 s1 hz11
    go_enter Tryz.func87, Tryz.ntmps87
    go_wp2_with (first
      | (refine wpl_val rfl (exec_arrptr (.tmp 17) rfl _ 11 11 rfl (by omega)) ?_)
      | (refine wpl_val rfl (exec_load_hat (.tmp 18) rfl rfl HAT.out) ?_)
      | (refine wpList_store_row rfl 172 _ _ rfl w0.heap.size (av h11) rfl rfl _ (av z11) (HD.new w0 z11 z11_length).1 (av_info _ HL.out) (by rw [av_size, av_size, HL.out, z11_length]) (av_one _) ?_; obtain ⟨w1, hw1⟩ : ∃ q, World.setRow (w0.alloc (.cells #[.int .u8 0, .int .u8 0, .int .u8 0, .int .u8 0, .int .u8 0, .int .u8 0, .int .u8 0, .int .u8 0, .int .u8 0, .int .u8 0, .int .u8 0] 172)) w0.heap.size (av h11) = q := ⟨_, rfl⟩; rw [hw1]; have HH1 : Hid (HD w1 w0.heap.size h11) := Lib.hid (by rw [← hw1]; exact (HD.new w0 z11 z11_length).row HL.out); have HB1 : Hid (Below w0.heap.size w0 w1) := Lib.hid (by rw [← hw1]; exact brow (balloc _ _) (Nat.le_refl _) (Nat.le_refl _) _); clear hw1)
      | (go_at_call 104; (with_reducible refine (HG6.out _ HH1.out).mono ?_); rintro r w' ⟨rfl, rfl⟩)
      | (go_at_call 104; (with_reducible refine (HG7.out _ HH1.out).mono ?_); rintro r w' ⟨rfl, rfl⟩)
      | (refine wpList_store_row rfl 82 _ _ rfl w1.heap.size (fA k e (.slice none 0 0)) rfl rfl _ _ (heap_alloc_last w1 _) (fr_info _ rfl) rfl (fr_one _ _ _ _ _) ?_; obtain ⟨w2, hw2⟩ : ∃ q, World.setRow (w1.alloc (.cells (fA 0 0 (.slice none 0 0)) 82)) w1.heap.size (fA k e (.slice none 0 0)) = q := ⟨_, rfl⟩; rw [hw2]; have HF2 : Hid (FO w2 w1.heap.size k e (.slice none 0 0)) := Lib.hid (by rw [← hw2]; exact FO.new _); have HB2 : Hid (Below w1.heap.size w1 w2) := Lib.hid (by rw [← hw2]; exact bnew _ _ _); have HH2 := Lib.hid (HH1.out.keep HB2.out); have HA2 := Lib.hid ((HA.out.keep HB1.out).keep HB2.out); have HBB := Lib.hid (bch HB.out (bch HB1.out HB2.out)); have HR2 := Lib.hid ((HR.out.keep HB1.out).keep HB2.out); have HT2 := Lib.hid ((HT.out.keep HB1.out).keep HB2.out); obtain ⟨c0, c1, c2⟩ := HF2.out.cells; clear hw2)
      | (go_at_call 104; (with_reducible refine (HG4.out _ HH2.out).mono ?_); rintro r w' ⟨rfl, rfl⟩)
      | (refine wpList_load_row rfl 172 _ rfl w0.heap.size rfl _ (av h11) (0, 0) _ HH2.out.1 Tryz.underlying172 rfl (av_info _ HL.out) ?_)
      | (refine wpList_store_row rfl 82 _ _ rfl w.heap.size (fA 0 0 (.slice none 0 0)) rfl rfl _ _ HA2.out (fr_info _ rfl) rfl (fr_one _ _ _ _ _) ?_))
    refine bodyPost_ret_by (results_row_tmp2 rfl _ _ w.heap.size _ rfl (HA2.out.row 0 0 (.slice none 0 0)).load) rfl ?_
    exact decf_none hR.out (brow HBB.out (Nat.le_refl _) (Nat.le_refl _) _)
  rw [show decide (h11 = z11) = false from decide_eq_false (fun q => h2 (hz11.1 q))] at hq
  by_cases hkd : 1 ≤ k ∧ k ≤ 4
  rotate_left
  · have hR := Lib.hid (fragD_form (ep := ep) h1 h2 (Or.inl (by rw [hk, hnn]; exact fragOk_no (fun q => hkd ⟨q.1, q.2.1⟩))))
    have HKD : Hid (∀ w, Calls Tryz.prog 105 #[.int .i64 k] w fun e w' => e = .returned (.bool false) ∧ w = w') := Lib.hid fun w => by rw [← show decide (1 ≤ k ∧ k ≤ 4) = false from decide_eq_false hkd]; exact fkind_any k w
    clear h1 h2 hz hri hbz ht hlc hh hhl hhb hk he hn hs gk ge gn gs hcell hnn hsz n1 s1 hz11 hkd
    go_enter Tryz.func87, Tryz.ntmps87
    go_wp2_with (first
      | (refine wpl_val rfl (exec_arrptr (.tmp 17) rfl _ 11 11 rfl (by omega)) ?_)
      | (refine wpl_val rfl (exec_load_hat (.tmp 18) rfl rfl HAT.out) ?_)
      | (refine wpList_store_row rfl 172 _ _ rfl w0.heap.size (av h11) rfl rfl _ (av z11) (HD.new w0 z11 z11_length).1 (av_info _ HL.out) (by rw [av_size, av_size, HL.out, z11_length]) (av_one _) ?_; obtain ⟨w1, hw1⟩ : ∃ q, World.setRow (w0.alloc (.cells #[.int .u8 0, .int .u8 0, .int .u8 0, .int .u8 0, .int .u8 0, .int .u8 0, .int .u8 0, .int .u8 0, .int .u8 0, .int .u8 0, .int .u8 0] 172)) w0.heap.size (av h11) = q := ⟨_, rfl⟩; rw [hw1]; have HH1 : Hid (HD w1 w0.heap.size h11) := Lib.hid (by rw [← hw1]; exact (HD.new w0 z11 z11_length).row HL.out); have HB1 : Hid (Below w0.heap.size w0 w1) := Lib.hid (by rw [← hw1]; exact brow (balloc _ _) (Nat.le_refl _) (Nat.le_refl _) _); clear hw1)
      | (go_at_call 104; (with_reducible refine (HG6.out _ HH1.out).mono ?_); rintro r w' ⟨rfl, rfl⟩)
      | (go_at_call 104; (with_reducible refine (HG7.out _ HH1.out).mono ?_); rintro r w' ⟨rfl, rfl⟩)
      | (refine wpList_store_row rfl 82 _ _ rfl w1.heap.size (fA k e (.slice none 0 0)) rfl rfl _ _ (heap_alloc_last w1 _) (fr_info _ rfl) rfl (fr_one _ _ _ _ _) ?_; obtain ⟨w2, hw2⟩ : ∃ q, World.setRow (w1.alloc (.cells (fA 0 0 (.slice none 0 0)) 82)) w1.heap.size (fA k e (.slice none 0 0)) = q := ⟨_, rfl⟩; rw [hw2]; have HF2 : Hid (FO w2 w1.heap.size k e (.slice none 0 0)) := Lib.hid (by rw [← hw2]; exact FO.new _); have HB2 : Hid (Below w1.heap.size w1 w2) := Lib.hid (by rw [← hw2]; exact bnew _ _ _); have HH2 := Lib.hid (HH1.out.keep HB2.out); have HA2 := Lib.hid ((HA.out.keep HB1.out).keep HB2.out); have HBB := Lib.hid (bch HB.out (bch HB1.out HB2.out)); have HR2 := Lib.hid ((HR.out.keep HB1.out).keep HB2.out); have HT2 := Lib.hid ((HT.out.keep HB1.out).keep HB2.out); obtain ⟨c0, c1, c2⟩ := HF2.out.cells; clear hw2)
      | (go_at_call 104; (with_reducible refine (HG4.out _ HH2.out).mono ?_); rintro r w' ⟨rfl, rfl⟩)
      | (refine wpList_load_row rfl 172 _ rfl w0.heap.size rfl _ (av h11) (0, 0) _ HH2.out.1 Tryz.underlying172 rfl (av_info _ HL.out) ?_)
      | (go_at_call 105; (with_reducible refine (HKD.out _).mono ?_); rintro r w' ⟨rfl, rfl⟩)
      | (refine wpList_store_row rfl 82 _ _ rfl w.heap.size (fA 0 0 (.slice none 0 0)) rfl rfl _ _ HA2.out (fr_info _ rfl) rfl (fr_one _ _ _ _ _) ?_))
    refine bodyPost_ret_by (results_row_tmp2 rfl _ _ w.heap.size _ rfl (HA2.out.row 0 0 (.slice none 0 0)).load) rfl ?_
    exact decf_none hR.out (brow HBB.out (Nat.le_refl _) (Nat.le_refl _) _)
  have HKD : Hid (∀ w, Calls Tryz.prog 105 #[.int .i64 k] w fun e w' => e = .returned (.bool true) ∧ w = w') := Lib.hid fun w => by rw [← show decide (1 ≤ k ∧ k ≤ 4) = true from decide_eq_true hkd]; exact fkind_any k w
  by_cases hnm : n ≤ 197
  rotate_left
  · have hR := Lib.hid (fragD_form (ep := ep) h1 h2 (Or.inl (by rw [hk, hnn]; exact fragOk_no (fun q => hnm q.2.2))))
    have hnm' : (197 : Int) < (n : Int) := by omega
    clear h1 h2 hz hri hbz ht hlc hh hhl hhb hk he hn hs gk ge gn gs hcell hnn hsz n1 s1 hz11 hkd hnm
    go_enter Tryz.func87, Tryz.ntmps87
    go_wp2_with (first
      | (refine wpl_val rfl (exec_arrptr (.tmp 17) rfl _ 11 11 rfl (by omega)) ?_)
      | (refine wpl_val rfl (exec_load_hat (.tmp 18) rfl rfl HAT.out) ?_)
      | (refine wpList_store_row rfl 172 _ _ rfl w0.heap.size (av h11) rfl rfl _ (av z11) (HD.new w0 z11 z11_length).1 (av_info _ HL.out) (by rw [av_size, av_size, HL.out, z11_length]) (av_one _) ?_; obtain ⟨w1, hw1⟩ : ∃ q, World.setRow (w0.alloc (.cells #[.int .u8 0, .int .u8 0, .int .u8 0, .int .u8 0, .int .u8 0, .int .u8 0, .int .u8 0, .int .u8 0, .int .u8 0, .int .u8 0, .int .u8 0] 172)) w0.heap.size (av h11) = q := ⟨_, rfl⟩; rw [hw1]; have HH1 : Hid (HD w1 w0.heap.size h11) := Lib.hid (by rw [← hw1]; exact (HD.new w0 z11 z11_length).row HL.out); have HB1 : Hid (Below w0.heap.size w0 w1) := Lib.hid (by rw [← hw1]; exact brow (balloc _ _) (Nat.le_refl _) (Nat.le_refl _) _); clear hw1)
      | (go_at_call 104; (with_reducible refine (HG6.out _ HH1.out).mono ?_); rintro r w' ⟨rfl, rfl⟩)
      | (go_at_call 104; (with_reducible refine (HG7.out _ HH1.out).mono ?_); rintro r w' ⟨rfl, rfl⟩)
      | (refine wpList_store_row rfl 82 _ _ rfl w1.heap.size (fA k e (.slice none 0 0)) rfl rfl _ _ (heap_alloc_last w1 _) (fr_info _ rfl) rfl (fr_one _ _ _ _ _) ?_; obtain ⟨w2, hw2⟩ : ∃ q, World.setRow (w1.alloc (.cells (fA 0 0 (.slice none 0 0)) 82)) w1.heap.size (fA k e (.slice none 0 0)) = q := ⟨_, rfl⟩; rw [hw2]; have HF2 : Hid (FO w2 w1.heap.size k e (.slice none 0 0)) := Lib.hid (by rw [← hw2]; exact FO.new _); have HB2 : Hid (Below w1.heap.size w1 w2) := Lib.hid (by rw [← hw2]; exact bnew _ _ _); have HH2 := Lib.hid (HH1.out.keep HB2.out); have HA2 := Lib.hid ((HA.out.keep HB1.out).keep HB2.out); have HBB := Lib.hid (bch HB.out (bch HB1.out HB2.out)); have HR2 := Lib.hid ((HR.out.keep HB1.out).keep HB2.out); have HT2 := Lib.hid ((HT.out.keep HB1.out).keep HB2.out); obtain ⟨c0, c1, c2⟩ := HF2.out.cells; clear hw2)
      | (go_at_call 104; (with_reducible refine (HG4.out _ HH2.out).mono ?_); rintro r w' ⟨rfl, rfl⟩)
      | (refine wpList_load_row rfl 172 _ rfl w0.heap.size rfl _ (av h11) (0, 0) _ HH2.out.1 Tryz.underlying172 rfl (av_info _ HL.out) ?_)
      | (go_at_call 105; (with_reducible refine (HKD.out _).mono ?_); rintro r w' ⟨rfl, rfl⟩)
      | (refine wpList_store_row rfl 82 _ _ rfl w.heap.size (fA 0 0 (.slice none 0 0)) rfl rfl _ _ HA2.out (fr_info _ rfl) rfl (fr_one _ _ _ _ _) ?_))
    refine bodyPost_ret_by (results_row_tmp2 rfl _ _ w.heap.size _ rfl (HA2.out.row 0 0 (.slice none 0 0)).load) rfl ?_
    exact decf_none hR.out (brow HBB.out (Nat.le_refl _) (Nat.le_refl _) _)
  have hnm' : ¬ (197 : Int) < (n : Int) := by omega
  have hok : fragOk (num zs 6 1) (num zs 4 2).toNat = true := by rw [hk, hnn]; exact decide_eq_true ⟨hkd.1, hkd.2, hnm⟩
  by_cases hep : e = ep
  rotate_left
  · have hR := Lib.hid (fragD_form (ep := ep) h1 h2 (Or.inr (by rw [he]; exact hep)))
    have hep' : (e != ep) = true := by simpa using hep
    clear h1 h2 hz hri hbz ht hlc hh hhl hhb hk he hn hs gk ge gn gs hcell hnn hsz n1 s1 hz11 hkd hnm hok
    go_enter Tryz.func87, Tryz.ntmps87
    go_wp2_with (first
      | (refine wpl_val rfl (exec_arrptr (.tmp 17) rfl _ 11 11 rfl (by omega)) ?_)
      | (refine wpl_val rfl (exec_load_hat (.tmp 18) rfl rfl HAT.out) ?_)
      | (refine wpList_store_row rfl 172 _ _ rfl w0.heap.size (av h11) rfl rfl _ (av z11) (HD.new w0 z11 z11_length).1 (av_info _ HL.out) (by rw [av_size, av_size, HL.out, z11_length]) (av_one _) ?_; obtain ⟨w1, hw1⟩ : ∃ q, World.setRow (w0.alloc (.cells #[.int .u8 0, .int .u8 0, .int .u8 0, .int .u8 0, .int .u8 0, .int .u8 0, .int .u8 0, .int .u8 0, .int .u8 0, .int .u8 0, .int .u8 0] 172)) w0.heap.size (av h11) = q := ⟨_, rfl⟩; rw [hw1]; have HH1 : Hid (HD w1 w0.heap.size h11) := Lib.hid (by rw [← hw1]; exact (HD.new w0 z11 z11_length).row HL.out); have HB1 : Hid (Below w0.heap.size w0 w1) := Lib.hid (by rw [← hw1]; exact brow (balloc _ _) (Nat.le_refl _) (Nat.le_refl _) _); clear hw1)
      | (go_at_call 104; (with_reducible refine (HG6.out _ HH1.out).mono ?_); rintro r w' ⟨rfl, rfl⟩)
      | (go_at_call 104; (with_reducible refine (HG7.out _ HH1.out).mono ?_); rintro r w' ⟨rfl, rfl⟩)
      | (refine wpList_store_row rfl 82 _ _ rfl w1.heap.size (fA k e (.slice none 0 0)) rfl rfl _ _ (heap_alloc_last w1 _) (fr_info _ rfl) rfl (fr_one _ _ _ _ _) ?_; obtain ⟨w2, hw2⟩ : ∃ q, World.setRow (w1.alloc (.cells (fA 0 0 (.slice none 0 0)) 82)) w1.heap.size (fA k e (.slice none 0 0)) = q := ⟨_, rfl⟩; rw [hw2]; have HF2 : Hid (FO w2 w1.heap.size k e (.slice none 0 0)) := Lib.hid (by rw [← hw2]; exact FO.new _); have HB2 : Hid (Below w1.heap.size w1 w2) := Lib.hid (by rw [← hw2]; exact bnew _ _ _); have HH2 := Lib.hid (HH1.out.keep HB2.out); have HA2 := Lib.hid ((HA.out.keep HB1.out).keep HB2.out); have HBB := Lib.hid (bch HB.out (bch HB1.out HB2.out)); have HR2 := Lib.hid ((HR.out.keep HB1.out).keep HB2.out); have HT2 := Lib.hid ((HT.out.keep HB1.out).keep HB2.out); obtain ⟨c0, c1, c2⟩ := HF2.out.cells; clear hw2)
      | (go_at_call 104; (with_reducible refine (HG4.out _ HH2.out).mono ?_); rintro r w' ⟨rfl, rfl⟩)
      | (refine wpList_load_row rfl 172 _ rfl w0.heap.size rfl _ (av h11) (0, 0) _ HH2.out.1 Tryz.underlying172 rfl (av_info _ HL.out) ?_)
      | (go_at_call 105; (with_reducible refine (HKD.out _).mono ?_); rintro r w' ⟨rfl, rfl⟩)
      | (refine wpList_store_row rfl 82 _ _ rfl w.heap.size (fA 0 0 (.slice none 0 0)) rfl rfl _ _ HA2.out (fr_info _ rfl) rfl (fr_one _ _ _ _ _) ?_))
    refine bodyPost_ret_by (results_row_tmp2 rfl _ _ w.heap.size _ rfl (HA2.out.row 0 0 (.slice none 0 0)).load) rfl ?_
    exact decf_none hR.out (brow HBB.out (Nat.le_refl _) (Nat.le_refl _) _)
  subst hep
  by_cases hct : len < sz
  · have hR := Lib.hid (fragD_cut h1 h2 hok he (by omega))
    have hct' : (len : Int) < (sz : Int) := by omega
    clear h1 h2 hz hri hbz ht hlc hh hhl hhb hk he hn hs gk ge gn gs hcell hnn hsz n1 s1 hz11 hkd hnm hok hct
    go_enter Tryz.func87, Tryz.ntmps87
    go_wp2_with (first
      | (refine wpl_val rfl (exec_arrptr (.tmp 17) rfl _ 11 11 rfl (by omega)) ?_)
      | (refine wpl_val rfl (exec_load_hat (.tmp 18) rfl rfl HAT.out) ?_)
      | (refine wpList_store_row rfl 172 _ _ rfl w0.heap.size (av h11) rfl rfl _ (av z11) (HD.new w0 z11 z11_length).1 (av_info _ HL.out) (by rw [av_size, av_size, HL.out, z11_length]) (av_one _) ?_; obtain ⟨w1, hw1⟩ : ∃ q, World.setRow (w0.alloc (.cells #[.int .u8 0, .int .u8 0, .int .u8 0, .int .u8 0, .int .u8 0, .int .u8 0, .int .u8 0, .int .u8 0, .int .u8 0, .int .u8 0, .int .u8 0] 172)) w0.heap.size (av h11) = q := ⟨_, rfl⟩; rw [hw1]; have HH1 : Hid (HD w1 w0.heap.size h11) := Lib.hid (by rw [← hw1]; exact (HD.new w0 z11 z11_length).row HL.out); have HB1 : Hid (Below w0.heap.size w0 w1) := Lib.hid (by rw [← hw1]; exact brow (balloc _ _) (Nat.le_refl _) (Nat.le_refl _) _); clear hw1)
      | (go_at_call 104; (with_reducible refine (HG6.out _ HH1.out).mono ?_); rintro r w' ⟨rfl, rfl⟩)
      | (go_at_call 104; (with_reducible refine (HG7.out _ HH1.out).mono ?_); rintro r w' ⟨rfl, rfl⟩)
      | (refine wpList_store_row rfl 82 _ _ rfl w1.heap.size (fA k e (.slice none 0 0)) rfl rfl _ _ (heap_alloc_last w1 _) (fr_info _ rfl) rfl (fr_one _ _ _ _ _) ?_; obtain ⟨w2, hw2⟩ : ∃ q, World.setRow (w1.alloc (.cells (fA 0 0 (.slice none 0 0)) 82)) w1.heap.size (fA k e (.slice none 0 0)) = q := ⟨_, rfl⟩; rw [hw2]; have HF2 : Hid (FO w2 w1.heap.size k e (.slice none 0 0)) := Lib.hid (by rw [← hw2]; exact FO.new _); have HB2 : Hid (Below w1.heap.size w1 w2) := Lib.hid (by rw [← hw2]; exact bnew _ _ _); have HH2 := Lib.hid (HH1.out.keep HB2.out); have HA2 := Lib.hid ((HA.out.keep HB1.out).keep HB2.out); have HBB := Lib.hid (bch HB.out (bch HB1.out HB2.out)); have HR2 := Lib.hid ((HR.out.keep HB1.out).keep HB2.out); have HT2 := Lib.hid ((HT.out.keep HB1.out).keep HB2.out); obtain ⟨c0, c1, c2⟩ := HF2.out.cells; clear hw2)
      | (go_at_call 104; (with_reducible refine (HG4.out _ HH2.out).mono ?_); rintro r w' ⟨rfl, rfl⟩)
      | (refine wpList_load_row rfl 172 _ rfl w0.heap.size rfl _ (av h11) (0, 0) _ HH2.out.1 Tryz.underlying172 rfl (av_info _ HL.out) ?_)
      | (go_at_call 105; (with_reducible refine (HKD.out _).mono ?_); rintro r w' ⟨rfl, rfl⟩)
      | (refine wpList_store_row rfl 82 _ _ rfl w.heap.size (fA 0 0 (.slice none 0 0)) rfl rfl _ _ HA2.out (fr_info _ rfl) rfl (fr_one _ _ _ _ _) ?_))
    refine bodyPost_ret_by (results_row_tmp2 rfl _ _ w.heap.size _ rfl (HA2.out.row 0 0 (.slice none 0 0)).load) rfl ?_
    exact decf_none hR.out (brow HBB.out (Nat.le_refl _) (Nat.le_refl _) _)
  have hct' : ¬ (len : Int) < (sz : Int) := by omega
  have HSZ : Hid ((sz : Int) = ((11 + n : Nat) : Int) ∧ sz = 11 + n ∧ sz ≤ len ∧ n ≤ 197) := Lib.hid ⟨by omega, hsz.symm, by omega, hnm⟩
  obtain ⟨m, hm⟩ : ∃ m, maskS (ofS (h11.drop 4 ++ (zs.drop 11).take n)) = m := ⟨_, rfl⟩
  have hmt : maskS (ofS ((zs.take (11 + (num zs 4 2).toNat)).drop 4)) = m := by rw [hnn, tail_split zs n (by omega), hh, hm]
  have HS : Hid (∀ w v, Tab w → HD w w0.heap.size h11 → RI .u8 w v n ((zs.drop 11).take n) → Calls Tryz.prog 106 #[.pointer (some ⟨w0.heap.size, 0, none⟩), v] w fun e w' => e = .returned (.int .u64 m) ∧ w = w') := Lib.hid fun w v h1 h2 h3 => fsmh_any w0.heap.size h1 h2 hhb h3 ((hbz.drop 11).take n) hm
  by_cases hsm : s = m
  rotate_left
  · have hR := Lib.hid (fragD_sum h1 h2 hok he (by omega) (by rw [hs, hmt]; omega))
    have hsm' : ((s : Int) != (m : Int)) = true := by simp; omega
    clear h1 h2 hz hri hbz ht hlc hh hhl hhb hk he hn hs gk ge gn gs hcell hnn hsz n1 s1 hz11 hkd hnm hok hct hm hmt hsm
    go_enter Tryz.func87, Tryz.ntmps87
    go_wp2_with (first
      | (refine wpl_val rfl (exec_arrptr (.tmp 17) rfl _ 11 11 rfl (by omega)) ?_)
      | (refine wpl_val rfl (exec_load_hat (.tmp 18) rfl rfl HAT.out) ?_)
      | (refine wpList_store_row rfl 172 _ _ rfl w0.heap.size (av h11) rfl rfl _ (av z11) (HD.new w0 z11 z11_length).1 (av_info _ HL.out) (by rw [av_size, av_size, HL.out, z11_length]) (av_one _) ?_; obtain ⟨w1, hw1⟩ : ∃ q, World.setRow (w0.alloc (.cells #[.int .u8 0, .int .u8 0, .int .u8 0, .int .u8 0, .int .u8 0, .int .u8 0, .int .u8 0, .int .u8 0, .int .u8 0, .int .u8 0, .int .u8 0] 172)) w0.heap.size (av h11) = q := ⟨_, rfl⟩; rw [hw1]; have HH1 : Hid (HD w1 w0.heap.size h11) := Lib.hid (by rw [← hw1]; exact (HD.new w0 z11 z11_length).row HL.out); have HB1 : Hid (Below w0.heap.size w0 w1) := Lib.hid (by rw [← hw1]; exact brow (balloc _ _) (Nat.le_refl _) (Nat.le_refl _) _); clear hw1)
      | (go_at_call 104; (with_reducible refine (HG6.out _ HH1.out).mono ?_); rintro r w' ⟨rfl, rfl⟩)
      | (go_at_call 104; (with_reducible refine (HG7.out _ HH1.out).mono ?_); rintro r w' ⟨rfl, rfl⟩)
      | (refine wpList_store_row rfl 82 _ _ rfl w1.heap.size (fA k e (.slice none 0 0)) rfl rfl _ _ (heap_alloc_last w1 _) (fr_info _ rfl) rfl (fr_one _ _ _ _ _) ?_; obtain ⟨w2, hw2⟩ : ∃ q, World.setRow (w1.alloc (.cells (fA 0 0 (.slice none 0 0)) 82)) w1.heap.size (fA k e (.slice none 0 0)) = q := ⟨_, rfl⟩; rw [hw2]; have HF2 : Hid (FO w2 w1.heap.size k e (.slice none 0 0)) := Lib.hid (by rw [← hw2]; exact FO.new _); have HB2 : Hid (Below w1.heap.size w1 w2) := Lib.hid (by rw [← hw2]; exact bnew _ _ _); have HH2 := Lib.hid (HH1.out.keep HB2.out); have HA2 := Lib.hid ((HA.out.keep HB1.out).keep HB2.out); have HBB := Lib.hid (bch HB.out (bch HB1.out HB2.out)); have HR2 := Lib.hid ((HR.out.keep HB1.out).keep HB2.out); have HT2 := Lib.hid ((HT.out.keep HB1.out).keep HB2.out); obtain ⟨c0, c1, c2⟩ := HF2.out.cells; clear hw2)
      | (go_at_call 104; (with_reducible refine (HG4.out _ HH2.out).mono ?_); rintro r w' ⟨rfl, rfl⟩)
      | (refine wpList_load_row rfl 172 _ rfl w0.heap.size rfl _ (av h11) (0, 0) _ HH2.out.1 Tryz.underlying172 rfl (av_info _ HL.out) ?_)
      | (go_at_call 105; (with_reducible refine (HKD.out _).mono ?_); rintro r w' ⟨rfl, rfl⟩)
      | (refine wpl_cut_lhm rfl (.tmp 56) (.const (.int .i64 11)) (.tmp 57) (.tmp 58) rfl _ len 11 n sz _ rfl rfl (congrArg (Value.int .i64) HSZ.out.1) rfl HR2.out (by have := HSZ.out; omega) (by have := HSZ.out; omega) (by have := HSZ.out; omega) ?_; intro p3 c3 hr3; have HR3 := Lib.hid hr3; clear hr3)
      | (go_at_call 104; (with_reducible refine (HG0.out _ HH2.out).mono ?_); rintro r w' ⟨rfl, rfl⟩)
      | (go_at_call 106; (with_reducible refine (HS.out _ _ HT2.out HH2.out HR3.out).mono ?_); rintro r w' ⟨rfl, rfl⟩)
      | (refine wpList_store_row rfl 82 _ _ rfl w.heap.size (fA 0 0 (.slice none 0 0)) rfl rfl _ _ HA2.out (fr_info _ rfl) rfl (fr_one _ _ _ _ _) ?_))
    refine bodyPost_ret_by (results_row_tmp2 rfl _ _ w.heap.size _ rfl (HA2.out.row 0 0 (.slice none 0 0)).load) rfl ?_
    exact decf_none hR.out (brow HBB.out (Nat.le_refl _) (Nat.le_refl _) _)
  subst hsm
  have hR0 := fragD_ok h1 h2 hok he (by omega) (by rw [hs, hmt])
  rw [hk, he, hnn, hsz] at hR0
  have hR := Lib.hid hR0
  clear h1 h2 hz hri hbz ht hlc hh hhl hhb hk he hn hs gk ge gn gs hcell hnn hsz n1 s1 hz11 hkd hnm hok hct hm hmt hR0
  go_enter Tryz.func87, Tryz.ntmps87
  go_wp2_with (first
    | (refine wpl_val rfl (exec_arrptr (.tmp 17) rfl _ 11 11 rfl (by omega)) ?_)
    | (refine wpl_val rfl (exec_load_hat (.tmp 18) rfl rfl HAT.out) ?_)
    | (refine wpList_store_row rfl 172 _ _ rfl w0.heap.size (av h11) rfl rfl _ (av z11) (HD.new w0 z11 z11_length).1 (av_info _ HL.out) (by rw [av_size, av_size, HL.out, z11_length]) (av_one _) ?_; obtain ⟨w1, hw1⟩ : ∃ q, World.setRow (w0.alloc (.cells #[.int .u8 0, .int .u8 0, .int .u8 0, .int .u8 0, .int .u8 0, .int .u8 0, .int .u8 0, .int .u8 0, .int .u8 0, .int .u8 0, .int .u8 0] 172)) w0.heap.size (av h11) = q := ⟨_, rfl⟩; rw [hw1]; have HH1 : Hid (HD w1 w0.heap.size h11) := Lib.hid (by rw [← hw1]; exact (HD.new w0 z11 z11_length).row HL.out); have HB1 : Hid (Below w0.heap.size w0 w1) := Lib.hid (by rw [← hw1]; exact brow (balloc _ _) (Nat.le_refl _) (Nat.le_refl _) _); clear hw1)
    | (go_at_call 104; (with_reducible refine (HG6.out _ HH1.out).mono ?_); rintro r w' ⟨rfl, rfl⟩)
    | (go_at_call 104; (with_reducible refine (HG7.out _ HH1.out).mono ?_); rintro r w' ⟨rfl, rfl⟩)
    | (refine wpList_store_row rfl 82 _ _ rfl w1.heap.size (fA k e (.slice none 0 0)) rfl rfl _ _ (heap_alloc_last w1 _) (fr_info _ rfl) rfl (fr_one _ _ _ _ _) ?_; obtain ⟨w2, hw2⟩ : ∃ q, World.setRow (w1.alloc (.cells (fA 0 0 (.slice none 0 0)) 82)) w1.heap.size (fA k e (.slice none 0 0)) = q := ⟨_, rfl⟩; rw [hw2]; have HF2 : Hid (FO w2 w1.heap.size k e (.slice none 0 0)) := Lib.hid (by rw [← hw2]; exact FO.new _); have HB2 : Hid (Below w1.heap.size w1 w2) := Lib.hid (by rw [← hw2]; exact bnew _ _ _); have HH2 := Lib.hid (HH1.out.keep HB2.out); have HA2 := Lib.hid ((HA.out.keep HB1.out).keep HB2.out); have HBB := Lib.hid (bch HB.out (bch HB1.out HB2.out)); have HR2 := Lib.hid ((HR.out.keep HB1.out).keep HB2.out); have HT2 := Lib.hid ((HT.out.keep HB1.out).keep HB2.out); obtain ⟨c0, c1, c2⟩ := HF2.out.cells; clear hw2)
    | (go_at_call 104; (with_reducible refine (HG4.out _ HH2.out).mono ?_); rintro r w' ⟨rfl, rfl⟩)
    | (refine wpList_load_row rfl 172 _ rfl w0.heap.size rfl _ (av h11) (0, 0) _ HH2.out.1 Tryz.underlying172 rfl (av_info _ HL.out) ?_)
    | (go_at_call 105; (with_reducible refine (HKD.out _).mono ?_); rintro r w' ⟨rfl, rfl⟩)
    | (refine wpl_cut_lhm rfl (.tmp 56) (.const (.int .i64 11)) (.tmp 57) (.tmp 58) rfl _ len 11 n sz _ rfl rfl (congrArg (Value.int .i64) HSZ.out.1) rfl HR2.out (by have := HSZ.out; omega) (by have := HSZ.out; omega) (by have := HSZ.out; omega) ?_; intro p3 c3 hr3; have HR3 := Lib.hid hr3; clear hr3)
    | (go_at_call 104; (with_reducible refine (HG0.out _ HH2.out).mono ?_); rintro r w' ⟨rfl, rfl⟩)
    | (go_at_call 106; (with_reducible refine (HS.out _ _ HT2.out HH2.out HR3.out).mono ?_); rintro r w' ⟨rfl, rfl⟩)
    | (go_at_call 107; (with_reducible refine (clone_any _ n _ _ HR3.out (by have := HSZ.out; omega)).mono ?_); rintro r wc ⟨vc, rfl, hoc, hbc⟩; obtain ⟨pc, cc, rfl⟩ := own_form hoc; have HAC := HA2.out.keep hbc; have HFC := HF2.out.keep hbc; have hfc := HFC.frozen 2; have hzc := HFC.cells.2.2; have HFD := Lib.hid (HFC.set2 (.slice pc n cc)); have HAD := Lib.hid (HAC.set_apart (b' := w1.heap.size) (Nat.ne_of_lt (HA.out.keep HB1.out).lt) 2 (.slice pc n cc)); have HOD := Lib.hid (HFC.set_own 2 (.slice pc n cc) (own_mono hoc HBB.out.size)); have HBD := Lib.hid (bset (bch HBB.out hbc) (b := w1.heap.size) (Nat.le_of_lt (HA.out.keep HB1.out).lt) (Nat.le_refl _) 2 (.slice pc n cc)); clear hoc hbc HAC HFC)
    | (refine wpl_load_fr rfl (.tmp 8) rfl rfl HFD.out ?_)
    | (refine wpList_store_row rfl 82 _ _ rfl w.heap.size (fA k e (.slice pc n cc)) rfl rfl _ _ HAD.out (fr_info _ rfl) rfl (fr_one _ _ _ _ _) ?_))
  refine bodyPost_ret_by (results_row_tmp2 rfl _ _ w.heap.size _ rfl (HAD.out.row k e (.slice pc n cc)).load) rfl ?_
  exact decf_some hR.out (HAD.out.row_own _ HOD.out) (brow HBD.out (Nat.le_refl _) (Nat.le_refl _) _)
end Go.Proofs.YtnmplnemnfonfaaGreatDoor
namespace Go.Proofs.YtnmplnemnfonfaaGreatDoor
def room (zs : List Int) : List Int := (zs ++ List.replicate 52 0).take 52
theorem room_length (zs : List Int) : (room zs).length = 52 := by simp [room]
theorem getD_replicate (n j : Nat) : (List.replicate n (0 : Int)).getD j 0 = 0 := by
  simp only [List.getD, List.getElem?_replicate]; split <;> rfl
theorem room_get (zs : List Int) (j : Nat) (h : j < 52) : (room zs).getD j 0 = zs.getD j 0 := by
  simp only [room, List.getD, List.getElem?_take, h, if_true, List.getElem?_append]
  split
  · rfl
  · rename_i h1
    rw [List.getElem?_eq_none (l := zs) (by omega)]
    simp only [List.getElem?_replicate]; split <;> rfl
def sealed (x i : Int) (zs : List Int) : List Int := putL x 8 ++ putL i 4 ++ room zs
theorem sealed_length (x i : Int) (zs : List Int) : (sealed x i zs).length = 64 := by simp [sealed, putL_length, room_length]
theorem getD_app_l (a b : List Int) (j : Nat) (h : j < a.length) : (a ++ b).getD j 0 = a.getD j 0 := by simp [List.getD, List.getElem?_append, h]
theorem getD_app_r (a b : List Int) (j : Nat) (h : a.length ≤ j) : (a ++ b).getD j 0 = b.getD (j - a.length) 0 := by simp [List.getD, List.getElem?_append, Nat.not_lt.2 h]
theorem sealed_get1 (x i : Int) (zs : List Int) (j : Nat) (h : j < 8) : (sealed x i zs).getD j 0 = (putL x 8).getD j 0 := by
  unfold sealed
  rw [getD_app_l _ _ _ (by simp [putL_length]; omega), getD_app_l _ _ _ (by simp [putL_length]; omega)]
theorem sealed_get2 (x i : Int) (zs : List Int) (j : Nat) (h : 8 ≤ j) (h2 : j < 12) : (sealed x i zs).getD j 0 = (putL i 4).getD (j - 8) 0 := by
  unfold sealed
  rw [getD_app_l _ _ _ (by simp [putL_length]; omega), getD_app_r _ _ _ (by simp [putL_length]; omega), putL_length]
theorem sealed_get3 (x i : Int) (zs : List Int) (j : Nat) (h : 12 ≤ j) (h2 : j < 64) : (sealed x i zs).getD j 0 = zs.getD (j - 12) 0 := by
  unfold sealed
  rw [getD_app_r _ _ _ (by simp [putL_length]; omega), List.length_append, putL_length, putL_length, room_get _ _ (by omega)]
theorem sealed_room (x i : Int) (zs : List Int) : (sealed x i zs).drop 12 = room zs := by
  unfold sealed
  rw [List.drop_left' (by simp [putL_length])]
theorem room_room (zs : List Int) : room (room zs) = room zs := by
  unfold room
  rw [List.take_append_of_le_length (by simp), List.take_take]; rfl
theorem sealed_again (x i : Int) (zs : List Int) : sealed x i (room zs) = sealed x i zs := by unfold sealed; rw [room_room]
theorem sealed_own (x i : Int) (zs : List Int) : sealed x i ((sealed x i zs).drop 12) = sealed x i zs := by rw [sealed_room, sealed_again]
theorem putL_wrap (i : Int) : putL (i % 18446744073709551616) 4 = putL i 4 := by
  unfold putL
  refine List.map_congr_left fun j hj => ?_
  simp only [List.mem_range] at hj
  rcases (by omega : j = 0 ∨ j = 1 ∨ j = 2 ∨ j = 3) with rfl | rfl | rfl | rfl
  all_goals
    simp only [Nat.reduceMul, Int.reducePow]
    omega
theorem sealed_splice (x i : Int) (zs : List Int) : splice (splice (splice (List.replicate 64 0) 0 (putL x 8)) 8 (putL i 4)) 12 (zs.take (min zs.length 52)) = sealed x i zs := by
  have h1 : splice (List.replicate 64 0) 0 (putL x 8) = putL x 8 ++ List.replicate 56 0 := by
    simp only [splice, List.take_zero, List.nil_append, putL_length, List.drop_replicate]
  have h2 : splice (putL x 8 ++ List.replicate 56 0) 8 (putL i 4) = (putL x 8 ++ putL i 4) ++ List.replicate 52 0 := by
    simp only [splice, putL_length]
    rw [List.take_left' (putL_length x 8), List.drop_append, List.drop_eq_nil_of_le (by rw [putL_length]; omega), putL_length, List.nil_append, List.drop_replicate, List.append_assoc]
  have h3 : (zs.take (min zs.length 52)).length = min zs.length 52 := by simp
  rw [h1, h2]
  unfold sealed room
  simp only [splice, h3]
  rw [List.take_left' (by simp [putL_length]), List.drop_append, List.drop_eq_nil_of_le (by simp [putL_length]), List.nil_append]
  congr 1
  rw [List.drop_replicate, List.take_append, List.take_replicate]
  congr 1
  · rw [List.take_eq_take_iff]; omega
  · congr 1; simp [putL_length]; omega
theorem putL_eq (a b : Int) (k : Nat) : putL a k = putL b k ↔ a % 2 ^ (8 * k) = b % 2 ^ (8 * k) := by
  constructor
  · intro h
    rw [← getI_put a k k (Nat.le_refl _), ← getI_put b k k (Nat.le_refl _), h]
  · intro h
    unfold putL
    refine List.map_congr_left fun j hj => ?_
    simp only [List.mem_range] at hj
    have key : ∀ n : Int, n / 2 ^ (8 * j) % 256 = n % 2 ^ (8 * k) / 2 ^ (8 * j) % 256 := fun n => by
      have hp := pow_pos' (8 * j)
      have hs : (2 : Int) ^ (8 * k) = 2 ^ (8 * j) * (256 * 2 ^ (8 * (k - j - 1))) := by
        rw [show (256 : Int) = 2 ^ 8 from rfl, ← Int.pow_add, ← Int.pow_add]; congr 1; omega
      have h1 := Int.emod_add_mul_ediv n (2 ^ (8 * k))
      generalize n / 2 ^ (8 * k) = q at h1
      generalize n % 2 ^ (8 * k) = r at h1
      rw [← h1, hs, Int.mul_assoc, Int.add_mul_ediv_left _ _ (by omega), Int.mul_assoc, Int.add_mul_emod_self_left]
    rw [key a, key b, h]
theorem sealed_eq (x y i j : Int) (hx : U64 x) (hy : U64 y) (zs : List Int) : sealed y j ((sealed x i zs).drop 12) = sealed x i zs ↔ x = y ∧ i % 4294967296 = j % 4294967296 := by
  rw [sealed_room, sealed_again]
  unfold sealed
  unfold U64 at hx hy
  rw [List.append_left_inj]
  constructor
  · intro h
    obtain ⟨h1, h2⟩ := List.append_inj h (by simp [putL_length])
    have h3 := (putL_eq y x 8).1 h1
    have h4 := (putL_eq j i 4).1 h2
    simp only [Nat.reduceMul, Int.reducePow] at h3 h4
    omega
  · rintro ⟨rfl, h⟩
    rw [(putL_eq j i 4).2 (by simp only [Nat.reduceMul, Int.reducePow]; omega)]
theorem sealed_read (l : List Int) (hl : l.length = 64) (hb : Bytes l) : sealed (getI (l.take 8) 8) (getI ((l.drop 8).take 4) 4) (l.drop 12) = l := by
  unfold sealed
  rw [putL_getI _ (bytes_take hb 8) 8 (by simp [hl]), putL_getI _ (bytes_take (bytes_drop hb 8) 4) 4 (by simp [hl])]
  have h1 : room (l.drop 12) = l.drop 12 := by
    unfold room; rw [List.take_append_of_le_length (by simp [hl]), List.take_of_length_le (by simp [hl])]
  rw [h1, show l.drop 12 = (l.drop 8).drop 4 from by rw [List.drop_drop], List.append_assoc, List.take_append_drop, List.take_append_drop]
theorem sealed_bytes (x i : Int) (zs : List Int) (h : Bytes zs) : Bytes (sealed x i zs) := by
  refine bytes_of_mem fun z hz => ?_
  simp only [sealed, room, List.mem_append] at hz
  rcases hz with (hz | hz) | hz
  · exact (putL_bytes x 8).mem z hz
  · exact (putL_bytes i 4).mem z hz
  · have := List.mem_of_mem_take hz
    rcases List.mem_append.1 this with h1 | h1
    · exact h.mem z h1
    · have := List.eq_of_mem_replicate h1; omega
def part (l : List Int) (k : Nat) : List Int := (List.range 64).map fun j => if j < k then l.getD j 0 else 0
theorem part_zero (l : List Int) : part l 0 = List.replicate 64 0 := by
  refine List.ext_getElem (by simp [part]) fun j h1 h2 => ?_
  rw [List.getElem_replicate]
  simp [part]
theorem part_all (l : List Int) (hl : l.length = 64) : part l 64 = l := by
  refine List.ext_getElem (by simp [part, hl]) fun j h1 h2 => ?_
  simp [part, List.getD, h2]; omega
theorem part_set (l : List Int) (k : Nat) : (part l k).set k (l.getD k 0) = part l (k + 1) := by
  refine List.ext_getElem (by simp [part]) fun j h1 h2 => ?_
  simp only [part, List.getElem_set, List.getElem_map, List.getElem_range]
  by_cases h : k = j
  · subst h; simp
  · rw [if_neg h]
    by_cases h3 : j < k
    · rw [if_pos h3, if_pos (by omega)]
    · rw [if_neg h3, if_neg (by omega)]
end Go.Proofs.YtnmplnemnfonfaaGreatDoor
namespace Go.Proofs.YtnmplnemnfonfaaGreatDoor
open Go.RowKit
def nr (n : Int) : Nat := (min (max n 0) 832).toNat
theorem nr_le (n : Int) : nr n ≤ 832 := by unfold nr; omega
theorem nr_nat (k : Nat) (h : k ≤ 832) : nr k = k := by unfold nr; omega
theorem near_any (n : Int) (h : I63 n) (w : World) : Calls Tryz.prog 59 #[.int .i64 n] w fun e w' => e = .returned (.int .i64 (nr n : Int)) ∧ w' = w := by
  unfold I63 at h
  go_enter Tryz.func59, Tryz.ntmps59
  go_wp2
  all_goals
    go_ret
    exact ⟨ret_int (by unfold nr; omega), rfl⟩
end Go.Proofs.YtnmplnemnfonfaaGreatDoor
