/-
  LAYER 17 (image): what the program's Add answers, of any bytes that lie somewhere. The table of half a byte's steps must lie in its block as start-up lays it.
-/
import Derived.Test.YtjlnceldnbpapaaDoorImgLay
import Derived.Test.YtjlnceldnbpapaaDoorImgYb
namespace Go.Proofs.YtjlnceldnbpapaaDoor
open Go.RowKit
/-- a body's bytes: what lacks is 0, what is more is cut off -/
def pad8 (zs : List Int) : List Int := splice z832 0 (zs.take 832)
theorem z832_len : z832.length = 832 := List.length_replicate
theorem pad8_len (zs : List Int) : (pad8 zs).length = 832 := by
  unfold pad8
  rw [splice_len _ _ _ (by rw [z832_len, List.length_take]; omega), z832_len]
theorem pad8_bytes {zs : List Int} (h : isB zs) : isB (pad8 zs) := by
  unfold pad8 splice
  have hz : isB z832 := fun x hx => by have := List.eq_of_mem_replicate hx; omega
  exact (hz.take _).append ((h.take _).append (hz.drop _))
theorem pad8_full {zs : List Int} (h : zs.length = 832) : pad8 zs = zs := by
  unfold pad8 splice
  rw [List.take_of_length_le (l := zs) (by omega), h, List.drop_eq_nil_of_le (by rw [z832_len]; omega), List.take_zero, List.nil_append, List.append_nil]
theorem PS.over {w w' : World} {base : Nat} {v : Value} {ps : List PC} (h : w.ownsRow base 60 4 v ps.length (pF ps)) {g : Nat} (hg : w.grownBy w' (some g)) (hne : ∀ q, v.ownBlock = some q → q ≠ g) : PS w' v ps :=
  PS.own (own_over h hg (fun q hq e => hne q hq (Option.some.inj e)))
set_option maxRecDepth 8000 in
set_option maxHeartbeats 2000000 in
theorem add_no (ep x : Int) (hx : I63 x) (bv : Value) (da : Option Addr) (n dc : Nat) (w : World) (hfit : fitI x n = false) :
    Calls Tryd.prog 14 #[.int .u64 ep, bv, .int .i64 x, .slice da n dc] w fun e w' => e = .returned (.tuple #[.slice none 0 0, .int .i64 0, .bool false]) ∧ Below w.heap.size w w' := by
  have HC : Hid (∀ w, Calls Tryd.prog 21 #[.int .i64 x, .slice da n dc] w fun e w' => ∃ a c, e = .returned (.tuple #[.agg (rA (.slice da n dc) (beginN (nr x) : Nat) (.slice a 0 c) 0), .bool false]) ∧ Below w.heap.size w w') := Lib.hid fun w =>
    (cutFrom_any x hx da n dc w).mono fun e w' ⟨a, c, he, _, hb⟩ => by
      rw [(told_no hfit).1, (told_no hfit).2, hfit] at he
      exact ⟨a, c, he, hb⟩
  generalize beginN (nr x) = bg at *
  clear hx hfit
  go_enter Tryd.func14, Tryd.ntmps14
  go_wp2_with (first
    | (go_at_call 21; (with_reducible refine (HC.out _).mono ?_); rintro e w1 ⟨a1, c1, rfl, hb⟩; have HB1 := Lib.hid hb; clear hb)
    | (refine wpList_store_row rfl 48 _ _ rfl w1.heap.size (rA (.slice da n dc) bg (.slice a1 0 c1) 0) rfl rfl _ _ (heap_alloc_last w1 _) (rec_info _ rfl) rfl (rec_one _ _ _ _ _ _ _ _) ?_))
  go_ret3
  exact ⟨rfl, bch HB1.out (bnew _ _ _)⟩
set_option maxRecDepth 8000 in
set_option maxHeartbeats 4000000 in
theorem add_fit (ep x : Int) (hx : I63 x) (bv : Value) (bn : Nat) (bs : List Int) (dv : Value) (n : Nat) (zs : List Int) (hzb : isB zs) (w : World) (ht : Tab w) (hbr : RI .u8 w bv bn bs) (hri : RI .u8 w dv n zs) (hfit : fitI x n = true) :
    Calls Tryd.prog 14 #[.int .u64 ep, bv, .int .i64 x, dv] w fun e w' => ∃ g, e = .returned (.tuple #[.slice (some ⟨g, 0, none⟩) 832 832, .int .i64 (endI x n : Nat), .bool true]) ∧
      YB w' g (layR (ep % 4294967296) (pad8 bs) x zs) ∧ w.heap.size ≤ g ∧ Below w.heap.size w w' := by
  obtain ⟨da, dc, rfl, _⟩ := id hri
  have HC : Hid (∀ w, Calls Tryd.prog 21 #[.int .i64 x, .slice da n dc] w (CutF x (.slice da n dc) n w)) := Lib.hid fun w => cutFrom_any x hx da n dc w
  unfold CutF at HC
  rw [hfit] at HC
  have HL : Hid (∀ (bh : Int) (pa : Option Addr) (pc g : Nat) (w : World), Tab w → 0 < g → YB w g (pad8 bs) → RI .u8 w (.slice da n dc) n zs → (∀ w', w.grownBy w' (some g) → PS w' (.slice pa (pcsI x n).length pc) (pcsI x n)) →
      Calls Tryd.prog 17 #[.agg (rA (.slice da n dc) (beginN (nr x) : Nat) (.slice pa (pcsI x n).length pc) bh), .int .u64 ep, .slice (some ⟨g, 0, none⟩) 832 832] w fun e w' =>
      e = .returned (.tuple #[]) ∧ YB w' g (layR (ep % 4294967296) (pad8 bs) x zs) ∧ w.grownBy w' (some g)) := Lib.hid fun bh pa pc g w h1 h2 h3 h4 h5 =>
    lay_any ep x zs hzb n da dc bh pa pc g (pad8 bs) (pad8_len bs) hfit w h1 h2 h3 h4 h5
  generalize layR (ep % 4294967296) (pad8 bs) x zs = out at *
  generalize pcsI x n = ps at *
  generalize endI x n = en at *
  generalize beginN (nr x) = bg at *
  have HT := Lib.hid ht
  have HBR := Lib.hid hbr
  have HRI := Lib.hid hri
  have H0 : Hid (0 < w.heap.size) := Lib.hid (by have := World.block_lt_of_cell? w _ (ht 0 (by omega)); simpa using this)
  clear hx hfit hzb ht hbr hri
  go_enter Tryd.func14, Tryd.ntmps14
  go_wp2_with (first
    | (go_at_call 21; (with_reducible refine (HC.out _).mono ?_); rintro e w1 ⟨a1, c1, rfl, ho, hb⟩; have HO1 := Lib.hid ho; have HB1 := Lib.hid hb; clear ho hb)
    | (refine wpList_store_row rfl 48 _ _ rfl w1.heap.size (rA (.slice da n dc) bg (.slice a1 ps.length c1) en) rfl rfl _ _ (heap_alloc_last w1 _) (rec_info _ rfl) rfl (rec_one _ _ _ _ _ _ _ _) ?_; obtain ⟨w2, hw2⟩ : ∃ w2, (w1.alloc (.cells #[.slice none 0 0, .int .i64 0, .slice none 0 0, .int .i64 0] 48)).setRow w1.heap.size (rA (.slice da n dc) bg (.slice a1 ps.length c1) en) = w2 := ⟨_, rfl⟩; rw [hw2]; have hb2 : Below w1.heap.size w1 w2 := by rw [← hw2]; exact bnew _ _ _
       have HM2 : Hid (MO w2 w1.heap.size (.slice da n dc) bg (.slice a1 ps.length c1) en) := Lib.hid (by rw [← hw2]; exact MO.new _)
       have HO2 := Lib.hid (own_keep HO1.out hb2); have HB2 := Lib.hid (bch HB1.out hb2); clear hb2 hw2)
    | (refine wpl_mk_yb rfl _ _ rfl 832 rfl rfl (by omega) ?_; intro g w3 HY3 HG3 HB3; have HM3 := Lib.hid (HM2.out.keep HB3.out); have HO3 := Lib.hid (own_keep HO2.out HB3.out); have HB3 := Lib.hid (bch HB2.out HB3.out); have HBR3 := Lib.hid (HBR.out.keep HB3.out))
    | (refine wpl_copy_ybm rfl _ _ rfl g 0 832 832 _ HY3.out rfl _ bn bs rfl HBR3.out (by rw [List.length_replicate]; omega) ?_; intro w4 k HY4 HG4; have HY4 : Hid (YB w4 g (pad8 bs)) := HY4; have HGW : Hid (w1.heap.size < g ∧ w.heap.size ≤ g ∧ 0 < g) := Lib.hid (by have := HM2.out.lt; have := HG3.out; have := HB2.out.size; have := H0.out; omega); have HM4 := Lib.hid (HM3.out.over HG4.out (Nat.ne_of_lt HGW.out.1)); have HB4 := Lib.hid (below_grown HB3.out HG4.out HGW.out.2.1 HB3.out.size); have HPS := Lib.hid (fun w' (hg : w4.grownBy w' (some g)) => PS.over HO3.out (grown_trans HG4.out hg) (fun q hq e => by have := (HO1.out.lt q hq).2; have := HGW.out.1; omega)); have HL4 := Lib.hid (HL.out en a1 c1 g w4 (HT.out.keep HB4.out) HGW.out.2.2 HY4.out (HRI.out.keep HB4.out) HPS.out))
    | (refine wpl_load_img rfl (.tmp 11) rfl rfl HM4.out ?_)
    | (go_at_call 17; (with_reducible refine (HL4.out).mono ?_); rintro e w5 ⟨rfl, hy, hg⟩; have HY5 := Lib.hid hy; have HB5 := Lib.hid (below_grown HB4.out hg HGW.out.2.1 HB4.out.size); obtain ⟨t0, t1, t2, t3⟩ := (HM4.out.over hg (Nat.ne_of_lt HGW.out.1)).cells; clear hy hg))
  have HC5 := Lib.hid (show (World.drew w5).cell? ⟨w1.heap.size, 3, none⟩ = some (.int .i64 (en : Int)) from cell_keep (Below.refl _ _).drew t3)
  refine wp_region_held_drew (S := (fun w' => w'.cell? ⟨w1.heap.size, 3, none⟩ = some (.int .i64 (en : Int)))) (by kernel_rfl) HC5.out (fun hS => ?_)
  refine wpAnyH_take (i := 0) (oi := ({ dst := some 30, op := Op.move (Operand.tmp 13), type := 26, pos := "image.go:52", after := #[], guard := none } : Oper)) (v := ?_) rfl (by kernel_rfl) (by kernel_rfl) (by kernel_rfl) (fun _ _ _ h => h) (Or.inl ⟨by rfl, ?_⟩) hS ?_
  rotate_left
  · (intro w hSw; (try dsimp only at hSw); go_simp; try with_reducible rfl)
  (try simp only [Act.put, List.setIfInBounds_toArray, List.set_cons_zero, List.set_cons_succ])
  refine wpAnyH_take (i := 1) (oi := ({ dst := some 31, op := Op.fieldAddr 48 (Operand.tmp 11) 3, type := 0, pos := "image.go:52", after := #[{ on := 3, ground := Ground.gcOnly Departure.lateStores }], guard := none } : Oper)) (v := ?_) rfl (by kernel_rfl) (by kernel_rfl) (by kernel_rfl) (fun _ _ _ h => h) (Or.inl ⟨by rfl, ?_⟩) hS ?_
  rotate_left
  · (intro w hSw; (try dsimp only at hSw); go_simp; try with_reducible rfl)
  (try simp only [Act.put, List.setIfInBounds_toArray, List.set_cons_zero, List.set_cons_succ])
  refine wpAnyH_take (i := 2) (oi := ({ dst := some 32, op := Op.load 3 (Operand.tmp 31), type := 3, pos := "image.go:52", after := #[{ on := 1, ground := Ground.data }, { on := 3, ground := Ground.gcOnly Departure.lateStores }], guard := none } : Oper)) (v := ?_) rfl (by kernel_rfl) (by kernel_rfl) (by kernel_rfl) (fun _ _ _ h => h) (Or.inl ⟨by rfl, ?_⟩) hS ?_
  rotate_left
  · (intro w hSw; (try dsimp only at hSw); go_simp; try with_reducible rfl)
  (try simp only [Act.put, List.setIfInBounds_toArray, List.set_cons_zero, List.set_cons_succ])
  refine wpAnyH_take (i := 3) (oi := ({ dst := some 8, op := Op.assign (Operand.tmp 30), type := 26, pos := "image.go:52", after := #[{ on := 0, ground := Ground.data }, { on := 0, ground := Ground.phase }, { on := 1, ground := Ground.textOnly Departure.lateStores }, { on := 2, ground := Ground.textOnly Departure.lateStores }], guard := none } : Oper)) (v := ?_) rfl (by kernel_rfl) (by kernel_rfl) (by kernel_rfl) (fun _ _ _ h => h) (Or.inl ⟨by rfl, ?_⟩) hS ?_
  rotate_left
  · (intro w hSw; (try dsimp only at hSw); go_simp; try with_reducible rfl)
  (try simp only [Act.put, List.setIfInBounds_toArray, List.set_cons_zero, List.set_cons_succ])
  refine wpAnyH_take (i := 4) (oi := ({ dst := some 9, op := Op.assign (Operand.tmp 32), type := 3, pos := "image.go:52", after := #[{ on := 2, ground := Ground.data }, { on := 3, ground := Ground.chain }, { on := 0, ground := Ground.phase }, { on := 1, ground := Ground.phase }, { on := 2, ground := Ground.phase }, { on := 3, ground := Ground.phase }], guard := none } : Oper)) (v := ?_) rfl (by kernel_rfl) (by kernel_rfl) (by kernel_rfl) (fun _ _ _ h => h) (Or.inl ⟨by rfl, ?_⟩) hS ?_
  rotate_left
  · (intro w hSw; (try dsimp only at hSw); go_simp; try with_reducible rfl)
  (try simp only [Act.put, List.setIfInBounds_toArray, List.set_cons_zero, List.set_cons_succ])
  refine wpAnyH_take (i := 5) (oi := ({ dst := some 10, op := Op.assign (Operand.const (Value.bool true)), type := 4, pos := "image.go:52", after := #[{ on := 4, ground := Ground.chain }, { on := 0, ground := Ground.phase }, { on := 1, ground := Ground.phase }, { on := 2, ground := Ground.phase }, { on := 3, ground := Ground.phase }, { on := 4, ground := Ground.phase }], guard := none } : Oper)) (v := ?_) rfl (by kernel_rfl) (by kernel_rfl) (by kernel_rfl) (fun _ _ _ h => h) (Or.inl ⟨by rfl, ?_⟩) hS ?_
  rotate_left
  · (intro w hSw; (try dsimp only at hSw); go_simp; try with_reducible rfl)
  (try simp only [Act.put, List.setIfInBounds_toArray, List.set_cons_zero, List.set_cons_succ])
  refine wpAnyH_done (by kernel_rfl) ?_ _
  go_wp2
  go_ret3
  exact ⟨g, rfl, HY5.out.keep (Below.refl _ _).drew, HGW.out.2.1, HB5.out.drew⟩
end Go.Proofs.YtjlnceldnbpapaaDoor
