/-
  A SECTOR'S FIELDS (layer 18): what the program's number, get, read, sum answer. The table of half a byte's steps must lie in its block as start-up lays it.
-/
import Derived.Test.YtncnmmillhnhlaaDoorHeadBlk
import Derived.Test.YtncnmmillhnhlaaDoorPutGet
import Derived.Test.YtncnmmillhnhlaaDoorCrcCode
namespace Go.Proofs.YtncnmmillhnhlaaDoor
open Go.RowKit
theorem hword_put (x : Int) (n : Nat) (hn : n ≤ 8) (w : World) :
    Calls Tryd.prog 24 #[.int .u64 x, .int .i64 n] w fun e w' => e = .returned (.slice (some ⟨w.heap.size, 0, none⟩) n n) ∧ w'.ownsRow w.heap.size 5 1 (.slice (some ⟨w.heap.size, 0, none⟩) n n) n (il .u8 (putL x n)) ∧ Below w.heap.size w w' :=
  (put_any x n n (by unfold I63; omega) (by unfold clampI; omega) w).mono fun _ _ ⟨he, ho, hb⟩ => ⟨he, ho, hb⟩
theorem hword_get (b off len cap : Nat) (zs : List Int) (w : World) (hr : RI .u8 w (.slice (some ⟨b, off, none⟩) len cap) len zs) (hz : Bytes zs) (h0 : 0 < len) :
    Calls Tryd.prog 28 #[.slice (some ⟨b, off, none⟩) len cap] w fun e w' => e = .returned (.int .u64 (getI zs (min len 8))) ∧ w = w' := by
  obtain ⟨b2, off2, c2, e, _, _, hcell⟩ := hr.open_ h0
  simp only [Value.slice.injEq, Option.some.injEq, Addr.mk.injEq, and_true, true_and] at e
  obtain ⟨⟨rfl, rfl⟩, rfl⟩ := e
  exact get_some b off len cap zs w hz h0 hr.le hcell
/-- the number of so many bytes of a sector -/
theorem sec_get (g p n : Nat) (zs : List Int) (w : World) (hk : Blk w g zs) (hb : isB zs) (hp : p + n ≤ 64) (h0 : 0 < n) (h8 : n ≤ 8) {m : Int} (hm : num zs p n = m) :
    Calls Tryd.prog 28 #[.slice (some ⟨g, p, none⟩) n (64 - p)] w fun e w' => e = .returned (.int .u64 m) ∧ w = w' := by
  have h := hword_get g p n (64 - p) ((zs.drop p).take n) w (hk.ri p n (64 - p) hp (by omega) (by omega)) (bytes_of_mem ((hb.drop p).take n)) h0
  rw [Nat.min_eq_left h8, getI_take _ n n (Nat.le_refl _)] at h
  rw [← hm]; exact h
theorem number_any (n : Int) (h0 : 0 ≤ n) (h1 : n ≤ 2147483647) (w : World) :
    Calls Tryd.prog 25 #[.int .i64 n] w fun e w' => e = .returned (.slice (some ⟨w.heap.size, 0, none⟩) 4 4) ∧ w'.ownsRow w.heap.size 5 1 (.slice (some ⟨w.heap.size, 0, none⟩) 4 4) 4 (il .u8 (putL n 4)) ∧ Below w.heap.size w w' := by
  have HP : Hid (Calls Tryd.prog 24 #[.int .u64 n, .int .i64 4] w fun e w' => e = .returned (.slice (some ⟨w.heap.size, 0, none⟩) 4 4) ∧ w'.ownsRow w.heap.size 5 1 (.slice (some ⟨w.heap.size, 0, none⟩) 4 4) 4 (il .u8 (putL n 4)) ∧ Below w.heap.size w w') := Lib.hid (hword_put n 4 (by omega) w)
  go_enter Tryd.func25, Tryd.ntmps25
  go_wp2_with (first
    | (go_at_call 24; (with_reducible refine (HP.out).mono ?_); rintro e w1 ⟨rfl, ho, hb⟩; have HO := Lib.hid ho; have HB := Lib.hid hb; clear ho hb))
  go_ret
  exact ⟨rfl, HO.out, HB.out⟩
set_option maxRecDepth 8000 in
set_option maxHeartbeats 1000000 in
theorem hget_any (zs : List Int) (hl : zs.length = 64) (hb : isB zs) (p : Nat) (hp : p + 4 ≤ 64) (w : World) {m : Int} (hm : num zs p 4 = m) :
    Calls Tryd.prog 29 #[.agg (sv zs), .int .i64 p] w fun e w' => e = .returned (.int .i64 m) ∧ Below w.heap.size w w' := by
  have hbd := num_bd hb p 4
  rw [hm] at hbd
  have hbd1 : 0 ≤ m ∧ m < 4294967296 := by omega
  obtain ⟨w0, hw0⟩ : ∃ q, w.alloc (.cells (sv zs) 27) = q := ⟨_, rfl⟩
  have hk0 : Blk w0 w.heap.size zs := by rw [← hw0]; exact Blk.new w zs hl
  have HW := Lib.hid (show Below w.heap.size w w0 from by rw [← hw0]; exact below_alloc w _)
  have HG := Lib.hid (sec_get w.heap.size p 4 zs w0 hk0 hb hp (by omega) (by omega) hm)
  obtain ⟨q, hq⟩ : ∃ q, 64 - p = q := ⟨_, rfl⟩
  rw [hq] at HG
  have hp2 : (p : Int) ≤ 60 := by omega
  obtain ⟨t, ht⟩ : ∃ t : Nat, (p : Int) + 4 = (t : Int) := ⟨p + 4, by omega⟩
  have hp3 : (t : Int) ≤ 64 := by omega
  have hp4 : (p : Int) ≤ (t : Int) := by omega
  have hp5 : t - p = 4 := by omega
  have hp6 : ¬ 64 = p := by omega
  clear hbd hb hl hm hk0
  go_enter Tryd.func29, Tryd.ntmps29
  go_wp2_with (first
    | (go_at_call 28; (with_reducible refine (HG.out).mono ?_); rintro e w' ⟨rfl, rfl⟩))
  go_ret
  exact ⟨rfl, HW.out⟩
/-- the sum's bytes -/
theorem hsum_any {w : World} (hT : Tab w) (zs : List Int) (hl : zs.length = 64) (hb : isB zs) {m : Nat} (hm : maskS (ofS (zs.take 37)) = m) :
    Calls Tryd.prog 17 #[.agg (sv zs)] w fun e w' => ∃ p, e = .returned (.slice (some ⟨p, 0, none⟩) 4 4) ∧ w'.ownsRow w.heap.size 5 1 (.slice (some ⟨p, 0, none⟩) 4 4) 4 (il .u8 (putL m 4)) ∧ Below w.heap.size w w' := by
  obtain ⟨w0, hw0⟩ : ∃ q, w.alloc (.cells (sv zs) 27) = q := ⟨_, rfl⟩
  have hk0 : Blk w0 w.heap.size zs := by rw [← hw0]; exact Blk.new w zs hl
  have hb0 : Below w.heap.size w w0 := by rw [← hw0]; exact below_alloc w _
  have HW := Lib.hid hb0
  obtain ⟨o, ho⟩ : ∃ o, ofS (zs.take 37) = o := ⟨_, rfl⟩
  rw [ho] at hm
  have hr := hk0.ri 0 37 64 (by omega) (by omega) (by omega)
  rw [List.drop_zero] at hr
  have HO : Hid (Calls Tryd.prog 27 #[.slice (some ⟨w.heap.size, 0, none⟩) 37 64] w0 fun e w' => e = .returned (.int .u32 o) ∧ w0 = w') := Lib.hid (of_any (hT.keep hb0) hr (hb.take 37) ho)
  have HK : Hid (∀ w, Calls Tryd.prog 26 #[.int .u32 o] w fun e w' => e = .returned (.int .u32 m) ∧ w = w') := Lib.hid fun w => mask_any o m (by rw [← ho]; exact ofS_lt _) hm w
  have hm9 : (m : Int) ≤ 4294967295 := by have := maskS_lt o; omega
  have HP : Hid (∀ w, Calls Tryd.prog 24 #[.int .u64 m, .int .i64 4] w fun e w' => e = .returned (.slice (some ⟨w.heap.size, 0, none⟩) 4 4) ∧ w'.ownsRow w.heap.size 5 1 (.slice (some ⟨w.heap.size, 0, none⟩) 4 4) 4 (il .u8 (putL m 4)) ∧ Below w.heap.size w w') := Lib.hid (hword_put m 4 (by omega))
  clear hT hb hl hm ho hr hk0 hb0
  go_enter Tryd.func17, Tryd.ntmps17
  go_wp2_with (first
    | (go_at_call 27; (with_reducible refine (HO.out).mono ?_); rintro e w' ⟨rfl, rfl⟩)
    | (go_at_call 26; (with_reducible refine (HK.out _).mono ?_); rintro e w' ⟨rfl, rfl⟩)
    | (go_at_call 24; (with_reducible refine (HP.out _).mono ?_); rintro e w2 ⟨rfl, ho2, hb2⟩; have HO2 := Lib.hid ho2; have HB2 := Lib.hid hb2; clear ho2 hb2))
  go_ret
  exact ⟨_, rfl, own_mono HO2.out HW.out.size, bch HW.out HB2.out⟩
end Go.Proofs.YtncnmmillhnhlaaDoor
