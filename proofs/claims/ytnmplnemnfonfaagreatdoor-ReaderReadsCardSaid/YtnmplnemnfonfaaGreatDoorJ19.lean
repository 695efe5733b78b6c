/-
  TEXTS JOINED: StampEmpty, ScanRest, ScanScan, ScanAll, RdAny, HeadMath, NameMath. Each one's own words stand at its head.
-/
import Derived.Test.YtnmplnemnfonfaaGreatDoorJ0
import Derived.Test.YtnmplnemnfonfaaGreatDoorJ15
import Derived.Test.YtnmplnemnfonfaaGreatDoorJ14
import Derived.Test.YtnmplnemnfonfaaGreatDoorJ5
import Derived.Lib.SliceRun
import Derived.Test.YtnmplnemnfonfaaGreatDoorJ18
import Derived.Test.YtnmplnemnfonfaaGreatDoorJ16
import Derived.Test.YtnmplnemnfonfaaGreatDoorJ17
import Derived.Test.YtnmplnemnfonfaaGreatDoorJ12
import Derived.Test.YtnmplnemnfonfaaGreatDoorJ3
import Derived.Lib.AtoiTie
import Derived.Lib.AtoiAllCases
import Derived.Lib.ItoaLen
import Derived.Lib.ItoaMem
import Derived.Lib.Bytealg
import Derived.Lib.Strings
namespace Go.Proofs.YtnmplnemnfonfaaGreatDoor
open Go.RowKit
set_option maxRecDepth 8000 in
theorem empty_any (l : List Int) (hl : l.length = 64) (w : World) :
    Calls Tryz.prog 78 #[.agg (sv l)] w fun e w' => e = .returned (.bool (decide (l = z64))) ∧ Below w.heap.size w w' := by
  obtain ⟨z, hz⟩ : ∃ z, decide (l = z64) = z := ⟨_, rfl⟩
  have HQ := Lib.hid (run_eq_sec l z64 hl z64_length)
  rw [hz] at HQ
  rw [hz]
  have HK0 := Lib.hid (Blk.new w l hl)
  have HZ := Lib.hid z64_cells
  have hq := HQ.out (w.alloc (.cells (sv l) 92))
  rw [HZ.out] at hq
  clear hl hz
  go_enter Tryz.func78, Tryz.ntmps78
  go_wp2_with (first
    | (refine wpl_load_sec (by rfl) _ rfl w.heap.size rfl l HK0.out ?_))
  go_ret
  exact ⟨rfl, below_alloc _ _⟩
end Go.Proofs.YtnmplnemnfonfaaGreatDoor
namespace Go.Proofs.YtnmplnemnfonfaaGreatDoor
open Go.RowKit
theorem rest_step {fs : List Int} {e i : Nat} (h : ∀ j, j < i → restS fs e j = true) (hz : restS fs e i = true) : ∀ j, j < i + 1 → restS fs e j = true := fun j hj => by
  by_cases ej : j = i
  · rw [ej]; exact hz
  · exact h j (by omega)
theorem u8_zero (w : World) : (zeroValue 5).run Tryz.prog w = .ok (.int .u8 0) w := by
  obtain ⟨i, hi, hz0, _, _⟩ := info_parts Tryz.info_u8
  simp [zeroValue, typeInfo, hi, hz0]
theorem wpl_clear_sec {ops : Array Oper} {rest : List Oper} {o : Oper} {a : Act} {w : World} {Q : Exit → Act → World → Prop} (hgd : o.guard = none) (d : Operand)
    (ho : o.op = .call { callee := .builtin .clear, args := #[d], argTypes := #[49] }) (g m c : Nat) (l : List Int) (hk : Blk w g l) (hd : a.eval d = .slice (some ⟨g, 0, none⟩) m c) (h0 : 0 < m) (hm : m ≤ 64)
    (h : ∀ w' v, Hid (Blk w' g (cleared l m)) → Hid (w.grownBy w' (some g)) → wpList Tryz.prog ops Q rest (a.put o.dst v) w') : wpList Tryz.prog ops Q (o :: rest) a w := by
  refine wpList_plain hgd fun K hK => ?_
  have hrun := Lib.run_clear_slice (P := Tryz.prog) w 49 5 o.type (.int .u8 0) Tryz.underlying49 u8_zero rfl rfl g 0 m c h0 (fun j hj => by rw [Nat.zero_add, hk.cell j (by omega)]; rfl) (fun j hj => by rw [Nat.zero_add]; exact hk.frozen j)
  have hc : (w.setCells g 0 (List.replicate m (.int .u8 0))).heap[g]? = some (.cells (sv (cleared l m)) 92 (0, 0)) := by
    have h1 := heap_setCells g 92 (0, 0) (List.replicate m (.int .u8 0)) 0 w (il .u8 l) (by rw [List.length_replicate, il_length, hk.2]; omega) hk.1
    have e : splice (il .u8 l) 0 (List.replicate m (Value.int .u8 0)) = il .u8 (cleared l m) := by
      unfold cleared splice il
      simp only [List.map_append, List.map_take, List.map_drop, List.map_replicate, List.length_replicate]
    rw [h1, e]
    rfl
  unfold Oper.wp
  simp [execOp, ho, resolve, invoke, builtin, hd, hrun, Result.andThen]
  exact hK _ _ (h _ _ ⟨hc, cleared_length _ hk.2 _ hm⟩ (grown_setCells g _ 0 w))
set_option maxRecDepth 8000 in
set_option maxHeartbeats 4000000 in
theorem rest_any (v : Value) (n : Nat) (fs : List Int) (x : Int) (hx : I63 x) (w : World) (h : FS w v n fs) :
    Calls Tryz.prog 54 #[v, .int .i64 x] w fun r w' => r = .returned (.bool (restB n fs (nr x))) ∧ Below w.heap.size w w' := by
  have hle := nr_le x
  have HW : Hid (∀ w, Calls Tryz.prog 77 #[.int .i64 x] w fun e w' => e = .returned (.agg #[.int .i64 ((nr x / 52 : Nat) : Int), .int .i64 ((nr x % 52 : Nat) : Int)]) ∧ Below w.heap.size w w') := Lib.hid fun w => where_any x hx w
  obtain ⟨e, he⟩ : ∃ e, nr x = e := ⟨_, rfl⟩
  rw [he] at HW hle ⊢
  obtain ⟨q, hq⟩ : ∃ q, e / 52 = q := ⟨_, rfl⟩
  obtain ⟨o, ho⟩ : ∃ o, e % 52 = o := ⟨_, rfl⟩
  rw [hq, ho] at HW
  have hfl := h.length
  obtain ⟨ad, cap, rfl, _, hc1, hc2, _⟩ := id h
  have HH := Lib.hid h
  have HFL := Lib.hid hfl
  obtain ⟨m, hm⟩ : ∃ m, min n 16 = m := ⟨_, rfl⟩
  have hmi : (if (16 : Int) < (n : Int) then (16 : Int) else (n : Int)) = (m : Int) := by split <;> omega
  have HM := Lib.hid hm
  have HQ := Lib.hid hq
  have HO := Lib.hid ho
  have ho51 : o ≤ 51 := by omega
  have hq16 : q ≤ 16 := by omega
  obtain ⟨t, ht⟩ : ∃ t : Nat, 12 + o = t := ⟨_, rfl⟩
  have htI : (12 : Int) + (o : Int) = (t : Int) := by omega
  have htb : (t : Int) ≤ 64 := by omega
  have HT := Lib.hid ht
  have hwz := Lib.hid (Nat.le_refl w.heap.size)
  clear h hx hfl hm hq ho he ht
  go_enter Tryz.func54, Tryz.ntmps54
  go_wp2_with (first
    | (go_at_call 77; (with_reducible refine (HW.out _).mono ?_); rintro r w1 ⟨rfl, hb⟩; have HB1 := Lib.hid hb; clear hb))
  obtain ⟨w2, hw2⟩ : ∃ q', w1.alloc (.cells #[.int .i64 (q : Int), .int .i64 (o : Int)] 148) = q' := ⟨_, rfl⟩
  rw [hw2]
  have HB2 : Hid (Below w.heap.size w w2) := Lib.hid (by rw [← hw2]; exact bch HB1.out (balloc w1 _))
  have HC2 : Hid (w2.cell? ⟨w1.heap.size, 0, none⟩ = some (.int .i64 (q : Int)) ∧ w2.cell? ⟨w1.heap.size, 1, none⟩ = some (.int .i64 (o : Int))) := Lib.hid ⟨cell_of_row w2 w1.heap.size 0 _ _ _ (by rw [← hw2]; exact heap_alloc_last w1 _), cell_of_row w2 w1.heap.size 1 _ _ _ (by rw [← hw2]; exact heap_alloc_last w1 _)⟩
  obtain ⟨sb, hsb⟩ : ∃ g, w1.heap.size = g := ⟨_, rfl⟩
  rw [hsb] at HC2
  rw [hsb]
  clear hw2 hsb HW HB1
  go_loopw [6] (fun iv wr => ∃ i : Nat, iv = .int .i64 i ∧ q ≤ i ∧ i ≤ 16 ∧ Hid (∀ j, j < i → restS fs e j = true) ∧ Hid (Below w2.heap.size w2 wr)) (fun iv _ => 16 - (intOf iv).toNat)
  case atStart => exact ⟨q, rfl, by omega, hq16, Lib.hid (fun j hj => restS_ahead (by rw [HQ.out]; exact hj)), Lib.hid (Below.refl _ _)⟩
  case round =>
    obtain ⟨i, rfl, hqi, hi16, HR, HB⟩ := hrel
    by_cases hlt : (i : Int) < (m : Int)
    · have hin : i < n ∧ i < 16 := by have := HM.out; omega
      obtain ⟨b, off, rfl, hat⟩ := ((HH.out.keep HB2.out).keep HB.out).at_ i hin.1
      obtain ⟨l, hsl⟩ : ∃ l, secOf fs i = l := ⟨_, rfl⟩
      have hat : At wr b (off + i * 64) l := by rw [← hsl]; exact hat
      have HAT := Lib.hid hat
      have HSL : Hid (l.length = 64) := Lib.hid (by rw [← hsl]; exact secOf_length fs n i HFL.out hin.1)
      have HC3 : Hid (∀ w', Below w2.heap.size w2 w' → w'.cell? ⟨sb, 0, none⟩ = some (.int .i64 (q : Int)) ∧ w'.cell? ⟨sb, 1, none⟩ = some (.int .i64 (o : Int))) := Lib.hid fun w' h => ⟨cell_keep h HC2.out.1, cell_keep h HC2.out.2⟩
      have HWR : Hid (w2.heap.size ≤ wr.heap.size) := Lib.hid HB.out.size
      have HT64 : Hid (t ≤ 64) := Lib.hid (by omega)
      have HT0 : Hid (0 < t) := Lib.hid (by omega)
      clear hat
      rcases (by omega : ((i : Int) = (q : Int) ∧ (0 : Int) < (o : Int)) ∨ ((i : Int) = (q : Int) ∧ ¬ (0 : Int) < (o : Int)) ∨ ¬ (i : Int) = (q : Int)) with ⟨h1, h2⟩ | ⟨h1, h2⟩ | h1
      · skip
        obtain rfl : i = q := by omega
        clear h1
        obtain ⟨L, hL⟩ : ∃ L, cleared l t = L := ⟨_, rfl⟩
        have HLL : Hid (L.length = 64) := Lib.hid (by rw [← hL]; exact cleared_length _ HSL.out _ HT64.out)
        have hy : restS fs e i = decide (L = z64) := by rw [← hL, ← hsl, ← HT.out, ← HO.out]; exact restS_mid HFL.out (by omega) (by have := HQ.out; omega) (by have := HO.out; omega)
        have HLQ := Lib.hid hL
        have HE0 := fun w => empty_any L HLL.out w
        rw [← hy] at HE0
        have hno := fun z => restB_no (n := n) (fs := fs) (e := e) (i := i) (by omega) (by omega) z
        cases hz : restS fs e i with
        | true =>
          rw [hz] at HE0
          have HE := Lib.hid HE0
          have HNX : Hid (∀ j, j < i + 1 → restS fs e j = true) := Lib.hid (rest_step HR.out hz)
          clear hno HE0 hy hz hsl hL
          go_wp2_with (first
            | (refine wpl_load_at rfl _ rfl b _ rfl _ HAT.out ?_)
            | (refine wpl_store_new rfl (.tmp 7) (.tmp 22) rfl rfl wr.heap.size rfl l HSL.out rfl rfl wr (Below.refl _ _) ?_; intro w3 HK3 HB3 _; have HB3 := Lib.hid (bch HB.out HB3.out); obtain ⟨y03, y13⟩ := HC3.out _ HB3.out)
            | (refine wpl_clear_sec rfl (.tmp 35) rfl wr.heap.size t 64 l HK3.out rfl HT0.out HT64.out ?_; intro w4 v4 HK4 HG4; rw [HLQ.out] at HK4; have HB4 := Lib.hid (HB3.out.grown HG4.out HB3.out.size (fun q' hq' => by cases hq'; exact HWR.out)))
            | (refine wpl_load_sec (by rfl) (.tmp 7) rfl wr.heap.size rfl L HK4.out ?_)
            | (go_at_call 78; (with_reducible refine (HE.out _).mono ?_); rintro r w5 ⟨rfl, hb⟩; have HB5 := Lib.hid (bch HB4.out hb); clear hb))
          go_roundw
          case rel => exact ⟨i + 1, by go_num, by omega, by omega, HNX, HB5⟩
          case measure => simp [intOf]; omega
        | false =>
          rw [hz] at HE0
          have HE := Lib.hid HE0
          have HNO := Lib.hid (hno hz)
          clear hno HE0 hy hz hsl hL
          go_wp2_with (first
            | (refine wpl_load_at rfl _ rfl b _ rfl _ HAT.out ?_)
            | (refine wpl_store_new rfl (.tmp 7) (.tmp 22) rfl rfl wr.heap.size rfl l HSL.out rfl rfl wr (Below.refl _ _) ?_; intro w3 HK3 HB3 _; have HB3 := Lib.hid (bch HB.out HB3.out); obtain ⟨y03, y13⟩ := HC3.out _ HB3.out)
            | (refine wpl_clear_sec rfl (.tmp 35) rfl wr.heap.size t 64 l HK3.out rfl HT0.out HT64.out ?_; intro w4 v4 HK4 HG4; rw [HLQ.out] at HK4; have HB4 := Lib.hid (HB3.out.grown HG4.out HB3.out.size (fun q' hq' => by cases hq'; exact HWR.out)))
            | (refine wpl_load_sec (by rfl) (.tmp 7) rfl wr.heap.size rfl L HK4.out ?_)
            | (go_at_call 78; (with_reducible refine (HE.out _).mono ?_); rintro r w5 ⟨rfl, hb⟩; have HB5 := Lib.hid (bch HB4.out hb); clear hb))
          (first | go_ret2 | go_ret3 | go_ret)
          exact ⟨ret_bool HNO.out.symm, bch HB2.out HB5.out⟩
      · skip
        obtain rfl : i = q := by omega
        clear h1
        obtain ⟨L, hL⟩ : ∃ L, l = L := ⟨_, rfl⟩
        subst hL
        have HLL := HSL
        have hy : restS fs e i = decide (l = z64) := by rw [← hsl]; exact restS_behind HFL.out (by omega) (by have := HQ.out; have := HO.out; omega)
        have HE0 := fun w => empty_any l HLL.out w
        rw [← hy] at HE0
        have hno := fun z => restB_no (n := n) (fs := fs) (e := e) (i := i) (by omega) (by omega) z
        cases hz : restS fs e i with
        | true =>
          rw [hz] at HE0
          have HE := Lib.hid HE0
          have HNX : Hid (∀ j, j < i + 1 → restS fs e j = true) := Lib.hid (rest_step HR.out hz)
          clear hno HE0 hy hz hsl
          go_wp2_with (first
            | (refine wpl_load_at rfl _ rfl b _ rfl _ HAT.out ?_)
            | (refine wpl_store_new rfl (.tmp 7) (.tmp 22) rfl rfl wr.heap.size rfl l HSL.out rfl rfl wr (Below.refl _ _) ?_; intro w3 HK3 HB3 _; have HB3 := Lib.hid (bch HB.out HB3.out); obtain ⟨y03, y13⟩ := HC3.out _ HB3.out)
            | (refine wpl_load_sec (by rfl) (.tmp 7) rfl wr.heap.size rfl l HK3.out ?_)
            | (go_at_call 78; (with_reducible refine (HE.out _).mono ?_); rintro r w5 ⟨rfl, hb⟩; have HB5 := Lib.hid (bch HB3.out hb); clear hb))
          go_roundw
          case rel => exact ⟨i + 1, by go_num, by omega, by omega, HNX, HB5⟩
          case measure => simp [intOf]; omega
        | false =>
          rw [hz] at HE0
          have HE := Lib.hid HE0
          have HNO := Lib.hid (hno hz)
          clear hno HE0 hy hz hsl
          go_wp2_with (first
            | (refine wpl_load_at rfl _ rfl b _ rfl _ HAT.out ?_)
            | (refine wpl_store_new rfl (.tmp 7) (.tmp 22) rfl rfl wr.heap.size rfl l HSL.out rfl rfl wr (Below.refl _ _) ?_; intro w3 HK3 HB3 _; have HB3 := Lib.hid (bch HB.out HB3.out); obtain ⟨y03, y13⟩ := HC3.out _ HB3.out)
            | (refine wpl_load_sec (by rfl) (.tmp 7) rfl wr.heap.size rfl l HK3.out ?_)
            | (go_at_call 78; (with_reducible refine (HE.out _).mono ?_); rintro r w5 ⟨rfl, hb⟩; have HB5 := Lib.hid (bch HB3.out hb); clear hb))
          (first | go_ret2 | go_ret3 | go_ret)
          exact ⟨ret_bool HNO.out.symm, bch HB2.out HB5.out⟩
      · skip
        obtain ⟨L, hL⟩ : ∃ L, l = L := ⟨_, rfl⟩
        subst hL
        have HLL := HSL
        have hy : restS fs e i = decide (l = z64) := by rw [← hsl]; exact restS_behind HFL.out (by omega) (by have := HQ.out; have := HO.out; omega)
        have HE0 := fun w => empty_any l HLL.out w
        rw [← hy] at HE0
        have hno := fun z => restB_no (n := n) (fs := fs) (e := e) (i := i) (by omega) (by omega) z
        cases hz : restS fs e i with
        | true =>
          rw [hz] at HE0
          have HE := Lib.hid HE0
          have HNX : Hid (∀ j, j < i + 1 → restS fs e j = true) := Lib.hid (rest_step HR.out hz)
          clear hno HE0 hy hz hsl
          go_wp2_with (first
            | (refine wpl_load_at rfl _ rfl b _ rfl _ HAT.out ?_)
            | (refine wpl_store_new rfl (.tmp 7) (.tmp 22) rfl rfl wr.heap.size rfl l HSL.out rfl rfl wr (Below.refl _ _) ?_; intro w3 HK3 HB3 _; have HB3 := Lib.hid (bch HB.out HB3.out); obtain ⟨y03, y13⟩ := HC3.out _ HB3.out)
            | (refine wpl_load_sec (by rfl) (.tmp 7) rfl wr.heap.size rfl l HK3.out ?_)
            | (go_at_call 78; (with_reducible refine (HE.out _).mono ?_); rintro r w5 ⟨rfl, hb⟩; have HB5 := Lib.hid (bch HB3.out hb); clear hb))
          go_roundw
          case rel => exact ⟨i + 1, by go_num, by omega, by omega, HNX, HB5⟩
          case measure => simp [intOf]; omega
        | false =>
          rw [hz] at HE0
          have HE := Lib.hid HE0
          have HNO := Lib.hid (hno hz)
          clear hno HE0 hy hz hsl
          go_wp2_with (first
            | (refine wpl_load_at rfl _ rfl b _ rfl _ HAT.out ?_)
            | (refine wpl_store_new rfl (.tmp 7) (.tmp 22) rfl rfl wr.heap.size rfl l HSL.out rfl rfl wr (Below.refl _ _) ?_; intro w3 HK3 HB3 _; have HB3 := Lib.hid (bch HB.out HB3.out); obtain ⟨y03, y13⟩ := HC3.out _ HB3.out)
            | (refine wpl_load_sec (by rfl) (.tmp 7) rfl wr.heap.size rfl l HK3.out ?_)
            | (go_at_call 78; (with_reducible refine (HE.out _).mono ?_); rintro r w5 ⟨rfl, hb⟩; have HB5 := Lib.hid (bch HB3.out hb); clear hb))
          (first | go_ret2 | go_ret3 | go_ret)
          exact ⟨ret_bool HNO.out.symm, bch HB2.out HB5.out⟩
    · have hall : restB n fs e = true := restB_yes fun j h1 h2 => HR.out j (by have := HM.out; omega)
      have HALL := Lib.hid hall
      clear hall
      go_wp2
      go_ret
      exact ⟨ret_bool HALL.out.symm, bch HB2.out HB.out⟩
end Go.Proofs.YtnmplnemnfonfaaGreatDoor
namespace Go.Proofs.YtnmplnemnfonfaaGreatDoor
open Go.RowKit
theorem scan_mf_run (fn : Fn) (first cap : Array Value) (w : World) : (Instr.makeFunc fn first cap).run Tryz.prog w = .ok (.func fn first cap) w := rfl
theorem wrap_u32 (x : Int) : IntKind.u32.wrap x = x % 4294967296 := by simp [IntKind.wrap, IntKind.signed, IntKind.bits]
def atC : Option Value → Nat
  | some (.int _ n) => 832 - n.toNat
  | _ => 0
set_option maxRecDepth 8000 in
theorem step_eg : ∀ args w, (callFunc 53 args).run Tryz.prog w = .ok (.enter 53 args) w := fun _ _ => by kernel_rfl
set_option maxRecDepth 8000 in
set_option maxHeartbeats 4000000 in
theorem goon_any {W w : World} {sb jb : Nat} {ep : Int} {bv kv : Value} {B : List Int} {K : List Bool} (hx : SX W w sb jb ep bv kv sc0) (hT : Tab W) (hB : B.length = 832) (hBb : isB B) (hbv : RI .u8 W bv 832 B) (hk : BS W kv 16 K) :
    Calls Tryz.prog 52 #[.func (.func 53) #[.pointer (some ⟨sb, 0, none⟩)] #[]] w fun r w' => r = .returned (.tuple #[]) ∧
      ∃ t, SX W w' sb jb ep bv kv t ∧ t.recs = (scEnd ep B K).recs ∧ t.places = (scEnd ep B K).places ∧ t.fin = (scEnd ep B K).fin := by
  have HX := Lib.hid hx
  have HST : ∀ (s : SS) (w : World), s.Ok → SX W w sb jb ep bv kv s → Calls Tryz.prog 53 #[.pointer (some ⟨sb, 0, none⟩)] w (StepT ep B K W sb jb bv kv s) := fun s w h1 h2 => step_scan s h1 h2 hT hB hBb hbv hk
  have HON : ∀ s t, OnWay ep B K s → scNext ep B K s = some t → OnWay ep B K t := fun s t h1 h2 => h1.next hB h2
  have HNX : ∀ s t, s.Ok → scNext ep B K s = some t → s.at_ + 11 ≤ t.at_ ∧ t.at_ ≤ 832 := fun s t h1 h2 => ⟨(scNext_ok hB h1 h2).2, (scNext_ok hB h1 h2).1.at_⟩
  have HST := Lib.hid HST
  have HON := Lib.hid HON
  have HNX := Lib.hid HNX
  clear hx hT hB hBb hbv hk
  have eg := step_eg
  obtain ⟨fn, hfn⟩ : ∃ fn, 53 = fn := ⟨_, rfl⟩
  rw [hfn] at HST eg ⊢
  clear hfn
  go_enter Tryz.func52, Tryz.ntmps52
  go_wp2
  go_loopw [] (fun wr => ∃ s, Hid (SX W wr sb jb ep bv kv s) ∧ Hid (OnWay ep B K s)) (fun wr => atC (wr.cell? ⟨sb, 4, none⟩))
  case atStart => exact ⟨sc0, HX, Lib.hid onway_0⟩
  case round =>
    obtain ⟨s, HS, HO⟩ := hrel
    have HME : Hid (atC (wr.cell? ⟨sb, 4, none⟩) = 832 - s.at_ ∧ s.at_ ≤ 832) := Lib.hid (by
      obtain ⟨hv, rv, es, pv, hc, _⟩ := HS.out
      refine ⟨?_, HO.out.1.at_⟩
      rw [hc.blk.cells.2.2.2.2.1]
      simp [atC])
    have HC := Lib.hid (HST.out s wr HO.out.1 HS.out)
    cases hn : scNext ep B K s with
    | some t =>
      have HC1 : Hid (Calls Tryz.prog fn #[.pointer (some ⟨sb, 0, none⟩)] wr fun r w' => r = .returned (.bool true) ∧ SX W w' sb jb ep bv kv t) := Lib.hid (HC.out.mono fun r w' h => by
        rcases h with ⟨t', h1, h2, h3⟩ | ⟨h1, _⟩
        · rw [hn] at h1; obtain rfl := Option.some.inj h1; exact ⟨h2, h3⟩
        · rw [hn] at h1; cases h1)
      have HON1 := Lib.hid (HON.out s t HO.out hn)
      have HNX1 := Lib.hid (HNX.out s t HO.out.1 hn)
      clear hn HC
      go_wp2_with (first
        | (with_reducible refine HC1.out.mono ?_; rintro r w1 ⟨rfl, hs1⟩; have HS1 := Lib.hid hs1; clear hs1))
      go_roundw
      case rel => exact ⟨t, HS1, HON1⟩
      case measure =>
        obtain ⟨hv, rv, es, pv, hc, _⟩ := HS1.out
        have h1 := HME.out
        have h2 := HNX1.out
        rw [h1.1, hc.blk.cells.2.2.2.2.1]
        simp only [atC, Int.toNat_natCast]
        omega
    | none =>
      have HC1 : Hid (Calls Tryz.prog fn #[.pointer (some ⟨sb, 0, none⟩)] wr fun r w' => r = .returned (.bool false) ∧ ∃ t, SX W w' sb jb ep bv kv t ∧ t.recs = s.recs ∧ t.places = s.places ∧ t.fin = s.fin) := Lib.hid (HC.out.mono fun r w' h => by
        rcases h with ⟨t', h1, h2, h3⟩ | ⟨_, h1, h2⟩
        · rw [hn] at h1; cases h1
        · exact ⟨h1, h2⟩)
      have HEQ := Lib.hid (HO.out.stop hn)
      clear hn HC
      go_wp2_with (first
        | (with_reducible refine HC1.out.mono ?_; rintro r w1 ⟨rfl, hs1⟩; have HS1 := Lib.hid hs1; clear hs1))
      go_end0
      obtain ⟨t, h1, h2, h3, h4⟩ := HS1.out
      exact ⟨rfl, t, h1, by rw [h2, HEQ.out], by rw [h3, HEQ.out], by rw [h4, HEQ.out]⟩
set_option maxRecDepth 8000 in
set_option maxHeartbeats 4000000 in
theorem newscan_any (x : Int) (hx : U64 x) (v : Value) (n : Nat) (fs : List Int) (hbf : Bytes fs) (w : World) (h : FS w v n fs) :
    Calls Tryz.prog 51 #[.int .u64 x, v] w fun r w' => ∃ W sb jb bv kv, r = .returned (.pointer (some ⟨sb, 0, none⟩)) ∧ Below w.heap.size w W ∧ RI .u8 W bv 832 (flatB x n fs 16) ∧ BS W kv 16 (flatK x n fs 16) ∧ SX W w' sb jb (x % 4294967296) bv kv sc0 := by
  have HF := Lib.hid (flat_any x hx v n fs hbf w h)
  obtain ⟨va, vc, rfl⟩ : ∃ a c, v = .slice a n c := by obtain ⟨a, c, e, _⟩ := h; exact ⟨a, c, e⟩
  obtain ⟨B, hB⟩ : ∃ B, flatB x n fs 16 = B := ⟨_, rfl⟩
  obtain ⟨K, hK⟩ : ∃ K, flatK x n fs 16 = K := ⟨_, rfl⟩
  rw [hB, hK] at HF
  rw [hB, hK]
  have hw := wrap_u32 x
  obtain ⟨e, he⟩ : ∃ e, x % 4294967296 = e := ⟨_, rfl⟩
  rw [he] at hw ⊢
  clear hx hbf h hB hK he
  go_enter Tryz.func51, Tryz.ntmps51
  go_wp2_with (first
    | (go_at_call 65; (with_reducible refine HF.out.mono ?_); rintro r w1 ⟨g1, g2, rfl, hb, hk, hbl⟩; have HBV := Lib.hid hb; have HKV := Lib.hid hk; have HB1 := Lib.hid hbl; clear hb hk hbl)
    | (go_at_call 37; (with_reducible refine (new_any _).mono ?_); rintro r w2 ⟨rfl, hj, hb⟩; have HJ2 := Lib.hid hj; have HB2 := Lib.hid hb; clear hj hb))
  go_ret
  have hb3 := balloc w2 (.cells (sA e (.slice (some ⟨g1, 0, none⟩) 832 832) (.slice (some ⟨g2, 0, none⟩) 16 16) w1.heap.size 0 0 (.slice none 0 0) (.slice none 0 0) 0 0) 115)
  exact ⟨w1, w2.heap.size, w1.heap.size, _, _, rfl, HB1.out, HBV.out, HKV.out, .slice none 0 0, .slice none 0 0, [], .slice none 0 0,
    ⟨heap_alloc_last w2 _, HB2.out.size, HJ2.out.keep hb3, SR.nil _ _ _, World.ownsRow_nil _ _ _ _, bch HB2.out hb3⟩, rfl⟩
end Go.Proofs.YtnmplnemnfonfaaGreatDoor
namespace Go.Proofs.YtnmplnemnfonfaaGreatDoor
open Go.RowKit
theorem flatB_bytes (x : Int) (n : Nat) (fs : List Int) (h : isB fs) : ∀ k, isB (flatB x n fs k)
  | 0 => isB.nil
  | k + 1 => by
    have ih := flatB_bytes x n fs h k
    have hr : isB (roomAt x n fs k) := by
      unfold roomAt
      split
      · exact ((h.drop _).take _).drop _
      · intro y hy; have := List.eq_of_mem_replicate hy; omega
    unfold flatB
    exact ih.append hr
abbrev tA (rv pv : Value) (e k : Int) : Array Value := #[rv, pv, .int .i64 e, .int .i64 k]
structure SD (W w : World) (sb jb : Nat) (ep : Int) (bv kv : Value) (a b e : Nat) (k : Int) (rv : Value) (es : List (List Int × Value)) (pv : Value) (ps : List Int) : Prop where
  blk : SO w sb ep bv kv jb a b rv pv e k
  low : W.heap.size ≤ sb
  recs : SR W.heap.size w rv es.length es (.slice none 0 0)
  places : w.ownsRow W.heap.size 3 1 pv ps.length (il .i64 ps)
  below : Below W.heap.size W w
section
variable {W w w' : World} {sb jb : Nat} {ep : Int} {bv kv : Value} {a b e : Nat} {k : Int} {o : Bool} {h : List Int} {hv rv pv : Value} {es : List (List Int × Value)} {ps : List Int}
theorem SC.sd (c : SC W w sb jb ep bv kv a b e o h hv rv es pv ps) : SD W w sb jb ep bv kv a b e 0 rv es pv ps :=
  ⟨c.blk, c.low, ⟨c.recs.row, c.recs.data, fun _ _ g _ e => by simp [Value.ownBlock] at e⟩, c.places, c.below⟩
theorem SD.keep (c : SD W w sb jb ep bv kv a b e k rv es pv ps) (hb : Below w.heap.size w w') : SD W w' sb jb ep bv kv a b e k rv es pv ps :=
  ⟨c.blk.keep hb, c.low, c.recs.keep hb, own_keep c.places hb, bch c.below hb⟩
theorem SD.set9 (c : SD W w sb jb ep bv kv a b e k rv es pv ps) (x : Int) : SD W (w.setCell ⟨sb, 9, none⟩ (.int .i64 x)) sb jb ep bv kv a b e x rv es pv ps := by
  have hg := grown_store w sb 9 (.int .i64 x)
  have hne : ∀ {base n q : Nat} {t : TypeId} {u : Value} {xs : List Value}, w.ownsRow base t q u n xs → t ≠ 115 → (w.setCell ⟨sb, 9, none⟩ (.int .i64 x)).ownsRow base t q u n xs := fun ho ht =>
    own_over ho hg (fun q hq x => c.blk.ne_own ho ht q hq (Option.some.inj x))
  exact ⟨c.blk.set9 x, c.low, ⟨hne c.recs.row (by decide), fun y hy => hne (c.recs.data y hy) (by decide), c.recs.apart⟩, hne c.places (by decide), c.below.grown hg c.below.size (fun q hq => by cases hq; exact c.low)⟩
theorem SD.range (c : SD W w sb jb ep bv kv a b e k rv es pv ps) : w.rangeAt sb 6 [rv, pv, .int .i64 e, .int .i64 k] := by
  obtain ⟨_, _, _, _, _, _, h6, h7, h8, h9⟩ := c.blk.cells
  intro j v hj
  match j, hj with
  | 0, hj => simp at hj; subst hj; exact h6
  | 1, hj => simp at hj; subst hj; exact h7
  | 2, hj => simp at hj; subst hj; exact h8
  | 3, hj => simp at hj; subst hj; exact h9
  | j + 4, hj => simp at hj
end
theorem told_info : (Tryz.prog.info? 45).map (·.size) = some 4 := by kernel_rfl
theorem told_info' (c : Array Value) (h : c.size = 4) : (Tryz.prog.info? 45).map (·.size) = some c.size := by rw [h]; exact told_info
theorem told_one (a1 a2 : Option Addr) (n1 c1 n2 c2 : Nat) (e k : Int) : (tA (.slice a1 n1 c1) (.slice a2 n2 c2) e k).all (·.oneCell') = true := by simp [tA, Value.oneCell']
def scOf (x : Int) (n : Nat) (fs : List Int) : SS := scEnd (x % 4294967296) (flatB x n fs 16) (flatK x n fs 16)
def ScanF (n : Nat) (fs : List Int) (S : SS) (w : World) (r : Ending) (w' : World) : Prop :=
  ∃ rv pv es, r = .returned (.agg (tA rv pv (S.fin : Nat) (scKind n fs S.fin))) ∧ SR w.heap.size w' rv es.length es (.slice none 0 0) ∧ es.map Prod.fst = S.recs ∧ w'.ownsRow w.heap.size 3 1 pv S.places.length (il .i64 S.places) ∧ Below w.heap.size w w'
set_option maxRecDepth 8000 in
set_option maxHeartbeats 4000000 in
theorem scan_any (x : Int) (hx : U64 x) (v : Value) (n : Nat) (fs : List Int) (hbf : isB fs) (w : World) (h : FS w v n fs) (hT : Tab w) :
    Calls Tryz.prog 29 #[.int .u64 x, v] w (ScanF n fs (scOf x n fs) w) := by
  obtain ⟨wa, hwa⟩ : ∃ q, w.alloc (.cells (tA (.slice none 0 0) (.slice none 0 0) 0 0) 45) = q := ⟨_, rfl⟩
  have hba : Below w.heap.size w wa := by rw [← hwa]; exact balloc w _
  have HBA := Lib.hid hba
  have HRA : Hid (wa.heap[w.heap.size]? = some (.cells (tA (.slice none 0 0) (.slice none 0 0) 0 0) 45 (0, 0))) := Lib.hid (by rw [← hwa]; exact heap_alloc_last w _)
  have HNS := Lib.hid (newscan_any x hx v n fs (bytes_of_mem hbf) wa (h.keep hba))
  have hfl := h.length
  have hB : (flatB x n fs 16).length = 832 := flatB_length x n fs hfl 16
  have hBb := flatB_bytes x n fs hbf 16
  have HGO : Hid (∀ (W w1 : World) (sb jb : Nat) (bv kv : Value), Below wa.heap.size wa W → RI .u8 W bv 832 (flatB x n fs 16) → BS W kv 16 (flatK x n fs 16) → SX W w1 sb jb (x % 4294967296) bv kv sc0 → Calls Tryz.prog 52 #[.func (.func 53) #[.pointer (some ⟨sb, 0, none⟩)] #[]] w1 fun r w' => r = .returned (.tuple #[]) ∧
      ∃ t, SX W w' sb jb (x % 4294967296) bv kv t ∧ t.recs = (scOf x n fs).recs ∧ t.places = (scOf x n fs).places ∧ t.fin = (scOf x n fs).fin) := Lib.hid fun W w1 sb jb bv kv h1 h2 h3 h4 => goon_any h4 (hT.keep (bch hba h1)) hB hBb h2 h3
  have HFS := Lib.hid (h.keep hba)
  have hfin : (scOf x n fs).fin ≤ 832 := by
    have hgo : ∀ k s, s.Ok → (scGo (x % 4294967296) (flatB x n fs 16) (flatK x n fs 16) k s).Ok := fun k => by
      induction k with
      | zero => exact fun s hs => hs
      | succ k ih =>
        intro s hs
        unfold scGo
        cases hn : scNext (x % 4294967296) (flatB x n fs 16) (flatK x n fs 16) s with
        | none => exact hs
        | some t => exact ih t (scNext_ok hB hs hn).1
    exact (hgo 832 sc0 sc0_ok).fin
  generalize scOf x n fs = S at *
  generalize flatB x n fs 16 = B at *
  generalize flatK x n fs 16 = K at *
  obtain ⟨e32, he⟩ : ∃ e32, x % 4294967296 = e32 := ⟨_, rfl⟩
  rw [he] at HNS HGO
  obtain ⟨S0, S1, S2, S3, Srecs, Splaces, e⟩ := S
  dsimp only at HGO hfin
  obtain ⟨y, hy⟩ : ∃ y, restB n fs e = y := ⟨_, rfl⟩
  have HRE : Hid (∀ w, FS w v n fs → Calls Tryz.prog 54 #[v, .int .i64 e] w fun r w' => r = .returned (.bool y) ∧ Below w.heap.size w w') := Lib.hid fun w h => by
    have := rest_any v n fs (e : Int) (by unfold I63; omega) w h; rwa [nr_nat e hfin, hy] at this
  have HKD : Hid (scKind n fs e = if y = true then 1 else 2) := Lib.hid (by unfold scKind; rw [hy])
  obtain ⟨va, vc, rfl⟩ : ∃ a c, v = .slice a n c := by obtain ⟨a, c, q, _⟩ := h; exact ⟨a, c, q⟩
  have hmf := scan_mf_run
  have HWA : Hid (w.heap.size < wa.heap.size) := Lib.hid (by rw [← hwa, alloc_size]; omega)
  clear hx hbf h hT hba hfl hB hBb he hy
  cases y with
  | true =>
    go_enter Tryz.func29, Tryz.ntmps29
    go_wp2_with (first
      | (go_at_call 51; (refine HNS.out.mono ?_); rintro r w1 ⟨W, sb, jb, bv, kv, rfl, hbw, hbv, hkv, hsx⟩; have HBW := Lib.hid hbw; have HG1 := Lib.hid (HGO.out W w1 sb jb bv kv hbw hbv hkv hsx); clear hbw hbv hkv hsx)
      | (go_at_call 52; (refine HG1.out.mono ?_); rintro r w2 ⟨rfl, t, ⟨hv, rv, es, pv, hc, hes⟩, h1, h2, h3⟩; have HD2 := Lib.hid hc.sd; obtain ⟨ra, rc, rfl⟩ := own_form hc.recs.row; obtain ⟨pa, pc, rfl⟩ := own_form hc.places; rw [h2, h3] at HD2; have HES := Lib.hid (hes.trans h1); clear hc hes h1 h2 h3; have z9 := HD2.out.blk.cells.2.2.2.2.2.2.2.2.2; have f9 := HD2.out.blk.frozen 9; obtain ⟨w3, hw3⟩ : ∃ q, w2.setCell ⟨sb, 9, none⟩ (.int .i64 2) = q := ⟨_, rfl⟩; have HD3 := Lib.hid (show SD W w3 _ _ _ _ _ _ _ _ _ _ _ _ _ from by rw [← hw3]; exact HD2.out.set9 2); have z8 := HD3.out.blk.cells.2.2.2.2.2.2.2.2.1; clear HD2)
      | (go_at_call 54; (refine (HRE.out _ (HFS.out.keep (bch HBW.out HD3.out.below))).mono ?_); rintro r w4 ⟨rfl, hb⟩; have HD4 := Lib.hid (HD3.out.keep hb); have z94 := HD4.out.blk.cells.2.2.2.2.2.2.2.2.2; have f94 := HD4.out.blk.frozen 9; clear hb; obtain ⟨w5, hw5⟩ : ∃ q, w4.setCell ⟨sb, 9, none⟩ (.int .i64 1) = q := ⟨_, rfl⟩; have HD5 := Lib.hid (show SD W w5 _ _ _ _ _ _ _ _ _ _ _ _ _ from by rw [← hw5]; exact HD4.out.set9 1))
      | (refine wpList_load_mid rfl 45 (.tmp 29) rfl sb 6 rfl _ _ HD5.out.range Tryz.underlying45 rfl told_info ?_)
      | (refine wpList_store_row rfl 45 _ _ rfl w.heap.size (tA (.slice ra es.length rc) (.slice pa Splaces.length pc) e 1) rfl rfl _ _ (((bch HBW.out HD5.out.below).block _ HWA.out).trans HRA.out) (told_info' _ rfl) rfl (told_one _ _ _ _ _ _ _ _) ?_))
    refine bodyPost_ret_by (v := .agg (tA (.slice ra es.length rc) (.slice pa Splaces.length pc) e 1)) (results_cell_row rfl _ _ w.heap.size _ (tA (.slice ra es.length rc) (.slice pa Splaces.length pc) e 1) (0, 0) _ rfl (setRow_heap _ _ _ _ _ _ (((bch HBW.out HD5.out.below).block _ HWA.out).trans HRA.out)) Tryz.underlying45 rfl (told_info' _ rfl)) rfl ?_
    have hz : w.heap.size ≤ W.heap.size := Nat.le_trans (Nat.le_of_lt HWA.out) HBW.out.size
    have hne : ∀ {base n q : Nat} {t : TypeId} {u : Value} {xs : List Value}, W.heap.size ≤ base → w5.ownsRow base t q u n xs → (w5.setRow w.heap.size (tA (.slice ra es.length rc) (.slice pa Splaces.length pc) e 1)).ownsRow base t q u n xs := fun hbs ho =>
      own_over ho ⟨rfl, rfl, rfl, by simp, fun i _ hne => setRow_other w5 w.heap.size i _ (fun e => hne (by rw [e]))⟩ (fun g hg x => by have h1 := (ho.lt g hg).1; have h2 := HBW.out.size; have h3 := HWA.out; have h4 := Option.some.inj x; omega)
    exact ⟨_, _, es, by rw [HKD.out]; rfl, ⟨own_mono (hne (Nat.le_refl _) HD5.out.recs.row) hz, fun x hx => own_mono (hne (Nat.le_refl _) (HD5.out.recs.data x hx)) hz, HD5.out.recs.apart⟩, HES.out, own_mono (hne (Nat.le_refl _) HD5.out.places) hz, brow (bch HBA.out (bch HBW.out HD5.out.below)) (Nat.le_refl _) (Nat.le_refl _) _⟩
  | false =>
    go_enter Tryz.func29, Tryz.ntmps29
    go_wp2_with (first
      | (go_at_call 51; (refine HNS.out.mono ?_); rintro r w1 ⟨W, sb, jb, bv, kv, rfl, hbw, hbv, hkv, hsx⟩; have HBW := Lib.hid hbw; have HG1 := Lib.hid (HGO.out W w1 sb jb bv kv hbw hbv hkv hsx); clear hbw hbv hkv hsx)
      | (go_at_call 52; (refine HG1.out.mono ?_); rintro r w2 ⟨rfl, t, ⟨hv, rv, es, pv, hc, hes⟩, h1, h2, h3⟩; have HD2 := Lib.hid hc.sd; obtain ⟨ra, rc, rfl⟩ := own_form hc.recs.row; obtain ⟨pa, pc, rfl⟩ := own_form hc.places; rw [h2, h3] at HD2; have HES := Lib.hid (hes.trans h1); clear hc hes h1 h2 h3; have z9 := HD2.out.blk.cells.2.2.2.2.2.2.2.2.2; have f9 := HD2.out.blk.frozen 9; obtain ⟨w3, hw3⟩ : ∃ q, w2.setCell ⟨sb, 9, none⟩ (.int .i64 2) = q := ⟨_, rfl⟩; have HD3 := Lib.hid (show SD W w3 _ _ _ _ _ _ _ _ _ _ _ _ _ from by rw [← hw3]; exact HD2.out.set9 2); have z8 := HD3.out.blk.cells.2.2.2.2.2.2.2.2.1; clear HD2)
      | (go_at_call 54; (refine (HRE.out _ (HFS.out.keep (bch HBW.out HD3.out.below))).mono ?_); rintro r w4 ⟨rfl, hb⟩; have HD4 := Lib.hid (HD3.out.keep hb); have z94 := HD4.out.blk.cells.2.2.2.2.2.2.2.2.2; have f94 := HD4.out.blk.frozen 9; clear hb; have HD5 := HD4)
      | (refine wpList_load_mid rfl 45 (.tmp 29) rfl sb 6 rfl _ _ HD5.out.range Tryz.underlying45 rfl told_info ?_)
      | (refine wpList_store_row rfl 45 _ _ rfl w.heap.size (tA (.slice ra es.length rc) (.slice pa Splaces.length pc) e 2) rfl rfl _ _ (((bch HBW.out HD5.out.below).block _ HWA.out).trans HRA.out) (told_info' _ rfl) rfl (told_one _ _ _ _ _ _ _ _) ?_))
    refine bodyPost_ret_by (v := .agg (tA (.slice ra es.length rc) (.slice pa Splaces.length pc) e 2)) (results_cell_row rfl _ _ w.heap.size _ (tA (.slice ra es.length rc) (.slice pa Splaces.length pc) e 2) (0, 0) _ rfl (setRow_heap _ _ _ _ _ _ (((bch HBW.out HD5.out.below).block _ HWA.out).trans HRA.out)) Tryz.underlying45 rfl (told_info' _ rfl)) rfl ?_
    have hz : w.heap.size ≤ W.heap.size := Nat.le_trans (Nat.le_of_lt HWA.out) HBW.out.size
    have hne : ∀ {base n q : Nat} {t : TypeId} {u : Value} {xs : List Value}, W.heap.size ≤ base → w4.ownsRow base t q u n xs → (w4.setRow w.heap.size (tA (.slice ra es.length rc) (.slice pa Splaces.length pc) e 2)).ownsRow base t q u n xs := fun hbs ho =>
      own_over ho ⟨rfl, rfl, rfl, by simp, fun i _ hne => setRow_other w4 w.heap.size i _ (fun e => hne (by rw [e]))⟩ (fun g hg x => by have h1 := (ho.lt g hg).1; have h2 := HBW.out.size; have h3 := HWA.out; have h4 := Option.some.inj x; omega)
    exact ⟨_, _, es, by rw [HKD.out]; rfl, ⟨own_mono (hne (Nat.le_refl _) HD5.out.recs.row) hz, fun x hx => own_mono (hne (Nat.le_refl _) (HD5.out.recs.data x hx)) hz, HD5.out.recs.apart⟩, HES.out, own_mono (hne (Nat.le_refl _) HD5.out.places) hz, brow (bch HBA.out (bch HBW.out HD5.out.below)) (Nat.le_refl _) (Nat.le_refl _) _⟩
end Go.Proofs.YtnmplnemnfonfaaGreatDoor
namespace Go.Proofs.YtnmplnemnfonfaaGreatDoor
open Go.RowKit
def rdAt (ep : Int) (B : List Int) (K : List Bool) (p : Int) : Option (List Int × Nat) := if 0 ≤ p ∧ p ≤ 832 then rdOf ep B K p.toNat else none
theorem rdAt_in {ep : Int} {B : List Int} {K : List Bool} {a : Nat} (h : a ≤ 832) : rdAt ep B K (a : Int) = rdOf ep B K a := by
  unfold rdAt; rw [if_pos ⟨by omega, by omega⟩]; rfl
theorem rdAt_out {ep : Int} {B : List Int} {K : List Bool} {p : Int} (h : p < 0 ∨ p > 832) : rdAt ep B K p = none := by
  unfold rdAt; rw [if_neg (by omega)]
theorem rdOf_far {ep : Int} {B : List Int} {K : List Bool} : rdOf ep B K 832 = none := by
  have h : (scF ep B K (⟨832, false, []⟩ : RR).at_).2 = 0 := by rw [scF_far rfl]
  have := rr_none (ep := ep) (B := B) (K := K) (s := ⟨832, false, []⟩) h
  unfold rdOf
  exact (rdGo_stop _ this.1).trans this.2
theorem from_any (x : Int) (hx : U64 x) (v : Value) (m : Nat) (fs : List Int) (hbf : isB fs) (w : World) (hfs : FS w v m fs) (hT : Tab w) (p : Int) :
    Calls Tryz.prog 17 #[.int .u64 x, v, .int .i64 p] w (FromF (rdAt (x % 4294967296) (flatB x m fs 16) (flatK x m fs 16) p) w) := by
  have hB := flatB_length x m fs hfs.length 16
  have hBb := flatB_bytes x m fs hbf 16
  obtain ⟨ep, hep⟩ : ∃ e, x % 4294967296 = e := ⟨_, rfl⟩
  by_cases hp : 0 ≤ p ∧ p ≤ 832
  · obtain ⟨a, rfl⟩ : ∃ a : Nat, p = (a : Int) := ⟨p.toNat, by omega⟩
    have ha : a ≤ 832 := by omega
    rw [rdAt_in ha]
    obtain ⟨k0, _, h1, h2⟩ := rr_least (ep := ep) (B := flatB x m fs 16) (K := flatK x m fs 16) hB ha
    have hat := rdOf_at hB ha h1 h2
    have hok : ∀ k, k ≤ k0 → (rrK ep (flatB x m fs 16) (flatK x m fs 16) a k).Ok := fun k hk => (rrK_ok hB ha k fun j hj => h2 j (by omega)).1
    have h := from_gen x hx w v m fs (bytes_of_mem hbf) hfs (fun k => ((rrK ep (flatB x m fs 16) (flatK x m fs 16) a k).at_ : Int)) (fun k => scF ep (flatB x m fs 16) (flatK x m fs 16) (rrK ep (flatB x m fs 16) (flatK x m fs 16) a k).at_)
      (fun k => (rrK ep (flatB x m fs 16) (flatK x m fs 16) a k).o) (fun k => (rrK ep (flatB x m fs 16) (flatK x m fs 16) a k).h) k0 (decide ((scF ep (flatB x m fs 16) (flatK x m fs 16) (rrK ep (flatB x m fs 16) (flatK x m fs 16) a k0).at_).2 = 0)) (rdOf ep (flatB x m fs 16) (flatK x m fs 16) a)
      (fun k hk w' bv kv hb hbv hkv => by rw [hep]; exact bfrag_in hb hT hB hBb hbv hkv _ (hok k hk).at_)
      (by rw [decide_eq_true_iff]) (fun k hk => (rr_goes (h2 k hk)).1)
      (fun k hk => by
        obtain ⟨g1, _, _⟩ := rr_goes (h2 k hk)
        obtain ⟨g2, g3, _⟩ := scF_in hB (hok k (by omega)).at_ g1
        obtain ⟨g4, g5⟩ := rrGo_ok hB (hok k (by omega)) (h2 k hk)
        have g6 := g4.at_
        have g7 := nr_nat _ g3
        refine ⟨?_, by unfold I63; omega, ?_, ?_⟩
        · show ((rrGo ep _ _ _).at_ : Int) = _
          rw [show ((rrK ep (flatB x m fs 16) (flatK x m fs 16) a k).at_ : Int) + ((scF ep (flatB x m fs 16) (flatK x m fs 16) (rrK ep (flatB x m fs 16) (flatK x m fs 16) a k).at_).2 : Nat) = (((rrK ep (flatB x m fs 16) (flatK x m fs 16) a k).at_ + (scF ep (flatB x m fs 16) (flatK x m fs 16) (rrK ep (flatB x m fs 16) (flatK x m fs 16) a k).at_).2 : Nat) : Int) from by omega, g7]
          rfl
        · show _ < ((rrGo ep _ _ _).at_ : Int); omega
        · show ((rrGo ep _ _ _).at_ : Int) ≤ 832; omega)
      ⟨rfl, rfl⟩ (fun k hk => ⟨(rr_goes (h2 k hk)).2.1, (rr_goes (h2 k hk)).2.2, rfl, rfl⟩)
      (fun hst => by
        have hn := of_decide_eq_false hst
        by_cases her : jErr (rrK ep (flatB x m fs 16) (flatK x m fs 16) a k0).o (rrK ep (flatB x m fs 16) (flatK x m fs 16) a k0).h (scF ep (flatB x m fs 16) (flatK x m fs 16) (rrK ep (flatB x m fs 16) (flatK x m fs 16) a k0).at_).1.kind (scF ep (flatB x m fs 16) (flatK x m fs 16) (rrK ep (flatB x m fs 16) (flatK x m fs 16) a k0).at_).1.data = 0
        · cases hen : jEnds (rrK ep (flatB x m fs 16) (flatK x m fs 16) a k0).o (rrK ep (flatB x m fs 16) (flatK x m fs 16) a k0).h (scF ep (flatB x m fs 16) (flatK x m fs 16) (rrK ep (flatB x m fs 16) (flatK x m fs 16) a k0).at_).1.kind (scF ep (flatB x m fs 16) (flatK x m fs 16) (rrK ep (flatB x m fs 16) (flatK x m fs 16) a k0).at_).1.data with
          | false => rw [rr_going hn her hen] at h1; cases h1
          | true => exact .inr ⟨her, rfl, _, (Int.natCast_add _ _).symm, hat.trans (rr_ends hn hen).2⟩
        · exact .inl ⟨her, hat.trans (rr_err her).2⟩)
      (fun hst => hat.trans (rr_none (of_decide_eq_true hst)).2)
    rw [hep]
    exact h
  · have hp' : p < 0 ∨ p > 832 := by omega
    rw [rdAt_out hp']
    exact from_gen x hx w v m fs (bytes_of_mem hbf) hfs (fun _ => p) (fun _ => (noFr, 0)) (fun _ => false) (fun _ => []) 0 true none
      (fun k _ w' bv kv _ _ _ => bfrag_out _ bv kv p hp' w') (by simp) (fun k hk => absurd hk (by omega)) (fun k hk => absurd hk (by omega)) ⟨rfl, rfl⟩ (fun k hk => absurd hk (by omega)) (fun h => by cases h) (fun _ => rfl)
end Go.Proofs.YtnmplnemnfonfaaGreatDoor
namespace Go.Proofs.YtnmplnemnfonfaaGreatDoor
structure Hdr where
  e : Int
  s : Int
  f : Int
  l : List Int
deriving instance DecidableEq for Hdr
def noH : Hdr := ⟨0, 0, 0, [0, 0, 0, 0]⟩
structure HdT (h : Hdr) : Prop where
  e : U64 h.e
  s : I63 h.s
  f : I63 h.f
  n : h.l.length = 4
  l : ∀ x ∈ h.l, I63 x
def lsn (n : Int) : Bool := decide (1 ≤ n ∧ n ≤ 2147483647)
def hdOk (h : Hdr) : Bool := decide (h.e ≠ 0) && lsn h.s && lsn h.f && h.l.all fun x => decide (0 ≤ x ∧ x < h.f)
theorem lsn_bd {n : Int} (h : lsn n = true) : 1 ≤ n ∧ n ≤ 2147483647 := of_decide_eq_true h
theorem hdOk_parts {h : Hdr} (hk : hdOk h = true) : h.e ≠ 0 ∧ (1 ≤ h.s ∧ h.s ≤ 2147483647) ∧ (1 ≤ h.f ∧ h.f ≤ 2147483647) ∧ ∀ x ∈ h.l, 0 ≤ x ∧ x < h.f := by
  unfold hdOk at hk
  simp only [Bool.and_eq_true, decide_eq_true_eq, List.all_eq_true] at hk
  exact ⟨hk.1.1.1, lsn_bd hk.1.1.2, lsn_bd hk.1.2, hk.2⟩
theorem hdOk_of {h : Hdr} (h1 : h.e ≠ 0) (h2 : lsn h.s = true) (h3 : lsn h.f = true) (h4 : ∀ x ∈ h.l, 0 ≤ x ∧ x < h.f) : hdOk h = true := by
  unfold hdOk
  simp only [Bool.and_eq_true, decide_eq_true_eq, List.all_eq_true]
  exact ⟨⟨⟨h1, h2⟩, h3⟩, h4⟩
def mark : List Int := [115, 116, 114, 100, 1]
def put4 (l : List Int) : List Int := (l.map fun x => putL x 4).flatten
def headP (h : Hdr) : List Int := mark ++ putL h.e 8 ++ putL h.s 4 ++ putL h.f 4 ++ put4 h.l
def headS (h : Hdr) : Nat := maskS (ofS (headP h))
def headB (h : Hdr) : List Int := headP h ++ putL (headS h) 4
def secH (h : Hdr) : List Int := headB h ++ List.replicate 23 0
def readH (zs : List Int) : Hdr := ⟨num zs 5 8, num zs 13 4, num zs 17 4, [num zs 21 4, num zs 25 4, num zs 29 4, num zs 33 4]⟩
theorem put4_length (l : List Int) : (put4 l).length = 4 * l.length := by
  induction l with
  | nil => rfl
  | cons a l ih => simp only [put4, List.map_cons, List.flatten_cons, List.length_append, putL_length, List.length_cons] at *; omega
theorem put4_bytes (l : List Int) : isB (put4 l) := by
  intro x hx
  simp only [put4, List.mem_flatten, List.mem_map] at hx
  obtain ⟨m, ⟨a, _, rfl⟩, hm⟩ := hx
  exact putL_isB a 4 x hm
theorem put4_snoc (l : List Int) (x : Int) : put4 (l ++ [x]) = put4 l ++ putL x 4 := by simp [put4]
theorem mark_bytes : isB mark := by intro x hx; simp only [mark, List.mem_cons, List.not_mem_nil, or_false] at hx; omega
theorem mark_length : mark.length = 5 := rfl
theorem headP_length {h : Hdr} (hn : h.l.length = 4) : (headP h).length = 37 := by simp [headP, putL_length, put4_length, mark_length, hn]
theorem headB_length {h : Hdr} (hn : h.l.length = 4) : (headB h).length = 41 := by simp [headB, putL_length, headP_length hn]
theorem secH_length {h : Hdr} (hn : h.l.length = 4) : (secH h).length = 64 := by simp [secH, headB_length hn]
theorem headP_bytes (h : Hdr) : isB (headP h) := ((((mark_bytes.append (putL_isB _ _)).append (putL_isB _ _)).append (putL_isB _ _)).append (put4_bytes _))
theorem headB_bytes (h : Hdr) : isB (headB h) := (headP_bytes h).append (putL_isB _ _)
theorem zeros_bytes (n : Nat) : isB (List.replicate n 0) := fun x hx => by have := (List.mem_replicate.1 hx).2; omega
theorem secH_bytes (h : Hdr) : isB (secH h) := (headB_bytes h).append (zeros_bytes _)
theorem num_mid (a r : List Int) (x : Int) (n k : Nat) (hk : a.length = k) : num (a ++ (putL x n ++ r)) k n = x % 2 ^ (8 * n) := by
  unfold num
  rw [List.drop_left' hk, getI_append _ _ _ (by rw [putL_length]; omega), getI_put _ _ _ (Nat.le_refl _)]
theorem readH_put {h : Hdr} (ht : HdT h) (hk : hdOk h = true) (r : List Int) : readH (headP h ++ r) = h := by
  obtain ⟨e, s, f, l⟩ := h
  have hn := ht.n
  obtain ⟨_, h2, h3, h4⟩ := hdOk_parts hk
  have he := ht.e
  unfold U64 at he
  simp only at *
  match l, hn, h4 with
  | [a, b, c, d], _, h4 =>
    have ha := h4 a (by simp)
    have hb := h4 b (by simp)
    have hc := h4 c (by simp)
    have hd := h4 d (by simp)
    have e0 : headP ⟨e, s, f, [a, b, c, d]⟩ ++ r = mark ++ putL e 8 ++ putL s 4 ++ putL f 4 ++ putL a 4 ++ putL b 4 ++ putL c 4 ++ putL d 4 ++ r := by
      simp [headP, put4, List.append_assoc]
    rw [e0]
    unfold readH
    have p1 : num (mark ++ putL e 8 ++ putL s 4 ++ putL f 4 ++ putL a 4 ++ putL b 4 ++ putL c 4 ++ putL d 4 ++ r) 5 8 = e := by
      simp only [List.append_assoc]
      have := num_mid mark (putL s 4 ++ (putL f 4 ++ (putL a 4 ++ (putL b 4 ++ (putL c 4 ++ (putL d 4 ++ r)))))) e 8 5 rfl
      rw [this]; omega
    have step : ∀ (q : List Int) (x : Int) (t : List Int) (k : Nat), q.length = k → 0 ≤ x → x < 4294967296 → num (q ++ putL x 4 ++ t) k 4 = x := fun q x t k hq h0 h1 => by
      rw [List.append_assoc, num_mid _ _ _ _ _ hq]; omega
    have p2 := step (mark ++ putL e 8) s (putL f 4 ++ putL a 4 ++ putL b 4 ++ putL c 4 ++ putL d 4 ++ r) 13 (by simp [putL_length, mark_length]) (by omega) (by omega)
    have p3 := step (mark ++ putL e 8 ++ putL s 4) f (putL a 4 ++ putL b 4 ++ putL c 4 ++ putL d 4 ++ r) 17 (by simp [putL_length, mark_length]) (by omega) (by omega)
    have p4 := step (mark ++ putL e 8 ++ putL s 4 ++ putL f 4) a (putL b 4 ++ putL c 4 ++ putL d 4 ++ r) 21 (by simp [putL_length, mark_length]) (by omega) (by omega)
    have p5 := step (mark ++ putL e 8 ++ putL s 4 ++ putL f 4 ++ putL a 4) b (putL c 4 ++ putL d 4 ++ r) 25 (by simp [putL_length, mark_length]) (by omega) (by omega)
    have p6 := step (mark ++ putL e 8 ++ putL s 4 ++ putL f 4 ++ putL a 4 ++ putL b 4) c (putL d 4 ++ r) 29 (by simp [putL_length, mark_length]) (by omega) (by omega)
    have p7 := step (mark ++ putL e 8 ++ putL s 4 ++ putL f 4 ++ putL a 4 ++ putL b 4 ++ putL c 4) d r 33 (by simp [putL_length, mark_length]) (by omega) (by omega)
    simp only [List.append_assoc] at p1 p2 p3 p4 p5 p6 p7 ⊢
    rw [p1, p2, p3, p4, p5, p6, p7]
theorem readH_typed {zs : List Int} (hb : isB zs) : HdT (readH zs) := by
  have b8 := num_bd hb 5 8
  have b4 : ∀ a, I63 (num zs a 4) := fun a => by have := num_bd hb a 4; unfold I63; omega
  refine ⟨by unfold U64; simp only [readH]; omega, b4 _, b4 _, rfl, fun x hx => ?_⟩
  simp only [readH, List.mem_cons, List.not_mem_nil, or_false] at hx
  rcases hx with rfl | rfl | rfl | rfl <;> exact b4 _
theorem noH_typed : HdT noH := ⟨by unfold U64; simp only [noH]; omega, by unfold I63; simp only [noH]; omega, by unfold I63; simp only [noH]; omega, rfl, fun x hx => by
  simp only [noH, List.mem_cons, List.not_mem_nil, or_false, or_self] at hx; subst hx; unfold I63; omega⟩
def headD (zs : List Int) : Hdr × Int :=
  if zs = z64 then (noH, 7) else
  if zs.take 5 ≠ mark ∨ zs.drop 41 ≠ List.replicate 23 0 then (noH, 2) else
  if (zs.drop 37).take 4 ≠ putL (maskS (ofS (zs.take 37))) 4 then (noH, 3) else
  if hdOk (readH zs) = true then (readH zs, 0) else (noH, 2)
section
variable {zs : List Int}
theorem headD_none (h : zs = z64) : headD zs = (noH, 7) := by unfold headD; rw [if_pos h]
theorem headD_form (h : ¬ zs = z64) (h2 : zs.take 5 ≠ mark ∨ zs.drop 41 ≠ List.replicate 23 0) : headD zs = (noH, 2) := by unfold headD; rw [if_neg h, if_pos h2]
section
variable (h : ¬ zs = z64) (h2 : zs.take 5 = mark) (h3 : zs.drop 41 = List.replicate 23 0)
include h h2 h3
theorem headD_sum (h4 : (zs.drop 37).take 4 ≠ putL (maskS (ofS (zs.take 37))) 4) : headD zs = (noH, 3) := by
  unfold headD; rw [if_neg h, if_neg (by simp [h2, h3]), if_pos h4]
variable (h4 : (zs.drop 37).take 4 = putL (maskS (ofS (zs.take 37))) 4)
include h4
theorem headD_wrong (h5 : hdOk (readH zs) = false) : headD zs = (noH, 2) := by
  unfold headD; rw [if_neg h, if_neg (by simp [h2, h3]), if_neg (by simp [h4]), if_neg (by simp [h5])]
theorem headD_ok (h5 : hdOk (readH zs) = true) : headD zs = (readH zs, 0) := by
  unfold headD; rw [if_neg h, if_neg (by simp [h2, h3]), if_neg (by simp [h4]), if_pos h5]
end
theorem headD_cases : (zs = z64 ∧ headD zs = (noH, 7)) ∨ (¬ zs = z64 ∧ (zs.take 5 ≠ mark ∨ zs.drop 41 ≠ List.replicate 23 0) ∧ headD zs = (noH, 2)) ∨
    (¬ zs = z64 ∧ zs.take 5 = mark ∧ zs.drop 41 = List.replicate 23 0 ∧ (zs.drop 37).take 4 ≠ putL (maskS (ofS (zs.take 37))) 4 ∧ headD zs = (noH, 3)) ∨
    (¬ zs = z64 ∧ zs.take 5 = mark ∧ zs.drop 41 = List.replicate 23 0 ∧ (zs.drop 37).take 4 = putL (maskS (ofS (zs.take 37))) 4 ∧ hdOk (readH zs) = false ∧ headD zs = (noH, 2)) ∨
    (¬ zs = z64 ∧ zs.take 5 = mark ∧ zs.drop 41 = List.replicate 23 0 ∧ (zs.drop 37).take 4 = putL (maskS (ofS (zs.take 37))) 4 ∧ hdOk (readH zs) = true ∧ headD zs = (readH zs, 0)) := by
  by_cases h : zs = z64
  · exact .inl ⟨h, headD_none h⟩
  by_cases h2 : zs.take 5 = mark
  · by_cases h3 : zs.drop 41 = List.replicate 23 0
    · by_cases h4 : (zs.drop 37).take 4 = putL (maskS (ofS (zs.take 37))) 4
      · cases h5 : hdOk (readH zs)
        · exact .inr (.inr (.inr (.inl ⟨h, h2, h3, h4, rfl, headD_wrong h h2 h3 h4 h5⟩)))
        · exact .inr (.inr (.inr (.inr ⟨h, h2, h3, h4, rfl, headD_ok h h2 h3 h4 h5⟩)))
      · exact .inr (.inr (.inl ⟨h, h2, h3, h4, headD_sum h h2 h3 h4⟩))
    · exact .inr (.inl ⟨h, .inr h3, headD_form h (.inr h3)⟩)
  · exact .inr (.inl ⟨h, .inl h2, headD_form h (.inl h2)⟩)
theorem headD_typed (hb : isB zs) : HdT (headD zs).1 := by
  rcases headD_cases (zs := zs) with ⟨_, h⟩ | ⟨_, _, h⟩ | ⟨_, _, _, _, h⟩ | ⟨_, _, _, _, _, h⟩ | ⟨_, _, _, _, _, h⟩ <;> rw [h]
  · exact noH_typed
  · exact noH_typed
  · exact noH_typed
  · exact noH_typed
  · exact readH_typed hb
end
theorem secH_take37 {h : Hdr} (hn : h.l.length = 4) : (secH h).take 37 = headP h := by
  unfold secH headB; rw [List.append_assoc, List.take_left' (headP_length hn)]
theorem secH_drop37 {h : Hdr} (hn : h.l.length = 4) : (secH h).drop 37 = putL (headS h) 4 ++ List.replicate 23 0 := by
  unfold secH headB; rw [List.append_assoc, List.drop_left' (headP_length hn)]
theorem secH_sum {h : Hdr} (hn : h.l.length = 4) : ((secH h).drop 37).take 4 = putL (headS h) 4 := by
  rw [secH_drop37 hn, List.take_left' (by rw [putL_length])]
theorem secH_rest {h : Hdr} (hn : h.l.length = 4) : (secH h).drop 41 = List.replicate 23 0 := by
  unfold secH; rw [List.drop_left' (headB_length hn)]
theorem secH_mark {h : Hdr} (hn : h.l.length = 4) : (secH h).take 5 = mark := by
  have e : (secH h).take 5 = ((secH h).take 37).take 5 := by rw [List.take_take, show min 5 37 = 5 from rfl]
  rw [e, secH_take37 hn]
  unfold headP
  simp only [List.append_assoc]
  exact List.take_left' rfl
theorem not_z64 {zs : List Int} (h : zs.take 5 = mark) : ¬ zs = z64 := by
  intro e
  rw [e] at h
  have : (z64.take 5).getD 0 0 = mark.getD 0 0 := by rw [h]
  exact absurd this (by decide)
theorem hd_got {h : Hdr} (ht : HdT h) (hk : hdOk h = true) : headD (secH h) = (h, 0) := by
  have hn := ht.n
  have hr : readH (secH h) = h := by
    unfold secH headB; rw [List.append_assoc]; exact readH_put ht hk _
  have := headD_ok (zs := secH h) (not_z64 (secH_mark hn)) (secH_mark hn) (secH_rest hn) (by rw [secH_sum hn, secH_take37 hn]; rfl) (by rw [hr]; exact hk)
  rw [this, hr]
end Go.Proofs.YtnmplnemnfonfaaGreatDoor
namespace Go.Proofs.YtnmplnemnfonfaaGreatDoor
open Go.Lib
theorem decFrom_append : ∀ (a b : List UInt8) (acc : Nat), decFrom acc (a ++ b) = (decFrom acc a).bind fun m => decFrom m b
  | [], b, acc => by simp [decFrom]
  | x :: a, b, acc => by
    simp only [List.cons_append, decFrom]
    cases digitVal x with
    | none => rfl
    | some d => exact decFrom_append a b _
theorem digitVal_of {d : Nat} (h : d < 10) : digitVal (UInt8.ofNat (48 + d)) = some d := by
  unfold digitVal
  rw [UInt8.toNat_ofNat', show (48 + d) % 2 ^ 8 = 48 + d from by omega, if_pos (by omega)]
  congr 1; omega
theorem decFrom_dec : ∀ u : Nat, decFrom 0 (decDigits u) = some u := by
  intro u
  induction u using Nat.strongRecOn with
  | _ u ih =>
    rw [decDigits]
    by_cases h : u < 10
    · rw [dif_pos h]; simp only [decFrom, digitVal_of h, Nat.zero_mul, Nat.zero_add]
    · rw [dif_neg h, decFrom_append, ih (u / 10) (by omega)]
      simp only [Option.bind_some, decFrom, digitVal_of (show u % 10 < 10 from by omega)]
      congr 1; omega
theorem dec_inj {u v : Nat} (h : decDigits u = decDigits v) : u = v := by
  have h1 := decFrom_dec u
  rw [h, decFrom_dec] at h1
  exact (Option.some.inj h1).symm
theorem itoa_nat (u : Nat) : itoa (u : Int) = decDigits u := itoa_nonneg u
def walN (n : Int) : List UInt8 := if 1 ≤ n ∧ n ≤ 2147483647 then 119 :: 97 :: 108 :: 45 :: itoa n else []
theorem walN_in {n : Int} (h1 : 1 ≤ n) (h2 : n ≤ 2147483647) : walN n = 119 :: 97 :: 108 :: 45 :: itoa n := if_pos ⟨h1, h2⟩
theorem walN_out {n : Int} (h : ¬ (1 ≤ n ∧ n ≤ 2147483647)) : walN n = [] := if_neg h
theorem walN_inj {m n : Int} (h1 : 1 ≤ m) (h2 : m ≤ 2147483647) (h3 : 1 ≤ n) (h4 : n ≤ 2147483647) (h : walN m = walN n) : m = n := by
  rw [walN_in h1 h2, walN_in h3 h4] at h
  simp only [List.cons.injEq, true_and] at h
  obtain ⟨a, rfl⟩ : ∃ a : Nat, m = a := ⟨m.toNat, by omega⟩
  obtain ⟨b, rfl⟩ : ∃ a : Nat, n = a := ⟨n.toNat, by omega⟩
  rw [itoa_nat, itoa_nat] at h
  rw [dec_inj h]
theorem itoa_short {n : Int} (h1 : -9223372036854775808 ≤ n) (h2 : n ≤ 9223372036854775807) : (itoa n).length ≤ 21 := itoa_length_le n h1 h2
end Go.Proofs.YtnmplnemnfonfaaGreatDoor
