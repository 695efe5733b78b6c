/-
  TEXTS JOINED: SegFreshM, WrMath, SegLits, WrDisk, RdDisk, RdReads. Each one's own words stand at its head.
-/
import Derived.Test.YtnmplnemnfonfaaGreatDoorJ10
import Derived.Test.YtnmplnemnfonfaaGreatDoorJ9
import Derived.Test.YtnmplnemnfonfaaGreatDoorJ23
import Derived.Test.YtnmplnemnfonfaaGreatDoorJ14
import Derived.Test.YtnmplnemnfonfaaGreatDoorJ25
import Derived.Test.YtnmplnemnfonfaaGreatDoorJ27
import Derived.Test.YtnmplnemnfonfaaGreatDoorJ22
import Derived.Test.YtnmplnemnfonfaaGreatDoorJ26
namespace Go.Proofs.YtnmplnemnfonfaaGreatDoor
open Go.RowKit
end Go.Proofs.YtnmplnemnfonfaaGreatDoor
namespace Go.Proofs.YtnmplnemnfonfaaGreatDoor
open Go.RowKit
def lone (nm : ByteArray) (las seen : List Int) (ws : List Bool) (o : Int) : AD := ⟨[⟨nm, 17, las, seen, ws⟩], 17, o, false, false, 0⟩
def fs17 : List Bool := List.replicate 17 false
section
variable {nm : ByteArray} {las seen : List Int} {ws : List Bool} {o : Int}
theorem lone_idx : idxN (lone nm las seen ws o).L nm = 0 := by simp [lone, idxN, List.findIdx_cons]
theorem lone_has : (lone nm las seen ws o).has nm := by unfold AD.has; rw [lone_idx]; simp [lone]
theorem lone_get : (lone nm las seen ws o).get nm = ⟨nm, 17, las, seen, ws⟩ := by unfold AD.get; rw [lone_idx]; simp [lone]
theorem lone_op (g : AD → AD) : (lone nm las seen ws o).opR g = (g (lone nm las seen ws (wrap64 (o + 1))), 0) := by
  rw [AD.opR_done _ _ (by simp [AD.ope, lone])]; simp [AD.opd, lone]
theorem lone_with (f : AF) (hf : f.name = nm) : (lone nm las seen ws o).withF f = ⟨[f], 17, o, false, false, 0⟩ := by
  simp [AD.withF, lone, withoutF, hf, insF, insK]
theorem lone_write (k d : Nat) (hk : k + d ≤ 17) (fs : List Int) : (lone nm las seen ws o).writeR nm (k : Int) d fs =
    (lone nm las (seen.take (k * 64) ++ fs ++ seen.drop (k * 64 + d * 64)) (ws.take k ++ List.replicate d true ++ ws.drop (k + d)) (wrap64 (o + 1)), 0) := by
  unfold AD.writeR
  rw [if_neg (by simp [lone]), if_neg (Decidable.not_not.2 lone_has), lone_get, if_neg (by simp only; omega), lone_op, lone_with (nm := nm) _ rfl]
  rfl
theorem lone_write0 (l : List Int) (hs : seen.length = 17 * 64) (hw : ws.length = 17) : (lone nm las seen ws o).writeR nm 0 17 l = (lone nm las l (List.replicate 17 true) (wrap64 (o + 1)), 0) := by
  have h := lone_write (nm := nm) (las := las) (seen := seen) (ws := ws) (o := o) 0 17 (by omega) l
  rw [Nat.zero_mul, Nat.zero_add, Nat.zero_add, List.take_zero, List.take_zero, List.drop_of_length_le (by omega), List.drop_of_length_le (by omega), List.nil_append, List.nil_append, List.append_nil, List.append_nil] at h
  exact h
theorem lone_sync : (lone nm las seen ws o).syncR nm = (lone nm seen seen fs17 (wrap64 (o + 1)), 0) := by
  unfold AD.syncR
  rw [if_neg (by simp [lone]), if_neg (Decidable.not_not.2 lone_has), lone_get, lone_op, lone_with (nm := nm) _ rfl]
  rfl
end
theorem lone_tells {h : Hdr} (hT : HdT h) (hk : hdOk h = true) (las X : List Int) (ws : List Bool) (o : Int) :
    headI (lone (walB h.s) las (secH h ++ X) ws o) h.s = (h, 0) ∧ dataI (lone (walB h.s) las (secH h ++ X) ws o) h.s = X := by
  have hp := hdOk_parts hk
  have hl := secH_length (h := h) hT.n
  have hf : fstI (secH h ++ X) = (h, 0) := by
    unfold fstI
    rw [List.take_append_of_le_length (by omega), List.take_of_length_le (by omega)]
    exact hd_got hT hk
  constructor
  · unfold headI
    rw [if_neg (wal_in hp.2.1.1 hp.2.1.2), if_neg (by simp [lone]), if_neg (Decidable.not_not.2 lone_has), lone_get]
    simp only [hf]
    rw [if_neg (by simp)]
  · unfold dataI
    rw [lone_get]
    show (secH h ++ X).drop 64 = X
    rw [← hl, List.drop_left]
end Go.Proofs.YtnmplnemnfonfaaGreatDoor
namespace Go.Proofs.YtnmplnemnfonfaaGreatDoor
open Go.RowKit
theorem itoa_three : Lib.itoa 1 = [49] ∧ Lib.itoa 2 = [50] ∧ Lib.itoa 3 = [51] := by
  refine ⟨?_, ?_, ?_⟩
  · rw [show (1 : Int) = ((1 : Nat) : Int) from rfl, itoa_nat, Lib.decDigits_one (by omega)]; rfl
  · rw [show (2 : Int) = ((2 : Nat) : Int) from rfl, itoa_nat, Lib.decDigits_one (by omega)]; rfl
  · rw [show (3 : Int) = ((3 : Nat) : Int) from rfl, itoa_nat, Lib.decDigits_one (by omega)]; rfl
theorem wal_lits : walB 1 = ⟨#[119, 97, 108, 45, 49]⟩ ∧ walB 2 = ⟨#[119, 97, 108, 45, 50]⟩ ∧ walB 3 = ⟨#[119, 97, 108, 45, 51]⟩ := by
  obtain ⟨h1, h2, h3⟩ := itoa_three
  unfold walB
  rw [walN_in (n := 1) (by omega) (by omega), walN_in (n := 2) (by omega) (by omega), walN_in (n := 3) (by omega) (by omega), h1, h2, h3]
  exact ⟨rfl, rfl, rfl⟩
end Go.Proofs.YtnmplnemnfonfaaGreatDoor
namespace Go.Proofs.YtnmplnemnfonfaaGreatDoor
open Go.RowKit
abbrev wal1 : ByteArray := ⟨#[119, 97, 108, 45, 49]⟩
theorem wal1_eq : walB 1 = wal1 := wal_lits.1
theorem wal1_size : wal1.size ≤ 281474976710656 := by decide
theorem hW_typed {ep : Int} (h : U64 ep) : HdT (hW 1 ep) := ⟨h, by unfold I63 hW; simp, by unfold I63 hW; simp, rfl, fun x hx => by
  simp only [hW, List.mem_cons, List.not_mem_nil, or_false] at hx
  unfold I63
  omega⟩
theorem hW_ok {ep : Int} (h0 : ep ≠ 0) : hdOk (hW 1 ep) = true := hdOk_of h0 (show lsn 1 = true by decide) (show lsn 1 = true by decide) fun x hx => by
  simp only [hW, List.mem_cons, List.not_mem_nil, or_false] at hx
  show 0 ≤ x ∧ x < 1
  omega
theorem lone_make : (AD.newD 17).makeR wal1 17 = (lone wal1 (List.replicate (17 * 64) 0) (List.replicate (17 * 64) 0) fs17 1, 0) := by kernel_rfl
theorem lone_prep {ep : Int} (h0 : ep ≠ 0) {las seen : List Int} (hs : seen.length = 17 * 64) {ws : List Bool} (hws : ws.length = 17) {fs : List Int} :
    (lone wal1 las seen ws 1).prepR wal1 (hW 1 ep) 16 fs = (lone wal1 (layL (hW 1 ep) 16 fs) (layL (hW 1 ep) 16 fs) fs17 3, 0) := by
  have hw := lone_write0 (nm := wal1) (las := las) (seen := seen) (ws := ws) (o := 1) (layL (hW 1 ep) 16 fs) hs hws
  unfold AD.prepR AD.laidR
  rw [if_neg (fun q => q.elim (fun q => by rw [hW_ok h0] at q; cases q) (fun q => absurd q (by omega))), if_neg (show ¬ (lone wal1 las seen ws 1).down = true from Bool.false_ne_true), if_neg (Decidable.not_not.2 lone_has), if_neg (by rw [lone_get]; exact fun q => q rfl), hw, if_pos rfl, lone_sync]
  rw [show wrap64 (wrap64 (1 + 1) + 1) = 3 from by kernel_rfl]
end Go.Proofs.YtnmplnemnfonfaaGreatDoor
namespace Go.Proofs.YtnmplnemnfonfaaGreatDoor
open Go.RowKit
variable {DK : World → Addr → (Nat → Bool) → AD → Prop}
def dM : AD := lone wal1 (List.replicate (17 * 64) 0) (List.replicate (17 * 64) 0) fs17 1
def dP (x : Int) (fs : List Int) : AD := lone wal1 (layL (hW 1 x) 16 fs) (layL (hW 1 x) 16 fs) fs17 3
theorem dM_good : Good dM := by
  have := (Good.new 17 (by unfold I63; omega)).make wal1 17
  rwa [lone_make] at this
theorem dM_prep {x : Int} (h0 : x ≠ 0) (fs : List Int) : dM.prepR wal1 (hW 1 x) 16 fs = (dP x fs, 0) := lone_prep h0 List.length_replicate List.length_replicate
theorem dP_good {x : Int} (hx : U64 x) (h0 : x ≠ 0) {fs : List Int} (hl : fs.length = 16 * 64) (hb : Bytes fs) : Good (dP x fs) := by
  have := dM_good.prep wal1 (hW_typed hx) hl hb
  rwa [dM_prep h0] at this
theorem dP_one {x : Int} (hx : U64 x) (h0 : x ≠ 0) (fs : List Int) : headI (dP x fs) 1 = (hW 1 x, 0) ∧ dataI (dP x fs) 1 = fs := by
  have h := lone_tells (hW_typed hx) (hW_ok h0) (layL (hW 1 x) 16 fs) (fs ++ List.replicate ((16 - 16) * 64) 0) fs17 3
  rw [show (hW 1 x).s = 1 from rfl, wal1_eq] at h
  have e : secH (hW 1 x) ++ (fs ++ List.replicate ((16 - 16) * 64) 0) = layL (hW 1 x) 16 fs := by unfold layL; rw [List.append_assoc]
  rw [e] at h
  refine ⟨h.1, h.2.trans ?_⟩
  simp
theorem dP_other {x : Int} {fs : List Int} {q : Int} (hq : q ≠ 1) : (headI (dP x fs) q).2 = 7 ∨ (headI (dP x fs) q).2 = 13 := by
  unfold headI
  by_cases h1 : walB q = noS
  · rw [if_pos h1]; exact .inr rfl
  · rw [if_neg h1, if_neg (show ¬ (dP x fs).down = true from by simp [dP, lone])]
    refine .inl ?_
    rw [if_pos]
    intro hh
    have hne : walB q ≠ wal1 := fun e => by
      rw [← wal1_eq] at e
      have e2 : walN q = walN 1 := by
        unfold walB at e
        have := congrArg (fun b : ByteArray => b.data.toList) e
        simpa using this
      by_cases hr : 1 ≤ q ∧ q ≤ 2147483647
      · exact hq (walN_inj hr.1 hr.2 (by omega) (by omega) e2)
      · exact h1 (wal_out hr)
    unfold AD.has at hh
    simp only [dP, lone, idxN, List.findIdx_cons, List.findIdx_nil, List.length_cons, List.length_nil] at hh
    have hb : decide (wal1 = walB q) = false := decide_eq_false (Ne.symm hne)
    simp [hb] at hh
section
variable {x : Int} {ls : List (List Int)} {fs : List Int}
structure Sect (x : Int) (ls : List (List Int)) (fs : List Int) : Prop where
  u : U64 x
  ne : x ≠ 0
  good : GoodF ls ls.length
  few : ∀ z ∈ ls, z.length ≤ 512
  bytes : isB fs
  len : fs.length = 16 * 64
  eq : wholeK x (bodyF (x % 4294967296) ls) (touchN 0 (endF ls)).2 16 = fs
theorem Sect.good_d (s : Sect x ls fs) : Good (dP x fs) := dP_good s.u s.ne s.len (bytes_of_mem s.bytes)
theorem Sect.told (s : Sect x ls fs) : (scOf x 16 fs).recs = ls ∧ (scOf x 16 fs).places = placesF ls := by
  obtain ⟨t1, t2, _, _⟩ := told_whole s.u s.ne s.good s.few
  rw [s.eq] at t1 t2
  exact ⟨t1, t2⟩
theorem dp_all (H : DiskSays DK) (s : Sect x ls fs) (w : World) (p : Addr) (F : Nat → Bool) (h : DK w p F (dP x fs)) (hv : VT w) :
    Calls Tryz.prog 11 #[ptr p, .int .i64 1] w fun r w' => ∃ rv pv e k, r = .returned (.tuple #[.agg (tA rv pv e k), .int .i64 0]) ∧ RL .u8 w' rv ls.length ls ∧ RI .i64 w' pv ls.length (placesF ls) ∧ Below w.heap.size w w' := by
  obtain ⟨h1, h2⟩ := dP_one s.u s.ne fs
  obtain ⟨t1, t2⟩ := s.told
  have h0 := rall_any H w p F (dP x fs) 1 h s.good_d hv (by unfold I63; omega) (by rw [h2]; exact s.bytes) (by rw [h1]; exact s.u)
  refine h0.mono fun r w' hr => ?_
  unfold AllF at hr
  rw [h1, h2] at hr
  rcases hr with ⟨hn, _⟩ | ⟨_, a, rfl, rv, pv, es, ha, g1, g2, g3, g4⟩
  · exact absurd rfl hn
  · have g2 : es.map Prod.fst = (scOf x 16 fs).recs := g2
    have g3 : w'.ownsRow w.heap.size 3 1 pv (scOf x 16 fs).places.length (il .i64 (scOf x 16 fs).places) := g3
    obtain rfl : a = .agg (tA rv pv ((scOf x 16 fs).fin : Nat) (scKind 16 fs (scOf x 16 fs).fin)) := by injection ha
    have hr := g1.rl_ g2
    have hp := RI.own g3
    rw [t1] at hr
    rw [t2, placesF_len] at hp
    exact ⟨rv, pv, _, _, rfl, hr, hp, g4⟩
theorem dp_all_no (H : DiskSays DK) (s : Sect x ls fs) {q : Int} (hq : I63 q) (hn : q ≠ 1) {e : Int} (he : (headI (dP x fs) q).2 = e) (hbd : isB (dataI (dP x fs) q)) (w : World) (p : Addr) (F : Nat → Bool) (h : DK w p F (dP x fs)) (hv : VT w) :
    Calls Tryz.prog 11 #[ptr p, .int .i64 q] w fun r w' => r = .returned (.tuple #[.agg (tA (.slice none 0 0) (.slice none 0 0) 0 0), .int .i64 e]) ∧ Below w.heap.size w w' := by
  have h0 := rall_any H w p F (dP x fs) q h s.good_d hv hq hbd (headI_typed s.good_d q).e
  refine h0.mono fun r w' hr => ?_
  unfold AllF at hr
  rw [he] at hr
  have := dP_other (x := x) (fs := fs) hn
  rw [he] at this
  rcases hr with ⟨_, h1, h2⟩ | ⟨h1, _⟩
  · exact ⟨h1, h2⟩
  · omega
theorem dp_read_no (H : DiskSays DK) (s : Sect x ls fs) {q : Int} (hq : I63 q) (hn : q ≠ 1) {e : Int} (he : (headI (dP x fs) q).2 = e) (hbd : isB (dataI (dP x fs) q)) (a : Int) (w : World) (p : Addr) (F : Nat → Bool) (h : DK w p F (dP x fs)) (hv : VT w) :
    Calls Tryz.prog 13 #[ptr p, .agg #[.int .i64 q, .int .i64 a]] w fun r w' => r = .returned (.tuple #[.slice none 0 0, .int .i64 e]) ∧ Below w.heap.size w w' := by
  have h0 := rread_any H w p F (dP x fs) q a h s.good_d hv hq hbd (headI_typed s.good_d q).e
  refine h0.mono fun r w' hr => ?_
  unfold ReadF at hr
  rw [he] at hr
  have := dP_other (x := x) (fs := fs) hn
  rw [he] at this
  rcases hr with ⟨_, h1, h2⟩ | ⟨h1, _⟩
  · exact ⟨h1, h2⟩
  · omega
theorem dp_read (H : DiskSays DK) (s : Sect x ls fs) (a : Int) (w : World) (p : Addr) (F : Nat → Bool) (h : DK w p F (dP x fs)) (hv : VT w) :
    Calls Tryz.prog 13 #[ptr p, .agg #[.int .i64 1, .int .i64 a]] w fun r w' => Below w.heap.size w w' ∧ match rdAt (x % 4294967296) (flatB x 16 fs 16) (flatK x 16 fs 16) a with
      | none => r = .returned (.tuple #[.slice none 0 0, .int .i64 12])
      | some (z, _) => ∃ y c, r = .returned (.tuple #[.slice y z.length c, .int .i64 0]) ∧ w'.ownsRow w.heap.size 5 1 (.slice y z.length c) z.length (il .u8 z) := by
  obtain ⟨h1, h2⟩ := dP_one s.u s.ne fs
  have h0 := rread_any H w p F (dP x fs) 1 a h s.good_d hv (by unfold I63; omega) (by rw [h2]; exact s.bytes) (by rw [h1]; exact s.u)
  refine h0.mono fun r w' hr => ?_
  unfold ReadF at hr
  rw [h1, h2] at hr
  rcases hr with ⟨hn, _⟩ | ⟨_, h3⟩
  · exact absurd rfl hn
  · exact h3
theorem dp_read_at (H : DiskSays DK) (s : Sect x ls fs) {i : Nat} (hi : i < ls.length) (w : World) (p : Addr) (F : Nat → Bool) (h : DK w p F (dP x fs)) (hv : VT w) :
    Calls Tryz.prog 13 #[ptr p, .agg #[.int .i64 1, .int .i64 ((placesF ls).getD i 0)]] w fun r w' => ∃ y c, r = .returned (.tuple #[.slice y (ls.getD i []).length c, .int .i64 0]) ∧ RI .u8 w' (.slice y (ls.getD i []).length c) (ls.getD i []).length (ls.getD i []) ∧ Below w.heap.size w w' := by
  obtain ⟨_, e, h2, _⟩ := whole_stands s.u s.ne s.good s.few s.eq s.len hi
  have hp : (placesF ls).getD i 0 = ((beginN (endF (ls.take i)) : Nat) : Int) := by simp [placesF, List.getD, hi]
  rw [hp]
  refine (dp_read H s _ w p F h hv).mono fun r w' hr => ?_
  rw [h2] at hr
  obtain ⟨hb, y, c, h3, h4⟩ := hr
  exact ⟨y, c, h3, RI.own h4, hb⟩
theorem dp_read_ref (H : DiskSays DK) (s : Sect x ls fs) (a : Int) : ∃ (y1 : Bool) (z : List Int) (en : Nat) (er : Int), (if y1 = true then er = 0 else er = 12) ∧ (∀ w p F, DK w p F (dP x fs) → VT w → Calls Tryz.prog 13 #[ptr p, .agg #[.int .i64 1, .int .i64 a]] w fun r w' => ∃ u, r = .returned (.tuple #[u, .int .i64 er]) ∧ RI .u8 w' u z.length z ∧ Below w.heap.size w w') ∧
    (∀ w v, FS w v 16 fs → Calls Tryz.prog 14 #[.int .u64 x, v, .int .i64 a] w fun r w' => ∃ u, r = .returned (.tuple #[u, .int .i64 (en : Nat), .bool y1]) ∧ RI .u8 w' u z.length z ∧ Below w.heap.size w w') := by
  have h1 := dp_read H s a
  have h2 : ∀ w v, FS w v 16 fs → Calls Tryz.prog 14 #[.int .u64 x, v, .int .i64 a] w (FromF (rdAt (x % 4294967296) (flatB x 16 fs 16) (flatK x 16 fs 16) a) w) := fun w v h => rfrom_any x s.u v 16 fs s.bytes w h a
  generalize rdAt (x % 4294967296) (flatB x 16 fs 16) (flatK x 16 fs 16) a = R at *
  cases R with
  | none => exact ⟨false, [], 0, 12, rfl, fun w p F k1 k2 => (h1 w p F k1 k2).mono fun r w' ⟨j1, j2⟩ => ⟨_, j2, RI.own (World.ownsRow_nil w' 0 5 1), j1⟩, fun w v k => (h2 w v k).mono fun r w' ⟨j1, j2⟩ => ⟨_, j2, RI.own (World.ownsRow_nil w' 0 5 1), j1⟩⟩
  | some t =>
    obtain ⟨z, en⟩ := t
    exact ⟨true, z, en, 0, rfl, fun w p F k1 k2 => (h1 w p F k1 k2).mono fun r w' ⟨j1, y, c, j2, j3⟩ => ⟨_, j2, RI.own j3, j1⟩, fun w v k => (h2 w v k).mono fun r w' ⟨j1, y, c, j2, j3⟩ => ⟨_, j2, RI.own j3, j1⟩⟩
theorem dp_make (H : DiskSays DK) : Hid (∀ w p F, DK w p F (AD.newD 17) → Calls Tryz.prog 8 #[ptr p, .string wal1, .int .i64 17] w fun e w' => ∃ F', e = .returned (.int .i64 0) ∧ DK w' p F' dM ∧ Ext F w w' F') := Lib.hid fun w p F h => by
  have := H.make w p F (AD.newD 17) wal1 17 h (Good.new 17 (by unfold I63; omega)) wal1_size (by unfold I63; omega)
  rwa [lone_make] at this
theorem dp_prep (H : DiskSays DK) (s : Sect x ls fs) (W0 : World) (hvt : VT W0) : Hid (∀ w p F v, DK w p F dM → Ext (fun _ => false) W0 w F → FS w v 16 fs → Calls Tryz.prog 9 #[ptr p, .string wal1, .agg (hv (hW 1 x)), v] w fun e w' => ∃ F', e = .returned (.int .i64 0) ∧ DK w' p F' (dP x fs) ∧ Ext F w w' F') := Lib.hid fun w p F v h hx hf => by
  have := sprep_any H W0 w p F dM wal1 (hW 1 x) v 16 fs h dM_good hvt hx wal1_size (hW_typed s.u) hf (bytes_of_mem s.bytes) (by omega)
  rwa [dM_prep s.ne] at this
end
end Go.Proofs.YtnmplnemnfonfaaGreatDoor
namespace Go.Proofs.YtnmplnemnfonfaaGreatDoor
open Go.RowKit
variable {DK : World → Addr → (Nat → Bool) → AD → Prop}
theorem wpl_box_sy {ops : Array Oper} {rest : List Oper} {o : Oper} {a : Act} {Q : Exit → Act → World → Prop} {w : World} (hg : o.guard = none) (x : Operand) (ho : o.op = .box 26 x) (cs : Array Value) (hx : a.eval x = .agg cs)
    (h : wpList Tryz.prog ops Q rest (a.put o.dst (.pointer (some ⟨w.heap.size, 0, none⟩))) (w.alloc (.cells cs 26))) : wpList Tryz.prog ops Q (o :: rest) a w :=
  wpList_plain hg fun _ hK => by
    unfold Oper.wp execOp
    simp only [ho, hx]
    simp [go_sem]
    exact hK _ _ h
theorem pl_info (c : Array Value) (h : c.size = 2) : (Tryz.prog.info? 28).map (·.size) = some c.size := by rw [h]; kernel_rfl
structure AL (w : World) (g1 g2 : Nat) (x : Int) (lv : Value) (N q a : Int) : Prop where
  sy : w.heap[g1]? = some (.cells #[.int .u64 x, lv, .int .u64 N] 26 (0, 0))
  pl : w.heap[g2]? = some (.cells #[.int .i64 q, .int .i64 a] 28 (0, 0))
theorem AL.keep {w w' : World} {g1 g2 : Nat} {x : Int} {lv : Value} {N q a : Int} (h : AL w g1 g2 x lv N q a) (hb : Below w.heap.size w w') : AL w' g1 g2 x lv N q a :=
  ⟨(hb.block _ (Array.getElem?_eq_some_iff.1 h.sy).1).trans h.sy, (hb.block _ (Array.getElem?_eq_some_iff.1 h.pl).1).trans h.pl⟩
theorem AL.cells {w : World} {g1 g2 : Nat} {x : Int} {lv : Value} {N q a : Int} (h : AL w g1 g2 x lv N q a) : w.cell? ⟨g1, 0, none⟩ = some (.int .u64 x) ∧ w.cell? ⟨g1, 1, none⟩ = some lv ∧ w.cell? ⟨g2, 0, none⟩ = some (.int .i64 q) ∧ w.cell? ⟨g2, 1, none⟩ = some (.int .i64 a) :=
  ⟨cell_of_row w g1 0 _ _ _ h.sy, cell_of_row w g1 1 _ _ _ h.sy, cell_of_row w g2 0 _ _ _ h.pl, cell_of_row w g2 1 _ _ _ h.pl⟩
structure LD (DK : World → Addr → (Nat → Bool) → AD → Prop) (w0 : World) (p : Addr) (F : Nat → Bool) (d : AD) (w : World) : Prop where
  dk : DK w p F d
  ex : Ext (fun _ => false) w0 w F
theorem LD.next (H : DiskSays DK) {w0 : World} {p : Addr} {F : Nat → Bool} {d : AD} {w w' : World} (h : LD DK w0 p F d w) (hb : Below w.heap.size w w') : LD DK w0 p F d w' := ⟨H.below h.dk hb, h.ex.trans (Ext.below hb)⟩
theorem dataI_isB {d : AD} (hg : Good d) (q : Int) : isB (dataI d q) := by
  unfold dataI AD.get
  cases h : d.L[idxN d.L (walB q)]? with
  | none =>
    intro y hy
    simp [newF] at hy
  | some f => exact (bytes_isB (hg.file f (List.mem_of_getElem? h)).bseen).drop 64
set_option maxRecDepth 8000 in
set_option maxHeartbeats 8000000 in
theorem reads_walk (H : DiskSays DK) (x : Int) (hx : U64 x) (la : Option Addr) (n lc : Nat) (ls : List (List Int)) (hlb : ∀ l ∈ ls, isB l) (N q a : Int) (hq : I63 q) (W : World) (h : RL .u8 W (.slice la n lc) n ls) (hvt : VT W) :
    Calls Tryz.prog 3 #[.agg #[.int .u64 x, .slice la n lc, .int .u64 N], .agg #[.int .i64 q, .int .i64 a]] W fun r w' => r = .returned (.bool true) ∧ Below W.heap.size W w' := by
  have hH := Lib.hid H
  have hln := h.length
  have hN : (n : Int) ≤ 9223372036854775807 := by have := h.le; omega
  obtain ⟨wa, hwa⟩ : ∃ g, W.alloc (.cells #[.int .u64 x, .slice la n lc, .int .u64 N] 26) = g := ⟨_, rfl⟩
  obtain ⟨w0, hw0⟩ : ∃ g, wa.alloc (.cells #[.int .i64 q, .int .i64 a] 28) = g := ⟨_, rfl⟩
  have hb1 : Below W.heap.size W wa := by rw [← hwa]; exact balloc _ _
  have hb2 : Below wa.heap.size wa w0 := by rw [← hw0]; exact balloc _ _
  have hsz : wa.heap.size = W.heap.size + 1 := by rw [← hwa]; simp
  have hAL : AL w0 W.heap.size wa.heap.size x (.slice la n lc) N q a := ⟨by rw [hb2.block _ (by omega), ← hwa]; exact heap_alloc_last _ _, by rw [← hw0]; exact heap_alloc_last _ _⟩
  have hb0 : Below W.heap.size W w0 := bch hb1 hb2
  have HB0 := Lib.hid hb0
  have HA0 := Lib.hid hAL
  have HV := Lib.hid (hvt.on hb0)
  have HL := Lib.hid (h.keep hb0)
  have HAW : Hid (∀ w, Below w0.heap.size w0 w → Calls Tryz.prog 6 #[] w fun r w' => r = .returned (.bool true) ∧ Below w.heap.size w w') := Lib.hid fun w hb => rd_awake w ((hvt.on hb0).on hb).tab
  have HFW : Hid (∀ w, Below w0.heap.size w0 w → Calls Tryz.prog 5 #[.slice la n lc] w fun r w' => r = .returned (.bool (fewB ls)) ∧ Below w.heap.size w w') := Lib.hid fun w hb => few_any _ n ls w (HL.out.keep hb)
  have HS := rsectors_any x hx (.slice la n lc) n ls hN hlb w0 HL.out
  unfold SecF at HS
  obtain ⟨g1, hg1⟩ : ∃ g, W.heap.size = g := ⟨_, rfl⟩
  obtain ⟨g2, hg2⟩ : ∃ g, wa.heap.size = g := ⟨_, rfl⟩
  have HAL : Hid (AL w0 g1 g2 x (.slice la n lc) N q a) := Lib.hid (by rw [← hg1, ← hg2]; exact hAL)
  have c00 := HAL.out.cells.1
  have c01 := HAL.out.cells.2.1
  clear hAL hb1 hb2 hsz hb0 h hvt HA0
  cases hf : fitsF ls with
  | false =>
    have HS0 : Hid (Calls Tryz.prog 4 #[.int .u64 x, .slice la n lc] w0 fun r w' => r = .returned (.tuple #[.slice none 0 0, .bool false]) ∧ Below w0.heap.size w0 w') := Lib.hid (HS.mono fun r w' h => by
      rcases h with ⟨h1, _⟩ | ⟨_, h1, h2⟩
      · rw [hf] at h1; cases h1
      · exact ⟨h1, h2⟩)
    clear HS hf hx hlb hN hln
    go_enter Tryz.func3, Tryz.ntmps3
    go_wp2_with (first
      | (refine wpl_box_sy rfl (.tmp 0) rfl #[.int .u64 x, .slice la n lc, .int .u64 N] rfl ?_; rw [hwa, hg1])
      | (refine wpl_box_pl rfl (.tmp 1) rfl #[.int .i64 q, .int .i64 a] rfl ?_; rw [hw0, hg2])
      | (go_at_call 4; (refine HS0.out.mono ?_); rintro r w1 ⟨rfl, hb⟩; have HB1 := Lib.hid hb; clear hb)
      | (go_at_call 6; (refine (HAW.out _ HB1.out).mono ?_); rintro r w3 ⟨rfl, hb⟩; have HB3 := Lib.hid (bch HB1.out hb); clear hb))
    go_ret
    exact ⟨rfl, bch HB0.out HB3.out⟩
  | true =>
    have hgo := (fitsF_iff ls).1 hf
    obtain ⟨fs, hfs⟩ : ∃ fs, wholeK x (bodyF (x % 4294967296) ls) (touchN 0 (endF ls)).2 16 = fs := ⟨_, rfl⟩
    have hbf : isB fs := by
      have hb0 := bodyF_bytes (ep := x % 4294967296) ls hlb ls.length (Nat.le_refl _)
      rw [List.take_length] at hb0
      rw [← hfs]
      exact sc_whole_bytes x _ hb0 _ 16
    have HS0 : Hid (Calls Tryz.prog 4 #[.int .u64 x, .slice la n lc] w0 fun r w' => ∃ a c, r = .returned (.tuple #[.slice a 16 c, .bool true]) ∧ FS w' (.slice a 16 c) 16 fs ∧ Below w0.heap.size w0 w') := Lib.hid (HS.mono fun r w' h => by
      rcases h with ⟨_, v, h1, h2, h3⟩ | ⟨h1, _⟩
      · rw [hfs] at h2
        obtain ⟨a, c, rfl, _⟩ := id h2
        exact ⟨a, c, h1, h2, h3⟩
      · rw [hf] at h1; cases h1)
    clear HS
    cases hw : fewB ls with
    | false =>
      rw [hw] at HFW
      clear hf hx hlb hN hln hgo hfs hbf hw
      go_enter Tryz.func3, Tryz.ntmps3
      go_wp2_with (first
        | (refine wpl_box_sy rfl (.tmp 0) rfl #[.int .u64 x, .slice la n lc, .int .u64 N] rfl ?_; rw [hwa, hg1])
        | (refine wpl_box_pl rfl (.tmp 1) rfl #[.int .i64 q, .int .i64 a] rfl ?_; rw [hw0, hg2])
        | (go_at_call 4; (refine HS0.out.mono ?_); rintro r w1 ⟨sa, sc, rfl, _, hb⟩; have c10 := (HAL.out.keep hb).cells.2.1; have HB1 := Lib.hid hb; clear hb)
        | (go_at_call 5; (refine (HFW.out _ HB1.out).mono ?_); rintro r w2 ⟨rfl, hb⟩; have HB2 := Lib.hid (bch HB1.out hb); clear hb)
        | (go_at_call 6; (refine (HAW.out _ HB2.out).mono ?_); rintro r w3 ⟨rfl, hb⟩; have HB3 := Lib.hid (bch HB2.out hb); clear hb))
      go_ret
      exact ⟨rfl, bch HB0.out HB3.out⟩
    | true =>
      rw [hw] at HFW
      by_cases hx0 : x = 0
      · subst hx0
        clear hf hx hlb hN hln hgo hfs hbf hw
        go_enter Tryz.func3, Tryz.ntmps3
        go_wp2_with (first
          | (refine wpl_box_sy rfl (.tmp 0) rfl #[.int .u64 0, .slice la n lc, .int .u64 N] rfl ?_; rw [hwa, hg1])
          | (refine wpl_box_pl rfl (.tmp 1) rfl #[.int .i64 q, .int .i64 a] rfl ?_; rw [hw0, hg2])
          | (go_at_call 4; (refine HS0.out.mono ?_); rintro r w1 ⟨sa, sc, rfl, _, hb⟩; have c10 := (HAL.out.keep hb).cells.2.1; have HB1 := Lib.hid hb; clear hb)
          | (go_at_call 5; (refine (HFW.out _ HB1.out).mono ?_); rintro r w2 ⟨rfl, hb⟩; have c20 := (HAL.out.keep (bch HB1.out hb)).cells.1; have HB2 := Lib.hid (bch HB1.out hb); clear hb)
          | (go_at_call 6; (refine (HAW.out _ HB2.out).mono ?_); rintro r w3 ⟨rfl, hb⟩; have HB3 := Lib.hid (bch HB2.out hb); clear hb))
        go_ret
        exact ⟨rfl, bch HB0.out HB3.out⟩
      · have hfew := fewB_parts hw
        have SE : Sect x ls fs := ⟨hx, hx0, hgo, hfew.2, hbf, by rw [← hfs]; exact wholeK_length _ _ _ _, hfs⟩
        have hx1 : (x == 0) = false := by simpa using hx0
        have HSE := Lib.hid SE
        have HMK := dp_make H
        have HPR : Hid (∀ (w2 : World), Below w0.heap.size w0 w2 → ∀ w p F v, DK w p F dM → Ext (fun _ => false) w2 w F → FS w v 16 fs → _) := Lib.hid fun w2 hb2 => (dp_prep H SE w2 (HV.out.on hb2)).out
        have HSAME : Hid (∀ (w : World) (va vb : Value), RL .u8 w va n ls → RL .u8 w vb n ls → Calls Tryz.prog 12 #[va, vb] w fun r w' => r = .returned (.bool true) ∧ Below w.heap.size w w') := Lib.hid fun w va vb h1 h2 => (same_any va vb n n ls ls w h1 h2 hlb hlb).mono fun r w' ⟨h1, h2⟩ => ⟨by rw [h1]; simp, h2⟩
        have HNEW : Hid (∀ w, Calls Tryz.prog 7 #[.int .i64 17] w fun e w' => ∃ p F, e = .returned (ptr p) ∧ DK w' p F (AD.newD 17) ∧ Ext noF w w' F) := Lib.hid fun w => H.new 17 w (by unfold I63; omega)
        have HALL : Hid (∀ w p F, DK w p F (dP x fs) → VT w → Calls Tryz.prog 11 #[ptr p, .int .i64 1] w fun r w' => ∃ rv pv e k, r = .returned (.tuple #[.agg (tA rv pv e k), .int .i64 0]) ∧ RL .u8 w' rv n ls ∧ RI .i64 w' pv n (placesF ls) ∧ Below w.heap.size w w') := Lib.hid fun w p F h1 h2 => by
          have := dp_all H SE w p F h1 h2; rwa [hln] at this
        have HRD : Hid (∀ i, i < n → ∀ w p F, DK w p F (dP x fs) → VT w → Calls Tryz.prog 13 #[ptr p, .agg #[.int .i64 1, .int .i64 ((placesF ls).getD i 0)]] w fun r w' => ∃ y c, r = .returned (.tuple #[.slice y (ls.getD i []).length c, .int .i64 0]) ∧ RI .u8 w' (.slice y (ls.getD i []).length c) (ls.getD i []).length (ls.getD i []) ∧ Below w.heap.size w w') := Lib.hid fun i hi w p F h1 h2 => dp_read_at H SE (by omega) w p F h1 h2
        have HRAF := Lib.hid (dp_read_ref H SE a)
        have HOTH : Hid (q ≠ 1 → ∃ e : Int, (e = 7 ∨ e = 13) ∧ (∀ w p F, DK w p F (dP x fs) → VT w → Calls Tryz.prog 13 #[ptr p, .agg #[.int .i64 q, .int .i64 a]] w fun r w' => r = .returned (.tuple #[.slice none 0 0, .int .i64 e]) ∧ Below w.heap.size w w') ∧
            (∀ w p F, DK w p F (dP x fs) → VT w → Calls Tryz.prog 11 #[ptr p, .int .i64 q] w fun r w' => r = .returned (.tuple #[.agg (tA (.slice none 0 0) (.slice none 0 0) 0 0), .int .i64 e]) ∧ Below w.heap.size w w')) := Lib.hid fun hn =>
          ⟨_, dP_other (x := x) (fs := fs) hn, fun w p F h1 h2 => dp_read_no H SE hq hn rfl (dataI_isB SE.good_d q) a w p F h1 h2, fun w p F h1 h2 => dp_all_no H SE hq hn rfl (dataI_isB SE.good_d q) w p F h1 h2⟩
        obtain ⟨P, hP⟩ : ∃ P, placesF ls = P := ⟨_, rfl⟩
        rw [hP] at HALL HRD
        clear hP
        clear hf hlb hN hln hgo hfs hbf hw hfew SE hx0
        go_enter Tryz.func3, Tryz.ntmps3
        go_wp2_with (first
          | (refine wpl_box_sy rfl (.tmp 0) rfl #[.int .u64 x, .slice la n lc, .int .u64 N] rfl ?_; rw [hwa, hg1])
          | (refine wpl_box_pl rfl (.tmp 1) rfl #[.int .i64 q, .int .i64 a] rfl ?_; rw [hw0, hg2])
          | (go_at_call 4; (refine HS0.out.mono ?_); rintro r w1 ⟨sa, sc, rfl, hfs1, hb⟩; have c10 := (HAL.out.keep hb).cells.2.1; have HF1 := Lib.hid hfs1; have HB1 := Lib.hid hb; clear hb hfs1)
          | (go_at_call 5; (refine (HFW.out _ HB1.out).mono ?_); rintro r w2 ⟨rfl, hb⟩; have c20 := (HAL.out.keep (bch HB1.out hb)).cells.1; have HF2 := Lib.hid (HF1.out.keep hb); have HB2 := Lib.hid (bch HB1.out hb); have HA2 := Lib.hid (HAL.out.keep HB2.out); have HVT := Lib.hid (fun (w : World) (F : Nat → Bool) (hx : Ext (fun _ => false) w2 w F) => VT.ext (HV.out.on HB2.out) hx); clear hb)
          | (go_at_call 7; (with_reducible refine (HNEW.out _).mono ?_); rintro e w3 ⟨p, F3, rfl, k3, x3⟩; have L3 := Lib.hid (show LD DK w2 p F3 (AD.newD 17) w3 from ⟨k3, x3⟩); clear k3 x3)
          | (go_at_call 8; (with_reducible refine (HMK.out _ _ _ L3.out.dk).mono ?_); rintro e w4 ⟨F4, rfl, k4, x4⟩; have L4 := Lib.hid (show LD DK w2 p F4 dM w4 from ⟨k4, L3.out.ex.trans x4⟩); have c40 := (HA2.out.keep L4.out.ex.bel).cells.1; clear k4 x4)
          | (go_at_call 10; (with_reducible refine (rheader_any 1 x _).mono ?_); rintro e w5 ⟨rfl, hb⟩; have L5 := Lib.hid (L4.out.next hH.out hb); clear hb)
          | (go_at_call 9; (with_reducible refine (HPR.out w2 HB2.out _ _ _ _ L5.out.dk L5.out.ex (HF2.out.keep L5.out.ex.bel)).mono ?_); rintro e w6 ⟨F6, rfl, k6, x6⟩; have L6 := Lib.hid (show LD DK w2 p F6 (dP x fs) w6 from ⟨k6, L5.out.ex.trans x6⟩); clear k6 x6)
          | (go_at_call 11; (with_reducible refine (HALL.out _ _ _ L6.out.dk (HVT.out _ _ L6.out.ex)).mono ?_); rintro r w7 ⟨rv, pv, fin, kd, rfl, hr, hp, hb⟩; obtain ⟨ra, rc, rfl, _⟩ := hr.form; obtain ⟨pa, pc, rfl⟩ : ∃ a c, pv = .slice a n c := (by obtain ⟨a, c, z, _⟩ := hp; exact ⟨a, c, z⟩); have HR7 := Lib.hid hr; have HP7 := Lib.hid hp; have L7 := Lib.hid (L6.out.next hH.out hb); clear hr hp hb)
          | (refine wpList_store_row rfl 45 _ _ rfl w7.heap.size (tA (.slice ra n rc) (.slice pa n pc) fin kd) rfl rfl _ _ (heap_alloc_last w7 _) (told_info' _ rfl) rfl (told_one _ _ _ _ _ _ _ _) ?_; obtain ⟨w8, hw8⟩ : ∃ g, World.setRow (w7.alloc (.cells (tA (.slice none 0 0) (.slice none 0 0) 0 0) 45)) w7.heap.size (tA (.slice ra n rc) (.slice pa n pc) fin kd) = g := ⟨_, rfl⟩; rw [hw8]; have hb8 : Below w7.heap.size w7 w8 := hw8 ▸ bnew _ _ _; have hk8 : w8.heap[w7.heap.size]? = some (.cells (tA (.slice ra n rc) (.slice pa n pc) fin kd) 45 (0, 0)) := hw8 ▸ setRow_heap _ _ _ _ _ _ (heap_alloc_last w7 _); have y80 := cell_of_row w8 w7.heap.size 0 _ _ _ hk8; have HK8 := Lib.hid hk8; have HR8 := Lib.hid (HR7.out.keep hb8); have HP8 := Lib.hid (HP7.out.keep hb8); have L8 := Lib.hid (L7.out.next hH.out hb8); have c81 := (HA2.out.keep L8.out.ex.bel).cells.2.1; clear hb8 hk8 hw8 HR7 HP7)
          | (go_at_call 12; (refine (HSAME.out _ _ _ HR8.out (HL.out.keep (bch HB2.out L8.out.ex.bel))).mono ?_); rintro r w9 ⟨rfl, hb⟩; have hk9 := (hb.block _ (Array.getElem?_eq_some_iff.1 HK8.out).1).trans HK8.out; have y91 := cell_of_row w9 w7.heap.size 1 _ _ _ hk9; have HP9 := Lib.hid (HP8.out.keep hb); have L9 := Lib.hid (L8.out.next hH.out hb); have c91 := (HA2.out.keep L9.out.ex.bel).cells.2.1; clear hb hk9))
        obtain ⟨g8, hg8⟩ : ∃ g, w7.heap.size = g := ⟨_, rfl⟩
        rw [hg8] at y91
        rw [hg8]
        have HY9 := Lib.hid (show w9.cell? ⟨g8, 1, none⟩ = some (.slice pa n pc) ∧ w9.cell? ⟨g1, 1, none⟩ = some (.slice la n lc) from ⟨y91, c91⟩)
        have HL9 := Lib.hid (HL.out.keep (bch HB2.out L9.out.ex.bel))
        have HB9 := Lib.hid (bch HB2.out L9.out.ex.bel)
        clear y91 c91 y80 c81 c40 c20 c10 c00 c01 hg8 HK8 HR8 HP8 L3 L4 L5 L6 L7 L8 HS0 HFW HNEW HMK HPR HALL HSAME hwa hw0 hg1 hg2
        go_loopw [10] (fun iv wr => ∃ i : Nat, iv = .int .i64 (i : Int) ∧ i ≤ n ∧ Hid (Below w9.heap.size w9 wr)) (fun iv _ => n - (intOf iv).toNat)
        case atStart => exact ⟨0, rfl, by omega, Lib.hid (Below.refl _ _)⟩
        case round =>
          obtain ⟨i, rfl, hi, HB⟩ := hrel
          have y1 := cell_keep HB.out HY9.out.2
          have LR := Lib.hid (L9.out.next hH.out HB.out)
          by_cases hlt : (i : Int) < (n : Int)
          · obtain ⟨b, off, rfl, hat⟩ := (HL9.out.keep HB.out).at_ (by omega)
            obtain ⟨b', off', rfl, hcell'⟩ := (HP9.out.keep HB.out).at_ (by omega)
            obtain ⟨ea, ec, hec, hee⟩ := hat i (by omega)
            have hrd := HRD.out i (by omega)
            obtain ⟨pz, hpz⟩ : ∃ z, P.getD i 0 = z := ⟨_, rfl⟩
            have y2 := hcell' i (by omega)
            rw [hpz] at y2 hrd
            generalize ls.getD i [] = rz at *
            have y3 := cell_keep HB.out HY9.out.1
            have HFR := Lib.hid hrd
            have HRC := Lib.hid (show wr.cell? ⟨b, off + i, none⟩ = some (.slice ea rz.length ec) ∧ RI .u8 wr (.slice ea rz.length ec) rz.length rz from ⟨hec, hee⟩)
            clear hat hcell' hec hee hrd hpz
            go_wp2_with (first
              | (go_at_call 13; (refine (HFR.out _ _ _ LR.out.dk (HVT.out _ _ LR.out.ex)).mono ?_); rintro r w5 ⟨ya, yc, rfl, hr5, hb5⟩; have HST5 := Lib.hid (show w5.drew.cell? ⟨g1, 1, none⟩ = some (.slice (some ⟨b, off, none⟩) n lc) ∧ w5.drew.cell? ⟨b, off + i, none⟩ = some (.slice ea rz.length ec) ∧ RI .u8 w5.drew (.slice ya rz.length yc) rz.length rz ∧ RI .u8 w5.drew (.slice ea rz.length ec) rz.length rz ∧ Below wr.heap.size wr w5.drew from ⟨cell_keep hb5.drew (cell_keep HB.out HY9.out.2), cell_keep hb5.drew HRC.out.1, hr5.keep (Below.refl _ w5).drew, HRC.out.2.keep hb5.drew, hb5.drew⟩); clear hr5 hb5))
            clear y1 y2 y3
            refine wp_region_held_drew (S := (fun w' => w'.cell? ⟨g1, 1, none⟩ = some (.slice (some ⟨b, off, none⟩) n lc) ∧ w'.cell? ⟨b, off + i, none⟩ = some (.slice ea rz.length ec) ∧ RI .u8 w' (.slice ya rz.length yc) rz.length rz ∧ RI .u8 w' (.slice ea rz.length ec) rz.length rz ∧ Below wr.heap.size wr w')) (by kernel_rfl) HST5.out (fun hS => ?_)
            refine rgw 0 ⟨some 97, .move (.tmp 12), 36, _, _, none⟩ hS ?_
            refine rgw 1 ⟨some 98, .binOp .neq 36 (.tmp 97) (.const (.int .i64 0)) 36, 4, _, _, none⟩ hS ?_
            refine rgw 2 ⟨some 99, .move (.tmp 98), 4, _, _, none⟩ hS ?_
            refine rgw 3 ⟨some 100, .move (.tmp 11), 49, _, _, some (2, false)⟩ hS ?_
            refine rgw 4 ⟨some 101, .convert 49 9 (.tmp 100), 9, _, _, some (2, false)⟩ hS ?_ (hy := by intro w hSw; (try dsimp only at hSw); have hq := conv_ri hSw.2.2.1; go_simp; try with_reducible rfl)
            refine rgw 5 ⟨some 102, .fieldAddr 26 (.tmp 2) 1, 0, _, _, some (2, false)⟩ hS ?_
            refine rgw 6 ⟨some 103, .load 23 (.tmp 102), 23, _, _, some (2, false)⟩ hS ?_
            refine rgw 7 ⟨some 104, .move (.tmp 10), 3, _, _, some (2, false)⟩ hS ?_
            refine rgw 8 ⟨some 105, .indexAddr 23 (.tmp 103) (.tmp 104), 0, _, _, some (2, false)⟩ hS ?_
            refine rgw 9 ⟨some 106, .load 49 (.tmp 105), 49, _, _, some (2, false)⟩ hS ?_
            refine rgw 10 ⟨some 107, .convert 49 9 (.tmp 106), 9, _, _, some (2, false)⟩ hS ?_ (hy := by intro w hSw; (try dsimp only at hSw); have hq := conv_ri hSw.2.2.2.1; go_simp; try with_reducible rfl)
            refine rgw 11 ⟨some 108, .binOp .neq 9 (.tmp 101) (.tmp 107) 9, 4, _, _, some (2, false)⟩ hS ?_
            refine rgw 12 ⟨some 109, .pick (.tmp 99) (.const (.bool true)) (.tmp 108), 4, _, _, none⟩ hS ?_
            refine wpAnyH_done (by kernel_rfl) ?_ _
            have HB5 := Lib.hid (bch HB.out hS.2.2.2.2)
            clear hS
            go_wp2
            go_roundw
            case rel => exact ⟨i + 1, by go_num, by omega, HB5⟩
            case measure => simp [intOf]; omega
          · have HAR := Lib.hid (HA2.out.keep LR.out.ex.bel)
            have HFR := Lib.hid (HF2.out.keep LR.out.ex.bel)
            have HAWR : Hid (∀ w, Below wr.heap.size wr w → Calls Tryz.prog 6 #[] w fun r w' => r = .returned (.bool true) ∧ Below w.heap.size w w') := Lib.hid fun w hb => HAW.out w (bch (bch HB9.out HB.out) hb)
            have HBF : Hid (∀ w, Below wr.heap.size wr w → Below W.heap.size W w) := Lib.hid fun w hb => bch HB0.out (bch (bch HB9.out HB.out) hb)
            clear HRD HAW
            by_cases hq1 : q = 1
            · subst hq1
              obtain ⟨yy, z, en, er, her, hra, hrf⟩ := HRAF.out
              have HRA := Lib.hid hra
              have HRF := Lib.hid hrf
              have hcs : (yy = true ∧ er = 0) ∨ (yy = false ∧ er = 12) := by
                cases yy with
                | true => exact .inl ⟨rfl, her⟩
                | false => exact .inr ⟨rfl, her⟩
              clear hra hrf her HOTH HRAF hq
              rcases hcs with ⟨rfl, rfl⟩ | ⟨rfl, rfl⟩ <;> (
                go_wp2_with (first
                  | (refine wpList_load_row rfl 28 (.tmp 3) rfl g2 rfl _ #[.int .i64 1, .int .i64 a] (0, 0) _ HAR.out.pl Tryz.underlying28 rfl (pl_info _ rfl) ?_)
                  | (go_at_call 13; (refine (HRA.out _ _ _ LR.out.dk (HVT.out _ _ LR.out.ex)).mono ?_); rintro r v1 ⟨u1, rfl, hr, hb⟩; have HU1 := Lib.hid hr; have HC1 := Lib.hid hb; have d0 := (HAR.out.keep hb).cells.1; have d1 := (HAR.out.keep hb).cells.2.2.1; have d2 := (HAR.out.keep hb).cells.2.2.2; clear hr hb)
                  | (go_at_call 14; (refine (HRF.out _ _ (HFR.out.keep HC1.out)).mono ?_); rintro r v2 ⟨u2, rfl, hr, hb⟩; have q1 := conv_ri (HU1.out.keep hb); have q2 := conv_ri hr; have HC2 := Lib.hid (bch HC1.out hb); clear hr hb)
                  | (go_at_call 6; (refine (HAWR.out _ HC2.out).mono ?_); rintro r v3 ⟨rfl, hb⟩; have HC3 := Lib.hid (bch HC2.out hb); clear hb))
                go_ret
                exact ⟨rfl, HBF.out _ HC3.out⟩)
            · obtain ⟨er, her, hra, hal⟩ := HOTH.out hq1
              have HRA := Lib.hid hra
              have HAN := Lib.hid hal
              have hq2 : (q == 1) = false := by simpa using hq1
              clear hra hal HOTH HRAF hq
              rcases her with rfl | rfl <;> (
                go_wp2_with (first
                  | (refine wpList_load_row rfl 28 (.tmp 3) rfl g2 rfl _ #[.int .i64 q, .int .i64 a] (0, 0) _ HAR.out.pl Tryz.underlying28 rfl (pl_info _ rfl) ?_)
                  | (go_at_call 13; (refine (HRA.out _ _ _ LR.out.dk (HVT.out _ _ LR.out.ex)).mono ?_); rintro r v1 ⟨rfl, hb⟩; have HC1 := Lib.hid hb; have M1 := Lib.hid (LR.out.next hH.out hb); have d1 := (HAR.out.keep hb).cells.2.2.1; clear hb)
                  | (go_at_call 11; (refine (HAN.out _ _ _ M1.out.dk (HVT.out _ _ M1.out.ex)).mono ?_); rintro r v2 ⟨rfl, hb⟩; have HC2 := Lib.hid (bch HC1.out hb); clear hb)
                  | (refine wpList_store_row rfl 45 _ _ rfl v2.heap.size (tA (.slice none 0 0) (.slice none 0 0) 0 0) rfl rfl _ _ (heap_alloc_last v2 _) (told_info' _ rfl) rfl (told_one _ _ _ _ _ _ _ _) ?_; obtain ⟨v4, hv4⟩ : ∃ g, World.setRow (v2.alloc (.cells (tA (.slice none 0 0) (.slice none 0 0) 0 0) 45)) v2.heap.size (tA (.slice none 0 0) (.slice none 0 0) 0 0) = g := ⟨_, rfl⟩; rw [hv4]; have HC4 := Lib.hid (show Below wr.heap.size wr v4 from bch HC2.out (hv4 ▸ bnew _ _ _)); clear hv4)
                  | (go_at_call 6; (refine (HAWR.out _ HC4.out).mono ?_); rintro r v3 ⟨rfl, hb⟩; have HC3 := Lib.hid (bch HC4.out hb); clear hb))
                go_ret
                exact ⟨rfl, HBF.out _ HC3.out⟩)
end Go.Proofs.YtnmplnemnfonfaaGreatDoor
