/-
  TEXTS JOINED: DiskPlaySt, Pt, PoolRef, NameRef, HeadRightR, RefGet, HeadDecR. Each one's own words stand at its head.
-/
import Derived.Test.YtpoiapfgbbmekaaGreatDoorJ16
import Derived.Test.YtpoiapfgbbmekaaGreatDoorJ3
import Derived.Test.YtpoiapfgbbmekaaGreatDoorJ12
import Derived.Test.YtpoiapfgbbmekaaGreatDoorJ2
import Derived.Test.YtpoiapfgbbmekaaGreatDoorJ11
import Derived.Test.YtpoiapfgbbmekaaGreatDoorJ4
import Derived.Test.YtpoiapfgbbmekaaGreatDoorJ14
namespace Go.Proofs.YtpoiapfgbbmekaaGreatDoor
open Go.RowKit
variable {DK : World → Addr → (Nat → Bool) → AD → Prop}
structure PS (DK : World → Addr → (Nat → Bool) → AD → Prop) (W : World) (p : Addr) (g : Nat) (d : AD) (cb cr : Array Value) (F M : Nat → Bool) (w : World) : Prop where
  dk : DK w p F d
  good : Good d
  rd : RD (mask M w) (.agg cr) d
  sub : ∀ k, F k = true → M k = true
  foot : Foot M w.heap.size
  mg : M g = true
  fg : F g = false
  old : W.heap.size ≤ g
  db : DB w g cb
  ex : Ext noF W w F
  exm : Ext noF W w M
theorem PS.glt {W w : World} {p : Addr} {g : Nat} {d : AD} {cb cr : Array Value} {F M : Nat → Bool} (h : PS DK W p g d cb cr F M w) : g < w.heap.size := (Array.getElem?_eq_some_iff.1 h.db.1).1
theorem PS.next (H : DiskSays DK) {W w w' : World} {p : Addr} {g : Nat} {d : AD} {cb cr : Array Value} {F M : Nat → Bool} (h : PS DK W p g d cb cr F M w) (hb : Below w.heap.size w w') : PS DK W p g d cb cr F M w' :=
  ⟨H.below h.dk hb, h.good, h.rd.kin (kin_mask hb), h.sub, h.foot.mono hb.size, h.mg, h.fg, h.old, h.db.next hb, h.ex.trans (Ext.below hb), h.exm.trans (Ext.below hb)⟩
theorem PS.alloc (H : DiskSays DK) {W w : World} {p : Addr} {g : Nat} {d : AD} {cb cr : Array Value} {F M : Nat → Bool} (h : PS DK W p g d cb cr F M w) (o : Obj) :
    PS DK W p g d cb cr F (plusF M w.heap.size (w.heap.size + 1)) (w.alloc o) ∧ plusF M w.heap.size (w.heap.size + 1) w.heap.size = true ∧ F w.heap.size = false := by
  have hb := below_alloc w o
  have hs := alloc_size w o
  have hx := plusF_ext (F := M) hb
  rw [hs] at hx
  refine ⟨⟨H.below h.dk hb, h.good, h.rd.kin hx.kin, fun k hk => plusF_mono _ _ _ _ (h.sub k hk), by rw [hs]; exact plusF_foot h.foot (by omega), plusF_mono _ _ _ _ h.mg, h.fg, h.old, h.db.next hb, h.ex.trans (Ext.below hb), h.exm.trans hx⟩, plusF_in _ _ _ _ (Nat.le_refl _) (by omega), ?_⟩
  cases hf : F w.heap.size with
  | false => rfl
  | true => have := H.foot h.dk _ hf; omega
theorem PS.over (H : DiskSays DK) {W w : World} {p : Addr} {g : Nat} {d : AD} {cb cr : Array Value} {F M : Nat → Bool} (h : PS DK W p g d cb cr F M w) (q : Nat) (hq : q ≠ g) (hm : M q = true) (hf : F q = false) (ho : W.heap.size ≤ q) (cs : Array Value) :
    PS DK W p g d cb cr F M (w.setRow q cs) := by
  have hn : ∀ k, k ≠ q → (w.setRow q cs).heap[k]? = w.heap[k]? := fun k hk => setRow_other w q k cs hk
  have hs : (w.setRow q cs).heap.size = w.heap.size := by simp
  exact ⟨H.keep h.dk (Nat.le_of_eq hs.symm) fun k hk => hn k (by rintro rfl; rw [hf] at hk; simp at hk), h.good, h.rd.kin ((Ext.refl M w).setRow _ hm _).kin, h.sub, by rw [hs]; exact h.foot, h.mg, h.fg, h.old, h.db.over q (Ne.symm hq) cs, h.ex.newRow _ ho _, h.exm.newRow _ ho _⟩
theorem PS.store (H : DiskSays DK) {W w : World} {p : Addr} {g : Nat} {d : AD} {cb cr : Array Value} {F M : Nat → Bool} (h : PS DK W p g d cb cr F M w) (h6 : cr.size = 6) : PS DK W p g d cr cr F M (w.setRow g cr) := by
  have hn : ∀ k, k ≠ g → (w.setRow g cr).heap[k]? = w.heap[k]? := fun k hk => setRow_other w g k cr hk
  have hs : (w.setRow g cr).heap.size = w.heap.size := by simp
  exact ⟨H.keep h.dk (Nat.le_of_eq hs.symm) fun k hk => hn k (by rintro rfl; rw [h.fg] at hk; simp at hk), h.good, h.rd.kin ((Ext.refl M w).setRow _ h.mg _).kin, h.sub, by rw [hs]; exact h.foot, h.mg, h.fg, h.old, h.db.row h6, h.ex.newRow _ h.old _, h.exm.newRow _ h.old _⟩
theorem PS.start (H : DiskSays DK) {W w : World} {p : Addr} {d : AD} {cr : Array Value} {F : Nat → Bool} (hk : DK w p F d) (hg : Good d) (hr : RD (mask F w) (.agg cr) d) (hx : Ext noF W w F) :
    PS DK W p w.heap.size d dz cr F (plusF F w.heap.size (w.heap.size + 1)) (w.alloc (.cells dz 28)) := by
  have hb := below_alloc w (.cells dz 28)
  have hs := alloc_size w (.cells dz 28)
  have hx2 := plusF_ext (F := F) hb
  rw [hs] at hx2
  have hF := H.foot hk
  refine ⟨H.below hk hb, hg, hr.kin hx2.kin, fun k hk => plusF_mono _ _ _ _ hk, by rw [hs]; exact plusF_foot hF (by omega), plusF_in _ _ _ _ (Nat.le_refl _) (by omega), ?_, hx.size, ⟨heap_alloc_last w _, rfl⟩, hx.trans (Ext.below hb), hx.trans hx2⟩
  cases hf : F w.heap.size with
  | false => rfl
  | true => have := hF _ hf; omega
theorem PS.kin {W w : World} {p : Addr} {g : Nat} {d : AD} {cb cr : Array Value} {F M : Nat → Bool} (h : PS DK W p g d cb cr F M w) : Kin W (mask M w) := by
  have := h.exm.kin; rwa [mask_none] at this
theorem PS.kinw {W w : World} {p : Addr} {g : Nat} {d : AD} {cb cr : Array Value} {F M : Nat → Bool} (h : PS DK W p g d cb cr F M w) : Kin W w := h.kin.trans (unmask M w)
theorem wpl_load_dbG {w : World} {ops : Array Oper} {rest : List Oper} {o : Oper} {a : Act} {Q : Exit → Act → World → Prop} (hw : Region.wanted o (yielded ops a.tmps) = true) (x : Operand) (ho : o.op = .load 28 x)
    (g : Nat) (hx : a.eval x = .pointer (some ⟨g, 0, none⟩)) (cs : Array Value) (hk : DB w g cs) (h : wpList Tryz.prog ops Q rest (a.put o.dst (.agg cs)) w) : wpList Tryz.prog ops Q (o :: rest) a w := by
  unfold wpList
  rw [if_pos hw]
  exact Or.inl (wp_load_row 28 x ho g hx _ cs (0, 0) _ hk.1 Tryz.underlying28 rfl hk.info h)
end Go.Proofs.YtpoiapfgbbmekaaGreatDoor
namespace Go.Proofs.YtpoiapfgbbmekaaGreatDoor
open Go.RowKit
variable {DK : World → Addr → (Nat → Bool) → AD → Prop}
structure PT (DK : World → Addr → (Nat → Bool) → AD → Prop) (W : World) (p : Addr) (g : Nat) (dp dr : AD) (cs : Array Value) (F M : Nat → Bool) (w : World) : Prop where
  dk : DK w p F dp
  rd : RD (mask M w) (.agg cs) dr
  sub : ∀ k, F k = true → M k = true
  foot : Foot M w.heap.size
  mg : M g = true
  fg : F g = false
  old : W.heap.size ≤ g
  db : DB w g cs
  ex : Ext noF W w F
  exm : Ext noF W w M
theorem PS.pt {W w : World} {p : Addr} {g : Nat} {d : AD} {cs : Array Value} {F M : Nat → Bool} (h : PS DK W p g d cs cs F M w) : PT DK W p g d d cs F M w :=
  ⟨h.dk, h.rd, h.sub, h.foot, h.mg, h.fg, h.old, h.db, h.ex, h.exm⟩
theorem PT.glt {W w : World} {p : Addr} {g : Nat} {dp dr : AD} {cs : Array Value} {F M : Nat → Bool} (h : PT DK W p g dp dr cs F M w) : g < w.heap.size := (Array.getElem?_eq_some_iff.1 h.db.1).1
theorem PT.next (H : DiskSays DK) {W w w' : World} {p : Addr} {g : Nat} {dp dr : AD} {cs : Array Value} {F M : Nat → Bool} (h : PT DK W p g dp dr cs F M w) (hb : Below w.heap.size w w') : PT DK W p g dp dr cs F M w' :=
  ⟨H.below h.dk hb, h.rd.kin (kin_mask hb), h.sub, h.foot.mono hb.size, h.mg, h.fg, h.old, h.db.next hb, h.ex.trans (Ext.below hb), h.exm.trans (Ext.below hb)⟩
theorem PT.prog (H : DiskSays DK) {W w w' : World} {p : Addr} {g : Nat} {dp dp' dr : AD} {cs : Array Value} {F M F2 : Nat → Bool} (h : PT DK W p g dp dr cs F M w) (hk : DK w' p F2 dp') (hx : Ext F w w' F2) : PT DK W p g dp' dr cs F2 (orF M F2) w' :=
  ⟨hk, h.rd.kin (hx.sub h.sub).kin, fun k hf => orF_r hf, orF_foot (h.foot.mono hx.size) (H.foot hk), orF_l h.mg, by rw [hx.foot g h.glt]; exact h.fg, h.old, ⟨kept hx h.db.1 h.fg, h.db.2⟩, h.ex.trans hx, h.exm.trans (hx.sub h.sub)⟩
theorem PT.put (H : DiskSays DK) {W w : World} {p : Addr} {g : Nat} {dp dr dr' : AD} {cs cs' : Array Value} {F M : Nat → Bool} (h : PT DK W p g dp dr cs F M w) (hr : RD (mask M w) (.agg cs') dr') (h6 : cs'.size = 6) : PT DK W p g dp dr' cs' F M (w.setRow g cs') := by
  have hn : ∀ k, k ≠ g → (w.setRow g cs').heap[k]? = w.heap[k]? := fun k hk => setRow_other w g k cs' hk
  have hs : (w.setRow g cs').heap.size = w.heap.size := by simp
  exact ⟨H.keep h.dk (Nat.le_of_eq hs.symm) fun k hk => hn k (by rintro rfl; rw [h.fg] at hk; simp at hk), hr.kin ((Ext.refl M w).setRow _ h.mg _).kin, h.sub, by rw [hs]; exact h.foot, h.mg, h.fg, h.old, h.db.row h6, h.ex.newRow _ h.old _, h.exm.newRow _ h.old _⟩
theorem PT.kinw {W w : World} {p : Addr} {g : Nat} {dp dr : AD} {cs : Array Value} {F M : Nat → Bool} (h : PT DK W p g dp dr cs F M w) : Kin W w := by
  have := h.exm.kin; rw [mask_none] at this; exact this.trans (unmask M w)
end Go.Proofs.YtpoiapfgbbmekaaGreatDoor
namespace Go.Proofs.YtpoiapfgbbmekaaGreatDoor
open Go.RowKit
set_option maxRecDepth 8000 in
set_option maxHeartbeats 1000000 in
theorem rsize_any (vd : Value) (d : AD) (s : ByteArray) (w : World) (h : RD w vd d) :
    Calls Tryz.prog 80 #[vd, .string s] w fun e w' => e = .returned (.int .i64 (szI d s)) ∧ Below w.heap.size w w' := by
  obtain ⟨a, n, cap, rfl, hn, hc1, hc2⟩ := h.agg
  have HR := Lib.hid h
  obtain ⟨W0, hW0⟩ : ∃ W0, w.alloc (.cells #[.slice a n cap, .int .i64 d.cap, .int .i64 d.ops, .bool d.down, .bool d.told, .int .i64 d.after] 28) = W0 := ⟨_, rfl⟩
  have hb : Below w.heap.size w W0 := by rw [← hW0]; exact below_alloc w _
  have HD0 : Hid (DB W0 w.heap.size #[.slice a n cap, .int .i64 d.cap, .int .i64 d.ops, .bool d.down, .bool d.told, .int .i64 d.after]) := by rw [← hW0]; exact Lib.hid ⟨heap_alloc_last w _, rfl⟩
  have HB0 := Lib.hid hb
  obtain ⟨i, hi⟩ : ∃ i, findI d.L s = i := ⟨_, rfl⟩
  have HFD := Lib.hid fun W (hw : RD W (.agg #[.slice a n cap, .int .i64 d.cap, .int .i64 d.ops, .bool d.down, .bool d.told, .int .i64 d.after]) d) => rfind_any (.agg #[.slice a n cap, .int .i64 d.cap, .int .i64 d.ops, .bool d.down, .bool d.told, .int .i64 d.after]) d s W hw
  rw [hi] at HFD
  clear hb h
  unfold szI
  by_cases hh : d.has s
  · rw [if_pos hh]
    have hat := d.get_at s hh
    have hii : i = (idxN d.L s : Nat) := by rw [← hi]; unfold findI; exact if_pos hh
    obtain ⟨k, hk⟩ : ∃ k, idxN d.L s = k := ⟨_, rfl⟩
    rw [hk] at hii hat
    obtain ⟨f, hf⟩ : ∃ f, d.get s = f := ⟨_, rfl⟩
    rw [hf] at hat ⊢
    have hkn : k < n := by rw [← hn]; exact (List.getElem?_eq_some_iff.1 hat).1
    have HAT : Hid (∀ W, Below w.heap.size w W → ∃ b off v1 c v3, a = some ⟨b, off, none⟩ ∧ W.cell? ⟨b, off + k * 4, none⟩ = some (.string f.name) ∧ W.cell? ⟨b, off + k * 4 + 1, none⟩ = some v1 ∧ (∃ a2, W.cell? ⟨b, off + k * 4 + 2, none⟩ = some (.slice a2 f.n c)) ∧ W.cell? ⟨b, off + k * 4 + 3, none⟩ = some v3) := Lib.hid fun W hb => by
      obtain ⟨b, off, v1, v2, v3, h1, h2, h3, h4, h5, _, h6, _⟩ := (HR.out.fls.kin (Kin.below hb)).at_ k f hat
      obtain ⟨a2, c2, rfl, _⟩ := h6
      exact ⟨b, off, v1, c2, v3, h1, h2, h3, ⟨a2, h4⟩, h5⟩
    subst hii
    clear hi hat hf hk hh
    go_enter Tryz.func80, Tryz.ntmps80
    go_wp2_with (first
      | (refine wpList_load_row rfl 28 _ rfl w.heap.size rfl _ _ (0, 0) _ HD0.out.1 Tryz.underlying28 rfl HD0.out.info ?_)
      | (go_at_call 35; (with_reducible refine (HFD.out _ (HR.out.kin (Kin.below HB0.out))).mono ?_); rintro e w3 ⟨rfl, hb⟩; have HB3 := Lib.hid (chain HB0.out hb); have HD3 := HD0.out.below hb (Array.getElem?_eq_some_iff.1 HD0.out.1).1; obtain ⟨z0, z1, z2, z3, z4, z5⟩ := HD3.six; obtain ⟨b, off, v1, c, v3, rfl, y0, y1, ⟨a2, y2⟩, y3⟩ := HAT.out _ HB3.out; clear hb HD3))
    go_ret
    exact ⟨rfl, HB3.out⟩
  · rw [if_neg hh]
    have hi0 : i < 0 := by rw [← hi, AD.find_neg]; exact hh
    clear hi hh
    go_enter Tryz.func80, Tryz.ntmps80
    go_wp2_with (first
      | (refine wpList_load_row rfl 28 _ rfl w.heap.size rfl _ _ (0, 0) _ HD0.out.1 Tryz.underlying28 rfl HD0.out.info ?_)
      | (go_at_call 35; (with_reducible refine (HFD.out _ (HR.out.kin (Kin.below HB0.out))).mono ?_); rintro e w3 ⟨rfl, hb⟩; have HB3 := Lib.hid (chain HB0.out hb); clear hb))
    go_ret
    exact ⟨rfl, HB3.out⟩
structure BR (w : World) (cs : Array Value) (d : AD) (W : World) : Prop where
  below : Below w.heap.size w W
  d0 : DB W w.heap.size cs
  rd : RD W (.agg cs) d
theorem BR.next {w W W' : World} {cs : Array Value} {d : AD} (h : BR w cs d W) (hb : Below W.heap.size W W') : BR w cs d W' :=
  ⟨chain h.below hb, h.d0.below hb (Array.getElem?_eq_some_iff.1 h.d0.1).1, h.rd.kin (Kin.below hb)⟩
theorem BR.start {w : World} {cs : Array Value} {d : AD} (h6 : cs.size = 6) (h : RD w (.agg cs) d) : BR w cs d (w.alloc (.cells cs 28)) :=
  ⟨below_alloc w _, ⟨heap_alloc_last w _, h6⟩, h.kin (Kin.below (below_alloc w _))⟩
theorem rsize_of {d : AD} {s : ByteArray} {x : Int} (hx : szI d s = x) : Hid (∀ W v, RD W v d → Calls Tryz.prog 80 #[v, .string s] W fun e w' => e = .returned (.int .i64 x) ∧ Below W.heap.size W w') :=
  Lib.hid fun W v h => by rw [← hx]; exact rsize_any v d s W h
set_option maxRecDepth 8000 in
set_option maxHeartbeats 1000000 in
theorem runused_any (vd : Value) (d : AD) (w : World) (h : RD w vd d) :
    Calls Tryz.prog 81 #[vd] w fun e w' => e = .returned (.string (firstI d 0)) ∧ Below w.heap.size w w' := by
  obtain ⟨a, n, cap, rfl, hn, hc1, hc2⟩ := h.agg
  have HS0 := Lib.hid (BR.start rfl h)
  obtain ⟨x1, hx1⟩ : ∃ x, szI d fr1 = x := ⟨_, rfl⟩
  obtain ⟨x2, hx2⟩ : ∃ x, szI d fr2 = x := ⟨_, rfl⟩
  have H1 := rsize_of hx1
  have H2 := rsize_of hx2
  unfold firstI
  rw [hx1, hx2]
  clear hx1 hx2 h
  by_cases h1 : x1 = 0
  · simp only [h1, if_true]
    go_enter Tryz.func81, Tryz.ntmps81
    go_wp2_with (first
      | (refine wpList_load_row rfl 28 _ rfl w.heap.size rfl _ _ (0, 0) _ HS0.out.d0.1 Tryz.underlying28 rfl HS0.out.d0.info ?_)
      | (go_at_call 80; (with_reducible refine (H1.out _ _ HS0.out.rd).mono ?_); rintro e w1 ⟨rfl, hb⟩; have HS1 := Lib.hid (HS0.out.next hb); clear hb))
    go_ret
    exact ⟨rfl, HS1.out.below⟩
  by_cases h2 : x2 = 0
  all_goals
    simp only [h1, h2, if_true, if_false]
    go_enter Tryz.func81, Tryz.ntmps81
    go_wp2_with (first
      | (refine wpList_load_row rfl 28 _ rfl w.heap.size rfl _ _ (0, 0) _ HS1.out.d0.1 Tryz.underlying28 rfl HS1.out.d0.info ?_)
      | (refine wpList_load_row rfl 28 _ rfl w.heap.size rfl _ _ (0, 0) _ HS0.out.d0.1 Tryz.underlying28 rfl HS0.out.d0.info ?_)
      | (go_at_call 80; (with_reducible refine (H1.out _ _ HS0.out.rd).mono ?_); rintro e w1 ⟨rfl, hb⟩; have HS1 := Lib.hid (HS0.out.next hb); clear hb)
      | (go_at_call 80; (with_reducible refine (H2.out _ _ HS1.out.rd).mono ?_); rintro e w2 ⟨rfl, hb⟩; have HS2 := Lib.hid (HS1.out.next hb); clear hb))
    go_ret
    exact ⟨rfl, HS2.out.below⟩
end Go.Proofs.YtpoiapfgbbmekaaGreatDoor
namespace Go.Proofs.YtpoiapfgbbmekaaGreatDoor
open Go.RowKit
open Go.Lib (toList_data size_eq)
theorem dig_piece (k : Nat) (h : k < 10) : (⟨#[48, 49, 50, 51, 52, 53, 54, 55, 56, 57]⟩ : ByteArray).extract k (k + 1) = ⟨(Lib.itoa k).toArray⟩ := by
  rw [Lib.extract_eq, itoa_nat, Lib.decDigits_one h]
  have hf : ∀ i : Fin 10, ((⟨#[48, 49, 50, 51, 52, 53, 54, 55, 56, 57]⟩ : ByteArray).data.toList.drop i.val).take 1 = [UInt8.ofNat (48 + i.val)] := by decide +kernel
  rw [show k + 1 - k = 1 from by omega, hf ⟨k, h⟩]
set_option maxRecDepth 8000 in
set_option maxHeartbeats 1000000 in
theorem rdigits_upto (k : Nat) : ∀ (n : Int) (w : World), n.natAbs ≤ k → -9223372036854775808 ≤ n → n ≤ 9223372036854775807 →
    Calls Tryz.prog 79 #[.int .i64 n] w fun e w' => e = .returned (.string ⟨(Lib.itoa n).toArray⟩) ∧ w' = w := by
  induction k using Nat.strongRecOn with
  | _ k ih =>
    have one : ∀ (n : Int) (w : World), 0 ≤ n → n ≤ 9 → Calls Tryz.prog 79 #[.int .i64 n] w fun e w' => e = .returned (.string ⟨(Lib.itoa n).toArray⟩) ∧ w' = w := by
      intro n w h0 h9
      obtain ⟨m, rfl⟩ : ∃ m : Nat, n = m := ⟨n.toNat, by omega⟩
      have hp := dig_piece m (by omega)
      have c1 : (0 : Int) ≤ (m : Int) := by omega
      have c2 : (m : Int) ≤ (m : Int) + 1 := by omega
      have c3 : (m : Int) + 1 ≤ 10 := by omega
      have HP := Lib.hid hp
      clear hp ih
      go_enter Tryz.func79, Tryz.ntmps79
      go_wp2_with fail
      go_ret
      exact ⟨congrArg (fun x => Ending.returned (.string x)) HP.out, rfl⟩
    have ONE := Lib.hid one
    clear one
    intro n w hk h0 h1
    by_cases hn : n < 0
    · obtain ⟨u, hu, hd, hr⟩ := div_ten_neg n (by omega)
      have hm1 : 0 ≤ -(n.tmod 10) ∧ -(n.tmod 10) ≤ 9 := by omega
      by_cases hs : -10 < n
      · have hi := itoa_neg_one n hn hs
        have HR := Lib.hid hr
        clear hr hd
        obtain ⟨m, hm⟩ : ∃ m, n.tmod 10 = -m := ⟨-(n.tmod 10), by omega⟩
        rw [hm, Int.neg_neg] at hi hm1
        have hl : ¬ 9223372036854775807 < 1 + (Lib.itoa m).length := by have := itoa_short (n := m) (by omega) (by omega); omega
        have HI := Lib.hid hi
        clear hi ih hu
        go_enter Tryz.func79, Tryz.ntmps79
        go_wp2_with (first
          | (go_at_call 79; (with_reducible refine (ONE.out m _ (by omega) (by omega)).mono ?_); rintro e w' ⟨rfl, rfl⟩))
        go_ret
        refine ⟨?_, rfl⟩
        rw [HI.out]
        exact congrArg (fun x => Ending.returned (.string x)) (app_text [45] (Lib.itoa m))
      · have hi := itoa_split_neg n (by omega)
        have hq1 : (n.tdiv 10).natAbs < k := by omega
        have hq2 : -9223372036854775808 ≤ n.tdiv 10 ∧ n.tdiv 10 ≤ 9223372036854775807 := by omega
        clear hr hd
        obtain ⟨m, hm⟩ : ∃ m, n.tmod 10 = -m := ⟨-(n.tmod 10), by omega⟩
        rw [hm, Int.neg_neg] at hi hm1
        obtain ⟨q, hq⟩ : ∃ q, n.tdiv 10 = q := ⟨_, rfl⟩
        rw [hq] at hi hq1 hq2
        have hl : ¬ 9223372036854775807 < (Lib.itoa q).length + (Lib.itoa m).length := by have := itoa_short (n := m) (by omega) (by omega); have := itoa_short (n := q) (by omega) (by omega); omega
        have HI := Lib.hid hi
        have IH := Lib.hid (ih q.natAbs hq1 q)
        clear hi ih hu
        go_enter Tryz.func79, Tryz.ntmps79
        go_wp2_with (first
          | (go_at_call 79; (with_reducible refine (ONE.out m _ (by omega) (by omega)).mono ?_); rintro e w' ⟨rfl, rfl⟩)
          | (go_at_call 79; (with_reducible refine (IH.out _ (by omega) (by omega) (by omega)).mono ?_); rintro e w' ⟨rfl, rfl⟩))
        go_ret
        refine ⟨?_, rfl⟩
        rw [HI.out]
        exact congrArg (fun x => Ending.returned (.string x)) (app_text (Lib.itoa q) (Lib.itoa m))
    · by_cases hs : n < 10
      · exact ONE.out n w (by omega) (by omega)
      · have hi := itoa_split n (by omega)
        obtain ⟨u, hu, hd, hr⟩ := div_ten n (by omega)
        have hq1 : (n.tdiv 10).natAbs < k := by omega
        have hq2 : -9223372036854775808 ≤ n.tdiv 10 ∧ n.tdiv 10 ≤ 9223372036854775807 := by omega
        have hm1 : 0 ≤ n.tmod 10 ∧ n.tmod 10 ≤ 9 := by omega
        clear hr hd
        obtain ⟨m, hm⟩ : ∃ m, n.tmod 10 = m := ⟨_, rfl⟩
        rw [hm] at hi hm1
        obtain ⟨q, hq⟩ : ∃ q, n.tdiv 10 = q := ⟨_, rfl⟩
        rw [hq] at hi hq1 hq2
        have hl : ¬ 9223372036854775807 < (Lib.itoa q).length + (Lib.itoa m).length := by have := itoa_short (n := m) (by omega) (by omega); have := itoa_short (n := q) (by omega) (by omega); omega
        have HI := Lib.hid hi
        have IH := Lib.hid (ih q.natAbs hq1 q)
        clear hi ih hu
        go_enter Tryz.func79, Tryz.ntmps79
        go_wp2_with (first
          | (go_at_call 79; (with_reducible refine (ONE.out m _ (by omega) (by omega)).mono ?_); rintro e w' ⟨rfl, rfl⟩)
          | (go_at_call 79; (with_reducible refine (IH.out _ (by omega) (by omega) (by omega)).mono ?_); rintro e w' ⟨rfl, rfl⟩))
        go_ret
        refine ⟨?_, rfl⟩
        rw [HI.out]
        exact congrArg (fun x => Ending.returned (.string x)) (app_text (Lib.itoa q) (Lib.itoa m))
theorem rdigits_any (n : Int) (w : World) (h0 : -9223372036854775808 ≤ n) (h1 : n ≤ 9223372036854775807) :
    Calls Tryz.prog 79 #[.int .i64 n] w fun e w' => e = .returned (.string ⟨(Lib.itoa n).toArray⟩) ∧ w' = w :=
  rdigits_upto n.natAbs n w (Nat.le_refl _) h0 h1
theorem rwal_any (n : Int) (h0 : -9223372036854775808 ≤ n) (h1 : n ≤ 9223372036854775807) (w : World) :
    Calls Tryz.prog 36 #[.int .i64 n] w fun e w' => e = .returned (.string ⟨(walN n).toArray⟩) ∧ w' = w := by
  by_cases hn : 1 ≤ n
  · by_cases hm : n ≤ 2147483647
    · have hl : ¬ 9223372036854775807 < 4 + (Lib.itoa n).length := by have := itoa_short h0 h1; omega
      have HW := Lib.hid (walN_in hn hm)
      have hn' : 0 < n := by omega
      go_enter Tryz.func36, Tryz.ntmps36
      go_wp2_with (first
        | (go_at_call 79; (with_reducible refine (rdigits_any n _ h0 h1).mono ?_); rintro e w' ⟨rfl, rfl⟩))
      go_ret
      refine ⟨?_, rfl⟩
      rw [HW.out]
      exact congrArg (fun x => Ending.returned (.string x)) (app_text [119, 97, 108, 45] (Lib.itoa n))
    · rw [walN_out (n := n) (by omega)]
      go_enter Tryz.func36, Tryz.ntmps36
      go_wp2
      go_ret
      exact ⟨rfl, rfl⟩
  · rw [walN_out (n := n) (by omega)]
    have hn' : ¬ 0 < n := by omega
    go_enter Tryz.func36, Tryz.ntmps36
    go_wp2
    go_ret
    exact ⟨rfl, rfl⟩
theorem rpool_any (n : Int) (h0 : -9223372036854775808 ≤ n) (h1 : n ≤ 9223372036854775807) (w : World) :
    Calls Tryz.prog 108 #[.int .i64 n] w fun e w' => e = .returned (.string ⟨(poolN n).toArray⟩) ∧ w' = w := by
  by_cases hn : 0 ≤ n
  · by_cases hm : n ≤ 2
    · have hl : ¬ 9223372036854775807 < 5 + (Lib.itoa n).length := by have := itoa_short h0 h1; omega
      have HW := Lib.hid (poolN_in hn hm)
      have hn' : -1 < n := by omega
      go_enter Tryz.func108, Tryz.ntmps108
      go_wp2_with (first
        | (go_at_call 79; (with_reducible refine (rdigits_any n _ h0 h1).mono ?_); rintro e w' ⟨rfl, rfl⟩))
      go_ret
      refine ⟨?_, rfl⟩
      rw [HW.out]
      exact congrArg (fun x => Ending.returned (.string x)) (app_text [102, 114, 101, 101, 45] (Lib.itoa n))
    · rw [poolN_out (n := n) (by omega)]
      go_enter Tryz.func108, Tryz.ntmps108
      go_wp2
      go_ret
      exact ⟨rfl, rfl⟩
  · rw [poolN_out (n := n) (by omega)]
    have hn' : ¬ -1 < n := by omega
    go_enter Tryz.func108, Tryz.ntmps108
    go_wp2
    go_ret
    exact ⟨rfl, rfl⟩
theorem dec_step (l : List UInt8) (i a : Nat) (x : UInt8) (h4 : 4 ≤ i) (hg : l[i]? = some x) (hd : Lib.decFrom 0 ((l.drop 4).take (i - 4)) = some a) (hx : 48 ≤ x.toNat ∧ x.toNat ≤ 57) (hl : l.length ≤ 14) :
    Lib.decFrom 0 ((l.drop 4).take (i + 1 - 4)) = some (10 * a + x.toNat - 48) ∧ 10 * a + x.toNat - 48 < 10000000000 := by
  have hv : Lib.digitVal x = some (x.toNat - 48) := by unfold Lib.digitVal; rw [if_pos hx]
  have h1 := Lib.decFrom_take (l.drop 4) (i - 4) 0 a x (x.toNat - 48) hd (by rw [List.getElem?_drop, show 4 + (i - 4) = i from by omega]; exact hg) hv
  rw [show i - 4 + 1 = i + 1 - 4 from by omega, show a * 10 + (x.toNat - 48) = 10 * a + x.toNat - 48 from by omega] at h1
  refine ⟨h1, ?_⟩
  have h2 := Lib.decFrom_lt _ _ _ h1
  have h3 : ((l.drop 4).take (i + 1 - 4)).length ≤ 10 := by simp; omega
  have h5 : (10 : Nat) ^ ((l.drop 4).take (i + 1 - 4)).length ≤ 10 ^ 10 := Nat.pow_le_pow_right (by omega) h3
  omega
set_option maxRecDepth 8000 in
set_option maxHeartbeats 1000000 in
theorem rparse_list (l : List UInt8) (w : World) (hs : l.length ≤ 281474976710656) : Calls Tryz.prog 94 #[.string ⟨l.toArray⟩] w fun e w' => ∃ k n, e = .returned (.tuple #[.int .i64 k, .int .i64 n]) ∧ parsed l k n ∧ w' = w := by
  go_enter Tryz.func94, Tryz.ntmps94
  go_wp2
  go_loop [4] (fun kv => ∃ k : Nat, kv = .int .i64 k ∧ k ≤ 3 ∧ Hid (∀ j : Nat, j < k → poolN j ≠ l)) (fun kv => 3 - (intOf kv).toNat)
  case atStart => exact ⟨0, rfl, by omega, fun j hj => absurd hj (by omega)⟩
  case round =>
    obtain ⟨k, rfl, hk, HK⟩ := hrel
    by_cases hlt : (k : Int) ≤ 2
    · cases hq : (poolN k == l) with
      | true =>
        have HQ := Lib.hid hq
        go_wp2_with (first
          | (go_at_call 108; (with_reducible refine (rpool_any k (by omega) (by omega) _).mono ?_); rintro e w' ⟨rfl, rfl⟩))
        go_ret2
        exact ⟨_, _, rfl, .inl ⟨rfl, by omega, by omega, by have := HQ.out; simp at this; exact this.symm⟩, rfl⟩
      | false =>
        have HQ := Lib.hid hq
        go_wp2_with (first
          | (go_at_call 108; (with_reducible refine (rpool_any k (by omega) (by omega) _).mono ?_); rintro e w' ⟨rfl, rfl⟩))
        go_round
        case rel =>
          refine ⟨k + 1, by go_num, by omega, fun j hj => ?_⟩
          by_cases hji : j = k
          · subst hji; simpa using HQ.out
          · exact HK.out j (by omega)
        case measure => simp [intOf]; omega
    · obtain rfl : k = 3 := by omega
      have HP := Lib.hid (not_pool (l := l) (HK.out 0 (by omega)) (HK.out 1 (by omega)) (HK.out 2 (by omega)))
      by_cases h5 : (l.length : Int) < 5
      · have HN := Lib.hid (show parsed l 0 0 from ref_none HP.out (fun h => by have := (wal_form h).1; omega))
        go_wp2
        go_ret2
        exact ⟨_, _, rfl, HN.out, rfl⟩
      by_cases h14 : (14 : Int) < (l.length : Int)
      · have HN := Lib.hid (show parsed l 0 0 from ref_none HP.out (fun h => by have := (wal_form h).2.1; omega))
        go_wp2
        go_ret2
        exact ⟨_, _, rfl, HN.out, rfl⟩
      have h4 : (4 : Int) ≤ (l.length : Int) := by omega
      have hx : ((⟨l.toArray⟩ : ByteArray).extract 0 4).toList = l.take 4 := by rw [Lib.extract_toList]; simp
      by_cases hp : l.take 4 = [119, 97, 108, 45]
      · have hb : (((⟨l.toArray⟩ : ByteArray).extract 0 4).toList == [119, 97, 108, 45]) = true := by rw [hx, hp]; rfl
        have HI : Hid (∀ (c : UInt8) (w : World), Calls Tryz.prog 90 #[.string ⟨#[48, 49, 50, 51, 52, 53, 54, 55, 56, 57]⟩, .int .u8 (c.toNat : Int)] w fun e w' => e = .returned (.bool (decide (48 ≤ c.toNat ∧ c.toNat ≤ 57))) ∧ w' = w) := by
          intro c w
          have := in_any ⟨#[48, 49, 50, 51, 52, 53, 54, 55, 56, 57]⟩ c w (by decide)
          rw [← digit_list]
          exact this
        have hn5 : 5 ≤ l.length := by omega
        have hn14 : l.length ≤ 14 := by omega
        clear hx hp HK hlt h5 h14 hs hk
        go_wp2
        go_loop [5, 6] (fun nv iv => ∃ i a : Nat, nv = .int .i64 a ∧ iv = .int .i64 i ∧ 4 ≤ i ∧ i ≤ l.length ∧ a < 10000000000 ∧ Hid (Lib.decFrom 0 ((l.drop 4).take (i - 4)) = some a)) (fun _ iv => l.length - (intOf iv).toNat)
        case atStart => exact ⟨4, 0, rfl, rfl, by omega, by omega, by omega, rfl⟩
        case round =>
          obtain ⟨i, a, rfl, rfl, hi4, hi, ha, HD⟩ := hrel
          by_cases hlt : (i : Int) < (l.length : Int)
          · have hn : i < l.length := by omega
            have hg : l[i]? = some l[i] := List.getElem?_eq_getElem hn
            obtain ⟨x, hx⟩ : ∃ x, l[i] = x := ⟨_, rfl⟩
            have hb1 : (⟨l.toArray⟩ : ByteArray)[i]'(by rw [size_eq]; exact hn) = x := hx
            have hxb : x.toNat < 256 := x.toNat_lt
            rw [hx] at hg
            have HG := Lib.hid hg
            clear hg
            by_cases hd : 48 ≤ x.toNat ∧ x.toNat ≤ 57
            · have HS := Lib.hid (dec_step l i a x hi4 HG.out HD.out hd hn14)
              go_wp2_with (first
                | (go_at_call 90; (with_reducible refine (HI.out x _).mono ?_); rintro e w' ⟨rfl, rfl⟩))
              go_round
              case rel =>
                exact ⟨i + 1, 10 * a + x.toNat - 48, by congr 1; omega, by go_num, by omega, by omega, HS.out.2, HS.out.1⟩
              case measure => simp [intOf]; omega
            · have HN := Lib.hid (show parsed l 0 0 from ref_none HP.out (fun h => hd ((wal_form h).2.2.2.1 x (by
                have h1 := HG.out
                rw [List.mem_iff_getElem?]
                exact ⟨i - 4, by rw [List.getElem?_drop, show 4 + (i - 4) = i from by omega]; exact h1⟩))))
              go_wp2_with (first
                | (go_at_call 90; (with_reducible refine (HI.out x _).mono ?_); rintro e w' ⟨rfl, rfl⟩))
              go_ret2
              exact ⟨_, _, rfl, HN.out, rfl⟩
          · have hq : i = l.length := by omega
            have HD2 := Lib.hid (show Lib.decFrom 0 (l.drop 4) = some a from by have h1 := HD.out; rwa [hq, List.take_of_length_le (by simp)] at h1)
            clear HD
            cases hw : (walN a == l) with
            | true =>
              have HW := Lib.hid hw
              go_wp2_with (first
                | (go_at_call 36; (with_reducible refine (rwal_any a (by omega) (by omega) _).mono ?_); rintro e w' ⟨rfl, rfl⟩))
              go_ret2
              exact ⟨_, _, rfl, ref_hit a (by intro h; subst h; simp at hn5) (by simpa using HW.out), rfl⟩
            | false =>
              have HW := Lib.hid hw
              go_wp2_with (first
                | (go_at_call 36; (with_reducible refine (rwal_any a (by omega) (by omega) _).mono ?_); rintro e w' ⟨rfl, rfl⟩))
              go_ret2
              exact ⟨_, _, rfl, ref_none HP.out (ref_miss a HD2.out (by simpa using HW.out)), rfl⟩
      · have hb : (((⟨l.toArray⟩ : ByteArray).extract 0 4).toList == [119, 97, 108, 45]) = false := by rw [hx]; simpa using hp
        have HN := Lib.hid (show parsed l 0 0 from ref_none HP.out (fun h => hp (wal_form h).2.2.1))
        clear hx hp
        go_wp2
        go_ret2
        exact ⟨_, _, rfl, HN.out, rfl⟩
end Go.Proofs.YtpoiapfgbbmekaaGreatDoor
namespace Go.Proofs.YtpoiapfgbbmekaaGreatDoor
open Go.RowKit
def okR (e s f : Int) (l : List Int) (i : Nat) : Bool := decide (e ≠ 0) && lsn s && lsn f && (l.take i).all fun x => decide (0 ≤ x ∧ x < f)
theorem okR_succ (e s f : Int) (l : List Int) (i : Nat) (hi : i < l.length) : okR e s f l (i + 1) = (okR e s f l i && decide (0 ≤ l.getD i 0 ∧ l.getD i 0 < f)) := by
  unfold okR
  rw [List.take_succ_eq_append_getElem hi, List.all_append]
  simp [List.getD, hi, Bool.and_assoc]
theorem okR_all (h : Hdr) (hn : h.l.length = 4) : okR h.e h.s h.f h.l 4 = hdOk h := by
  unfold okR hdOk
  rw [List.take_of_length_le (by omega)]
theorem base_false {e s f : Int} (h : ¬ (e ≠ 0 ∧ 1 ≤ s ∧ s ≤ 2147483647 ∧ 1 ≤ f ∧ f ≤ 2147483647)) : (decide (e ≠ 0) && lsn s && lsn f) = false := by
  rw [Bool.eq_false_iff]
  intro q
  simp only [Bool.and_eq_true, decide_eq_true_eq, lsn] at q
  omega
theorem base_true {e s f : Int} (h : e ≠ 0 ∧ 1 ≤ s ∧ s ≤ 2147483647 ∧ 1 ≤ f ∧ f ≤ 2147483647) : (decide (e ≠ 0) && lsn s && lsn f) = true := by
  simp only [Bool.and_eq_true, decide_eq_true_eq, lsn]
  omega
set_option maxRecDepth 8000 in
set_option maxHeartbeats 4000000 in
theorem hrright_any (h : Hdr) (ht : HdT h) (w : World) : Calls Tryz.prog 34 #[.agg (hv h)] w fun e w' => e = .returned (.bool (hdOk h)) ∧ Below w.heap.size w w' := by
  obtain ⟨w0, hw0⟩ : ∃ q, w.alloc (.cells (hv h) 34) = q := ⟨_, rfl⟩
  have HK := Lib.hid (show HB w0 w.heap.size h from by rw [← hw0]; exact HB.new w h ht.n)
  have HW := Lib.hid (show Below w.heap.size w w0 from by rw [← hw0]; exact balloc w _)
  have HN := Lib.hid ht.n
  obtain ⟨z0, z1, z2⟩ := HK.out.cells
  have he : 0 ≤ h.e ∧ h.e ≤ 18446744073709551615 := ht.e
  have HL := Lib.hid (okR_all h ht.n)
  have h0 : h.e = 0 ∨ 0 < h.e := by omega
  have hs : h.s ≤ 0 ∨ 0 < h.s ∧ 2147483647 < h.s ∨ 0 < h.s ∧ h.s ≤ 2147483647 := by omega
  have hf : h.f ≤ 0 ∨ 0 < h.f ∧ 2147483647 < h.f ∨ 0 < h.f ∧ h.f ≤ 2147483647 := by omega
  obtain ⟨e, s, f, l⟩ := h
  dsimp only at *
  clear ht
  have HCASE : ∃ b : Bool, okR e s f l 0 = b := ⟨_, rfl⟩
  obtain ⟨b0, hb0⟩ := HCASE
  have HB0 := Lib.hid hb0
  have hb1 : b0 = (decide (e ≠ 0) && lsn s && lsn f) := by rw [← hb0]; simp [okR]
  clear hb0
  go_enter Tryz.func34, Tryz.ntmps34
  rcases (by omega : e ≤ 0 ∨ (0 < e ∧ s ≤ 0) ∨ (0 < e ∧ 0 < s ∧ 2147483647 < s) ∨ (0 < e ∧ 0 < s ∧ s ≤ 2147483647 ∧ f ≤ 0) ∨ (0 < e ∧ 0 < s ∧ s ≤ 2147483647 ∧ 0 < f ∧ 2147483647 < f) ∨ (0 < e ∧ 0 < s ∧ s ≤ 2147483647 ∧ 0 < f ∧ f ≤ 2147483647)) with g1 | ⟨g1, g2⟩ | ⟨g1, g2, g3⟩ | ⟨g1, g2, g3, g4⟩ | ⟨g1, g2, g3, g4, g5⟩ | ⟨g1, g2, g3, g4, g5⟩
  all_goals
    clear h0 hs hf
    go_wp2
    go_loopw [3, 4] (fun v iv wr => ∃ i : Nat, iv = .int .i64 i ∧ i ≤ 4 ∧ v = .bool (okR e s f l i) ∧ Hid (HB wr w.heap.size ⟨e, s, f, l⟩) ∧ Hid (Below w.heap.size w wr)) (fun _ iv _ => 4 - (intOf iv).toNat)
    case atStart => exact ⟨0, rfl, by omega, congrArg Value.bool (by rw [HB0.out, hb1]; first | exact (base_true (e := e) (s := s) (f := f) (by omega)).symm | exact (base_false (e := e) (s := s) (f := f) (by omega)).symm | exact (decide_eq_false (by omega)).trans (base_false (e := e) (s := s) (f := f) (by omega)).symm), HK, HW⟩
    case round =>
      obtain ⟨i, rfl, hi, rfl, HKW, HBW⟩ := hrel
      by_cases hlt : i < 4
      · obtain ⟨x, hx⟩ : ∃ x, l.getD i 0 = x := ⟨_, rfl⟩
        have hcx := HKW.out.head i hlt
        have hcf := HKW.out.cells.2.2
        dsimp only at hcx hcf
        rw [hx] at hcx
        have HX := Lib.hid hx
        have HSC := Lib.hid (okR_succ e s f l i (by rw [HN.out]; exact hlt))
        obtain ⟨b, hb⟩ : ∃ b, okR e s f l i = b := ⟨_, rfl⟩
        have HBI := Lib.hid hb
        have hi4 : (i : Int) < 4 := by omega
        rw [hb]
        clear hx hb
        cases b with
        | false =>
          go_wp2_with fail
          refine wp_region_held_drew (S := (fun w' => w'.cell? ⟨w.heap.size, 3 + i, none⟩ = some (.int .i64 x) ∧ w'.cell? ⟨w.heap.size, 2, none⟩ = some (.int .i64 f) ∧ Below w.heap.size w w')) (by kernel_rfl) ⟨hcx, hcf, HBW.out.drew⟩ (fun hS => ?_)
          refine rgw 0 ⟨some 32, .move (.tmp 3), 4, _, _, none⟩ hS ?_
          refine rgw 1 ⟨some 33, .move (.tmp 32), 4, _, _, none⟩ hS ?_
          refine rgt 2 (oi := ⟨some 34, .move (.tmp 4), 3, _, _, some (1, true)⟩) (v := undef) rfl (.inr ⟨by rfl, rfl⟩) hS ?_
          (try simp only [rgp])
          refine rgt 3 (oi := ⟨some 35, .fieldAddr 34 (.tmp 1) 3, 0, _, _, some (1, true)⟩) (v := undef) rfl (.inr ⟨by rfl, rfl⟩) hS ?_
          (try simp only [rgp])
          refine rgt 4 (oi := ⟨some 36, .indexAddr 32 (.tmp 35) (.tmp 34), 0, _, _, some (1, true)⟩) (v := undef) rfl (.inr ⟨by rfl, rfl⟩) hS ?_
          (try simp only [rgp])
          refine rgt 5 (oi := ⟨some 37, .load 3 (.tmp 36), 3, _, _, some (1, true)⟩) (v := undef) rfl (.inr ⟨by rfl, rfl⟩) hS ?_
          (try simp only [rgp])
          refine rgt 6 (oi := ⟨some 38, .binOp .geq 3 (.tmp 37) (.const (.int .i64 0)) 3, 4, _, _, some (1, true)⟩) (v := undef) rfl (.inr ⟨by rfl, rfl⟩) hS ?_
          (try simp only [rgp])
          refine rgw 7 ⟨some 39, .pick (.tmp 33) (.tmp 38) (.const (.bool false)), 4, _, _, none⟩ hS ?_
          refine rgw 8 ⟨some 40, .move (.tmp 39), 4, _, _, none⟩ hS ?_
          refine rgt 9 (oi := ⟨some 41, .move (.tmp 4), 3, _, _, some (8, true)⟩) (v := undef) rfl (.inr ⟨by rfl, rfl⟩) hS ?_
          (try simp only [rgp])
          refine rgt 10 (oi := ⟨some 42, .fieldAddr 34 (.tmp 1) 3, 0, _, _, some (8, true)⟩) (v := undef) rfl (.inr ⟨by rfl, rfl⟩) hS ?_
          (try simp only [rgp])
          refine rgt 11 (oi := ⟨some 43, .indexAddr 32 (.tmp 42) (.tmp 41), 0, _, _, some (8, true)⟩) (v := undef) rfl (.inr ⟨by rfl, rfl⟩) hS ?_
          (try simp only [rgp])
          refine rgt 12 (oi := ⟨some 44, .load 3 (.tmp 43), 3, _, _, some (8, true)⟩) (v := undef) rfl (.inr ⟨by rfl, rfl⟩) hS ?_
          (try simp only [rgp])
          refine rgt 13 (oi := ⟨some 45, .fieldAddr 34 (.tmp 1) 2, 0, _, _, some (8, true)⟩) (v := undef) rfl (.inr ⟨by rfl, rfl⟩) hS ?_
          (try simp only [rgp])
          refine rgt 14 (oi := ⟨some 46, .load 3 (.tmp 45), 3, _, _, some (8, true)⟩) (v := undef) rfl (.inr ⟨by rfl, rfl⟩) hS ?_
          (try simp only [rgp])
          refine rgt 15 (oi := ⟨some 47, .binOp .lss 3 (.tmp 44) (.tmp 46) 3, 4, _, _, some (8, true)⟩) (v := undef) rfl (.inr ⟨by rfl, rfl⟩) hS ?_
          (try simp only [rgp])
          refine rgw 16 ⟨some 48, .pick (.tmp 40) (.tmp 47) (.const (.bool false)), 4, _, _, none⟩ hS ?_
          refine rgw 17 ⟨some 3, .assign (.tmp 48), 4, _, _, none⟩ hS ?_
          refine wpAnyH_done (by kernel_rfl) ?_ _
          have HB2 := Lib.hid hS.2.2
          clear hS
          go_wp2
          go_roundw
          case rel => exact ⟨i + 1, by go_num, by omega, congrArg Value.bool (by rw [HSC.out, HX.out, HBI.out]; simp), Lib.hid (HKW.out.keep (Below.refl _ _).drew), HB2⟩
          case measure => simp [intOf]; omega
        | true =>
          by_cases hx0 : 0 ≤ x
          · have hd0 : decide (0 ≤ x) = true := decide_eq_true hx0
            by_cases hxf : x < f
            · have hd1 : decide (x < f) = true := decide_eq_true hxf
              go_wp2_with fail
              refine wp_region_held_drew (S := (fun w' => w'.cell? ⟨w.heap.size, 3 + i, none⟩ = some (.int .i64 x) ∧ w'.cell? ⟨w.heap.size, 2, none⟩ = some (.int .i64 f) ∧ Below w.heap.size w w')) (by kernel_rfl) ⟨hcx, hcf, HBW.out.drew⟩ (fun hS => ?_)
              refine rgw 0 ⟨some 32, .move (.tmp 3), 4, _, _, none⟩ hS ?_
              refine rgw 1 ⟨some 33, .move (.tmp 32), 4, _, _, none⟩ hS ?_
              refine rgw 2 ⟨some 34, .move (.tmp 4), 3, _, _, some (1, true)⟩ hS ?_
              refine rgw 3 ⟨some 35, .fieldAddr 34 (.tmp 1) 3, 0, _, _, some (1, true)⟩ hS ?_
              refine rgw 4 ⟨some 36, .indexAddr 32 (.tmp 35) (.tmp 34), 0, _, _, some (1, true)⟩ hS ?_
              refine rgw 5 ⟨some 37, .load 3 (.tmp 36), 3, _, _, some (1, true)⟩ hS ?_
              refine rgw 6 ⟨some 38, .binOp .geq 3 (.tmp 37) (.const (.int .i64 0)) 3, 4, _, _, some (1, true)⟩ hS ?_ (v := .bool true) (hy := by intro w hSw; (try dsimp only at hSw); go_simp)
              refine rgw 7 ⟨some 39, .pick (.tmp 33) (.tmp 38) (.const (.bool false)), 4, _, _, none⟩ hS ?_
              refine rgw 8 ⟨some 40, .move (.tmp 39), 4, _, _, none⟩ hS ?_
              refine rgw 9 ⟨some 41, .move (.tmp 4), 3, _, _, some (8, true)⟩ hS ?_
              refine rgw 10 ⟨some 42, .fieldAddr 34 (.tmp 1) 3, 0, _, _, some (8, true)⟩ hS ?_
              refine rgw 11 ⟨some 43, .indexAddr 32 (.tmp 42) (.tmp 41), 0, _, _, some (8, true)⟩ hS ?_
              refine rgw 12 ⟨some 44, .load 3 (.tmp 43), 3, _, _, some (8, true)⟩ hS ?_
              refine rgw 13 ⟨some 45, .fieldAddr 34 (.tmp 1) 2, 0, _, _, some (8, true)⟩ hS ?_
              refine rgw 14 ⟨some 46, .load 3 (.tmp 45), 3, _, _, some (8, true)⟩ hS ?_
              refine rgw 15 ⟨some 47, .binOp .lss 3 (.tmp 44) (.tmp 46) 3, 4, _, _, some (8, true)⟩ hS ?_ (v := .bool true) (hy := by intro w hSw; (try dsimp only at hSw); go_simp)
              refine rgw 16 ⟨some 48, .pick (.tmp 40) (.tmp 47) (.const (.bool false)), 4, _, _, none⟩ hS ?_
              refine rgw 17 ⟨some 3, .assign (.tmp 48), 4, _, _, none⟩ hS ?_
              refine wpAnyH_done (by kernel_rfl) ?_ _
              have HB2 := Lib.hid hS.2.2
              clear hS
              go_wp2
              go_roundw
              case rel => exact ⟨i + 1, by go_num, by omega, congrArg Value.bool (by rw [HSC.out, HX.out, HBI.out]; simp [hx0, hxf]), Lib.hid (HKW.out.keep (Below.refl _ _).drew), HB2⟩
              case measure => simp [intOf]; omega
            · have hd1 : decide (x < f) = false := decide_eq_false hxf
              go_wp2_with fail
              refine wp_region_held_drew (S := (fun w' => w'.cell? ⟨w.heap.size, 3 + i, none⟩ = some (.int .i64 x) ∧ w'.cell? ⟨w.heap.size, 2, none⟩ = some (.int .i64 f) ∧ Below w.heap.size w w')) (by kernel_rfl) ⟨hcx, hcf, HBW.out.drew⟩ (fun hS => ?_)
              refine rgw 0 ⟨some 32, .move (.tmp 3), 4, _, _, none⟩ hS ?_
              refine rgw 1 ⟨some 33, .move (.tmp 32), 4, _, _, none⟩ hS ?_
              refine rgw 2 ⟨some 34, .move (.tmp 4), 3, _, _, some (1, true)⟩ hS ?_
              refine rgw 3 ⟨some 35, .fieldAddr 34 (.tmp 1) 3, 0, _, _, some (1, true)⟩ hS ?_
              refine rgw 4 ⟨some 36, .indexAddr 32 (.tmp 35) (.tmp 34), 0, _, _, some (1, true)⟩ hS ?_
              refine rgw 5 ⟨some 37, .load 3 (.tmp 36), 3, _, _, some (1, true)⟩ hS ?_
              refine rgw 6 ⟨some 38, .binOp .geq 3 (.tmp 37) (.const (.int .i64 0)) 3, 4, _, _, some (1, true)⟩ hS ?_ (v := .bool true) (hy := by intro w hSw; (try dsimp only at hSw); go_simp)
              refine rgw 7 ⟨some 39, .pick (.tmp 33) (.tmp 38) (.const (.bool false)), 4, _, _, none⟩ hS ?_
              refine rgw 8 ⟨some 40, .move (.tmp 39), 4, _, _, none⟩ hS ?_
              refine rgw 9 ⟨some 41, .move (.tmp 4), 3, _, _, some (8, true)⟩ hS ?_
              refine rgw 10 ⟨some 42, .fieldAddr 34 (.tmp 1) 3, 0, _, _, some (8, true)⟩ hS ?_
              refine rgw 11 ⟨some 43, .indexAddr 32 (.tmp 42) (.tmp 41), 0, _, _, some (8, true)⟩ hS ?_
              refine rgw 12 ⟨some 44, .load 3 (.tmp 43), 3, _, _, some (8, true)⟩ hS ?_
              refine rgw 13 ⟨some 45, .fieldAddr 34 (.tmp 1) 2, 0, _, _, some (8, true)⟩ hS ?_
              refine rgw 14 ⟨some 46, .load 3 (.tmp 45), 3, _, _, some (8, true)⟩ hS ?_
              refine rgw 15 ⟨some 47, .binOp .lss 3 (.tmp 44) (.tmp 46) 3, 4, _, _, some (8, true)⟩ hS ?_ (v := .bool false) (hy := by intro w hSw; (try dsimp only at hSw); go_simp)
              refine rgw 16 ⟨some 48, .pick (.tmp 40) (.tmp 47) (.const (.bool false)), 4, _, _, none⟩ hS ?_
              refine rgw 17 ⟨some 3, .assign (.tmp 48), 4, _, _, none⟩ hS ?_
              refine wpAnyH_done (by kernel_rfl) ?_ _
              have HB2 := Lib.hid hS.2.2
              clear hS
              go_wp2
              go_roundw
              case rel => exact ⟨i + 1, by go_num, by omega, congrArg Value.bool (by rw [HSC.out, HX.out, HBI.out]; simp [hxf]), Lib.hid (HKW.out.keep (Below.refl _ _).drew), HB2⟩
              case measure => simp [intOf]; omega
          · have hd0 : decide (0 ≤ x) = false := decide_eq_false hx0
            go_wp2_with fail
            refine wp_region_held_drew (S := (fun w' => w'.cell? ⟨w.heap.size, 3 + i, none⟩ = some (.int .i64 x) ∧ w'.cell? ⟨w.heap.size, 2, none⟩ = some (.int .i64 f) ∧ Below w.heap.size w w')) (by kernel_rfl) ⟨hcx, hcf, HBW.out.drew⟩ (fun hS => ?_)
            refine rgw 0 ⟨some 32, .move (.tmp 3), 4, _, _, none⟩ hS ?_
            refine rgw 1 ⟨some 33, .move (.tmp 32), 4, _, _, none⟩ hS ?_
            refine rgw 2 ⟨some 34, .move (.tmp 4), 3, _, _, some (1, true)⟩ hS ?_
            refine rgw 3 ⟨some 35, .fieldAddr 34 (.tmp 1) 3, 0, _, _, some (1, true)⟩ hS ?_
            refine rgw 4 ⟨some 36, .indexAddr 32 (.tmp 35) (.tmp 34), 0, _, _, some (1, true)⟩ hS ?_
            refine rgw 5 ⟨some 37, .load 3 (.tmp 36), 3, _, _, some (1, true)⟩ hS ?_
            refine rgw 6 ⟨some 38, .binOp .geq 3 (.tmp 37) (.const (.int .i64 0)) 3, 4, _, _, some (1, true)⟩ hS ?_ (v := .bool false) (hy := by intro w hSw; (try dsimp only at hSw); go_simp)
            refine rgw 7 ⟨some 39, .pick (.tmp 33) (.tmp 38) (.const (.bool false)), 4, _, _, none⟩ hS ?_
            refine rgw 8 ⟨some 40, .move (.tmp 39), 4, _, _, none⟩ hS ?_
            refine rgt 9 (oi := ⟨some 41, .move (.tmp 4), 3, _, _, some (8, true)⟩) (v := undef) rfl (.inr ⟨by rfl, rfl⟩) hS ?_
            (try simp only [rgp])
            refine rgt 10 (oi := ⟨some 42, .fieldAddr 34 (.tmp 1) 3, 0, _, _, some (8, true)⟩) (v := undef) rfl (.inr ⟨by rfl, rfl⟩) hS ?_
            (try simp only [rgp])
            refine rgt 11 (oi := ⟨some 43, .indexAddr 32 (.tmp 42) (.tmp 41), 0, _, _, some (8, true)⟩) (v := undef) rfl (.inr ⟨by rfl, rfl⟩) hS ?_
            (try simp only [rgp])
            refine rgt 12 (oi := ⟨some 44, .load 3 (.tmp 43), 3, _, _, some (8, true)⟩) (v := undef) rfl (.inr ⟨by rfl, rfl⟩) hS ?_
            (try simp only [rgp])
            refine rgt 13 (oi := ⟨some 45, .fieldAddr 34 (.tmp 1) 2, 0, _, _, some (8, true)⟩) (v := undef) rfl (.inr ⟨by rfl, rfl⟩) hS ?_
            (try simp only [rgp])
            refine rgt 14 (oi := ⟨some 46, .load 3 (.tmp 45), 3, _, _, some (8, true)⟩) (v := undef) rfl (.inr ⟨by rfl, rfl⟩) hS ?_
            (try simp only [rgp])
            refine rgt 15 (oi := ⟨some 47, .binOp .lss 3 (.tmp 44) (.tmp 46) 3, 4, _, _, some (8, true)⟩) (v := undef) rfl (.inr ⟨by rfl, rfl⟩) hS ?_
            (try simp only [rgp])
            refine rgw 16 ⟨some 48, .pick (.tmp 40) (.tmp 47) (.const (.bool false)), 4, _, _, none⟩ hS ?_
            refine rgw 17 ⟨some 3, .assign (.tmp 48), 4, _, _, none⟩ hS ?_
            refine wpAnyH_done (by kernel_rfl) ?_ _
            have HB2 := Lib.hid hS.2.2
            clear hS
            go_wp2
            go_roundw
            case rel => exact ⟨i + 1, by go_num, by omega, congrArg Value.bool (by rw [HSC.out, HX.out, HBI.out]; simp; intro q; omega), Lib.hid (HKW.out.keep (Below.refl _ _).drew), HB2⟩
            case measure => simp [intOf]; omega
      · obtain rfl : i = 4 := by omega
        rw [HL.out]
        go_wp2
        go_ret
        exact ⟨rfl, HBW.out⟩
end Go.Proofs.YtpoiapfgbbmekaaGreatDoor
namespace Go.Proofs.YtpoiapfgbbmekaaGreatDoor
open Go.RowKit
set_option maxHeartbeats 400000 in
theorem rgetw_some (b off len cap : Nat) (zs : List Int) (w : World) (hz : Bytes zs) (hlen : 0 < len) (hmax : len ≤ 9223372036854775807)
    (hc : ∀ j, j < len → w.cell? ⟨b, off + j, none⟩ = some (.int .u8 (zs.getD j 0))) :
    Calls Tryz.prog 109 #[.slice (some ⟨b, off, none⟩) len cap] w fun e w' => e = .returned (.int .u64 (getI zs (min len 8))) ∧ Drawn w w' := by
  obtain ⟨m, hm, hm1, hm2, hm3⟩ : ∃ m : Nat, min len 8 = m ∧ m ≤ len ∧ m ≤ 8 ∧ (m = len ∨ m = 8) := ⟨_, rfl, by omega, by omega, by omega⟩
  rw [hm]
  have HM := Lib.hid hm; clear hm
  go_enter Tryz.func109, Tryz.ntmps109
  go_wp2
  go_loopw [3, 4] (fun n i wr => ∃ k : Nat, k ≤ m ∧ i = .int .i64 k ∧ n = .int .u64 (getI zs k) ∧ Drawn w wr) (fun _ i _ => m - (intOf i).toNat)
  case atStart => exact ⟨0, by omega, rfl, rfl, ⟨0, rfl⟩⟩
  case round =>
    obtain ⟨k, hk, rfl, rfl, hw⟩ := hrel
    by_cases hlt : k < m
    · have hcell : wr.cell? ⟨b, off + k, none⟩ = some (.int .u8 (zs.getD k 0)) := (hw.cell _).trans (hc k (by omega))
      have hb : 0 ≤ zs[k]?.getD 0 ∧ zs[k]?.getD 0 ≤ 255 := hz k
      have HG := Lib.hid (getI_ref zs hz k (by omega))
      have h1 : (k : Int) < (len : Int) := by omega
      have h2 : (k : Int) < 8 := by omega
      go_wp2_with fail
      have he : IntKind.i64.wrap (8 * (k : Int)) = ((8 * k : Nat) : Int) := by rw [IntWalk.i64_in _ (by omega)]; omega
      have hu : IntKind.u64.wrap (zs[k]?.getD 0) = zs[k]?.getD 0 := IntWalk.u64_in _ (by omega)
      go_quiet ((go_at_call 93; exact quiet_eq (two_at _ (8 * k) (by omega) (by omega) _)))
      clear he hu
      go_wp2
      go_roundw
      case rel => exact ⟨k + 1, by omega, by go_num, by rw [← HG.out]; rfl, hw.then _⟩
      case measure => simp [intOf]; omega
    · rcases (by omega : (len : Int) ≤ k ∨ (k : Int) < len ∧ 8 ≤ (k : Int)) with h1 | ⟨h1, h2⟩
      all_goals
        go_wp2
        go_ret
        exact ⟨ret_int (by congr 1; omega), hw⟩
end Go.Proofs.YtpoiapfgbbmekaaGreatDoor
namespace Go.Proofs.YtpoiapfgbbmekaaGreatDoor
open Go.RowKit
theorem sec_rget (g p n : Nat) (zs : List Int) (w : World) (hk : Blk w g zs) (hb : isB zs) (hp : p + n ≤ 64) (h0 : 0 < n) (h8 : n ≤ 8) {m : Int} (hm : num zs p n = m) :
    Calls Tryz.prog 109 #[.slice (some ⟨g, p, none⟩) n (64 - p)] w fun e w' => e = .returned (.int .u64 m) ∧ Below w.heap.size w w' := by
  obtain ⟨b2, off2, c2, e, _, _, hcell⟩ := (hk.ri p n (64 - p) hp (by omega) (by omega)).open_ h0
  simp only [Value.slice.injEq, Option.some.injEq, Addr.mk.injEq, and_true, true_and] at e
  obtain ⟨⟨rfl, rfl⟩, _⟩ := e
  have h := rgetw_some g p n (64 - p) ((zs.drop p).take n) w (bytes_of_mem ((hb.drop p).take n)) h0 (by omega) hcell
  rw [Nat.min_eq_left h8, getI_take _ n n (Nat.le_refl _)] at h
  rw [← hm]; exact h.mono fun _ _ ⟨h1, h2⟩ => ⟨h1, h2.grown⟩
theorem mark_at {zs : List Int} (h : zs.take 5 = mark) (i : Nat) (hi : i < 5) : zs.getD i 0 = mark.getD i 0 := by
  rw [← h]; simp only [List.getD, List.getElem?_take, hi, if_true]
theorem mark_of (zs : List Int) (hl : zs.length = 64) (h0 : zs.getD 0 0 = 115) (h1 : zs.getD 1 0 = 116) (h2 : zs.getD 2 0 = 114) (h3 : zs.getD 3 0 = 100) (h4 : zs.getD 4 0 = 1) : zs.take 5 = mark := by
  refine List.ext_getElem (by simp [hl, mark]) fun j g1 g2 => ?_
  have hj : j < 5 := g2
  have e : (zs.take 5)[j] = zs.getD j 0 := by simp [List.getD, show j < zs.length by omega]
  rw [e]
  match j, hj with
  | 0, _ => rw [h0]; rfl
  | 1, _ => rw [h1]; rfl
  | 2, _ => rw [h2]; rfl
  | 3, _ => rw [h3]; rfl
  | 4, _ => rw [h4]; rfl
def zu (zs : List Int) (i : Nat) : Bool := ((zs.drop 41).take (i - 41)).all fun x => x == 0
theorem zu_zero (zs : List Int) : zu zs 41 = true := by simp [zu]
theorem zu_succ (zs : List Int) (i : Nat) (hi : 41 ≤ i) (hl : i < zs.length) : zu zs (i + 1) = (zu zs i && (zs.getD i 0 == 0)) := by
  unfold zu
  rw [show i + 1 - 41 = (i - 41) + 1 from by omega, List.take_succ_eq_append_getElem (by simp; omega), List.all_append]
  simp only [List.all_cons, List.all_nil, Bool.and_true, List.getElem_drop]
  simp only [show 41 + (i - 41) = i from by omega, List.getD, hl, getElem?_pos, Option.getD_some]
theorem zu_all (zs : List Int) (hl : zs.length = 64) : zu zs 64 = decide (zs.drop 41 = z23) := by
  unfold zu
  rw [List.take_of_length_le (by simp [hl]), Bool.eq_iff_iff, List.all_eq_true, decide_eq_true_eq]
  constructor
  · intro h
    refine List.eq_replicate_iff.2 ⟨by simp [hl], fun b hb => by simpa using h b hb⟩
  · intro h x hx
    rw [h] at hx
    simpa using (List.mem_replicate.1 hx).2
set_option maxRecDepth 8000 in
set_option maxHeartbeats 8000000 in
theorem rdec_none (zs : List Int) (hl : zs.length = 64) (hb : isB zs) (w : World) (h1 : zs = z64) :
    Calls Tryz.prog 95 #[.agg (sv zs)] w fun r w' => r = .returned (.tuple #[.agg (hv noH), .int .i64 7]) ∧ Below w.heap.size w w' := by
  obtain ⟨w0, hw0⟩ : ∃ q, (w.alloc (.cells (sv zs) 63)).alloc (.cells #[.int .u64 0, .int .i64 0, .int .i64 0, .int .i64 0, .int .i64 0, .int .i64 0, .int .i64 0] 34) = q := ⟨_, rfl⟩
  have hs1 : (w.alloc (.cells (sv zs) 63)).heap.size = w.heap.size + 1 := alloc_size w _
  have hk0 : Blk w0 w.heap.size zs := by rw [← hw0]; exact (Blk.new w zs hl).keep (balloc _ _)
  have HK := Lib.hid hk0
  have HRB := Lib.hid (show HB w0 (w.heap.size + 1) noH from by rw [← hw0, ← hs1]; exact HB.new _ noH rfl)
  have HW := Lib.hid (show Below w.heap.size w w0 from by rw [← hw0]; exact bch (balloc w _) (balloc _ _))
  have HSZ := Lib.hid (show w0.heap.size = w.heap.size + 2 from by rw [← hw0, alloc_size, hs1])
  have HL := Lib.hid hl
  have HZB := Lib.hid hb
  have HEQ := Lib.hid (show decide (zs = z64) = true from by simpa using h1)
  clear hl hb hs1 hk0 h1
  go_enter Tryz.func95, Tryz.ntmps95
  go_wp2_with (first
    | (refine wpl_load_sec (by rfl) (.tmp 1) rfl w.heap.size rfl zs HK.out ?_)
    | (refine wpl_build_z rfl (by rfl) ?_)
    | (refine wpl_eq_sec (.tmp 8) (.tmp 9) _ rfl zs z64 HL.out z64_length rfl rfl (by rfl) ?_; rw [HEQ.out])
    | (refine wpl_put_hd rfl (.tmp 2) (.tmp 11) rfl (w.heap.size + 1) noH noH HRB.out rfl rfl rfl ?_; intro wf HOF HGF))
  refine bodyPost_ret_by (results_row_tmp rfl _ _ (w.heap.size + 1) _ rfl HOF.out.load) rfl ⟨rfl, hbelow_grown HW.out HGF.out (by omega) HW.out.size⟩
set_option maxRecDepth 8000 in
set_option maxHeartbeats 8000000 in
theorem rdec_mark (zs : List Int) (hl : zs.length = 64) (hb : isB zs) (w : World) (h1 : ¬ zs = z64) (h2 : ¬ zs.take 5 = mark) :
    Calls Tryz.prog 95 #[.agg (sv zs)] w fun r w' => r = .returned (.tuple #[.agg (hv noH), .int .i64 2]) ∧ Below w.heap.size w w' := by
  obtain ⟨w0, hw0⟩ : ∃ q, (w.alloc (.cells (sv zs) 63)).alloc (.cells #[.int .u64 0, .int .i64 0, .int .i64 0, .int .i64 0, .int .i64 0, .int .i64 0, .int .i64 0] 34) = q := ⟨_, rfl⟩
  have hs1 : (w.alloc (.cells (sv zs) 63)).heap.size = w.heap.size + 1 := alloc_size w _
  have hk0 : Blk w0 w.heap.size zs := by rw [← hw0]; exact (Blk.new w zs hl).keep (balloc _ _)
  have HK := Lib.hid hk0
  have HRB := Lib.hid (show HB w0 (w.heap.size + 1) noH from by rw [← hw0, ← hs1]; exact HB.new _ noH rfl)
  have HW := Lib.hid (show Below w.heap.size w w0 from by rw [← hw0]; exact bch (balloc w _) (balloc _ _))
  have HSZ := Lib.hid (show w0.heap.size = w.heap.size + 2 from by rw [← hw0, alloc_size, hs1])
  have HL := Lib.hid hl
  have HZB := Lib.hid hb
  have HEQ := Lib.hid (show decide (zs = z64) = false from by simpa using h1)
  have c0 := hk0.cell 0 (by omega)
  have c1 := hk0.cell 1 (by omega)
  have c2 := hk0.cell 2 (by omega)
  have c3 := hk0.cell 3 (by omega)
  have c4 := hk0.cell 4 (by omega)
  obtain ⟨x0, hx0⟩ : ∃ x, zs.getD 0 0 = x := ⟨_, rfl⟩
  obtain ⟨x1, hx1⟩ : ∃ x, zs.getD 1 0 = x := ⟨_, rfl⟩
  obtain ⟨x2, hx2⟩ : ∃ x, zs.getD 2 0 = x := ⟨_, rfl⟩
  obtain ⟨x3, hx3⟩ : ∃ x, zs.getD 3 0 = x := ⟨_, rfl⟩
  obtain ⟨x4, hx4⟩ : ∃ x, zs.getD 4 0 = x := ⟨_, rfl⟩
  rw [hx0] at c0
  rw [hx1] at c1
  rw [hx2] at c2
  rw [hx3] at c3
  rw [hx4] at c4
  have hne : ¬ (x0 = 115 ∧ x1 = 116 ∧ x2 = 114 ∧ x3 = 100 ∧ x4 = 1) := fun ⟨g0, g1, g2, g3, g4⟩ => h2 (mark_of zs hl (hx0.trans g0) (hx1.trans g1) (hx2.trans g2) (hx3.trans g3) (hx4.trans g4))
  have hcase : (¬ x0 = 115) ∨ (x0 = 115 ∧ ¬ x1 = 116) ∨ (x0 = 115 ∧ x1 = 116 ∧ ¬ x2 = 114) ∨ (x0 = 115 ∧ x1 = 116 ∧ x2 = 114 ∧ ¬ x3 = 100) ∨ (x0 = 115 ∧ x1 = 116 ∧ x2 = 114 ∧ x3 = 100 ∧ ¬ x4 = 1) := by omega
  clear hne hx0 hx1 hx2 hx3 hx4
  clear hl hb hs1 hk0 h1 h2
  go_enter Tryz.func95, Tryz.ntmps95
  rcases hcase with h2 | ⟨rfl, h2⟩ | ⟨rfl, rfl, h2⟩ | ⟨rfl, rfl, rfl, h2⟩ | ⟨rfl, rfl, rfl, rfl, h2⟩
  all_goals
    go_wp2_with (first
      | (refine wpl_load_sec (by rfl) (.tmp 1) rfl w.heap.size rfl zs HK.out ?_)
      | (refine wpl_build_z rfl (by rfl) ?_)
      | (refine wpl_eq_sec (.tmp 8) (.tmp 9) _ rfl zs z64 HL.out z64_length rfl rfl (by rfl) ?_; rw [HEQ.out]))
    go_loopw [4, 5] (fun v iv wr => ∃ i : Nat, iv = .int .i64 i ∧ i ≤ 64 ∧ v = .bool false ∧ wr = w0) (fun _ iv _ => 64 - (intOf iv).toNat)
    case atStart => exact ⟨41, rfl, by omega, congrArg Value.bool (by first | rfl | simp [h2]), rfl⟩
    case round =>
      obtain ⟨i, rfl, hi2, rfl, rfl⟩ := hrel
      by_cases hlt : i < 64
      · have hlt2 : (i : Int) < 64 := by omega
        go_wp2
        go_roundw
        case rel => exact ⟨i + 1, by go_num, by omega, rfl, trivial⟩
        case measure => simp [intOf]; omega
      · obtain rfl : i = 64 := by omega
        go_wp2_with (first
          | (refine wpl_put_hd rfl (.tmp 2) (.tmp 48) rfl (w.heap.size + 1) noH noH HRB.out rfl rfl rfl ?_; intro wf HOF HGF))
        refine bodyPost_ret_by (results_row_tmp rfl _ _ (w.heap.size + 1) _ rfl HOF.out.load) rfl ⟨rfl, hbelow_grown HW.out HGF.out (by omega) HW.out.size⟩
set_option maxRecDepth 8000 in
set_option maxHeartbeats 8000000 in
theorem rdec_rest (zs : List Int) (hl : zs.length = 64) (hb : isB zs) (w : World) (h1 : ¬ zs = z64) (h2 : zs.take 5 = mark) (h3 : ¬ zs.drop 41 = z23) :
    Calls Tryz.prog 95 #[.agg (sv zs)] w fun r w' => r = .returned (.tuple #[.agg (hv noH), .int .i64 2]) ∧ Below w.heap.size w w' := by
  obtain ⟨w0, hw0⟩ : ∃ q, (w.alloc (.cells (sv zs) 63)).alloc (.cells #[.int .u64 0, .int .i64 0, .int .i64 0, .int .i64 0, .int .i64 0, .int .i64 0, .int .i64 0] 34) = q := ⟨_, rfl⟩
  have hs1 : (w.alloc (.cells (sv zs) 63)).heap.size = w.heap.size + 1 := alloc_size w _
  have hk0 : Blk w0 w.heap.size zs := by rw [← hw0]; exact (Blk.new w zs hl).keep (balloc _ _)
  have HK := Lib.hid hk0
  have HRB := Lib.hid (show HB w0 (w.heap.size + 1) noH from by rw [← hw0, ← hs1]; exact HB.new _ noH rfl)
  have HW := Lib.hid (show Below w.heap.size w w0 from by rw [← hw0]; exact bch (balloc w _) (balloc _ _))
  have HSZ := Lib.hid (show w0.heap.size = w.heap.size + 2 from by rw [← hw0, alloc_size, hs1])
  have HL := Lib.hid hl
  have HZB := Lib.hid hb
  have HEQ := Lib.hid (show decide (zs = z64) = false from by simpa using h1)
  have c0 := hk0.cell 0 (by omega)
  have c1 := hk0.cell 1 (by omega)
  have c2 := hk0.cell 2 (by omega)
  have c3 := hk0.cell 3 (by omega)
  have c4 := hk0.cell 4 (by omega)
  obtain ⟨x0, hx0⟩ : ∃ x, zs.getD 0 0 = x := ⟨_, rfl⟩
  obtain ⟨x1, hx1⟩ : ∃ x, zs.getD 1 0 = x := ⟨_, rfl⟩
  obtain ⟨x2, hx2⟩ : ∃ x, zs.getD 2 0 = x := ⟨_, rfl⟩
  obtain ⟨x3, hx3⟩ : ∃ x, zs.getD 3 0 = x := ⟨_, rfl⟩
  obtain ⟨x4, hx4⟩ : ∃ x, zs.getD 4 0 = x := ⟨_, rfl⟩
  rw [hx0] at c0
  rw [hx1] at c1
  rw [hx2] at c2
  rw [hx3] at c3
  rw [hx4] at c4
  obtain rfl : x0 = 115 := by rw [← hx0]; exact mark_at h2 0 (by omega)
  obtain rfl : x1 = 116 := by rw [← hx1]; exact mark_at h2 1 (by omega)
  obtain rfl : x2 = 114 := by rw [← hx2]; exact mark_at h2 2 (by omega)
  obtain rfl : x3 = 100 := by rw [← hx3]; exact mark_at h2 3 (by omega)
  obtain rfl : x4 = 1 := by rw [← hx4]; exact mark_at h2 4 (by omega)
  clear hx0 hx1 hx2 hx3 hx4
  have HZA := Lib.hid (show zu zs 64 = false from by rw [zu_all zs hl]; simpa using h3)
  clear hl hb hs1 hk0 h1 h2 h3
  go_enter Tryz.func95, Tryz.ntmps95
  go_wp2_with (first
    | (refine wpl_load_sec (by rfl) (.tmp 1) rfl w.heap.size rfl zs HK.out ?_)
    | (refine wpl_build_z rfl (by rfl) ?_)
    | (refine wpl_eq_sec (.tmp 8) (.tmp 9) _ rfl zs z64 HL.out z64_length rfl rfl (by rfl) ?_; rw [HEQ.out]))
  go_loopw [4, 5] (fun v iv wr => ∃ i : Nat, iv = .int .i64 i ∧ 41 ≤ i ∧ i ≤ 64 ∧ v = .bool (zu zs i) ∧ wr = w0) (fun _ iv _ => 64 - (intOf iv).toNat)
  case atStart => exact ⟨41, rfl, by omega, by omega, congrArg Value.bool (zu_zero zs).symm, rfl⟩
  case round =>
    obtain ⟨i, rfl, hi, hi2, rfl, rfl⟩ := hrel
    by_cases hlt : i < 64
    · have hci := HK.out.cell i hlt
      obtain ⟨x, hx⟩ : ∃ x, zs.getD i 0 = x := ⟨_, rfl⟩
      rw [hx] at hci
      have HZU := Lib.hid (zu_succ zs i hi (by rw [HL.out]; exact hlt))
      rw [hx] at HZU
      obtain ⟨b, hb⟩ : ∃ b, zu zs i = b := ⟨_, rfl⟩
      rw [hb] at HZU ⊢
      have hlt2 : (i : Int) < 64 := by omega
      clear hx hb
      cases b with
      | false =>
        go_wp2
        go_roundw
        case rel => exact ⟨i + 1, by go_num, by omega, by omega, congrArg Value.bool (by rw [HZU.out]; rfl), trivial⟩
        case measure => simp [intOf]; omega
      | true =>
        go_wp2
        go_roundw
        case rel => exact ⟨i + 1, by go_num, by omega, by omega, congrArg Value.bool (by rw [HZU.out, Bool.true_and]), trivial⟩
        case measure => simp [intOf]; omega
    · obtain rfl : i = 64 := by omega
      rw [HZA.out]
      go_wp2_with (first
        | (refine wpl_put_hd rfl (.tmp 2) (.tmp 48) rfl (w.heap.size + 1) noH noH HRB.out rfl rfl rfl ?_; intro wf HOF HGF))
      refine bodyPost_ret_by (results_row_tmp rfl _ _ (w.heap.size + 1) _ rfl HOF.out.load) rfl ⟨rfl, hbelow_grown HW.out HGF.out (by omega) HW.out.size⟩
set_option maxRecDepth 8000 in
set_option maxHeartbeats 8000000 in
theorem rdec_sum (zs : List Int) (hl : zs.length = 64) (hb : isB zs) (w : World) (h1 : ¬ zs = z64) (h2 : zs.take 5 = mark) (h3 : zs.drop 41 = z23) (h4 : ¬ (zs.drop 37).take 4 = putL (maskS (ofS (zs.take 37))) 4) :
    Calls Tryz.prog 95 #[.agg (sv zs)] w fun r w' => r = .returned (.tuple #[.agg (hv noH), .int .i64 3]) ∧ Below w.heap.size w w' := by
  obtain ⟨w0, hw0⟩ : ∃ q, (w.alloc (.cells (sv zs) 63)).alloc (.cells #[.int .u64 0, .int .i64 0, .int .i64 0, .int .i64 0, .int .i64 0, .int .i64 0, .int .i64 0] 34) = q := ⟨_, rfl⟩
  have hs1 : (w.alloc (.cells (sv zs) 63)).heap.size = w.heap.size + 1 := alloc_size w _
  have hk0 : Blk w0 w.heap.size zs := by rw [← hw0]; exact (Blk.new w zs hl).keep (balloc _ _)
  have HK := Lib.hid hk0
  have HRB := Lib.hid (show HB w0 (w.heap.size + 1) noH from by rw [← hw0, ← hs1]; exact HB.new _ noH rfl)
  have HW := Lib.hid (show Below w.heap.size w w0 from by rw [← hw0]; exact bch (balloc w _) (balloc _ _))
  have HSZ := Lib.hid (show w0.heap.size = w.heap.size + 2 from by rw [← hw0, alloc_size, hs1])
  have HL := Lib.hid hl
  have HZB := Lib.hid hb
  have HEQ := Lib.hid (show decide (zs = z64) = false from by simpa using h1)
  have c0 := hk0.cell 0 (by omega)
  have c1 := hk0.cell 1 (by omega)
  have c2 := hk0.cell 2 (by omega)
  have c3 := hk0.cell 3 (by omega)
  have c4 := hk0.cell 4 (by omega)
  obtain ⟨x0, hx0⟩ : ∃ x, zs.getD 0 0 = x := ⟨_, rfl⟩
  obtain ⟨x1, hx1⟩ : ∃ x, zs.getD 1 0 = x := ⟨_, rfl⟩
  obtain ⟨x2, hx2⟩ : ∃ x, zs.getD 2 0 = x := ⟨_, rfl⟩
  obtain ⟨x3, hx3⟩ : ∃ x, zs.getD 3 0 = x := ⟨_, rfl⟩
  obtain ⟨x4, hx4⟩ : ∃ x, zs.getD 4 0 = x := ⟨_, rfl⟩
  rw [hx0] at c0
  rw [hx1] at c1
  rw [hx2] at c2
  rw [hx3] at c3
  rw [hx4] at c4
  obtain rfl : x0 = 115 := by rw [← hx0]; exact mark_at h2 0 (by omega)
  obtain rfl : x1 = 116 := by rw [← hx1]; exact mark_at h2 1 (by omega)
  obtain rfl : x2 = 114 := by rw [← hx2]; exact mark_at h2 2 (by omega)
  obtain rfl : x3 = 100 := by rw [← hx3]; exact mark_at h2 3 (by omega)
  obtain rfl : x4 = 1 := by rw [← hx4]; exact mark_at h2 4 (by omega)
  clear hx0 hx1 hx2 hx3 hx4
  have HZA := Lib.hid (show zu zs 64 = true from by rw [zu_all zs hl]; simpa using h3)
  obtain ⟨o, ho⟩ : ∃ o, ofS (zs.take 37) = o := ⟨_, rfl⟩
  obtain ⟨m, hm⟩ : ∃ m, maskS o = m := ⟨_, rfl⟩
  rw [ho, hm] at h4
  have hm9 : m < 4294967296 := by rw [← hm]; exact maskS_lt o
  have HWM := Lib.hid (show IntKind.u64.wrap (m : Int) = (m : Int) from IntWalk.u64_in _ (by omega))
  have HOF := Lib.hid (show ∀ w', Blk w' w.heap.size zs → Calls Tryz.prog 87 #[.slice (some ⟨w.heap.size, 0, none⟩) 37 64] w' fun e w'' => e = .returned (.int .u32 o) ∧ w' = w'' from fun w' hk => rof_any (by have := hk.ri 0 37 64 (by omega) (by omega) (by omega); rwa [List.drop_zero] at this) (hb.take 37) ho)
  have HMK := Lib.hid (show ∀ w', Calls Tryz.prog 86 #[.int .u32 o] w' fun e w'' => e = .returned (.int .u32 m) ∧ w' = w'' from fun w' => rmask_at o m (by rw [← ho]; exact ofS_lt _) hm w')
  obtain ⟨n, hn⟩ : ∃ n, num zs 37 4 = n := ⟨_, rfl⟩
  have hnm : (n != (m : Int)) = true := by rw [← hn]; simpa using fun e => h4 ((num_sum hb (by omega) m hm9).1 e)
  have HG37 := Lib.hid (show ∀ w', Blk w' w.heap.size zs → Calls Tryz.prog 109 #[.slice (some ⟨w.heap.size, 37, none⟩) 4 27] w' fun e w'' => e = .returned (.int .u64 n) ∧ Below w'.heap.size w' w'' from fun w' hk => sec_rget w.heap.size 37 4 zs w' hk hb (by omega) (by omega) (by omega) hn)
  clear ho hm hn hm9
  clear hl hb hs1 hk0 h1 h2 h3 h4
  go_enter Tryz.func95, Tryz.ntmps95
  go_wp2_with (first
    | (refine wpl_load_sec (by rfl) (.tmp 1) rfl w.heap.size rfl zs HK.out ?_)
    | (refine wpl_build_z rfl (by rfl) ?_)
    | (refine wpl_eq_sec (.tmp 8) (.tmp 9) _ rfl zs z64 HL.out z64_length rfl rfl (by rfl) ?_; rw [HEQ.out]))
  go_loopw [4, 5] (fun v iv wr => ∃ i : Nat, iv = .int .i64 i ∧ 41 ≤ i ∧ i ≤ 64 ∧ v = .bool (zu zs i) ∧ wr = w0) (fun _ iv _ => 64 - (intOf iv).toNat)
  case atStart => exact ⟨41, rfl, by omega, by omega, congrArg Value.bool (zu_zero zs).symm, rfl⟩
  case round =>
    obtain ⟨i, rfl, hi, hi2, rfl, rfl⟩ := hrel
    by_cases hlt : i < 64
    · have hci := HK.out.cell i hlt
      obtain ⟨x, hx⟩ : ∃ x, zs.getD i 0 = x := ⟨_, rfl⟩
      rw [hx] at hci
      have HZU := Lib.hid (zu_succ zs i hi (by rw [HL.out]; exact hlt))
      rw [hx] at HZU
      obtain ⟨b, hb⟩ : ∃ b, zu zs i = b := ⟨_, rfl⟩
      rw [hb] at HZU ⊢
      have hlt2 : (i : Int) < 64 := by omega
      clear hx hb
      cases b with
      | false =>
        go_wp2
        go_roundw
        case rel => exact ⟨i + 1, by go_num, by omega, by omega, congrArg Value.bool (by rw [HZU.out]; rfl), trivial⟩
        case measure => simp [intOf]; omega
      | true =>
        go_wp2
        go_roundw
        case rel => exact ⟨i + 1, by go_num, by omega, by omega, congrArg Value.bool (by rw [HZU.out, Bool.true_and]), trivial⟩
        case measure => simp [intOf]; omega
    · obtain rfl : i = 64 := by omega
      rw [HZA.out]
      go_wp2_with fail
      refine wp_region_held_drew (S := (fun w' => Blk w' w.heap.size zs ∧ HB w' (w.heap.size + 1) noH ∧ Below w.heap.size w w')) (by kernel_rfl) ⟨HK.out, HRB.out, HW.out.drew⟩ (fun hS => ?_)
      refine rgw 0 ⟨some 49, .slice 63 (.tmp 1) (some (.const (.int .i64 37))) (some (.const (.int .i64 41))) none, 36, _, _, none⟩ hS ?_
      refine rgw 2 ⟨some 51, .slice 63 (.tmp 1) none (some (.const (.int .i64 37))) none, 36, _, _, none⟩ hS ?_
      refine rg_one 1 ⟨some 50, .call { callee := .value (.func 109), args := #[.tmp 49], argTypes := #[36] }, 31, _, _, none⟩ (by kernel_rfl) rfl (fun K hK => ?_)
      go_simp
      (go_at_call 109; (refine (HG37.out _ hS.1).mono ?_); rintro r w3 ⟨rfl, hb⟩)
      refine hK.out _ _ ?_ (fun hS1 => ?_)
      · (first | exact hS | exact ⟨hS.1.keep hb, hS.2.1.keep hb, bch hS.2.2 hb⟩)
      clear hK K hS; have hS := hS1; clear hS1
      (try simp only [rgp])
      refine rg_one 3 ⟨some 52, .call { callee := .value (.func 87), args := #[.tmp 51], argTypes := #[36] }, 127, _, _, none⟩ (by kernel_rfl) rfl (fun K hK => ?_)
      go_simp
      (go_at_call 87; (refine (HOF.out _ hS.1).mono ?_); rintro r w4 ⟨rfl, rfl⟩)
      refine hK.out _ _ ?_ (fun hS1 => ?_)
      · (first | exact hS | exact ⟨hS.1.keep hb, hS.2.1.keep hb, bch hS.2.2 hb⟩)
      clear hK K hS; have hS := hS1; clear hS1
      (try simp only [rgp])
      refine rg_one 4 ⟨some 53, .call { callee := .value (.func 86), args := #[.tmp 52], argTypes := #[127] }, 127, _, _, none⟩ (by kernel_rfl) rfl (fun K hK => ?_)
      go_simp
      (go_at_call 86; (refine (HMK.out _).mono ?_); rintro r w5 ⟨rfl, rfl⟩)
      refine hK.out _ _ ?_ (fun hS1 => ?_)
      · (first | exact hS | exact ⟨hS.1.keep hb, hS.2.1.keep hb, bch hS.2.2 hb⟩)
      clear hK K hS; have hS := hS1; clear hS1
      (try simp only [rgp])
      refine rgw 5 ⟨some 54, .convert 127 31 (.tmp 53), 31, _, _, none⟩ hS ?_ (v := .int .u64 m) (hy := by intro w hSw; (try dsimp only at hSw); have z := HWM.out; go_simp; (try exact z))
      refine rgw 6 ⟨some 55, .binOp .neq 31 (.tmp 50) (.tmp 54) 31, 4, _, _, none⟩ hS ?_ (v := .bool true) (hy := by intro w hSw; (try dsimp only at hSw); go_simp)
      refine wpAnyH_done (by kernel_rfl) ?_ _
      have HK3 := Lib.hid hS.1
      have HRB3 := Lib.hid hS.2.1
      have HW3 := Lib.hid hS.2.2
      clear hS
      go_wp2_with (first
        | (refine wpl_put_hd rfl (.tmp 2) (.tmp 56) rfl (w.heap.size + 1) noH noH HRB3.out rfl rfl rfl ?_; intro wf HOF HGF))
      refine bodyPost_ret_by (results_row_tmp rfl _ _ (w.heap.size + 1) _ rfl HOF.out.load) rfl ⟨rfl, hbelow_grown HW3.out HGF.out (by omega) HW3.out.size⟩
set_option maxRecDepth 8000 in
set_option maxHeartbeats 8000000 in
theorem rdec_wrong (zs : List Int) (hl : zs.length = 64) (hb : isB zs) (w : World) (h1 : ¬ zs = z64) (h2 : zs.take 5 = mark) (h3 : zs.drop 41 = z23) (h4 : (zs.drop 37).take 4 = putL (maskS (ofS (zs.take 37))) 4) (h5 : hdOk (readH zs) = false) :
    Calls Tryz.prog 95 #[.agg (sv zs)] w fun r w' => r = .returned (.tuple #[.agg (hv noH), .int .i64 2]) ∧ Below w.heap.size w w' := by
  obtain ⟨w0, hw0⟩ : ∃ q, (w.alloc (.cells (sv zs) 63)).alloc (.cells #[.int .u64 0, .int .i64 0, .int .i64 0, .int .i64 0, .int .i64 0, .int .i64 0, .int .i64 0] 34) = q := ⟨_, rfl⟩
  have hs1 : (w.alloc (.cells (sv zs) 63)).heap.size = w.heap.size + 1 := alloc_size w _
  have hk0 : Blk w0 w.heap.size zs := by rw [← hw0]; exact (Blk.new w zs hl).keep (balloc _ _)
  have HK := Lib.hid hk0
  have HRB := Lib.hid (show HB w0 (w.heap.size + 1) noH from by rw [← hw0, ← hs1]; exact HB.new _ noH rfl)
  have HW := Lib.hid (show Below w.heap.size w w0 from by rw [← hw0]; exact bch (balloc w _) (balloc _ _))
  have HSZ := Lib.hid (show w0.heap.size = w.heap.size + 2 from by rw [← hw0, alloc_size, hs1])
  have HL := Lib.hid hl
  have HZB := Lib.hid hb
  have HEQ := Lib.hid (show decide (zs = z64) = false from by simpa using h1)
  have c0 := hk0.cell 0 (by omega)
  have c1 := hk0.cell 1 (by omega)
  have c2 := hk0.cell 2 (by omega)
  have c3 := hk0.cell 3 (by omega)
  have c4 := hk0.cell 4 (by omega)
  obtain ⟨x0, hx0⟩ : ∃ x, zs.getD 0 0 = x := ⟨_, rfl⟩
  obtain ⟨x1, hx1⟩ : ∃ x, zs.getD 1 0 = x := ⟨_, rfl⟩
  obtain ⟨x2, hx2⟩ : ∃ x, zs.getD 2 0 = x := ⟨_, rfl⟩
  obtain ⟨x3, hx3⟩ : ∃ x, zs.getD 3 0 = x := ⟨_, rfl⟩
  obtain ⟨x4, hx4⟩ : ∃ x, zs.getD 4 0 = x := ⟨_, rfl⟩
  rw [hx0] at c0
  rw [hx1] at c1
  rw [hx2] at c2
  rw [hx3] at c3
  rw [hx4] at c4
  obtain rfl : x0 = 115 := by rw [← hx0]; exact mark_at h2 0 (by omega)
  obtain rfl : x1 = 116 := by rw [← hx1]; exact mark_at h2 1 (by omega)
  obtain rfl : x2 = 114 := by rw [← hx2]; exact mark_at h2 2 (by omega)
  obtain rfl : x3 = 100 := by rw [← hx3]; exact mark_at h2 3 (by omega)
  obtain rfl : x4 = 1 := by rw [← hx4]; exact mark_at h2 4 (by omega)
  clear hx0 hx1 hx2 hx3 hx4
  have HZA := Lib.hid (show zu zs 64 = true from by rw [zu_all zs hl]; simpa using h3)
  obtain ⟨o, ho⟩ : ∃ o, ofS (zs.take 37) = o := ⟨_, rfl⟩
  obtain ⟨m, hm⟩ : ∃ m, maskS o = m := ⟨_, rfl⟩
  rw [ho, hm] at h4
  have hm9 : m < 4294967296 := by rw [← hm]; exact maskS_lt o
  have HWM := Lib.hid (show IntKind.u64.wrap (m : Int) = (m : Int) from IntWalk.u64_in _ (by omega))
  have HOF := Lib.hid (show ∀ w', Blk w' w.heap.size zs → Calls Tryz.prog 87 #[.slice (some ⟨w.heap.size, 0, none⟩) 37 64] w' fun e w'' => e = .returned (.int .u32 o) ∧ w' = w'' from fun w' hk => rof_any (by have := hk.ri 0 37 64 (by omega) (by omega) (by omega); rwa [List.drop_zero] at this) (hb.take 37) ho)
  have HMK := Lib.hid (show ∀ w', Calls Tryz.prog 86 #[.int .u32 o] w' fun e w'' => e = .returned (.int .u32 m) ∧ w' = w'' from fun w' => rmask_at o m (by rw [← ho]; exact ofS_lt _) hm w')
  have HG37 := Lib.hid (show ∀ w', Blk w' w.heap.size zs → Calls Tryz.prog 109 #[.slice (some ⟨w.heap.size, 37, none⟩) 4 27] w' fun e w'' => e = .returned (.int .u64 m) ∧ Below w'.heap.size w' w'' from fun w' hk => sec_rget w.heap.size 37 4 zs w' hk hb (by omega) (by omega) (by omega) ((num_sum hb (by omega) m hm9).2 h4))
  clear ho hm hm9
  obtain ⟨e0, he0⟩ : ∃ x, num zs 5 8 = x := ⟨_, rfl⟩
  obtain ⟨s0, hs0⟩ : ∃ x, num zs 13 4 = x := ⟨_, rfl⟩
  obtain ⟨f0, hf0⟩ : ∃ x, num zs 17 4 = x := ⟨_, rfl⟩
  have hbd : (0 ≤ e0 ∧ e0 < 2 ^ (8 * 8)) ∧ (0 ≤ s0 ∧ s0 < 4294967296) ∧ (0 ≤ f0 ∧ f0 < 4294967296) := by rw [← he0, ← hs0, ← hf0]; exact ⟨num_bd hb 5 8, num_bd hb 13 4, num_bd hb 17 4⟩
  have HWS := Lib.hid (show IntKind.i64.wrap s0 = s0 from IntWalk.i64_in _ (by have := hbd.2.1; omega))
  have HWF := Lib.hid (show IntKind.i64.wrap f0 = f0 from IntWalk.i64_in _ (by have := hbd.2.2; omega))
  have HE := Lib.hid (show (⟨e0, s0, f0, [num zs 21 4, num zs 25 4, num zs 29 4, num zs 33 4]⟩ : Hdr) = readH zs from by rw [← he0, ← hs0, ← hf0]; rfl)
  have HG5 := Lib.hid (show ∀ w', Blk w' w.heap.size zs → Calls Tryz.prog 109 #[.slice (some ⟨w.heap.size, 5, none⟩) 8 59] w' fun e w'' => e = .returned (.int .u64 e0) ∧ Below w'.heap.size w' w'' from fun w' hk => sec_rget w.heap.size 5 8 zs w' hk hb (by omega) (by omega) (by omega) he0)
  have HG13 := Lib.hid (show ∀ w', Blk w' w.heap.size zs → Calls Tryz.prog 109 #[.slice (some ⟨w.heap.size, 13, none⟩) 4 51] w' fun e w'' => e = .returned (.int .u64 s0) ∧ Below w'.heap.size w' w'' from fun w' hk => sec_rget w.heap.size 13 4 zs w' hk hb (by omega) (by omega) (by omega) hs0)
  have HG17 := Lib.hid (show ∀ w', Blk w' w.heap.size zs → Calls Tryz.prog 109 #[.slice (some ⟨w.heap.size, 17, none⟩) 4 47] w' fun e w'' => e = .returned (.int .u64 f0) ∧ Below w'.heap.size w' w'' from fun w' hk => sec_rget w.heap.size 17 4 zs w' hk hb (by omega) (by omega) (by omega) hf0)
  have HOK : Hid (∀ w, Calls Tryz.prog 34 #[.agg (hv (readH zs))] w fun r w' => r = .returned (.bool false) ∧ Below w.heap.size w w') := Lib.hid fun w => by rw [← h5]; exact hrright_any _ (readH_typed hb) w
  clear he0 hs0 hf0 hbd
  clear hl hb hs1 hk0 h1 h2 h3 h4 h5
  go_enter Tryz.func95, Tryz.ntmps95
  go_wp2_with (first
    | (refine wpl_load_sec (by rfl) (.tmp 1) rfl w.heap.size rfl zs HK.out ?_)
    | (refine wpl_build_z rfl (by rfl) ?_)
    | (refine wpl_eq_sec (.tmp 8) (.tmp 9) _ rfl zs z64 HL.out z64_length rfl rfl (by rfl) ?_; rw [HEQ.out]))
  go_loopw [4, 5] (fun v iv wr => ∃ i : Nat, iv = .int .i64 i ∧ 41 ≤ i ∧ i ≤ 64 ∧ v = .bool (zu zs i) ∧ wr = w0) (fun _ iv _ => 64 - (intOf iv).toNat)
  case atStart => exact ⟨41, rfl, by omega, by omega, congrArg Value.bool (zu_zero zs).symm, rfl⟩
  case round =>
    obtain ⟨i, rfl, hi, hi2, rfl, rfl⟩ := hrel
    by_cases hlt : i < 64
    · have hci := HK.out.cell i hlt
      obtain ⟨x, hx⟩ : ∃ x, zs.getD i 0 = x := ⟨_, rfl⟩
      rw [hx] at hci
      have HZU := Lib.hid (zu_succ zs i hi (by rw [HL.out]; exact hlt))
      rw [hx] at HZU
      obtain ⟨b, hb⟩ : ∃ b, zu zs i = b := ⟨_, rfl⟩
      rw [hb] at HZU ⊢
      have hlt2 : (i : Int) < 64 := by omega
      clear hx hb
      cases b with
      | false =>
        go_wp2
        go_roundw
        case rel => exact ⟨i + 1, by go_num, by omega, by omega, congrArg Value.bool (by rw [HZU.out]; rfl), trivial⟩
        case measure => simp [intOf]; omega
      | true =>
        go_wp2
        go_roundw
        case rel => exact ⟨i + 1, by go_num, by omega, by omega, congrArg Value.bool (by rw [HZU.out, Bool.true_and]), trivial⟩
        case measure => simp [intOf]; omega
    · obtain rfl : i = 64 := by omega
      rw [HZA.out]
      go_wp2_with fail
      refine wp_region_held_drew (S := (fun w' => Blk w' w.heap.size zs ∧ HB w' (w.heap.size + 1) noH ∧ Below w.heap.size w w' ∧ w.heap.size + 2 ≤ w'.heap.size)) (by kernel_rfl) ⟨HK.out, HRB.out, HW.out.drew, Nat.le_of_eq HSZ.out.symm⟩ (fun hS => ?_)
      refine rgw 0 ⟨some 49, .slice 63 (.tmp 1) (some (.const (.int .i64 37))) (some (.const (.int .i64 41))) none, 36, _, _, none⟩ hS ?_
      refine rgw 2 ⟨some 51, .slice 63 (.tmp 1) none (some (.const (.int .i64 37))) none, 36, _, _, none⟩ hS ?_
      refine rg_one 1 ⟨some 50, .call { callee := .value (.func 109), args := #[.tmp 49], argTypes := #[36] }, 31, _, _, none⟩ (by kernel_rfl) rfl (fun K hK => ?_)
      go_simp
      (go_at_call 109; (refine (HG37.out _ hS.1).mono ?_); rintro r w3 ⟨rfl, hb⟩)
      refine hK.out _ _ ?_ (fun hS1 => ?_)
      · (first | exact hS | exact ⟨hS.1.keep hb, hS.2.1.keep hb, bch hS.2.2.1 hb, Nat.le_trans hS.2.2.2 hb.size⟩)
      clear hK K hS; have hS := hS1; clear hS1
      (try simp only [rgp])
      refine rg_one 3 ⟨some 52, .call { callee := .value (.func 87), args := #[.tmp 51], argTypes := #[36] }, 127, _, _, none⟩ (by kernel_rfl) rfl (fun K hK => ?_)
      go_simp
      (go_at_call 87; (refine (HOF.out _ hS.1).mono ?_); rintro r w4 ⟨rfl, rfl⟩)
      refine hK.out _ _ ?_ (fun hS1 => ?_)
      · (first | exact hS | exact ⟨hS.1.keep hb, hS.2.1.keep hb, bch hS.2.2.1 hb, Nat.le_trans hS.2.2.2 hb.size⟩)
      clear hK K hS; have hS := hS1; clear hS1
      (try simp only [rgp])
      refine rg_one 4 ⟨some 53, .call { callee := .value (.func 86), args := #[.tmp 52], argTypes := #[127] }, 127, _, _, none⟩ (by kernel_rfl) rfl (fun K hK => ?_)
      go_simp
      (go_at_call 86; (refine (HMK.out _).mono ?_); rintro r w5 ⟨rfl, rfl⟩)
      refine hK.out _ _ ?_ (fun hS1 => ?_)
      · (first | exact hS | exact ⟨hS.1.keep hb, hS.2.1.keep hb, bch hS.2.2.1 hb, Nat.le_trans hS.2.2.2 hb.size⟩)
      clear hK K hS; have hS := hS1; clear hS1
      (try simp only [rgp])
      refine rgw 5 ⟨some 54, .convert 127 31 (.tmp 53), 31, _, _, none⟩ hS ?_ (v := .int .u64 m) (hy := by intro w hSw; (try dsimp only at hSw); have z := HWM.out; go_simp; (try exact z))
      refine rgw 6 ⟨some 55, .binOp .neq 31 (.tmp 50) (.tmp 54) 31, 4, _, _, none⟩ hS ?_ (v := .bool false) (hy := by intro w hSw; (try dsimp only at hSw); go_simp)
      refine wpAnyH_done (by kernel_rfl) ?_ _
      have HK3 := Lib.hid hS.1
      have HRB3 := Lib.hid hS.2.1
      have HW3 := Lib.hid hS.2.2.1
      have HZ3 := Lib.hid hS.2.2.2
      clear hS
      go_wp2_with fail
      refine wp_region_held_drew (S := (fun w' => Blk w' w.heap.size zs ∧ HB w' (w.heap.size + 1) noH ∧ Below w.heap.size w w' ∧ w.heap.size + 2 ≤ w'.heap.size)) (by kernel_rfl) ⟨HK3.out, HRB3.out, HW3.out.drew, HZ3.out⟩ (fun hS => ?_)
      refine rgw 0 ⟨some 57, .slice 63 (.tmp 1) (some (.const (.int .i64 5))) (some (.const (.int .i64 13))) none, 36, _, _, none⟩ hS ?_
      refine rgw 2 ⟨some 59, .slice 63 (.tmp 1) (some (.const (.int .i64 13))) (some (.const (.int .i64 17))) none, 36, _, _, none⟩ hS ?_
      refine rgw 5 ⟨some 62, .slice 63 (.tmp 1) (some (.const (.int .i64 17))) (some (.const (.int .i64 21))) none, 36, _, _, none⟩ hS ?_
      refine rg_both 1 9 ⟨some 58, .call { callee := .value (.func 109), args := #[.tmp 57], argTypes := #[36] }, 31, _, _, none⟩ ⟨some 6, .alloc 34, 0, _, _, none⟩ (by kernel_rfl) rfl rfl (fun K hK => ?_) (fun K hK => ?_)
      focus
        go_simp
        (go_at_call 109; (refine (HG5.out _ hS.1).mono ?_); rintro r w4 ⟨rfl, hb⟩; (try (have q := Lib.hid (HA.out.keep hb); clear HA; have HA := q; clear q)))
        refine hK.out _ _ ?_ (fun hS1 => ?_)
        · (first | exact hS | exact hN | exact ⟨hS.1.keep hb, hS.2.1.keep hb, bch hS.2.2.1 hb, Nat.le_trans hS.2.2.2 hb.size⟩)
        clear hK K hS; have hS := hS1; clear hS1
        (try simp only [rgp])
        refine rg_both 3 9 ⟨some 60, .call { callee := .value (.func 109), args := #[.tmp 59], argTypes := #[36] }, 31, _, _, none⟩ ⟨some 6, .alloc 34, 0, _, _, none⟩ (by kernel_rfl) rfl rfl (fun K hK => ?_) (fun K hK => ?_)
        focus
          go_simp
          (go_at_call 109; (refine (HG13.out _ hS.1).mono ?_); rintro r w5 ⟨rfl, hb⟩; (try (have q := Lib.hid (HA.out.keep hb); clear HA; have HA := q; clear q)))
          refine hK.out _ _ ?_ (fun hS1 => ?_)
          · (first | exact hS | exact hN | exact ⟨hS.1.keep hb, hS.2.1.keep hb, bch hS.2.2.1 hb, Nat.le_trans hS.2.2.2 hb.size⟩)
          clear hK K hS; have hS := hS1; clear hS1
          (try simp only [rgp])
          refine rgw 4 ⟨some 61, .convert 31 3 (.tmp 60), 3, _, _, none⟩ hS ?_ (v := .int .i64 s0) (hy := by intro w hSw; (try dsimp only at hSw); have z := HWS.out; go_simp; (try exact z))
          refine rg_both 6 9 ⟨some 63, .call { callee := .value (.func 109), args := #[.tmp 62], argTypes := #[36] }, 31, _, _, none⟩ ⟨some 6, .alloc 34, 0, _, _, none⟩ (by kernel_rfl) rfl rfl (fun K hK => ?_) (fun K hK => ?_)
          focus
            go_simp
            (go_at_call 109; (refine (HG17.out _ hS.1).mono ?_); rintro r w6 ⟨rfl, hb⟩; (try (have q := Lib.hid (HA.out.keep hb); clear HA; have HA := q; clear q)))
            refine hK.out _ _ ?_ (fun hS1 => ?_)
            · (first | exact hS | exact hN | exact ⟨hS.1.keep hb, hS.2.1.keep hb, bch hS.2.2.1 hb, Nat.le_trans hS.2.2.2 hb.size⟩)
            clear hK K hS; have hS := hS1; clear hS1
            (try simp only [rgp])
            refine rgw 7 ⟨some 64, .convert 31 3 (.tmp 63), 3, _, _, none⟩ hS ?_ (v := .int .i64 f0) (hy := by intro w hSw; (try dsimp only at hSw); have z := HWF.out; go_simp; (try exact z))
            refine rgw 8 ⟨some 65, .build 34 #[(0, .tmp 58), (1, .tmp 61), (2, .tmp 64)], 34, _, _, none⟩ hS ?_ (v := .agg (hv ⟨e0, s0, f0, [0, 0, 0, 0]⟩)) (hy := by intro w hSw; (try dsimp only at hSw); go_simp; rfl)
            refine rg_one 9 ⟨some 6, .alloc 34, 0, _, _, none⟩ (by kernel_rfl) rfl (fun K hK => ?_)
            rw [if_pos (by rfl)]; refine wp_new_hd rfl ?_; intro g w7 HA hg hb0; have hb := hb0.out; have HGE := Lib.hid (Nat.le_trans hS.2.2.2 hg.out); clear hg hb0
            refine hK.out _ _ ?_ (fun hS1 => ?_)
            · (first | exact hS | exact hN | exact ⟨hS.1.keep hb, hS.2.1.keep hb, bch hS.2.2.1 hb, Nat.le_trans hS.2.2.2 hb.size⟩)
            clear hK K hS; have hS := hS1; clear hS1
            (try simp only [rgp])
          rotate_left
          focus
            rw [if_pos (by rfl)]; refine wp_new_hd rfl ?_; intro g w7 HA hg hb0; have hb := hb0.out; have HGE := Lib.hid (Nat.le_trans hS.2.2.2 hg.out); clear hg hb0
            refine hK.out _ _ ?_ (fun hS1 => ?_)
            · (first | exact hS | exact hN | exact ⟨hS.1.keep hb, hS.2.1.keep hb, bch hS.2.2.1 hb, Nat.le_trans hS.2.2.2 hb.size⟩)
            clear hK K hS; have hS := hS1; clear hS1
            (try simp only [rgp])
            refine rg_one 6 ⟨some 63, .call { callee := .value (.func 109), args := #[.tmp 62], argTypes := #[36] }, 31, _, _, none⟩ (by kernel_rfl) rfl (fun K hK => ?_)
            go_simp
            (go_at_call 109; (refine (HG17.out _ hS.1).mono ?_); rintro r w6 ⟨rfl, hb⟩; (try (have q := Lib.hid (HA.out.keep hb); clear HA; have HA := q; clear q)))
            refine hK.out _ _ ?_ (fun hS1 => ?_)
            · (first | exact hS | exact hN | exact ⟨hS.1.keep hb, hS.2.1.keep hb, bch hS.2.2.1 hb, Nat.le_trans hS.2.2.2 hb.size⟩)
            clear hK K hS; have hS := hS1; clear hS1
            (try simp only [rgp])
            refine rgw 7 ⟨some 64, .convert 31 3 (.tmp 63), 3, _, _, none⟩ hS ?_ (v := .int .i64 f0) (hy := by intro w hSw; (try dsimp only at hSw); have z := HWF.out; go_simp; (try exact z))
            refine rgw 8 ⟨some 65, .build 34 #[(0, .tmp 58), (1, .tmp 61), (2, .tmp 64)], 34, _, _, none⟩ hS ?_ (v := .agg (hv ⟨e0, s0, f0, [0, 0, 0, 0]⟩)) (hy := by intro w hSw; (try dsimp only at hSw); go_simp; rfl)
          rotate_left
        rotate_left 2
        focus
          rw [if_pos (by rfl)]; refine wp_new_hd rfl ?_; intro g w7 HA hg hb0; have hb := hb0.out; have HGE := Lib.hid (Nat.le_trans hS.2.2.2 hg.out); clear hg hb0
          refine hK.out _ _ ?_ (fun hS1 => ?_)
          · (first | exact hS | exact hN | exact ⟨hS.1.keep hb, hS.2.1.keep hb, bch hS.2.2.1 hb, Nat.le_trans hS.2.2.2 hb.size⟩)
          clear hK K hS; have hS := hS1; clear hS1
          (try simp only [rgp])
          refine rg_one 3 ⟨some 60, .call { callee := .value (.func 109), args := #[.tmp 59], argTypes := #[36] }, 31, _, _, none⟩ (by kernel_rfl) rfl (fun K hK => ?_)
          go_simp
          (go_at_call 109; (refine (HG13.out _ hS.1).mono ?_); rintro r w5 ⟨rfl, hb⟩; (try (have q := Lib.hid (HA.out.keep hb); clear HA; have HA := q; clear q)))
          refine hK.out _ _ ?_ (fun hS1 => ?_)
          · (first | exact hS | exact hN | exact ⟨hS.1.keep hb, hS.2.1.keep hb, bch hS.2.2.1 hb, Nat.le_trans hS.2.2.2 hb.size⟩)
          clear hK K hS; have hS := hS1; clear hS1
          (try simp only [rgp])
          refine rgw 4 ⟨some 61, .convert 31 3 (.tmp 60), 3, _, _, none⟩ hS ?_ (v := .int .i64 s0) (hy := by intro w hSw; (try dsimp only at hSw); have z := HWS.out; go_simp; (try exact z))
          refine rg_one 6 ⟨some 63, .call { callee := .value (.func 109), args := #[.tmp 62], argTypes := #[36] }, 31, _, _, none⟩ (by kernel_rfl) rfl (fun K hK => ?_)
          go_simp
          (go_at_call 109; (refine (HG17.out _ hS.1).mono ?_); rintro r w6 ⟨rfl, hb⟩; (try (have q := Lib.hid (HA.out.keep hb); clear HA; have HA := q; clear q)))
          refine hK.out _ _ ?_ (fun hS1 => ?_)
          · (first | exact hS | exact hN | exact ⟨hS.1.keep hb, hS.2.1.keep hb, bch hS.2.2.1 hb, Nat.le_trans hS.2.2.2 hb.size⟩)
          clear hK K hS; have hS := hS1; clear hS1
          (try simp only [rgp])
          refine rgw 7 ⟨some 64, .convert 31 3 (.tmp 63), 3, _, _, none⟩ hS ?_ (v := .int .i64 f0) (hy := by intro w hSw; (try dsimp only at hSw); have z := HWF.out; go_simp; (try exact z))
          refine rgw 8 ⟨some 65, .build 34 #[(0, .tmp 58), (1, .tmp 61), (2, .tmp 64)], 34, _, _, none⟩ hS ?_ (v := .agg (hv ⟨e0, s0, f0, [0, 0, 0, 0]⟩)) (hy := by intro w hSw; (try dsimp only at hSw); go_simp; rfl)
        rotate_left
      rotate_left 3
      focus
        rw [if_pos (by rfl)]; refine wp_new_hd rfl ?_; intro g w7 HA hg hb0; have hb := hb0.out; have HGE := Lib.hid (Nat.le_trans hS.2.2.2 hg.out); clear hg hb0
        refine hK.out _ _ ?_ (fun hS1 => ?_)
        · (first | exact hS | exact hN | exact ⟨hS.1.keep hb, hS.2.1.keep hb, bch hS.2.2.1 hb, Nat.le_trans hS.2.2.2 hb.size⟩)
        clear hK K hS; have hS := hS1; clear hS1
        (try simp only [rgp])
        refine rg_one 1 ⟨some 58, .call { callee := .value (.func 109), args := #[.tmp 57], argTypes := #[36] }, 31, _, _, none⟩ (by kernel_rfl) rfl (fun K hK => ?_)
        go_simp
        (go_at_call 109; (refine (HG5.out _ hS.1).mono ?_); rintro r w4 ⟨rfl, hb⟩; (try (have q := Lib.hid (HA.out.keep hb); clear HA; have HA := q; clear q)))
        refine hK.out _ _ ?_ (fun hS1 => ?_)
        · (first | exact hS | exact hN | exact ⟨hS.1.keep hb, hS.2.1.keep hb, bch hS.2.2.1 hb, Nat.le_trans hS.2.2.2 hb.size⟩)
        clear hK K hS; have hS := hS1; clear hS1
        (try simp only [rgp])
        refine rg_one 3 ⟨some 60, .call { callee := .value (.func 109), args := #[.tmp 59], argTypes := #[36] }, 31, _, _, none⟩ (by kernel_rfl) rfl (fun K hK => ?_)
        go_simp
        (go_at_call 109; (refine (HG13.out _ hS.1).mono ?_); rintro r w5 ⟨rfl, hb⟩; (try (have q := Lib.hid (HA.out.keep hb); clear HA; have HA := q; clear q)))
        refine hK.out _ _ ?_ (fun hS1 => ?_)
        · (first | exact hS | exact hN | exact ⟨hS.1.keep hb, hS.2.1.keep hb, bch hS.2.2.1 hb, Nat.le_trans hS.2.2.2 hb.size⟩)
        clear hK K hS; have hS := hS1; clear hS1
        (try simp only [rgp])
        refine rgw 4 ⟨some 61, .convert 31 3 (.tmp 60), 3, _, _, none⟩ hS ?_ (v := .int .i64 s0) (hy := by intro w hSw; (try dsimp only at hSw); have z := HWS.out; go_simp; (try exact z))
        refine rg_one 6 ⟨some 63, .call { callee := .value (.func 109), args := #[.tmp 62], argTypes := #[36] }, 31, _, _, none⟩ (by kernel_rfl) rfl (fun K hK => ?_)
        go_simp
        (go_at_call 109; (refine (HG17.out _ hS.1).mono ?_); rintro r w6 ⟨rfl, hb⟩; (try (have q := Lib.hid (HA.out.keep hb); clear HA; have HA := q; clear q)))
        refine hK.out _ _ ?_ (fun hS1 => ?_)
        · (first | exact hS | exact hN | exact ⟨hS.1.keep hb, hS.2.1.keep hb, bch hS.2.2.1 hb, Nat.le_trans hS.2.2.2 hb.size⟩)
        clear hK K hS; have hS := hS1; clear hS1
        (try simp only [rgp])
        refine rgw 7 ⟨some 64, .convert 31 3 (.tmp 63), 3, _, _, none⟩ hS ?_ (v := .int .i64 f0) (hy := by intro w hSw; (try dsimp only at hSw); have z := HWF.out; go_simp; (try exact z))
        refine rgw 8 ⟨some 65, .build 34 #[(0, .tmp 58), (1, .tmp 61), (2, .tmp 64)], 34, _, _, none⟩ hS ?_ (v := .agg (hv ⟨e0, s0, f0, [0, 0, 0, 0]⟩)) (hy := by intro w hSw; (try dsimp only at hSw); go_simp; rfl)
      rotate_left
      all_goals
        refine rg_one 10 ⟨none, .store 34 (.tmp 6) (.tmp 65), 0, _, _, none⟩ (by kernel_rfl) rfl (fun K hK => ?_)
        rw [if_pos (by rfl)]; refine wp_put_hd (.tmp 6) (.tmp 65) rfl g noH ⟨e0, s0, f0, [0, 0, 0, 0]⟩ HA.out rfl rfl rfl ?_; intro w8 HA8 HG8; have HN1 := Lib.hid (show w.heap.size ≠ g ∧ w.heap.size + 1 ≠ g ∧ w.heap.size ≤ g from by have := HGE.out; omega); have hN := And.intro (hS.1.over HG8.out HN1.out.1) (And.intro (hS.2.1.over HG8.out HN1.out.2.1) (And.intro (hbelow_grown hS.2.2.1 HG8.out HN1.out.2.2 hS.2.2.1.size) (Nat.le_trans hS.2.2.2 HG8.out.size))); clear HA
        refine hK.out _ _ ?_ (fun hS1 => ?_)
        · (first | exact hS | exact hN | exact ⟨hS.1.keep hb, hS.2.1.keep hb, bch hS.2.2.1 hb, Nat.le_trans hS.2.2.2 hb.size⟩)
        clear hK K hS; have hS := hS1; clear hS1
        (try simp only [Act.put])
        refine wpAnyH_done (by kernel_rfl) ?_ _
        have HK8 := Lib.hid hS.1
        have HRB8 := Lib.hid hS.2.1
        have HW8 := Lib.hid hS.2.2.1
        have HA := Lib.hid HA8.out
        clear hS HA8 HG8
        (try clear hN hb)
        go_wp2
        go_loopw [7] (fun v wr => ∃ i : Nat, v = .int .i64 i ∧ i ≤ 4 ∧ Hid (HB wr g ⟨e0, s0, f0, rdl zs i⟩) ∧ Hid (Blk wr w.heap.size zs) ∧ Hid (HB wr (w.heap.size + 1) noH) ∧ Hid (Below w.heap.size w wr)) (fun v _ => 4 - (intOf v).toNat)
        case atStart => exact ⟨0, rfl, by omega, HA, HK8, HRB8, HW8⟩
        case round =>
          obtain ⟨i, rfl, hi, HAR, HKR, HRR, HBR⟩ := hrel
          by_cases hlt : i < 4
          · obtain ⟨x, hx⟩ : ∃ x, num zs (21 + 4 * i) 4 = x := ⟨_, rfl⟩
            have HXS := Lib.hid (rdl_set zs i hlt)
            rw [hx] at HXS
            have hxb : 0 ≤ x ∧ x < 4294967296 := by rw [← hx]; exact num_bd HZB.out _ 4
            have HGX := Lib.hid (fun w' hk => sec_rget w.heap.size (21 + 4 * i) 4 zs w' hk HZB.out (by omega) (by omega) (by omega) hx)
            obtain ⟨p, hp⟩ : ∃ p : Nat, 21 + 4 * i = p := ⟨_, rfl⟩
            rw [hp] at HGX
            obtain ⟨t, ht⟩ : ∃ t : Nat, 25 + 4 * i = t := ⟨_, rfl⟩
            obtain ⟨c, hc⟩ : ∃ c : Nat, 64 - p = c := ⟨_, rfl⟩
            rw [hc] at HGX
            have hp2 : (21 : Int) + 4 * (i : Int) = (p : Int) := by omega
            have ht2 : (25 : Int) + 4 * (i : Int) = (t : Int) := by omega
            have hlt2 : (i : Int) < 4 := by omega
            have hpb : (p : Int) ≤ (t : Int) := by omega
            have htb : (t : Int) ≤ 64 := by omega
            have htp : t - p = 4 := by omega
            have h64 : ¬ 64 = p := by omega
            clear hx hp ht
            go_wp2_with (first
              | (go_at_call 109; (with_reducible refine (HGX.out _ HKR.out).mono ?_); rintro r w9 ⟨rfl, hb9⟩; have HA9 := Lib.hid (HAR.out.keep hb9); have HK9 := Lib.hid (HKR.out.keep hb9); have HR9 := Lib.hid (HRR.out.keep hb9); have HB9 := Lib.hid (bch HBR.out hb9); have hc9 := HA9.out.head i hlt; have hf9 := HA9.out.frozen (3 + i); dsimp only at hc9; clear hb9))
            go_roundw
            case rel =>
              refine ⟨i + 1, by go_num, by omega, Lib.hid ?_, Lib.hid (HK9.out.apart HN1.out.1 _ _), Lib.hid (HR9.out.set_apart HN1.out.2.1 _ _), Lib.hid (HB9.out.setCell HN1.out.2.2 _)⟩
              have q1 := HA9.out.stored i x
              dsimp only at q1
              rw [HXS.out] at q1
              exact q1
            case measure => simp [intOf]; omega
          · obtain rfl : i = 4 := by omega
            have HRD := Lib.hid (rdl_all zs)
            have HAF := Lib.hid (show HB wr g (readH zs) from by have q1 := HAR.out; rw [HRD.out, HE.out] at q1; exact q1)
            go_wp2_with (first
              | (refine wpl_load_hd (by rfl) (.tmp 6) rfl rfl HAF2.out ?_)
              | (refine wpl_load_hd (by rfl) (.tmp 6) rfl rfl HAF.out ?_)
              | (go_at_call 34; (with_reducible refine (HOK.out _).mono ?_); rintro r w9 ⟨rfl, hb9⟩; have HAF2 := Lib.hid (HAF.out.keep hb9); have HR9 := Lib.hid (HRR.out.keep hb9); have HB9 := Lib.hid (bch HBR.out hb9); clear hb9)
              | (refine wpl_put_hd rfl (.tmp 2) (.tmp 85) rfl (w.heap.size + 1) noH noH HR9.out rfl rfl rfl ?_; intro wf HOF HGF))
            refine bodyPost_ret_by (results_row_tmp rfl _ _ (w.heap.size + 1) _ rfl HOF.out.load) rfl ⟨rfl, hbelow_grown HB9.out HGF.out (by omega) HB9.out.size⟩
set_option maxRecDepth 8000 in
set_option maxHeartbeats 8000000 in
theorem rdec_ok (zs : List Int) (hl : zs.length = 64) (hb : isB zs) (w : World) (h1 : ¬ zs = z64) (h2 : zs.take 5 = mark) (h3 : zs.drop 41 = z23) (h4 : (zs.drop 37).take 4 = putL (maskS (ofS (zs.take 37))) 4) (h5 : hdOk (readH zs) = true) :
    Calls Tryz.prog 95 #[.agg (sv zs)] w fun r w' => r = .returned (.tuple #[.agg (hv (readH zs)), .int .i64 0]) ∧ Below w.heap.size w w' := by
  obtain ⟨w0, hw0⟩ : ∃ q, (w.alloc (.cells (sv zs) 63)).alloc (.cells #[.int .u64 0, .int .i64 0, .int .i64 0, .int .i64 0, .int .i64 0, .int .i64 0, .int .i64 0] 34) = q := ⟨_, rfl⟩
  have hs1 : (w.alloc (.cells (sv zs) 63)).heap.size = w.heap.size + 1 := alloc_size w _
  have hk0 : Blk w0 w.heap.size zs := by rw [← hw0]; exact (Blk.new w zs hl).keep (balloc _ _)
  have HK := Lib.hid hk0
  have HRB := Lib.hid (show HB w0 (w.heap.size + 1) noH from by rw [← hw0, ← hs1]; exact HB.new _ noH rfl)
  have HW := Lib.hid (show Below w.heap.size w w0 from by rw [← hw0]; exact bch (balloc w _) (balloc _ _))
  have HSZ := Lib.hid (show w0.heap.size = w.heap.size + 2 from by rw [← hw0, alloc_size, hs1])
  have HL := Lib.hid hl
  have HZB := Lib.hid hb
  have HEQ := Lib.hid (show decide (zs = z64) = false from by simpa using h1)
  have c0 := hk0.cell 0 (by omega)
  have c1 := hk0.cell 1 (by omega)
  have c2 := hk0.cell 2 (by omega)
  have c3 := hk0.cell 3 (by omega)
  have c4 := hk0.cell 4 (by omega)
  obtain ⟨x0, hx0⟩ : ∃ x, zs.getD 0 0 = x := ⟨_, rfl⟩
  obtain ⟨x1, hx1⟩ : ∃ x, zs.getD 1 0 = x := ⟨_, rfl⟩
  obtain ⟨x2, hx2⟩ : ∃ x, zs.getD 2 0 = x := ⟨_, rfl⟩
  obtain ⟨x3, hx3⟩ : ∃ x, zs.getD 3 0 = x := ⟨_, rfl⟩
  obtain ⟨x4, hx4⟩ : ∃ x, zs.getD 4 0 = x := ⟨_, rfl⟩
  rw [hx0] at c0
  rw [hx1] at c1
  rw [hx2] at c2
  rw [hx3] at c3
  rw [hx4] at c4
  obtain rfl : x0 = 115 := by rw [← hx0]; exact mark_at h2 0 (by omega)
  obtain rfl : x1 = 116 := by rw [← hx1]; exact mark_at h2 1 (by omega)
  obtain rfl : x2 = 114 := by rw [← hx2]; exact mark_at h2 2 (by omega)
  obtain rfl : x3 = 100 := by rw [← hx3]; exact mark_at h2 3 (by omega)
  obtain rfl : x4 = 1 := by rw [← hx4]; exact mark_at h2 4 (by omega)
  clear hx0 hx1 hx2 hx3 hx4
  have HZA := Lib.hid (show zu zs 64 = true from by rw [zu_all zs hl]; simpa using h3)
  obtain ⟨o, ho⟩ : ∃ o, ofS (zs.take 37) = o := ⟨_, rfl⟩
  obtain ⟨m, hm⟩ : ∃ m, maskS o = m := ⟨_, rfl⟩
  rw [ho, hm] at h4
  have hm9 : m < 4294967296 := by rw [← hm]; exact maskS_lt o
  have HWM := Lib.hid (show IntKind.u64.wrap (m : Int) = (m : Int) from IntWalk.u64_in _ (by omega))
  have HOF := Lib.hid (show ∀ w', Blk w' w.heap.size zs → Calls Tryz.prog 87 #[.slice (some ⟨w.heap.size, 0, none⟩) 37 64] w' fun e w'' => e = .returned (.int .u32 o) ∧ w' = w'' from fun w' hk => rof_any (by have := hk.ri 0 37 64 (by omega) (by omega) (by omega); rwa [List.drop_zero] at this) (hb.take 37) ho)
  have HMK := Lib.hid (show ∀ w', Calls Tryz.prog 86 #[.int .u32 o] w' fun e w'' => e = .returned (.int .u32 m) ∧ w' = w'' from fun w' => rmask_at o m (by rw [← ho]; exact ofS_lt _) hm w')
  have HG37 := Lib.hid (show ∀ w', Blk w' w.heap.size zs → Calls Tryz.prog 109 #[.slice (some ⟨w.heap.size, 37, none⟩) 4 27] w' fun e w'' => e = .returned (.int .u64 m) ∧ Below w'.heap.size w' w'' from fun w' hk => sec_rget w.heap.size 37 4 zs w' hk hb (by omega) (by omega) (by omega) ((num_sum hb (by omega) m hm9).2 h4))
  clear ho hm hm9
  obtain ⟨e0, he0⟩ : ∃ x, num zs 5 8 = x := ⟨_, rfl⟩
  obtain ⟨s0, hs0⟩ : ∃ x, num zs 13 4 = x := ⟨_, rfl⟩
  obtain ⟨f0, hf0⟩ : ∃ x, num zs 17 4 = x := ⟨_, rfl⟩
  have hbd : (0 ≤ e0 ∧ e0 < 2 ^ (8 * 8)) ∧ (0 ≤ s0 ∧ s0 < 4294967296) ∧ (0 ≤ f0 ∧ f0 < 4294967296) := by rw [← he0, ← hs0, ← hf0]; exact ⟨num_bd hb 5 8, num_bd hb 13 4, num_bd hb 17 4⟩
  have HWS := Lib.hid (show IntKind.i64.wrap s0 = s0 from IntWalk.i64_in _ (by have := hbd.2.1; omega))
  have HWF := Lib.hid (show IntKind.i64.wrap f0 = f0 from IntWalk.i64_in _ (by have := hbd.2.2; omega))
  have HE := Lib.hid (show (⟨e0, s0, f0, [num zs 21 4, num zs 25 4, num zs 29 4, num zs 33 4]⟩ : Hdr) = readH zs from by rw [← he0, ← hs0, ← hf0]; rfl)
  have HG5 := Lib.hid (show ∀ w', Blk w' w.heap.size zs → Calls Tryz.prog 109 #[.slice (some ⟨w.heap.size, 5, none⟩) 8 59] w' fun e w'' => e = .returned (.int .u64 e0) ∧ Below w'.heap.size w' w'' from fun w' hk => sec_rget w.heap.size 5 8 zs w' hk hb (by omega) (by omega) (by omega) he0)
  have HG13 := Lib.hid (show ∀ w', Blk w' w.heap.size zs → Calls Tryz.prog 109 #[.slice (some ⟨w.heap.size, 13, none⟩) 4 51] w' fun e w'' => e = .returned (.int .u64 s0) ∧ Below w'.heap.size w' w'' from fun w' hk => sec_rget w.heap.size 13 4 zs w' hk hb (by omega) (by omega) (by omega) hs0)
  have HG17 := Lib.hid (show ∀ w', Blk w' w.heap.size zs → Calls Tryz.prog 109 #[.slice (some ⟨w.heap.size, 17, none⟩) 4 47] w' fun e w'' => e = .returned (.int .u64 f0) ∧ Below w'.heap.size w' w'' from fun w' hk => sec_rget w.heap.size 17 4 zs w' hk hb (by omega) (by omega) (by omega) hf0)
  have HOK : Hid (∀ w, Calls Tryz.prog 34 #[.agg (hv (readH zs))] w fun r w' => r = .returned (.bool true) ∧ Below w.heap.size w w') := Lib.hid fun w => by rw [← h5]; exact hrright_any _ (readH_typed hb) w
  clear he0 hs0 hf0 hbd
  clear hl hb hs1 hk0 h1 h2 h3 h4 h5
  go_enter Tryz.func95, Tryz.ntmps95
  go_wp2_with (first
    | (refine wpl_load_sec (by rfl) (.tmp 1) rfl w.heap.size rfl zs HK.out ?_)
    | (refine wpl_build_z rfl (by rfl) ?_)
    | (refine wpl_eq_sec (.tmp 8) (.tmp 9) _ rfl zs z64 HL.out z64_length rfl rfl (by rfl) ?_; rw [HEQ.out]))
  go_loopw [4, 5] (fun v iv wr => ∃ i : Nat, iv = .int .i64 i ∧ 41 ≤ i ∧ i ≤ 64 ∧ v = .bool (zu zs i) ∧ wr = w0) (fun _ iv _ => 64 - (intOf iv).toNat)
  case atStart => exact ⟨41, rfl, by omega, by omega, congrArg Value.bool (zu_zero zs).symm, rfl⟩
  case round =>
    obtain ⟨i, rfl, hi, hi2, rfl, rfl⟩ := hrel
    by_cases hlt : i < 64
    · have hci := HK.out.cell i hlt
      obtain ⟨x, hx⟩ : ∃ x, zs.getD i 0 = x := ⟨_, rfl⟩
      rw [hx] at hci
      have HZU := Lib.hid (zu_succ zs i hi (by rw [HL.out]; exact hlt))
      rw [hx] at HZU
      obtain ⟨b, hb⟩ : ∃ b, zu zs i = b := ⟨_, rfl⟩
      rw [hb] at HZU ⊢
      have hlt2 : (i : Int) < 64 := by omega
      clear hx hb
      cases b with
      | false =>
        go_wp2
        go_roundw
        case rel => exact ⟨i + 1, by go_num, by omega, by omega, congrArg Value.bool (by rw [HZU.out]; rfl), trivial⟩
        case measure => simp [intOf]; omega
      | true =>
        go_wp2
        go_roundw
        case rel => exact ⟨i + 1, by go_num, by omega, by omega, congrArg Value.bool (by rw [HZU.out, Bool.true_and]), trivial⟩
        case measure => simp [intOf]; omega
    · obtain rfl : i = 64 := by omega
      rw [HZA.out]
      go_wp2_with fail
      refine wp_region_held_drew (S := (fun w' => Blk w' w.heap.size zs ∧ HB w' (w.heap.size + 1) noH ∧ Below w.heap.size w w' ∧ w.heap.size + 2 ≤ w'.heap.size)) (by kernel_rfl) ⟨HK.out, HRB.out, HW.out.drew, Nat.le_of_eq HSZ.out.symm⟩ (fun hS => ?_)
      refine rgw 0 ⟨some 49, .slice 63 (.tmp 1) (some (.const (.int .i64 37))) (some (.const (.int .i64 41))) none, 36, _, _, none⟩ hS ?_
      refine rgw 2 ⟨some 51, .slice 63 (.tmp 1) none (some (.const (.int .i64 37))) none, 36, _, _, none⟩ hS ?_
      refine rg_one 1 ⟨some 50, .call { callee := .value (.func 109), args := #[.tmp 49], argTypes := #[36] }, 31, _, _, none⟩ (by kernel_rfl) rfl (fun K hK => ?_)
      go_simp
      (go_at_call 109; (refine (HG37.out _ hS.1).mono ?_); rintro r w3 ⟨rfl, hb⟩)
      refine hK.out _ _ ?_ (fun hS1 => ?_)
      · (first | exact hS | exact ⟨hS.1.keep hb, hS.2.1.keep hb, bch hS.2.2.1 hb, Nat.le_trans hS.2.2.2 hb.size⟩)
      clear hK K hS; have hS := hS1; clear hS1
      (try simp only [rgp])
      refine rg_one 3 ⟨some 52, .call { callee := .value (.func 87), args := #[.tmp 51], argTypes := #[36] }, 127, _, _, none⟩ (by kernel_rfl) rfl (fun K hK => ?_)
      go_simp
      (go_at_call 87; (refine (HOF.out _ hS.1).mono ?_); rintro r w4 ⟨rfl, rfl⟩)
      refine hK.out _ _ ?_ (fun hS1 => ?_)
      · (first | exact hS | exact ⟨hS.1.keep hb, hS.2.1.keep hb, bch hS.2.2.1 hb, Nat.le_trans hS.2.2.2 hb.size⟩)
      clear hK K hS; have hS := hS1; clear hS1
      (try simp only [rgp])
      refine rg_one 4 ⟨some 53, .call { callee := .value (.func 86), args := #[.tmp 52], argTypes := #[127] }, 127, _, _, none⟩ (by kernel_rfl) rfl (fun K hK => ?_)
      go_simp
      (go_at_call 86; (refine (HMK.out _).mono ?_); rintro r w5 ⟨rfl, rfl⟩)
      refine hK.out _ _ ?_ (fun hS1 => ?_)
      · (first | exact hS | exact ⟨hS.1.keep hb, hS.2.1.keep hb, bch hS.2.2.1 hb, Nat.le_trans hS.2.2.2 hb.size⟩)
      clear hK K hS; have hS := hS1; clear hS1
      (try simp only [rgp])
      refine rgw 5 ⟨some 54, .convert 127 31 (.tmp 53), 31, _, _, none⟩ hS ?_ (v := .int .u64 m) (hy := by intro w hSw; (try dsimp only at hSw); have z := HWM.out; go_simp; (try exact z))
      refine rgw 6 ⟨some 55, .binOp .neq 31 (.tmp 50) (.tmp 54) 31, 4, _, _, none⟩ hS ?_ (v := .bool false) (hy := by intro w hSw; (try dsimp only at hSw); go_simp)
      refine wpAnyH_done (by kernel_rfl) ?_ _
      have HK3 := Lib.hid hS.1
      have HRB3 := Lib.hid hS.2.1
      have HW3 := Lib.hid hS.2.2.1
      have HZ3 := Lib.hid hS.2.2.2
      clear hS
      go_wp2_with fail
      refine wp_region_held_drew (S := (fun w' => Blk w' w.heap.size zs ∧ HB w' (w.heap.size + 1) noH ∧ Below w.heap.size w w' ∧ w.heap.size + 2 ≤ w'.heap.size)) (by kernel_rfl) ⟨HK3.out, HRB3.out, HW3.out.drew, HZ3.out⟩ (fun hS => ?_)
      refine rgw 0 ⟨some 57, .slice 63 (.tmp 1) (some (.const (.int .i64 5))) (some (.const (.int .i64 13))) none, 36, _, _, none⟩ hS ?_
      refine rgw 2 ⟨some 59, .slice 63 (.tmp 1) (some (.const (.int .i64 13))) (some (.const (.int .i64 17))) none, 36, _, _, none⟩ hS ?_
      refine rgw 5 ⟨some 62, .slice 63 (.tmp 1) (some (.const (.int .i64 17))) (some (.const (.int .i64 21))) none, 36, _, _, none⟩ hS ?_
      refine rg_both 1 9 ⟨some 58, .call { callee := .value (.func 109), args := #[.tmp 57], argTypes := #[36] }, 31, _, _, none⟩ ⟨some 6, .alloc 34, 0, _, _, none⟩ (by kernel_rfl) rfl rfl (fun K hK => ?_) (fun K hK => ?_)
      focus
        go_simp
        (go_at_call 109; (refine (HG5.out _ hS.1).mono ?_); rintro r w4 ⟨rfl, hb⟩; (try (have q := Lib.hid (HA.out.keep hb); clear HA; have HA := q; clear q)))
        refine hK.out _ _ ?_ (fun hS1 => ?_)
        · (first | exact hS | exact hN | exact ⟨hS.1.keep hb, hS.2.1.keep hb, bch hS.2.2.1 hb, Nat.le_trans hS.2.2.2 hb.size⟩)
        clear hK K hS; have hS := hS1; clear hS1
        (try simp only [rgp])
        refine rg_both 3 9 ⟨some 60, .call { callee := .value (.func 109), args := #[.tmp 59], argTypes := #[36] }, 31, _, _, none⟩ ⟨some 6, .alloc 34, 0, _, _, none⟩ (by kernel_rfl) rfl rfl (fun K hK => ?_) (fun K hK => ?_)
        focus
          go_simp
          (go_at_call 109; (refine (HG13.out _ hS.1).mono ?_); rintro r w5 ⟨rfl, hb⟩; (try (have q := Lib.hid (HA.out.keep hb); clear HA; have HA := q; clear q)))
          refine hK.out _ _ ?_ (fun hS1 => ?_)
          · (first | exact hS | exact hN | exact ⟨hS.1.keep hb, hS.2.1.keep hb, bch hS.2.2.1 hb, Nat.le_trans hS.2.2.2 hb.size⟩)
          clear hK K hS; have hS := hS1; clear hS1
          (try simp only [rgp])
          refine rgw 4 ⟨some 61, .convert 31 3 (.tmp 60), 3, _, _, none⟩ hS ?_ (v := .int .i64 s0) (hy := by intro w hSw; (try dsimp only at hSw); have z := HWS.out; go_simp; (try exact z))
          refine rg_both 6 9 ⟨some 63, .call { callee := .value (.func 109), args := #[.tmp 62], argTypes := #[36] }, 31, _, _, none⟩ ⟨some 6, .alloc 34, 0, _, _, none⟩ (by kernel_rfl) rfl rfl (fun K hK => ?_) (fun K hK => ?_)
          focus
            go_simp
            (go_at_call 109; (refine (HG17.out _ hS.1).mono ?_); rintro r w6 ⟨rfl, hb⟩; (try (have q := Lib.hid (HA.out.keep hb); clear HA; have HA := q; clear q)))
            refine hK.out _ _ ?_ (fun hS1 => ?_)
            · (first | exact hS | exact hN | exact ⟨hS.1.keep hb, hS.2.1.keep hb, bch hS.2.2.1 hb, Nat.le_trans hS.2.2.2 hb.size⟩)
            clear hK K hS; have hS := hS1; clear hS1
            (try simp only [rgp])
            refine rgw 7 ⟨some 64, .convert 31 3 (.tmp 63), 3, _, _, none⟩ hS ?_ (v := .int .i64 f0) (hy := by intro w hSw; (try dsimp only at hSw); have z := HWF.out; go_simp; (try exact z))
            refine rgw 8 ⟨some 65, .build 34 #[(0, .tmp 58), (1, .tmp 61), (2, .tmp 64)], 34, _, _, none⟩ hS ?_ (v := .agg (hv ⟨e0, s0, f0, [0, 0, 0, 0]⟩)) (hy := by intro w hSw; (try dsimp only at hSw); go_simp; rfl)
            refine rg_one 9 ⟨some 6, .alloc 34, 0, _, _, none⟩ (by kernel_rfl) rfl (fun K hK => ?_)
            rw [if_pos (by rfl)]; refine wp_new_hd rfl ?_; intro g w7 HA hg hb0; have hb := hb0.out; have HGE := Lib.hid (Nat.le_trans hS.2.2.2 hg.out); clear hg hb0
            refine hK.out _ _ ?_ (fun hS1 => ?_)
            · (first | exact hS | exact hN | exact ⟨hS.1.keep hb, hS.2.1.keep hb, bch hS.2.2.1 hb, Nat.le_trans hS.2.2.2 hb.size⟩)
            clear hK K hS; have hS := hS1; clear hS1
            (try simp only [rgp])
          rotate_left
          focus
            rw [if_pos (by rfl)]; refine wp_new_hd rfl ?_; intro g w7 HA hg hb0; have hb := hb0.out; have HGE := Lib.hid (Nat.le_trans hS.2.2.2 hg.out); clear hg hb0
            refine hK.out _ _ ?_ (fun hS1 => ?_)
            · (first | exact hS | exact hN | exact ⟨hS.1.keep hb, hS.2.1.keep hb, bch hS.2.2.1 hb, Nat.le_trans hS.2.2.2 hb.size⟩)
            clear hK K hS; have hS := hS1; clear hS1
            (try simp only [rgp])
            refine rg_one 6 ⟨some 63, .call { callee := .value (.func 109), args := #[.tmp 62], argTypes := #[36] }, 31, _, _, none⟩ (by kernel_rfl) rfl (fun K hK => ?_)
            go_simp
            (go_at_call 109; (refine (HG17.out _ hS.1).mono ?_); rintro r w6 ⟨rfl, hb⟩; (try (have q := Lib.hid (HA.out.keep hb); clear HA; have HA := q; clear q)))
            refine hK.out _ _ ?_ (fun hS1 => ?_)
            · (first | exact hS | exact hN | exact ⟨hS.1.keep hb, hS.2.1.keep hb, bch hS.2.2.1 hb, Nat.le_trans hS.2.2.2 hb.size⟩)
            clear hK K hS; have hS := hS1; clear hS1
            (try simp only [rgp])
            refine rgw 7 ⟨some 64, .convert 31 3 (.tmp 63), 3, _, _, none⟩ hS ?_ (v := .int .i64 f0) (hy := by intro w hSw; (try dsimp only at hSw); have z := HWF.out; go_simp; (try exact z))
            refine rgw 8 ⟨some 65, .build 34 #[(0, .tmp 58), (1, .tmp 61), (2, .tmp 64)], 34, _, _, none⟩ hS ?_ (v := .agg (hv ⟨e0, s0, f0, [0, 0, 0, 0]⟩)) (hy := by intro w hSw; (try dsimp only at hSw); go_simp; rfl)
          rotate_left
        rotate_left 2
        focus
          rw [if_pos (by rfl)]; refine wp_new_hd rfl ?_; intro g w7 HA hg hb0; have hb := hb0.out; have HGE := Lib.hid (Nat.le_trans hS.2.2.2 hg.out); clear hg hb0
          refine hK.out _ _ ?_ (fun hS1 => ?_)
          · (first | exact hS | exact hN | exact ⟨hS.1.keep hb, hS.2.1.keep hb, bch hS.2.2.1 hb, Nat.le_trans hS.2.2.2 hb.size⟩)
          clear hK K hS; have hS := hS1; clear hS1
          (try simp only [rgp])
          refine rg_one 3 ⟨some 60, .call { callee := .value (.func 109), args := #[.tmp 59], argTypes := #[36] }, 31, _, _, none⟩ (by kernel_rfl) rfl (fun K hK => ?_)
          go_simp
          (go_at_call 109; (refine (HG13.out _ hS.1).mono ?_); rintro r w5 ⟨rfl, hb⟩; (try (have q := Lib.hid (HA.out.keep hb); clear HA; have HA := q; clear q)))
          refine hK.out _ _ ?_ (fun hS1 => ?_)
          · (first | exact hS | exact hN | exact ⟨hS.1.keep hb, hS.2.1.keep hb, bch hS.2.2.1 hb, Nat.le_trans hS.2.2.2 hb.size⟩)
          clear hK K hS; have hS := hS1; clear hS1
          (try simp only [rgp])
          refine rgw 4 ⟨some 61, .convert 31 3 (.tmp 60), 3, _, _, none⟩ hS ?_ (v := .int .i64 s0) (hy := by intro w hSw; (try dsimp only at hSw); have z := HWS.out; go_simp; (try exact z))
          refine rg_one 6 ⟨some 63, .call { callee := .value (.func 109), args := #[.tmp 62], argTypes := #[36] }, 31, _, _, none⟩ (by kernel_rfl) rfl (fun K hK => ?_)
          go_simp
          (go_at_call 109; (refine (HG17.out _ hS.1).mono ?_); rintro r w6 ⟨rfl, hb⟩; (try (have q := Lib.hid (HA.out.keep hb); clear HA; have HA := q; clear q)))
          refine hK.out _ _ ?_ (fun hS1 => ?_)
          · (first | exact hS | exact hN | exact ⟨hS.1.keep hb, hS.2.1.keep hb, bch hS.2.2.1 hb, Nat.le_trans hS.2.2.2 hb.size⟩)
          clear hK K hS; have hS := hS1; clear hS1
          (try simp only [rgp])
          refine rgw 7 ⟨some 64, .convert 31 3 (.tmp 63), 3, _, _, none⟩ hS ?_ (v := .int .i64 f0) (hy := by intro w hSw; (try dsimp only at hSw); have z := HWF.out; go_simp; (try exact z))
          refine rgw 8 ⟨some 65, .build 34 #[(0, .tmp 58), (1, .tmp 61), (2, .tmp 64)], 34, _, _, none⟩ hS ?_ (v := .agg (hv ⟨e0, s0, f0, [0, 0, 0, 0]⟩)) (hy := by intro w hSw; (try dsimp only at hSw); go_simp; rfl)
        rotate_left
      rotate_left 3
      focus
        rw [if_pos (by rfl)]; refine wp_new_hd rfl ?_; intro g w7 HA hg hb0; have hb := hb0.out; have HGE := Lib.hid (Nat.le_trans hS.2.2.2 hg.out); clear hg hb0
        refine hK.out _ _ ?_ (fun hS1 => ?_)
        · (first | exact hS | exact hN | exact ⟨hS.1.keep hb, hS.2.1.keep hb, bch hS.2.2.1 hb, Nat.le_trans hS.2.2.2 hb.size⟩)
        clear hK K hS; have hS := hS1; clear hS1
        (try simp only [rgp])
        refine rg_one 1 ⟨some 58, .call { callee := .value (.func 109), args := #[.tmp 57], argTypes := #[36] }, 31, _, _, none⟩ (by kernel_rfl) rfl (fun K hK => ?_)
        go_simp
        (go_at_call 109; (refine (HG5.out _ hS.1).mono ?_); rintro r w4 ⟨rfl, hb⟩; (try (have q := Lib.hid (HA.out.keep hb); clear HA; have HA := q; clear q)))
        refine hK.out _ _ ?_ (fun hS1 => ?_)
        · (first | exact hS | exact hN | exact ⟨hS.1.keep hb, hS.2.1.keep hb, bch hS.2.2.1 hb, Nat.le_trans hS.2.2.2 hb.size⟩)
        clear hK K hS; have hS := hS1; clear hS1
        (try simp only [rgp])
        refine rg_one 3 ⟨some 60, .call { callee := .value (.func 109), args := #[.tmp 59], argTypes := #[36] }, 31, _, _, none⟩ (by kernel_rfl) rfl (fun K hK => ?_)
        go_simp
        (go_at_call 109; (refine (HG13.out _ hS.1).mono ?_); rintro r w5 ⟨rfl, hb⟩; (try (have q := Lib.hid (HA.out.keep hb); clear HA; have HA := q; clear q)))
        refine hK.out _ _ ?_ (fun hS1 => ?_)
        · (first | exact hS | exact hN | exact ⟨hS.1.keep hb, hS.2.1.keep hb, bch hS.2.2.1 hb, Nat.le_trans hS.2.2.2 hb.size⟩)
        clear hK K hS; have hS := hS1; clear hS1
        (try simp only [rgp])
        refine rgw 4 ⟨some 61, .convert 31 3 (.tmp 60), 3, _, _, none⟩ hS ?_ (v := .int .i64 s0) (hy := by intro w hSw; (try dsimp only at hSw); have z := HWS.out; go_simp; (try exact z))
        refine rg_one 6 ⟨some 63, .call { callee := .value (.func 109), args := #[.tmp 62], argTypes := #[36] }, 31, _, _, none⟩ (by kernel_rfl) rfl (fun K hK => ?_)
        go_simp
        (go_at_call 109; (refine (HG17.out _ hS.1).mono ?_); rintro r w6 ⟨rfl, hb⟩; (try (have q := Lib.hid (HA.out.keep hb); clear HA; have HA := q; clear q)))
        refine hK.out _ _ ?_ (fun hS1 => ?_)
        · (first | exact hS | exact hN | exact ⟨hS.1.keep hb, hS.2.1.keep hb, bch hS.2.2.1 hb, Nat.le_trans hS.2.2.2 hb.size⟩)
        clear hK K hS; have hS := hS1; clear hS1
        (try simp only [rgp])
        refine rgw 7 ⟨some 64, .convert 31 3 (.tmp 63), 3, _, _, none⟩ hS ?_ (v := .int .i64 f0) (hy := by intro w hSw; (try dsimp only at hSw); have z := HWF.out; go_simp; (try exact z))
        refine rgw 8 ⟨some 65, .build 34 #[(0, .tmp 58), (1, .tmp 61), (2, .tmp 64)], 34, _, _, none⟩ hS ?_ (v := .agg (hv ⟨e0, s0, f0, [0, 0, 0, 0]⟩)) (hy := by intro w hSw; (try dsimp only at hSw); go_simp; rfl)
      rotate_left
      all_goals
        refine rg_one 10 ⟨none, .store 34 (.tmp 6) (.tmp 65), 0, _, _, none⟩ (by kernel_rfl) rfl (fun K hK => ?_)
        rw [if_pos (by rfl)]; refine wp_put_hd (.tmp 6) (.tmp 65) rfl g noH ⟨e0, s0, f0, [0, 0, 0, 0]⟩ HA.out rfl rfl rfl ?_; intro w8 HA8 HG8; have HN1 := Lib.hid (show w.heap.size ≠ g ∧ w.heap.size + 1 ≠ g ∧ w.heap.size ≤ g from by have := HGE.out; omega); have hN := And.intro (hS.1.over HG8.out HN1.out.1) (And.intro (hS.2.1.over HG8.out HN1.out.2.1) (And.intro (hbelow_grown hS.2.2.1 HG8.out HN1.out.2.2 hS.2.2.1.size) (Nat.le_trans hS.2.2.2 HG8.out.size))); clear HA
        refine hK.out _ _ ?_ (fun hS1 => ?_)
        · (first | exact hS | exact hN | exact ⟨hS.1.keep hb, hS.2.1.keep hb, bch hS.2.2.1 hb, Nat.le_trans hS.2.2.2 hb.size⟩)
        clear hK K hS; have hS := hS1; clear hS1
        (try simp only [Act.put])
        refine wpAnyH_done (by kernel_rfl) ?_ _
        have HK8 := Lib.hid hS.1
        have HRB8 := Lib.hid hS.2.1
        have HW8 := Lib.hid hS.2.2.1
        have HA := Lib.hid HA8.out
        clear hS HA8 HG8
        (try clear hN hb)
        go_wp2
        go_loopw [7] (fun v wr => ∃ i : Nat, v = .int .i64 i ∧ i ≤ 4 ∧ Hid (HB wr g ⟨e0, s0, f0, rdl zs i⟩) ∧ Hid (Blk wr w.heap.size zs) ∧ Hid (HB wr (w.heap.size + 1) noH) ∧ Hid (Below w.heap.size w wr)) (fun v _ => 4 - (intOf v).toNat)
        case atStart => exact ⟨0, rfl, by omega, HA, HK8, HRB8, HW8⟩
        case round =>
          obtain ⟨i, rfl, hi, HAR, HKR, HRR, HBR⟩ := hrel
          by_cases hlt : i < 4
          · obtain ⟨x, hx⟩ : ∃ x, num zs (21 + 4 * i) 4 = x := ⟨_, rfl⟩
            have HXS := Lib.hid (rdl_set zs i hlt)
            rw [hx] at HXS
            have hxb : 0 ≤ x ∧ x < 4294967296 := by rw [← hx]; exact num_bd HZB.out _ 4
            have HGX := Lib.hid (fun w' hk => sec_rget w.heap.size (21 + 4 * i) 4 zs w' hk HZB.out (by omega) (by omega) (by omega) hx)
            obtain ⟨p, hp⟩ : ∃ p : Nat, 21 + 4 * i = p := ⟨_, rfl⟩
            rw [hp] at HGX
            obtain ⟨t, ht⟩ : ∃ t : Nat, 25 + 4 * i = t := ⟨_, rfl⟩
            obtain ⟨c, hc⟩ : ∃ c : Nat, 64 - p = c := ⟨_, rfl⟩
            rw [hc] at HGX
            have hp2 : (21 : Int) + 4 * (i : Int) = (p : Int) := by omega
            have ht2 : (25 : Int) + 4 * (i : Int) = (t : Int) := by omega
            have hlt2 : (i : Int) < 4 := by omega
            have hpb : (p : Int) ≤ (t : Int) := by omega
            have htb : (t : Int) ≤ 64 := by omega
            have htp : t - p = 4 := by omega
            have h64 : ¬ 64 = p := by omega
            clear hx hp ht
            go_wp2_with (first
              | (go_at_call 109; (with_reducible refine (HGX.out _ HKR.out).mono ?_); rintro r w9 ⟨rfl, hb9⟩; have HA9 := Lib.hid (HAR.out.keep hb9); have HK9 := Lib.hid (HKR.out.keep hb9); have HR9 := Lib.hid (HRR.out.keep hb9); have HB9 := Lib.hid (bch HBR.out hb9); have hc9 := HA9.out.head i hlt; have hf9 := HA9.out.frozen (3 + i); dsimp only at hc9; clear hb9))
            go_roundw
            case rel =>
              refine ⟨i + 1, by go_num, by omega, Lib.hid ?_, Lib.hid (HK9.out.apart HN1.out.1 _ _), Lib.hid (HR9.out.set_apart HN1.out.2.1 _ _), Lib.hid (HB9.out.setCell HN1.out.2.2 _)⟩
              have q1 := HA9.out.stored i x
              dsimp only at q1
              rw [HXS.out] at q1
              exact q1
            case measure => simp [intOf]; omega
          · obtain rfl : i = 4 := by omega
            have HRD := Lib.hid (rdl_all zs)
            have HAF := Lib.hid (show HB wr g (readH zs) from by have q1 := HAR.out; rw [HRD.out, HE.out] at q1; exact q1)
            go_wp2_with (first
              | (refine wpl_load_hd (by rfl) (.tmp 6) rfl rfl HAF2.out ?_)
              | (refine wpl_load_hd (by rfl) (.tmp 6) rfl rfl HAF.out ?_)
              | (go_at_call 34; (with_reducible refine (HOK.out _).mono ?_); rintro r w9 ⟨rfl, hb9⟩; have HAF2 := Lib.hid (HAF.out.keep hb9); have HR9 := Lib.hid (HRR.out.keep hb9); have HB9 := Lib.hid (bch HBR.out hb9); clear hb9)
              | (refine wpl_put_hd rfl (.tmp 2) (.tmp 86) rfl (w.heap.size + 1) noH (readH zs) HR9.out rfl rfl rfl ?_; intro wf HOF HGF))
            refine bodyPost_ret_by (results_row_tmp rfl _ _ (w.heap.size + 1) _ rfl HOF.out.load) rfl ⟨rfl, hbelow_grown HB9.out HGF.out (by omega) HB9.out.size⟩
theorem rdec_any (zs : List Int) (hl : zs.length = 64) (hb : isB zs) (w : World) {h : Hdr} {x : Int} (hd : headD zs = (h, x)) :
    Calls Tryz.prog 95 #[.agg (sv zs)] w fun r w' => r = .returned (.tuple #[.agg (hv h), .int .i64 x]) ∧ Below w.heap.size w w' := by
  rcases headD_cases (zs := zs) with ⟨h1, e⟩ | ⟨h1, h2, e⟩ | ⟨h1, h2, h3, h4, e⟩ | ⟨h1, h2, h3, h4, h5, e⟩ | ⟨h1, h2, h3, h4, h5, e⟩ <;> (rw [hd] at e; obtain ⟨rfl, rfl⟩ := Prod.mk.inj e)
  · exact rdec_none zs hl hb w h1
  · by_cases hm : zs.take 5 = mark
    · exact rdec_rest zs hl hb w h1 hm (fun q => (h2.elim (fun k => k hm) (fun k => k q)))
    · exact rdec_mark zs hl hb w h1 hm
  · exact rdec_sum zs hl hb w h1 h2 h3 h4
  · exact rdec_wrong zs hl hb w h1 h2 h3 h4 h5
  · exact rdec_ok zs hl hb w h1 h2 h3 h4 h5
end Go.Proofs.YtpoiapfgbbmekaaGreatDoor
