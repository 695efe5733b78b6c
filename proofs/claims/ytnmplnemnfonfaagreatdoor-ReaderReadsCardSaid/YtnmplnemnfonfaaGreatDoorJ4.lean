/-
  TEXTS JOINED: DiskSt, DiskOps, DiskSync, DiskMake, DiskSecs, DiskMix, DiskLay. Each one's own words stand at its head.
-/
import Derived.Test.YtnmplnemnfonfaaGreatDoorJ2
import Derived.Test.YtnmplnemnfonfaaGreatDoorJ3
namespace Go.Proofs.YtnmplnemnfonfaaGreatDoor
open Go.RowKit
theorem RD.agg {w : World} {v : Value} {d : AD} (h : RD w v d) : ∃ (a : Option Addr) (n c : Nat), v = .agg #[.slice a n c, .int .i64 d.cap, .int .i64 d.ops, .bool d.down, .bool d.told, .int .i64 d.after] ∧ d.L.length = n ∧ n ≤ c ∧ c ≤ 9223372036854775807 := by
  obtain ⟨a, c, h1, _, h2, h3, _⟩ := h.form
  exact ⟨a, _, c, h1, rfl, h2, h3⟩
theorem RD.re {w : World} {vl v1 v2 v3 v4 v5 : Value} {d d' : AD} (h : RD w (.agg #[vl, v1, v2, v3, v4, v5]) d) (hl : d'.L = d.L) :
    RD w (.agg #[vl, .int .i64 d'.cap, .int .i64 d'.ops, .bool d'.down, .bool d'.told, .int .i64 d'.after]) d' := by
  obtain ⟨vl', e, h1⟩ := h
  simp only [dv, Value.agg.injEq] at e
  have e0 := congrArg (fun x : Array Value => x[0]?) e
  simp at e0
  subst e0
  exact ⟨vl, rfl, by rw [hl]; exact h1⟩
theorem BS.new {F : Nat → Bool} {w : World} (hF : Foot F w.heap.size) (k : Nat) (bs : List Bool) (hl : bs.length = k) (hk : k ≤ 9223372036854775807) (t : TypeId) :
    BS (mask F (w.alloc (.cells ((bs.map Value.bool).toArray) t))) (.slice (some ⟨w.heap.size, 0, none⟩) k k) k bs := by
  refine ⟨_, k, rfl, by simp [hl], Nat.le_refl _, hk, fun h => by simp at h, fun _ => ⟨w.heap.size, 0, rfl, fun j hj => ?_⟩⟩
  have hf : F w.heap.size = false := by
    cases hq : F w.heap.size with
    | false => rfl
    | true => have := hF _ hq; omega
  have h1 : (mask F (w.alloc (.cells ((bs.map Value.bool).toArray) t))).heap[w.heap.size]? = some (.cells ((bs.map Value.bool).toArray) t (0, 0)) := by
    rw [mask_heap, heap_alloc_last]; simp [hf]
  rw [Nat.zero_add, cell_of_row _ _ j _ _ _ h1, List.getElem?_toArray]
theorem FS.new {F : Nat → Bool} {w : World} (hF : Foot F w.heap.size) (k : Nat) (fs : List Int) (hl : fs.length = k * 64) (hk : k ≤ 9223372036854775807) (t : TypeId) :
    FS (mask F (w.alloc (.cells (il .u8 fs).toArray t))) (.slice (some ⟨w.heap.size, 0, none⟩) k k) k fs := by
  refine ⟨_, k, rfl, hl, Nat.le_refl _, hk, fun h => by simp at h, fun _ => ⟨w.heap.size, 0, rfl, fun j hj => ?_⟩⟩
  have hf : F w.heap.size = false := by
    cases hq : F w.heap.size with
    | false => rfl
    | true => have := hF _ hq; omega
  have h1 : (mask F (w.alloc (.cells (il .u8 fs).toArray t))).heap[w.heap.size]? = some (.cells (il .u8 fs).toArray t (0, 0)) := by
    rw [mask_heap, heap_alloc_last]; simp [hf]
  rw [Nat.zero_add, cell_of_row _ _ j _ _ _ h1]
  simpa using il_get .u8 fs j (by omega)
def AD.newD (c : Int) : AD := { L := [], cap := min (max c 0) 1048576, ops := 0, down := false, told := false, after := 0 }
def AD.has (d : AD) (s : ByteArray) : Prop := idxN d.L s < d.L.length
instance (d : AD) (s : ByteArray) : Decidable (d.has s) := inferInstanceAs (Decidable (_ < _))
def newF (s : ByteArray) (k : Nat) : AF := ⟨s, k, List.replicate (k * 64) 0, List.replicate (k * 64) 0, List.replicate k false⟩
def AD.get (d : AD) (s : ByteArray) : AF := (d.L[idxN d.L s]?).getD (newF s 0)
def rightB (s : ByteArray) : Bool := nameN s.data.toList
def AD.opR (d : AD) (g : AD → AD) : AD × Int := if d.ope ≠ 0 then (d.opd, d.ope) else (g d.opd, 0)
def AD.failR (d : AD) (n : Int) : AD × Int := if d.down = true then (d, 9) else if n < 0 then (d, 4) else ({ d with told := true, after := n }, 0)
def AD.makeR (d : AD) (s : ByteArray) (n : Int) : AD × Int :=
  if d.down = true then (d, 9) else if rightB s = false then (d, 10) else if d.has s then (d, 8) else if n < 1 ∨ 64 < n then (d, 4)
  else if d.cap < (usedN d.L : Int) + n ∨ 64 ≤ d.L.length then (d, 6) else d.opR fun x => x.withF (newF s n.toNat)
def AD.syncR (d : AD) (s : ByteArray) : AD × Int :=
  if d.down = true then (d, 9) else if ¬ d.has s then (d, 7) else d.opR fun x => x.withF { d.get s with las := (d.get s).seen, ws := List.replicate (d.get s).n false }
def AD.renameR (d : AD) (s t : ByteArray) : AD × Int :=
  if d.down = true then (d, 9) else if ¬ d.has s then (d, 7) else if rightB t = false then (d, 10) else if s = t then (d, 0) else d.opR fun x => (x.without s).withF { d.get s with name := t }
def AD.readR (d : AD) (s : ByteArray) (at_ n : Int) : List Int × Nat × Int :=
  if d.down = true then ([], 0, 9) else if ¬ d.has s then ([], 0, 7) else if at_ < 0 ∨ n < 0 ∨ ((d.get s).n : Int) < at_ ∨ ((d.get s).n : Int) - at_ < n then ([], 0, 4)
  else (((d.get s).seen.drop (at_.toNat * 64)).take (n.toNat * 64), n.toNat, 0)
def AD.writeR (d : AD) (s : ByteArray) (at_ : Int) (m : Nat) (fs : List Int) : AD × Int :=
  if d.down = true then (d, 9) else if ¬ d.has s then (d, 7) else if at_ < 0 ∨ ((d.get s).n : Int) < at_ ∨ ((d.get s).n : Int) - at_ < m then (d, 4)
  else d.opR fun x => x.withF { d.get s with seen := (d.get s).seen.take (at_.toNat * 64) ++ fs ++ (d.get s).seen.drop (at_.toNat * 64 + m * 64), ws := (d.get s).ws.take at_.toNat ++ List.replicate m true ++ (d.get s).ws.drop (at_.toNat + m) }
theorem AD.opd_L (d : AD) : d.opd.L = d.L := by unfold AD.opd; split <;> rfl
theorem AD.ope_or (d : AD) : d.ope = 0 ∨ d.ope = 9 := by unfold AD.ope; split <;> simp
theorem AD.opR_done (d : AD) (g : AD → AD) (h : d.ope = 0) : d.opR g = (g d.opd, 0) := by unfold AD.opR; rw [if_neg (by simpa using h)]
theorem AD.opR_not (d : AD) (g : AD → AD) (h : ¬ d.ope = 0) : d.opR g = (d.opd, 9) := by
  unfold AD.opR; rw [if_pos (by simpa using h)]; rcases d.ope_or with h1 | h1
  · exact absurd h1 h
  · rw [h1]
theorem AD.get_at (d : AD) (s : ByteArray) (h : d.has s) : d.L[idxN d.L s]? = some (d.get s) := by
  unfold AD.get AD.has at *; rw [List.getElem?_eq_getElem h]; rfl
theorem AD.get_name (d : AD) (s : ByteArray) (h : d.has s) : (d.get s).name = s := by
  have h1 := d.get_at s h
  obtain ⟨hi, e⟩ := List.getElem?_eq_some_iff.1 h1
  rw [← e]
  exact of_decide_eq_true (List.findIdx_getElem (p := fun f : AF => decide (f.name = s)) (xs := d.L) (w := hi))
end Go.Proofs.YtnmplnemnfonfaaGreatDoor
namespace Go.Proofs.YtnmplnemnfonfaaGreatDoor
open Go.RowKit
end Go.Proofs.YtnmplnemnfonfaaGreatDoor
namespace Go.Proofs.YtnmplnemnfonfaaGreatDoor
open Go.RowKit
end Go.Proofs.YtnmplnemnfonfaaGreatDoor
namespace Go.Proofs.YtnmplnemnfonfaaGreatDoor
open Go.RowKit
end Go.Proofs.YtnmplnemnfonfaaGreatDoor
namespace Go.Proofs.YtnmplnemnfonfaaGreatDoor
open Go.RowKit
end Go.Proofs.YtnmplnemnfonfaaGreatDoor
namespace Go.Proofs.YtnmplnemnfonfaaGreatDoor
open Go.RowKit
end Go.Proofs.YtnmplnemnfonfaaGreatDoor
namespace Go.Proofs.YtnmplnemnfonfaaGreatDoor
open Go.RowKit
abbrev LFile := ByteArray × Nat × List Int
def LA (w : World) (v : Value) (l : List LFile) : Prop :=
  ∃ es : List (List Value), CS 2 w v l.length es.flatten ∧ es.length = l.length ∧ (∀ e ∈ es, e.length = 2) ∧ ∀ (i : Nat) (e : List Value) (f : LFile), es[i]? = some e → l[i]? = some f → ∃ v1, e = [.string f.1, v1] ∧ FS w v1 f.2.1 f.2.2
theorem LA.kin {w w' : World} (hb : Kin w w') {v : Value} {l : List LFile} (h : LA w v l) : LA w' v l := by
  obtain ⟨es, h1, h2, h3, h4⟩ := h
  exact ⟨es, h1.kin hb, h2, h3, fun i e f he hf => by obtain ⟨v1, e1, e2⟩ := h4 i e f he hf; exact ⟨v1, e1, e2.kin hb⟩⟩
theorem LA.form {w : World} {v : Value} {l : List LFile} (h : LA w v l) : ∃ a cap, v = .slice a l.length cap ∧ l.length ≤ cap ∧ cap ≤ 9223372036854775807 ∧ (a = none → cap = 0) := by obtain ⟨_, h, _⟩ := h; exact h.form
theorem LA.at_ {w : World} {a : Option Addr} {n cap : Nat} {l : List LFile} (h : LA w (.slice a n cap) l) (i : Nat) (f : LFile) (hf : l[i]? = some f) :
    ∃ b off a1 c1, a = some ⟨b, off, none⟩ ∧ w.cell? ⟨b, off + i * 2, none⟩ = some (.string f.1) ∧ w.cell? ⟨b, off + i * 2 + 1, none⟩ = some (.slice a1 f.2.1 c1) ∧ FS w (.slice a1 f.2.1 c1) f.2.1 f.2.2 := by
  obtain ⟨es, h1, h2, h3, h4⟩ := h
  obtain ⟨hi, _⟩ := List.getElem?_eq_some_iff.1 hf
  have hi2 : i < es.length := by omega
  obtain ⟨v1, he, hfs⟩ := h4 i es[i] f (List.getElem?_eq_getElem hi2) hf
  have hn : n = l.length := by obtain ⟨_, _, hv, _⟩ := h1; simp at hv; exact hv.2.1
  subst hn
  obtain ⟨b, off, rfl, hc⟩ := h1.at_ i hi
  have hg := fun j hj => (hc j hj).trans (flat_get 2 es i j h3 hj _ (List.getElem?_eq_getElem hi2))
  rw [he] at hg
  obtain ⟨a1, c1, rfl, _⟩ := id hfs
  exact ⟨b, off, a1, c1, rfl, by simpa using hg 0 (by omega), by simpa using hg 1 (by omega), hfs⟩
theorem FLs.zero {w w' : World} {a : Option Addr} {c : Nat} (h : FLs w (.slice a 0 c) []) : FLs w' (.slice a 0 c) [] := by
  obtain ⟨a', cap, e, h1, h2, h3⟩ := h.form
  simp only [Value.slice.injEq] at e
  obtain ⟨rfl, _, rfl⟩ := e
  exact ⟨[], ⟨_, _, rfl, by simp, by simp, h2, h3, fun h => by simp at h⟩, RFs.nil _⟩
theorem usedN_insF (L : List AF) (f : AF) : usedN (insF L f) = usedN L + f.n := by
  unfold usedN insF
  have : (L.map AF.n).sum = ((L.take (insK L f)).map AF.n).sum + ((L.drop (insK L f)).map AF.n).sum := by rw [← List.sum_append, ← List.map_append, List.take_append_drop]
  rw [this]; simp; omega
theorem usedN_without (L : List AF) (s : ByteArray) : usedN (withoutF L s) ≤ usedN L := by
  unfold usedN withoutF
  induction L with
  | nil => simp
  | cons x t ih => simp only [List.filter_cons]; split <;> simp <;> omega
end Go.Proofs.YtnmplnemnfonfaaGreatDoor
