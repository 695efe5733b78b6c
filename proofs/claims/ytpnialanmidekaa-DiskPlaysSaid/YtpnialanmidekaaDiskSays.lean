/-
  LAYER 8 (disk): what is asked of the program's disk, call by call, of whatever relation DK tells that a pointer leads to a disk (w: the world; p: the pointer; F: the disk's own blocks). The laws' walks stand over it alone.
-/
import Derived.Test.YtpnialanmidekaaDiskGood
namespace Go.Proofs.Ytpnialanmidekaa
open Go.RowKit
/-- a slice of texts -/
def SS (w : World) (v : Value) (l : List ByteArray) : Prop := CS 1 w v l.length (l.map .string)
theorem SS.kin {w w' : World} (hb : Kin w w') {v : Value} {l : List ByteArray} (h : SS w v l) : SS w' v l := CS.kin hb h
/-- what a disk's files are, as they are lasting -/
def AD.files (d : AD) : List LFile := d.L.map fun f => (f.name, f.n, f.las)
def AD.names (d : AD) : List ByteArray := d.L.map AF.name
abbrev noF : Nat → Bool := fun _ => false
abbrev ptr (p : Addr) : Value := .pointer (some p)
structure DiskSays (DK : World → Addr → (Nat → Bool) → AD → Prop) : Prop where
  keep : ∀ {w w' : World} {p : Addr} {F : Nat → Bool} {d : AD}, DK w p F d → w.heap.size ≤ w'.heap.size → (∀ k, F k = true → w'.heap[k]? = w.heap[k]?) → DK w' p F d
  foot : ∀ {w : World} {p : Addr} {F : Nat → Bool} {d : AD}, DK w p F d → Foot F w.heap.size
  new : ∀ (c : Int) (w : World), I63 c → Calls Try.prog 8 #[.int .i64 c] w fun e w' => ∃ p F, e = .returned (ptr p) ∧ DK w' p F (AD.newD c) ∧ Ext noF w w' F
  lay : ∀ (M : Nat → Bool) (c : Int) (v : Value) (l : List LFile) (w : World), Foot M w.heap.size → LA (mask M w) v l → I63 c → l.length ≤ 1000 → (∀ f ∈ l, f.2.1 ≤ 1000000 ∧ f.1.size ≤ 281474976710656 ∧ Bytes f.2.2) →
    Calls Try.prog 12 #[.int .i64 c, v] w fun e w' => ((layR c l).2 ≠ 0 ∧ e = .returned (.tuple #[.pointer none, .int .i64 (layR c l).2]) ∧ Below w.heap.size w w') ∨ ((layR c l).2 = 0 ∧ ∃ p F, e = .returned (.tuple #[ptr p, .int .i64 0]) ∧ DK w' p F (layR c l).1 ∧ Ext noF w w' F)
  make : ∀ (w : World) (p : Addr) (F : Nat → Bool) (d : AD) (s : ByteArray) (n : Int), DK w p F d → Good d → s.size ≤ 281474976710656 → I63 n →
    Calls Try.prog 17 #[ptr p, .string s, .int .i64 n] w fun e w' => ∃ F', e = .returned (.int .i64 (d.makeR s n).2) ∧ DK w' p F' (d.makeR s n).1 ∧ Ext F w w' F'
  write : ∀ (w : World) (p : Addr) (F : Nat → Bool) (d : AD) (s : ByteArray) (at_ : Int) (v : Value) (m : Nat) (fs : List Int), DK w p F d → Good d → s.size ≤ 281474976710656 → I63 at_ → FS (mask F w) v m fs → Bytes fs → m ≤ 1000000 →
    Calls Try.prog 18 #[ptr p, .string s, .int .i64 at_, v] w fun e w' => ∃ F', e = .returned (.int .i64 (d.writeR s at_ m fs).2) ∧ DK w' p F' (d.writeR s at_ m fs).1 ∧ Ext F w w' F'
  sync : ∀ (w : World) (p : Addr) (F : Nat → Bool) (d : AD) (s : ByteArray), DK w p F d → Good d → s.size ≤ 281474976710656 →
    Calls Try.prog 19 #[ptr p, .string s] w fun e w' => ∃ F', e = .returned (.int .i64 (d.syncR s).2) ∧ DK w' p F' (d.syncR s).1 ∧ Ext F w w' F'
  rename : ∀ (w : World) (p : Addr) (F : Nat → Bool) (d : AD) (s t : ByteArray), DK w p F d → Good d → s.size ≤ 281474976710656 → t.size ≤ 281474976710656 →
    Calls Try.prog 20 #[ptr p, .string s, .string t] w fun e w' => ∃ F', e = .returned (.int .i64 (d.renameR s t).2) ∧ DK w' p F' (d.renameR s t).1 ∧ Ext F w w' F'
  remove : ∀ (w : World) (p : Addr) (F : Nat → Bool) (d : AD) (s : ByteArray), DK w p F d → Good d → s.size ≤ 281474976710656 →
    Calls Try.prog 21 #[ptr p, .string s] w fun e w' => ∃ F', e = .returned (.int .i64 (d.removeR s).2) ∧ DK w' p F' (d.removeR s).1 ∧ Ext F w w' F'
  fail : ∀ (w : World) (p : Addr) (F : Nat → Bool) (d : AD) (n : Int), DK w p F d → Good d → I63 n →
    Calls Try.prog 22 #[ptr p, .int .i64 n] w fun e w' => ∃ F', e = .returned (.int .i64 (d.failR n).2) ∧ DK w' p F' (d.failR n).1 ∧ Ext F w w' F'
  crash : ∀ (w : World) (p : Addr) (F : Nat → Bool) (d : AD) (v : Value) (len : Nat) (kb : List Int) (torn cut : Int), DK w p F d → Good d → RI .u8 (mask F w) v len kb → Bytes kb → I63 torn → I63 cut →
    Calls Try.prog 14 #[ptr p, .agg #[v, .int .i64 torn, .int .i64 cut]] w fun e w' => ∃ F', e = .returned (.tuple #[]) ∧ DK w' p F' (d.crashR kb torn cut) ∧ Ext F w w' F'
  read : ∀ (w : World) (p : Addr) (F : Nat → Bool) (d : AD) (s : ByteArray) (at_ n : Int), DK w p F d → Good d → s.size ≤ 281474976710656 → I63 at_ → I63 n →
    Calls Try.prog 16 #[ptr p, .string s, .int .i64 at_, .int .i64 n] w fun e w' => ∃ v, e = .returned (.tuple #[v, .int .i64 (d.readR s at_ n).2.2]) ∧ FS w' v (d.readR s at_ n).2.1 (d.readR s at_ n).1 ∧ Below w.heap.size w w'
  size : ∀ (w : World) (p : Addr) (F : Nat → Bool) (d : AD) (s : ByteArray), DK w p F d → Good d → s.size ≤ 281474976710656 →
    Calls Try.prog 23 #[ptr p, .string s] w fun e w' => e = .returned (.int .i64 (if d.has s then ((d.get s).n : Int) else 0)) ∧ Below w.heap.size w w'
  list : ∀ (w : World) (p : Addr) (F : Nat → Bool) (d : AD), DK w p F d → Good d →
    Calls Try.prog 24 #[ptr p] w fun e w' => ∃ v, e = .returned v ∧ SS w' v d.names ∧ Below w.heap.size w w'
  files : ∀ (w : World) (p : Addr) (F : Nat → Bool) (d : AD), DK w p F d → Good d →
    Calls Try.prog 25 #[ptr p] w fun e w' => ∃ v, e = .returned v ∧ LA w' v d.files ∧ Below w.heap.size w w'
  used : ∀ (w : World) (p : Addr) (F : Nat → Bool) (d : AD), DK w p F d → Good d →
    Calls Try.prog 26 #[ptr p] w fun e w' => e = .returned (.int .i64 (usedN d.L : Int)) ∧ Below w.heap.size w w'
  waiting : ∀ (w : World) (p : Addr) (F : Nat → Bool) (d : AD), DK w p F d → Good d →
    Calls Try.prog 27 #[ptr p] w fun e w' => e = .returned (.int .i64 (waitingN d.L : Int)) ∧ Below w.heap.size w w'
  ops : ∀ (w : World) (p : Addr) (F : Nat → Bool) (d : AD), DK w p F d → Good d →
    Calls Try.prog 28 #[ptr p] w fun e w' => e = .returned (.int .i64 d.ops) ∧ Below w.heap.size w w'
  down : ∀ (w : World) (p : Addr) (F : Nat → Bool) (d : AD), DK w p F d → Good d →
    Calls Try.prog 29 #[ptr p] w fun e w' => e = .returned (.bool d.down) ∧ Below w.heap.size w w'
  clone : ∀ (w : World) (p : Addr) (F : Nat → Bool) (d : AD), DK w p F d → Good d →
    Calls Try.prog 15 #[ptr p] w fun e w' => ∃ q G, e = .returned (ptr q) ∧ DK w' q G d ∧ Ext noF w w' G
/-! of nil -/
structure NilSays : Prop where
  make : ∀ (w : World) (s : ByteArray) (n : Int), Calls Try.prog 17 #[.pointer none, .string s, .int .i64 n] w fun e w' => e = .returned (.int .i64 11) ∧ Below w.heap.size w w'
  write : ∀ (w : World) (s : ByteArray) (n : Int), Calls Try.prog 18 #[.pointer none, .string s, .int .i64 n, .slice none 0 0] w fun e w' => e = .returned (.int .i64 11) ∧ Below w.heap.size w w'
  read : ∀ (w : World) (s : ByteArray) (n m : Int), Calls Try.prog 16 #[.pointer none, .string s, .int .i64 n, .int .i64 m] w fun e w' => ∃ v, e = .returned (.tuple #[v, .int .i64 11]) ∧ Below w.heap.size w w'
  sync : ∀ (w : World) (s : ByteArray), Calls Try.prog 19 #[.pointer none, .string s] w fun e w' => e = .returned (.int .i64 11) ∧ Below w.heap.size w w'
  rename : ∀ (w : World) (s t : ByteArray), Calls Try.prog 20 #[.pointer none, .string s, .string t] w fun e w' => e = .returned (.int .i64 11) ∧ Below w.heap.size w w'
  remove : ∀ (w : World) (s : ByteArray), Calls Try.prog 21 #[.pointer none, .string s] w fun e w' => e = .returned (.int .i64 11) ∧ Below w.heap.size w w'
  fail : ∀ (w : World) (n : Int), Calls Try.prog 22 #[.pointer none, .int .i64 n] w fun e w' => e = .returned (.int .i64 11) ∧ Below w.heap.size w w'
  crash : ∀ (w : World), Calls Try.prog 14 #[.pointer none, .agg #[.slice none 0 0, .int .i64 0, .int .i64 0]] w fun e w' => e = .returned (.tuple #[]) ∧ Below w.heap.size w w'
  size : ∀ (w : World) (s : ByteArray), Calls Try.prog 23 #[.pointer none, .string s] w fun e w' => e = .returned (.int .i64 0) ∧ Below w.heap.size w w'
  list : ∀ (w : World), Calls Try.prog 24 #[.pointer none] w fun e w' => ∃ a c, e = .returned (.slice a 0 c) ∧ Below w.heap.size w w'
  files : ∀ (w : World), Calls Try.prog 25 #[.pointer none] w fun e w' => ∃ a c, e = .returned (.slice a 0 c) ∧ Below w.heap.size w w'
  used : ∀ (w : World), Calls Try.prog 26 #[.pointer none] w fun e w' => e = .returned (.int .i64 0) ∧ Below w.heap.size w w'
  waiting : ∀ (w : World), Calls Try.prog 27 #[.pointer none] w fun e w' => e = .returned (.int .i64 0) ∧ Below w.heap.size w w'
  ops : ∀ (w : World), Calls Try.prog 28 #[.pointer none] w fun e w' => e = .returned (.int .i64 0) ∧ Below w.heap.size w w'
  down : ∀ (w : World), Calls Try.prog 29 #[.pointer none] w fun e w' => e = .returned (.bool false) ∧ Below w.heap.size w w'
  clone : ∀ (w : World), Calls Try.prog 15 #[.pointer none] w fun e w' => e = .returned (.pointer none) ∧ Below w.heap.size w w'
/-! what follows -/
theorem DiskSays.below {DK : World → Addr → (Nat → Bool) → AD → Prop} (H : DiskSays DK) {w w' : World} {p : Addr} {F : Nat → Bool} {d : AD} (h : DK w p F d) (hb : Below w.heap.size w w') : DK w' p F d :=
  H.keep h hb.size fun k hk => hb.block k (H.foot h k hk)
/-- what changes G alone leaves a disk apart from G -/
theorem DiskSays.apart {DK : World → Addr → (Nat → Bool) → AD → Prop} (H : DiskSays DK) {w w' : World} {p : Addr} {F G G' : Nat → Bool} {d : AD} (h : DK w p F d) (hx : Ext G w w' G') (ha : ∀ k, F k = true → G k = false) : DK w' p F d :=
  H.keep h hx.size fun k hk => hx.block k (H.foot h k hk) (ha k hk)
end Go.Proofs.Ytpnialanmidekaa
