/-
  LAYER 8 (disk): a disk in a block of its own, and rows of files that a call makes. Nothing here speaks of the program's functions. No condition.
-/
import Derived.Test.YtpnialanmidekaaDiskRef
import Derived.Test.YtpnialanmidekaaSlices
namespace Go.Proofs.Ytpnialanmidekaa
open Go.RowKit
/-! a disk in a block of its own -/
def DB (w : World) (b : Nat) (cs : Array Value) : Prop := w.heap[b]? = some (.cells cs 29 (0, 0)) ∧ cs.size = 6
theorem DB.below {w w' : World} {b B : Nat} {cs : Array Value} (h : DB w b cs) (hb : Below B w w') (hlt : b < B) : DB w' b cs := ⟨by rw [hb.block b hlt]; exact h.1, h.2⟩
theorem DB.cell {w : World} {b : Nat} {cs : Array Value} (h : DB w b cs) (j : Nat) : w.cell? ⟨b, j, none⟩ = cs[j]? := Joins.cell_of_block h.1 j
theorem DB.frozen {w : World} {b : Nat} {cs : Array Value} (h : DB w b cs) (j : Nat) : w.frozen? ⟨b, j, none⟩ = false := Joins.unfrozen_of_block h.1 j
theorem DB.stored {w : World} {b : Nat} {cs : Array Value} (h : DB w b cs) (j : Nat) (v : Value) : DB (w.setCell ⟨b, j, none⟩ v) b (cs.setIfInBounds j v) := ⟨Joins.block_setCell h.1 _, by simpa using h.2⟩
theorem DB.apart {w : World} {b b' : Nat} {cs : Array Value} (h : DB w b cs) (hne : b ≠ b') (j : Nat) (v : Value) : DB (w.setCell ⟨b', j, none⟩ v) b cs := ⟨by rw [Below.heap_setCell w ⟨b', j, none⟩ v b hne]; exact h.1, h.2⟩
theorem DB.row {w : World} {b : Nat} {cs cs' : Array Value} (h : DB w b cs) (hc : cs'.size = 6) : DB (w.setRow b cs') b cs' := ⟨setRow_heap w b cs cs' _ _ h.1, hc⟩
theorem DB.info {w : World} {b : Nat} {cs : Array Value} (h : DB w b cs) : (Try.prog.info? 29).map (·.size) = some cs.size := by rw [h.2]; exact disk_info
def dz : Array Value := #[.slice none 0 0, .int .i64 0, .int .i64 0, .bool false, .bool false, .int .i64 0]
/-- both blocks that such a call begins with -/
theorem DB.start (w : World) (cs : Array Value) (h : cs.size = 6) : DB ((w.alloc (.cells cs 29)).alloc (.cells dz 29)) w.heap.size cs ∧ DB ((w.alloc (.cells cs 29)).alloc (.cells dz 29)) (w.heap.size + 1) dz :=
  ⟨⟨by rw [heap_alloc_old _ _ (by rw [alloc_size]; omega)]; exact heap_alloc_last w _, h⟩, ⟨alloc2_last w _ _, rfl⟩⟩
theorem file_parts : (Try.prog.info? 82).map (fun i => (i.zero, i.size, i.bytes)) = some (some (.agg #[.string ByteArray.empty, .slice none 0 0, .slice none 0 0, .slice none 0 0]), 4, 88) := by kernel_rfl
/-- append of one file to a row of files that the call made -/
theorem wpl_app_file {w : World} {ops : Array Oper} {rest : List Oper} {o : Oper} {a : Act} {Q : Exit → Act → World → Prop} (hgd : o.guard = none) (s x : Operand)
    (ho : o.op = .call { callee := .builtin .append, args := #[s, x], argTypes := #[27, 27] })
    (base : Nat) (v : Value) (n : Nat) (es : List (List Value)) (hs : a.eval s = v) (hown : Hid (w.ownsRow base 82 4 v n es.flatten))
    (g : Nat) (e : List Value) (hx : a.eval x = .slice (some ⟨g, 0, none⟩) 1 1) (hblk : w.heap[g]? = some (.cells e.toArray 82 (0, 0))) (he : e.length = 4) (h1 : ∀ u ∈ e, u.oneCell' = true) (hn : n ≤ 1000000000000)
    (B : Nat) (W : World) (hb : Hid (Below B W w)) (hB : B ≤ base) (hbase : base ≤ w.heap.size)
    (h : ∀ v' w', Hid (w'.ownsRow base 82 4 v' (n + 1) (es ++ [e]).flatten) → Hid (Below B W w') → wpList Try.prog ops Q rest (a.put o.dst v') w') : wpList Try.prog ops Q (o :: rest) a w := by
  obtain ⟨i, hi, hz0, hz1, hz2⟩ := info_parts file_parts
  refine wpList_append_own_wide w hgd s x 27 ho base 82 i _ 4 88 Try.underlying27 hi hz0 hz1 hz2 rfl (by omega) v n es.flatten hs hown.out ⟨g, 0, none⟩ 1 1 e hx (by rw [he]) ?_ h1 (by unfold maxLen; omega) (by omega) hbase ?_
  · intro j u hj
    have hc : w.cell? ⟨g, j, none⟩ = some u := by rw [cell_of_row _ g j _ _ _ hblk]; simpa using hj
    by_cases h0 : j = 0
    · subst h0; simpa [Addr.add] using hc
    · simpa [Addr.add, h0] using hc
  · intro v' w' h1 h2 _
    exact h v' w' (by rw [List.flatten_append, List.flatten_singleton]; exact h1) (hb.out.grown h2 (by omega) (fun q hq => by have := (hown.out.lt q hq).1; omega))
/-- a file's four cells, written out -/
theorem FLs.form4 {w : World} {a : Option Addr} {n cap : Nat} {L : List AF} (h : FLs w (.slice a n cap) L) (i : Nat) (f : AF) (hf : L[i]? = some f) :
    ∃ b off a1 c1 a2 c2 a3 c3, a = some ⟨b, off, none⟩ ∧ w.cell? ⟨b, off + i * 4, none⟩ = some (.string f.name) ∧ w.cell? ⟨b, off + i * 4 + 1, none⟩ = some (.slice a1 f.n c1) ∧ w.cell? ⟨b, off + i * 4 + 2, none⟩ = some (.slice a2 f.n c2) ∧ w.cell? ⟨b, off + i * 4 + 3, none⟩ = some (.slice a3 f.n c3) ∧
      FS w (.slice a1 f.n c1) f.n f.las ∧ FS w (.slice a2 f.n c2) f.n f.seen ∧ BS w (.slice a3 f.n c3) f.n f.ws := by
  obtain ⟨b, off, v1, v2, v3, h0, h1, h2, h3, h4, h5, h6, h7⟩ := h.at_ i f hf
  obtain ⟨a1, c1, rfl, _⟩ := id h5
  obtain ⟨a2, c2, rfl, _⟩ := id h6
  obtain ⟨a3, c3, rfl, _⟩ := id h7
  exact ⟨b, off, a1, c1, a2, c2, a3, c3, h0, h1, h2, h3, h4, h5, h6, h7⟩
/-- what such a call begins with -/
structure Bx (F : Nat → Bool) (w : World) (a : Option Addr) (cap : Nat) (d : AD) (n : Nat) (W2 : World) : Prop where
  below : Below w.heap.size w W2
  size : W2.heap.size = w.heap.size + 2
  d0 : DB W2 w.heap.size #[.slice a n cap, .int .i64 d.cap, .int .i64 d.ops, .bool d.down, .bool d.told, .int .i64 d.after]
  d1 : DB W2 (w.heap.size + 1) dz
  rl : FLs W2 (.slice a n cap) d.L
  rlm : FLs (mask F w) (.slice a n cap) d.L
  foot : Foot F w.heap.size
  len : d.L.length = n
theorem Bx.start {F : Nat → Bool} {w : World} {a : Option Addr} {cap : Nat} {d : AD} {n : Nat} (hF : Foot F w.heap.size) (hn : d.L.length = n) (h : FLs (mask F w) (.slice a n cap) d.L) :
    Bx F w a cap d n ((w.alloc (.cells #[.slice a n cap, .int .i64 d.cap, .int .i64 d.ops, .bool d.down, .bool d.told, .int .i64 d.after] 29)).alloc (.cells dz 29)) := by
  obtain ⟨h0, h1⟩ := DB.start w #[.slice a n cap, .int .i64 d.cap, .int .i64 d.ops, .bool d.down, .bool d.told, .int .i64 d.after] rfl
  exact ⟨below2 _ _ _, by rw [alloc_size, alloc_size], h0, h1, (h.kin (unmask F w)).kin (Kin.below (below2 _ _ _)), h, hF, hn⟩
theorem RD.form {w : World} {v : Value} {d : AD} (h : RD w v d) : ∃ a cap, v = dv (.slice a d.L.length cap) d ∧ FLs w (.slice a d.L.length cap) d.L ∧ d.L.length ≤ cap ∧ cap ≤ 9223372036854775807 ∧ (a = none → cap = 0) := by
  obtain ⟨vl, rfl, hl⟩ := h
  obtain ⟨a, cap, rfl, h1, h2, h3⟩ := hl.form
  exact ⟨a, cap, rfl, hl, h1, h2, h3⟩
theorem FLs.own {F : Nat → Bool} {w wr : World} {base : Nat} {v : Value} {n : Nat} {es : List (List Value)} {L : List AF} (hF : Foot F base) (ho : wr.ownsRow base 82 4 v n es.flatten) (hk : Kin (mask F w) (mask F wr)) (hr : RFs (mask F w) es L) (hn : L.length = n) : FLs (mask F wr) v L := by
  subst hn
  exact ⟨es, CS.own (own_mask hF ho), hr.kin hk⟩
theorem own_move {w w' : World} {base : Nat} {e : TypeId} {size : Nat} {v : Value} {n : Nat} {xs : List Value} (h : w.ownsRow base e size v n xs) (hg : ∀ g, base ≤ g → w'.heap[g]? = w.heap[g]?) : w'.ownsRow base e size v n xs := by
  refine ⟨h.1, ?_⟩
  rcases h.2 with h2 | ⟨g, cap, cur, hv, hb, hcur, h3⟩
  · exact .inl h2
  · exact .inr ⟨g, cap, cur, hv, hb, by rw [hg g hb]; exact hcur, h3⟩
theorem own_slice {w : World} {base : Nat} {e : TypeId} {size : Nat} {v : Value} {n : Nat} {xs : List Value} (h : w.ownsRow base e size v n xs) : ∃ a c, v = .slice a n c := by
  rcases h.2 with ⟨e1, e2⟩ | ⟨g, cp, cur, e1, _⟩
  · exact ⟨_, _, by rw [e1, e2]⟩
  · exact ⟨_, _, e1⟩
/-- behind the call's last steps: the list is put into the box, the box into the result's cell -/
theorem last_below {B : Nat} {w wr : World} (hb : Below B w wr) (g : Nat) (hg : B ≤ g) (v : Value) (cs : Array Value) : Below B w ((wr.setCell ⟨g, 0, none⟩ v).setRow (g + 1) cs) :=
  have h1 : Below B w (wr.setCell ⟨g, 0, none⟩ v) := hb.setCell hg v
  below_row h1 (by omega) cs
theorem last_heap (wr : World) (g : Nat) (v : Value) (cs : Array Value) (k : Nat) (hk : g + 2 ≤ k) : ((wr.setCell ⟨g, 0, none⟩ v).setRow (g + 1) cs).heap[k]? = wr.heap[k]? := by
  rw [setRow_other _ (g + 1) k cs (by omega), Below.heap_setCell wr ⟨g, 0, none⟩ v k (by show k ≠ g; omega)]
end Go.Proofs.Ytpnialanmidekaa
