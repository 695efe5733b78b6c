/-
  LAYER 8 (disk): the law's own same, over DiskSays. No condition.
-/
import Derived.Test.YtpnialanmidekaaDiskDoSt
import Derived.Test.YtpnialanmidekaaDiskDo1
import Derived.Test.YtpnialanmidekaaDiskRead
import Derived.Test.YtpnialanmidekaaDiskWaits
namespace Go.Proofs.Ytpnialanmidekaa
open Go.RowKit
/-- the file at a place is the one of its name -/
theorem Good.at_ {d : AD} (h : Good d) {i : Nat} {f : AF} (hf : d.L[i]? = some f) : d.has f.name ∧ d.get f.name = f := by
  obtain ⟨hi, rfl⟩ := List.getElem?_eq_some_iff.1 hf
  have hh : d.has (d.L[i]).name := by
    rcases Decidable.em (d.has (d.L[i]).name) with h1 | h1
    · exact h1
    · exact absurd rfl (has_mem h1 _ (List.getElem_mem hi))
  refine ⟨hh, ?_⟩
  have h1 := d.get_at _ hh
  have h2 := d.get_name _ hh
  obtain ⟨hj, e⟩ := List.getElem?_eq_some_iff.1 h1
  have hp := List.pairwise_iff_getElem.1 h.asc
  rcases Nat.lt_trichotomy (idxN d.L (d.L[i]).name) i with hlt | heq | hgt
  · have := gtN_ne (hp _ _ hj hi hlt); rw [e, h2] at this; exact absurd rfl this
  · rw [← e]; simp only [heq]
  · have := gtN_ne (hp _ _ hi hj hgt); rw [e, h2] at this; exact absurd rfl this
theorem Good.size_at {d : AD} (h : Good d) {i : Nat} {f : AF} (hf : d.L[i]? = some f) : (if d.has f.name then ((d.get f.name).n : Int) else 0) = (f.n : Int) := by
  obtain ⟨h1, h2⟩ := h.at_ hf
  rw [if_pos h1, h2]
theorem right_size {s : ByteArray} (h : rightB s = true) : s.size ≤ 281474976710656 := by
  unfold rightB nameN at h
  simp only [Bool.and_eq_true, decide_eq_true_eq] at h
  show s.data.size ≤ _
  rw [← Array.length_toList]; omega
theorem SS.at_ {w : World} {a : Option Addr} {n cap : Nat} {l : List ByteArray} (h : SS w (.slice a n cap) l) (i : Nat) (s : ByteArray) (hs : l[i]? = some s) :
    ∃ b off, a = some ⟨b, off, none⟩ ∧ w.cell? ⟨b, off + i, none⟩ = some (.string s) := by
  obtain ⟨hi, rfl⟩ := List.getElem?_eq_some_iff.1 hs
  have hn : n = l.length := by obtain ⟨_, _, hv, _⟩ := h; simp at hv; exact hv.2.1
  subst hn
  obtain ⟨b, off, rfl, hc⟩ := CS.at_ h i hi
  refine ⟨b, off, rfl, ?_⟩
  have h1 := hc 0 (by omega)
  simpa [hi] using h1
theorem RD.below {w w' : World} {v : Value} {d : AD} (h : RD w v d) (hb : Below w.heap.size w w') : RD w' v d := h.kin (Kin.below hb)
theorem LA.below {w w' : World} {v : Value} {l : List LFile} (h : LA w v l) (hb : Below w.heap.size w w') : LA w' v l := h.kin (Kin.below hb)
theorem SS.below {w w' : World} {v : Value} {l : List ByteArray} (h : SS w v l) (hb : Below w.heap.size w w') : SS w' v l := h.kin (Kin.below hb)
/-- where same stands: w is where it began; the box has the document's disk -/
structure SaS (DK : World → Addr → (Nat → Bool) → AD → Prop) (w : World) (p : Addr) (F : Nat → Bool) (cs : Array Value) (d : AD) (W : World) : Prop where
  dk : DK W p F d
  rd : RD W (.agg cs) d
  below : Below w.heap.size w W
  d0 : DB W w.heap.size cs
theorem SaS.next {DK : World → Addr → (Nat → Bool) → AD → Prop} (H : DiskSays DK) {w W W' : World} {p : Addr} {F : Nat → Bool} {cs : Array Value} {d : AD} (h : SaS DK w p F cs d W) (hb : Below W.heap.size W W') : SaS DK w p F cs d W' :=
  ⟨H.below h.dk hb, h.rd.below hb, chain h.below hb, h.d0.next hb⟩
theorem SaS.start {DK : World → Addr → (Nat → Bool) → AD → Prop} (H : DiskSays DK) {w : World} {p : Addr} {F : Nat → Bool} {cs : Array Value} {d : AD} (hk : DK w p F d) (hr : RD w (.agg cs) d) (h6 : cs.size = 6) :
    SaS DK w p F cs d (w.alloc (.cells cs 29)) :=
  have hb := below_alloc w (.cells cs 29)
  ⟨H.below hk hb, hr.below hb, hb, ⟨heap_alloc_last w _, h6⟩⟩
theorem waiting_used : ∀ L : List AF, (∀ f ∈ L, GF f) → waitingN L ≤ usedN L
  | [], _ => by simp [waitingN, usedN]
  | f :: L, h => by
    have h1 := waiting_used L fun g hg => h g (List.mem_cons_of_mem _ hg)
    have h2 := waitsN_len f.ws
    have h3 := (h f (List.mem_cons_self ..)).ws
    simp only [waitingN, usedN, List.map_cons, List.sum_cons] at h1 ⊢
    omega
set_option maxRecDepth 8000 in
set_option maxHeartbeats 8000000 in
theorem lsame_any {DK : World → Addr → (Nat → Bool) → AD → Prop} (H : DiskSays DK) (F : Nat → Bool) (w : World) (p : Addr) (vd : Value) (d : AD) (hdk : DK w p F d) (hg : Good d) (hrd : RD w vd d) :
    Calls Try.prog 11 #[ptr p, vd] w fun e w' => e = .returned (.bool true) ∧ Below w.heap.size w w' := by
  obtain ⟨a, n, c, rfl, hn, hc1, hc2⟩ := hrd.agg
  have hH := Lib.hid H
  have HG := Lib.hid hg
  have HN := Lib.hid hn
  have HS0 := Lib.hid (SaS.start H hdk hrd rfl)
  have hfew := hg.few
  have hu := hg.used
  have hcap := hg.cap1
  have hwu := waiting_used d.L hg.file
  have HU : Hid (usedN d.L ≤ 1000000000000) := Lib.hid (by omega)
  have HWT : Hid (waitingN d.L ≤ 1000000000000) := Lib.hid (by omega)
  have hn63 : (n : Int) ≤ 64 := by omega
  clear hfew hu hcap hwu hn hdk hg hrd
  go_enter Try.func11, Try.ntmps11
  go_wp2_with (first
    | (go_at_call 24; (with_reducible refine (hH.out.list _ _ _ _ HS0.out.dk HG.out).mono ?_); rintro e w1 ⟨v1, rfl, hs1, hb⟩; have HS1 := Lib.hid (HS0.out.next hH.out hb); have HL1 := Lib.hid hs1; clear hb hs1)
    | (go_at_call 25; (with_reducible refine (hH.out.files _ _ _ _ HS1.out.dk HG.out).mono ?_); rintro e w2 ⟨v2, rfl, hs2, hb⟩; have HS2 := Lib.hid (HS1.out.next hH.out hb); have HL2 := Lib.hid (HL1.out.below hb); have HF2 := Lib.hid hs2; clear hb hs2))
  obtain ⟨a1, c1, rfl, hc11, hc12, _⟩ := CS.form HL2.out
  obtain ⟨a2, c2, rfl, hc21, hc22, _⟩ := HF2.out.form
  rw [show d.names.length = n from by rw [← HN.out]; simp [AD.names]] at HL2 hc11 ⊢
  rw [show d.files.length = n from by rw [← HN.out]; simp [AD.files]] at HF2 hc21 ⊢
  have HS2D := Lib.hid (HS2.out.next hH.out (Below.refl _ _).drew)
  have HB2 : Hid (Below w2.heap.size w2 w2.drew) := Lib.hid (Below.refl _ _).drew
  refine wp_region_held_drew (S := (fun W' => DB W' w.heap.size #[.slice a n c, .int .i64 d.cap, .int .i64 d.ops, .bool d.down, .bool d.told, .int .i64 d.after])) (by kernel_rfl) HS2D.out.d0 (fun hS => ?_)
  refine wpAnyH_take (i := 0) (oi := ({ dst := some 17, op := Op.move (Operand.tmp 0), type := 25, pos := "law.go:42", after := #[], guard := none } : Oper)) (v := ?_) rfl (by kernel_rfl) (by kernel_rfl) (by kernel_rfl) (fun _ _ _ h => h) (Or.inl ⟨by rfl, ?_⟩) hS ?_
  rotate_left
  · (intro w hSw; (try dsimp only at hSw); go_simp; try with_reducible rfl)
  (try simp only [Act.put, List.setIfInBounds_toArray, List.set_cons_zero, List.set_cons_succ])
  refine wpAnyH_take (i := 2) (oi := ({ dst := some 19, op := Op.fieldAddr 29 (Operand.tmp 3) 2, type := 0, pos := "law.go:42", after := #[], guard := none } : Oper)) (v := ?_) rfl (by kernel_rfl) (by kernel_rfl) (by kernel_rfl) (fun _ _ _ h => h) (Or.inl ⟨by rfl, ?_⟩) hS ?_
  rotate_left
  · (intro w hSw; (try dsimp only at hSw); go_simp; try with_reducible rfl)
  (try simp only [Act.put, List.setIfInBounds_toArray, List.set_cons_zero, List.set_cons_succ])
  refine wpAnyH_take (i := 3) (oi := ({ dst := some 20, op := Op.load 3 (Operand.tmp 19), type := 3, pos := "law.go:42", after := #[{ on := 2, ground := Ground.data }], guard := none } : Oper)) (v := ?_) rfl (by kernel_rfl) (by kernel_rfl) (by kernel_rfl) (fun _ _ _ h => h) (Or.inl ⟨by rfl, ?_⟩) hS ?_
  rotate_left
  · (intro w hSw; (try dsimp only at hSw); obtain ⟨z0, z1, z2, z3, z4, z5⟩ := hSw.six; go_simp; try with_reducible rfl)
  (try simp only [Act.put, List.setIfInBounds_toArray, List.set_cons_zero, List.set_cons_succ])
  refine rg_one 1 ({ dst := some 18, op := Op.call { callee := Callee.value (Operand.func 28), args := #[Operand.tmp 17], argTypes := #[25] }, type := 3, pos := "law.go:42", after := #[{ on := 0, ground := Ground.data }], guard := none } : Oper) (by kernel_rfl) rfl (fun K hK => ?_)
  go_simp
  (go_at_call 28; (with_reducible refine (hH.out.ops _ _ _ _ HS2D.out.dk HG.out).mono ?_); rintro e w3 ⟨rfl, hb⟩; have HS3 := Lib.hid (HS2D.out.next hH.out hb); have HB3 := Lib.hid (chain HB2.out hb))
  refine hK.out _ _ ?_ (fun hS1 => ?_)
  · (first | exact hS | exact hS.next hb)
  clear hK K hS; have hS := hS1; clear hS1
  (try simp only [Act.put, List.setIfInBounds_toArray, List.set_cons_zero, List.set_cons_succ])
  refine wpAnyH_take (i := 4) (oi := ({ dst := some 21, op := Op.binOp BinOp.neq 3 (Operand.tmp 18) (Operand.tmp 20) 3, type := 4, pos := "law.go:42", after := #[{ on := 1, ground := Ground.data }, { on := 3, ground := Ground.data }], guard := none } : Oper)) (v := ?_) rfl (by kernel_rfl) (by kernel_rfl) (by kernel_rfl) (fun _ _ _ h => h) (Or.inl ⟨by rfl, ?_⟩) hS ?_
  rotate_left
  · (intro w hSw; (try dsimp only at hSw); go_simp; try with_reducible rfl)
  (try simp only [Act.put, List.setIfInBounds_toArray, List.set_cons_zero, List.set_cons_succ])
  refine wpAnyH_take (i := 5) (oi := ({ dst := some 22, op := Op.move (Operand.tmp 21), type := 4, pos := "law.go:42", after := #[{ on := 4, ground := Ground.data }, { on := 1, ground := Ground.chain }], guard := none } : Oper)) (v := ?_) rfl (by kernel_rfl) (by kernel_rfl) (by kernel_rfl) (fun _ _ _ h => h) (Or.inl ⟨by rfl, ?_⟩) hS ?_
  rotate_left
  · (intro w hSw; (try dsimp only at hSw); go_simp; try with_reducible rfl)
  (try simp only [Act.put, List.setIfInBounds_toArray, List.set_cons_zero, List.set_cons_succ])
  refine wpAnyH_take (i := 6) (oi := ({ dst := some 23, op := Op.move (Operand.tmp 0), type := 25, pos := "law.go:42", after := #[{ on := 5, ground := Ground.guard }], guard := some (5, false) } : Oper)) (v := ?_) rfl (by kernel_rfl) (by kernel_rfl) (by kernel_rfl) (fun _ _ _ h => h) (Or.inl ⟨by rfl, ?_⟩) hS ?_
  rotate_left
  · (intro w hSw; (try dsimp only at hSw); go_simp; try with_reducible rfl)
  (try simp only [Act.put, List.setIfInBounds_toArray, List.set_cons_zero, List.set_cons_succ])
  refine wpAnyH_take (i := 8) (oi := ({ dst := some 25, op := Op.fieldAddr 29 (Operand.tmp 3) 3, type := 0, pos := "law.go:42", after := #[{ on := 5, ground := Ground.guard }], guard := some (5, false) } : Oper)) (v := ?_) rfl (by kernel_rfl) (by kernel_rfl) (by kernel_rfl) (fun _ _ _ h => h) (Or.inl ⟨by rfl, ?_⟩) hS ?_
  rotate_left
  · (intro w hSw; (try dsimp only at hSw); go_simp; try with_reducible rfl)
  (try simp only [Act.put, List.setIfInBounds_toArray, List.set_cons_zero, List.set_cons_succ])
  refine wpAnyH_take (i := 9) (oi := ({ dst := some 26, op := Op.load 4 (Operand.tmp 25), type := 4, pos := "law.go:42", after := #[{ on := 8, ground := Ground.data }, { on := 5, ground := Ground.guard }], guard := some (5, false) } : Oper)) (v := ?_) rfl (by kernel_rfl) (by kernel_rfl) (by kernel_rfl) (fun _ _ _ h => h) (Or.inl ⟨by rfl, ?_⟩) hS ?_
  rotate_left
  · (intro w hSw; (try dsimp only at hSw); obtain ⟨z0, z1, z2, z3, z4, z5⟩ := hSw.six; go_simp; try with_reducible rfl)
  (try simp only [Act.put, List.setIfInBounds_toArray, List.set_cons_zero, List.set_cons_succ])
  refine rg_one 7 ({ dst := some 24, op := Op.call { callee := Callee.value (Operand.func 29), args := #[Operand.tmp 23], argTypes := #[25] }, type := 4, pos := "law.go:42", after := #[{ on := 6, ground := Ground.data }, { on := 5, ground := Ground.chain }, { on := 5, ground := Ground.guard }], guard := some (5, false) } : Oper) (by kernel_rfl) rfl (fun K hK => ?_)
  go_simp
  (go_at_call 29; (with_reducible refine (hH.out.down _ _ _ _ HS3.out.dk HG.out).mono ?_); rintro e w4 ⟨rfl, hb⟩; have HS4 := Lib.hid (HS3.out.next hH.out hb); have HB4 := Lib.hid (chain HB3.out hb))
  refine hK.out _ _ ?_ (fun hS1 => ?_)
  · (first | exact hS | exact hS.next hb)
  clear hK K hS; have hS := hS1; clear hS1
  (try simp only [Act.put, List.setIfInBounds_toArray, List.set_cons_zero, List.set_cons_succ])
  refine wpAnyH_take (i := 10) (oi := ({ dst := some 27, op := Op.binOp BinOp.neq 4 (Operand.tmp 24) (Operand.tmp 26) 4, type := 4, pos := "law.go:42", after := #[{ on := 7, ground := Ground.data }, { on := 9, ground := Ground.data }, { on := 5, ground := Ground.guard }], guard := some (5, false) } : Oper)) (v := ?_) rfl (by kernel_rfl) (by kernel_rfl) (by kernel_rfl) (fun _ _ _ h => h) (Or.inl ⟨by rfl, ?_⟩) hS ?_
  rotate_left
  · (intro w hSw; (try dsimp only at hSw); go_simp; try with_reducible rfl)
  (try simp only [Act.put, List.setIfInBounds_toArray, List.set_cons_zero, List.set_cons_succ])
  refine wpAnyH_take (i := 11) (oi := ({ dst := some 28, op := Op.pick (Operand.tmp 22) (Operand.const (Value.bool true)) (Operand.tmp 27), type := 4, pos := "law.go:42", after := #[{ on := 5, ground := Ground.data }, { on := 10, ground := Ground.data }], guard := none } : Oper)) (v := ?_) rfl (by kernel_rfl) (by kernel_rfl) (by kernel_rfl) (fun _ _ _ h => h) (Or.inl ⟨by rfl, ?_⟩) hS ?_
  rotate_left
  · (intro w hSw; (try dsimp only at hSw); go_simp; try with_reducible rfl)
  (try simp only [Act.put, List.setIfInBounds_toArray, List.set_cons_zero, List.set_cons_succ])
  refine wpAnyH_take (i := 12) (oi := ({ dst := some 29, op := Op.move (Operand.tmp 28), type := 4, pos := "law.go:42", after := #[{ on := 11, ground := Ground.data }, { on := 7, ground := Ground.chain }], guard := none } : Oper)) (v := ?_) rfl (by kernel_rfl) (by kernel_rfl) (by kernel_rfl) (fun _ _ _ h => h) (Or.inl ⟨by rfl, ?_⟩) hS ?_
  rotate_left
  · (intro w hSw; (try dsimp only at hSw); go_simp; try with_reducible rfl)
  (try simp only [Act.put, List.setIfInBounds_toArray, List.set_cons_zero, List.set_cons_succ])
  refine wpAnyH_take (i := 13) (oi := ({ dst := some 30, op := Op.move (Operand.tmp 0), type := 25, pos := "law.go:42", after := #[{ on := 12, ground := Ground.guard }], guard := some (12, false) } : Oper)) (v := ?_) rfl (by kernel_rfl) (by kernel_rfl) (by kernel_rfl) (fun _ _ _ h => h) (Or.inl ⟨by rfl, ?_⟩) hS ?_
  rotate_left
  · (intro w hSw; (try dsimp only at hSw); go_simp; try with_reducible rfl)
  (try simp only [Act.put, List.setIfInBounds_toArray, List.set_cons_zero, List.set_cons_succ])
  refine wpAnyH_take (i := 15) (oi := ({ dst := some 32, op := Op.load 29 (Operand.tmp 3), type := 29, pos := "law.go:42", after := #[{ on := 12, ground := Ground.guard }], guard := some (12, false) } : Oper)) (v := ?_) rfl (by kernel_rfl) (by kernel_rfl) (by kernel_rfl) (fun _ _ _ h => h) (Or.inl ⟨by rfl, ?_⟩) hS ?_
  rotate_left
  · (intro w hSw; (try dsimp only at hSw); refine exec_load_db (.tmp 3) ?_ ?_ hSw <;> rfl)
  (try simp only [Act.put, List.setIfInBounds_toArray, List.set_cons_zero, List.set_cons_succ])
  refine rg_one 14 ({ dst := some 31, op := Op.call { callee := Callee.value (Operand.func 26), args := #[Operand.tmp 30], argTypes := #[25] }, type := 3, pos := "law.go:42", after := #[{ on := 13, ground := Ground.data }, { on := 12, ground := Ground.chain }, { on := 12, ground := Ground.guard }], guard := some (12, false) } : Oper) (by kernel_rfl) rfl (fun K hK => ?_)
  go_simp
  (go_at_call 26; (with_reducible refine (hH.out.used _ _ _ _ HS4.out.dk HG.out).mono ?_); rintro e w5 ⟨rfl, hb⟩; have HS5 := Lib.hid (HS4.out.next hH.out hb); have HB5 := Lib.hid (chain HB4.out hb))
  refine hK.out _ _ ?_ (fun hS1 => ?_)
  · (first | exact hS | exact hS.next hb)
  clear hK K hS; have hS := hS1; clear hS1
  (try simp only [Act.put, List.setIfInBounds_toArray, List.set_cons_zero, List.set_cons_succ])
  refine rg_one 16 ({ dst := some 33, op := Op.call { callee := Callee.value (Operand.func 41), args := #[Operand.tmp 32], argTypes := #[29] }, type := 3, pos := "law.go:42", after := #[{ on := 15, ground := Ground.data }, { on := 14, ground := Ground.chain }, { on := 12, ground := Ground.guard }], guard := some (12, false) } : Oper) (by kernel_rfl) rfl (fun K hK => ?_)
  go_simp
  (go_at_call 41; (with_reducible refine (rused_any _ d _ HS5.out.rd HU.out).mono ?_); rintro e w6 ⟨rfl, hb⟩; have HS6 := Lib.hid (HS5.out.next hH.out hb); have HB6 := Lib.hid (chain HB5.out hb))
  refine hK.out _ _ ?_ (fun hS1 => ?_)
  · (first | exact hS | exact hS.next hb)
  clear hK K hS; have hS := hS1; clear hS1
  (try simp only [Act.put, List.setIfInBounds_toArray, List.set_cons_zero, List.set_cons_succ])
  refine wpAnyH_take (i := 17) (oi := ({ dst := some 34, op := Op.binOp BinOp.neq 3 (Operand.tmp 31) (Operand.tmp 33) 3, type := 4, pos := "law.go:42", after := #[{ on := 14, ground := Ground.data }, { on := 16, ground := Ground.data }, { on := 12, ground := Ground.guard }], guard := some (12, false) } : Oper)) (v := ?_) rfl (by kernel_rfl) (by kernel_rfl) (by kernel_rfl) (fun _ _ _ h => h) (Or.inl ⟨by rfl, ?_⟩) hS ?_
  rotate_left
  · (intro w hSw; (try dsimp only at hSw); go_simp; try with_reducible rfl)
  (try simp only [Act.put, List.setIfInBounds_toArray, List.set_cons_zero, List.set_cons_succ])
  refine wpAnyH_take (i := 18) (oi := ({ dst := some 35, op := Op.pick (Operand.tmp 29) (Operand.const (Value.bool true)) (Operand.tmp 34), type := 4, pos := "law.go:42", after := #[{ on := 12, ground := Ground.data }, { on := 17, ground := Ground.data }], guard := none } : Oper)) (v := ?_) rfl (by kernel_rfl) (by kernel_rfl) (by kernel_rfl) (fun _ _ _ h => h) (Or.inl ⟨by rfl, ?_⟩) hS ?_
  rotate_left
  · (intro w hSw; (try dsimp only at hSw); go_simp; try with_reducible rfl)
  (try simp only [Act.put, List.setIfInBounds_toArray, List.set_cons_zero, List.set_cons_succ])
  refine wpAnyH_take (i := 19) (oi := ({ dst := some 36, op := Op.move (Operand.tmp 35), type := 4, pos := "law.go:42", after := #[{ on := 18, ground := Ground.data }, { on := 16, ground := Ground.chain }], guard := none } : Oper)) (v := ?_) rfl (by kernel_rfl) (by kernel_rfl) (by kernel_rfl) (fun _ _ _ h => h) (Or.inl ⟨by rfl, ?_⟩) hS ?_
  rotate_left
  · (intro w hSw; (try dsimp only at hSw); go_simp; try with_reducible rfl)
  (try simp only [Act.put, List.setIfInBounds_toArray, List.set_cons_zero, List.set_cons_succ])
  refine wpAnyH_take (i := 20) (oi := ({ dst := some 37, op := Op.move (Operand.tmp 0), type := 25, pos := "law.go:42", after := #[{ on := 19, ground := Ground.guard }], guard := some (19, false) } : Oper)) (v := ?_) rfl (by kernel_rfl) (by kernel_rfl) (by kernel_rfl) (fun _ _ _ h => h) (Or.inl ⟨by rfl, ?_⟩) hS ?_
  rotate_left
  · (intro w hSw; (try dsimp only at hSw); go_simp; try with_reducible rfl)
  (try simp only [Act.put, List.setIfInBounds_toArray, List.set_cons_zero, List.set_cons_succ])
  refine wpAnyH_take (i := 22) (oi := ({ dst := some 39, op := Op.load 29 (Operand.tmp 3), type := 29, pos := "law.go:42", after := #[{ on := 19, ground := Ground.guard }], guard := some (19, false) } : Oper)) (v := ?_) rfl (by kernel_rfl) (by kernel_rfl) (by kernel_rfl) (fun _ _ _ h => h) (Or.inl ⟨by rfl, ?_⟩) hS ?_
  rotate_left
  · (intro w hSw; (try dsimp only at hSw); refine exec_load_db (.tmp 3) ?_ ?_ hSw <;> rfl)
  (try simp only [Act.put, List.setIfInBounds_toArray, List.set_cons_zero, List.set_cons_succ])
  refine rg_one 21 ({ dst := some 38, op := Op.call { callee := Callee.value (Operand.func 27), args := #[Operand.tmp 37], argTypes := #[25] }, type := 3, pos := "law.go:42", after := #[{ on := 20, ground := Ground.data }, { on := 19, ground := Ground.chain }, { on := 19, ground := Ground.guard }], guard := some (19, false) } : Oper) (by kernel_rfl) rfl (fun K hK => ?_)
  go_simp
  (go_at_call 27; (with_reducible refine (hH.out.waiting _ _ _ _ HS6.out.dk HG.out).mono ?_); rintro e w7 ⟨rfl, hb⟩; have HS7 := Lib.hid (HS6.out.next hH.out hb); have HB7 := Lib.hid (chain HB6.out hb))
  refine hK.out _ _ ?_ (fun hS1 => ?_)
  · (first | exact hS | exact hS.next hb)
  clear hK K hS; have hS := hS1; clear hS1
  (try simp only [Act.put, List.setIfInBounds_toArray, List.set_cons_zero, List.set_cons_succ])
  refine rg_one 23 ({ dst := some 40, op := Op.call { callee := Callee.value (Operand.func 42), args := #[Operand.tmp 39], argTypes := #[29] }, type := 3, pos := "law.go:42", after := #[{ on := 22, ground := Ground.data }, { on := 21, ground := Ground.chain }, { on := 19, ground := Ground.guard }], guard := some (19, false) } : Oper) (by kernel_rfl) rfl (fun K hK => ?_)
  go_simp
  (go_at_call 42; (with_reducible refine (rwaiting_any _ d _ HS7.out.rd HWT.out).mono ?_); rintro e w8 ⟨rfl, hb⟩; have HS8 := Lib.hid (HS7.out.next hH.out hb); have HB8 := Lib.hid (chain HB7.out hb))
  refine hK.out _ _ ?_ (fun hS1 => ?_)
  · (first | exact hS | exact hS.next hb)
  clear hK K hS; have hS := hS1; clear hS1
  (try simp only [Act.put, List.setIfInBounds_toArray, List.set_cons_zero, List.set_cons_succ])
  refine wpAnyH_take (i := 24) (oi := ({ dst := some 41, op := Op.binOp BinOp.neq 3 (Operand.tmp 38) (Operand.tmp 40) 3, type := 4, pos := "law.go:42", after := #[{ on := 21, ground := Ground.data }, { on := 23, ground := Ground.data }, { on := 19, ground := Ground.guard }], guard := some (19, false) } : Oper)) (v := ?_) rfl (by kernel_rfl) (by kernel_rfl) (by kernel_rfl) (fun _ _ _ h => h) (Or.inl ⟨by rfl, ?_⟩) hS ?_
  rotate_left
  · (intro w hSw; (try dsimp only at hSw); go_simp; try with_reducible rfl)
  (try simp only [Act.put, List.setIfInBounds_toArray, List.set_cons_zero, List.set_cons_succ])
  refine wpAnyH_take (i := 25) (oi := ({ dst := some 42, op := Op.pick (Operand.tmp 36) (Operand.const (Value.bool true)) (Operand.tmp 41), type := 4, pos := "law.go:42", after := #[{ on := 19, ground := Ground.data }, { on := 24, ground := Ground.data }], guard := none } : Oper)) (v := ?_) rfl (by kernel_rfl) (by kernel_rfl) (by kernel_rfl) (fun _ _ _ h => h) (Or.inl ⟨by rfl, ?_⟩) hS ?_
  rotate_left
  · (intro w hSw; (try dsimp only at hSw); go_simp; try with_reducible rfl)
  (try simp only [Act.put, List.setIfInBounds_toArray, List.set_cons_zero, List.set_cons_succ])
  refine wpAnyH_take (i := 26) (oi := ({ dst := some 43, op := Op.move (Operand.tmp 42), type := 4, pos := "law.go:42", after := #[{ on := 25, ground := Ground.data }, { on := 23, ground := Ground.chain }], guard := none } : Oper)) (v := ?_) rfl (by kernel_rfl) (by kernel_rfl) (by kernel_rfl) (fun _ _ _ h => h) (Or.inl ⟨by rfl, ?_⟩) hS ?_
  rotate_left
  · (intro w hSw; (try dsimp only at hSw); go_simp; try with_reducible rfl)
  (try simp only [Act.put, List.setIfInBounds_toArray, List.set_cons_zero, List.set_cons_succ])
  refine wpAnyH_take (i := 27) (oi := ({ dst := some 44, op := Op.move (Operand.tmp 5), type := 61, pos := "law.go:42", after := #[{ on := 26, ground := Ground.guard }], guard := some (26, false) } : Oper)) (v := ?_) rfl (by kernel_rfl) (by kernel_rfl) (by kernel_rfl) (fun _ _ _ h => h) (Or.inl ⟨by rfl, ?_⟩) hS ?_
  rotate_left
  · (intro w hSw; (try dsimp only at hSw); go_simp; try with_reducible rfl)
  (try simp only [Act.put, List.setIfInBounds_toArray, List.set_cons_zero, List.set_cons_succ])
  refine wpAnyH_take (i := 28) (oi := ({ dst := some 45, op := Op.call { callee := Callee.builtin Builtin.len, args := #[Operand.tmp 44], argTypes := #[61] }, type := 3, pos := "law.go:42", after := #[{ on := 27, ground := Ground.data }, { on := 26, ground := Ground.guard }], guard := some (26, false) } : Oper)) (v := ?_) rfl (by kernel_rfl) (by kernel_rfl) (by kernel_rfl) (fun _ _ _ h => h) (Or.inl ⟨by rfl, ?_⟩) hS ?_
  rotate_left
  · (intro w hSw; (try dsimp only at hSw); go_simp; try with_reducible rfl)
  (try simp only [Act.put, List.setIfInBounds_toArray, List.set_cons_zero, List.set_cons_succ])
  refine wpAnyH_take (i := 29) (oi := ({ dst := some 46, op := Op.fieldAddr 29 (Operand.tmp 3) 0, type := 0, pos := "law.go:42", after := #[{ on := 26, ground := Ground.guard }], guard := some (26, false) } : Oper)) (v := ?_) rfl (by kernel_rfl) (by kernel_rfl) (by kernel_rfl) (fun _ _ _ h => h) (Or.inl ⟨by rfl, ?_⟩) hS ?_
  rotate_left
  · (intro w hSw; (try dsimp only at hSw); go_simp; try with_reducible rfl)
  (try simp only [Act.put, List.setIfInBounds_toArray, List.set_cons_zero, List.set_cons_succ])
  refine wpAnyH_take (i := 30) (oi := ({ dst := some 47, op := Op.load 27 (Operand.tmp 46), type := 27, pos := "law.go:42", after := #[{ on := 29, ground := Ground.data }, { on := 26, ground := Ground.guard }], guard := some (26, false) } : Oper)) (v := ?_) rfl (by kernel_rfl) (by kernel_rfl) (by kernel_rfl) (fun _ _ _ h => h) (Or.inl ⟨by rfl, ?_⟩) hS ?_
  rotate_left
  · (intro w hSw; (try dsimp only at hSw); obtain ⟨z0, z1, z2, z3, z4, z5⟩ := hSw.six; go_simp; try with_reducible rfl)
  (try simp only [Act.put, List.setIfInBounds_toArray, List.set_cons_zero, List.set_cons_succ])
  refine wpAnyH_take (i := 31) (oi := ({ dst := some 48, op := Op.call { callee := Callee.builtin Builtin.len, args := #[Operand.tmp 47], argTypes := #[27] }, type := 3, pos := "law.go:42", after := #[{ on := 30, ground := Ground.data }, { on := 26, ground := Ground.guard }], guard := some (26, false) } : Oper)) (v := ?_) rfl (by kernel_rfl) (by kernel_rfl) (by kernel_rfl) (fun _ _ _ h => h) (Or.inl ⟨by rfl, ?_⟩) hS ?_
  rotate_left
  · (intro w hSw; (try dsimp only at hSw); go_simp; try with_reducible rfl)
  (try simp only [Act.put, List.setIfInBounds_toArray, List.set_cons_zero, List.set_cons_succ])
  refine wpAnyH_take (i := 32) (oi := ({ dst := some 49, op := Op.binOp BinOp.neq 3 (Operand.tmp 45) (Operand.tmp 48) 3, type := 4, pos := "law.go:42", after := #[{ on := 28, ground := Ground.data }, { on := 31, ground := Ground.data }, { on := 26, ground := Ground.guard }], guard := some (26, false) } : Oper)) (v := ?_) rfl (by kernel_rfl) (by kernel_rfl) (by kernel_rfl) (fun _ _ _ h => h) (Or.inl ⟨by rfl, ?_⟩) hS ?_
  rotate_left
  · (intro w hSw; (try dsimp only at hSw); go_simp; try with_reducible rfl)
  (try simp only [Act.put, List.setIfInBounds_toArray, List.set_cons_zero, List.set_cons_succ])
  refine wpAnyH_take (i := 33) (oi := ({ dst := some 50, op := Op.pick (Operand.tmp 43) (Operand.const (Value.bool true)) (Operand.tmp 49), type := 4, pos := "law.go:42", after := #[{ on := 26, ground := Ground.data }, { on := 32, ground := Ground.data }], guard := none } : Oper)) (v := ?_) rfl (by kernel_rfl) (by kernel_rfl) (by kernel_rfl) (fun _ _ _ h => h) (Or.inl ⟨by rfl, ?_⟩) hS ?_
  rotate_left
  · (intro w hSw; (try dsimp only at hSw); go_simp; try with_reducible rfl)
  (try simp only [Act.put, List.setIfInBounds_toArray, List.set_cons_zero, List.set_cons_succ])
  refine wpAnyH_take (i := 34) (oi := ({ dst := some 51, op := Op.move (Operand.tmp 50), type := 4, pos := "law.go:42", after := #[{ on := 33, ground := Ground.data }, { on := 26, ground := Ground.chain }], guard := none } : Oper)) (v := ?_) rfl (by kernel_rfl) (by kernel_rfl) (by kernel_rfl) (fun _ _ _ h => h) (Or.inl ⟨by rfl, ?_⟩) hS ?_
  rotate_left
  · (intro w hSw; (try dsimp only at hSw); go_simp; try with_reducible rfl)
  (try simp only [Act.put, List.setIfInBounds_toArray, List.set_cons_zero, List.set_cons_succ])
  refine wpAnyH_take (i := 35) (oi := ({ dst := some 52, op := Op.move (Operand.tmp 6), type := 41, pos := "law.go:42", after := #[{ on := 34, ground := Ground.guard }], guard := some (34, false) } : Oper)) (v := ?_) rfl (by kernel_rfl) (by kernel_rfl) (by kernel_rfl) (fun _ _ _ h => h) (Or.inl ⟨by rfl, ?_⟩) hS ?_
  rotate_left
  · (intro w hSw; (try dsimp only at hSw); go_simp; try with_reducible rfl)
  (try simp only [Act.put, List.setIfInBounds_toArray, List.set_cons_zero, List.set_cons_succ])
  refine wpAnyH_take (i := 36) (oi := ({ dst := some 53, op := Op.call { callee := Callee.builtin Builtin.len, args := #[Operand.tmp 52], argTypes := #[41] }, type := 3, pos := "law.go:42", after := #[{ on := 35, ground := Ground.data }, { on := 34, ground := Ground.guard }], guard := some (34, false) } : Oper)) (v := ?_) rfl (by kernel_rfl) (by kernel_rfl) (by kernel_rfl) (fun _ _ _ h => h) (Or.inl ⟨by rfl, ?_⟩) hS ?_
  rotate_left
  · (intro w hSw; (try dsimp only at hSw); go_simp; try with_reducible rfl)
  (try simp only [Act.put, List.setIfInBounds_toArray, List.set_cons_zero, List.set_cons_succ])
  refine wpAnyH_take (i := 37) (oi := ({ dst := some 54, op := Op.fieldAddr 29 (Operand.tmp 3) 0, type := 0, pos := "law.go:42", after := #[{ on := 34, ground := Ground.guard }], guard := some (34, false) } : Oper)) (v := ?_) rfl (by kernel_rfl) (by kernel_rfl) (by kernel_rfl) (fun _ _ _ h => h) (Or.inl ⟨by rfl, ?_⟩) hS ?_
  rotate_left
  · (intro w hSw; (try dsimp only at hSw); go_simp; try with_reducible rfl)
  (try simp only [Act.put, List.setIfInBounds_toArray, List.set_cons_zero, List.set_cons_succ])
  refine wpAnyH_take (i := 38) (oi := ({ dst := some 55, op := Op.load 27 (Operand.tmp 54), type := 27, pos := "law.go:42", after := #[{ on := 37, ground := Ground.data }, { on := 34, ground := Ground.guard }], guard := some (34, false) } : Oper)) (v := ?_) rfl (by kernel_rfl) (by kernel_rfl) (by kernel_rfl) (fun _ _ _ h => h) (Or.inl ⟨by rfl, ?_⟩) hS ?_
  rotate_left
  · (intro w hSw; (try dsimp only at hSw); obtain ⟨z0, z1, z2, z3, z4, z5⟩ := hSw.six; go_simp; try with_reducible rfl)
  (try simp only [Act.put, List.setIfInBounds_toArray, List.set_cons_zero, List.set_cons_succ])
  refine wpAnyH_take (i := 39) (oi := ({ dst := some 56, op := Op.call { callee := Callee.builtin Builtin.len, args := #[Operand.tmp 55], argTypes := #[27] }, type := 3, pos := "law.go:42", after := #[{ on := 38, ground := Ground.data }, { on := 34, ground := Ground.guard }], guard := some (34, false) } : Oper)) (v := ?_) rfl (by kernel_rfl) (by kernel_rfl) (by kernel_rfl) (fun _ _ _ h => h) (Or.inl ⟨by rfl, ?_⟩) hS ?_
  rotate_left
  · (intro w hSw; (try dsimp only at hSw); go_simp; try with_reducible rfl)
  (try simp only [Act.put, List.setIfInBounds_toArray, List.set_cons_zero, List.set_cons_succ])
  refine wpAnyH_take (i := 40) (oi := ({ dst := some 57, op := Op.binOp BinOp.neq 3 (Operand.tmp 53) (Operand.tmp 56) 3, type := 4, pos := "law.go:42", after := #[{ on := 36, ground := Ground.data }, { on := 39, ground := Ground.data }, { on := 34, ground := Ground.guard }], guard := some (34, false) } : Oper)) (v := ?_) rfl (by kernel_rfl) (by kernel_rfl) (by kernel_rfl) (fun _ _ _ h => h) (Or.inl ⟨by rfl, ?_⟩) hS ?_
  rotate_left
  · (intro w hSw; (try dsimp only at hSw); go_simp; try with_reducible rfl)
  (try simp only [Act.put, List.setIfInBounds_toArray, List.set_cons_zero, List.set_cons_succ])
  refine wpAnyH_take (i := 41) (oi := ({ dst := some 58, op := Op.pick (Operand.tmp 51) (Operand.const (Value.bool true)) (Operand.tmp 57), type := 4, pos := "law.go:42", after := #[{ on := 34, ground := Ground.data }, { on := 40, ground := Ground.data }], guard := none } : Oper)) (v := ?_) rfl (by kernel_rfl) (by kernel_rfl) (by kernel_rfl) (fun _ _ _ h => h) (Or.inl ⟨by rfl, ?_⟩) hS ?_
  rotate_left
  · (intro w hSw; (try dsimp only at hSw); go_simp; try with_reducible rfl)
  (try simp only [Act.put, List.setIfInBounds_toArray, List.set_cons_zero, List.set_cons_succ])
  refine wpAnyH_done (by kernel_rfl) ?_ _
  have HL8 := Lib.hid (HL2.out.below HB8.out)
  have HF8 := Lib.hid (HF2.out.below HB8.out)
  clear hS
  go_wp2
  go_loopw [7] (fun iv wr => ∃ i : Nat, iv = .int .i64 i ∧ i ≤ n ∧ Hid (SaS DK w p F #[.slice a n c, .int .i64 d.cap, .int .i64 d.ops, .bool d.down, .bool d.told, .int .i64 d.after] d wr) ∧ Hid (SS wr (.slice a1 n c1) d.names) ∧ Hid (LA wr (.slice a2 n c2) d.files)) (fun iv _ => n - (intOf iv).toNat)
  case atStart => exact ⟨0, rfl, by omega, HS8, HL8, HF8⟩
  case round =>
    obtain ⟨i, rfl, hi, HS, HL, HF⟩ := hrel
    by_cases hlt : (i : Int) < (n : Int)
    · obtain ⟨f, hf⟩ : ∃ f, d.L[i]? = some f := row_some (by rw [HN.out]; omega)
      have hgf := HG.out.file f (List.mem_of_getElem? hf)
      obtain ⟨b, off, x1, y1, x2, y2, x3, y3, rfl, k0, k1, k2, k3, f1, f2, f3⟩ := HS.out.rd.fls.form4 i f hf
      obtain ⟨b1, off1, rfl, l0⟩ := HL.out.at_ i f.name (by simp [AD.names, hf])
      obtain ⟨b2, off2, u1, v1, rfl, m0, m1, m2⟩ := HF.out.at_ i (f.name, f.n, f.las) (by simp [AD.files, hf])
      obtain ⟨z0, z1, z2, z3, z4, z5⟩ := HS.out.d0.six
      have HF1 := Lib.hid f1
      have HF2' := Lib.hid m2
      have hfn : (f.n : Int) ≤ 64 := by have := hgf.n64; omega
      have HFI := Lib.hid hf
      have HSZ : Hid (∀ w, DK w p F d → Calls Try.prog 23 #[ptr p, .string f.name] w fun e w' => e = .returned (.int .i64 (f.n : Int)) ∧ Below w.heap.size w w') := Lib.hid fun w h => by
        have := hH.out.size w p F d f.name h HG.out (right_size hgf.name); rwa [HG.out.size_at hf] at this
      obtain ⟨r, hr⟩ : ∃ r, d.readR f.name 0 f.n = r := ⟨_, rfl⟩
      obtain ⟨fs, nn, er⟩ := r
      have HRP : Hid (∀ w, DK w p F d → Calls Try.prog 16 #[ptr p, .string f.name, .int .i64 0, .int .i64 f.n] w fun e w2 => ∃ v, e = .returned (.tuple #[v, .int .i64 er]) ∧ FS w2 v nn fs ∧ Below w.heap.size w w2) := Lib.hid fun w h => by
        have := hH.out.read w p F d f.name 0 f.n h HG.out (right_size hgf.name) (by unfold I63; omega) (by unfold I63; omega); rwa [hr] at this
      have HRQ : Hid (∀ w v, RD w v d → Calls Try.prog 39 #[v, .string f.name, .int .i64 0, .int .i64 f.n] w fun e w2 => ∃ v2, e = .returned (.tuple #[v2, .int .i64 er]) ∧ FS w2 v2 nn fs ∧ Below w.heap.size w w2) := Lib.hid fun w v h2 => by
        have := rread_any noF v d f.name 0 f.n w (Foot.none _) (by rw [mask_none]; exact h2) (by unfold I63; omega) (by unfold I63; omega) (get_small HG.out _)
        rw [hr] at this
        exact this.mono fun e w' ⟨v', h3, h4, h5⟩ => ⟨v', h3, by rwa [mask_none] at h4, h5⟩
      simp only at HF2' m0 m1
      have HBX : Hid (Below wr.heap.size wr (wr.alloc (.cells #[.string f.name, .slice x1 f.n y1, .slice x2 f.n y2, .slice x3 f.n y3] 82))) := Lib.hid (below_alloc _ _)
      have hcx := fun j => cell_of_row (wr.alloc (.cells #[.string f.name, .slice x1 f.n y1, .slice x2 f.n y2, .slice x3 f.n y3] 82)) wr.heap.size j _ _ _ (heap_alloc_last wr _)
      have HCX := Lib.hid (And.intro (hcx 0) (And.intro (hcx 1) (And.intro (hcx 2) (And.intro (hcx 3) (And.intro (cell_keep HBX.out l0) (And.intro (cell_keep HBX.out m0) (cell_keep HBX.out m1)))))))
      clear f1 f2 f3 m2 hf hgf hr hcx
      go_wp2_with fail
      obtain ⟨wx, hwx⟩ : ∃ wx, wr.alloc (.cells #[.string f.name, .slice x1 f.n y1, .slice x2 f.n y2, .slice x3 f.n y3] 82) = wx := ⟨_, rfl⟩
      rw [hwx] at HBX HCX ⊢
      have HSX := Lib.hid (HS.out.next hH.out HBX.out)
      have HBD : Hid (Below wx.heap.size wx wx.drew) := Lib.hid (Below.refl _ _).drew
      have HSXD := Lib.hid (HSX.out.next hH.out HBD.out)
      clear k0 k1 k2 k3 l0 m0 m1 z0 z1 z2 z3 z4 z5 hwx
      refine wp_region_held_drew (S := (fun W' => Below wx.heap.size wx W')) (by kernel_rfl) HBD.out (fun hS => ?_)
      refine wpAnyH_take (i := 0) (oi := ({ dst := some 70, op := Op.move (Operand.tmp 5), type := 61, pos := "law.go:47", after := #[], guard := none } : Oper)) (v := ?_) rfl (by kernel_rfl) (by kernel_rfl) (by kernel_rfl) (fun _ _ _ h => h) (Or.inl ⟨by rfl, ?_⟩) hS ?_
      rotate_left
      · (intro w hSw; (try dsimp only at hSw); go_simp; try with_reducible rfl)
      (try simp only [Act.put, List.setIfInBounds_toArray, List.set_cons_zero, List.set_cons_succ])
      refine wpAnyH_take (i := 1) (oi := ({ dst := some 71, op := Op.move (Operand.tmp 7), type := 3, pos := "law.go:47", after := #[], guard := none } : Oper)) (v := ?_) rfl (by kernel_rfl) (by kernel_rfl) (by kernel_rfl) (fun _ _ _ h => h) (Or.inl ⟨by rfl, ?_⟩) hS ?_
      rotate_left
      · (intro w hSw; (try dsimp only at hSw); go_simp; try with_reducible rfl)
      (try simp only [Act.put, List.setIfInBounds_toArray, List.set_cons_zero, List.set_cons_succ])
      refine wpAnyH_take (i := 2) (oi := ({ dst := some 72, op := Op.indexAddr 61 (Operand.tmp 70) (Operand.tmp 71), type := 0, pos := "law.go:47", after := #[{ on := 0, ground := Ground.data }, { on := 1, ground := Ground.data }], guard := none } : Oper)) (v := ?_) rfl (by kernel_rfl) (by kernel_rfl) (by kernel_rfl) (fun _ _ _ h => h) (Or.inl ⟨by rfl, ?_⟩) hS ?_
      rotate_left
      · (intro w hSw; (try dsimp only at hSw); go_simp; try with_reducible rfl)
      (try simp only [Act.put, List.setIfInBounds_toArray, List.set_cons_zero, List.set_cons_succ])
      refine wpAnyH_take (i := 3) (oi := ({ dst := some 73, op := Op.load 9 (Operand.tmp 72), type := 9, pos := "law.go:47", after := #[{ on := 2, ground := Ground.data }], guard := none } : Oper)) (v := ?_) rfl (by kernel_rfl) (by kernel_rfl) (by kernel_rfl) (fun _ _ _ h => h) (Or.inl ⟨by rfl, ?_⟩) hS ?_
      rotate_left
      · (intro w hSw; (try dsimp only at hSw); obtain ⟨z0, z1, z2, z3, z4, z5, z6⟩ := HCX.out; have z0' := cell_keep hSw z0; have z1' := cell_keep hSw z1; have z2' := cell_keep hSw z2; have z3' := cell_keep hSw z3; have z4' := cell_keep hSw z4; have z5' := cell_keep hSw z5; have z6' := cell_keep hSw z6; go_simp; try with_reducible rfl)
      (try simp only [Act.put, List.setIfInBounds_toArray, List.set_cons_zero, List.set_cons_succ])
      refine wpAnyH_take (i := 4) (oi := ({ dst := some 74, op := Op.fieldAddr 82 (Operand.tmp 8) 0, type := 0, pos := "law.go:47", after := #[], guard := none } : Oper)) (v := ?_) rfl (by kernel_rfl) (by kernel_rfl) (by kernel_rfl) (fun _ _ _ h => h) (Or.inl ⟨by rfl, ?_⟩) hS ?_
      rotate_left
      · (intro w hSw; (try dsimp only at hSw); go_simp; try with_reducible rfl)
      (try simp only [Act.put, List.setIfInBounds_toArray, List.set_cons_zero, List.set_cons_succ])
      refine wpAnyH_take (i := 5) (oi := ({ dst := some 75, op := Op.load 9 (Operand.tmp 74), type := 9, pos := "law.go:47", after := #[{ on := 4, ground := Ground.data }], guard := none } : Oper)) (v := ?_) rfl (by kernel_rfl) (by kernel_rfl) (by kernel_rfl) (fun _ _ _ h => h) (Or.inl ⟨by rfl, ?_⟩) hS ?_
      rotate_left
      · (intro w hSw; (try dsimp only at hSw); obtain ⟨z0, z1, z2, z3, z4, z5, z6⟩ := HCX.out; have z0' := cell_keep hSw z0; have z1' := cell_keep hSw z1; have z2' := cell_keep hSw z2; have z3' := cell_keep hSw z3; have z4' := cell_keep hSw z4; have z5' := cell_keep hSw z5; have z6' := cell_keep hSw z6; go_simp; try with_reducible rfl)
      (try simp only [Act.put, List.setIfInBounds_toArray, List.set_cons_zero, List.set_cons_succ])
      refine wpAnyH_take (i := 6) (oi := ({ dst := some 76, op := Op.binOp BinOp.neq 9 (Operand.tmp 73) (Operand.tmp 75) 9, type := 4, pos := "law.go:47", after := #[{ on := 3, ground := Ground.data }, { on := 5, ground := Ground.data }], guard := none } : Oper)) (v := ?_) rfl (by kernel_rfl) (by kernel_rfl) (by kernel_rfl) (fun _ _ _ h => h) (Or.inl ⟨by rfl, ?_⟩) hS ?_
      rotate_left
      · (intro w hSw; (try dsimp only at hSw); go_simp; try with_reducible rfl)
      (try simp only [Act.put, List.setIfInBounds_toArray, List.set_cons_zero, List.set_cons_succ])
      refine wpAnyH_take (i := 7) (oi := ({ dst := some 77, op := Op.move (Operand.tmp 76), type := 4, pos := "law.go:47", after := #[{ on := 6, ground := Ground.data }], guard := none } : Oper)) (v := ?_) rfl (by kernel_rfl) (by kernel_rfl) (by kernel_rfl) (fun _ _ _ h => h) (Or.inl ⟨by rfl, ?_⟩) hS ?_
      rotate_left
      · (intro w hSw; (try dsimp only at hSw); go_simp; try with_reducible rfl)
      (try simp only [Act.put, List.setIfInBounds_toArray, List.set_cons_zero, List.set_cons_succ])
      refine wpAnyH_take (i := 8) (oi := ({ dst := some 78, op := Op.move (Operand.tmp 6), type := 41, pos := "law.go:47", after := #[{ on := 7, ground := Ground.guard }], guard := some (7, false) } : Oper)) (v := ?_) rfl (by kernel_rfl) (by kernel_rfl) (by kernel_rfl) (fun _ _ _ h => h) (Or.inl ⟨by rfl, ?_⟩) hS ?_
      rotate_left
      · (intro w hSw; (try dsimp only at hSw); go_simp; try with_reducible rfl)
      (try simp only [Act.put, List.setIfInBounds_toArray, List.set_cons_zero, List.set_cons_succ])
      refine wpAnyH_take (i := 9) (oi := ({ dst := some 79, op := Op.move (Operand.tmp 7), type := 3, pos := "law.go:47", after := #[{ on := 7, ground := Ground.guard }], guard := some (7, false) } : Oper)) (v := ?_) rfl (by kernel_rfl) (by kernel_rfl) (by kernel_rfl) (fun _ _ _ h => h) (Or.inl ⟨by rfl, ?_⟩) hS ?_
      rotate_left
      · (intro w hSw; (try dsimp only at hSw); go_simp; try with_reducible rfl)
      (try simp only [Act.put, List.setIfInBounds_toArray, List.set_cons_zero, List.set_cons_succ])
      refine wpAnyH_take (i := 10) (oi := ({ dst := some 80, op := Op.indexAddr 41 (Operand.tmp 78) (Operand.tmp 79), type := 0, pos := "law.go:47", after := #[{ on := 8, ground := Ground.data }, { on := 9, ground := Ground.data }, { on := 7, ground := Ground.guard }], guard := some (7, false) } : Oper)) (v := ?_) rfl (by kernel_rfl) (by kernel_rfl) (by kernel_rfl) (fun _ _ _ h => h) (Or.inl ⟨by rfl, ?_⟩) hS ?_
      rotate_left
      · (intro w hSw; (try dsimp only at hSw); go_simp; try with_reducible rfl)
      (try simp only [Act.put, List.setIfInBounds_toArray, List.set_cons_zero, List.set_cons_succ])
      refine wpAnyH_take (i := 11) (oi := ({ dst := some 81, op := Op.fieldAddr 44 (Operand.tmp 80) 0, type := 0, pos := "law.go:47", after := #[{ on := 10, ground := Ground.data }, { on := 7, ground := Ground.guard }], guard := some (7, false) } : Oper)) (v := ?_) rfl (by kernel_rfl) (by kernel_rfl) (by kernel_rfl) (fun _ _ _ h => h) (Or.inl ⟨by rfl, ?_⟩) hS ?_
      rotate_left
      · (intro w hSw; (try dsimp only at hSw); go_simp; try with_reducible rfl)
      (try simp only [Act.put, List.setIfInBounds_toArray, List.set_cons_zero, List.set_cons_succ])
      refine wpAnyH_take (i := 12) (oi := ({ dst := some 82, op := Op.load 9 (Operand.tmp 81), type := 9, pos := "law.go:47", after := #[{ on := 11, ground := Ground.data }, { on := 7, ground := Ground.guard }], guard := some (7, false) } : Oper)) (v := ?_) rfl (by kernel_rfl) (by kernel_rfl) (by kernel_rfl) (fun _ _ _ h => h) (Or.inl ⟨by rfl, ?_⟩) hS ?_
      rotate_left
      · (intro w hSw; (try dsimp only at hSw); obtain ⟨z0, z1, z2, z3, z4, z5, z6⟩ := HCX.out; have z0' := cell_keep hSw z0; have z1' := cell_keep hSw z1; have z2' := cell_keep hSw z2; have z3' := cell_keep hSw z3; have z4' := cell_keep hSw z4; have z5' := cell_keep hSw z5; have z6' := cell_keep hSw z6; go_simp; try with_reducible rfl)
      (try simp only [Act.put, List.setIfInBounds_toArray, List.set_cons_zero, List.set_cons_succ])
      refine wpAnyH_take (i := 13) (oi := ({ dst := some 83, op := Op.fieldAddr 82 (Operand.tmp 8) 0, type := 0, pos := "law.go:47", after := #[{ on := 7, ground := Ground.guard }], guard := some (7, false) } : Oper)) (v := ?_) rfl (by kernel_rfl) (by kernel_rfl) (by kernel_rfl) (fun _ _ _ h => h) (Or.inl ⟨by rfl, ?_⟩) hS ?_
      rotate_left
      · (intro w hSw; (try dsimp only at hSw); go_simp; try with_reducible rfl)
      (try simp only [Act.put, List.setIfInBounds_toArray, List.set_cons_zero, List.set_cons_succ])
      refine wpAnyH_take (i := 14) (oi := ({ dst := some 84, op := Op.load 9 (Operand.tmp 83), type := 9, pos := "law.go:47", after := #[{ on := 13, ground := Ground.data }, { on := 7, ground := Ground.guard }], guard := some (7, false) } : Oper)) (v := ?_) rfl (by kernel_rfl) (by kernel_rfl) (by kernel_rfl) (fun _ _ _ h => h) (Or.inl ⟨by rfl, ?_⟩) hS ?_
      rotate_left
      · (intro w hSw; (try dsimp only at hSw); obtain ⟨z0, z1, z2, z3, z4, z5, z6⟩ := HCX.out; have z0' := cell_keep hSw z0; have z1' := cell_keep hSw z1; have z2' := cell_keep hSw z2; have z3' := cell_keep hSw z3; have z4' := cell_keep hSw z4; have z5' := cell_keep hSw z5; have z6' := cell_keep hSw z6; go_simp; try with_reducible rfl)
      (try simp only [Act.put, List.setIfInBounds_toArray, List.set_cons_zero, List.set_cons_succ])
      refine wpAnyH_take (i := 15) (oi := ({ dst := some 85, op := Op.binOp BinOp.neq 9 (Operand.tmp 82) (Operand.tmp 84) 9, type := 4, pos := "law.go:47", after := #[{ on := 12, ground := Ground.data }, { on := 14, ground := Ground.data }, { on := 7, ground := Ground.guard }], guard := some (7, false) } : Oper)) (v := ?_) rfl (by kernel_rfl) (by kernel_rfl) (by kernel_rfl) (fun _ _ _ h => h) (Or.inl ⟨by rfl, ?_⟩) hS ?_
      rotate_left
      · (intro w hSw; (try dsimp only at hSw); go_simp; try with_reducible rfl)
      (try simp only [Act.put, List.setIfInBounds_toArray, List.set_cons_zero, List.set_cons_succ])
      refine wpAnyH_take (i := 16) (oi := ({ dst := some 86, op := Op.pick (Operand.tmp 77) (Operand.const (Value.bool true)) (Operand.tmp 85), type := 4, pos := "law.go:47", after := #[{ on := 7, ground := Ground.data }, { on := 15, ground := Ground.data }], guard := none } : Oper)) (v := ?_) rfl (by kernel_rfl) (by kernel_rfl) (by kernel_rfl) (fun _ _ _ h => h) (Or.inl ⟨by rfl, ?_⟩) hS ?_
      rotate_left
      · (intro w hSw; (try dsimp only at hSw); go_simp; try with_reducible rfl)
      (try simp only [Act.put, List.setIfInBounds_toArray, List.set_cons_zero, List.set_cons_succ])
      refine wpAnyH_take (i := 17) (oi := ({ dst := some 87, op := Op.move (Operand.tmp 86), type := 4, pos := "law.go:47", after := #[{ on := 16, ground := Ground.data }, { on := 7, ground := Ground.chain }], guard := none } : Oper)) (v := ?_) rfl (by kernel_rfl) (by kernel_rfl) (by kernel_rfl) (fun _ _ _ h => h) (Or.inl ⟨by rfl, ?_⟩) hS ?_
      rotate_left
      · (intro w hSw; (try dsimp only at hSw); go_simp; try with_reducible rfl)
      (try simp only [Act.put, List.setIfInBounds_toArray, List.set_cons_zero, List.set_cons_succ])
      refine wpAnyH_take (i := 18) (oi := ({ dst := some 88, op := Op.move (Operand.tmp 6), type := 41, pos := "law.go:47", after := #[{ on := 17, ground := Ground.guard }], guard := some (17, false) } : Oper)) (v := ?_) rfl (by kernel_rfl) (by kernel_rfl) (by kernel_rfl) (fun _ _ _ h => h) (Or.inl ⟨by rfl, ?_⟩) hS ?_
      rotate_left
      · (intro w hSw; (try dsimp only at hSw); go_simp; try with_reducible rfl)
      (try simp only [Act.put, List.setIfInBounds_toArray, List.set_cons_zero, List.set_cons_succ])
      refine wpAnyH_take (i := 19) (oi := ({ dst := some 89, op := Op.move (Operand.tmp 7), type := 3, pos := "law.go:47", after := #[{ on := 17, ground := Ground.guard }], guard := some (17, false) } : Oper)) (v := ?_) rfl (by kernel_rfl) (by kernel_rfl) (by kernel_rfl) (fun _ _ _ h => h) (Or.inl ⟨by rfl, ?_⟩) hS ?_
      rotate_left
      · (intro w hSw; (try dsimp only at hSw); go_simp; try with_reducible rfl)
      (try simp only [Act.put, List.setIfInBounds_toArray, List.set_cons_zero, List.set_cons_succ])
      refine wpAnyH_take (i := 20) (oi := ({ dst := some 90, op := Op.indexAddr 41 (Operand.tmp 88) (Operand.tmp 89), type := 0, pos := "law.go:47", after := #[{ on := 18, ground := Ground.data }, { on := 19, ground := Ground.data }, { on := 17, ground := Ground.guard }], guard := some (17, false) } : Oper)) (v := ?_) rfl (by kernel_rfl) (by kernel_rfl) (by kernel_rfl) (fun _ _ _ h => h) (Or.inl ⟨by rfl, ?_⟩) hS ?_
      rotate_left
      · (intro w hSw; (try dsimp only at hSw); go_simp; try with_reducible rfl)
      (try simp only [Act.put, List.setIfInBounds_toArray, List.set_cons_zero, List.set_cons_succ])
      refine wpAnyH_take (i := 21) (oi := ({ dst := some 91, op := Op.fieldAddr 44 (Operand.tmp 90) 1, type := 0, pos := "law.go:47", after := #[{ on := 20, ground := Ground.data }, { on := 17, ground := Ground.guard }], guard := some (17, false) } : Oper)) (v := ?_) rfl (by kernel_rfl) (by kernel_rfl) (by kernel_rfl) (fun _ _ _ h => h) (Or.inl ⟨by rfl, ?_⟩) hS ?_
      rotate_left
      · (intro w hSw; (try dsimp only at hSw); go_simp; try with_reducible rfl)
      (try simp only [Act.put, List.setIfInBounds_toArray, List.set_cons_zero, List.set_cons_succ])
      refine wpAnyH_take (i := 22) (oi := ({ dst := some 92, op := Op.load 42 (Operand.tmp 91), type := 42, pos := "law.go:47", after := #[{ on := 21, ground := Ground.data }, { on := 17, ground := Ground.guard }], guard := some (17, false) } : Oper)) (v := ?_) rfl (by kernel_rfl) (by kernel_rfl) (by kernel_rfl) (fun _ _ _ h => h) (Or.inl ⟨by rfl, ?_⟩) hS ?_
      rotate_left
      · (intro w hSw; (try dsimp only at hSw); obtain ⟨z0, z1, z2, z3, z4, z5, z6⟩ := HCX.out; have z0' := cell_keep hSw z0; have z1' := cell_keep hSw z1; have z2' := cell_keep hSw z2; have z3' := cell_keep hSw z3; have z4' := cell_keep hSw z4; have z5' := cell_keep hSw z5; have z6' := cell_keep hSw z6; go_simp; try with_reducible rfl)
      (try simp only [Act.put, List.setIfInBounds_toArray, List.set_cons_zero, List.set_cons_succ])
      refine wpAnyH_take (i := 23) (oi := ({ dst := some 93, op := Op.fieldAddr 82 (Operand.tmp 8) 1, type := 0, pos := "law.go:47", after := #[{ on := 17, ground := Ground.guard }], guard := some (17, false) } : Oper)) (v := ?_) rfl (by kernel_rfl) (by kernel_rfl) (by kernel_rfl) (fun _ _ _ h => h) (Or.inl ⟨by rfl, ?_⟩) hS ?_
      rotate_left
      · (intro w hSw; (try dsimp only at hSw); go_simp; try with_reducible rfl)
      (try simp only [Act.put, List.setIfInBounds_toArray, List.set_cons_zero, List.set_cons_succ])
      refine wpAnyH_take (i := 24) (oi := ({ dst := some 94, op := Op.load 42 (Operand.tmp 93), type := 42, pos := "law.go:47", after := #[{ on := 23, ground := Ground.data }, { on := 17, ground := Ground.guard }], guard := some (17, false) } : Oper)) (v := ?_) rfl (by kernel_rfl) (by kernel_rfl) (by kernel_rfl) (fun _ _ _ h => h) (Or.inl ⟨by rfl, ?_⟩) hS ?_
      rotate_left
      · (intro w hSw; (try dsimp only at hSw); obtain ⟨z0, z1, z2, z3, z4, z5, z6⟩ := HCX.out; have z0' := cell_keep hSw z0; have z1' := cell_keep hSw z1; have z2' := cell_keep hSw z2; have z3' := cell_keep hSw z3; have z4' := cell_keep hSw z4; have z5' := cell_keep hSw z5; have z6' := cell_keep hSw z6; go_simp; try with_reducible rfl)
      (try simp only [Act.put, List.setIfInBounds_toArray, List.set_cons_zero, List.set_cons_succ])
      refine rg_one 25 ({ dst := some 95, op := Op.call { callee := Callee.value (Operand.func 40), args := #[Operand.tmp 92, Operand.tmp 94], argTypes := #[42, 42] }, type := 4, pos := "law.go:47", after := #[{ on := 22, ground := Ground.data }, { on := 24, ground := Ground.data }, { on := 17, ground := Ground.chain }, { on := 17, ground := Ground.guard }], guard := some (17, false) } : Oper) (by kernel_rfl) rfl (fun K hK => ?_)
      go_simp
      (go_at_call 40; (with_reducible refine (same_true _ _ f.n f.las _ ((HF2'.out.keep HBX.out).keep HBD.out) ((HF1.out.keep HBX.out).keep HBD.out)).mono ?_); rintro e w3 ⟨rfl, hb⟩; have HS3 := Lib.hid (HSXD.out.next hH.out hb))
      refine hK.out _ _ ?_ (fun hS1 => ?_)
      · (first | exact hS | exact chain hS hb)
      clear hK K hS; have hS := hS1; clear hS1
      (try simp only [Act.put, List.setIfInBounds_toArray, List.set_cons_zero, List.set_cons_succ])
      refine wpAnyH_take (i := 26) (oi := ({ dst := some 96, op := Op.unOp UnOp.not 4 (Operand.tmp 95), type := 4, pos := "law.go:47", after := #[{ on := 25, ground := Ground.data }, { on := 17, ground := Ground.guard }], guard := some (17, false) } : Oper)) (v := ?_) rfl (by kernel_rfl) (by kernel_rfl) (by kernel_rfl) (fun _ _ _ h => h) (Or.inl ⟨by rfl, ?_⟩) hS ?_
      rotate_left
      · (intro w hSw; (try dsimp only at hSw); go_simp; try with_reducible rfl)
      (try simp only [Act.put, List.setIfInBounds_toArray, List.set_cons_zero, List.set_cons_succ])
      refine wpAnyH_take (i := 27) (oi := ({ dst := some 97, op := Op.pick (Operand.tmp 87) (Operand.const (Value.bool true)) (Operand.tmp 96), type := 4, pos := "law.go:47", after := #[{ on := 17, ground := Ground.data }, { on := 26, ground := Ground.data }], guard := none } : Oper)) (v := ?_) rfl (by kernel_rfl) (by kernel_rfl) (by kernel_rfl) (fun _ _ _ h => h) (Or.inl ⟨by rfl, ?_⟩) hS ?_
      rotate_left
      · (intro w hSw; (try dsimp only at hSw); go_simp; try with_reducible rfl)
      (try simp only [Act.put, List.setIfInBounds_toArray, List.set_cons_zero, List.set_cons_succ])
      refine wpAnyH_take (i := 28) (oi := ({ dst := some 98, op := Op.move (Operand.tmp 97), type := 4, pos := "law.go:47", after := #[{ on := 27, ground := Ground.data }, { on := 25, ground := Ground.chain }], guard := none } : Oper)) (v := ?_) rfl (by kernel_rfl) (by kernel_rfl) (by kernel_rfl) (fun _ _ _ h => h) (Or.inl ⟨by rfl, ?_⟩) hS ?_
      rotate_left
      · (intro w hSw; (try dsimp only at hSw); go_simp; try with_reducible rfl)
      (try simp only [Act.put, List.setIfInBounds_toArray, List.set_cons_zero, List.set_cons_succ])
      refine wpAnyH_take (i := 29) (oi := ({ dst := some 99, op := Op.move (Operand.tmp 0), type := 25, pos := "law.go:47", after := #[{ on := 28, ground := Ground.guard }], guard := some (28, false) } : Oper)) (v := ?_) rfl (by kernel_rfl) (by kernel_rfl) (by kernel_rfl) (fun _ _ _ h => h) (Or.inl ⟨by rfl, ?_⟩) hS ?_
      rotate_left
      · (intro w hSw; (try dsimp only at hSw); go_simp; try with_reducible rfl)
      (try simp only [Act.put, List.setIfInBounds_toArray, List.set_cons_zero, List.set_cons_succ])
      refine wpAnyH_take (i := 30) (oi := ({ dst := some 100, op := Op.fieldAddr 82 (Operand.tmp 8) 0, type := 0, pos := "law.go:47", after := #[{ on := 28, ground := Ground.guard }], guard := some (28, false) } : Oper)) (v := ?_) rfl (by kernel_rfl) (by kernel_rfl) (by kernel_rfl) (fun _ _ _ h => h) (Or.inl ⟨by rfl, ?_⟩) hS ?_
      rotate_left
      · (intro w hSw; (try dsimp only at hSw); go_simp; try with_reducible rfl)
      (try simp only [Act.put, List.setIfInBounds_toArray, List.set_cons_zero, List.set_cons_succ])
      refine wpAnyH_take (i := 31) (oi := ({ dst := some 101, op := Op.load 9 (Operand.tmp 100), type := 9, pos := "law.go:47", after := #[{ on := 30, ground := Ground.data }, { on := 28, ground := Ground.guard }], guard := some (28, false) } : Oper)) (v := ?_) rfl (by kernel_rfl) (by kernel_rfl) (by kernel_rfl) (fun _ _ _ h => h) (Or.inl ⟨by rfl, ?_⟩) hS ?_
      rotate_left
      · (intro w hSw; (try dsimp only at hSw); obtain ⟨z0, z1, z2, z3, z4, z5, z6⟩ := HCX.out; have z0' := cell_keep hSw z0; have z1' := cell_keep hSw z1; have z2' := cell_keep hSw z2; have z3' := cell_keep hSw z3; have z4' := cell_keep hSw z4; have z5' := cell_keep hSw z5; have z6' := cell_keep hSw z6; go_simp; try with_reducible rfl)
      (try simp only [Act.put, List.setIfInBounds_toArray, List.set_cons_zero, List.set_cons_succ])
      refine wpAnyH_take (i := 33) (oi := ({ dst := some 103, op := Op.fieldAddr 82 (Operand.tmp 8) 2, type := 0, pos := "law.go:47", after := #[{ on := 28, ground := Ground.guard }], guard := some (28, false) } : Oper)) (v := ?_) rfl (by kernel_rfl) (by kernel_rfl) (by kernel_rfl) (fun _ _ _ h => h) (Or.inl ⟨by rfl, ?_⟩) hS ?_
      rotate_left
      · (intro w hSw; (try dsimp only at hSw); go_simp; try with_reducible rfl)
      (try simp only [Act.put, List.setIfInBounds_toArray, List.set_cons_zero, List.set_cons_succ])
      refine wpAnyH_take (i := 34) (oi := ({ dst := some 104, op := Op.load 42 (Operand.tmp 103), type := 42, pos := "law.go:47", after := #[{ on := 33, ground := Ground.data }, { on := 28, ground := Ground.guard }], guard := some (28, false) } : Oper)) (v := ?_) rfl (by kernel_rfl) (by kernel_rfl) (by kernel_rfl) (fun _ _ _ h => h) (Or.inl ⟨by rfl, ?_⟩) hS ?_
      rotate_left
      · (intro w hSw; (try dsimp only at hSw); obtain ⟨z0, z1, z2, z3, z4, z5, z6⟩ := HCX.out; have z0' := cell_keep hSw z0; have z1' := cell_keep hSw z1; have z2' := cell_keep hSw z2; have z3' := cell_keep hSw z3; have z4' := cell_keep hSw z4; have z5' := cell_keep hSw z5; have z6' := cell_keep hSw z6; go_simp; try with_reducible rfl)
      (try simp only [Act.put, List.setIfInBounds_toArray, List.set_cons_zero, List.set_cons_succ])
      refine wpAnyH_take (i := 35) (oi := ({ dst := some 105, op := Op.call { callee := Callee.builtin Builtin.len, args := #[Operand.tmp 104], argTypes := #[42] }, type := 3, pos := "law.go:47", after := #[{ on := 34, ground := Ground.data }, { on := 28, ground := Ground.guard }], guard := some (28, false) } : Oper)) (v := ?_) rfl (by kernel_rfl) (by kernel_rfl) (by kernel_rfl) (fun _ _ _ h => h) (Or.inl ⟨by rfl, ?_⟩) hS ?_
      rotate_left
      · (intro w hSw; (try dsimp only at hSw); go_simp; try with_reducible rfl)
      (try simp only [Act.put, List.setIfInBounds_toArray, List.set_cons_zero, List.set_cons_succ])
      refine rg_one 32 ({ dst := some 102, op := Op.call { callee := Callee.value (Operand.func 23), args := #[Operand.tmp 99, Operand.tmp 101], argTypes := #[25, 9] }, type := 3, pos := "law.go:47", after := #[{ on := 29, ground := Ground.data }, { on := 31, ground := Ground.data }, { on := 28, ground := Ground.chain }, { on := 28, ground := Ground.guard }], guard := some (28, false) } : Oper) (by kernel_rfl) rfl (fun K hK => ?_)
      go_simp
      (go_at_call 23; (with_reducible refine (HSZ.out _ HS3.out.dk).mono ?_); rintro e w4 ⟨rfl, hb⟩; have HS4 := Lib.hid (HS3.out.next hH.out hb))
      refine hK.out _ _ ?_ (fun hS1 => ?_)
      · (first | exact hS | exact chain hS hb)
      clear hK K hS; have hS := hS1; clear hS1
      (try simp only [Act.put, List.setIfInBounds_toArray, List.set_cons_zero, List.set_cons_succ])
      refine wpAnyH_take (i := 36) (oi := ({ dst := some 106, op := Op.binOp BinOp.neq 3 (Operand.tmp 102) (Operand.tmp 105) 3, type := 4, pos := "law.go:47", after := #[{ on := 32, ground := Ground.data }, { on := 35, ground := Ground.data }, { on := 28, ground := Ground.guard }], guard := some (28, false) } : Oper)) (v := ?_) rfl (by kernel_rfl) (by kernel_rfl) (by kernel_rfl) (fun _ _ _ h => h) (Or.inl ⟨by rfl, ?_⟩) hS ?_
      rotate_left
      · (intro w hSw; (try dsimp only at hSw); go_simp; try with_reducible rfl)
      (try simp only [Act.put, List.setIfInBounds_toArray, List.set_cons_zero, List.set_cons_succ])
      refine wpAnyH_take (i := 37) (oi := ({ dst := some 107, op := Op.pick (Operand.tmp 98) (Operand.const (Value.bool true)) (Operand.tmp 106), type := 4, pos := "law.go:47", after := #[{ on := 28, ground := Ground.data }, { on := 36, ground := Ground.data }], guard := none } : Oper)) (v := ?_) rfl (by kernel_rfl) (by kernel_rfl) (by kernel_rfl) (fun _ _ _ h => h) (Or.inl ⟨by rfl, ?_⟩) hS ?_
      rotate_left
      · (intro w hSw; (try dsimp only at hSw); go_simp; try with_reducible rfl)
      (try simp only [Act.put, List.setIfInBounds_toArray, List.set_cons_zero, List.set_cons_succ])
      refine wpAnyH_done (by kernel_rfl) ?_ _
      have HB4 := Lib.hid hS
      obtain ⟨z0, z1, z2, z3, z4, z5, z6⟩ := HCX.out
      have z0' := cell_keep hS z0
      have z2' := cell_keep hS z2
      clear hS z0 z1 z2 z3 z4 z5 z6
      go_wp2_with (first
        | (go_at_call 40; (with_reducible refine (same_true _ _ nn fs _ HR5.out HR6.out).mono ?_); rintro e w7 ⟨rfl, hb⟩; have HS7 := Lib.hid (HS6.out.next hH.out hb); have HB7 := Lib.hid (chain HB6.out hb); clear hb)
        | (go_at_call 39; (with_reducible refine (HRQ.out _ _ HS5.out.rd).mono ?_); rintro e w6 ⟨v6, rfl, hf, hb⟩; have HS6 := Lib.hid (HS5.out.next hH.out hb); have HR5 := Lib.hid (HF5.out.keep hb); have HR6 := Lib.hid hf; have HB6 := Lib.hid (chain HB5.out hb); clear hf hb)
        | (refine wpList_load_row rfl 29 _ rfl w.heap.size rfl _ _ (0, 0) _ HS5.out.d0.1 Try.underlying29 rfl HS5.out.d0.info ?_)
        | (go_at_call 16; (with_reducible refine (HRP.out _ HS4.out.dk).mono ?_); rintro e w5 ⟨v5, rfl, hf, hb⟩; have HS5 := Lib.hid (HS4.out.next hH.out hb); have HF5 := Lib.hid hf; have HB5 := Lib.hid (chain HB4.out hb); have z0'' := cell_keep hb z0'; have z2'' := cell_keep hb z2'; clear hf hb))
      go_roundw
      case rel =>
        have HBR := Lib.hid (chain HBX.out HB7.out)
        exact ⟨i + 1, by go_num, by omega, HS7, Lib.hid (HL.out.below HBR.out), Lib.hid (HF.out.below HBR.out)⟩
      case measure => simp [intOf]; omega
    · have hq : i = n := by omega
      subst hq
      go_wp2
      go_ret
      exact ⟨rfl, HS.out.below⟩
end Go.Proofs.Ytpnialanmidekaa
