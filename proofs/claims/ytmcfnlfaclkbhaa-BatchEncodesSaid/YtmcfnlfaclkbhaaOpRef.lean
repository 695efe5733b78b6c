/-
  WHAT THE DOCUMENT'S ANSWERS OF LAYER 10 (op) ANSWER: the reference's Right, Bytes, Get, Same. No condition of ours but bounds on lengths.
-/
import Derived.Test.YtmcfnlfaclkbhaaFieldPk
import Derived.Test.YtmcfnlfaclkbhaaRegion
import Derived.Test.YtmcfnlfaclkbhaaText
import Derived.Deep.WholeRow
namespace Go.Proofs.Ytmcfnlfaclkbhaa
open Go.RowKit
/-- an operation -/
structure AO where
  kind : Int
  key : ByteArray
  val : ByteArray
abbrev opV (o : AO) : Value := .agg #[.int .i64 o.kind, .string o.key, .string o.val]
def opRight (k : Int) (s t : ByteArray) : Bool := decide (1 ≤ s.size ∧ s.size ≤ 24 ∧ t.size ≤ 128 ∧ (k = 1 ∨ (k = 2 ∧ t.size = 0)))
set_option maxRecDepth 8000 in
set_option maxHeartbeats 1000000 in
theorem roright_any (k : Int) (s t : ByteArray) (w : World) :
    Calls Try.prog 18 #[.agg #[.int .i64 k, .string s, .string t]] w fun e w' => e = .returned (.bool (opRight k s t)) ∧ Below w.heap.size w w' := by
  by_cases h1 : 1 ≤ s.size ∧ s.size ≤ 24 ∧ t.size ≤ 128
  · obtain ⟨h1, h2, h3⟩ := h1
    obtain ⟨e1, e2, e3⟩ := empty_no (t := s) (by omega)
    have h2' : ¬ 24 < (s.size : Int) := by omega
    have h3' : ¬ 128 < (t.size : Int) := by omega
    by_cases hk1 : k = 1
    · rw [show opRight k s t = true from by unfold opRight; simp [h1, h2, h3, hk1]]
      subst hk1
      go_enter Try.func18, Try.ntmps18
      go_wp2
      go_ret
      exact ⟨rfl, balloc _ _⟩
    · have hb1 : (k == 1) = false := by simpa using hk1
      by_cases hk2 : k = 2
      · subst hk2
        by_cases ht : t.size = 0
        · obtain rfl := size_zero ht
          rw [show opRight 2 s ⟨#[]⟩ = true from by unfold opRight; simp [h1, h2, ht]]
          go_enter Try.func18, Try.ntmps18
          go_wp2
          go_ret
          exact ⟨rfl, balloc _ _⟩
        · obtain ⟨g1, g2, g3⟩ := empty_no ht
          rw [show opRight 2 s t = false from by unfold opRight; simp [ht]]
          go_enter Try.func18, Try.ntmps18
          go_wp2
          go_ret
          exact ⟨rfl, balloc _ _⟩
      · have hb2 : (k == 2) = false := by simpa using hk2
        rw [show opRight k s t = false from by unfold opRight; simp [hk1, hk2]]
        go_enter Try.func18, Try.ntmps18
        go_wp2
        go_ret
        exact ⟨rfl, balloc _ _⟩
  · rw [show opRight k s t = false from by unfold opRight; exact decide_eq_false (fun h => h1 ⟨h.1, h.2.1, h.2.2.1⟩)]
    by_cases h2 : s.size = 0
    · obtain rfl := size_zero h2
      go_enter Try.func18, Try.ntmps18
      go_wp2
      go_ret
      exact ⟨rfl, balloc _ _⟩
    · obtain ⟨e1, e2, e3⟩ := empty_no h2
      by_cases h3 : 24 < (s.size : Int)
      · go_enter Try.func18, Try.ntmps18
        go_wp2
        go_ret
        exact ⟨rfl, balloc _ _⟩
      · have h4 : 128 < (t.size : Int) := by omega
        go_enter Try.func18, Try.ntmps18
        go_wp2
        go_ret
        exact ⟨rfl, balloc _ _⟩
/-- a list of one field -/
theorem RL_one {w : World} {fv : Value} {fl : Nat} {fs : List Int} (h : RI .u8 w fv fl fs) : RL .u8 (w.alloc (.cells #[fv] 24)) (.slice (some ⟨w.heap.size, 0, none⟩) 1 1) 1 [fs] := by
  refine ⟨[fv], ⟨_, 1, rfl, rfl, by omega, by omega, fun h => by simp at h, fun _ => ⟨_, 0, rfl, fun j hj => ?_⟩⟩, rfl, fun j e l he hl => ?_⟩
  · obtain rfl : j = 0 := by omega
    simp
  · match j, he, hl with
    | 0, he, hl =>
      simp at he hl
      subst he hl
      rw [h.length]
      exact h.keep ((Below.refl _ _).alloc (Nat.le_refl _) _)
    | j + 1, he, _ => simp at he
def opB (k : Int) (s t : ByteArray) : List Int := [k] ++ pk [sl s] ++ if k = 1 then pk [sl t] else []
set_option maxRecDepth 8000 in
set_option maxHeartbeats 4000000 in
theorem robytes_any (k : Int) (s t : ByteArray) (w : World) (hk : k = 1 ∨ k = 2) (hs : s.size ≤ 1000) (ht : t.size ≤ 1000) :
    Calls Try.prog 20 #[.agg #[.int .i64 k, .string s, .string t]] w fun e w' => ∃ v', e = .returned v' ∧ w'.ownsRow w.heap.size 5 1 v' (opB k s t).length (il .u8 (opB k s t)) ∧ Below w.heap.size w w' := by
  have hwk : IntKind.u8.wrap k = k := by rcases hk with rfl | rfl <;> rfl
  have HPL : Hid ((pk [sl s]).length ≤ 70000) := Lib.hid (by have := pk_len [sl s]; simpa using Nat.le_trans this (by simp))
  have HPT : Hid ((pk [sl t]).length ≤ 70000) := Lib.hid (by have := pk_len [sl t]; simpa using Nat.le_trans this (by simp))
  have hcx := fun j => cell_of_row (w.alloc (.cells #[.int .i64 k, .string s, .string t] 36)) w.heap.size j _ _ _ (heap_alloc_last w (.cells #[.int .i64 k, .string s, .string t] 36))
  have HCX : Hid ((w.alloc (.cells #[.int .i64 k, .string s, .string t] 36)).cell? ⟨w.heap.size, 0, none⟩ = some (.int .i64 k) ∧ (w.alloc (.cells #[.int .i64 k, .string s, .string t] 36)).cell? ⟨w.heap.size, 1, none⟩ = some (.string s) ∧ (w.alloc (.cells #[.int .i64 k, .string s, .string t] 36)).cell? ⟨w.heap.size, 2, none⟩ = some (.string t)) := Lib.hid ⟨hcx 0, hcx 1, hcx 2⟩
  clear hcx
  go_enter Try.func20, Try.ntmps20
  go_wp2
  refine wp_region_held_drew (S := (fun W' => Below (w.alloc (.cells #[.int .i64 k, .string s, .string t] 36)).heap.size (w.alloc (.cells #[.int .i64 k, .string s, .string t] 36)) W')) (by kernel_rfl) ((Below.refl _ _).drew) (fun hS => ?_)
  refine wpAnyH_take (i := 0) (oi := ({ dst := some 4, op := Op.fieldAddr 36 (Operand.tmp 1) 0, type := 0, pos := "ref.go:19", after := #[], guard := none } : Oper)) (v := ?_) rfl (by kernel_rfl) (by kernel_rfl) (by kernel_rfl) (fun _ _ _ h => h) (Or.inl ⟨by rfl, ?_⟩) hS ?_
  rotate_left
  · (intro w hSw; (try dsimp only at hSw); go_simp; try with_reducible rfl)
  (try simp only [Act.put, List.setIfInBounds_toArray, List.set_cons_zero, List.set_cons_succ])
  refine wpAnyH_take (i := 1) (oi := ({ dst := some 5, op := Op.load 3 (Operand.tmp 4), type := 3, pos := "ref.go:19", after := #[{ on := 0, ground := Ground.data }], guard := none } : Oper)) (v := ?_) rfl (by kernel_rfl) (by kernel_rfl) (by kernel_rfl) (fun _ _ _ h => h) (Or.inl ⟨by rfl, ?_⟩) hS ?_
  rotate_left
  · (intro w hSw; (try dsimp only at hSw); have z := cell_keep hSw HCX.out.1; go_simp; try with_reducible rfl)
  (try simp only [Act.put, List.setIfInBounds_toArray, List.set_cons_zero, List.set_cons_succ])
  refine wpAnyH_take (i := 2) (oi := ({ dst := some 6, op := Op.convert 3 5 (Operand.tmp 5), type := 5, pos := "ref.go:19", after := #[{ on := 1, ground := Ground.data }], guard := none } : Oper)) (v := ?_) rfl (by kernel_rfl) (by kernel_rfl) (by kernel_rfl) (fun _ _ _ h => h) (Or.inl ⟨by rfl, ?_⟩) hS ?_
  rotate_left
  · (intro w hSw; (try dsimp only at hSw); go_simp; try with_reducible rfl)
  (try simp only [Act.put, List.setIfInBounds_toArray, List.set_cons_zero, List.set_cons_succ])
  refine wpAnyH_take (i := 4) (oi := ({ dst := some 8, op := Op.fieldAddr 36 (Operand.tmp 1) 1, type := 0, pos := "ref.go:19", after := #[], guard := none } : Oper)) (v := ?_) rfl (by kernel_rfl) (by kernel_rfl) (by kernel_rfl) (fun _ _ _ h => h) (Or.inl ⟨by rfl, ?_⟩) hS ?_
  rotate_left
  · (intro w hSw; (try dsimp only at hSw); go_simp; try with_reducible rfl)
  (try simp only [Act.put, List.setIfInBounds_toArray, List.set_cons_zero, List.set_cons_succ])
  refine wpAnyH_take (i := 5) (oi := ({ dst := some 9, op := Op.load 9 (Operand.tmp 8), type := 9, pos := "ref.go:19", after := #[{ on := 4, ground := Ground.data }], guard := none } : Oper)) (v := ?_) rfl (by kernel_rfl) (by kernel_rfl) (by kernel_rfl) (fun _ _ _ h => h) (Or.inl ⟨by rfl, ?_⟩) hS ?_
  rotate_left
  · (intro w hSw; (try dsimp only at hSw); have z := cell_keep hSw HCX.out.2.1; go_simp; try with_reducible rfl)
  (try simp only [Act.put, List.setIfInBounds_toArray, List.set_cons_zero, List.set_cons_succ])
  refine rg_both 3 6 ({ dst := some 7, op := Op.buildSlice 24 1 #[(0, Operand.tmp 6)], type := 24, pos := "ref.go:19", after := #[{ on := 2, ground := Ground.data }], guard := none } : Oper) ({ dst := some 10, op := Op.convert 9 24 (Operand.tmp 9), type := 24, pos := "ref.go:19", after := #[{ on := 5, ground := Ground.data }], guard := none } : Oper) (by kernel_rfl) rfl rfl (fun K hK => ?_) (fun K hK => ?_)
  · skip
    go_simp
    obtain ⟨w3, hw3⟩ : ∃ w3, (World.alloc (w.alloc (.cells #[.int .i64 k, .string s, .string t] 36)) (.cells #[.int .u8 k] 5)).drew = w3 := ⟨_, rfl⟩; have hb3 : Below (World.heap (w.alloc (.cells #[.int .i64 k, .string s, .string t] 36)).drew).size (w.alloc (.cells #[.int .i64 k, .string s, .string t] 36)).drew w3 := (by rw [← hw3]; exact bdrew _ _); (try have HR6 := Lib.hid (HR6.out.keep hb3)); (try have HL7 := Lib.hid (HL7.out.keep hb3)); (try have HO8 := Lib.hid (own_keep HO8.out hb3)); have HO3 := Lib.hid (own_lit1d hw3 hS.size (b := w.heap.size + 1) (by simp)); rw [hw3]; (try clear hN); have hN := hS.trans (hb3.mono hS.size)
    refine hK.out _ _ ?_ (fun hS1 => ?_)
    · (first | exact hN | exact hS)
    clear hK K hS; have hS := hS1; clear hS1
    (try simp only [Act.put, List.setIfInBounds_toArray, List.set_cons_zero, List.set_cons_succ])
    refine rg_one 6 ({ dst := some 10, op := Op.convert 9 24 (Operand.tmp 9), type := 24, pos := "ref.go:19", after := #[{ on := 5, ground := Ground.data }], guard := none } : Oper) (by kernel_rfl) rfl (fun K hK => ?_)
    rw [if_pos (by rfl)]; refine wp_bytes_of (.tmp 9) rfl s (by omega) rfl ?_; intro v6 w6 hr6 hb6 hf6; obtain ⟨p6, c6, rfl⟩ : ∃ p c, v6 = .slice p s.size c := ⟨_, _, hf6.choose_spec⟩; clear hf6; (try have HL7 := Lib.hid (HL7.out.keep hb6)); (try have HO3 := Lib.hid (own_keep HO3.out hb6)); (try have HO8 := Lib.hid (own_keep HO8.out hb6)); have HR6 := Lib.hid hr6; clear hr6; (try clear hN); have hN := hS.trans (hb6.mono hS.size)
    refine hK.out _ _ ?_ (fun hS1 => ?_)
    · (first | exact hN | exact hS)
    clear hK K hS; have hS := hS1; clear hS1
    (try simp only [Act.put, List.setIfInBounds_toArray, List.set_cons_zero, List.set_cons_succ])
    refine rg_one 7 ({ dst := some 11, op := Op.buildSlice 45 1 #[(0, Operand.tmp 10)], type := 45, pos := "ref.go:19", after := #[{ on := 6, ground := Ground.data }], guard := none } : Oper) (by kernel_rfl) rfl (fun K hK => ?_)
    go_simp
    have hl7 := RL_one HR6.out; obtain ⟨w7, hw7⟩ : ∃ w7, World.alloc w6 (.cells #[.slice p6 s.size c6] 24) = w7 := ⟨_, rfl⟩; rw [hw7] at hl7; have hb7 : Below (World.heap w6).size w6 w7 := (by rw [← hw7]; exact balloc _ _); (try have HR6 := Lib.hid (HR6.out.keep hb7)); (try have HO3 := Lib.hid (own_keep HO3.out hb7)); (try have HO8 := Lib.hid (own_keep HO8.out hb7)); have HL7 := Lib.hid hl7; clear hl7; rw [hw7]; (try clear hN); have hN := hS.trans (hb7.mono hS.size)
    refine hK.out _ _ ?_ (fun hS1 => ?_)
    · (first | exact hN | exact hS)
    clear hK K hS; have hS := hS1; clear hS1
    (try simp only [Act.put, List.setIfInBounds_toArray, List.set_cons_zero, List.set_cons_succ])
    refine rg_one 8 ({ dst := some 12, op := Op.call { callee := Callee.value (Operand.func 29), args := #[Operand.tmp 11], argTypes := #[45] }, type := 24, pos := "ref.go:19", after := #[{ on := 7, ground := Ground.data }], guard := none } : Oper) (by kernel_rfl) rfl (fun K hK => ?_)
    go_simp
    (go_at_call 29; (with_reducible refine (rpack_any _ 1 [sl s] _ HL7.out (by omega)).mono ?_); rintro e w8 ⟨v8, rfl, ho8, hb8⟩; obtain ⟨p8, c8, rfl⟩ := own_form ho8; (try have HR6 := Lib.hid (HR6.out.keep hb8)); (try have HL7 := Lib.hid (HL7.out.keep hb8)); (try have HO3 := Lib.hid (own_keep HO3.out hb8)); have HO8 := Lib.hid ho8; clear ho8; (try clear hN); have hN := hS.trans (hb8.mono hS.size))
    refine hK.out _ _ ?_ (fun hS1 => ?_)
    · (first | exact hN | exact hS)
    clear hK K hS; have hS := hS1; clear hS1
    (try simp only [Act.put, List.setIfInBounds_toArray, List.set_cons_zero, List.set_cons_succ])
    refine rg_one 9 ({ dst := some 13, op := Op.call { callee := Callee.builtin Builtin.append, args := #[Operand.tmp 7, Operand.tmp 12], argTypes := #[24, 24] }, type := 24, pos := "ref.go:19", after := #[{ on := 3, ground := Ground.data }, { on := 8, ground := Ground.data }, { on := 8, ground := Ground.chain }], guard := none } : Oper) (by kernel_rfl) rfl (fun K hK => ?_)
    rw [if_pos (by rfl)]; refine wp_appn (.tmp 7) (.tmp 12) 24 rfl 5 .u8 1 Try.underlying24 Try.info_u8 (w.alloc (.cells #[.int .i64 k, .string s, .string t] 36)).heap.size _ 1 [k] rfl HO3.out _ (pk [sl s]).length (pk [sl s]) rfl (RI.own HO8.out) (by have := HPL.out; omega) (by have := HPL.out; omega) hS.size ?_; intro v9 w9 ho9 hg9 _; obtain ⟨p9, c9, rfl⟩ := own_form ho9; have HO9 := Lib.hid ho9; clear hN; have hN := hS.grown hg9 hS.size (fun k e => (HO3.out.lt k e).1)
    refine hK.out _ _ ?_ (fun hS1 => ?_)
    · (first | exact hN | exact hS)
    clear hK K hS; have hS := hS1; clear hS1
    (try simp only [Act.put, List.setIfInBounds_toArray, List.set_cons_zero, List.set_cons_succ])
    refine wpAnyH_take (i := 10) (oi := ({ dst := some 3, op := Op.assign (Operand.tmp 13), type := 24, pos := "ref.go:19", after := #[{ on := 9, ground := Ground.data }, { on := 9, ground := Ground.chain }, { on := 0, ground := Ground.phase }, { on := 1, ground := Ground.phase }, { on := 2, ground := Ground.phase }, { on := 3, ground := Ground.phase }, { on := 4, ground := Ground.phase }, { on := 5, ground := Ground.phase }, { on := 6, ground := Ground.phase }, { on := 7, ground := Ground.phase }, { on := 8, ground := Ground.phase }, { on := 9, ground := Ground.phase }], guard := none } : Oper)) (v := ?_) rfl (by kernel_rfl) (by kernel_rfl) (by kernel_rfl) (fun _ _ _ h => h) (Or.inl ⟨by rfl, ?_⟩) hS ?_
    rotate_left
    · (intro w hSw; (try dsimp only at hSw); go_simp; try with_reducible rfl)
    (try simp only [Act.put, List.setIfInBounds_toArray, List.set_cons_zero, List.set_cons_succ])
    refine wpAnyH_done (by kernel_rfl) ?_ _
    clear hN
    have HS9 := Lib.hid hS
    have z0 := cell_keep hS HCX.out.1
    have z2 := cell_keep hS HCX.out.2.2
    clear hS
    by_cases hk1 : k = 1
    · subst hk1
      have HLE : Hid (1 + (pk [sl s]).length + (pk [sl t]).length = (opB 1 s t).length) := Lib.hid (by simp [opB]; omega)
      go_wp2_with (first
        | (refine wpl_bytes_of rfl (.tmp 19) rfl t (by omega) rfl ?_; intro v10 w10 hr10 hb10 hf10; obtain ⟨p10, c10, rfl⟩ : ∃ p c, v10 = .slice p t.size c := ⟨_, _, hf10.choose_spec⟩; have HR10 := Lib.hid (RL_one hr10); have HO10 := Lib.hid (own_keep HO9.out (bch hb10 (balloc w10 (.cells #[.slice p10 t.size c10] 24)))); have HB10 := Lib.hid (HS9.out.trans ((bch hb10 (balloc w10 (.cells #[.slice p10 t.size c10] 24))).mono HS9.out.size)); clear hr10 hb10 hf10)
        | (go_at_call 29; (with_reducible refine (rpack_any _ 1 [sl t] _ HR10.out (by omega)).mono ?_); rintro e w11 ⟨v11, rfl, ho11, hb11⟩; obtain ⟨p11, c11, rfl⟩ := own_form ho11; have HR11 := Lib.hid (RI.own ho11); have HO11 := Lib.hid (own_keep HO10.out hb11); have HB11 := Lib.hid (HB10.out.trans (hb11.mono HB10.out.size)); clear ho11 hb11)
        | (at_builtin; refine wpl_appn rfl (.tmp 17) (.tmp 22) 24 rfl 5 .u8 1 Try.underlying24 Try.info_u8 _ _ _ _ rfl HO11 _ _ _ rfl HR11 (by have := HPL.out; have := HPT.out; omega) (by have := HPL.out; have := HPT.out; omega) _ _ HB11 (Nat.le_refl _) HB11.out.size ?_; intro v12 w12 HO12 HB12))
      go_ret
      have h5 := HO12.out
      rw [HLE.out] at h5
      exact ⟨_, rfl, own_mono h5 (by simp), (balloc _ _).trans (HB12.out.mono (by simp))⟩
    · have HLE : Hid (1 + (pk [sl s]).length = (opB k s t).length) := Lib.hid (by simp [opB, hk1]; omega)
      have HLX : Hid ([k] ++ pk [sl s] = opB k s t) := Lib.hid (by simp [opB, hk1])
      go_wp2
      go_ret
      refine ⟨_, rfl, ?_, (balloc _ _).trans (HS9.out.mono (by simp))⟩
      rw [← HLE.out, ← HLX.out]
      exact own_mono HO9.out (by simp)
  · skip
    rw [if_pos (by rfl)]; refine wp_bytes_of (.tmp 9) rfl s (by omega) rfl ?_; intro v6 w6 hr6 hb6 hf6; obtain ⟨p6, c6, rfl⟩ : ∃ p c, v6 = .slice p s.size c := ⟨_, _, hf6.choose_spec⟩; clear hf6; (try have HL7 := Lib.hid (HL7.out.keep hb6)); (try have HO3 := Lib.hid (own_keep HO3.out hb6)); (try have HO8 := Lib.hid (own_keep HO8.out hb6)); have HR6 := Lib.hid hr6; clear hr6; (try clear hN); have hN := hS.trans (hb6.mono hS.size)
    refine hK.out _ _ ?_ (fun hS1 => ?_)
    · (first | exact hN | exact hS)
    clear hK K hS; have hS := hS1; clear hS1
    (try simp only [Act.put, List.setIfInBounds_toArray, List.set_cons_zero, List.set_cons_succ])
    refine rg_both 3 7 ({ dst := some 7, op := Op.buildSlice 24 1 #[(0, Operand.tmp 6)], type := 24, pos := "ref.go:19", after := #[{ on := 2, ground := Ground.data }], guard := none } : Oper) ({ dst := some 11, op := Op.buildSlice 45 1 #[(0, Operand.tmp 10)], type := 45, pos := "ref.go:19", after := #[{ on := 6, ground := Ground.data }], guard := none } : Oper) (by kernel_rfl) rfl rfl (fun K hK => ?_) (fun K hK => ?_)
    · skip
      go_simp
      obtain ⟨w3, hw3⟩ : ∃ w3, World.alloc w6 (.cells #[.int .u8 k] 5) = w3 := ⟨_, rfl⟩; have hb3 : Below (World.heap w6).size w6 w3 := (by rw [← hw3]; exact balloc _ _); (try have HR6 := Lib.hid (HR6.out.keep hb3)); (try have HL7 := Lib.hid (HL7.out.keep hb3)); (try have HO8 := Lib.hid (own_keep HO8.out hb3)); have HO3 := Lib.hid (own_lit1 hw3 hS.size); rw [hw3]; (try clear hN); have hN := hS.trans (hb3.mono hS.size)
      refine hK.out _ _ ?_ (fun hS1 => ?_)
      · (first | exact hN | exact hS)
      clear hK K hS; have hS := hS1; clear hS1
      (try simp only [Act.put, List.setIfInBounds_toArray, List.set_cons_zero, List.set_cons_succ])
      refine rg_one 7 ({ dst := some 11, op := Op.buildSlice 45 1 #[(0, Operand.tmp 10)], type := 45, pos := "ref.go:19", after := #[{ on := 6, ground := Ground.data }], guard := none } : Oper) (by kernel_rfl) rfl (fun K hK => ?_)
      go_simp
      have hl7 := RL_one HR6.out; obtain ⟨w7, hw7⟩ : ∃ w7, World.alloc w3 (.cells #[.slice p6 s.size c6] 24) = w7 := ⟨_, rfl⟩; rw [hw7] at hl7; have hb7 : Below (World.heap w3).size w3 w7 := (by rw [← hw7]; exact balloc _ _); (try have HR6 := Lib.hid (HR6.out.keep hb7)); (try have HO3 := Lib.hid (own_keep HO3.out hb7)); (try have HO8 := Lib.hid (own_keep HO8.out hb7)); have HL7 := Lib.hid hl7; clear hl7; rw [hw7]; (try clear hN); have hN := hS.trans (hb7.mono hS.size)
      refine hK.out _ _ ?_ (fun hS1 => ?_)
      · (first | exact hN | exact hS)
      clear hK K hS; have hS := hS1; clear hS1
      (try simp only [Act.put, List.setIfInBounds_toArray, List.set_cons_zero, List.set_cons_succ])
      refine rg_one 8 ({ dst := some 12, op := Op.call { callee := Callee.value (Operand.func 29), args := #[Operand.tmp 11], argTypes := #[45] }, type := 24, pos := "ref.go:19", after := #[{ on := 7, ground := Ground.data }], guard := none } : Oper) (by kernel_rfl) rfl (fun K hK => ?_)
      go_simp
      (go_at_call 29; (with_reducible refine (rpack_any _ 1 [sl s] _ HL7.out (by omega)).mono ?_); rintro e w8 ⟨v8, rfl, ho8, hb8⟩; obtain ⟨p8, c8, rfl⟩ := own_form ho8; (try have HR6 := Lib.hid (HR6.out.keep hb8)); (try have HL7 := Lib.hid (HL7.out.keep hb8)); (try have HO3 := Lib.hid (own_keep HO3.out hb8)); have HO8 := Lib.hid ho8; clear ho8; (try clear hN); have hN := hS.trans (hb8.mono hS.size))
      refine hK.out _ _ ?_ (fun hS1 => ?_)
      · (first | exact hN | exact hS)
      clear hK K hS; have hS := hS1; clear hS1
      (try simp only [Act.put, List.setIfInBounds_toArray, List.set_cons_zero, List.set_cons_succ])
      refine rg_one 9 ({ dst := some 13, op := Op.call { callee := Callee.builtin Builtin.append, args := #[Operand.tmp 7, Operand.tmp 12], argTypes := #[24, 24] }, type := 24, pos := "ref.go:19", after := #[{ on := 3, ground := Ground.data }, { on := 8, ground := Ground.data }, { on := 8, ground := Ground.chain }], guard := none } : Oper) (by kernel_rfl) rfl (fun K hK => ?_)
      rw [if_pos (by rfl)]; refine wp_appn (.tmp 7) (.tmp 12) 24 rfl 5 .u8 1 Try.underlying24 Try.info_u8 (w.alloc (.cells #[.int .i64 k, .string s, .string t] 36)).heap.size _ 1 [k] rfl HO3.out _ (pk [sl s]).length (pk [sl s]) rfl (RI.own HO8.out) (by have := HPL.out; omega) (by have := HPL.out; omega) hS.size ?_; intro v9 w9 ho9 hg9 _; obtain ⟨p9, c9, rfl⟩ := own_form ho9; have HO9 := Lib.hid ho9; clear hN; have hN := hS.grown hg9 hS.size (fun k e => (HO3.out.lt k e).1)
      refine hK.out _ _ ?_ (fun hS1 => ?_)
      · (first | exact hN | exact hS)
      clear hK K hS; have hS := hS1; clear hS1
      (try simp only [Act.put, List.setIfInBounds_toArray, List.set_cons_zero, List.set_cons_succ])
      refine wpAnyH_take (i := 10) (oi := ({ dst := some 3, op := Op.assign (Operand.tmp 13), type := 24, pos := "ref.go:19", after := #[{ on := 9, ground := Ground.data }, { on := 9, ground := Ground.chain }, { on := 0, ground := Ground.phase }, { on := 1, ground := Ground.phase }, { on := 2, ground := Ground.phase }, { on := 3, ground := Ground.phase }, { on := 4, ground := Ground.phase }, { on := 5, ground := Ground.phase }, { on := 6, ground := Ground.phase }, { on := 7, ground := Ground.phase }, { on := 8, ground := Ground.phase }, { on := 9, ground := Ground.phase }], guard := none } : Oper)) (v := ?_) rfl (by kernel_rfl) (by kernel_rfl) (by kernel_rfl) (fun _ _ _ h => h) (Or.inl ⟨by rfl, ?_⟩) hS ?_
      rotate_left
      · (intro w hSw; (try dsimp only at hSw); go_simp; try with_reducible rfl)
      (try simp only [Act.put, List.setIfInBounds_toArray, List.set_cons_zero, List.set_cons_succ])
      refine wpAnyH_done (by kernel_rfl) ?_ _
      clear hN
      have HS9 := Lib.hid hS
      have z0 := cell_keep hS HCX.out.1
      have z2 := cell_keep hS HCX.out.2.2
      clear hS
      by_cases hk1 : k = 1
      · subst hk1
        have HLE : Hid (1 + (pk [sl s]).length + (pk [sl t]).length = (opB 1 s t).length) := Lib.hid (by simp [opB]; omega)
        go_wp2_with (first
          | (refine wpl_bytes_of rfl (.tmp 19) rfl t (by omega) rfl ?_; intro v10 w10 hr10 hb10 hf10; obtain ⟨p10, c10, rfl⟩ : ∃ p c, v10 = .slice p t.size c := ⟨_, _, hf10.choose_spec⟩; have HR10 := Lib.hid (RL_one hr10); have HO10 := Lib.hid (own_keep HO9.out (bch hb10 (balloc w10 (.cells #[.slice p10 t.size c10] 24)))); have HB10 := Lib.hid (HS9.out.trans ((bch hb10 (balloc w10 (.cells #[.slice p10 t.size c10] 24))).mono HS9.out.size)); clear hr10 hb10 hf10)
          | (go_at_call 29; (with_reducible refine (rpack_any _ 1 [sl t] _ HR10.out (by omega)).mono ?_); rintro e w11 ⟨v11, rfl, ho11, hb11⟩; obtain ⟨p11, c11, rfl⟩ := own_form ho11; have HR11 := Lib.hid (RI.own ho11); have HO11 := Lib.hid (own_keep HO10.out hb11); have HB11 := Lib.hid (HB10.out.trans (hb11.mono HB10.out.size)); clear ho11 hb11)
          | (at_builtin; refine wpl_appn rfl (.tmp 17) (.tmp 22) 24 rfl 5 .u8 1 Try.underlying24 Try.info_u8 _ _ _ _ rfl HO11 _ _ _ rfl HR11 (by have := HPL.out; have := HPT.out; omega) (by have := HPL.out; have := HPT.out; omega) _ _ HB11 (Nat.le_refl _) HB11.out.size ?_; intro v12 w12 HO12 HB12))
        go_ret
        have h5 := HO12.out
        rw [HLE.out] at h5
        exact ⟨_, rfl, own_mono h5 (by simp), (balloc _ _).trans (HB12.out.mono (by simp))⟩
      · have HLE : Hid (1 + (pk [sl s]).length = (opB k s t).length) := Lib.hid (by simp [opB, hk1]; omega)
        have HLX : Hid ([k] ++ pk [sl s] = opB k s t) := Lib.hid (by simp [opB, hk1])
        go_wp2
        go_ret
        refine ⟨_, rfl, ?_, (balloc _ _).trans (HS9.out.mono (by simp))⟩
        rw [← HLE.out, ← HLX.out]
        exact own_mono HO9.out (by simp)
    · skip
      go_simp
      have hl7 := RL_one HR6.out; obtain ⟨w7, hw7⟩ : ∃ w7, World.alloc w6 (.cells #[.slice p6 s.size c6] 24) = w7 := ⟨_, rfl⟩; rw [hw7] at hl7; have hb7 : Below (World.heap w6).size w6 w7 := (by rw [← hw7]; exact balloc _ _); (try have HR6 := Lib.hid (HR6.out.keep hb7)); (try have HO3 := Lib.hid (own_keep HO3.out hb7)); (try have HO8 := Lib.hid (own_keep HO8.out hb7)); have HL7 := Lib.hid hl7; clear hl7; rw [hw7]; (try clear hN); have hN := hS.trans (hb7.mono hS.size)
      refine hK.out _ _ ?_ (fun hS1 => ?_)
      · (first | exact hN | exact hS)
      clear hK K hS; have hS := hS1; clear hS1
      (try simp only [Act.put, List.setIfInBounds_toArray, List.set_cons_zero, List.set_cons_succ])
      refine rg_both 3 8 ({ dst := some 7, op := Op.buildSlice 24 1 #[(0, Operand.tmp 6)], type := 24, pos := "ref.go:19", after := #[{ on := 2, ground := Ground.data }], guard := none } : Oper) ({ dst := some 12, op := Op.call { callee := Callee.value (Operand.func 29), args := #[Operand.tmp 11], argTypes := #[45] }, type := 24, pos := "ref.go:19", after := #[{ on := 7, ground := Ground.data }], guard := none } : Oper) (by kernel_rfl) rfl rfl (fun K hK => ?_) (fun K hK => ?_)
      · skip
        go_simp
        obtain ⟨w3, hw3⟩ : ∃ w3, World.alloc w7 (.cells #[.int .u8 k] 5) = w3 := ⟨_, rfl⟩; have hb3 : Below (World.heap w7).size w7 w3 := (by rw [← hw3]; exact balloc _ _); (try have HR6 := Lib.hid (HR6.out.keep hb3)); (try have HL7 := Lib.hid (HL7.out.keep hb3)); (try have HO8 := Lib.hid (own_keep HO8.out hb3)); have HO3 := Lib.hid (own_lit1 hw3 hS.size); rw [hw3]; (try clear hN); have hN := hS.trans (hb3.mono hS.size)
        refine hK.out _ _ ?_ (fun hS1 => ?_)
        · (first | exact hN | exact hS)
        clear hK K hS; have hS := hS1; clear hS1
        (try simp only [Act.put, List.setIfInBounds_toArray, List.set_cons_zero, List.set_cons_succ])
        refine rg_one 8 ({ dst := some 12, op := Op.call { callee := Callee.value (Operand.func 29), args := #[Operand.tmp 11], argTypes := #[45] }, type := 24, pos := "ref.go:19", after := #[{ on := 7, ground := Ground.data }], guard := none } : Oper) (by kernel_rfl) rfl (fun K hK => ?_)
        go_simp
        (go_at_call 29; (with_reducible refine (rpack_any _ 1 [sl s] _ HL7.out (by omega)).mono ?_); rintro e w8 ⟨v8, rfl, ho8, hb8⟩; obtain ⟨p8, c8, rfl⟩ := own_form ho8; (try have HR6 := Lib.hid (HR6.out.keep hb8)); (try have HL7 := Lib.hid (HL7.out.keep hb8)); (try have HO3 := Lib.hid (own_keep HO3.out hb8)); have HO8 := Lib.hid ho8; clear ho8; (try clear hN); have hN := hS.trans (hb8.mono hS.size))
        refine hK.out _ _ ?_ (fun hS1 => ?_)
        · (first | exact hN | exact hS)
        clear hK K hS; have hS := hS1; clear hS1
        (try simp only [Act.put, List.setIfInBounds_toArray, List.set_cons_zero, List.set_cons_succ])
        refine rg_one 9 ({ dst := some 13, op := Op.call { callee := Callee.builtin Builtin.append, args := #[Operand.tmp 7, Operand.tmp 12], argTypes := #[24, 24] }, type := 24, pos := "ref.go:19", after := #[{ on := 3, ground := Ground.data }, { on := 8, ground := Ground.data }, { on := 8, ground := Ground.chain }], guard := none } : Oper) (by kernel_rfl) rfl (fun K hK => ?_)
        rw [if_pos (by rfl)]; refine wp_appn (.tmp 7) (.tmp 12) 24 rfl 5 .u8 1 Try.underlying24 Try.info_u8 (w.alloc (.cells #[.int .i64 k, .string s, .string t] 36)).heap.size _ 1 [k] rfl HO3.out _ (pk [sl s]).length (pk [sl s]) rfl (RI.own HO8.out) (by have := HPL.out; omega) (by have := HPL.out; omega) hS.size ?_; intro v9 w9 ho9 hg9 _; obtain ⟨p9, c9, rfl⟩ := own_form ho9; have HO9 := Lib.hid ho9; clear hN; have hN := hS.grown hg9 hS.size (fun k e => (HO3.out.lt k e).1)
        refine hK.out _ _ ?_ (fun hS1 => ?_)
        · (first | exact hN | exact hS)
        clear hK K hS; have hS := hS1; clear hS1
        (try simp only [Act.put, List.setIfInBounds_toArray, List.set_cons_zero, List.set_cons_succ])
        refine wpAnyH_take (i := 10) (oi := ({ dst := some 3, op := Op.assign (Operand.tmp 13), type := 24, pos := "ref.go:19", after := #[{ on := 9, ground := Ground.data }, { on := 9, ground := Ground.chain }, { on := 0, ground := Ground.phase }, { on := 1, ground := Ground.phase }, { on := 2, ground := Ground.phase }, { on := 3, ground := Ground.phase }, { on := 4, ground := Ground.phase }, { on := 5, ground := Ground.phase }, { on := 6, ground := Ground.phase }, { on := 7, ground := Ground.phase }, { on := 8, ground := Ground.phase }, { on := 9, ground := Ground.phase }], guard := none } : Oper)) (v := ?_) rfl (by kernel_rfl) (by kernel_rfl) (by kernel_rfl) (fun _ _ _ h => h) (Or.inl ⟨by rfl, ?_⟩) hS ?_
        rotate_left
        · (intro w hSw; (try dsimp only at hSw); go_simp; try with_reducible rfl)
        (try simp only [Act.put, List.setIfInBounds_toArray, List.set_cons_zero, List.set_cons_succ])
        refine wpAnyH_done (by kernel_rfl) ?_ _
        clear hN
        have HS9 := Lib.hid hS
        have z0 := cell_keep hS HCX.out.1
        have z2 := cell_keep hS HCX.out.2.2
        clear hS
        by_cases hk1 : k = 1
        · subst hk1
          have HLE : Hid (1 + (pk [sl s]).length + (pk [sl t]).length = (opB 1 s t).length) := Lib.hid (by simp [opB]; omega)
          go_wp2_with (first
            | (refine wpl_bytes_of rfl (.tmp 19) rfl t (by omega) rfl ?_; intro v10 w10 hr10 hb10 hf10; obtain ⟨p10, c10, rfl⟩ : ∃ p c, v10 = .slice p t.size c := ⟨_, _, hf10.choose_spec⟩; have HR10 := Lib.hid (RL_one hr10); have HO10 := Lib.hid (own_keep HO9.out (bch hb10 (balloc w10 (.cells #[.slice p10 t.size c10] 24)))); have HB10 := Lib.hid (HS9.out.trans ((bch hb10 (balloc w10 (.cells #[.slice p10 t.size c10] 24))).mono HS9.out.size)); clear hr10 hb10 hf10)
            | (go_at_call 29; (with_reducible refine (rpack_any _ 1 [sl t] _ HR10.out (by omega)).mono ?_); rintro e w11 ⟨v11, rfl, ho11, hb11⟩; obtain ⟨p11, c11, rfl⟩ := own_form ho11; have HR11 := Lib.hid (RI.own ho11); have HO11 := Lib.hid (own_keep HO10.out hb11); have HB11 := Lib.hid (HB10.out.trans (hb11.mono HB10.out.size)); clear ho11 hb11)
            | (at_builtin; refine wpl_appn rfl (.tmp 17) (.tmp 22) 24 rfl 5 .u8 1 Try.underlying24 Try.info_u8 _ _ _ _ rfl HO11 _ _ _ rfl HR11 (by have := HPL.out; have := HPT.out; omega) (by have := HPL.out; have := HPT.out; omega) _ _ HB11 (Nat.le_refl _) HB11.out.size ?_; intro v12 w12 HO12 HB12))
          go_ret
          have h5 := HO12.out
          rw [HLE.out] at h5
          exact ⟨_, rfl, own_mono h5 (by simp), (balloc _ _).trans (HB12.out.mono (by simp))⟩
        · have HLE : Hid (1 + (pk [sl s]).length = (opB k s t).length) := Lib.hid (by simp [opB, hk1]; omega)
          have HLX : Hid ([k] ++ pk [sl s] = opB k s t) := Lib.hid (by simp [opB, hk1])
          go_wp2
          go_ret
          refine ⟨_, rfl, ?_, (balloc _ _).trans (HS9.out.mono (by simp))⟩
          rw [← HLE.out, ← HLX.out]
          exact own_mono HO9.out (by simp)
      · skip
        go_simp
        (go_at_call 29; (with_reducible refine (rpack_any _ 1 [sl s] _ HL7.out (by omega)).mono ?_); rintro e w8 ⟨v8, rfl, ho8, hb8⟩; obtain ⟨p8, c8, rfl⟩ := own_form ho8; (try have HR6 := Lib.hid (HR6.out.keep hb8)); (try have HL7 := Lib.hid (HL7.out.keep hb8)); (try have HO3 := Lib.hid (own_keep HO3.out hb8)); have HO8 := Lib.hid ho8; clear ho8; (try clear hN); have hN := hS.trans (hb8.mono hS.size))
        refine hK.out _ _ ?_ (fun hS1 => ?_)
        · (first | exact hN | exact hS)
        clear hK K hS; have hS := hS1; clear hS1
        (try simp only [Act.put, List.setIfInBounds_toArray, List.set_cons_zero, List.set_cons_succ])
        refine rg_one 3 ({ dst := some 7, op := Op.buildSlice 24 1 #[(0, Operand.tmp 6)], type := 24, pos := "ref.go:19", after := #[{ on := 2, ground := Ground.data }], guard := none } : Oper) (by kernel_rfl) rfl (fun K hK => ?_)
        go_simp
        obtain ⟨w3, hw3⟩ : ∃ w3, World.alloc w8 (.cells #[.int .u8 k] 5) = w3 := ⟨_, rfl⟩; have hb3 : Below (World.heap w8).size w8 w3 := (by rw [← hw3]; exact balloc _ _); (try have HR6 := Lib.hid (HR6.out.keep hb3)); (try have HL7 := Lib.hid (HL7.out.keep hb3)); (try have HO8 := Lib.hid (own_keep HO8.out hb3)); have HO3 := Lib.hid (own_lit1 hw3 hS.size); rw [hw3]; (try clear hN); have hN := hS.trans (hb3.mono hS.size)
        refine hK.out _ _ ?_ (fun hS1 => ?_)
        · (first | exact hN | exact hS)
        clear hK K hS; have hS := hS1; clear hS1
        (try simp only [Act.put, List.setIfInBounds_toArray, List.set_cons_zero, List.set_cons_succ])
        refine rg_one 9 ({ dst := some 13, op := Op.call { callee := Callee.builtin Builtin.append, args := #[Operand.tmp 7, Operand.tmp 12], argTypes := #[24, 24] }, type := 24, pos := "ref.go:19", after := #[{ on := 3, ground := Ground.data }, { on := 8, ground := Ground.data }, { on := 8, ground := Ground.chain }], guard := none } : Oper) (by kernel_rfl) rfl (fun K hK => ?_)
        rw [if_pos (by rfl)]; refine wp_appn (.tmp 7) (.tmp 12) 24 rfl 5 .u8 1 Try.underlying24 Try.info_u8 (w.alloc (.cells #[.int .i64 k, .string s, .string t] 36)).heap.size _ 1 [k] rfl HO3.out _ (pk [sl s]).length (pk [sl s]) rfl (RI.own HO8.out) (by have := HPL.out; omega) (by have := HPL.out; omega) hS.size ?_; intro v9 w9 ho9 hg9 _; obtain ⟨p9, c9, rfl⟩ := own_form ho9; have HO9 := Lib.hid ho9; clear hN; have hN := hS.grown hg9 hS.size (fun k e => (HO3.out.lt k e).1)
        refine hK.out _ _ ?_ (fun hS1 => ?_)
        · (first | exact hN | exact hS)
        clear hK K hS; have hS := hS1; clear hS1
        (try simp only [Act.put, List.setIfInBounds_toArray, List.set_cons_zero, List.set_cons_succ])
        refine wpAnyH_take (i := 10) (oi := ({ dst := some 3, op := Op.assign (Operand.tmp 13), type := 24, pos := "ref.go:19", after := #[{ on := 9, ground := Ground.data }, { on := 9, ground := Ground.chain }, { on := 0, ground := Ground.phase }, { on := 1, ground := Ground.phase }, { on := 2, ground := Ground.phase }, { on := 3, ground := Ground.phase }, { on := 4, ground := Ground.phase }, { on := 5, ground := Ground.phase }, { on := 6, ground := Ground.phase }, { on := 7, ground := Ground.phase }, { on := 8, ground := Ground.phase }, { on := 9, ground := Ground.phase }], guard := none } : Oper)) (v := ?_) rfl (by kernel_rfl) (by kernel_rfl) (by kernel_rfl) (fun _ _ _ h => h) (Or.inl ⟨by rfl, ?_⟩) hS ?_
        rotate_left
        · (intro w hSw; (try dsimp only at hSw); go_simp; try with_reducible rfl)
        (try simp only [Act.put, List.setIfInBounds_toArray, List.set_cons_zero, List.set_cons_succ])
        refine wpAnyH_done (by kernel_rfl) ?_ _
        clear hN
        have HS9 := Lib.hid hS
        have z0 := cell_keep hS HCX.out.1
        have z2 := cell_keep hS HCX.out.2.2
        clear hS
        by_cases hk1 : k = 1
        · subst hk1
          have HLE : Hid (1 + (pk [sl s]).length + (pk [sl t]).length = (opB 1 s t).length) := Lib.hid (by simp [opB]; omega)
          go_wp2_with (first
            | (refine wpl_bytes_of rfl (.tmp 19) rfl t (by omega) rfl ?_; intro v10 w10 hr10 hb10 hf10; obtain ⟨p10, c10, rfl⟩ : ∃ p c, v10 = .slice p t.size c := ⟨_, _, hf10.choose_spec⟩; have HR10 := Lib.hid (RL_one hr10); have HO10 := Lib.hid (own_keep HO9.out (bch hb10 (balloc w10 (.cells #[.slice p10 t.size c10] 24)))); have HB10 := Lib.hid (HS9.out.trans ((bch hb10 (balloc w10 (.cells #[.slice p10 t.size c10] 24))).mono HS9.out.size)); clear hr10 hb10 hf10)
            | (go_at_call 29; (with_reducible refine (rpack_any _ 1 [sl t] _ HR10.out (by omega)).mono ?_); rintro e w11 ⟨v11, rfl, ho11, hb11⟩; obtain ⟨p11, c11, rfl⟩ := own_form ho11; have HR11 := Lib.hid (RI.own ho11); have HO11 := Lib.hid (own_keep HO10.out hb11); have HB11 := Lib.hid (HB10.out.trans (hb11.mono HB10.out.size)); clear ho11 hb11)
            | (at_builtin; refine wpl_appn rfl (.tmp 17) (.tmp 22) 24 rfl 5 .u8 1 Try.underlying24 Try.info_u8 _ _ _ _ rfl HO11 _ _ _ rfl HR11 (by have := HPL.out; have := HPT.out; omega) (by have := HPL.out; have := HPT.out; omega) _ _ HB11 (Nat.le_refl _) HB11.out.size ?_; intro v12 w12 HO12 HB12))
          go_ret
          have h5 := HO12.out
          rw [HLE.out] at h5
          exact ⟨_, rfl, own_mono h5 (by simp), (balloc _ _).trans (HB12.out.mono (by simp))⟩
        · have HLE : Hid (1 + (pk [sl s]).length = (opB k s t).length) := Lib.hid (by simp [opB, hk1]; omega)
          have HLX : Hid ([k] ++ pk [sl s] = opB k s t) := Lib.hid (by simp [opB, hk1])
          go_wp2
          go_ret
          refine ⟨_, rfl, ?_, (balloc _ _).trans (HS9.out.mono (by simp))⟩
          rw [← HLE.out, ← HLX.out]
          exact own_mono HO9.out (by simp)
end Go.Proofs.Ytmcfnlfaclkbhaa
