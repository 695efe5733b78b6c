/-
  WHAT THE DOCUMENT'S ANSWERS OF LAYER 8 (disk) ANSWER: the reference's Waiting.
-/
import Derived.Test.YtpnialanmidekaaDiskRef
namespace Go.Proofs.Ytpnialanmidekaa
open Go.RowKit
set_option maxRecDepth 8000 in
set_option maxHeartbeats 1000000 in
theorem rwaiting_any (vd : Value) (d : AD) (w : World) (h : RD w vd d) (hu : waitingN d.L ≤ 1000000000000) :
    Calls Try.prog 42 #[vd] w fun e w' => e = .returned (.int .i64 (waitingN d.L : Int)) ∧ Below w.heap.size w w' := by
  obtain ⟨vl, rfl, hl⟩ := h
  obtain ⟨a, cap, rfl, hc1, hc2, _⟩ := hl.form
  obtain ⟨n, hn⟩ : ∃ n, d.L.length = n := ⟨_, rfl⟩
  obtain ⟨W0, hW0⟩ : ∃ W0, w.alloc (.cells #[.slice a d.L.length cap, .int .i64 d.cap, .int .i64 d.ops, .bool d.down, .bool d.told, .int .i64 d.after] 29) = W0 := ⟨_, rfl⟩
  have hb : Below w.heap.size w W0 := by rw [← hW0]; exact below_alloc w _
  have hc0 : W0.cell? ⟨w.heap.size, 0, none⟩ = some (.slice a d.L.length cap) := by
    rw [← hW0]; exact cell_of_row _ w.heap.size 0 _ _ _ (heap_alloc_last w _)
  have HL := Lib.hid (hl.kin (Kin.below hb))
  have HB := Lib.hid hb
  have HN := Lib.hid hn
  have HU := Lib.hid hu
  rw [hn] at HL hc0 hc1 hW0
  unfold dv
  rw [hn]
  generalize d.cap = x1 at *
  generalize d.ops = x2 at *
  generalize d.down = x3 at *
  generalize d.told = x4 at *
  generalize d.after = x5 at *
  generalize d.L = L at *
  clear hb hl hu hn
  go_enter Try.func42, Try.ntmps42
  go_wp2
  go_loop [3, 4] (fun nv iv => ∃ i : Nat, iv = .int .i64 i ∧ i ≤ n ∧ nv = .int .i64 (waitingN (L.take i) : Int)) (fun _ iv => n - (intOf iv).toNat)
  case atStart => exact ⟨0, rfl, by omega, rfl⟩
  case round =>
    obtain ⟨i, rfl, hi, rfl⟩ := hrel
    by_cases hlt : (i : Int) < (n : Int)
    · obtain ⟨f, hf⟩ := row_some (L := L) (i := i) (by have := HN.out; omega)
      obtain ⟨b, off, v1, v2, v3, rfl, _, _, _, hcell, _, _, hf3⟩ := HL.out.at_ i f hf
      have HF3 := Lib.hid hf3
      have hbl := BS.length hf3
      obtain ⟨a3, c3, rfl, _, hm1, hm2, _⟩ := hf3
      have hst := waitingN_take L i f hf
      have hle1 := waitingN_le L (i + 1)
      obtain ⟨m, hm⟩ : ∃ m, f.n = m := ⟨_, rfl⟩
      obtain ⟨bs, hbs⟩ : ∃ bs, f.ws = bs := ⟨_, rfl⟩
      rw [hm, hbs] at HF3
      rw [hm] at hcell hbl hm1
      rw [hbs] at hst hbl
      obtain ⟨u, hu⟩ : ∃ u, waitingN (L.take i) = u := ⟨_, rfl⟩
      rw [hu] at hst ⊢
      have hle := HU.out
      have HST := Lib.hid hst
      have HBL := Lib.hid hbl
      have hub : u + waitsN bs ≤ 1000000000000 := by omega
      clear hst hu hm hbs hf hbl hle1 hle
      go_wp2
      go_loop [3, 5] (fun nv kv => ∃ k : Nat, kv = .int .i64 k ∧ k ≤ m ∧ nv = .int .i64 ((u + waitsN (bs.take k) : Nat) : Int)) (fun _ kv => m - (intOf kv).toNat)
      case atStart => exact ⟨0, rfl, by omega, rfl⟩
      case round =>
        obtain ⟨k, rfl, hk, rfl⟩ := hrel
        by_cases hlk : (k : Int) < (m : Int)
        · obtain ⟨b3, o3, rfl, hbw⟩ := HF3.out.at_ k (by omega)
          have HS1 := Lib.hid (waitsN_take bs k (by have := HBL.out; omega))
          have hwl := waitsN_le bs (k + 1)
          obtain ⟨q, hq⟩ : ∃ q, u + waitsN (bs.take k) = q := ⟨_, rfl⟩
          have HQ := Lib.hid hq
          cases hy : bs.getD k false with
          | false =>
            rw [hy] at hbw HS1
            clear hy hwl hq
            rw [HQ.out]
            go_wp2
            refine ⟨⟨k + 1, by go_num, by omega, ?_⟩, by simp [intOf]; omega⟩
            rw [HS1.out, if_neg (by simp), Nat.add_zero, HQ.out]
          | true =>
            rw [hy] at hbw HS1
            have hqb : q + 1 ≤ 1000000000000 := by have := HS1.out; rw [if_pos rfl] at this; omega
            clear hy hwl hq
            rw [HQ.out]
            go_wp2
            refine ⟨⟨k + 1, by go_num, by omega, ?_⟩, by simp [intOf]; omega⟩
            rw [HS1.out, if_pos rfl, ← Nat.add_assoc, HQ.out]
            first | rfl | (unfold wrap64; congr 1; omega)
        · have hq : k = m := by omega
          subst hq
          have HALL := Lib.hid (show bs.take k = bs from List.take_of_length_le (Nat.le_of_eq HBL.out))
          rw [HALL.out]
          go_wp2
          refine ⟨⟨i + 1, by go_num, by omega, ?_⟩, by simp [intOf]; omega⟩
          rw [HST.out]
    · have hq : i = n := by omega
      subst hq
      go_wp2
      go_ret
      refine ⟨ret_int ?_, HB.out⟩
      rw [List.take_of_length_le (Nat.le_of_eq HN.out)]
end Go.Proofs.Ytpnialanmidekaa
