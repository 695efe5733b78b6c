/-
  WALKS OF THE LAWS OF LAYER 13 (frag): FragDecodes; awake. The table of half a byte's steps must lie in its block as start-up lays it.
-/
import Derived.Test.YtkomlapgjblnlaaDoorFragDec
import Derived.Test.YtkomlapgjblnlaaDoorFragDecR
import Derived.Lib.SlBytesConst
namespace Go.Proofs.YtkomlapgjblnlaaDoor
open Go.RowKit
theorem awake_enc {w : World} (ht : Tab w) : Calls Tryd.prog 6 #[.agg (fA 1 7 (.slice (some ⟨w.heap.size, 0, none⟩) 1 1))] (w.alloc (.cells #[.int .u8 120] 5 (1, 2))) fun r w' =>
    ∃ p c, r = .returned (.tuple #[.slice p 12 c, .int .i64 0]) ∧ RI .u8 w' (.slice p 12 c) 12 (fragB 1 7 [120]) ∧ Below w.heap.size w w' := by
  have hb : Below w.heap.size w (w.alloc (.cells #[.int .u8 120] 5 (1, 2))) := (Below.refl _ _).alloc (Nat.le_refl _) _
  exact (fenc_right 1 7 _ 1 1 [120] _ (ht.keep hb) (by decide) (by omega) (RI.const w 5 .u8 [120] (1, 2) 1 rfl (by omega)) (fun x hx => by simp at hx; omega)).mono fun _ _ ⟨p, c, h1, h2, h3⟩ => ⟨p, c, h1, h2, bch hb h3⟩
/-- what a Decode tells, in parts -/
theorem decf_form {zs : List Int} {ep : Int} {r : FR} {s : Nat} {x : Int} (hz : fragD zs ep = (r, s, x)) {w : World} {e : Ending} {w' : World} (h : DecF zs ep w e w') :
    ∃ a n c, e = .returned (.tuple #[.agg (fA r.kind r.epoch (.slice a n c)), .int .i64 s, .int .i64 x]) ∧ RI .u8 w' (.slice a n c) n r.data ∧ n = r.data.length ∧ Below w.heap.size w w' := by
  obtain ⟨a, n, c, he, ho, hb⟩ := h
  rw [hz] at he ho
  refine ⟨a, n, c, he, RI.own ho, ?_, hb⟩
  have := ho.1
  rw [il_length] at this
  dsimp only at this
  omega
theorem decf_short {zs : List Int} {ep : Int} {r : FR} {s : Nat} {x : Int} (hz : fragD zs ep = (r, s, x)) {w : World} {e : Ending} {w' : World} (h : DecF zs ep w e w') :
    ∃ a n c, e = .returned (.tuple #[.agg (fA r.kind r.epoch (.slice a n c)), .int .i64 s, .int .i64 x]) ∧ RI .u8 w' (.slice a n c) n r.data ∧ Below w.heap.size w w' := by
  obtain ⟨a, n, c, h1, h2, _, h3⟩ := decf_form hz h
  exact ⟨a, n, c, h1, h2, h3⟩
theorem awake_dec {w : World} (ht : Tab w) (p : Option Addr) (c : Nat) (hr : RI .u8 w (.slice p 12 c) 12 (fragB 1 7 [120])) : Calls Tryd.prog 11 #[.slice p 12 c, .int .u32 7] w fun r w' =>
    ∃ a' c', r = .returned (.tuple #[.agg (fA 1 7 (.slice a' 1 c')), .int .i64 12, .int .i64 0]) ∧ (convert 23 9 (.slice a' 1 c')).run Tryd.prog w' = .ok (.string ⟨#[120]⟩) w' ∧ RI .u8 w' (.slice a' 1 c') 1 [120] ∧ Below w.heap.size w w' := by
  have hz := frag_got (k := 1) (e := 7) (d := [120]) [] (by decide) (by omega)
  rw [List.append_nil] at hz
  exact (fdec_any _ 12 _ 7 w ht hr (fragB_bytes (by omega) 7 (fun x hx => by simp at hx; omega))).mono fun _ _ h => by
    obtain ⟨a, n, c, h1, h2, rfl, h4⟩ := decf_form hz h
    exact ⟨a, c, h1, (conv_ri h2).trans rfl, h2, h4⟩
set_option maxRecDepth 8000 in
set_option maxHeartbeats 1000000 in
theorem awake_any {w : World} (ht : Tab w) : Calls Tryd.prog 8 #[] w fun e w' => e = .returned (.bool true) ∧ Below w.heap.size w w' := by
  have HT := Lib.hid ht; clear ht
  have kc := fun (w : World) (C : Array Value) (n c : Nat) => Lib.run_convert_bytes_const (P := Tryd.prog) w 23 5 C n c Tryd.underlying23 Tryd.underlying5
  go_enter Tryd.func8, Tryd.ntmps8
  go_wp2_with (first
    | (go_at_call 6; (with_reducible refine (awake_enc HT.out).mono ?_); rintro r w1 ⟨p1, c1, rfl, hr1, hb1⟩; have HR1 := Lib.hid hr1; have HB1 := Lib.hid hb1; clear hr1 hb1)
    | (go_at_call 11; (with_reducible refine (awake_dec (HT.out.keep HB1.out) _ _ HR1.out).mono ?_); rintro r w2 ⟨a2, c2, rfl, hc2, hr2, hb2⟩; have HR2 := Lib.hid hr2; have HB2 := Lib.hid (bch HB1.out hb2); clear hr2 hb2 hc2)
    | (refine wpList_store_row rfl 25 _ _ rfl w2.heap.size (fA 1 7 (.slice a2 1 c2)) rfl rfl _ _ (heap_alloc_last w2 _) (fr_info _ rfl) rfl (fr_one _ _ _ _ _) ?_; obtain ⟨w3, hw3⟩ : ∃ q, World.setRow (w2.alloc (.cells (fA 0 0 (.slice none 0 0)) 25)) w2.heap.size (fA 1 7 (.slice a2 1 c2)) = q := ⟨_, rfl⟩; rw [hw3]; have HB3 : Hid (Below w2.heap.size w2 w3) := Lib.hid (by rw [← hw3]; exact bnew _ _ _); have hF3 : FO w3 w2.heap.size 1 7 (.slice a2 1 c2) := (by rw [← hw3]; exact FO.new _); obtain ⟨x0, x1, x2⟩ := hF3.cells; have hq3 := (conv_ri (HR2.out.keep HB3.out)).trans (show _ = Result.ok (.string ⟨#[120]⟩) w3 from rfl); clear hw3 hF3))
  go_ret
  exact ⟨rfl, bch HB2.out HB3.out⟩
end Go.Proofs.YtkomlapgjblnlaaDoor
