/-
  LAYER 17 (image): what the program's Sectors answers, of any records that lie somewhere. The table of half a byte's steps must lie in its block as start-up lays it.
-/
import Derived.Test.YtjlnceldnbpapaaDoorImgBody
import Derived.Test.YtjlnceldnbpapaaDoorJPlan
import Derived.Test.YtjlnceldnbpapaaDoorImgSecF
namespace Go.Proofs.YtjlnceldnbpapaaDoor
open Go.RowKit
theorem body_yes {w : World} {ls : List (List Int)} {e32 : Int} {fn : Nat} {args : Array Value} (h : Calls Tryd.prog fn args w (BodyF w ls e32)) (hf : fitsF ls = true) :
    Calls Tryd.prog fn args w fun e w' => ∃ g, e = .returned (.tuple #[.slice (some ⟨g, 0, none⟩) 832 832, .int .i64 (endF ls : Nat), .bool true]) ∧ YB w' g (bodyF e32 ls) ∧ w.heap.size ≤ g ∧ Below w.heap.size w w' :=
  h.mono fun e w' h => by
    rcases h with ⟨_, h⟩ | ⟨h, _⟩
    · exact h
    · rw [hf] at h; cases h
theorem body_not {w : World} {ls : List (List Int)} {e32 : Int} {fn : Nat} {args : Array Value} (h : Calls Tryd.prog fn args w (BodyF w ls e32)) (hf : fitsF ls = false) :
    Calls Tryd.prog fn args w fun e w' => e = .returned (.tuple #[.slice none 0 0, .int .i64 0, .bool false]) ∧ Below w.heap.size w w' :=
  h.mono fun e w' h => by
    rcases h with ⟨h, _⟩ | ⟨_, h⟩
    · rw [hf] at h; cases h
    · exact h
set_option maxRecDepth 8000 in
set_option maxHeartbeats 2000000 in
theorem sectors_any (ep : Int) (hep : U64 ep) (lv : Value) (N : Nat) (ls : List (List Int)) (hlb : ∀ l ∈ ls, isB l) (w : World) (ht : Tab w) (hrl : RL .u8 w lv N ls) :
    Calls Tryd.prog 11 #[.int .u64 ep, lv] w (SecF w ls ep) := by
  have HL : Hid (∀ w, Tab w → RL .u8 w lv N ls → Calls Tryd.prog 8 #[.int .u64 ep, lv] w (BodyF w ls (ep % 4294967296))) := Lib.hid fun w h1 h2 => body_any ep lv N ls hlb w h1 h2
  have HT := Lib.hid ht
  have HRL := Lib.hid hrl
  have HBL := Lib.hid (bodyF_len (ep % 4294967296) ls)
  have HEL := endF_le ls
  unfold SecF
  cases hf : fitsF ls with
  | true =>
    have HL2 : Hid (∀ w, Tab w → RL .u8 w lv N ls → Calls Tryd.prog 8 #[.int .u64 ep, lv] w fun e w' => ∃ g, e = .returned (.tuple #[.slice (some ⟨g, 0, none⟩) 832 832, .int .i64 (endF ls : Nat), .bool true]) ∧ YB w' g (bodyF (ep % 4294967296) ls) ∧ w.heap.size ≤ g ∧ Below w.heap.size w w') := Lib.hid fun w h1 h2 => body_yes (HL.out w h1 h2) hf
    generalize bodyF (ep % 4294967296) ls = bd at *
    generalize endF ls = en at *
    have HW : Hid (∀ (v : Value) (w : World), RI .u8 w v 832 bd → Calls Tryd.prog 19 #[.int .u64 ep, v, .int .i64 (en : Nat)] w fun e w' => ∃ v', e = .returned v' ∧ FS w' v' 16 (wholeK ep bd (touchN 0 en).2 16) ∧ Below w.heap.size w w') := Lib.hid fun v w h => by
      have := whole_any ep hep v 832 bd (by omega) (en : Nat) (by unfold I63; omega) w h
      rwa [nr_nat _ HEL] at this
    clear hep hlb hrl ht HL hf
    go_enter Tryd.func11, Tryd.ntmps11
    go_wp2_with (first
      | (go_at_call 8; (with_reducible refine (HL2.out _ HT.out HRL.out).mono ?_); rintro e w1 ⟨g1, rfl, hy, _, hb⟩; have HY1 := Lib.hid hy; have HB1 := Lib.hid hb; clear hy hb)
      | (go_at_call 19; (with_reducible refine (HW.out _ _ (HY1.out.ri HBL.out (by omega))).mono ?_); rintro e w2 ⟨v2, rfl, hs, hb⟩; have HS2 := Lib.hid hs; have HB2 := Lib.hid (bch HB1.out hb); clear hs hb))
    go_ret2
    exact .inl ⟨trivial, _, rfl, HS2.out, HB2.out⟩
  | false =>
    have HL2 : Hid (∀ w, Tab w → RL .u8 w lv N ls → Calls Tryd.prog 8 #[.int .u64 ep, lv] w fun e w' => e = .returned (.tuple #[.slice none 0 0, .int .i64 0, .bool false]) ∧ Below w.heap.size w w') := Lib.hid fun w h1 h2 => body_not (HL.out w h1 h2) hf
    clear hep hlb hrl ht HL hf HEL
    go_enter Tryd.func11, Tryd.ntmps11
    go_wp2_with (first
      | (go_at_call 8; (with_reducible refine (HL2.out _ HT.out HRL.out).mono ?_); rintro e w1 ⟨rfl, hb⟩; have HB1 := Lib.hid hb; clear hb))
    go_ret2
    exact .inr ⟨trivial, rfl, HB1.out⟩
end Go.Proofs.YtjlnceldnbpapaaDoor
