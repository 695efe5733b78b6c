/-
  THE WALK OF THE LAW PoolNobody, over DiskSays and NilSays: whatever name comes in: the call returns true and changes nothing that was there. The library's table lies as the form says.
-/
import Derived.Test.YtoempaagpgoilaaDoorJ13
namespace Go.Proofs.YtoempaagpgoilaaDoor
open Go.RowKit
theorem nready (w : World) : Calls Tryd.prog 24 #[.pointer none] w fun e w' => e = .returned (.int .i64 11) ∧ w = w' := by
  go_enter Tryd.func24, Tryd.ntmps24
  go_wp2
  go_ret
  exact ⟨rfl, rfl⟩
theorem ntake (w : World) : Calls Tryd.prog 8 #[.pointer none] w fun e w' => e = .returned (.tuple #[.string ⟨#[]⟩, .int .i64 11]) ∧ w = w' := by
  go_enter Tryd.func8, Tryd.ntmps8
  go_wp2_with (first
    | (go_at_call 24; (with_reducible refine (nready _).mono ?_); rintro e w1 ⟨rfl, rfl⟩))
  go_ret2
  exact ⟨rfl, rfl⟩
theorem ngive (s : ByteArray) (w : World) : Calls Tryd.prog 10 #[.pointer none, .string s] w fun e w' => e = .returned (.int .i64 11) ∧ w = w' := by
  go_enter Tryd.func10, Tryd.ntmps10
  go_wp2_with (first
    | (go_at_call 24; (with_reducible refine (nready _).mono ?_); rintro e w1 ⟨rfl, rfl⟩))
  go_ret
  exact ⟨rfl, rfl⟩
theorem nspare (w : World) : Calls Tryd.prog 12 #[.pointer none] w fun e w' => e = .returned (.int .i64 11) ∧ w = w' := by
  go_enter Tryd.func12, Tryd.ntmps12
  go_wp2_with (first
    | (go_at_call 24; (with_reducible refine (nready _).mono ?_); rintro e w1 ⟨rfl, rfl⟩))
  go_ret
  exact ⟨rfl, rfl⟩
theorem npclean (w : World) : Calls Tryd.prog 14 #[.pointer none] w fun e w' => e = .returned (.int .i64 11) ∧ w = w' := by
  go_enter Tryd.func14, Tryd.ntmps14
  go_wp2_with (first
    | (go_at_call 24; (with_reducible refine (nready _).mono ?_); rintro e w1 ⟨rfl, rfl⟩))
  go_ret
  exact ⟨rfl, rfl⟩
set_option maxRecDepth 8000 in
theorem npcount (H : NilSays) (w : World) (hp : Pow w) : Calls Tryd.prog 21 #[.pointer none] w fun e w' => e = .returned (.int .i64 0) ∧ Below w.heap.size w w' := by
  have HH := Lib.hid H
  have HS : Hid (Below w.heap.size w w ∧ Pow w) := Lib.hid ⟨Below.refl _ _, hp⟩
  clear hp
  go_enter Tryd.func21, Tryd.ntmps21
  go_wp2_with fail
  go_loopw [5, 3] (fun iv cv wr => ∃ i : Nat, iv = .int .i64 i ∧ cv = .int .i64 0 ∧ i ≤ 2 ∧ Hid (Below w.heap.size w wr ∧ Pow wr)) (fun iv _ _ => 2 - (intOf iv).toNat)
  case atStart => exact ⟨0, rfl, rfl, by omega, HS⟩
  case round =>
    obtain ⟨i, rfl, rfl, hi, HL⟩ := hrel
    by_cases hlt : (i : Int) < 2
    · have HPN : Hid (∀ w, Pow w → Calls Tryd.prog 32 #[.int .i64 (1 + (i : Int))] w fun e w' => e = .returned (.string (frN (i + 1))) ∧ Below w.heap.size w w') := Lib.hid fun w hw => by
        have := pool_name (i + 1) (by omega) w hw
        rwa [show ((i + 1 : Nat) : Int) = 1 + (i : Int) by omega] at this
      go_wp2_with (first
        | (go_at_call 32; (with_reducible refine (HPN.out _ HL.out.2).mono ?_); rintro e w1 ⟨rfl, hb⟩; have HL1 : Hid (Below w.heap.size w w1 ∧ Pow w1) := Lib.hid ⟨chain HL.out.1 hb, HL.out.2.on hb⟩; clear hb)
        | (go_at_call 22; (with_reducible refine (HH.out.size _ _).mono ?_); rintro e w2 ⟨rfl, hb⟩; have HL2 : Hid (Below w.heap.size w w2 ∧ Pow w2) := Lib.hid ⟨chain HL1.out.1 hb, HL1.out.2.on hb⟩; clear hb))
      exact ⟨⟨i + 1, by go_num, rfl, by omega, HL2⟩, by simp [intOf]; omega⟩
    · have hq : i = 2 := by omega
      subst hq
      go_wp2_with fail
      go_ret
      exact ⟨rfl, HL.out.1⟩
theorem nobody_walk {DK : World → Addr → (Nat → Bool) → AD → Prop} (H : DiskSays DK) (HN : NilSays) (s : ByteArray) (w : World) (hp : Pow w) :
    Calls Tryd.prog 4 #[.string s] w fun e w' => e = .returned (.bool true) ∧ Below w.heap.size w w' := by
  have hH := Lib.hid H
  have HH := Lib.hid HN
  have HP := Lib.hid hp
  clear hp
  go_enter Tryd.func4, Tryd.ntmps4
  go_wp2_with (first
    | (go_at_call 8; (with_reducible refine (ntake _).mono ?_); rintro e w1 ⟨rfl, rfl⟩)
    | (go_at_call 10; (with_reducible refine (ngive _ _).mono ?_); rintro e w1 ⟨rfl, rfl⟩)
    | (go_at_call 12; (with_reducible refine (nspare _).mono ?_); rintro e w1 ⟨rfl, rfl⟩)
    | (go_at_call 14; (with_reducible refine (npclean _).mono ?_); rintro e w1 ⟨rfl, rfl⟩)
    | (go_at_call 21; (with_reducible refine (npcount HH.out _ HP.out).mono ?_); rintro e w2 ⟨rfl, hb⟩; have HB2 := Lib.hid hb; clear hb)
    | (go_at_call 5; (with_reducible refine (pawake_any hH.out _ (HP.out.on HB2.out)).mono ?_); rintro e w3 ⟨rfl, hb⟩; have HB3 := Lib.hid (chain HB2.out hb); clear hb))
  go_ret
  exact ⟨rfl, HB3.out⟩
end Go.Proofs.YtoempaagpgoilaaDoor
