/-
  THE WALK OF THE LAW WordZigs: whatever numbers and bytes come in: the call returns true and changes nothing that was there. No condition.
-/
import Derived.Test.YtcbgcdnkleinpaaWordB
import Derived.WalkKit
import Derived.ProofKit
import Derived.OpenShut
import Derived.Lib.Hide
namespace Go.Proofs.Ytcbgcdnkleinpaa
open Go.RowKit
theorem Drawn.below {w w' : World} (h : Drawn w w') (B : Nat) : Below B w w' := by
  obtain ⟨n, rfl⟩ := h
  exact ⟨rfl, rfl, rfl, Nat.le_refl _, fun _ _ => rfl⟩
theorem Drawn.size {w w' : World} (h : Drawn w w') : w'.heap.size = w.heap.size := by obtain ⟨n, rfl⟩ := h; rfl
theorem zag_zig_at (n : Int) (h : I63 n) (w : World) : Calls Try.prog 17 #[.int .u64 (zigI n)] w fun e w' => e = .returned (.int .i64 n) ∧ w = w' :=
  (zag_any _ (zig_U64 n h) w).mono fun _ _ ⟨he, hw⟩ => ⟨by rw [he, zag_zig], hw⟩
theorem zig_zag_at (u : Int) (h : U64 u) (w : World) : Calls Try.prog 15 #[.int .i64 (zagI u)] w fun e w' => e = .returned (.int .u64 u) ∧ w = w' :=
  (zig_any _ (zag_I63 u h) w).mono fun _ _ ⟨he, hw⟩ => ⟨by rw [he, zig_zag u h.1], hw⟩
/-- what is asked of the bit: the program and the reference answer one bool, at whatever world -/
def BitBoth (v : Value) (n : Int) (w : World) (c : Bool) : Prop :=
  ∀ w1, Drawn w w1 → Calls Try.prog 19 #[v, .int .i64 n] w1 (fun e w' => e = .returned (.bool c) ∧ w1 = w') ∧
    Calls Try.prog 20 #[v, .int .i64 n] w1 (fun e w' => e = .returned (.bool c) ∧ Drawn w1 w')
set_option maxHeartbeats 400000 in
theorem zigs_core (n u : Int) (v : Value) (c : Bool) (hn : I63 n) (hu : U64 u) (w : World) (hb : BitBoth v n w c) :
    Calls Try.prog 5 #[.int .i64 n, .int .u64 u, v] w fun e w' => e = .returned (.bool true) ∧ Below w.heap.size w w' := by
  have HA := Lib.hid (hb w (Drawn.refl _)).1
  have HR := Lib.hid (hb w (Drawn.refl _)).2
  clear hb
  go_enter Try.func5, Try.ntmps5
  go_wp2_with (first
    | (go_at_call 15; (with_reducible refine (zig_zag_at u hu _).mono ?_); rintro e w' ⟨rfl, rfl⟩)
    | (go_at_call 15; (with_reducible refine (zig_any n hn _).mono ?_); rintro e w' ⟨rfl, rfl⟩)
    | (go_at_call 16; (with_reducible refine (rzig_any n hn _).mono ?_); rintro e w' ⟨rfl, rfl⟩)
    | (go_at_call 17; (with_reducible refine (zag_zig_at n hn _).mono ?_); rintro e w' ⟨rfl, rfl⟩)
    | (go_at_call 17; (with_reducible refine (zag_any u hu _).mono ?_); rintro e w' ⟨rfl, rfl⟩)
    | (go_at_call 18; (with_reducible refine (rzag_any u hu _).mono ?_); rintro e w' ⟨rfl, rfl⟩)
    | (go_at_call 19; (with_reducible refine HA.out.mono ?_); rintro e w' ⟨rfl, rfl⟩)
    | (go_at_call 20; (with_reducible refine HR.out.mono ?_); rintro e w1 ⟨rfl, hd⟩; have HD := Lib.hid hd; clear hd)
    | (go_at_call 11; (with_reducible refine (awake_any _).mono ?_); rintro e w2 ⟨rfl, hb⟩; have HB1 := Lib.hid hb; clear hb))
  go_ret
  exact ⟨rfl, (HD.out.below _).trans (by have := HB1.out; rwa [HD.out.size] at this)⟩
theorem zigs_walk (n u : Int) (a : Option Addr) (len cap : Nat) (zs : List Int) (w : World) (hn : I63 n) (hu : U64 u) (hz : Bytes zs) (hmax : len ≤ 9223372036854775807)
    (hc : 0 < len → ∃ b off, a = some ⟨b, off, none⟩ ∧ ∀ j, j < len → w.cell? ⟨b, off + j, none⟩ = some (.int .u8 (zs.getD j 0))) :
    Calls Try.prog 5 #[.int .i64 n, .int .u64 u, .slice a len cap] w fun e w' => e = .returned (.bool true) ∧ Below w.heap.size w w' := by
  by_cases h : 0 ≤ n ∧ n / 8 < (len : Int)
  · obtain ⟨h0, h1⟩ := h
    obtain ⟨b, off, rfl, hcell⟩ := hc (by omega)
    obtain ⟨k, rfl⟩ := Int.eq_ofNat_of_zero_le h0
    refine zigs_core k u _ (bitB zs k) hn hu w fun w1 hd => ⟨?_, ?_⟩
    · exact bit_some b off len cap zs k w1 hz hn.2 hmax (by omega) fun j hj => (hd.cell _).trans (hcell j hj)
    · exact rbit_some b off len cap zs k w1 hz hn.2 hmax (by omega) fun j hj => (hd.cell _).trans (hcell j hj)
  · exact zigs_core n u _ false hn hu w fun w1 _ => ⟨bit_no a len cap n w1 hn (by omega), rbit_no a len cap n w1 hn (by omega)⟩
end Go.Proofs.Ytcbgcdnkleinpaa
