/-
  LAYER 8 (disk): the law's own Secs (sectors that begin with bytes) and few. No condition of ours but bounds on lengths.
-/
import Derived.Test.YtpnialanmidekaaDiskSays
import Derived.Test.YtpnialanmidekaaDiskSecs
namespace Go.Proofs.Ytpnialanmidekaa
open Go.RowKit
/-- byte k of sector i, that begins with z -/
def secK (z : Int) (i k : Nat) : Int := (z + (k : Int) * (i : Int)) % 256
/-- a sector with its first k bytes laid -/
def secU (z : Int) (i k : Nat) : List Int := (List.range k).map (secK z i) ++ List.replicate (64 - k) 0
theorem secU_length (z : Int) (i k : Nat) (h : k ≤ 64) : (secU z i k).length = 64 := by simp [secU]; omega
theorem secU_set (z : Int) (i k : Nat) (h : k < 64) : (secU z i k).set k (secK z i k) = secU z i (k + 1) := by
  unfold secU
  rw [List.set_append_right _ _ (by simp), List.length_map, List.length_range, Nat.sub_self, show 64 - k = (64 - (k + 1)) + 1 from by omega, List.replicate_succ, List.set_cons_zero, List.range_succ, List.map_append, List.append_assoc]
  rfl
theorem secU_zero (z : Int) (i : Nat) : secU z i 0 = z64 := by simp [secU, z64]
/-- all of them -/
def secsL (zs : List Int) : Nat → List Int
  | 0 => []
  | i + 1 => secsL zs i ++ secU (zs.getD i 0) i 64
theorem secsL_length (zs : List Int) : ∀ i, (secsL zs i).length = i * 64
  | 0 => rfl
  | i + 1 => by rw [secsL, List.length_append, secsL_length zs i, secU_length _ _ _ (by omega)]; omega
theorem secU_bytes (z : Int) (i k : Nat) : Bytes (secU z i k) := by
  refine Bytes.app ((bytes_iff _).2 fun x hx => ?_) (Bytes.zeros _)
  obtain ⟨j, _, rfl⟩ := List.mem_map.1 hx
  unfold secK; omega
theorem secsL_bytes (zs : List Int) : ∀ i, Bytes (secsL zs i)
  | 0 => (bytes_iff _).2 fun x hx => by simp [secsL] at hx
  | i + 1 => (secsL_bytes zs i).app (secU_bytes _ _ _)
set_option maxRecDepth 8000 in
set_option maxHeartbeats 1000000 in
theorem lsecs_any (v : Value) (len : Nat) (zs : List Int) (w : World) (hri : RI .u8 w v len zs) (hlen : (len : Int) ≤ 1000000) :
    Calls Try.prog 32 #[v] w fun e w' => ∃ v', e = .returned v' ∧ w'.ownsRow w.heap.size 67 64 v' len (il .u8 (secsL zs len)) ∧ Below w.heap.size w w' := by
  have HR := Lib.hid hri
  have HL := Lib.hid hri.length
  have HZ := Lib.hid z64_cells
  obtain ⟨a, cap, rfl, _⟩ := hri
  go_enter Try.func32, Try.ntmps32
  go_wp2
  go_loopw [3, 4] (fun x iv wr => ∃ i : Nat, iv = .int .i64 i ∧ i ≤ len ∧ Hid (wr.ownsRow w.heap.size 67 64 x i (il .u8 (secsL zs i))) ∧ Hid (Below w.heap.size w wr)) (fun _ iv _ => len - (intOf iv).toNat)
  case atStart => exact ⟨0, rfl, by omega, Lib.hid (by simpa [secsL, il] using World.ownsRow_nil _ _ _ _), Lib.hid (Below.refl _ _)⟩
  case round =>
    obtain ⟨i, rfl, hi, HO, HB⟩ := hrel
    by_cases hlt : (i : Int) < (len : Int)
    · obtain ⟨b, off, cp, e, _, _, hcell⟩ := HR.out.open_ (by omega)
      simp only [Value.slice.injEq, true_and] at e
      obtain ⟨rfl, rfl⟩ := e
      have hc1 := hcell i (by omega)
      obtain ⟨z, hz⟩ : ∃ z, zs.getD i 0 = z := ⟨_, rfl⟩
      rw [hz] at hc1
      have HC := Lib.hid hc1
      have HZI := Lib.hid hz
      clear hz hcell hc1
      go_wp2_with (first
        | (rw [← HZ.out])
        | (refine wpl_store_new rfl _ _ rfl rfl wr.heap.size rfl z64 z64_length rfl rfl w HB ?_; intro w1 HK1 HB1 HB2))
      obtain ⟨wo, hwo⟩ : ∃ wo, wo = wr := ⟨_, rfl⟩
      subst hwo
      go_loopw [6] (fun kv wk => ∃ k : Nat, kv = .int .i64 k ∧ k ≤ 64 ∧ Hid (Blk wk wo.heap.size (secU z i k)) ∧ Hid (Below wo.heap.size wo wk)) (fun kv _ => 64 - (intOf kv).toNat)
      case atStart => exact ⟨0, rfl, by omega, Lib.hid (by rw [secU_zero]; exact HK1.out), HB2⟩
      case round =>
        obtain ⟨k, rfl, hk, HK, HBK⟩ := hrel
        by_cases hlk : (k : Int) < 64
        · have hck := HK.out.cell k (by omega)
          have hfk := HK.out.frozen k
          have HCW := Lib.hid (cell_keep HBK.out (cell_keep HB.out HC.out))
          have hki : IntKind.i64.wrap ((k : Int) * (i : Int)) = ((k * i : Nat) : Int) := by
            have h1 : k * i ≤ 64 * i := Nat.mul_le_mul_right i hk
            rw [← Int.natCast_mul]; exact IntWalk.i64_in _ (by omega)
          have hcw := HCW.out
          generalize (secU z i k).getD k 0 = y0 at hck
          go_wp2
          go_roundw
          case rel => exact ⟨k + 1, by go_num, by omega, Lib.hid (by rw [← secU_set z i k (by omega)]; exact HK.out.stored k _), Lib.hid (HBK.out.setCell (Nat.le_refl _) _)⟩
          case measure => simp [intOf]; omega
        · have hq : k = 64 := by omega
          subst hq
          have HS64 := Lib.hid (secU_length z i 64 (by omega))
          have HB9 := Lib.hid (chain HB.out HBK.out)
          have HO9 := Lib.hid (own_keep HO.out HBK.out)
          go_wp2_with (first
            | (refine wpl_load_sec (by rfl) _ rfl wo.heap.size rfl (secU z i 64) HK.out ?_)
            | (refine wpl_build_sec rfl _ rfl (secU z i 64) HS64.out rfl ?_)
            | (at_builtin; refine wpl_app_sec rfl (.tmp 29) (.tmp 31) rfl w.heap.size _ _ _ rfl (HO9.out.alloc _) wr.heap.size (secU z i 64) rfl (Blk.new wr _ HS64.out) (by omega) w.heap.size w (HB9.out.alloc HB9.out.size _) (Nat.le_refl _) (by have := HB9.out.size; simp; omega) ?_; intro v' w3 HO3 HB3))
          go_roundw
          case rel => exact ⟨i + 1, by go_num, by omega, Lib.hid (by rw [secsL, HZI.out]; exact HO3.out), HB3⟩
          case measure => simp [intOf]; omega
    · have hq : i = len := by omega
      subst hq
      go_wp2
      go_ret
      exact ⟨_, rfl, HO.out, HB.out⟩
/-- a call, as a law is handed it -/
structure AAct where
  kind : Int
  name : ByteArray
  to : ByteArray
  at_ : Int
  n : Int
  len : Nat
  l : List Int
  klen : Nat
  keep : List Int
  torn : Int
  cut : Int
/-- .. as it may be -/
structure GA (a : AAct) : Prop where
  k0 : 0 ≤ a.kind
  k1 : a.kind ≤ 18446744073709551615
  name : a.name.size ≤ 281474976710656
  to : a.to.size ≤ 281474976710656
  at_ : I63 a.at_
  n : I63 a.n
  l : Bytes a.l
  keep : Bytes a.keep
  torn : I63 a.torn
  cut : I63 a.cut
/-- in w these nine cells tell the call -/
def RA (w : World) (e : List Value) (a : AAct) : Prop :=
  ∃ vl vk, e = [.int .u64 a.kind, .string a.name, .string a.to, .int .i64 a.at_, .int .i64 a.n, vl, vk, .int .i64 a.torn, .int .i64 a.cut] ∧ RI .u8 w vl a.len a.l ∧ RI .u8 w vk a.klen a.keep
theorem RA.kin {w w' : World} (hb : Kin w w') {e : List Value} {a : AAct} (h : RA w e a) : RA w' e a := by
  obtain ⟨vl, vk, he, h1, h2⟩ := h
  exact ⟨vl, vk, he, h1.kin hb, h2.kin hb⟩
theorem RA.length {w : World} {e : List Value} {a : AAct} (h : RA w e a) : e.length = 9 := by obtain ⟨_, _, rfl, _⟩ := h; rfl
/-- a slice of calls -/
def AS (w : World) (v : Value) (l : List AAct) : Prop :=
  ∃ es : List (List Value), CS 9 w v l.length es.flatten ∧ es.length = l.length ∧ ∀ (i : Nat) (e : List Value) (a : AAct), es[i]? = some e → l[i]? = some a → RA w e a
theorem AS.kin {w w' : World} (hb : Kin w w') {v : Value} {l : List AAct} (h : AS w v l) : AS w' v l := by
  obtain ⟨es, h1, h2, h3⟩ := h
  exact ⟨es, h1.kin hb, h2, fun i e a he ha => (h3 i e a he ha).kin hb⟩
theorem AS.form {w : World} {v : Value} {l : List AAct} (h : AS w v l) : ∃ a cap, v = .slice a l.length cap ∧ l.length ≤ cap ∧ cap ≤ 9223372036854775807 ∧ (a = none → cap = 0) := by obtain ⟨_, h, _⟩ := h; exact h.form
/-- where a call lies, and its nine cells -/
theorem AS.at_ {w : World} {a : Option Addr} {n cap : Nat} {l : List AAct} (h : AS w (.slice a n cap) l) (i : Nat) (c : AAct) (hc : l[i]? = some c) :
    ∃ b off al cl ak ck, a = some ⟨b, off, none⟩ ∧ w.cell? ⟨b, off + i * 9, none⟩ = some (.int .u64 c.kind) ∧ w.cell? ⟨b, off + i * 9 + 1, none⟩ = some (.string c.name) ∧ w.cell? ⟨b, off + i * 9 + 2, none⟩ = some (.string c.to) ∧
      w.cell? ⟨b, off + i * 9 + 3, none⟩ = some (.int .i64 c.at_) ∧ w.cell? ⟨b, off + i * 9 + 4, none⟩ = some (.int .i64 c.n) ∧ w.cell? ⟨b, off + i * 9 + 5, none⟩ = some (.slice al c.len cl) ∧ w.cell? ⟨b, off + i * 9 + 6, none⟩ = some (.slice ak c.klen ck) ∧
      w.cell? ⟨b, off + i * 9 + 7, none⟩ = some (.int .i64 c.torn) ∧ w.cell? ⟨b, off + i * 9 + 8, none⟩ = some (.int .i64 c.cut) ∧ RI .u8 w (.slice al c.len cl) c.len c.l ∧ RI .u8 w (.slice ak c.klen ck) c.klen c.keep := by
  obtain ⟨es, h1, h2, h3⟩ := h
  obtain ⟨hi, _⟩ := List.getElem?_eq_some_iff.1 hc
  have hi2 : i < es.length := by omega
  have hl9 : ∀ e ∈ es, e.length = 9 := by
    intro e he
    obtain ⟨j, hj, rfl⟩ := List.getElem_of_mem he
    exact (h3 j _ _ (List.getElem?_eq_getElem hj) (List.getElem?_eq_getElem (by omega))).length
  obtain ⟨vl, vk, he, hf1, hf2⟩ := h3 i es[i] c (List.getElem?_eq_getElem hi2) hc
  have hn : n = l.length := by obtain ⟨_, _, hv, _⟩ := h1; simp at hv; exact hv.2.1
  subst hn
  obtain ⟨b, off, rfl, hcc⟩ := h1.at_ i hi
  have hg := fun j hj => (hcc j hj).trans (flat_get 9 es i j hl9 hj _ (List.getElem?_eq_getElem hi2))
  rw [he] at hg
  obtain ⟨al, cl, rfl, _⟩ := id hf1
  obtain ⟨ak, ck, rfl, _⟩ := id hf2
  exact ⟨b, off, al, cl, ak, ck, rfl, by simpa using hg 0 (by omega), by simpa using hg 1 (by omega), by simpa using hg 2 (by omega), by simpa using hg 3 (by omega), by simpa using hg 4 (by omega), by simpa using hg 5 (by omega), by simpa using hg 6 (by omega), by simpa using hg 7 (by omega), by simpa using hg 8 (by omega), hf1, hf2⟩
/-- few calls, and small ones -/
def fewB (l : List AAct) : Bool := l.all (fun a => decide (a.len ≤ 80)) && decide (l.length ≤ 40)
theorem few_true {l : List AAct} (h : fewB l = true) : l.length ≤ 40 ∧ ∀ a ∈ l, a.len ≤ 80 := by
  simpa [fewB, and_comm] using h
set_option maxRecDepth 8000 in
set_option maxHeartbeats 1000000 in
theorem few_any (v : Value) (l : List AAct) (w : World) (h : AS w v l) :
    Calls Try.prog 6 #[v] w fun e w' => e = .returned (.bool (fewB l)) ∧ w' = w := by
  have HA := Lib.hid h
  obtain ⟨a, cap, rfl, hc1, hc2, _⟩ := h.form
  obtain ⟨n, hn⟩ : ∃ n, l.length = n := ⟨_, rfl⟩
  rw [hn] at HA hc1
  rw [hn]
  have HN := Lib.hid hn
  clear h hn
  go_enter Try.func6, Try.ntmps6
  go_wp2
  go_loop [3] (fun iv => ∃ i : Nat, iv = .int .i64 i ∧ i ≤ n ∧ Hid (∀ (j : Nat) (c : AAct), j < i → l[j]? = some c → c.len ≤ 80)) (fun iv => n - (intOf iv).toNat)
  case atStart => exact ⟨0, rfl, by omega, Lib.hid fun j c hj => absurd hj (by omega)⟩
  case round =>
    obtain ⟨i, rfl, hi, HE⟩ := hrel
    by_cases hlt : (i : Int) < (n : Int)
    · obtain ⟨c, hc⟩ : ∃ c, l[i]? = some c := row_some (by rw [HN.out]; omega)
      obtain ⟨b, off, al, cl, ak, ck, rfl, _, _, _, _, _, h5, _⟩ := HA.out.at_ i c hc
      have HC := Lib.hid hc
      clear hc
      obtain ⟨m, hm⟩ : ∃ m, c.len = m := ⟨_, rfl⟩
      rw [hm] at h5
      have HM := Lib.hid hm
      clear hm
      by_cases h80 : (m : Int) > 80
      · go_wp2
        go_ret
        refine ⟨ret_bool ?_, rfl⟩
        cases hf : fewB l with
        | false => rfl
        | true =>
          have := (few_true hf).2 c (List.mem_of_getElem? HC.out)
          have := HM.out
          omega
      · go_wp2
        go_round
        case rel =>
          refine ⟨i + 1, by go_num, by omega, Lib.hid fun j d hj hd => ?_⟩
          by_cases hji : j = i
          · subst hji
            rw [HC.out] at hd
            obtain rfl := Option.some.inj hd
            rw [HM.out]; omega
          · exact HE.out j d (by omega) hd
        case measure => simp [intOf]; omega
    · have hq : i = n := by omega
      subst hq
      go_wp2
      go_ret
      refine ⟨ret_bool ?_, rfl⟩
      have h1 : l.all (fun a => decide (a.len ≤ 80)) = true := List.all_eq_true.2 fun c hc => by
        obtain ⟨j, hj, rfl⟩ := List.getElem_of_mem hc
        exact decide_eq_true (HE.out j _ (by have := HN.out; omega) (List.getElem?_eq_getElem hj))
      unfold fewB
      rw [h1, HN.out, Bool.true_and]
      exact decide_eq_decide.2 (by omega)
end Go.Proofs.Ytpnialanmidekaa
