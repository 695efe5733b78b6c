/-
  LAYER 12 (batch): a map's keys in order: collected in whatever order, then sorted by the library. No condition.
-/
import Derived.Test.YtmcfnlfaclkbhaaBatMap
import Derived.Test.YtmcfnlfaclkbhaaTexts
import Derived.Test.YtmcfnlfaclkbhaaShelf
import Derived.Sort.KeysCollected
import Derived.Sort.OwnSorted
namespace Go.Proofs.Ytmcfnlfaclkbhaa
open Go.RowKit Go.Sort
def AO.keyb (x : AO) : List UInt8 := x.key.data.toList
theorem key_enc (x : AO) : encStr x.keyb = .string x.key := by
  unfold encStr AO.keyb
  congr 1
theorem key_le (x y : AO) (h : gtN y.key x.key = true) : x.keyb ≤ y.keyb := by
  have h1 := (gtN_iff _ _).1 h
  rw [Lib.toList_data, Lib.toList_data] at h1
  exact List.le_of_lt h1
/-- what was collected, sorted, are the keys as they rise -/
theorem keys_sorted {l : List AO} (ha : AscK l) {ss : List (List UInt8)} (hp : ss.Perm (l.map AO.keyb)) : (ss.mergeSort fun x y => decide (x ≤ y)) = l.map AO.keyb := by
  refine (mergeSort_of_perm hp).trans ?_
  refine List.mergeSort_of_pairwise ?_
  rw [List.pairwise_map]
  exact ha.imp fun h => by simpa [leB] using key_le _ _ h
theorem AscK.nodup {l : List AO} (h : AscK l) : (l.map AO.nm).Nodup := by
  unfold List.Nodup
  rw [List.pairwise_map]
  exact List.Pairwise.imp (R := fun f g : AO => gtN g.key f.key = true) (fun {f g} h e => gtN_ne h (Eq.symm e)) h
abbrev MapO (w : World) (bm : Nat) (l : List AO) : Prop := MO AO.nm opDat opRd Try.prog 9 w bm l
abbrev RPo (w : World) (bm r : Nat) (l todo : List AO) (cnt : Nat) : Prop := RP AO.nm opDat opRd Try.prog 9 w bm r l todo cnt
theorem own_ne_iter {w : World} {base size : Nat} {e : TypeId} {v : Value} {n : Nat} {xs : List Value} {bm r cnt : Nat} {l todo : List AO} (h : w.ownsRow base e size v n xs) (hr : RPo w bm r l todo cnt) : ∀ g, v.ownBlock = some g → some g ≠ some r := fun g hg e1 => by
  obtain rfl := Option.some.inj e1
  rcases h.2 with ⟨rfl, _⟩ | ⟨q, cap, cur, rfl, _, hb, _⟩
  · simp [Value.ownBlock] at hg
  · simp only [Value.ownBlock, Option.some.injEq] at hg
    subst hg
    exact hr.iter _ _ _ hb
theorem own_ne_iter' {w : World} {base size : Nat} {e : TypeId} {v : Value} {n : Nat} {xs : List Value} {bm r cnt : Nat} {l todo : List AO} (h : w.ownsRow base e size v n xs) (hr : RPo w bm r l todo cnt) : some r ≠ v.ownBlock := fun e1 => own_ne_iter h hr r e1.symm rfl
set_option maxRecDepth 8000 in
set_option maxHeartbeats 1000000 in
theorem inorder_any (w : World) (bm : Nat) (l : List AO) (HM : MapO w bm l) (ha : AscK l) (hl : l.length ≤ 1000) :
    Calls Try.prog 22 #[.map (some bm)] w fun e w' => ∃ v, e = .returned v ∧ SS w' v (l.map AO.nm) ∧ Below w.heap.size w w' := by
  have HN := Lib.hid ha.nodup
  have HA := Lib.hid ha
  have HBM := Lib.hid HM.lt
  have HM := Lib.hid HM
  clear ha
  go_enter Try.func22, Try.ntmps22
  go_wp2_with (first
    | (refine wpl_range rfl (.tmp 5) 42 rfl 9 36 Try.underlying9 Try.underlying42 bm l rfl HM.out ?_; intro w0 HR0 hG0 HS0; have HB0 := Lib.hid ((Below.refl w.heap.size w).grown hG0.out (Nat.le_refl _) (by simp)); clear hG0))
  go_frame
  go_loopw [3] (fun v wr => ∃ (todo : List AO) (cnt : Nat) (ss : List (List UInt8)), Hid (RPo wr bm w.heap.size l todo cnt) ∧ Hid (wr.ownsRow w.heap.size 9 1 v ss.length (ss.map encStr)) ∧ Hid ((ss ++ todo.map AO.keyb).Perm (l.map AO.keyb)) ∧ Hid (Below w.heap.size w wr)) (fun _ wr => wr.rangeLeft bm w.heap.size)
  case atStart => exact ⟨l, l.length, [], HR0, ⟨rfl, .inl ⟨rfl, rfl⟩⟩, Lib.hid (List.Perm.refl _), HB0⟩
  case round =>
    obtain ⟨todo, cnt, ss, HR, HO, HP, HB⟩ := hrel
    go_wp2_with (first
      | (refine wpl_next opE rfl (.tmp 6) rfl 9 Try.underlying9 bm w.heap.size l todo cnt rfl HR.out ?_ ?_))
    · intro h0
      subst h0
      have hp : ss.Perm (l.map AO.keyb) := by have := HP.out; simpa using this
      have hsl : ss.length = l.length := by rw [hp.length_eq, List.length_map]
      have hks := keys_sorted HA.out hp
      rcases HO.out.2 with ⟨rfl, hnil⟩ | ⟨g, cap, cur, rfl, hbase, hb, h1, h2, h3, h4⟩
      · have hc := Try.slices_Sort_string_none none 0 wr
        have h0 : l = [] := List.length_eq_zero_iff.1 (by omega)
        have HSS := Lib.hid (show SS wr (.slice none 0 0) (l.map AO.nm) by
          rw [h0]; exact CS.nil 1 wr)
        clear HO hks hsl hp h0
        go_wp2_with (first
          | (go_at_call 31; (refine hc.mono ?_); rintro e w' ⟨rfl, rfl⟩))
        go_ret
        exact ⟨_, rfl, HSS.out, HB.out⟩
      · have hH : Holds encStr wr g 0 ss.toArray := holds_of_block hb (by simpa using h4)
        have hgl : g < wr.heap.size := (Array.getElem?_eq_some_iff.1 hb).1
        have hc := Try.slices_Sort_string g 0 cap ss wr hH hgl (by omega)
        have HSS : Hid (∀ nn os, SS (grow (putRow encStr (Sort.ahead wr nn) g 0 (ss.mergeSort fun x y => decide (x ≤ y)).toArray) os) (.slice (some ⟨g, 0, none⟩) ss.length cap) (l.map AO.nm) ∧ Below w.heap.size w (grow (putRow encStr (Sort.ahead wr nn) g 0 (ss.mergeSort fun x y => decide (x ≤ y)).toArray) os)) := Lib.hid fun nn os => by
          refine ⟨?_, HB.out.grown (grownBy_sorted _) HB.out.size (fun j hj => by cases hj; exact hbase)⟩
          have ho := ownsRow_sorted (os := os) (n := nn) (ts := ss.mergeSort fun x y => decide (x ≤ y)) (by simp) hbase hb h1 h2 h3
          have hcs := CS.own ho
          unfold SS
          rw [List.length_map, ← hsl, List.map_map]
          rw [hks, List.map_map] at hcs
          have e : encStr ∘ AO.keyb = Value.string ∘ AO.nm := by funext x; exact key_enc x
          rw [e, ← hks] at hcs
          exact hcs
        clear HO hks hsl hp hH hgl hb h4 h3 h1 h2
        go_wp2_with (first
          | (go_at_call 31; (refine hc.mono ?_); rintro e w' ⟨rfl, nn, os, rfl⟩))
        go_ret
        exact ⟨_, rfl, HSS.out nn os⟩
    · intro x w1 cnt1 hx HR1 hlt hG1 hs1 hen
      have hnd : (todo.map AO.nm).Nodup := HN.out.sublist (HR.out.sub.map _)
      have hp := out_perm hnd hx.out
      have HO1 := Lib.hid (own_over HO.out hG1.out (own_ne_iter HO.out HR.out))
      have HB1 := Lib.hid (HB.out.grown hG1.out HB.out.size (fun j hj => by cases hj; exact Nat.le_refl _))
      have hle : ss.length ≤ 1000 := by
        have h1 := HP.out.length_eq
        rw [List.length_append, List.length_map, List.length_map] at h1
        omega
      have HE := Lib.hid (HR.out.left_eq)
      have HSZ := Lib.hid (HB1.out.size)
      have HP1 : Hid (((ss ++ [x.keyb]) ++ (outBy AO.nm todo (AO.nm x)).map AO.keyb).Perm (l.map AO.keyb)) := Lib.hid (by
        refine List.Perm.trans ?_ HP.out
        rw [List.append_assoc]
        exact List.Perm.append_left _ (by simpa using (hp.map AO.keyb).symm))
      have HNE := Lib.hid (HR.out.ne)
      clear hnd hp HR HB HO hG1 hs1
      go_wp2_with (first
        | (at_builtin; go_loud (refine wpl_app_str rfl (.tmp 11) (.tmp 13) rfl w.heap.size _ ss.length (ss.map encStr) rfl (Lib.hid (HO1.out.alloc _)) ⟨w1.heap.size, 0, none⟩ x.key rfl (cell_of_row _ _ 0 _ _ _ (heap_alloc_last w1 _)) (by omega) (by have := HSZ.out; simp; omega) ?_); intro v' w2 HO2 hG2))
      have HR2 := Lib.hid ((HR1.out.below (balloc w1 _)).kept hG2.out (row_ne_low HO1.out HBM.out) (own_ne_iter' HO1.out HR1.out))
      have HE2 := Lib.hid (HR2.out.left_eq)
      have HB2 := Lib.hid (grown_alloc_trans hG2.out HB1.out (fun j hj => (HO1.out.lt j hj).1))
      clear hG2
      go_roundw
      case rel => exact ⟨_, cnt1, ss ++ [x.keyb], HR2, Lib.hid (by have := HO2.out; rw [List.length_append, List.map_append, List.map_cons, List.map_nil, key_enc]; exact this), HP1, HB2⟩
      case measure => rw [HE.out, HE2.out]; exact hlt.out
end Go.Proofs.Ytmcfnlfaclkbhaa
