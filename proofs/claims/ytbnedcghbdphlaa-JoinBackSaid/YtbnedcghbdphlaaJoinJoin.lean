/-
  WHAT Join OF THE PROGRAM'S LAYER 15 ANSWERS, of any fragments. Bytes must lie where the slices say; a bound on the fragments' number.
-/
import Derived.Test.YtbnedcghbdphlaaJoinFeed
import Derived.Test.YtbnedcghbdphlaaJoinList
namespace Go.Proofs.Ytbnedcghbdphlaa
open Go.RowKit
theorem drop_at {α : Type} {l : List α} {i : Nat} {x : α} (h : l[i]? = some x) : l.drop i = x :: l.drop (i + 1) := by
  obtain ⟨hi, rfl⟩ := List.getElem?_eq_some_iff.1 h
  exact List.drop_eq_getElem_cons hi
set_option maxRecDepth 8000 in
set_option maxHeartbeats 4000000 in
theorem join_any (v : Value) (n : Nat) (es : List (FR × Value)) (w : World) (hif : IF w v n es) (hn : n ≤ 100000) :
    Calls Try.prog 11 #[v] w fun e w' =>
      ∃ u rs, e = .returned (.tuple #[u, .int .i64 (jRun false [] [] (es.map Prod.fst)).2]) ∧ RW w.heap.size w' u rs.length rs (.slice none 0 0) ∧ rs.map Prod.fst = (jRun false [] [] (es.map Prod.fst)).1 ∧ Below w.heap.size w w' := by
  have HL := Lib.hid hif.len
  have HI := Lib.hid hif
  obtain ⟨la, lc, rfl, _⟩ := hif.form
  obtain ⟨⟨R1, R2⟩, hR⟩ : ∃ R, jRun false [] [] (es.map Prod.fst) = R := ⟨_, rfl⟩
  rw [hR]
  have HRR := Lib.hid hR
  clear hif hR
  go_enter Try.func11, Try.ntmps11
  go_wp2_with (first
    | (go_at_call 7; (with_reducible refine (new_any _).mono ?_); rintro e w1 ⟨rfl, hj, hb⟩; have HJ1 := Lib.hid hj; have HB1 := Lib.hid hb; clear hj hb))
  obtain ⟨jb, hjb⟩ : ∃ q, w.heap.size = q := ⟨_, rfl⟩
  rw [hjb]
  have HJB := Lib.hid hjb
  have HJ1 : Hid (JB w1 w.heap.size jb false (.slice none 0 0) []) := Lib.hid (hjb ▸ HJ1.out)
  clear hjb
  go_loopw [4, 14] (fun rv iv wr => ∃ (i m : Nat) (va : Option Addr) (vc : Nat) (rs : List (List Int × Value)) (o : Bool) (ha : Option Addr) (hm hc : Nat) (h : List Int), iv = .int .i64 (i : Int) ∧ rv = .slice va m vc ∧ i ≤ n ∧ m ≤ i ∧ Hid (JB wr w.heap.size jb o (.slice ha hm hc) h) ∧ Hid (RW w.heap.size wr (.slice va m vc) m rs (.slice ha hm hc)) ∧ Hid (jRun o h (rs.map Prod.fst) ((es.map Prod.fst).drop i) = (R1, R2)) ∧ Hid (Below w.heap.size w wr)) (fun _ iv _ => n - (intOf iv).toNat)
  case atStart => exact ⟨0, 0, none, 0, [], false, none, 0, 0, [], rfl, rfl, by omega, by omega, HJ1, Lib.hid (RW.nil _ _ _), Lib.hid HRR.out, HB1⟩
  case round =>
    obtain ⟨i, m, va, vc, rs, o, ha, hm, hc, h, rfl, rfl, hin, hmi, HJ, HRW, HX, HB⟩ := hrel
    by_cases hlt : (i : Int) < (n : Int)
    · have hci : es[i]? = some (es[i]'(by have := HL.out; omega)) := List.getElem?_eq_getElem _
      obtain ⟨c, hcc⟩ : ∃ c, es[i]'(by have := HL.out; omega) = c := ⟨_, rfl⟩
      rw [hcc] at hci
      obtain ⟨b1, o1, rfl, r1⟩ := HI.out.at_ i c hci
      have HR1 := Lib.hid (el_keep HB.out r1)
      have hdt := HI.out.data c (List.mem_of_getElem? hci)
      have HX2 : Hid (jRun o h (rs.map Prod.fst) (c.1 :: (es.map Prod.fst).drop (i + 1)) = (R1, R2)) := Lib.hid (by rw [← drop_at (by simp [hci])]; exact HX.out)
      obtain ⟨⟨k, ep, d⟩, dv⟩ := c
      simp only at hdt
      have HD := Lib.hid hdt
      obtain ⟨da, dc, rfl⟩ : ∃ a c, dv = .slice a d.length c := by obtain ⟨a, c, e, _⟩ := hdt; exact ⟨a, c, e⟩
      clear hci hcc r1 hdt HX
      by_cases he : jErr o h k d = 0
      · have hJN := jRun_cons o h (rs.map Prod.fst) ⟨k, ep, d⟩ ((es.map Prod.fst).drop (i + 1)) he
        rw [HX2.out] at hJN
        simp only at hJN
        cases hen : jEnds o h k d with
        | true =>
          have HFD : Hid (∀ W5, Below w.heap.size w W5 → JB W5 w.heap.size jb o (.slice ha hm hc) h → Calls Try.prog 8 #[.pointer (some ⟨jb, 0, none⟩), .agg (fA k ep (.slice da d.length dc))] W5 fun e w' =>
              ∃ u v', e = .returned (.tuple #[u, .bool true, .int .i64 0]) ∧ JB w' w.heap.size jb (jGoes o h k d) v' (jHad o h k d) ∧ w'.ownsRow w.heap.size 5 1 u (jTell o h k d).length (il .u8 (jTell o h k d)) ∧ Lies W5 (.slice ha hm hc) u ∧ Lies W5 (.slice ha hm hc) v' ∧ Oth W5 w' jb (.slice ha hm hc)) := Lib.hid fun W5 hb hj => by
            have z := feed_any w o jb (.slice ha hm hc) h k ep (.slice da d.length dc) d.length d W5 hb hj HD.out
            rw [he, hen] at z
            exact z
          have HGO := Lib.hid (jGoes_ends hen)
          rw [hen, if_pos rfl] at hJN
          have HJN := Lib.hid hJN
          clear HX2 hJN he hen
          generalize jGoes o h k d = g6 at HFD HGO HJN
          generalize jHad o h k d = h6 at HFD HJN
          generalize jTell o h k d = t6 at HFD HJN
          go_wp2_with (first
            | (refine wpl_load_el rfl (.tmp 16) rfl rfl HR1.out ?_)
            | (refine wpList_store_row rfl 34 _ _ rfl wr.heap.size (fA k ep (.slice da d.length dc)) rfl rfl _ _ (heap_alloc_last wr _) (fr_info _ rfl) rfl (fr_one _ _ _ _ _) ?_; obtain ⟨w5, hw5⟩ : ∃ q, World.setRow (wr.alloc (.cells (fA 0 0 (.slice none 0 0)) 34)) wr.heap.size (fA k ep (.slice da d.length dc)) = q := ⟨_, rfl⟩; rw [hw5]; have hb5 : Below wr.heap.size wr w5 := hw5 ▸ bnew _ _ _; have HF5 : Hid (FO w5 wr.heap.size k ep (.slice da d.length dc)) := Lib.hid (hw5 ▸ FO.new _); have HB5 := Lib.hid (bch HB.out hb5); have HJ5 := Lib.hid (HJ.out.keep hb5); have HRW5 := Lib.hid (HRW.out.keep hb5); clear hw5 hb5)
            | (refine wpl_load_fr rfl (.tmp 7) rfl rfl HF5.out ?_)
            | (go_at_call 8; (with_reducible refine (HFD.out _ HB5.out HJ5.out).mono ?_); rintro e w6 ⟨u, v6, rfl, hj6, ho6, hl6, hl7, hk6⟩; obtain ⟨ua, uc, rfl⟩ := own_form ho6; obtain ⟨qa, qc, rfl⟩ := own_form hj6.row; have HRW6 := Lib.hid (HRW5.out.feed HJ5.out hk6 hl7); have HB6 := Lib.hid (HB5.out.trans (HJ5.out.below hk6)); have HJ6 := Lib.hid hj6; have HO6 := Lib.hid ho6; clear hj6 ho6 hl6 hl7 hk6)
            | (at_builtin; go_loud (refine wpl_app_rw rfl (.tmp 29) (.tmp 31) rfl rfl (HRW6.out.keep (balloc w6 _)) w6.heap.size (t6, .slice ua t6.length uc) rfl (heap_alloc_last w6 _) (own_keep HO6.out (balloc w6 _)) (fun g _ => by have := (HJ6.out.idle HGO.out).1; rw [this]; simp [Value.ownBlock]) (by omega) (bch HB6.out (balloc w6 _)).size ?_); intro v8 w8 HRW8 HG8; have HB8 := Lib.hid ((bch HB6.out (balloc w6 _)).grown HG8.out (bch HB6.out (balloc w6 _)).size (fun q hq => (HRW6.out.row.lt q hq).1)); have HJ8 := Lib.hid ((HRW6.out.keep (balloc w6 (.cells #[.slice ua t6.length uc] 26))).joiner HG8.out (HJ6.out.keep (balloc w6 _))); obtain ⟨a8, c8, rfl⟩ := own_form HRW8.out.row))
          go_roundw
          case rel => exact ⟨i + 1, m + 1, a8, c8, _, g6, qa, h6.length, qc, h6, by go_num, rfl, by omega, by omega, HJ8, HRW8, Lib.hid (by rw [List.map_append]; exact HJN.out.symm), HB8⟩
          case measure => simp [intOf]; omega
        | false =>
          have HFD : Hid (∀ W5, Below w.heap.size w W5 → JB W5 w.heap.size jb o (.slice ha hm hc) h → Calls Try.prog 8 #[.pointer (some ⟨jb, 0, none⟩), .agg (fA k ep (.slice da d.length dc))] W5 fun e w' =>
              ∃ u v', e = .returned (.tuple #[u, .bool false, .int .i64 0]) ∧ JB w' w.heap.size jb (jGoes o h k d) v' (jHad o h k d) ∧ w'.ownsRow w.heap.size 5 1 u (jTell o h k d).length (il .u8 (jTell o h k d)) ∧ Lies W5 (.slice ha hm hc) u ∧ Lies W5 (.slice ha hm hc) v' ∧ Oth W5 w' jb (.slice ha hm hc)) := Lib.hid fun W5 hb hj => by
            have z := feed_any w o jb (.slice ha hm hc) h k ep (.slice da d.length dc) d.length d W5 hb hj HD.out
            rw [he, hen] at z
            exact z
          rw [hen, if_neg (by decide)] at hJN
          have HJN := Lib.hid hJN
          clear HX2 hJN he hen
          generalize jGoes o h k d = g6 at HFD HJN
          generalize jHad o h k d = h6 at HFD HJN
          generalize jTell o h k d = t6 at HFD
          go_wp2_with (first
            | (refine wpl_load_el rfl (.tmp 16) rfl rfl HR1.out ?_)
            | (refine wpList_store_row rfl 34 _ _ rfl wr.heap.size (fA k ep (.slice da d.length dc)) rfl rfl _ _ (heap_alloc_last wr _) (fr_info _ rfl) rfl (fr_one _ _ _ _ _) ?_; obtain ⟨w5, hw5⟩ : ∃ q, World.setRow (wr.alloc (.cells (fA 0 0 (.slice none 0 0)) 34)) wr.heap.size (fA k ep (.slice da d.length dc)) = q := ⟨_, rfl⟩; rw [hw5]; have hb5 : Below wr.heap.size wr w5 := hw5 ▸ bnew _ _ _; have HF5 : Hid (FO w5 wr.heap.size k ep (.slice da d.length dc)) := Lib.hid (hw5 ▸ FO.new _); have HB5 := Lib.hid (bch HB.out hb5); have HJ5 := Lib.hid (HJ.out.keep hb5); have HRW5 := Lib.hid (HRW.out.keep hb5); clear hw5 hb5)
            | (refine wpl_load_fr rfl (.tmp 7) rfl rfl HF5.out ?_)
            | (go_at_call 8; (with_reducible refine (HFD.out _ HB5.out HJ5.out).mono ?_); rintro e w6 ⟨u, v6, rfl, hj6, ho6, hl6, hl7, hk6⟩; obtain ⟨ua, uc, rfl⟩ := own_form ho6; obtain ⟨qa, qc, rfl⟩ := own_form hj6.row; have HRW6 := Lib.hid (HRW5.out.feed HJ5.out hk6 hl7); have HB6 := Lib.hid (HB5.out.trans (HJ5.out.below hk6)); have HJ6 := Lib.hid hj6; have HO6 := Lib.hid ho6; clear hj6 ho6 hl6 hl7 hk6))
          go_roundw
          case rel => exact ⟨i + 1, m, va, vc, rs, g6, qa, h6.length, qc, h6, by go_num, rfl, by omega, by omega, HJ6, HRW6, Lib.hid HJN.out.symm, HB6⟩
          case measure => simp [intOf]; omega
      · have hJN := jRun_bad o h (rs.map Prod.fst) ⟨k, ep, d⟩ ((es.map Prod.fst).drop (i + 1)) he
        rw [HX2.out] at hJN
        simp only [Prod.mk.injEq] at hJN
        obtain ⟨rfl, hr2⟩ := hJN
        have HFD : Hid (∀ W5, Below w.heap.size w W5 → JB W5 w.heap.size jb o (.slice ha hm hc) h → Calls Try.prog 8 #[.pointer (some ⟨jb, 0, none⟩), .agg (fA k ep (.slice da d.length dc))] W5 fun e w' =>
            ∃ u v', e = .returned (.tuple #[u, .bool (jEnds o h k d), .int .i64 (jErr o h k d)]) ∧ JB w' w.heap.size jb (jGoes o h k d) v' (jHad o h k d) ∧ w'.ownsRow w.heap.size 5 1 u (jTell o h k d).length (il .u8 (jTell o h k d)) ∧ Lies W5 (.slice ha hm hc) u ∧ Lies W5 (.slice ha hm hc) v' ∧ Oth W5 w' jb (.slice ha hm hc)) := Lib.hid fun W5 hb hj =>
          feed_any w o jb (.slice ha hm hc) h k ep (.slice da d.length dc) d.length d W5 hb hj HD.out
        clear HX2
        have hne : (jErr o h k d != 0) = true := by simpa using he
        generalize jErr o h k d = er at HFD hne hr2
        have HR2 := Lib.hid hr2
        clear hr2 he
        generalize jEnds o h k d = en at HFD
        generalize jGoes o h k d = g6 at HFD
        generalize jHad o h k d = h6 at HFD
        generalize jTell o h k d = t6 at HFD
        go_wp2_with (first
          | (refine wpl_load_el rfl (.tmp 16) rfl rfl HR1.out ?_)
          | (refine wpList_store_row rfl 34 _ _ rfl wr.heap.size (fA k ep (.slice da d.length dc)) rfl rfl _ _ (heap_alloc_last wr _) (fr_info _ rfl) rfl (fr_one _ _ _ _ _) ?_; obtain ⟨w5, hw5⟩ : ∃ q, World.setRow (wr.alloc (.cells (fA 0 0 (.slice none 0 0)) 34)) wr.heap.size (fA k ep (.slice da d.length dc)) = q := ⟨_, rfl⟩; rw [hw5]; have hb5 : Below wr.heap.size wr w5 := hw5 ▸ bnew _ _ _; have HF5 : Hid (FO w5 wr.heap.size k ep (.slice da d.length dc)) := Lib.hid (hw5 ▸ FO.new _); have HB5 := Lib.hid (bch HB.out hb5); have HJ5 := Lib.hid (HJ.out.keep hb5); have HRW5 := Lib.hid (HRW.out.keep hb5); clear hw5 hb5)
          | (refine wpl_load_fr rfl (.tmp 7) rfl rfl HF5.out ?_)
          | (go_at_call 8; (with_reducible refine (HFD.out _ HB5.out HJ5.out).mono ?_); rintro e w6 ⟨u, v6, rfl, hj6, ho6, hl6, hl7, hk6⟩; obtain ⟨ua, uc, rfl⟩ := own_form ho6; obtain ⟨qa, qc, rfl⟩ := own_form hj6.row; have HRW6 := Lib.hid (HRW5.out.feed HJ5.out hk6 hl7); have HB6 := Lib.hid (HB5.out.trans (HJ5.out.below hk6)); have HJ6 := Lib.hid hj6; have HO6 := Lib.hid ho6; clear hj6 ho6 hl6 hl7 hk6))
        go_ret2
        exact ⟨_, [], by rw [HR2.out]; rfl, RW.nil _ _ _, rfl, HB6.out⟩
    · obtain rfl : i = n := by omega
      have hJN := HX.out
      rw [List.drop_of_length_le (by rw [List.length_map, HL.out]; omega)] at hJN
      cases o with
      | true =>
        simp only [jRun, if_pos, Prod.mk.injEq] at hJN
        obtain ⟨rfl, rfl⟩ := hJN
        go_wp2_with (first
          | (go_at_call 10; (with_reducible refine (idle_any true _ jb _ HJ.out.blk).mono ?_); rintro e w6 ⟨rfl, rfl⟩))
        go_ret2
        exact ⟨_, [], rfl, RW.nil _ _ _, rfl, HB.out⟩
      | false =>
        simp only [jRun] at hJN
        obtain ⟨rfl, rfl⟩ := hJN
        have HE := Lib.hid (HJ.out.idle rfl).1
        go_wp2_with (first
          | (go_at_call 10; (with_reducible refine (idle_any false _ jb _ HJ.out.blk).mono ?_); rintro e w6 ⟨rfl, rfl⟩))
        go_ret2
        refine ⟨_, rs, rfl, ?_, rfl, HB.out⟩
        rw [HRW.out.len]
        have z := HRW.out
        rw [HE.out] at z
        exact z
end Go.Proofs.Ytbnedcghbdphlaa
