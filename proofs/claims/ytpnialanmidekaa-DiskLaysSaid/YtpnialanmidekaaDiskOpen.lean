/-
  LAYER 8 (disk): how the laws' arguments are opened: calls, files, crashes. No condition.
-/
import Derived.Test.YtpnialanmidekaaOpenB
import Derived.Test.YtpnialanmidekaaDiskLawSecs
namespace Go.Proofs.Ytpnialanmidekaa
open Go.RowKit Go.ChangeShapes Go.WideShapes
section
variable {H : Type} {enc : TypeId × Value → H} {W : World}
theorem c_uint : Try.prog.cellsOf 33 = 1 := by kernel_rfl
theorem c_string : Try.prog.cellsOf 9 = 1 := by kernel_rfl
theorem c_act : Try.prog.cellsOf 38 = 9 := by kernel_rfl
theorem c_file : Try.prog.cellsOf 44 = 2 := by kernel_rfl
set_option maxRecDepth 8000 in
theorem rdc_act {cs : List Value} {d : DataW H} (h : RdC enc Try.prog W 38 cs d) (hr : Rch Try.prog 38 d) : ∃ a, RA W cs a ∧ GA a := by
  obtain ⟨ds, rfl, hn, hl, hf⟩ := rdc_struct Try.underlying38 h
  rw [c_act] at hl
  have hn7 : ds.length = 7 := hn
  match cs, hl, ds, hn7, hf, hr with
  | [c0, c1, c2, c3, c4, c5, c6, c7, c8], _, [x0, x1, x2, x3, x4, x5, x6], _, hf, hr =>
    have h0 : RdC enc Try.prog W 33 (([c0, c1, c2, c3, c4, c5, c6, c7, c8].drop 0).take (Try.prog.cellsOf 33)) x0 := hf 0 _ _ rfl rfl
    rw [c_uint] at h0
    have h1 : RdC enc Try.prog W 9 (([c0, c1, c2, c3, c4, c5, c6, c7, c8].drop 1).take (Try.prog.cellsOf 9)) x1 := hf 1 _ _ rfl rfl
    rw [c_string] at h1
    have h2 : RdC enc Try.prog W 9 (([c0, c1, c2, c3, c4, c5, c6, c7, c8].drop 2).take (Try.prog.cellsOf 9)) x2 := hf 2 _ _ rfl rfl
    rw [c_string] at h2
    have h3 : RdC enc Try.prog W 3 (([c0, c1, c2, c3, c4, c5, c6, c7, c8].drop 3).take (Try.prog.cellsOf 3)) x3 := hf 3 _ _ rfl rfl
    rw [c_int] at h3
    have h4 : RdC enc Try.prog W 3 (([c0, c1, c2, c3, c4, c5, c6, c7, c8].drop 4).take (Try.prog.cellsOf 3)) x4 := hf 4 _ _ rfl rfl
    rw [c_int] at h4
    have h5 : RdC enc Try.prog W 34 (([c0, c1, c2, c3, c4, c5, c6, c7, c8].drop 5).take (Try.prog.cellsOf 34)) x5 := hf 5 _ _ rfl rfl
    rw [c_bytes] at h5
    have h6 : RdC enc Try.prog W 36 (([c0, c1, c2, c3, c4, c5, c6, c7, c8].drop 6).take (Try.prog.cellsOf 36)) x6 := hf 6 _ _ rfl rfl
    rw [c_crash] at h6
    have q1 : Rch Try.prog 9 x1 := Rch.field (i := 1) Try.underlying38 hr rfl rfl
    have q2 : Rch Try.prog 9 x2 := Rch.field (i := 2) Try.underlying38 hr rfl rfl
    obtain ⟨kd, e0, _, w0⟩ := rdc_int (cs := [c0]) Try.underlying33 h0
    obtain ⟨s, e1, rfl, _⟩ := rdc_string (cs := [c1]) Try.underlying9 h1
    obtain ⟨t, e2, rfl, _⟩ := rdc_string (cs := [c2]) Try.underlying9 h2
    obtain ⟨at_, e3, _, w3⟩ := rdc_int (cs := [c3]) Try.underlying3 h3
    obtain ⟨n, e4, _, w4⟩ := rdc_int (cs := [c4]) Try.underlying3 h4
    obtain ⟨vl, len, l, e5, r5, b5⟩ := rdc_bytes (cs := [c5]) h5
    obtain ⟨vk, klen, kb, torn, cut, e6, r6, b6, w7, w8⟩ := rdc_crash (cs := [c6, c7, c8]) h6
    simp only [List.cons.injEq, and_true] at e0 e1 e2 e3 e4 e5 e6
    subst e0; subst e1; subst e2; subst e3; subst e4; subst e5
    obtain ⟨rfl, rfl, rfl⟩ := e6
    have hu := u64_wf w0
    exact ⟨⟨kd, s, t, at_, n, len, l, klen, kb, torn, cut⟩, ⟨_, _, rfl, r5, r6⟩, ⟨hu.1, hu.2, q1.text, q2.text, i63_wf w3, i63_wf w4, b5, b6, w7, w8⟩⟩
set_option maxRecDepth 8000 in
theorem rd_acts {r : Reach} {b : Nat} {v : Value} {d : DataW H} (ho : Value.okWide Try.prog W r b 22 v) (h : RdC enc Try.prog W 22 v.cells.toList d) (hr : Rch Try.prog 22 d) :
    ∃ l, AS W v l ∧ ∀ a ∈ l, GA a := by
  obtain ⟨a, len, cap, rfl⟩ := okWide_slice Try.underlying22 ho
  obtain ⟨v, n, es, ds, e1, hcs, hn, hd, h9, hel, hx⟩ := rdc_slice Try.underlying22 c_act (by omega) h
  simp [Value.cells] at e1
  subst e1
  obtain ⟨l, hl, hR⟩ := pick (R := fun e a => RA W e a ∧ GA a) es fun e he => by
    obtain ⟨i, hi, rfl⟩ := List.getElem_of_mem he
    have hi2 : i < ds.length := by omega
    refine rdc_act (hel i _ _ (List.getElem?_eq_getElem hi) (List.getElem?_eq_getElem hi2)) ?_
    rcases hx with h0 | ⟨rest, rfl⟩
    · omega
    · exact hr.elem Try.underlying22 (List.getElem_mem hi2)
  refine ⟨l, ⟨es, by rw [hl, hn]; exact hcs, by omega, fun i e a he ha => (hR i e a he ha).1⟩, fun a ha => ?_⟩
  obtain ⟨i, hi, rfl⟩ := List.getElem_of_mem ha
  exact (hR i es[i] _ (List.getElem?_eq_getElem (by omega)) (List.getElem?_eq_getElem hi)).2
set_option maxRecDepth 8000 in
theorem rdc_file {cs : List Value} {d : DataW H} (h : RdC enc Try.prog W 44 cs d) (hr : Rch Try.prog 44 d) : ∃ f : LFile, (∃ v1, cs = [.string f.1, v1] ∧ FS W v1 f.2.1 f.2.2) ∧ f.1.size ≤ 281474976710656 ∧ f.2.2.length = f.2.1 * 64 ∧ Bytes f.2.2 := by
  obtain ⟨ds, rfl, hn, hl, hf⟩ := rdc_struct Try.underlying44 h
  rw [c_file] at hl
  have hn2 : ds.length = 2 := hn
  match cs, hl, ds, hn2, hf, hr with
  | [c0, c1], _, [x0, x1], _, hf, hr =>
    have h0 : RdC enc Try.prog W 9 (([c0, c1].drop 0).take (Try.prog.cellsOf 9)) x0 := hf 0 _ _ rfl rfl
    rw [c_string] at h0
    have h1 : RdC enc Try.prog W 42 (([c0, c1].drop 1).take (Try.prog.cellsOf 42)) x1 := hf 1 _ _ rfl rfl
    rw [c_secs] at h1
    have q0 : Rch Try.prog 9 x0 := Rch.field (i := 0) Try.underlying44 hr rfl rfl
    obtain ⟨s, e0, rfl, _⟩ := rdc_string (cs := [c0]) Try.underlying9 h0
    obtain ⟨v, n, fs, e1, r1, b1⟩ := rdc_secs (cs := [c1]) h1
    simp only [List.cons.injEq, and_true] at e0 e1
    subst e0; subst e1
    exact ⟨(s, n, fs), ⟨_, rfl, r1⟩, q0.text, r1.length, b1⟩
set_option maxRecDepth 8000 in
theorem rd_files {r : Reach} {b : Nat} {v : Value} {d : DataW H} (ho : Value.okWide Try.prog W r b 41 v) (h : RdC enc Try.prog W 41 v.cells.toList d) (hr : Rch Try.prog 41 d) :
    ∃ l : List LFile, LA W v l ∧ ∀ f ∈ l, f.1.size ≤ 281474976710656 ∧ f.2.2.length = f.2.1 * 64 ∧ Bytes f.2.2 := by
  obtain ⟨a, len, cap, rfl⟩ := okWide_slice Try.underlying41 ho
  obtain ⟨v, n, es, ds, e1, hcs, hn, hd, h9, hel, hx⟩ := rdc_slice Try.underlying41 c_file (by omega) h
  simp [Value.cells] at e1
  subst e1
  obtain ⟨l, hl, hR⟩ := pick (R := fun e (f : LFile) => (∃ v1, e = [.string f.1, v1] ∧ FS W v1 f.2.1 f.2.2) ∧ f.1.size ≤ 281474976710656 ∧ f.2.2.length = f.2.1 * 64 ∧ Bytes f.2.2) es fun e he => by
    obtain ⟨i, hi, rfl⟩ := List.getElem_of_mem he
    have hi2 : i < ds.length := by omega
    refine rdc_file (hel i _ _ (List.getElem?_eq_getElem hi) (List.getElem?_eq_getElem hi2)) ?_
    rcases hx with h0 | ⟨rest, rfl⟩
    · omega
    · exact hr.elem Try.underlying41 (List.getElem_mem hi2)
  refine ⟨l, ⟨es, by rw [hl, hn]; exact hcs, by omega, h9, fun i e f he hf => (hR i e f he hf).1⟩, fun f hf => ?_⟩
  obtain ⟨i, hi, rfl⟩ := List.getElem_of_mem hf
  exact (hR i es[i] _ (List.getElem?_eq_getElem (by omega)) (List.getElem?_eq_getElem hi)).2
end
end Go.Proofs.Ytpnialanmidekaa
