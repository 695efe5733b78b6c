/-
  LAYER 8 (disk): the program's own disk is what the laws' walks ask for. No condition.
-/
import Derived.Test.YtoempaagpgoilaaDoorJ8
namespace Go.Proofs.YtoempaagpgoilaaDoor
open Go.RowKit
/-! of what doesn't wait what is seen is lasting, behind each call -/
theorem Calm.of_L {d d' : AD} (h : Calm d) (hl : d'.L = d.L) : Calm d' := by unfold Calm at *; rw [hl]; exact h
theorem Calm.op {d : AD} (h : Calm d) : Calm d.opd := h.of_L d.opd_L
theorem Calm.without {d : AD} (h : Calm d) (s : ByteArray) : Calm (d.without s) := fun f hf => h f (mem_without.1 hf).1
theorem Calm.put {d : AD} (h : Calm d) {f : AF} (hf : CalmF f) : Calm (d.withF f) := by
  intro g hg
  rcases mem_ins.1 hg with rfl | hg
  · exact hf
  · exact h g (mem_without.1 hg).1
theorem opR_calm {d : AD} (h : Calm d) (g : AD → AD) (hg : ∀ x : AD, x = d.opd → Calm x → Calm (g x)) : Calm (d.opR g).1 := by
  unfold AD.opR
  split
  · exact h.op
  · exact hg _ rfl h.op
theorem calm_new (s : ByteArray) (n : Nat) : CalmF (newF s n) := fun _ _ _ => rfl
theorem Calm.make {d : AD} (h : Calm d) (s : ByteArray) (n : Int) : Calm (d.makeR s n).1 := by
  unfold AD.makeR
  split
  · exact h
  split
  · exact h
  split
  · exact h
  split
  · exact h
  split
  · exact h
  · exact opR_calm h _ fun x _ hx => hx.put (calm_new _ _)
theorem Calm.remove {d : AD} (h : Calm d) (s : ByteArray) : Calm (d.removeR s).1 := by
  unfold AD.removeR
  split
  · exact h
  split
  · exact h
  · exact opR_calm h _ fun x _ hx => hx.without s
theorem Calm.fail {d : AD} (h : Calm d) (n : Int) : Calm (d.failR n).1 := by
  unfold AD.failR
  split
  · exact h
  split
  · exact h
  · exact h
theorem Calm.rename {d : AD} (h : Calm d) (s t : ByteArray) : Calm (d.renameR s t).1 := by
  unfold AD.renameR
  split
  · exact h
  split
  · exact h
  rename_i hh
  split
  · exact h
  split
  · exact h
  · have hcf : CalmF (d.get s) := h _ (get_mem (Decidable.not_not.1 hh))
    exact opR_calm h _ fun x _ hx => (hx.without s).put (fun i hi hw => hcf i hi hw)
/-- the program's disk -/
def DKq (w : World) (p : Addr) (F : Nat → Bool) (d : AD) : Prop := DKp w p F d ∧ Calm d
theorem disk_says : DiskSays DKq where
  keep h hs hk := ⟨h.1.keep hs hk, h.2⟩
  foot h := h.1.1
  new c w hc := (pnew_any c w hc).mono (by
    rintro e w' ⟨b, bm, rfl, hl⟩
    obtain ⟨F, h1, h2⟩ := hl.dkp
    exact ⟨_, F, rfl, ⟨h1, fun f hf => by simp [AD.newD] at hf⟩, h2⟩)
  make w p F d s n h hg hs hn := (kmake_any w p F d s n h.1 hg hs hn).mono (by
    rintro e w' ⟨F', rfl, h1, h2⟩; exact ⟨F', rfl, ⟨h1, h.2.make s n⟩, h2⟩)
  rename w p F d s t h hg hs ht := (krename_any w p F d s t h.1 hg hs ht).mono (by
    rintro e w' ⟨F', rfl, h1, h2⟩; exact ⟨F', rfl, ⟨h1, h.2.rename s t⟩, h2⟩)
  remove w p F d s h hg hs := (kremove_any w p F d s h.1 hg hs).mono (by
    rintro e w' ⟨F', rfl, h1, h2⟩; exact ⟨F', rfl, ⟨h1, h.2.remove s⟩, h2⟩)
  fail w p F d n h _ hn := (kfail_any w p F d n h.1 hn).mono (by
    rintro e w' ⟨F', rfl, h1, h2⟩; exact ⟨F', rfl, ⟨h1, h.2.fail n⟩, h2⟩)
  size w p F d s h hg hs := by
    obtain ⟨⟨_, b, bm, l, rfl, hd, _⟩, _⟩ := h
    exact (psize_any w b bm l d s hd hs).mono (by rintro e w' ⟨rfl, rfl⟩; exact ⟨rfl, Below.refl _ _⟩)
  list w p F d h hg := by
    obtain ⟨⟨_, b, bm, l, rfl, hd, _⟩, _⟩ := h
    exact plist_any w b bm l d hd hg
  files w p F d h hg := by
    obtain ⟨⟨_, b, bm, l, rfl, hd, _⟩, _⟩ := h
    exact pfiles_any w b bm l d hd hg
  used w p F d h hg := by
    obtain ⟨⟨_, b, bm, l, rfl, hd, _⟩, _⟩ := h
    exact pused_any w b bm l d hd hg
  ops w p F d h _ := by
    obtain ⟨⟨_, b, bm, l, rfl, hd, _⟩, _⟩ := h
    exact (pops_any w b bm l d hd).mono (by rintro e w' ⟨rfl, rfl⟩; exact ⟨rfl, Below.refl _ _⟩)
  down w p F d h _ := by
    obtain ⟨⟨_, b, bm, l, rfl, hd, _⟩, _⟩ := h
    exact (pdown_any w b bm l d hd).mono (by rintro e w' ⟨rfl, rfl⟩; exact ⟨rfl, Below.refl _ _⟩)
end Go.Proofs.YtoempaagpgoilaaDoor
