/- A disk stays while blocks of places, of a pager and of maps turn. No condition. -/
import Derived.Test.YthlhnjjofefgcaaGreatDoorDWalkN
namespace Go.Proofs.YthlhnjjofefgcaaGreatDoor.D
open Go.ChangeShapes Go.WideShapes Go.ChangeAt Go.RowKit

theorem quiet81 : Quiet 81 := by unfold Quiet; decide
theorem quiet86 : Quiet 86 := by unfold Quiet; decide
theorem quiet115 : Quiet 115 := by unfold Quiet; decide

theorem DiskAt.frame {B : Nat} {w w' : World} {b g : Nat} {d : Dk} (h : DiskAt B w b g d)
    (hs : ∀ (k : Nat) (cs : Array Value) (t : TypeId) (fr : Nat × Nat), w.heap[k]? = some (.cells cs t fr) → Quiet t → w'.heap[k]? = some (.cells cs t fr)) : DiskAt B w' b g d := by
  obtain ⟨vw, vc, k⟩ := h.out
  obtain ⟨cur, hg, hc⟩ := k.secs.out
  refine ⟨vw, vc, ⟨hs _ _ _ _ k.blk quiet81, ⟨cur, hs _ _ _ _ hg quiet86, hc⟩, ⟨k.waits.1, ?_⟩, ?_, k.leb, k.leg⟩⟩
  · rcases k.waits.2 with h1 | ⟨r, cap, cu, e1, e2, e3, e4⟩
    · exact .inl h1
    · exact .inr ⟨r, cap, cu, e1, e2, hs _ _ _ _ e3 quiet115, e4⟩
  · have sbs : ∀ x, Sb 0 w x → Sb 0 w' x ∧ w'.heap[x]? = w.heap[x]? := by
      intro x hx
      rcases hx with hx | ⟨cs, t, fr, h1, h2, h3⟩
      · exact absurd hx (by omega)
      · have := hs _ _ _ _ h1 h3
        exact ⟨.inr ⟨cs, t, fr, this, h2, h3⟩, this.trans h1.symm⟩
    obtain ⟨p, c, hv, h1, h2, h3⟩ := k.cuts.out
    refine ⟨p, c, hv, h1, h2, fun j hj => ?_⟩
    obtain ⟨bb, off, vf, hp, hb, hx, hy, hf⟩ := h3 j hj
    refine ⟨bb, off, vf, hp, (sbs _ hb).1, (World.cell?_of_block (w := w) (sbs _ hb).2).trans hx, (World.cell?_of_block (w := w) (sbs _ hb).2).trans hy, ?_⟩
    obtain ⟨p', c', hv', h4⟩ := hf.out
    refine ⟨p', c', hv', fun i hi => ?_⟩
    obtain ⟨b2, off2, hp2, hb2, hx2⟩ := h4 i hi
    exact ⟨b2, off2, hp2, (sbs _ hb2).1, (World.cell?_of_block (w := w) (sbs _ hb2).2).trans hx2⟩
end Go.Proofs.YthlhnjjofefgcaaGreatDoor.D
