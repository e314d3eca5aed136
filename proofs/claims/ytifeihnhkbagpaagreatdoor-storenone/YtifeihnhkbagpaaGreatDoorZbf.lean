/- Joined: NSlE NSlF NSlG NSlH. What is proved of the functions beneath StoreNone. Conditions: those that each row names. -/
import Derived.Test.YtifeihnhkbagpaaGreatDoorZav
import Derived.Lib.Overlaps
import Derived.BigQuiet
import Derived.Deep.QuietTactic
namespace Go.Proofs.YtifeihnhkbagpaaGreatDoor.N
open Go.ChangeShapes Go.WideShapes Go.ChangeAt Go.RowKit

theorem Own.take {w : World} {B g : Nat} {e : TypeId} {sz : Nat} {n c : Nat} {cs : List Value} (h : Own w B e sz (some ⟨g, 0, none⟩) n c cs) (i : Nat) (hi : i ≤ n) : Own w B e sz (some ⟨g, 0, none⟩) i c (cs.take (i * sz)) := by
  have hlen := h.rw.len
  rcases h.cases with ⟨hx, _⟩ | ⟨g', cur, hx, hBg, hg1, hg, hnc, hcm, hcs, ht⟩
  · cases hx
  injection hx with hx
  injection hx with hx
  subst hx
  have hle : i * sz ≤ n * sz := Nat.mul_le_mul_right _ hi
  refine ⟨by rw [List.length_take, hlen]; omega, .inr ⟨g, c, cur, rfl, hBg, hg, by omega, hcm, hcs, ?_⟩⟩
  rw [← ht, List.take_take]; congr 1; omega

end Go.Proofs.YtifeihnhkbagpaaGreatDoor.N