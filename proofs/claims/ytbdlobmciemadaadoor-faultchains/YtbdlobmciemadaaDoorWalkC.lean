/- The walk of (*fault.Fault).Error: of a chain of faults the document's text; of a nil fault nothing. Conditions: errors.errorType and the library's table of powers of ten hold what the program's text lays; the numbers lie in 0 to 1000000, the places are of 1000 bytes at most, the chain of 65536 faults at most. -/
import Derived.Test.YtbdlobmciemadaaDoorWalkB
import Derived.Test.YtbdlobmciemadaaDoorShelf
import Derived.WalkSmall
import Derived.WalkLawsBesides
namespace Go.Proofs.YtbdlobmciemadaaDoor
open Go.RowKit

/-- What the program's text lays: the handle of the type error, the powers of ten. -/
structure Lds (w : World) : Prop where
  et : w.cell? ⟨0, 0, none⟩ = some (rty 24)
  tab : Lib.TabIs Tryd.prog w "internal/strconv.uint64pow10" .u64 Lib.pow10Tab

theorem pow10_at : ∃ g, Tryd.prog.globalNamed "internal/strconv.uint64pow10" = some g ∧ g < 4 := by
  have h : (Tryd.prog.globalNamed "internal/strconv.uint64pow10").map (fun g => decide (g < 4)) = some true := by kernel_rfl
  cases e : Tryd.prog.globalNamed "internal/strconv.uint64pow10" with
  | none => rw [e] at h; cases h
  | some g => rw [e] at h; simp at h; exact ⟨g, rfl, h⟩

theorem Lds.kept {w w' : World} (h : Lds w) (k : Kept w w') : Lds w' := by
  refine ⟨k.cell h.et, ?_⟩
  obtain ⟨g, hg, _⟩ := pow10_at
  have hb : g < w.heap.size := by
    have := h.tab
    unfold Lib.TabIs World.var? at this
    rw [hg] at this
    rcases Nat.lt_or_ge g w.heap.size with h | h
    · exact h
    · simp [Array.getElem?_eq_none h] at this
  exact var?_below k.out hg hb h.tab

theorem Kept.grow (w : World) (k : Nat) (os : Array Obj) : Kept w (Sort.grow (w.drewN k) os) := by
  refine ⟨rfl, rfl, rfl, ?_, fun i hi => ?_⟩
  · show w.heap.size ≤ (w.heap ++ os).size
    simp
  · show (w.heap ++ os)[i]? = _
    exact Array.getElem?_append_left hi

/-- One fault's text, behind a colon and a space. -/
def part (x : Nd) : List UInt8 := x.s.data.toList ++ 32 :: Lib.itoa x.c
def flat (l : List Nd) : List UInt8 := (l.map fun x => 58 :: 32 :: part x).flatten
/-- The text of faults, the last one first. -/
def txt (l : List Nd) : List UInt8 := (flat l).drop 2

theorem flat_snoc (l : List Nd) (x : Nd) : flat (l ++ [x]) = flat l ++ 58 :: 32 :: part x := by simp [flat]
theorem flat_cons (x : Nd) (l : List Nd) : flat (x :: l) = 58 :: 32 :: part x ++ flat l := by simp [flat]
theorem txt_one (x : Nd) : txt [x] = part x := by simp [txt, flat]
theorem txt_cons (x : Nd) (l : List Nd) : txt (x :: l) = part x ++ flat l := by simp [txt, flat_cons]
theorem flat_txt (x : Nd) (l : List Nd) : flat (x :: l) = 58 :: 32 :: txt (x :: l) := by simp [txt, flat_cons]
theorem txt_snoc (x : Nd) (l : List Nd) (y : Nd) : txt ((x :: l) ++ [y]) = txt (x :: l) ++ 58 :: 32 :: part y := by
  unfold txt
  rw [flat_snoc, List.drop_append_of_le_length (by simp [flat_cons])]

/-- A number's digits are no more than it, and one. -/
theorem decDigits_le : ∀ (n u : Nat), u ≤ n → (Lib.decDigits u).length ≤ u + 1
  | 0, u, h => by
    obtain rfl : u = 0 := by omega
    rw [Lib.decDigits]; simp
  | n + 1, u, h => by
    rw [Lib.decDigits]
    split
    · simp
    · have := decDigits_le n (u / 10) (by omega)
      simp
      omega

theorem itoa_le (c : Int) (h0 : 0 ≤ c) : (Lib.itoa c).length ≤ c.toNat + 1 := by
  unfold Lib.itoa
  rw [if_neg (by omega)]
  exact decDigits_le _ _ (Nat.le_refl _)
end Go.Proofs.YtbdlobmciemadaaDoor
