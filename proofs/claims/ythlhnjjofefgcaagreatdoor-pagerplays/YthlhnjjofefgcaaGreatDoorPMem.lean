/- Memory: all blocks that were there are as they were; texts of a slice of one's own and of one byte. No condition but those that each row names. -/
import Derived.Test.YthlhnjjofefgcaaGreatDoorPBytes
import Derived.WalkSpells
import Derived.BigQuiet
import Derived.Deep.RegionWith
import Derived.Deep.LoopGhost
import Derived.Below
namespace Go.Proofs.YthlhnjjofefgcaaGreatDoor.P
open Go.ChangeShapes Go.WideShapes Go.ChangeAt Go.RowKit

/-- All blocks that were there are as they were. -/
structure Kept (w w' : World) : Prop where
  out : Below w.heap.size w w'

theorem Kept.refl (w : World) : Kept w w := ⟨Below.refl _ _⟩
theorem Kept.trans {a b c : World} (h : Kept a b) (k : Kept b c) : Kept a c := ⟨h.out.trans (k.out.mono h.out.size)⟩
theorem Kept.drew {a b : World} (h : Kept a b) : Kept a b.drew := ⟨h.out.drew⟩
theorem Kept.alloc {a b : World} (h : Kept a b) (o : Obj) : Kept a (b.alloc o) := ⟨h.out.alloc h.out.size o⟩
theorem Kept.block {w w' : World} (h : Kept w w') {k : Nat} {o : Obj} (hk : w.heap[k]? = some o) : w'.heap[k]? = some o :=
  (h.out.block k (Array.getElem?_eq_some_iff.1 hk).1).trans hk
theorem Kept.size {w w' : World} (h : Kept w w') : w.heap.size ≤ w'.heap.size := h.out.size

theorem info5 : (Tryz.prog.info? 5).map (fun i => (i.zero, i.size, i.bytes)) = some (some (.int .u8 0), 1, 1) := by kernel_rfl

theorem below_own {w wx w1 : World} {v : Value} {n : Nat} {xs : List Value} {e : Nat} (hk : Kept w wx) (hown : wx.ownsRow w.heap.size e 1 v n xs) {W : World} (hW : Kept wx W) (hg : W.grownBy w1 v.ownBlock) : Kept w w1 :=
  ⟨((hk.trans hW).out).grown hg (hk.trans hW).size (fun k h => (hown.lt k h).1)⟩

theorem owns_shape {w : World} {base e size : Nat} {v : Value} {n : Nat} {xs : List Value} (h : w.ownsRow base e size v n xs) : ∃ p cap, v = .slice p n cap := by
  rcases h.2 with ⟨rfl, rfl⟩ | ⟨g, cap, cur, rfl, _⟩
  · exact ⟨_, _, rfl⟩
  · exact ⟨_, _, rfl⟩

/-- Bytes as cells. -/
def cellsOf (l : List Nat) : List Value := l.map fun x : Nat => Value.int .u8 (Int.ofNat x)

theorem strOf (l : List Nat) : strOfNums (l.map fun x : Nat => (x : Int)) = bs l := by
  unfold strOfNums bs
  simp [List.map_map, Function.comp_def]

/-- The text of bytes of one's own. -/
theorem own_text {w : World} {base : Nat} {v : Value} {l : List Nat} (h : w.ownsRow base 5 1 v l.length (cellsOf l)) :
    (convert 63 9 v).run Tryz.prog w = .ok (.string (bs l)) w := by
  rcases h.2 with ⟨rfl, hn⟩ | ⟨g, cap, cur, rfl, _⟩
  · have : l = [] := by simpa [cellsOf] using hn
    subst this
    rw [run_convert_bytes_nil w 63 5 Tryz.underlying63 Tryz.underlying5 _ _ 9 Tryz.underlying9]
    rfl
  · rw [run_convert_bytes_arg w 63 5 Tryz.underlying63 Tryz.underlying5 g 0 l.length cap (l.map fun x : Nat => (x : Int)) (by simp) (fun i hi => ?_) 9 Tryz.underlying9, strOf]
    have := h.cellAt i (by omega)
    rw [Nat.zero_add, this]
    simp [cellsOf, List.getD, hi]

/-- The text of one byte. -/
theorem one_text (w : World) (x : Int) (h0 : 0 ≤ x) (t : TypeId) :
    (convert 63 9 (.slice (some ⟨w.heap.size, 0, none⟩) 1 1)).run Tryz.prog (w.alloc (.cells #[.int .u8 x] t)) = .ok (.string (bs [x.toNat])) (w.alloc (.cells #[.int .u8 x] t)) := by
  rw [run_convert_bytes_arg _ 63 5 Tryz.underlying63 Tryz.underlying5 w.heap.size 0 1 1 [x] rfl (fun i hi => ?_) 9 Tryz.underlying9]
  · have : strOfNums [x] = bs [x.toNat] := by rw [← strOf]; simp; congr 1; simp; omega
    rw [this]
  · obtain rfl : i = 0 := by omega
    simp

theorem one_cell (w : World) (x : Value) (t : TypeId) : ∀ (j : Nat) (u : Value), [x][j]? = some u → (w.alloc (.cells #[x] t)).cell? ((⟨w.heap.size, 0, none⟩ : Addr).add j) = some u := by
  intro j u hj
  match j, hj with
  | 0, hj =>
    simp at hj; subst hj
    simp only [Addr.add, if_true]
    rw [World.cell?_alloc_at _ _ _ _ (by simp)]
    rfl

theorem one_one (k : IntKind) (x : Int) : ∀ u ∈ [Value.int k x], u.oneCell' = true := by
  intro u hu; simp at hu; subst hu; rfl

end Go.Proofs.YthlhnjjofefgcaaGreatDoor.P
