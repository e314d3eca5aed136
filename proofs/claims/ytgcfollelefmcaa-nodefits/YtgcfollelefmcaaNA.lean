/- Blocks of three and of four cells: what stores into them need, and what lies there behind them; the walks of node.nothing, node.number. No condition but those that each row names. -/
import Derived.Test.YtgcfollelefmcaaSlD
import Derived.Deep.RegionHeld3
import Derived.Deep.DrawnRows
import Derived.BigQuiet
namespace Go.Proofs.Ytgcfollelefmcaa
open Go.ChangeShapes Go.WideShapes Go.ChangeAt Go.RowKit

theorem ready3 {W : World} {b : Nat} {c0 c1 c2 : Value} {t : TypeId} (h0 : W.heap[b]? = some (.cells #[c0, c1, c2] t)) (v0 v1 v2 : Value) :
    (W.cell? ⟨b, 0, none⟩ = some c0 ∧ W.frozen? ⟨b, 0, none⟩ = false) ∧
    ((W.setCell ⟨b, 0, none⟩ v0).cell? ⟨b, 1, none⟩ = some c1 ∧ (W.setCell ⟨b, 0, none⟩ v0).frozen? ⟨b, 1, none⟩ = false) ∧
    (((W.setCell ⟨b, 0, none⟩ v0).setCell ⟨b, 1, none⟩ v1).cell? ⟨b, 2, none⟩ = some c2 ∧ ((W.setCell ⟨b, 0, none⟩ v0).setCell ⟨b, 1, none⟩ v1).frozen? ⟨b, 2, none⟩ = false) ∧
    (((W.setCell ⟨b, 0, none⟩ v0).setCell ⟨b, 1, none⟩ v1).setCell ⟨b, 2, none⟩ v2).heap[b]? = some (.cells #[v0, v1, v2] t) := by
  have h1 : (W.setCell ⟨b, 0, none⟩ v0).heap[b]? = some (.cells #[v0, c1, c2] t) := by rw [heap_setCell_same _ b 0 _ _ _ h0]; rfl
  have h2 : ((W.setCell ⟨b, 0, none⟩ v0).setCell ⟨b, 1, none⟩ v1).heap[b]? = some (.cells #[v0, v1, c2] t) := by rw [heap_setCell_same _ b 1 _ _ _ h1]; rfl
  have h3 : (((W.setCell ⟨b, 0, none⟩ v0).setCell ⟨b, 1, none⟩ v1).setCell ⟨b, 2, none⟩ v2).heap[b]? = some (.cells #[v0, v1, v2] t) := by rw [heap_setCell_same _ b 2 _ _ _ h2]; rfl
  exact ⟨⟨by rw [cell_of_row _ b 0 _ _ _ h0]; rfl, frozen_of_row _ b 0 _ _ h0⟩, ⟨by rw [cell_of_row _ b 1 _ _ _ h1]; rfl, frozen_of_row _ b 1 _ _ h1⟩, ⟨by rw [cell_of_row _ b 2 _ _ _ h2]; rfl, frozen_of_row _ b 2 _ _ h2⟩, h3⟩

theorem cells3 {W : World} {b : Nat} {c0 c1 c2 : Value} {t : TypeId} (h : W.heap[b]? = some (.cells #[c0, c1, c2] t)) :
    W.cell? ⟨b, 0, none⟩ = some c0 ∧ W.cell? ⟨b, 1, none⟩ = some c1 ∧ W.cell? ⟨b, 2, none⟩ = some c2 :=
  ⟨by rw [cell_of_row _ b 0 _ _ _ h]; rfl, by rw [cell_of_row _ b 1 _ _ _ h]; rfl, by rw [cell_of_row _ b 2 _ _ _ h]; rfl⟩

theorem others3 (W : World) {b k : Nat} (h : k ≠ b) (v0 v1 v2 : Value) : (((W.setCell ⟨b, 0, none⟩ v0).setCell ⟨b, 1, none⟩ v1).setCell ⟨b, 2, none⟩ v2).heap[k]? = W.heap[k]? := by
  rw [heap_setCell_other _ ⟨b, 2, none⟩ k _ h, heap_setCell_other _ ⟨b, 1, none⟩ k _ h, heap_setCell_other _ ⟨b, 0, none⟩ k _ h]

theorem ready4 {W : World} {b : Nat} {c0 c1 c2 c3 : Value} {t : TypeId} (h0 : W.heap[b]? = some (.cells #[c0, c1, c2, c3] t)) (v0 v1 v2 v3 : Value) :
    (W.cell? ⟨b, 0, none⟩ = some c0 ∧ W.frozen? ⟨b, 0, none⟩ = false) ∧
    ((W.setCell ⟨b, 0, none⟩ v0).cell? ⟨b, 1, none⟩ = some c1 ∧ (W.setCell ⟨b, 0, none⟩ v0).frozen? ⟨b, 1, none⟩ = false) ∧
    (((W.setCell ⟨b, 0, none⟩ v0).setCell ⟨b, 1, none⟩ v1).cell? ⟨b, 2, none⟩ = some c2 ∧ ((W.setCell ⟨b, 0, none⟩ v0).setCell ⟨b, 1, none⟩ v1).frozen? ⟨b, 2, none⟩ = false) ∧
    ((((W.setCell ⟨b, 0, none⟩ v0).setCell ⟨b, 1, none⟩ v1).setCell ⟨b, 2, none⟩ v2).cell? ⟨b, 3, none⟩ = some c3 ∧ (((W.setCell ⟨b, 0, none⟩ v0).setCell ⟨b, 1, none⟩ v1).setCell ⟨b, 2, none⟩ v2).frozen? ⟨b, 3, none⟩ = false) ∧
    ((((W.setCell ⟨b, 0, none⟩ v0).setCell ⟨b, 1, none⟩ v1).setCell ⟨b, 2, none⟩ v2).setCell ⟨b, 3, none⟩ v3).heap[b]? = some (.cells #[v0, v1, v2, v3] t) := by
  have h1 : (W.setCell ⟨b, 0, none⟩ v0).heap[b]? = some (.cells #[v0, c1, c2, c3] t) := by rw [heap_setCell_same _ b 0 _ _ _ h0]; rfl
  have h2 : ((W.setCell ⟨b, 0, none⟩ v0).setCell ⟨b, 1, none⟩ v1).heap[b]? = some (.cells #[v0, v1, c2, c3] t) := by rw [heap_setCell_same _ b 1 _ _ _ h1]; rfl
  have h3 : (((W.setCell ⟨b, 0, none⟩ v0).setCell ⟨b, 1, none⟩ v1).setCell ⟨b, 2, none⟩ v2).heap[b]? = some (.cells #[v0, v1, v2, c3] t) := by rw [heap_setCell_same _ b 2 _ _ _ h2]; rfl
  have h4 : ((((W.setCell ⟨b, 0, none⟩ v0).setCell ⟨b, 1, none⟩ v1).setCell ⟨b, 2, none⟩ v2).setCell ⟨b, 3, none⟩ v3).heap[b]? = some (.cells #[v0, v1, v2, v3] t) := by rw [heap_setCell_same _ b 3 _ _ _ h3]; rfl
  exact ⟨⟨by rw [cell_of_row _ b 0 _ _ _ h0]; rfl, frozen_of_row _ b 0 _ _ h0⟩, ⟨by rw [cell_of_row _ b 1 _ _ _ h1]; rfl, frozen_of_row _ b 1 _ _ h1⟩, ⟨by rw [cell_of_row _ b 2 _ _ _ h2]; rfl, frozen_of_row _ b 2 _ _ h2⟩, ⟨by rw [cell_of_row _ b 3 _ _ _ h3]; rfl, frozen_of_row _ b 3 _ _ h3⟩, h4⟩

theorem cells4 {W : World} {b : Nat} {c0 c1 c2 c3 : Value} {t : TypeId} (h : W.heap[b]? = some (.cells #[c0, c1, c2, c3] t)) :
    W.cell? ⟨b, 0, none⟩ = some c0 ∧ W.cell? ⟨b, 1, none⟩ = some c1 ∧ W.cell? ⟨b, 2, none⟩ = some c2 ∧ W.cell? ⟨b, 3, none⟩ = some c3 :=
  ⟨by rw [cell_of_row _ b 0 _ _ _ h]; rfl, by rw [cell_of_row _ b 1 _ _ _ h]; rfl, by rw [cell_of_row _ b 2 _ _ _ h]; rfl, by rw [cell_of_row _ b 3 _ _ _ h]; rfl⟩

theorem others4 (W : World) {b k : Nat} (h : k ≠ b) (v0 v1 v2 v3 : Value) : ((((W.setCell ⟨b, 0, none⟩ v0).setCell ⟨b, 1, none⟩ v1).setCell ⟨b, 2, none⟩ v2).setCell ⟨b, 3, none⟩ v3).heap[k]? = W.heap[k]? := by
  rw [heap_setCell_other _ ⟨b, 3, none⟩ k _ h, heap_setCell_other _ ⟨b, 2, none⟩ k _ h, heap_setCell_other _ ⟨b, 1, none⟩ k _ h, heap_setCell_other _ ⟨b, 0, none⟩ k _ h]



/-- A block of four cells. -/
structure C4 (w : World) (b : Nat) (t : TypeId) (a0 a1 a2 a3 : Value) : Prop where
  out : w.heap[b]? = some (.cells #[a0, a1, a2, a3] t)
/-- A block of three cells. -/
structure C3 (w : World) (b : Nat) (t : TypeId) (a0 a1 a2 : Value) : Prop where
  out : w.heap[b]? = some (.cells #[a0, a1, a2] t)
theorem C4.kept {w w' : World} {b : Nat} {t : TypeId} {a0 a1 a2 a3 : Value} (k : C4 w b t a0 a1 a2 a3) (h : Kept w w') : C4 w' b t a0 a1 a2 a3 := ⟨h.block k.out⟩
theorem C3.kept {w w' : World} {b : Nat} {t : TypeId} {a0 a1 a2 : Value} (k : C3 w b t a0 a1 a2) (h : Kept w w') : C3 w' b t a0 a1 a2 := ⟨h.block k.out⟩
theorem C4.alloc (w : World) (t : TypeId) (a0 a1 a2 a3 : Value) : C4 (w.alloc (.cells #[a0, a1, a2, a3] t)) w.heap.size t a0 a1 a2 a3 := ⟨heap_alloc_new w _⟩
theorem C3.alloc (w : World) (t : TypeId) (a0 a1 a2 : Value) : C3 (w.alloc (.cells #[a0, a1, a2] t)) w.heap.size t a0 a1 a2 := ⟨heap_alloc_new w _⟩
theorem C4.drew {w : World} {b : Nat} {t : TypeId} {a0 a1 a2 a3 : Value} (k : C4 w b t a0 a1 a2 a3) : C4 w.drew b t a0 a1 a2 a3 := ⟨k.out⟩
theorem C3.drew {w : World} {b : Nat} {t : TypeId} {a0 a1 a2 : Value} (k : C3 w b t a0 a1 a2) : C3 w.drew b t a0 a1 a2 := ⟨k.out⟩
theorem C4.cs {w : World} {b : Nat} {t : TypeId} {a0 a1 a2 a3 : Value} (k : C4 w b t a0 a1 a2 a3) : w.cell? ⟨b, 0, none⟩ = some a0 ∧ w.cell? ⟨b, 1, none⟩ = some a1 ∧ w.cell? ⟨b, 2, none⟩ = some a2 ∧ w.cell? ⟨b, 3, none⟩ = some a3 := cells4 k.out
theorem C3.cs {w : World} {b : Nat} {t : TypeId} {a0 a1 a2 : Value} (k : C3 w b t a0 a1 a2) : w.cell? ⟨b, 0, none⟩ = some a0 ∧ w.cell? ⟨b, 1, none⟩ = some a1 ∧ w.cell? ⟨b, 2, none⟩ = some a2 := cells3 k.out
theorem C4.fz {w : World} {b : Nat} {t : TypeId} {a0 a1 a2 a3 : Value} (k : C4 w b t a0 a1 a2 a3) (j : Nat) : w.frozen? ⟨b, j, none⟩ = false := frozen_of_row w b j _ _ k.out
theorem C3.fz {w : World} {b : Nat} {t : TypeId} {a0 a1 a2 : Value} (k : C3 w b t a0 a1 a2) (j : Nat) : w.frozen? ⟨b, j, none⟩ = false := frozen_of_row w b j _ _ k.out
theorem C4.lt {w : World} {b : Nat} {t : TypeId} {a0 a1 a2 a3 : Value} (k : C4 w b t a0 a1 a2 a3) : b < w.heap.size := (Array.getElem?_eq_some_iff.1 k.out).1
theorem C3.lt {w : World} {b : Nat} {t : TypeId} {a0 a1 a2 : Value} (k : C3 w b t a0 a1 a2) : b < w.heap.size := (Array.getElem?_eq_some_iff.1 k.out).1
theorem C4.far {w : World} {b : Nat} {t : TypeId} {a0 a1 a2 a3 : Value} (k : C4 w b t a0 a1 a2 a3) (a : Addr) (v : Value) (h : b ≠ a.block) : C4 (w.setCell a v) b t a0 a1 a2 a3 := ⟨(heap_setCell_other w a b v h).trans k.out⟩
theorem C3.far {w : World} {b : Nat} {t : TypeId} {a0 a1 a2 : Value} (k : C3 w b t a0 a1 a2) (a : Addr) (v : Value) (h : b ≠ a.block) : C3 (w.setCell a v) b t a0 a1 a2 := ⟨(heap_setCell_other w a b v h).trans k.out⟩
theorem C4.grown {w w' : World} {r : Option Nat} {b : Nat} {t : TypeId} {a0 a1 a2 a3 : Value} (k : C4 w b t a0 a1 a2 a3) (h : w.grownBy w' r) (hb : some b ≠ r) : C4 w' b t a0 a1 a2 a3 := ⟨(h.block b k.lt hb).trans k.out⟩
theorem C3.grown {w w' : World} {r : Option Nat} {b : Nat} {t : TypeId} {a0 a1 a2 : Value} (k : C3 w b t a0 a1 a2) (h : w.grownBy w' r) (hb : some b ≠ r) : C3 w' b t a0 a1 a2 := ⟨(h.block b k.lt hb).trans k.out⟩
theorem Kept.set {w W : World} (h : Kept w W) {a : Addr} (ha : w.heap.size ≤ a.block) (v : Value) : Kept w (W.setCell a v) := ⟨h.out.setCell ha v⟩

theorem size27 : (Try.prog.info? 27).map (·.size) = some 4 := by kernel_rfl
theorem size49 : (Try.prog.info? 49).map (·.size) = some 3 := by kernel_rfl
theorem size37 : (Try.prog.info? 37).map (·.size) = some 4 := by kernel_rfl

theorem results_three {P : Program} {fn : Func} {p q u : Tmp} {ty tz : TypeId} (h : fn.results = #[.cell p ty, .cell q tz, .tmp u]) (tmps : Array Value) (w : World) (g k : Nat) (t s : TypeId) (cs ds : Array Value) (fr fs : Nat × Nat) (d d' : TypeDesc)
    (hp : tmps.getD p undef = .pointer (some ⟨g, 0, none⟩)) (hg : w.heap[g]? = some (.cells cs t fr)) (hu : P.underlying ty = some d) (hd : (match d with | .struct _ | .array _ _ => true | _ => false) = true) (hi : (P.info? ty).map (·.size) = some cs.size)
    (hq : tmps.getD q undef = .pointer (some ⟨k, 0, none⟩)) (hk : w.heap[k]? = some (.cells ds s fs)) (hu' : P.underlying tz = some d') (hd' : (match d' with | .struct _ | .array _ _ => true | _ => false) = true) (hi' : (P.info? tz).map (·.size) = some ds.size) :
    (results fn tmps).run P w = .ok (.tuple #[.agg cs, .agg ds, tmps.getD u undef]) w := by
  have hp' : tmps[p]?.getD undef = .pointer (some ⟨g, 0, none⟩) := by rw [← hp]; simp
  have hq' : tmps[q]?.getD undef = .pointer (some ⟨k, 0, none⟩) := by rw [← hq]; simp
  simp only [results, h]
  simp [Sem.run_bind, Result.andThen, hp', hq', asAddr, run_loadVar_row w g t ty cs fr d hg hu hd hi, run_loadVar_row w k s tz ds fs d' hk hu' hd' hi']

theorem nothing_walk (w : World) : Calls Try.prog 47 #[] w fun e w' => e = .returned (.agg #[.string ⟨#[]⟩, .int .i64 (-1), .int .i64 0]) ∧ Kept w w' := by
  go_enter Try.func47, Try.ntmps47
  go_wp2
  refine bodyPost_ret (v := .agg #[.string ⟨#[]⟩, .int .i64 (-1), .int .i64 0]) ?_ rfl ⟨rfl, ?_⟩
  · exact results_cell_row (p := 0) rfl _ _ w.heap.size 49 #[.string ⟨#[]⟩, .int .i64 (-1), .int .i64 0] (0, 0) _ rfl (heap_alloc_new w _) Try.underlying49 rfl size49
  · exact (Kept.refl w).alloc _

theorem number_walk (n : Nat) (hn : n < 9223372036854775808) (w : World) : Calls Try.prog 29 #[.int .i64 (n : Nat)] w fun e w' => e = .returned (.string (bs (numL n))) ∧ Kept w w' := by
  have h := num_walk n (by omega)
  have u1 : IntKind.u64.wrap (n : Int) = (n : Int) := by rw [IntKind.wrap_u64]; omega
  go_enter Try.func29, Try.ntmps29
  go_wp2_with (go_at_call 58; refine (h _).mono ?_; rintro e w1 ⟨rfl, hk⟩)
  go_ret
  exact ⟨rfl, hk⟩
end Go.Proofs.Ytgcfollelefmcaa
