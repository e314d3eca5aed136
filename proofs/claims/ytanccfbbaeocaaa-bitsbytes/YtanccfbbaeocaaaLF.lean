/- The walks of merge and of Or, And, Less. Conditions: those that each row names. -/
import Derived.Test.YtanccfbbaeocaaaLCb
import Derived.Test.YtanccfbbaeocaaaLDb
import Derived.Test.YtanccfbbaeocaaaLE
namespace Go.Proofs.Ytanccfbbaeocaaa.Bt
open Go.RowKit Go.Shelf
attribute [local go_sem] Oper.semAt_some

theorem size25 : (Try.prog.info? 25).map (·.size) = some 1 := by kernel_rfl
theorem shape_of {W : World} {B : Nat} {e : TypeId} {sz : Nat} {v : Value} {k : Nat} {cs : List Value} (h : W.ownsRow B e sz v k cs) : ∃ p c, v = .slice p k c := by
  rcases h.2 with ⟨rfl, rfl⟩ | ⟨g, cap, cur, rfl, _⟩
  · exact ⟨_, _, rfl⟩
  · exact ⟨_, _, rfl⟩
theorem tkm_some {f : Nat → Nat → Nat} {x : Pr} {k a b v : Nat} (h : md x = (k, a, b)) (hv : v = f a b) (h0 : v ≠ 0) : tkm f x = [(k, v)] := by
  unfold tkm tk; rw [h]; simp only; rw [← hv, if_neg h0]
theorem tkm_none {f : Nat → Nat → Nat} {x : Pr} {k a b : Nat} (h : md x = (k, a, b)) (hv : f a b = 0) : tkm f x = [] := by
  unfold tkm tk; rw [h]; simp only; rw [hv, if_pos rfl]

set_option maxHeartbeats 400000 in
theorem beside_walk (u v : Value) (w : World) : Calls Try.prog 46 #[.agg #[u], .agg #[v]] w fun e w' => e = .returned (.func (.func 58) #[] #[.pointer (some ⟨w.heap.size, 0, none⟩), .pointer (some ⟨w.heap.size + 1, 0, none⟩)]) ∧ w' = (w.alloc (.cells #[u] 25)).alloc (.cells #[v] 25) := by
  go_enter Try.func46, Try.ntmps46
  go_wp2
  go_ret
  exact ⟨rfl, rfl⟩
end Go.Proofs.Ytanccfbbaeocaaa.Bt
