/- Slices of rows: declarations, E's. Conditions: the bounds are met. -/
import Derived.Test.YtgdafolidifdoaaDoorIP
import Derived.Test.YtgdafolidifdoaaDoorIK
namespace Go.Proofs.YtgdafolidifdoaaDoor.Tp
open Go.ChangeShapes Go.WideShapes Go.ChangeAt Go.RowKit

theorem elemD : Tryd.prog.elem 23 = 44 := by kernel_rfl
theorem elemE : Tryd.prog.elem 22 = 32 := by kernel_rfl
theorem ulD : Tryd.prog.underlying 23 = some (.slice (Tryd.prog.elem 23)) := by rw [elemD]; exact Tryd.underlying23
theorem ulE : Tryd.prog.underlying 22 = some (.slice (Tryd.prog.elem 22)) := by rw [elemE]; exact Tryd.underlying22
theorem one_slice (b o n c i : Nat) (hi : i < c) (W : World) : (Instr.sliceAt 23 (.slice (some ⟨b, o, none⟩) n c) (some (.int .i64 (i : Nat))) (some (.int .i64 ((i : Int) + 1))) none).run Tryd.prog W = .ok (.slice (some ⟨b, o + i * 3, none⟩) 1 (c - i)) W := by
  rw [run_sliceAt_slice _ _ _ _ _ _ ulD, run_slice_lh _ _ _ _ _ ulD _ _ _ _ (by omega) (by omega) (by omega), elemD, Tryd.sizeOf44 W]
  simp only [Result.andThen, sliced, Int.toNat_natCast]
  rw [if_neg (by omega), show ((i : Int) + 1).toNat - i = 1 by omega]
  simp [Addr.add_lit]
theorem head_slice (b o n c i : Nat) (hi : i ≤ c) (W : World) : (Instr.sliceAt 23 (.slice (some ⟨b, o, none⟩) n c) none (some (.int .i64 (i : Nat))) none).run Tryd.prog W = .ok (.slice (some ⟨b, o, none⟩) i c) W := by
  rw [run_sliceAt_slice _ _ _ _ _ _ ulD, run_slice_h _ _ _ _ _ ulD _ _ (by omega) (by omega), elemD, Tryd.sizeOf44 W]
  simp only [Result.andThen, sliced, Int.toNat_natCast, Nat.sub_zero]
  split <;> simp [Addr.add_lit]
theorem tail_slice (b o n c i : Nat) (hi : i ≤ n) (W : World) : ∃ q, (Instr.sliceAt 22 (.slice (some ⟨b, o, none⟩) n c) (some (.int .i64 (i : Nat))) none none).run Tryd.prog W = .ok (.slice (some q) (n - i) (c - i)) W ∧ (i < c → q = ⟨b, o + i * 6, none⟩) := by
  rw [run_sliceAt_slice _ _ _ _ _ _ ulE, run_slice_l _ _ _ _ _ ulE _ _ (by omega) (by omega), elemE, Tryd.sizeOf32 W]
  simp only [Result.andThen, sliced, Int.toNat_natCast]
  by_cases h : c = i
  · exact ⟨⟨b, o, none⟩, by rw [if_pos h], fun h2 => by omega⟩
  · exact ⟨⟨b, o + i * 6, none⟩, by rw [if_neg h]; simp [Addr.add_lit], fun _ => rfl⟩
theorem Dl.one {W : World} {b o n c : Nat} {ds : List Dc} (h : Dl W (some ⟨b, o, none⟩) n c ds) {i : Nat} {d : Dc} (hd : ds[i]? = some d) : Dl W (some ⟨b, o + i * 3, none⟩) 1 (c - i) [d] := by
  have hi := (List.getElem?_eq_some_iff.1 hd).1
  have h1 := h.len
  have h2 := h.le
  have h3 := h.cap
  refine ⟨rfl, by omega, by omega, ⟨.inr ?_⟩⟩
  rcases h.rw_.out with e | ⟨b', o', cur, t, fz, e, hg, t1, t2, f⟩
  · omega
  · injection e with e
    injection e with e1 e2 _
    subst e1
    subst e2
    refine ⟨b, o + i * 3, cur, t, fz, rfl, hg, t1, t2, fun j v hv => ?_⟩
    have hj : j < 3 := (List.getElem?_eq_some_iff.1 hv).1
    rw [Nat.add_assoc]
    refine f _ _ ((flat_at dcc 3 (fun _ => rfl) ds i d hd j hj).trans ?_)
    simpa [List.flatMap_cons] using hv
theorem Dl.head {W : World} {p : Option Addr} {n c : Nat} {ds : List Dc} (h : Dl W p n c ds) (i : Nat) (hi : i ≤ n) : Dl W p i c (ds.take i) := by
  have h1 := h.len
  have h2 := h.le
  refine ⟨by rw [List.length_take]; omega, by omega, h.cap, ⟨?_⟩⟩
  rcases h.rw_.out with e | ⟨b', o', cur, t, fz, e, hg, t1, t2, f⟩
  · exact .inl (by omega)
  · refine .inr ⟨b', o', cur, t, fz, e, hg, t1, t2, fun j v hv => f j v ?_⟩
    have e2 : ds.flatMap dcc = (ds.take i).flatMap dcc ++ (ds.drop i).flatMap dcc := by rw [← List.flatMap_append, List.take_append_drop]
    rw [e2, List.getElem?_append_left (List.getElem?_eq_some_iff.1 hv).1]
    exact hv
theorem Es.tail {W : World} {b o n c : Nat} {l : List Ev} (h : Es W (some ⟨b, o, none⟩) n c l) (i : Nat) (hi : i ≤ n) {q : Addr} (hq : i < c → q = ⟨b, o + i * 6, none⟩) : Es W (some q) (n - i) (c - i) (l.drop i) := by
  have h1 := h.len
  have h2 := h.le
  have h3 := h.cap
  refine ⟨by rw [List.length_drop]; omega, by omega, by omega, fun j e he => ?_, ?_⟩
  · rw [List.getElem?_drop] at he
    exact h.ok _ e he
  · rcases Nat.eq_zero_or_pos (n - i) with h0 | h0
    · exact .inl h0
    · obtain rfl := hq (by omega)
      rcases h.out with e | ⟨b', o', e, f⟩
      · omega
      · injection e with e
        injection e with e1 e2 _
        subst e1
        subst e2
        refine .inr ⟨b, o + i * 6, rfl, fun j x hx q v hv => ?_⟩
        rw [List.getElem?_drop] at hx
        have := f (i + j) x hx q v hv
        rwa [show o + (i + j) * 6 + q = o + i * 6 + j * 6 + q by omega] at this
end Go.Proofs.YtgdafolidifdoaaDoor.Tp
